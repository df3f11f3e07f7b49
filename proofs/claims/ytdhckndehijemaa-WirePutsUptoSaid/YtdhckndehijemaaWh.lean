/-
  putList of texts: protocols.
-/
import Derived.Test.YtdhckndehijemaaWf
namespace Go.Proofs.Ytdhckndehijemaa
open Go.RowKit
set_option linter.unusedVariables false
set_option maxRecDepth 100000

set_option maxHeartbeats 6400000 in
theorem putP_any (r size least most : Nat) (a b c : Int) (ha : a = size) (hb : b = least) (hc : c = most) (hs : 0 < size) (hs3 : size ≤ 3) (vl : Value) (l : List (Ty.str).Dat) (v : Value) (no : Bool) (xs : List Int) (w : World) (h : WM w r v no xs)
    (hl : Rel (.lst (.str)) (Fa r v w) w [vl] l) (hx : xs.length ≤ 990000000000) (hel : ∀ a ∈ l, List.length (α := Int) a ≤ 140737488355328) :
    Calls Try.prog 220 #[.pointer (some ⟨r, 0, none⟩), .agg #[.int .i64 a, .int .i64 b, .int .i64 c], vl, .func (.func 222) #[] #[]] w fun e w' => ∃ v' no' ys, e = .returned (.tuple #[]) ∧ WQ (wList size least most (wProt)) (16777300 + 16777301) r v w w' v' no no' xs ys l := by
  subst ha hb hc
  obtain ⟨w1, hw1⟩ : ∃ w1, w1 = w.alloc (.cells #[.int .i64 size, .int .i64 least, .int .i64 most] 231) := ⟨_, rfl⟩
  have c1 : Chg Non w w1 := by rw [hw1]; exact (Chg.refl _ _).alloc _
  have hB : w1.heap[w.heap.size]? = some (.cells #[.int .i64 size, .int .i64 least, .int .i64 most] 231) := by rw [hw1]; exact heap_alloc_last w _
  have HB : Hid (w1.heap[w.heap.size]? = some (.cells #[.int .i64 size, .int .i64 least, .int .i64 most] 231) ∧ r < w.heap.size ∧ Chg Non w w1 ∧ ∀ k, v.ownBlock = some k → k < w.heap.size) := ⟨hB, h.lt, c1, fun k e => h.own.lt k e⟩
  have HW1 : Hid (w1 = w.alloc (.cells #[.int .i64 size, .int .i64 least, .int .i64 most] 231)) := hw1
  have HS : Hid (0 < size ∧ size ≤ 3 ∧ 256 ^ size ≤ 16777216) := ⟨hs, hs3, pow_le3 hs3⟩
  have HEL : Hid (∀ a ∈ l, List.length (α := Int) a ≤ 140737488355328) := hel
  clear hel
  have HX : Hid (xs.length ≤ 990000000000) := hx
  obtain ⟨y0, y1, y2⟩ := cell3 hB
  obtain ⟨aol, N, cl, hvl, hN⟩ : ∃ ao n c, vl = .slice ao n c ∧ n = l.length := by
    obtain ⟨ao, n, c, e, h1, -⟩ := hl
    injection e with e
    exact ⟨ao, n, c, e, h1⟩
  subst hvl
  have HL : Hid (Rel (.lst (.str)) (Fa r v w) w [.slice aol N cl] l ∧ N = l.length) := ⟨hl, hN⟩
  have HM : Hid (WM w1 r v no xs) := h.non c1
  obtain ⟨D, hD⟩ : ∃ D, D = decide ((least ≤ N) ∧ (N ≤ most)) := ⟨_, rfl⟩
  have HD : Hid (D = decide ((least ≤ N) ∧ (N ≤ most))) := hD
  have hfit := fits_any size least most (N : Int) w1
  have hDe : decide (((least : Int) ≤ (N : Int)) ∧ ((N : Int) ≤ (most : Int))) = D := by rw [hD]; simp
  rw [hDe] at hfit
  clear h hl hx hs hs3 c1 hB hN hD hDe hw1
  go_enter Try.func220, Try.ntmps220
  go_wp2_with fail
  rw [← HW1.out]
  refine hfit.mono ?_
  rintro e w2 ⟨rfl, hc2⟩
  have hun := unless_any r D v no xs w2 (HM.out.non hc2)
  have C2 : Hid (Chg Non w1 w2) := hc2
  have hB2 : w2.heap[w.heap.size]? = some (.cells #[.int .i64 size, .int .i64 least, .int .i64 most] 231) := by rw [hc2.block _ (lt_somW HB.out.1) (fun q => q)]; exact HB.out.1
  clear hc2 hfit y0 y1 y2
  go_wp2_with (go_at_call 195; refine hun.mono ?_)
  rintro e w3 ⟨rfl, hp3⟩
  have hB3 : w3.heap[w.heap.size]? = some (.cells #[.int .i64 size, .int .i64 least, .int .i64 most] 231) := by
    rw [hp3.chg.block _ (lt_somW hB2) (fun q => by rcases q with q | q; have := HB.out.2.1; omega; have := HB.out.2.2.2 _ q; omega)]; exact hB2
  obtain ⟨y0, y1, y2⟩ := cell3 hB3
  have hdg := wdigits_any r size 0 (by have := HS.out.2.1; omega) (by decide) (by decide) v (no || !D) xs w3 hp3.wm (by have := HX.out; omega)
  have P3 : Hid (WP r v w w3 v (no || !D) xs ∧ w3.heap[w.heap.size]? = some (.cells #[.int .i64 size, .int .i64 least, .int .i64 most] 231)) := ⟨(hp3.ahead C2.out).ahead HB.out.2.2.1, hB3⟩
  clear hp3 hun hB2 hB3
  go_wp2_with (go_at_call 227; refine hdg.mono ?_)
  rintro e w4 ⟨v4, rfl, hp4⟩
  have hn4 := hp4.wm.own.rd.shape
  obtain ⟨ao4, n4, c4, rfl, hn4, -, -⟩ := hn4
  have P4 : Hid (WP r v w w4 (.slice ao4 n4 c4) (no || !D) (xs ++ putD size 0) ∧ n4 = xs.length + size ∧ w4.heap[w.heap.size]? = some (.cells #[.int .i64 size, .int .i64 least, .int .i64 most] 231)) := by
    refine ⟨P3.out.1.trans hp4, by rw [hn4, List.length_append, putD_len], ?_⟩
    rw [hp4.chg.block _ (lt_somW P3.out.2) (fun q => by rcases q with q | q; have := HB.out.2.1; omega; have := HB.out.2.2.2 _ q; omega)]
    exact P3.out.2
  obtain ⟨z0, z1, f0, f1⟩ := hp4.wm.facts
  obtain ⟨nk0, hnk0⟩ : ∃ nk0, nk0 = (no || !D) := ⟨_, rfl⟩
  rw [← hnk0] at z1
  have HN0 : Hid (nk0 = (no || !D)) := hnk0
  have hn4b : (n4 : Int) ≤ 990000000003 := by have := P4.out.2.1; have := HX.out; have := HS.out.2.1; omega
  clear hp4 hdg y0 y1 y2 hn4 hnk0
  go_wp2_with fail
  clear z0 z1 f0 f1
  go_loopw [30] (fun i wr => ∃ (k : Nat) (vr : Value) (nk : Bool) (body : List Int), k ≤ N ∧ i = .int .i64 k ∧ Hid (WP r v w wr vr nk (xs ++ putD size 0 ++ body) ∧ LW (wProt) 16777301 size least most no l k nk body ∧ wr.heap[w.heap.size]? = some (.cells #[.int .i64 size, .int .i64 least, .int .i64 most] 231) ∧ (∀ k, vr.ownBlock = some k → k ≠ w.heap.size)))
    (fun i _ => N - (intOf i).toNat)
  case atStart => exact ⟨0, .slice ao4 n4 c4, nk0, [], Nat.zero_le _, rfl, by
    show _ ∧ _
    refine ⟨by rw [HN0.out, List.append_nil]; exact P4.out.1, ?_, P4.out.2.2, fun k e q => ?_⟩
    · rw [HN0.out]; exact LW.start D (by rw [HD.out, HL.out.2]; rfl)
    · subst q
      have := P4.out.1.wm.own
      rcases P4.out.1.wm.own with ⟨e', -⟩ | ⟨g, off, n, cap, e', ho⟩
      · rw [e'] at e; cases e
      · obtain ⟨cur, hcu, -⟩ := ho.blk
        rw [e'] at e
        injection e with e
        have e2 : g = w.heap.size := e
        rw [e2, P4.out.2.2] at hcu
        injection hcu with hcu
        injection hcu with _ hcu
        cases hcu⟩
  case round =>
    obtain ⟨k, vr, nk, body, hk, rfl, hI⟩ := hrel
    obtain ⟨aor, nr, cr, rfl, hnr, -, -⟩ := hI.out.1.wm.own.rd.shape
    obtain ⟨z0, z1, f0, f1⟩ := hI.out.1.wm.facts
    have HNR : Hid (nr = xs.length + size + body.length) := by show _ = _; rw [hnr, List.length_append, List.length_append, putD_len]
    have hN4 : Hid (n4 = xs.length + size) := P4.out.2.1
    clear hnr
    by_cases hlt : k < N
    · obtain ⟨x, hx⟩ : ∃ x, l[k]? = some x := ⟨l[k]'(by rw [← HL.out.2]; exact hlt), List.getElem?_eq_getElem _⟩
      obtain ⟨b', o', c', e', q1, q2, -, q3⟩ := (HL.out.1.fa hI.out.1).at HL.out.2 (by omega) (by decide)
      injection e' with e1 e2 e3
      subst e1; subst e3
      obtain ⟨us, q4, q5⟩ := q3 k x hx
      have q6 := q4
      obtain ⟨rfl, -⟩ := q4
      obtain ⟨S, hS⟩ : ∃ S, S = strOfNums x := ⟨_, rfl⟩
      rw [← hS] at q5 q6
      have g0 : wr.cell? ⟨b', o' + k, none⟩ = some (.string S) := by simpa [Ty.sz] using q5 0 _ rfl
      clear hS
      have HXK : Hid (l[k]? = some x) := hx
      clear q3 q5 e2 hx
      cases nk with
      | true =>
        clear q6
        go_wp2
        refine bodyPost_ret (results_none rfl _ _ _) rfl ?_
        refine ⟨_, true, putD size 0 ++ body, rfl, ⟨by rw [← List.append_assoc]; exact hI.out.1, fun _ => rfl, fun e => ?_, ?_⟩⟩
        · rcases hI.out.2.1.no rfl with h | h
          · rw [e] at h; cases h
          · exact .inl ⟨h, rfl⟩
        · have h1 := hI.out.2.1.len
          have h2 := HS.out.2.2
          have h3 := HS.out.2.1
          rw [List.length_append, putD_len]
          omega
      | false =>
        have hbl := (hI.out.2.1.ok rfl).2.2.2
        have hp := wprot_any r S x (.slice aor nr cr) false (xs ++ putD size 0 ++ body) wr hI.out.1.wm q6 (by rw [List.length_append, List.length_append, putD_len]; have := HX.out; have := HS.out.2.1; have := HS.out.2.2; omega) (HEL.out x (List.mem_of_getElem? HXK.out))
        clear q6 hbl
        go_wp2_with (go_at_call 222; refine hp.mono ?_)
        rintro e w5 ⟨v5, n5, ys, rfl, hq⟩
        obtain ⟨ao5, m5, c5, rfl, hm5, -, -⟩ := hq.wp.wm.own.rd.shape
        have HQ : Hid (WQ (wProt) 16777301 r (.slice aor nr cr) wr w5 (.slice ao5 m5 c5) false n5 (xs ++ putD size 0 ++ body) ys x) := hq
        have hm5' : m5 = n4 + (body ++ ys).length := by rw [hm5, hN4.out]; simp [putD_len]; omega
        have hB5 : w5.heap[w.heap.size]? = some (.cells #[.int .i64 size, .int .i64 least, .int .i64 most] 231) := by
          rw [hq.wp.chg.block _ (lt_somW hI.out.2.2.1) (fun q => by rcases q with q | q; have := HB.out.2.1; omega; exact hI.out.2.2.2 _ q rfl)]; exact hI.out.2.2.1
        obtain ⟨Lb, hLb⟩ : ∃ Lb, Lb = (body ++ ys).length := ⟨_, rfl⟩
        rw [← hLb] at hm5'
        obtain ⟨DD, hDD⟩ : ∃ DD, DD = decide (Lb ≤ 256 ^ size - 1) := ⟨_, rfl⟩
        have HF : Hid (∀ u, Chg Non w5 u → WM u r (.slice ao5 m5 c5) n5 (xs ++ putD size 0 ++ body ++ ys) ∧ u.heap[w.heap.size]? = some (.cells #[.int .i64 size, .int .i64 least, .int .i64 most] 231)) := fun u hu => ⟨hq.wp.wm.non hu, by rw [hu.block _ (lt_somW hB5) (fun q => q)]; exact hB5⟩
        have HLB : Hid (Lb = (body ++ ys).length ∧ DD = decide (Lb ≤ 256 ^ size - 1)) := ⟨hLb, hDD⟩
        have hmx := fun u => maxLen_any size HS.out.1 HS.out.2.1 least most u
        obtain ⟨MX, hMX⟩ : ∃ MX, MX = 256 ^ size - 1 := ⟨_, rfl⟩
        rw [← hMX] at hmx hDD
        obtain ⟨z0', z1', f0', f1'⟩ := hq.wp.wm.facts
        obtain ⟨y0, y1, y2⟩ := cell3 hB5
        have hlen5 : (m5 : Int) - (n4 : Int) = (Lb : Int) := by omega
        have hwL : IntKind.i64.wrap (Lb : Int) = (Lb : Int) := by
          have h1 := hI.out.2.1.len
          have h2 := hq.len
          have h3 := HS.out.2.2
          rw [IntKind.wrap_i64, hLb, List.length_append]
          omega
        have hdd : decide (Lb ≤ MX) = DD := hDD.symm
        have hun := fun u hu => unless_any r DD (.slice ao5 m5 c5) n5 (xs ++ putD size 0 ++ body ++ ys) u (HF.out u hu).1
        clear hq hm5 hm5' hB5 hLb hDD hMX z0 z1 f0 f1 hp
        have HSS : Hid (∀ u, Chg Non w5 u → u.cell? ⟨r, 0, none⟩ = some (.slice ao5 m5 c5) ∧ u.cell? ⟨w.heap.size, 0, none⟩ = some (.int .i64 size) ∧ u.cell? ⟨w.heap.size, 1, none⟩ = some (.int .i64 least) ∧ u.cell? ⟨w.heap.size, 2, none⟩ = some (.int .i64 most)) := fun u hu => ⟨(HF.out u hu).1.facts.1, cell3 (HF.out u hu).2⟩
        have hne5 : Hid (∀ i, (Value.slice ao5 m5 c5).ownBlock = some i → i ≠ w.heap.size) := fun i e q => by
          rcases HQ.out.wp.gr with g | ⟨g, g1, g2⟩
          · rw [g] at e; exact hI.out.2.2.2 i e q
          · rw [g1] at e; injection e with e; have := lt_somW hI.out.2.2.1; omega
        have HSP : Hid (∀ u u6 n6 zs, Chg Non w5 u → WP r (.slice ao5 m5 c5) u u6 (.slice ao5 m5 c5) n6 zs → u6.cell? ⟨r, 0, none⟩ = some (.slice ao5 m5 c5) ∧ u6.cell? ⟨w.heap.size, 0, none⟩ = some (.int .i64 size) ∧ u6.cell? ⟨w.heap.size, 1, none⟩ = some (.int .i64 least) ∧ u6.cell? ⟨w.heap.size, 2, none⟩ = some (.int .i64 most)) := fun u u6 n6 zs hu hp => ⟨hp.wm.facts.1, cell3 (by rw [hp.chg.block _ (lt_somW (HF.out u hu).2) (fun q => by rcases q with q | q; have := HB.out.2.1; omega; exact hne5.out _ q rfl)]; exact (HF.out u hu).2)⟩
        go_wp2_with fail
        go_region_held3 (fun q => q.cell? ⟨r, 0, none⟩ = some (.slice ao5 m5 c5) ∧ q.cell? ⟨w.heap.size, 0, none⟩ = some (.int .i64 size) ∧ q.cell? ⟨w.heap.size, 1, none⟩ = some (.int .i64 least) ∧ q.cell? ⟨w.heap.size, 2, none⟩ = some (.int .i64 most)) (first | exact HSS.out _ (Chg.refl _ _).drew | exact hS6 | exact HSS.out _ hu5) (first | (go_at_call 232; refine (hmx _).mono ?_; rintro e u ⟨rfl, hcu⟩; have hu5 : Chg Non w5 u := ((Chg.refl Non w5).drew).two hcu; clear hcu) | (go_at_call 195; refine (hun _ hu5).mono ?_; rintro e w6 ⟨rfl, hp6⟩; have hS6 := HSP.out _ _ _ _ hu5 hp6))
        all_goals
          have HP6 : Hid (WP r v w w6 (.slice ao5 m5 c5) (n5 || !DD) (xs ++ putD size 0 ++ (body ++ ys))) := by
            rw [← List.append_assoc]
            exact (hI.out.1.trans HQ.out.wp).trans (hp6.ahead hu5)
          have hp6K : Hid (Chg (Wr r (.slice ao5 m5 c5)) w5 w6 ∧ w5.heap[w.heap.size]? = some (.cells #[.int .i64 size, .int .i64 least, .int .i64 most] 231)) := ⟨(hp6.ahead hu5).chg, (HF.out w5 (Chg.refl _ _)).2⟩
          clear hp6 hu5 hS6 y0 y1 y2 z0' z1' f0' f1'
          go_wp2
          go_roundw
          case rel =>
            refine ⟨k + 1, .slice ao5 m5 c5, n5 || !DD, body ++ ys, by omega, by go_num, ?_⟩
            show _ ∧ _
            refine ⟨HP6.out, ?_, ?_, fun i e q => ?_⟩
            · have := LW.step hI.out.2.1 HXK.out (HQ.out.out rfl) HQ.out.len
              rw [HLB.out.2, HLB.out.1]
              exact this
            · rw [hp6K.out.1.block _ (lt_somW hp6K.out.2) (fun q => by rcases q with q | q; have := HB.out.2.1; omega; exact hne5.out _ q rfl)]
              exact hp6K.out.2
            · exact hne5.out i e q
          case measure => simp [intOf]; omega
    · have hkN : k = N := by omega
      have hBr : wr.heap[w.heap.size]? = some (.cells #[.int .i64 size, .int .i64 least, .int .i64 most] 231) := hI.out.2.2.1
      obtain ⟨y0, y1, y2⟩ := cell3 hBr
      obtain ⟨Bd, hBd⟩ : ∃ Bd, Bd = body.length := ⟨_, rfl⟩
      have HBd : Hid (Bd = body.length ∧ k = N) := ⟨hBd, hkN⟩
      have hnB : (nr : Int) - (n4 : Int) = (Bd : Int) := by have := HNR.out; have := hN4.out; omega
      have hBdl : Bd ≤ 33554517 := by have h1 := hI.out.2.1.len; have h2 := HS.out.2.2; omega
      have hsz : 0 < size := HS.out.1
      have hsz3 : size ≤ 3 := HS.out.2.1
      obtain ⟨g, off, n', c', e', hn', -, -, -, -⟩ := hI.out.1.wm.cells (by rw [List.length_append, List.length_append, putD_len]; omega)
      injection e' with e1 e2 e3
      subst e1; subst e2; subst e3
      clear hBr hkN hBd hn'
      go_wp2_with fail
      clear y0 y1 y2 z0 z1 f0 f1
      obtain ⟨wo, hwo⟩ : ∃ wo, wo = wr := ⟨_, rfl⟩
      subst hwo
      go_loopw [64] (fun i wq => ∃ (m : Nat), m ≤ size ∧ i = .int .i64 m ∧ Hid (WP r v w wq (.slice (some ⟨g, off, none⟩) nr cr) nk (xs ++ num1 size m (Bd : Int) ++ body)))
        (fun i _ => size - (intOf i).toNat)
      case atStart => exact ⟨0, Nat.zero_le _, rfl, by show WP _ _ _ _ _ _ _; rw [num1_zero]; exact hI.out.1⟩
      case round =>
        obtain ⟨m, hm, rfl, hP⟩ := hrel
        by_cases hlm : m < size
        · obtain ⟨z0, z1, f0, f1⟩ := hP.out.wm.facts
          obtain ⟨g', off', n', c', e', hn', hcc, hcm, hfz, hce⟩ := hP.out.wm.cells (by rw [List.length_append, List.length_append, num1_len _ _ _ hm]; omega)
          injection e' with e1 e2 e3
          injection e1 with e1
          injection e1 with e1 e4
          subst e1; subst e2; subst e3; subst e4
          obtain ⟨q, hq⟩ : ∃ q, q = xs.length + (size - 1 - m) := ⟨_, rfl⟩
          have hqn : q < nr := by have := HNR.out; omega
          have hqi : (n4 : Int) - 1 - (m : Int) = (q : Int) := by have := hN4.out; omega
          have hqlt : q < (xs ++ num1 size m (Bd : Int) ++ body).length := by rw [List.length_append, List.length_append, num1_len _ _ _ hm]; omega
          have hold := hce q _ (List.getElem?_eq_getElem hqlt)
          obtain ⟨u0, hu0⟩ : ∃ u0, u0 = (xs ++ num1 size m (Bd : Int) ++ body)[q] := ⟨_, rfl⟩
          rw [← hu0] at hold
          have hfq := hfz (off + q)
          obtain ⟨B, hB⟩ : ∃ B, B = (Bd : Int) / 256 ^ m % 256 := ⟨_, rfl⟩
          have hB0 : 0 ≤ B := by rw [hB]; exact Int.emod_nonneg _ (by decide)
          have hB1 : B < 256 := by rw [hB]; exact Int.emod_lt_of_pos _ (by decide)
          have hset := hP.out.wm.set q B hqn hB0 hB1
          rw [hq, hB, num_set xs body size m (Bd : Int) hlm, ← hB, ← hq] at hset
          have HSET : Hid (WP r v w (wr.setCell ⟨g, off + q, none⟩ (.int .u8 B)) (.slice (some ⟨g, off, none⟩) nr cr) nk (xs ++ num1 size (m + 1) (Bd : Int) ++ body)) := hP.out.trans hset
          have HQ : Hid (q = xs.length + (size - 1 - m)) := hq
          have hqb : (q : Int) < (nr : Int) := by omega
          have hq0 : (0 : Int) ≤ (q : Int) := by omega
          clear hset hq hu0 hce hfz hqlt hn'
          have hwq : IntKind.i64.wrap (q : Int) = (q : Int) := by rw [IntKind.wrap_i64]; omega
          have hm3 : m = 0 ∨ m = 1 ∨ m = 2 := by omega
          rcases hm3 with rfl | rfl | rfl
          · have w8 : IntKind.i64.wrap 0 = 0 := by decide
            have hp1 : (n4 : Int) - 1 = (q : Int) := by omega
            have hw : IntKind.u8.wrap (Bd : Int) = B := by rw [IntKind.wrap_u8, hB]; simp
            clear hB hqi
            go_wp2_with fail
            go_region_with (fail)
            clear hp1 hw
            go_wp2
            go_roundw
            case rel => exact ⟨1, by omega, by go_num, WP.drew HSET.out⟩
            case measure => simp [intOf]; omega
          · have w8 : IntKind.i64.wrap 8 = 8 := by decide
            obtain ⟨P1, hP1⟩ : ∃ P1 : Nat, P1 = q + 1 := ⟨_, rfl⟩
            have hp1 : (n4 : Int) - 1 = (P1 : Int) := by omega
            have hp2 : (P1 : Int) - 1 = (q : Int) := by omega
            have hw : IntKind.u8.wrap ((Bd : Int) / 256) = B := by rw [IntKind.wrap_u8, hB]; rfl
            have hwP : IntKind.i64.wrap (P1 : Int) = (P1 : Int) := by rw [IntKind.wrap_i64]; omega
            clear hB hqi hP1
            go_wp2_with fail
            go_region_with (fail)
            clear hp1 hw
            go_wp2
            go_roundw
            case rel => exact ⟨2, by omega, by go_num, WP.drew HSET.out⟩
            case measure => simp [intOf]; omega
          · have w8 : IntKind.i64.wrap 16 = 16 := by decide
            obtain ⟨P1, hP1⟩ : ∃ P1 : Nat, P1 = q + 2 := ⟨_, rfl⟩
            have hp1 : (n4 : Int) - 1 = (P1 : Int) := by omega
            have hp2 : (P1 : Int) - 2 = (q : Int) := by omega
            have hw : IntKind.u8.wrap ((Bd : Int) / 65536) = B := by rw [IntKind.wrap_u8, hB]; rfl
            have hwP : IntKind.i64.wrap (P1 : Int) = (P1 : Int) := by rw [IntKind.wrap_i64]; omega
            clear hB hqi hP1
            go_wp2_with fail
            go_region_with (fail)
            clear hp1 hw
            go_wp2
            go_roundw
            case rel => exact ⟨3, by omega, by go_num, WP.drew HSET.out⟩
            case measure => simp [intOf]; omega
        · have hms : m = size := by omega
          have HMS : Hid (m = size) := hms
          clear hms
          go_wp2
          go_end0
          have hp := hP.out
          rw [HMS.out, num1_all] at hp
          refine ⟨_, nk, putD size (Bd : Int) ++ body, rfl, ⟨by rw [← List.append_assoc]; exact hp, fun e => ?_, fun e => ?_, ?_⟩⟩
          · cases nk with
            | true => rfl
            | false => have := (hI.out.2.1.ok rfl).1; rw [e] at this; cases this
          · have hI2 := hI.out.2.1
            rw [HBd.out.2, HL.out.2] at hI2
            have := LW.fin hI2 e
            rw [HBd.out.1]
            rcases this with ⟨q1, q2⟩ | ⟨q1, q2⟩
            · exact .inl ⟨q1, q2⟩
            · exact .inr ⟨q1, q2⟩
          · have h1 := hI.out.2.1.len
            have h2 := HS.out.2.2
            have h3 := HS.out.2.1
            rw [List.length_append, putD_len]
            omega
end Go.Proofs.Ytdhckndehijemaa
