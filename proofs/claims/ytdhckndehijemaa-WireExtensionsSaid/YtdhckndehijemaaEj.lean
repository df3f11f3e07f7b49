/-
  The document's readers of one share, of a name.
-/
import Derived.Test.YtdhckndehijemaaDj
import Derived.Test.YtdhckndehijemaaGs
import Derived.Test.YtdhckndehijemaaHn
import Derived.Test.YtdhckndehijemaaGn
import Derived.Test.YtdhckndehijemaaOf
import Derived.Test.YtdhckndehijemaaGa
import Derived.Test.YtdhckndehijemaaGe
import Derived.Test.YtdhckndehijemaaSj
import Derived.Test.YtdhckndehijemaaDq
import Derived.Test.YtdhckndehijemaaAr
namespace Go.Proofs.Ytdhckndehijemaa
open Go.RowKit
set_option linter.unusedVariables false
set_option maxRecDepth 100000


set_option maxHeartbeats 3200000 in
theorem dgetshare_any (v : Value) (xs : List Int) (w : World) (h : Bt (Bel w.heap.size) w v xs) : Calls Try.prog 65 #[v] w fun e w' => ∃ n a l c al, e = .returned (.tuple #[.agg #[.int .u16 n, .slice a l c], .int .i64 al]) ∧ GP tExt pShare ((0 : Int), []) w w' xs [.int .u16 n, .slice a l c] al := by
  obtain ⟨w0, hw0⟩ : ∃ w0, w0 = w.alloc (.cells #[.int .u16 0, .slice none 0 0] 87) := ⟨_, rfl⟩
  have kc0 : Chg Non w w0 := by rw [hw0]; exact (Chg.refl _ _).alloc _
  have hs0 : w0.heap.size = w.heap.size + 1 := by rw [hw0]; simp
  have hB0 : w0.heap[w.heap.size]? = some (.cells #[.int .u16 0, .slice none 0 0] 87) := by rw [hw0]; exact heap_alloc_last w _
  obtain ⟨w1, hw1⟩ : ∃ w1, w1 = w0.alloc (.cells #[v, .bool false, .bool false] 124) := ⟨_, rfl⟩
  have R1 : DS w1 w0.heap.size (some (xs, false)) := by rw [hw1]; exact DS.begin ((h.oldN kc0).bel2 kc0.size)
  have kc1 : Chg Non w0 w1 := by rw [hw1]; exact (Chg.refl _ _).alloc _
  have HW : Hid (w1 = (w.alloc (.cells #[.int .u16 0, .slice none 0 0] 87)).alloc (.cells #[v, .bool false, .bool false] 124)) := by show _ = _; rw [hw1, hw0]
  have H0 : Hid (w0.heap.size = w.heap.size + 1 ∧ Chg Non w w0 ∧ Chg Non w0 w1 ∧ w1.heap[w.heap.size]? = some (.cells #[.int .u16 0, .slice none 0 0] 87)) := ⟨hs0, kc0, kc1, by rw [kc1.block _ (by omega) (fun s => s)]; exact hB0⟩
  obtain ⟨ao0, N0, c0, rfl⟩ : ∃ ao n c, v = .slice ao n c := by
    obtain ⟨h1, -⟩ := h
    obtain ⟨ao, n, c, e, -⟩ := h1.shape
    exact ⟨ao, n, c, e⟩
  have HP := dshare_any w0.heap.size (some (xs, false)) w1 R1
  rw [hs0] at HP
  clear h R1 hw1 hw0 kc0 kc1 hs0 hB0
  go_enter Try.func65, Try.ntmps65
  go_wp2_with fail
  rw [← HW.out]
  refine HP.mono ?_
  rintro e w2 ⟨n, a, l, c, x, rfl, hx0⟩
  have hx : DP tExt pShare w1 w2 w0.heap.size (some (xs, false)) [.int .u16 n, .slice a l c] x := by rw [H0.out.1]; exact hx0
  obtain ⟨s9, q1, q2⟩ := hx.ps.st
  obtain ⟨w3, hw3⟩ : ∃ w3, w3 = w2.alloc (.cells #[.int .u16 n, .slice a l c] 87) := ⟨_, rfl⟩
  have c3 : Chg Non w2 w3 := by rw [hw3]; exact (Chg.refl _ _).alloc _
  have he := dend_any w0.heap.size s9 w3 (q1.non c3)
  rw [H0.out.1, hw3] at he
  obtain ⟨A, hA⟩ : ∃ A, A = endA s9 := ⟨_, rfl⟩
  rw [← hA] at he
  have hB3 : w3.heap[w.heap.size]? = some (.cells #[.int .u16 0, .slice none 0 0] 87) := by
    have e2 : w2.heap[w.heap.size]? = some (.cells #[.int .u16 0, .slice none 0 0] 87) := by
      rw [hx.ps.chg.block _ (lt_somW H0.out.2.2.2) (fun e => by have e' : w.heap.size = w0.heap.size := e; have := H0.out.1; omega)]; exact H0.out.2.2.2
    rw [c3.block _ (lt_somW e2) (fun s => s)]; exact e2
  have hB3' := hB3
  rw [hw3] at hB3'
  obtain ⟨y0, y1⟩ := cell2 hB3'
  have g0 := frozen_of_row _ w.heap.size 0 _ _ hB3'
  have g1 := frozen_of_row _ w.heap.size 1 _ _ hB3'
  have HQ : Hid (DP tExt pShare w1 w2 w0.heap.size (some (xs, false)) [.int .u16 n, .slice a l c] x ∧ Res pShare (some (xs, false)) x s9 ∧ A = endA s9 ∧ Chg Non w2 (w2.alloc (.cells #[.int .u16 n, .slice a l c] 87))) := ⟨hx, q2, hA, (Chg.refl _ _).alloc _⟩
  clear hx hx0 q1 q2 hA HP hB3 hB3' c3 hw3
  go_wp2_with (go_at_call 106; refine he.mono ?_)
  rintro e w9 ⟨rfl, rfl⟩
  clear he
  by_cases hz : A = 0
  · subst hz
    go_wp2_with fail
    refine bodyPost_ret (v := .tuple #[.agg #[.int .u16 n, .slice a l c], .int .i64 0]) ?_ rfl ⟨n, a, l, c, 0, rfl, (GP.dok HQ.out.1 HQ.out.2.1 HQ.out.2.2.1.symm H0.out.2.2.1 HQ.out.2.2.2).outR H0.out.2.1 (by rw [H0.out.1]; omega) (chg_two _ _ _ _)⟩
    simp [results, Try.results65, go_sem, y0, y1]
  · have d1 : (A != 0) = true := by simpa using hz
    have HZ : Hid (A ≠ 0) := hz
    clear hz
    go_wp2_with fail
    refine bodyPost_ret (v := .tuple #[.agg #[.int .u16 0, .slice none 0 0], .int .i64 A]) ?_ rfl ⟨0, none, 0, 0, A, rfl, (GP.dbad HQ.out.1 HQ.out.2.1 HQ.out.2.2.1 HZ.out H0.out.2.2.1 HQ.out.2.2.2 ⟨[_], [_], rfl, Rel.zero _ _ _, Rel.nilB _ _⟩).outR H0.out.2.1 (by rw [H0.out.1]; omega) (chg_two _ _ _ _)⟩
    simp [results, Try.results65, go_sem, y0, y1]

theorem pOnly_res {c x : Int} {s s' : St} (h : Res (pDig 1) s x s') : Res (pOnly c) s () (s'.map fun q => (q.1, q.2 || (x != c))) := h.bind (Res.odd _ _)
/-- A name, as the document reads it: one host, and nothing behind it. -/
theorem res_name {s s1 sp : St} {body x : List Int} (hb : ∀ xs o, s = some (xs, o) → Byt xs) (h1 : Res (pBytes 2 0 16777216) s body s1) (h2 : Res pHost (s1.map fun _ => (body, false)) x sp) : Res pName s x (wth s1 (if mor sp then none else sp)) := by
  have key : ∀ (b : List Int) (z : Option (List Int × List Int × Bool)), z = pHost b → many pHost b = match z with
      | none => if b = [] then some ([], false) else none
      | some (a, ys, o) => (many pHost ys).map fun q => (a :: q.1, o || q.2) := by
    intro b z hz
    subst hz
    cases b with
    | nil =>
      have : pHost [] = none := by decide
      rw [this, many_nil]
      rfl
    | cons y b =>
      cases e : pHost (y :: b) with
      | none => rw [many_none (by simp) e]; simp
      | some q =>
        obtain ⟨a, ys, o⟩ := q
        rw [many_some pHost_shr (by simp) e]
  cases s with
  | none =>
    obtain rfl : s1 = none := h1
    rfl
  | some z =>
    obtain ⟨xs, o⟩ := z
    have hby := hb xs o rfl
    unfold Res pBytes pList at h1
    unfold Res pName pBind pList
    dsimp only at h1 ⊢
    by_cases hl : xs.length < 2
    · rw [if_pos hl] at h1 ⊢
      dsimp only at h1 ⊢
      rw [h1]
      rfl
    · rw [if_neg hl] at h1 ⊢
      obtain ⟨d0, d1⟩ := dig_mono (hby.take 2) (n := 2) (by rw [List.length_take]; omega)
      have e256 : (256 : Int) ^ 2 = 65536 := rfl
      rw [e256] at d1
      obtain ⟨k, hk⟩ : ∃ k : Nat, k = (dig (xs.take 2)).toNat := ⟨_, rfl⟩
      rw [← hk] at h1 ⊢
      by_cases hd : (xs.drop 2).length < k
      · rw [if_pos hd] at h1 ⊢
        dsimp only at h1 ⊢
        rw [h1]
        rfl
      · rw [if_neg hd] at h1 ⊢
        obtain ⟨b, hbd⟩ : ∃ b, b = (xs.drop 2).take k := ⟨_, rfl⟩
        have hbl : b.length = k := by rw [hbd, List.length_take]; omega
        rw [← hbd] at h1 ⊢
        rw [many_dig1] at h1
        dsimp only at h1
        rw [if_pos ⟨Nat.zero_le _, by omega⟩] at h1
        obtain ⟨rfl, rfl⟩ := h1
        unfold Res at h2
        dsimp only [Option.map] at h2
        rw [key body (pHost body) rfl]
        cases e : pHost body with
        | none =>
          rw [e] at h2
          dsimp only at h2 ⊢
          subst h2
          by_cases hbe : body = []
          · rw [if_pos hbe]
            rfl
          · rw [if_neg hbe]
            rfl
        | some q =>
          obtain ⟨a, ys, o1⟩ := q
          rw [e] at h2
          dsimp only at h2 ⊢
          obtain ⟨rfl, rfl⟩ := h2
          by_cases hy : ys = []
          · subst hy
            rw [many_nil]
            simp [mor, wth, pRet]
          · have hm : mor (some (ys, false || o1)) = true := by
              have : 0 < ys.length := List.length_pos_iff.2 hy
              simpa [mor] using this
            rw [hm]
            cases e2 : many pHost ys with
            | none => simp [wth]
            | some q2 =>
              obtain ⟨l2, o2⟩ := q2
              have h3 : 1 ≤ l2.length := by
                have := (many_pos pHost_shr (by decide) (shr_min pHost_shr) ys l2 o2 e2).1 (List.length_pos_iff.2 hy)
                exact this
              simp only [Option.map, List.length_cons]
              rw [if_neg (by omega)]
              simp [wth]

set_option maxHeartbeats 3200000 in
theorem dname_any (v : Value) (xs : List Int) (w : World) (h : Bt (Bel w.heap.size) w v xs) : Calls Try.prog 50 #[v] w fun e w' => ∃ S al, e = .returned (.tuple #[.string S, .int .i64 al]) ∧ GP (.str) (pName) [] w w' xs [.string S] al := by
  obtain ⟨w1, hw1⟩ : ∃ w1, w1 = w.alloc (.cells #[v, .bool false, .bool false] 124) := ⟨_, rfl⟩
  have R1 : DS w1 w.heap.size (some (xs, false)) := by rw [hw1]; exact DS.begin h
  have C1 : Hid (Chg Non w w1) := by rw [hw1]; exact (Chg.refl _ _).alloc _
  have HW1 : Hid (w1 = w.alloc (.cells #[v, .bool false, .bool false] 124)) := hw1
  have HLT : Hid (w.heap.size < w1.heap.size) := by show _ < _; rw [hw1]; simp
  obtain ⟨ao0, N0, c0, rfl⟩ : ∃ ao n c, v = .slice ao n c := by
    obtain ⟨h1, -⟩ := h
    obtain ⟨ao, n, c, e, -⟩ := h1.shape
    exact ⟨ao, n, c, e⟩
  clear h hw1
  have HB : Hid (∀ zs o, (some (xs, false) : St) = some (zs, o) → Byt zs) := fun zs o e => DB.byt R1 e
  have hp := dpart_any w.heap.size 2 0 65535 16777216 (by decide) 2 0 65535 rfl rfl rfl (lim2 (by decide)) _ w1 R1
  clear R1
  go_enter Try.func50, Try.ntmps50
  go_wp2_with fail
  rw [← HW1.out]
  refine hp.mono ?_
  rintro e w4 ⟨P, s1, body, rfl, hpt⟩
  have HPT : Hid (PT 2 0 16777216 w1 w4 w.heap.size P (some (xs, false)) s1 body) := hpt
  have HP4 : Hid (P < w4.heap.size ∧ w.heap.size < P) := ⟨hpt.part.lt, Nat.lt_of_lt_of_le HLT.out hpt.new⟩
  have hn := dnumber_any P 1 (by decide) _ w4 hpt.part
  clear hpt hp
  go_wp2_with (go_at_call 127; refine hn.mono ?_)
  rintro e w5 ⟨n, rfl, hx⟩
  obtain ⟨s2, q1, q2⟩ := hx.ps.st
  obtain ⟨v2, sh, od, zs, m, kb⟩ := q1
  obtain ⟨D, hD⟩ : ∃ D, D = (n != 0) := ⟨_, rfl⟩
  obtain ⟨w6, hw6⟩ : ∃ w6, w6 = w5.setCell ⟨P, 2, none⟩ (.bool D) := ⟨_, rfl⟩
  have m6 := m.odd D
  rw [← hw6] at m6
  have c6 : Chg (One P) w4 w6 := hx.ps.chg.one (by rw [hw6]; exact chg_rest _ _ _ _)
  have h6 : ∃ s3, DS w6 P s3 ∧ Res (pOnly 0) (s1.map fun _ => (body, false)) () s3 := by
    rcases kb with ⟨rfl, rfl⟩ | ⟨rfl, rfl⟩
    · exact ⟨none, DS.of m6 (.inl ⟨rfl, rfl⟩), pOnly_res q2⟩
    · have hod : od = false := by
        cases s1 with
        | none => exact absurd q2 (by intro q; cases q)
        | some z =>
          unfold Res at q2
          dsimp only [Option.map] at q2
          cases hq : pDig 1 body with
          | none => rw [hq] at q2; cases q2
          | some z =>
            obtain ⟨a, ys, o⟩ := z
            rw [hq] at q2
            unfold pDig at hq
            split at hq
            · cases hq
            · injection hq with hq
              injection hq with _ hq
              injection hq with _ hq
              have e2 := q2.2
              injection e2 with e2
              injection e2 with _ e2
              rw [e2, ← hq]
              rfl
      subst hod
      refine ⟨some (zs, D), DS.of m6 (.inr ⟨rfl, rfl⟩), ?_⟩
      have := pOnly_res (c := 0) q2
      rw [hD]
      simpa using this
  obtain ⟨s3, q3, q4⟩ := h6
  have hl := dlist_any P 2 1 65535 16777216 (by decide) 2 1 65535 rfl rfl rfl (lim2 (by decide)) s3 w6 q3
  obtain ⟨z0, z1, z2, f0, f1, f2⟩ := m.facts
  have H6 : Hid (Chg (One P) w4 w6 ∧ Res (pOnly 0) (s1.map fun _ => (body, false)) () s3) := ⟨c6, q4⟩
  have HW6 : Hid (w6 = w5.setCell ⟨P, 2, none⟩ (.bool D)) := hw6
  have HD : Hid (D = (n != 0)) := hD
  clear hx q2 kb m m6 c6 q3 q4 hw6 hD hn
  go_wp2_with fail
  rw [← HD.out, ← HW6.out]
  refine hl.mono ?_
  rintro e w7 ⟨ao, L, c, y, rfl, hk, -, -⟩
  clear z0 z1 z2 f0 f1 f2
  obtain ⟨sp, k1, k2⟩ := hk.ps.st
  have hs := run_str w7 _ y hk.bt.1
  obtain ⟨S, hS⟩ : ∃ S, S = strOfNums y := ⟨_, rfl⟩
  rw [← hS] at hs
  have H7 : Hid (Chg (One P) w4 w7 ∧ Res pHost (s1.map fun _ => (body, false)) y sp ∧ S = strOfNums y ∧ Byt y ∧ DS w7 P sp) := ⟨H6.out.1.one hk.ps.chg, H6.out.2.bind k2, hS, hk.bt.2.1, k1⟩
  have hmo := dmore_any P sp w7 k1
  obtain ⟨M, hM⟩ : ∃ M, M = mor sp := ⟨_, rfl⟩
  rw [← hM] at hmo
  have HM : Hid (M = mor sp) := hM
  clear hk k1 k2 hS hM hl
  go_wp2_with (go_at_call 121; refine hmo.mono ?_)
  rintro e w8 ⟨rfl, rfl⟩
  clear hmo hs
  have HR8 : Hid (DS w8 w.heap.size s1) := HPT.out.st.keep H7.out.1 (fun k e => by have e' : k = P := e; have := HP4.out.2; omega)
  cases M with
  | true =>
    obtain ⟨v2, sh, od, zs, m, kb⟩ := H7.out.2.2.2.2
    obtain ⟨z0, z1, z2, f0, f1, f2⟩ := m.facts
    obtain ⟨wA, hwA⟩ : ∃ wA, wA = w8.setCell ⟨P, 1, none⟩ (.bool true) := ⟨_, rfl⟩
    have mA := m.short true
    rw [← hwA] at mA
    have cA : Chg (One P) w8 wA := by rw [hwA]; exact chg_rest _ _ _ _
    have HRA : DS wA w.heap.size s1 := HR8.out.keep cA (fun k e => by have e' : k = P := e; have := HP4.out.2; omega)
    have hwi := dwith_any w.heap.size P (by have := HP4.out.2; omega) s1 none wA HRA (DS.of mA (.inl ⟨rfl, rfl⟩))
    have HA : Hid (Chg (One P) w4 wA) := H7.out.1.one cA
    have HWA : Hid (wA = w8.setCell ⟨P, 1, none⟩ (.bool true)) := hwA
    clear m kb mA cA HRA hwA
    go_wp2_with fail
    rw [← HWA.out]
    refine hwi.mono ?_
    rintro e wB ⟨rfl, cB, hB⟩
    clear z0 z1 z2 f0 f1 f2 hwi
    have hr := res_name HB.out HPT.out.res H7.out.2.1
    rw [← HM.out, if_pos rfl] at hr
    obtain ⟨x, hxe⟩ : ∃ x : List Int, x = y := ⟨_, rfl⟩
    have hx : DP .str pName w1 wB w.heap.size (some (xs, false)) [.string S] x := by
      rw [hxe]
      exact ⟨⟨by rw [H7.out.2.2.1], H7.out.2.2.2.1⟩, ((HPT.out.chg.trans HA.out (fun i hi e => by have e' : i = P := e; have := HPT.out.new; omega)).one cB), _, hB, hr⟩
    clear hB cB hr hxe
    obtain ⟨s9, q1, q2⟩ := hx.ps.st
    have he := dend_any w.heap.size s9 wB q1
    obtain ⟨A, hA⟩ : ∃ A, A = endA s9 := ⟨_, rfl⟩
    rw [← hA] at he
    have HQ : Hid (DP (.str) (pName) w1 wB w.heap.size (some (xs, false)) [.string S] x ∧ Res (pName) (some (xs, false)) x s9 ∧ A = endA s9) := ⟨hx, q2, hA⟩
    clear hx q1 q2 hA
    go_wp2_with (go_at_call 106; refine he.mono ?_)
    rintro e w9 ⟨rfl, rfl⟩
    clear he
    by_cases hz : A = 0
    · subst hz
      go_wp2_with fail
      go_ret2
      exact ⟨S, 0, rfl, GP.dok HQ.out.1 HQ.out.2.1 HQ.out.2.2.symm C1.out (Chg.refl _ _)⟩
    · have d1 : (A != 0) = true := by simpa using hz
      have HZ : Hid (A ≠ 0) := hz
      clear hz
      go_wp2_with fail
      go_ret2
      exact ⟨⟨#[]⟩, A, rfl, GP.dbad HQ.out.1 HQ.out.2.1 HQ.out.2.2 HZ.out C1.out (Chg.refl _ _) (Rel.empty _ _)⟩
  | false =>
    have hwi := dwith_any w.heap.size P (by have := HP4.out.2; omega) s1 sp w8 HR8.out H7.out.2.2.2.2
    go_wp2_with (go_at_call 122; refine hwi.mono ?_)
    rintro e wB ⟨rfl, cB, hB⟩
    clear hwi
    have hr := res_name HB.out HPT.out.res H7.out.2.1
    rw [← HM.out, if_neg (by decide)] at hr
    obtain ⟨x, hxe⟩ : ∃ x : List Int, x = y := ⟨_, rfl⟩
    have hx : DP .str pName w1 wB w.heap.size (some (xs, false)) [.string S] x := by
      rw [hxe]
      exact ⟨⟨by rw [H7.out.2.2.1], H7.out.2.2.2.1⟩, ((HPT.out.chg.trans H7.out.1 (fun i hi e => by have e' : i = P := e; have := HPT.out.new; omega)).one cB), _, hB, hr⟩
    clear hB cB hr hxe
    obtain ⟨s9, q1, q2⟩ := hx.ps.st
    have he := dend_any w.heap.size s9 wB q1
    obtain ⟨A, hA⟩ : ∃ A, A = endA s9 := ⟨_, rfl⟩
    rw [← hA] at he
    have HQ : Hid (DP (.str) (pName) w1 wB w.heap.size (some (xs, false)) [.string S] x ∧ Res (pName) (some (xs, false)) x s9 ∧ A = endA s9) := ⟨hx, q2, hA⟩
    clear hx q1 q2 hA
    go_wp2_with (go_at_call 106; refine he.mono ?_)
    rintro e w9 ⟨rfl, rfl⟩
    clear he
    by_cases hz : A = 0
    · subst hz
      go_wp2_with fail
      go_ret2
      exact ⟨S, 0, rfl, GP.dok HQ.out.1 HQ.out.2.1 HQ.out.2.2.symm C1.out (Chg.refl _ _)⟩
    · have d1 : (A != 0) = true := by simpa using hz
      have HZ : Hid (A ≠ 0) := hz
      clear hz
      go_wp2_with fail
      go_ret2
      exact ⟨⟨#[]⟩, A, rfl, GP.dbad HQ.out.1 HQ.out.2.1 HQ.out.2.2 HZ.out C1.out (Chg.refl _ _) (Rel.empty _ _)⟩
end Go.Proofs.Ytdhckndehijemaa
namespace Go.Proofs.Ytdhckndehijemaa
open Go.RowKit
set_option linter.unusedVariables false
set_option maxRecDepth 100000


set_option maxHeartbeats 800000 in
theorem getList_any (v : Value) (xs : List Int) (w : World) (h : Bt (Bel w.heap.size) w v xs) : Calls Try.prog 51 #[v] w fun e w' => ∃ ao L c al, e = .returned (.tuple #[.slice ao L c, .int .i64 al]) ∧ GP (.lst (.num .u16)) (pList 2 1 16777216 (pDig 2)) [] w w' xs [.slice ao L c] al := by
  have hp := getN_any v xs w h
  clear h
  go_enter Try.func51, Try.ntmps51
  go_wp2_with (go_at_call 142; refine hp.mono ?_)
  rintro e w2 ⟨ao, L, c, al, rfl, hq⟩
  have HQ : Hid (GP (.lst (.num .u16)) (pList 2 1 16777216 (pDig 2)) [] w w2 xs [.slice ao L c] al) := hq
  clear hq hp
  go_wp2
  go_ret2
  exact ⟨ao, L, c, al, rfl, HQ.out⟩

theorem head_get : outc (pList 2 1 16777216 (pDig 2)) [] [0, 0] = (([] : List Int), (50 : Int)) := by decide +kernel
theorem head_put : (wName [97, 46, 98]).getD [] = [0, 6, 0, 0, 3, 97, 46, 98] := by decide +kernel

set_option maxHeartbeats 3200000 in
theorem head_any (w : World) : Calls Try.prog 10 #[] w fun e w' => e = .returned (.bool true) ∧ Chg Non w w' := by
  obtain ⟨w1, hw1⟩ : ∃ w1, w1 = w.alloc (.cells #[.int .u8 0, .int .u8 0] 5) := ⟨_, rfl⟩
  have hr : Bt (Bel w1.heap.size) w1 (.slice (some ⟨w.heap.size, 0, none⟩) 2 2) [0, 0] := by
    have h := row_rd w [0, 0] 2 rfl (by decide)
    refine ⟨?_, ?_, fun k e => ?_⟩
    · rw [hw1]; exact h
    · intro x hx; simp at hx; omega
    · injection e with e
      rw [hw1]
      show k < _
      rw [← e]
      simp
  have hg := getList_any _ _ w1 hr
  have HW1 : Hid (w1 = w.alloc (.cells #[.int .u8 0, .int .u8 0] 5)) := hw1
  have C1 : Hid (Chg Non w w1) := by rw [hw1]; exact (Chg.refl _ _).alloc _
  clear hr hw1
  go_enter Try.func10, Try.ntmps10
  go_wp2_with fail
  rw [← HW1.out]
  refine hg.mono ?_
  rintro e w2 ⟨ao, L, c, al, rfl, hq⟩
  obtain ⟨x, q1, q2⟩ := hq.out
  have hal : al = 50 := by
    have h := congrArg Prod.snd (head_get.symm.trans q1)
    exact h.symm
  subst hal
  have C2 : Hid (Chg Non w w2) := C1.out.two hq.chg
  have hp := putName_any ⟨#[97, 46, 98]⟩ [97, 46, 98] w2 ⟨rfl, by intro x hx; simp at hx; omega⟩ (by simp)
  clear hq q1 q2 hg
  go_wp2_with (go_at_call 75; refine hp.mono ?_)
  rintro e w3 ⟨v, rfl, ho⟩
  have hs := run_str w3 v _ ho.own.rd
  rw [head_put] at hs
  have hs' : (convert 23 9 v).run Try.prog w3 = .ok (.string ⟨#[0, 6, 0, 0, 3, 97, 46, 98]⟩) w3 := hs
  obtain ⟨ao3, n3, c3, rfl⟩ := ho.shape
  have C3 : Hid (Chg Non w w3) := C2.out.two ho.chg
  clear ho hp hs
  go_wp2
  go_ret
  exact ⟨rfl, C3.out⟩
end Go.Proofs.Ytdhckndehijemaa
namespace Go.Proofs.Ytdhckndehijemaa
open Go.RowKit
set_option linter.unusedVariables false
set_option maxRecDepth 100000


set_option maxHeartbeats 3200000 in
theorem getOf_any (v : Value) (xs : List Int) (w : World) (h : Bt (Bel w.heap.size) w v xs) : Calls Try.prog 157 #[v, .func (.func 158) #[] #[]] w fun e w' => ∃ a l c n al, e = .returned (.tuple #[.agg #[.slice a l c, .int .i64 n], .int .i64 al]) ∧ GP (tOffer) (pOffer) ([], (0 : Int)) w w' xs [.slice a l c, .int .i64 n] al := by
  obtain ⟨w0, hw0⟩ : ∃ w0, w0 = w.alloc (.cells #[.slice none 0 0, .int .i64 0] 194) := ⟨_, rfl⟩
  have kc0 : Chg Non w w0 := by rw [hw0]; exact (Chg.refl _ _).alloc _
  have hs0 : w0.heap.size = w.heap.size + 1 := by rw [hw0]; simp
  have hB0 : w0.heap[w.heap.size]? = some (.cells #[.slice none 0 0, .int .i64 0] 194) := by rw [hw0]; exact heap_alloc_last w _
  obtain ⟨w1, hw1⟩ : ∃ w1, w1 = w0.alloc (.cells #[v, .int .i64 0] 227) := ⟨_, rfl⟩
  have R1 : RS w1 w0.heap.size (some (xs, false)) := by rw [hw1]; exact RS.begin ((h.oldN kc0).bel2 kc0.size)
  have kc1 : Chg Non w0 w1 := by rw [hw1]; exact (Chg.refl _ _).alloc _
  have HW : Hid (w1 = (w.alloc (.cells #[.slice none 0 0, .int .i64 0] 194)).alloc (.cells #[v, .int .i64 0] 227)) := by show _ = _; rw [hw1, hw0]
  have H0 : Hid (w0.heap.size = w.heap.size + 1 ∧ Chg Non w w0 ∧ Chg Non w0 w1 ∧ w1.heap[w.heap.size]? = some (.cells #[.slice none 0 0, .int .i64 0] 194)) := ⟨hs0, kc0, kc1, by rw [kc1.block _ (by omega) (fun s => s)]; exact hB0⟩
  obtain ⟨ao0, N0, c0, rfl⟩ : ∃ ao n c, v = .slice ao n c := by
    obtain ⟨h1, -⟩ := h
    obtain ⟨ao, n, c, e, -⟩ := h1.shape
    exact ⟨ao, n, c, e⟩
  have HP := offer_any w0.heap.size (some (xs, false)) w1 R1
  rw [hs0] at HP
  clear h R1 hw1 hw0 kc0 kc1 hs0 hB0
  go_enter Try.func157, Try.ntmps157
  go_wp2_with fail
  rw [← HW.out]
  refine HP.mono ?_
  rintro e w2 ⟨a, l, c, n, x, rfl, hx0⟩
  have hx : RP (tOffer) (pOffer) w1 w2 w0.heap.size (some (xs, false)) [.slice a l c, .int .i64 n] x := by rw [H0.out.1]; exact hx0
  obtain ⟨s', q1, q2⟩ := hx.ps.st
  obtain ⟨vr, al, ys, m1, m2⟩ := q1
  obtain ⟨ao9, N, c9, rfl, hN, -, -⟩ := m1.rd.shape
  have HX : Hid (RP (tOffer) (pOffer) w1 w2 w0.heap.size (some (xs, false)) [.slice a l c, .int .i64 n] x ∧ Res (pOffer) (some (xs, false)) x s' ∧ AB s' ys al ∧ N = ys.length) := ⟨hx, q2, m2, hN⟩
  have hB2 : w2.heap[w.heap.size]? = some (.cells #[.slice none 0 0, .int .i64 0] 194) := by
    rw [hx.ps.chg.block _ (lt_somW H0.out.2.2.2) (fun e => by have e' : w.heap.size = w0.heap.size := e; have := H0.out.1; omega)]; exact H0.out.2.2.2
  have HF : Hid (∀ u, Chg (One w0.heap.size) w2 u → u.cell? ⟨w.heap.size, 0, none⟩ = some (.slice none 0 0) ∧ u.frozen? ⟨w.heap.size, 0, none⟩ = false ∧ u.cell? ⟨w.heap.size, 1, none⟩ = some (.int .i64 0) ∧ u.frozen? ⟨w.heap.size, 1, none⟩ = false) := fun u hu => by
    have hb : u.heap[w.heap.size]? = some (.cells #[.slice none 0 0, .int .i64 0] 194) := by rw [hu.block _ (lt_somW hB2) (fun e => by have e' : w.heap.size = w0.heap.size := e; have := H0.out.1; omega)]; exact hB2
    exact ⟨by rw [cell_of_row u w.heap.size 0 _ 194 (0, 0) hb]; rfl, frozen_of_row u w.heap.size 0 _ _ hb, by rw [cell_of_row u w.heap.size 1 _ 194 (0, 0) hb]; rfl, frozen_of_row u w.heap.size 1 _ _ hb⟩
  have HM : Hid (RM w2 w0.heap.size (.slice ao9 N c9) al ys) := m1
  have HR := fun u (hu : Chg Non w2 u) => refuse_any w0.heap.size 50 _ al ys u (HM.out.non hu)
  rw [tell50] at HR
  have hm3 := (HM.out.non ((Chg.refl Non w2).alloc (.cells #[.slice a l c, .int .i64 n] 194))).facts
  rw [H0.out.1] at hm3 HR
  obtain ⟨z0, z1, f0, f1⟩ := hm3
  obtain ⟨y0, g0, y1, g1⟩ := HF.out _ (((Chg.refl Non w2).alloc (.cells #[.slice a l c, .int .i64 n] 194)).non _)
  have C3 : Hid (Chg Non w2 (w2.alloc (.cells #[.slice a l c, .int .i64 n] 194))) := (Chg.refl Non w2).alloc _
  clear hx hx0 q2 m2 hN m1 HP hB2
  by_cases hz : N = 0
  · subst hz
    have HE : Hid (ys = []) := List.eq_nil_of_length_eq_zero HX.out.2.2.2.symm
    by_cases ha : al = 0
    · subst ha
      clear HR
      go_wp2_with fail
      have hk := HX.out.2.2.1
      rw [HE.out] at hk
      refine bodyPost_ret (v := .tuple #[.agg #[.slice a l c, .int .i64 n], .int .i64 0]) ?_ rfl ⟨a, l, c, n, 0, rfl, (GP.ok HX.out.1 HX.out.2.1 hk H0.out.2.2.1 C3.out).outR H0.out.2.1 (by rw [H0.out.1]; omega) ((chg_rest _ _ 0 _).one (chg_rest _ _ 1 _))⟩
      simp [results, Try.results157, go_sem, y0, y1]
    · have d1 : (al != 0) = true := by simpa using ha
      have HA : Hid (al ≠ 0) := ha
      have hm4 := (HM.out.non (((Chg.refl Non w2).alloc (.cells #[.slice a l c, .int .i64 n] 194)).alloc (.cells #[.slice none 0 0, .int .i64 0] 194))).facts
      rw [H0.out.1] at hm4
      obtain ⟨z0', z1', f0', f1'⟩ := hm4
      obtain ⟨y0', g0', y1', g1'⟩ := HF.out _ ((((Chg.refl Non w2).alloc (.cells #[.slice a l c, .int .i64 n] 194)).alloc (.cells #[.slice none 0 0, .int .i64 0] 194)).non _)
      have C4 : Hid (Chg Non w2 ((w2.alloc (.cells #[.slice a l c, .int .i64 n] 194)).alloc (.cells #[.slice none 0 0, .int .i64 0] 194))) := ((Chg.refl Non w2).alloc _).alloc _
      clear HR ha
      go_wp2_with fail
      go_region_with (fail)
      all_goals
        go_wp2_with fail
        refine bodyPost_ret (v := .tuple #[.agg #[.slice none 0 0, .int .i64 0], .int .i64 al]) ?_ rfl ⟨none, 0, 0, 0, al, rfl, (GP.bad HX.out.1 HX.out.2.1 HX.out.2.2.1 H0.out.2.2.1 (C4.out.non _) (.inr ⟨HE.out, HA.out, rfl⟩) (⟨[_], [_], rfl, Rel.nil _ _ _, Rel.zero _ _ _⟩)).outR H0.out.2.1 (by rw [H0.out.1]; omega) ((chg_rest _ _ 0 _).one (chg_rest _ _ 1 _)).drew⟩
        simp [results, Try.results157, go_sem, y0', y1']
  · have d0 : decide (0 < N) = true := by simp; omega
    have HE : Hid (ys ≠ []) := by intro e; have := HX.out.2.2.2; rw [e] at this; exact hz this
    have hr := HR _ C3.out
    clear hz HR
    go_wp2_with (go_at_call 182; refine hr.mono ?_)
    rintro e w3 ⟨rfl, k1, k2⟩
    have HK : Hid (Chg (One w0.heap.size) w2 w3) := (C3.out.non _).trans (by rw [H0.out.1]; exact k2) (fun _ _ q => q)
    have hm4 := (k1.non ((Chg.refl Non w3).alloc (.cells #[.slice none 0 0, .int .i64 0] 194))).facts
    obtain ⟨z0', z1', f0', f1'⟩ := hm4
    clear z0 z1 f0 f1 hr k2 y0 g0 y1 g1
    obtain ⟨z0, z1, f0, f1⟩ := k1.facts
    clear k1
    obtain ⟨y0', g0', y1', g1'⟩ := HF.out _ (HK.out.trans (((Chg.refl Non w3).alloc (.cells #[.slice none 0 0, .int .i64 0] 194)).non _) (fun _ _ q => q))
    have C4 : Hid (Chg (One w0.heap.size) w2 (w3.alloc (.cells #[.slice none 0 0, .int .i64 0] 194))) := HK.out.trans (((Chg.refl Non w3).alloc (.cells #[.slice none 0 0, .int .i64 0] 194)).non _) (fun _ _ q => q)
    go_wp2_with fail
    go_region_with (fail)
    all_goals
      go_wp2_with fail
      refine bodyPost_ret (v := .tuple #[.agg #[.slice none 0 0, .int .i64 0], .int .i64 50]) ?_ rfl ⟨none, 0, 0, 0, 50, rfl, (GP.bad HX.out.1 HX.out.2.1 HX.out.2.2.1 H0.out.2.2.1 C4.out (.inl ⟨HE.out, rfl⟩) (⟨[_], [_], rfl, Rel.nil _ _ _, Rel.zero _ _ _⟩)).outR H0.out.2.1 (by rw [H0.out.1]; omega) ((chg_rest _ _ 0 _).one (chg_rest _ _ 1 _)).drew⟩
      simp [results, Try.results157, go_sem, y0', y1']

theorem GP.after {t : Ty} {p : Pr t.Dat} {z : t.Dat} {w w2 w3 : World} {xs : List Int} {us : List Value} {al : Int} (h : GP t p z w w2 xs us al) (k : Chg Non w2 w3) : GP t p z w w3 xs us al := by
  obtain ⟨x, q1, q2⟩ := h.out
  exact ⟨h.chg.two k, x, q1, (q2.oldN k).btw (Nat.le_refl _) k.size⟩
set_option maxHeartbeats 1600000 in
theorem getPSKs_any (v : Value) (xs : List Int) (w : World) (h : Bt (Bel w.heap.size) w v xs) : Calls Try.prog 68 #[v] w fun e w' => ∃ a l c n al, e = .returned (.tuple #[.slice a l c, .int .i64 n, .int .i64 al]) ∧ GP tOffer pOffer ([], (0 : Int)) w w' xs [.slice a l c, .int .i64 n] al := by
  have hp := getOf_any v xs w h
  clear h
  go_enter Try.func68, Try.ntmps68
  go_wp2_with (go_at_call 157; refine hp.mono ?_)
  rintro e w2 ⟨a, l, c, n, al, rfl, hq⟩
  have HQ : Hid (GP tOffer pOffer ([], (0 : Int)) w w2 xs [.slice a l c, .int .i64 n] al) := hq
  clear hq hp
  go_wp2_with fail
  go_quiet (fail)
  go_wp2_with fail
  go_ret3
  exact ⟨a, l, c, n, al, rfl, HQ.out.after (((Chg.refl _ _).alloc _).drewN _)⟩
end Go.Proofs.Ytdhckndehijemaa
namespace Go.Proofs.Ytdhckndehijemaa
open Go.RowKit
set_option linter.unusedVariables false
set_option maxRecDepth 100000

theorem GP.same {t : Ty} {p : Pr t.Dat} {z : t.Dat} {w1 w2 w3 w4 : World} {xs : List Int} {us us' : List Value} {al al' : Int} (h : GP t p z w1 w2 xs us al) (k : GP t p z w3 w4 xs us' al') : al' = al ∧ ∃ x, Rel t (Btw w1.heap.size w2.heap.size) w2 us x ∧ Rel t (Btw w3.heap.size w4.heap.size) w4 us' x := by
  obtain ⟨x, e1, r1⟩ := h.out
  obtain ⟨y, e2, r2⟩ := k.out
  have e3 : (x, al) = (y, al') := e1.symm.trans e2
  injection e3 with e4 e5
  subst e4
  exact ⟨e5.symm, x, r1, r2⟩
theorem Rel.num_eq2 {k : IntKind} {F G : Nat → Prop} {w u : World} {n m : Int} {x : Int} (h : Rel (.num k) F w [.int k n] x) (g : Rel (.num k) G u [.int k m] x) : n = m := by
  obtain ⟨h1, -⟩ := h
  obtain ⟨g1, -⟩ := g
  injection h1 with h1
  injection h1 with _ h1
  injection g1 with g1
  injection g1 with _ g1
  rw [h1, g1]
theorem Rel.str_eq {F G : Nat → Prop} {w u : World} {S T : ByteArray} {x : List Int} (h : Rel .str F w [.string S] x) (g : Rel .str G u [.string T] x) : T = S := by
  obtain ⟨h1, -⟩ := h
  obtain ⟨g1, -⟩ := g
  injection h1 with h1
  injection h1 with h1
  injection g1 with g1
  injection g1 with g1
  rw [h1, g1]


set_option maxHeartbeats 12800000 in
theorem exts_law (ao : Option Addr) (L c : Nat) (xs : List Int) (w : World) (h : Bt (Bel w.heap.size) w (.slice ao L c) xs) : Calls Try.prog 6 #[.slice ao L c] w fun e w' => e = .returned (.bool true) ∧ Chg Non w w' := by
  have HV : Hid (∀ u, Chg Non w u → Bt (Bel u.heap.size) u (.slice ao L c) xs) := fun u hu => (h.oldN hu).bel2 hu.size
  have hh := head_any w
  clear h
  go_enter Try.func6, Try.ntmps6
  go_wp2_with (go_at_call 10; refine hh.mono ?_)
  rintro e w0 ⟨rfl, hc⟩
  have K0 : Hid (Chg Non w w0) := hc
  clear hc hh
  have hp := getName_any (.slice ao L c) xs w0 (HV.out _ K0.out)
  go_wp2_with (go_at_call 49; refine hp.mono ?_)
  rintro e w1a ⟨S1a, al1, rfl, q⟩
  have Q1a : Hid (GP .str pName [] w0 w1a xs [.string S1a] al1) := q
  have C2 : Hid (Chg Non w0 w1a) := q.chg
  have K2 : Hid (Chg Non w w1a) := K0.out.two q.chg
  clear q hp
  have hp := dname_any (.slice ao L c) xs w1a (HV.out _ K2.out)
  go_wp2_with (go_at_call 50; refine hp.mono ?_)
  rintro e w1b ⟨S1b, bl1, rfl, q⟩
  have Q1b : Hid (GP .str pName [] w1a w1b xs [.string S1b] bl1) := q
  have C3 : Hid (Chg Non w1a w1b) := q.chg
  have K3 : Hid (Chg Non w w1b) := K2.out.two q.chg
  clear q hp
  obtain ⟨rfl, x1, r1, r2⟩ := GP.same Q1a.out Q1b.out
  obtain rfl : S1b = S1a := Rel.str_eq r1 r2
  clear r1 r2
  have hp := getList_any (.slice ao L c) xs w1b (HV.out _ K3.out)
  go_wp2_with (go_at_call 51; refine hp.mono ?_)
  rintro e w4a ⟨pa4a, pl4a, pc4a, al4, rfl, q⟩
  have Q4a : Hid (GP (.lst (.num .u16)) (pList 2 1 16777216 (pDig 2)) [] w1b w4a xs [.slice pa4a pl4a pc4a] al4) := q
  have C5 : Hid (Chg Non w1b w4a) := q.chg
  have K5 : Hid (Chg Non w w4a) := K3.out.two q.chg
  clear q hp
  have hp := dgetlist_any (.slice ao L c) xs w4a (HV.out _ K5.out)
  go_wp2_with (go_at_call 52; refine hp.mono ?_)
  rintro e w4b ⟨pa4b, pl4b, pc4b, bl4, rfl, q⟩
  have Q4b : Hid (GP (.lst (.num .u16)) (pList 2 1 16777216 (pDig 2)) [] w4a w4b xs [.slice pa4b pl4b pc4b] bl4) := q
  have C6 : Hid (Chg Non w4a w4b) := q.chg
  have K6 : Hid (Chg Non w w4b) := K5.out.two q.chg
  clear q hp
  obtain ⟨rfl, x4, r1, r2⟩ := GP.same Q4a.out Q4b.out
  have hs := sameNumbers_any _ _ (.slice pa4a pl4a pc4a) (.slice pa4b pl4b pc4b) x4 w4b (r1.oldN C6.out) r2
  clear r1 r2
  go_wp2_with (go_at_call 53; refine hs.mono ?_)
  rintro e v7 ⟨rfl, hc⟩
  have K7 : Hid (Chg Non w v7) := K6.out.two hc
  clear hc hs
  have hp := getVersions_any (.slice ao L c) xs v7 (HV.out _ K7.out)
  go_wp2_with (go_at_call 54; refine hp.mono ?_)
  rintro e w8a ⟨pa8a, pl8a, pc8a, al8, rfl, q⟩
  have Q8a : Hid (GP (.lst (.num .u16)) (pList 1 1 16777216 (pDig 2)) [] v7 w8a xs [.slice pa8a pl8a pc8a] al8) := q
  have C9 : Hid (Chg Non v7 w8a) := q.chg
  have K9 : Hid (Chg Non w w8a) := K7.out.two q.chg
  clear q hp
  have hp := dgetver_any (.slice ao L c) xs w8a (HV.out _ K9.out)
  go_wp2_with (go_at_call 55; refine hp.mono ?_)
  rintro e w8b ⟨pa8b, pl8b, pc8b, bl8, rfl, q⟩
  have Q8b : Hid (GP (.lst (.num .u16)) (pList 1 1 16777216 (pDig 2)) [] w8a w8b xs [.slice pa8b pl8b pc8b] bl8) := q
  have C10 : Hid (Chg Non w8a w8b) := q.chg
  have K10 : Hid (Chg Non w w8b) := K9.out.two q.chg
  clear q hp
  obtain ⟨rfl, x8, r1, r2⟩ := GP.same Q8a.out Q8b.out
  have hs := sameNumbers_any _ _ (.slice pa8a pl8a pc8a) (.slice pa8b pl8b pc8b) x8 w8b (r1.oldN C10.out) r2
  clear r1 r2
  go_wp2_with (go_at_call 53; refine hs.mono ?_)
  rintro e v11 ⟨rfl, hc⟩
  have K11 : Hid (Chg Non w v11) := K10.out.two hc
  clear hc hs
  have hp := getALPN_any (.slice ao L c) xs v11 (HV.out _ K11.out)
  go_wp2_with (go_at_call 56; refine hp.mono ?_)
  rintro e w12a ⟨pa12a, pl12a, pc12a, al12, rfl, q⟩
  have Q12a : Hid (GP (.lst .str) (pList 2 1 16777216 (pBytes 1 1 16777216)) [] v11 w12a xs [.slice pa12a pl12a pc12a] al12) := q
  have C13 : Hid (Chg Non v11 w12a) := q.chg
  have K13 : Hid (Chg Non w w12a) := K11.out.two q.chg
  clear q hp
  have hp := dalpn_any (.slice ao L c) xs w12a (HV.out _ K13.out)
  go_wp2_with (go_at_call 57; refine hp.mono ?_)
  rintro e w12b ⟨pa12b, pl12b, pc12b, bl12, rfl, q⟩
  have Q12b : Hid (GP (.lst .str) (pList 2 1 16777216 (pBytes 1 1 16777216)) [] w12a w12b xs [.slice pa12b pl12b pc12b] bl12) := q
  have C14 : Hid (Chg Non w12a w12b) := q.chg
  have K14 : Hid (Chg Non w w12b) := K13.out.two q.chg
  clear q hp
  obtain ⟨rfl, x12, r1, r2⟩ := GP.same Q12a.out Q12b.out
  have hs := sameTexts_any _ _ (.slice pa12a pl12a pc12a) (.slice pa12b pl12b pc12b) x12 w12b (r1.oldN C14.out) r2
  clear r1 r2
  go_wp2_with (go_at_call 58; refine hs.mono ?_)
  rintro e v15 ⟨rfl, hc⟩
  have K15 : Hid (Chg Non w v15) := K14.out.two hc
  clear hc hs
  have hp := getModes_any (.slice ao L c) xs v15 (HV.out _ K15.out)
  go_wp2_with (go_at_call 59; refine hp.mono ?_)
  rintro e w16a ⟨pa16a, pl16a, pc16a, al16, rfl, q⟩
  have Q16a : Hid (GP .byt (pBytes 1 1 16777216) [] v15 w16a xs [.slice pa16a pl16a pc16a] al16) := q
  have C17 : Hid (Chg Non v15 w16a) := q.chg
  have K17 : Hid (Chg Non w w16a) := K15.out.two q.chg
  clear q hp
  have hp := dmodes_any (.slice ao L c) xs w16a (HV.out _ K17.out)
  go_wp2_with (go_at_call 60; refine hp.mono ?_)
  rintro e w16b ⟨pa16b, pl16b, pc16b, bl16, rfl, q⟩
  have Q16b : Hid (GP .byt (pBytes 1 1 16777216) [] w16a w16b xs [.slice pa16b pl16b pc16b] bl16) := q
  have C18 : Hid (Chg Non w16a w16b) := q.chg
  have K18 : Hid (Chg Non w w16b) := K17.out.two q.chg
  clear q hp
  obtain ⟨rfl, x16, r1, r2⟩ := GP.same Q16a.out Q16b.out
  have t1 := r1.conv C18.out
  have t2 := r2.conv (Chg.refl Non w16b)
  obtain ⟨T16, hT16⟩ : ∃ T, T = strOfNums x16 := ⟨_, rfl⟩
  rw [← hT16] at t1 t2
  clear r1 r2 hT16
  have hp := getShares_any (.slice ao L c) xs w16b (HV.out _ K18.out)
  go_wp2_with (go_at_call 61; refine hp.mono ?_)
  rintro e w19a ⟨pa19a, pl19a, pc19a, al19, rfl, q⟩
  have Q19a : Hid (GP (.lst tExt) (pList 2 0 16777216 pShare) [] w16b w19a xs [.slice pa19a pl19a pc19a] al19) := q
  have C20 : Hid (Chg Non w16b w19a) := q.chg
  have K20 : Hid (Chg Non w w19a) := K18.out.two q.chg
  clear q hp
  have hp := dshares_any (.slice ao L c) xs w19a (HV.out _ K20.out)
  go_wp2_with (go_at_call 62; refine hp.mono ?_)
  rintro e w19b ⟨pa19b, pl19b, pc19b, bl19, rfl, q⟩
  have Q19b : Hid (GP (.lst tExt) (pList 2 0 16777216 pShare) [] w19a w19b xs [.slice pa19b pl19b pc19b] bl19) := q
  have C21 : Hid (Chg Non w19a w19b) := q.chg
  have K21 : Hid (Chg Non w w19b) := K20.out.two q.chg
  clear q hp
  obtain ⟨rfl, x19, r1, r2⟩ := GP.same Q19a.out Q19b.out
  have hs := sameShares_any _ _ (.slice pa19a pl19a pc19a) (.slice pa19b pl19b pc19b) x19 w19b (r1.oldN C21.out) r2
  clear r1 r2
  go_wp2_with (go_at_call 63; refine hs.mono ?_)
  rintro e v22 ⟨rfl, hc⟩
  have K22 : Hid (Chg Non w v22) := K21.out.two hc
  clear hc hs
  have hp := getShare_any (.slice ao L c) xs v22 (HV.out _ K22.out)
  go_wp2_with (go_at_call 64; refine hp.mono ?_)
  rintro e w23a ⟨n23a, pa23a, pl23a, pc23a, al23, rfl, q⟩
  have Q23a : Hid (GP tExt pShare ((0 : Int), []) v22 w23a xs [.int .u16 n23a, .slice pa23a pl23a pc23a] al23) := q
  have C24 : Hid (Chg Non v22 w23a) := q.chg
  have K24 : Hid (Chg Non w w23a) := K22.out.two q.chg
  clear q hp
  obtain ⟨y25, hy25⟩ : ∃ y, y = w23a.alloc (.cells #[.int .u16 n23a, .slice pa23a pl23a pc23a] 87) := ⟨_, rfl⟩
  have D25 : Hid (Chg Non w23a y25) := by rw [hy25]; exact (Chg.refl _ _).alloc _
  have E25 : Hid (y25.heap[w23a.heap.size]? = some (.cells #[.int .u16 n23a, .slice pa23a pl23a pc23a] 87)) := by rw [hy25]; exact heap_alloc_last _ _
  have HY25 : Hid (y25 = w23a.alloc (.cells #[.int .u16 n23a, .slice pa23a pl23a pc23a] 87)) := hy25
  have K25 : Hid (Chg Non w y25) := K24.out.two D25.out
  clear hy25
  have hp := dgetshare_any (.slice ao L c) xs y25 (HV.out _ K25.out)
  go_wp2_with fail
  rw [← HY25.out]
  refine hp.mono ?_
  rintro e w23b ⟨n23b, pa23b, pl23b, pc23b, bl23, rfl, q⟩
  have Q23b : Hid (GP tExt pShare ((0 : Int), []) y25 w23b xs [.int .u16 n23b, .slice pa23b pl23b pc23b] bl23) := q
  have C26 : Hid (Chg Non y25 w23b) := q.chg
  have K26 : Hid (Chg Non w w23b) := K25.out.two q.chg
  clear q hp
  obtain ⟨y27, hy27⟩ : ∃ y, y = w23b.alloc (.cells #[.int .u16 n23b, .slice pa23b pl23b pc23b] 87) := ⟨_, rfl⟩
  have D27 : Hid (Chg Non w23b y27) := by rw [hy27]; exact (Chg.refl _ _).alloc _
  have E27 : Hid (y27.heap[w23b.heap.size]? = some (.cells #[.int .u16 n23b, .slice pa23b pl23b pc23b] 87)) := by rw [hy27]; exact heap_alloc_last _ _
  have HY27 : Hid (y27 = w23b.alloc (.cells #[.int .u16 n23b, .slice pa23b pl23b pc23b] 87)) := hy27
  have K27 : Hid (Chg Non w y27) := K26.out.two D27.out
  clear hy27
  obtain ⟨rfl, x23, r1, r2⟩ := GP.same Q23a.out Q23b.out
  obtain ⟨g1, g2⟩ := Rel.split (us1 := [.int .u16 n23a]) (us2 := [.slice pa23a pl23a pc23a]) r1 rfl
  obtain ⟨f1, f2⟩ := Rel.split (us1 := [.int .u16 n23b]) (us2 := [.slice pa23b pl23b pc23b]) r2 rfl
  obtain rfl : n23a = n23b := Rel.num_eq2 g1 f1
  have t1 := g2.conv ((D25.out.two C26.out).two D27.out)
  have t2 := f2.conv D27.out
  obtain ⟨T23, hT23⟩ : ∃ T, T = strOfNums x23.2 := ⟨_, rfl⟩
  rw [← hT23] at t1 t2
  have hE : y27.heap[w23a.heap.size]? = some (.cells #[.int .u16 n23a, .slice pa23a pl23a pc23a] 87) := by
    rw [(C26.out.two D27.out).block _ (lt_somW E25.out) (fun s => s)]; exact E25.out
  obtain ⟨s1, s2⟩ := cell2 hE
  rw [HY27.out] at t1 t2 s1 s2
  clear r1 r2 g1 g2 f1 f2 hT23 hE
  have hp := getNumber_any (.slice ao L c) xs y27 (HV.out _ K27.out)
  go_wp2_with fail
  rw [← HY27.out]
  refine hp.mono ?_
  rintro e w28a ⟨n28a, al28, rfl, q⟩
  have Q28a : Hid (GP (.num .u16) (pDig 2) (0 : Int) y27 w28a xs [.int .u16 n28a] al28) := q
  have C29 : Hid (Chg Non y27 w28a) := q.chg
  have K29 : Hid (Chg Non w w28a) := K27.out.two q.chg
  clear q hp
  have hp := dgetnum_any (.slice ao L c) xs w28a (HV.out _ K29.out)
  go_wp2_with (go_at_call 67; refine hp.mono ?_)
  rintro e w28b ⟨n28b, bl28, rfl, q⟩
  have Q28b : Hid (GP (.num .u16) (pDig 2) (0 : Int) w28a w28b xs [.int .u16 n28b] bl28) := q
  have C30 : Hid (Chg Non w28a w28b) := q.chg
  have K30 : Hid (Chg Non w w28b) := K29.out.two q.chg
  clear q hp
  obtain ⟨rfl, x28, r1, r2⟩ := GP.same Q28a.out Q28b.out
  obtain rfl : n28a = n28b := Rel.num_eq2 r1 r2
  clear r1 r2
  have hp := getPSKs_any (.slice ao L c) xs w28b (HV.out _ K30.out)
  go_wp2_with (go_at_call 68; refine hp.mono ?_)
  rintro e w31a ⟨pa31a, pl31a, pc31a, n31a, al31, rfl, q⟩
  have Q31a : Hid (GP tOffer pOffer ([], (0 : Int)) w28b w31a xs [.slice pa31a pl31a pc31a, .int .i64 n31a] al31) := q
  have C32 : Hid (Chg Non w28b w31a) := q.chg
  have K32 : Hid (Chg Non w w31a) := K30.out.two q.chg
  clear q hp
  have hp := dpsks_any (.slice ao L c) xs w31a (HV.out _ K32.out)
  go_wp2_with (go_at_call 69; refine hp.mono ?_)
  rintro e w31b ⟨pa31b, pl31b, pc31b, n31b, bl31, rfl, q⟩
  have Q31b : Hid (GP tOffer pOffer ([], (0 : Int)) w31a w31b xs [.slice pa31b pl31b pc31b, .int .i64 n31b] bl31) := q
  have C33 : Hid (Chg Non w31a w31b) := q.chg
  have K33 : Hid (Chg Non w w31b) := K32.out.two q.chg
  clear q hp
  obtain ⟨rfl, x31, r1, r2⟩ := GP.same Q31a.out Q31b.out
  obtain ⟨g1, g2⟩ := Rel.split (us1 := [.slice pa31a pl31a pc31a]) (us2 := [.int .i64 n31a]) r1 rfl
  obtain ⟨f1, f2⟩ := Rel.split (us1 := [.slice pa31b pl31b pc31b]) (us2 := [.int .i64 n31b]) r2 rfl
  obtain rfl : n31a = n31b := Rel.num_eq2 g2 f2
  have hs := samePSKs_any _ _ (.slice pa31a pl31a pc31a) (.slice pa31b pl31b pc31b) x31.1 w31b (g1.oldN C33.out) f1
  clear r1 r2 g1 g2 f1 f2
  go_wp2_with (go_at_call 70; refine hs.mono ?_)
  rintro e v31 ⟨rfl, hc⟩
  have K31v : Hid (Chg Non w v31) := K33.out.two hc
  clear hc hs
  have hp := getCookie_any (.slice ao L c) xs v31 (HV.out _ K31v.out)
  go_wp2_with (go_at_call 71; refine hp.mono ?_)
  rintro e w34a ⟨pa34a, pl34a, pc34a, al34, rfl, q⟩
  have Q34a : Hid (GP .byt (pBytes 2 1 16777216) [] v31 w34a xs [.slice pa34a pl34a pc34a] al34) := q
  have C35 : Hid (Chg Non v31 w34a) := q.chg
  have K35 : Hid (Chg Non w w34a) := K31v.out.two q.chg
  clear q hp
  have hp := dcookie_any (.slice ao L c) xs w34a (HV.out _ K35.out)
  go_wp2_with (go_at_call 72; refine hp.mono ?_)
  rintro e w34b ⟨pa34b, pl34b, pc34b, bl34, rfl, q⟩
  have Q34b : Hid (GP .byt (pBytes 2 1 16777216) [] w34a w34b xs [.slice pa34b pl34b pc34b] bl34) := q
  have C36 : Hid (Chg Non w34a w34b) := q.chg
  have K36 : Hid (Chg Non w w34b) := K35.out.two q.chg
  clear q hp
  obtain ⟨rfl, x34, r1, r2⟩ := GP.same Q34a.out Q34b.out
  have t1 := r1.conv C36.out
  have t2 := r2.conv (Chg.refl Non w34b)
  obtain ⟨T34, hT34⟩ : ∃ T, T = strOfNums x34 := ⟨_, rfl⟩
  rw [← hT34] at t1 t2
  clear r1 r2 hT34
  have hp := getStatus_any (.slice ao L c) xs w34b (HV.out _ K36.out)
  go_wp2_with (go_at_call 73; refine hp.mono ?_)
  rintro e w37a ⟨pa37a, pl37a, pc37a, al37, rfl, q⟩
  have Q37a : Hid (GP .byt pStaple [] w34b w37a xs [.slice pa37a pl37a pc37a] al37) := q
  have C38 : Hid (Chg Non w34b w37a) := q.chg
  have K38 : Hid (Chg Non w w37a) := K36.out.two q.chg
  clear q hp
  have hp := dstatus_any (.slice ao L c) xs w37a (HV.out _ K38.out)
  go_wp2_with (go_at_call 74; refine hp.mono ?_)
  rintro e w37b ⟨pa37b, pl37b, pc37b, bl37, rfl, q⟩
  have Q37b : Hid (GP .byt pStaple [] w37a w37b xs [.slice pa37b pl37b pc37b] bl37) := q
  have C39 : Hid (Chg Non w37a w37b) := q.chg
  have K39 : Hid (Chg Non w w37b) := K38.out.two q.chg
  clear q hp
  obtain ⟨rfl, x37, r1, r2⟩ := GP.same Q37a.out Q37b.out
  have t1 := r1.conv C39.out
  have t2 := r2.conv (Chg.refl Non w37b)
  obtain ⟨T37, hT37⟩ : ∃ T, T = strOfNums x37 := ⟨_, rfl⟩
  rw [← hT37] at t1 t2
  clear r1 r2 hT37
  go_wp2
  go_ret
  exact ⟨rfl, K39.out⟩
end Go.Proofs.Ytdhckndehijemaa
namespace Go.Proofs.Ytdhckndehijemaa.wireExtensions
open Go.ChangeShapes Go.WideShapes Go.ChangeAt Go.RowKit
set_option linter.unusedVariables false

set_option maxRecDepth 100000 in
theorem lifted (os : Os) (started : os.Started) (H : Type) (enc : TypeId × Value → H) :
    ReturnsInHanded {} Try.checked os 6 .any (Rows.wireExtensionsSpec.pre6 enc Try.prog Try.f6 Rows.wireExtensionsRow.domain false) (Rows.wireExtensionsSpec.post enc Try.prog Try.f6 false true false false) := by
  refine returnsInHanded_of_change_sized (C := Try.checked) own started (by kernel_rfl) Try.func6
    (ChangeSpec.witness6 (enc := enc) (C := Try.checked) false ⟨#[], #[.slice none 0 0], []⟩ 8 (by kernel_rfl) (by kernel_rfl) (by kernel_rfl) (by kernel_rfl)) ?_
  intro W base args ds gs before hval0 hW hcnd hsz0 _
  have hsz : (DataW.weightsEach Try.prog (Try.f6.params.toList ++ Rows.wireExtensionsSpec.plain.varTypes Try.prog) (ds ++ gs)).all (· ≤ reachBytes) = true := hsz0
  clear hsz0
  have hval : ∀ (j : Nat) t v, Try.f6.params[j]? = some t → args[j]? = some v → Value.okWide Try.prog W .any base t v := hval0
  have hW' := hW
  obtain ⟨p, q, hA0, hV, rfl, hfz, hnd⟩ := hW
  have hA : DataW.TrodAll enc Try.prog W 0 (fun _ => true) true Try.f6.params.toList args.toList ds p := hA0
  rw [Try.params6] at hA hval hsz
  obtain ⟨v0, vs0, d0, ds0, p0, q0, hargs, rfl, rfl, h0, r0⟩ := trodAll_cons hA
  obtain ⟨rfl, rfl, rfl⟩ := trodAll_nil r0
  obtain rfl : args = #[v0] := by cases args; simp_all
  obtain ⟨rfl, rfl⟩ := trodVars_none hV
  obtain ⟨a0, len0, cap0, rfl⟩ := okWide_slice Try.underlying23 (hval 0 23 v0 rfl rfl)
  have lt0 : ∀ x ∈ p0, x.block < W.heap.size := by obtain ⟨m, hm⟩ := h0; exact DataW.trod_lt m _ _ _ hm
  obtain ⟨x0, g0, l0⟩ := bytes_in hsz (j := 0) rfl rfl (hval 0 23 _ rfl rfl) h0
  clear hA0 hval0
  refine (exts_law a0 len0 cap0 x0 W g0).mono fun e W' ⟨he, chg⟩ => ?_
  subst he
  have bel := below chg
  exact ⟨_, rfl, _, _, _, [], _, [], hW', trodAll_mk1 (shut_bool Try.underlying4 _), (trodAll_cons_mk (Below.trod laidOut (by kernel_rfl) (of_decide_eq_true (by kernel_rfl)) h0 bel lt0) trodAll_mk0), rfl, bel.frame _, fun h => by cases h⟩

theorem over : Rows.wireExtensionsRow.holds Try.pinned (OpenSpec.ofChange Rows.wireExtensionsSpec) :=
  OpenClaim.holds_of_wide 6 Try.f6 rfl rfl rfl rfl rfl rfl rfl ⟨rfl, rfl, rfl, rfl, rfl⟩ rfl rfl rfl rfl rfl (by kernel_rfl) Try.func6 (by kernel_rfl)
    (of_decide_eq_true (by kernel_rfl)) (by unfold Func.isWrapper; first | (rw [if_pos (by decide +kernel)]; kernel_rfl) | (rw [if_neg (by decide +kernel)]; exact ⟨rfl, rfl⟩))
    (fun os started H enc _ => lifted os started H enc)

theorem proved : Rows.WireExtensionsSaid := over
end Go.Proofs.Ytdhckndehijemaa.wireExtensions
namespace Go.Proofs.Ytdhckndehijemaa
theorem wireExtensions_holds : Rows.WireExtensionsSaid := wireExtensions.proved
end Go.Proofs.Ytdhckndehijemaa
