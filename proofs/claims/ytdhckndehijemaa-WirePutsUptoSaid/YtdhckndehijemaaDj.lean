/-
  The document's readers of numbers, of texts, of shares.
-/
import Derived.Test.YtdhckndehijemaaMj30
import Derived.Test.YtdhckndehijemaaLx
import Derived.Test.YtdhckndehijemaaLs
import Derived.Test.YtdhckndehijemaaMj23
namespace Go.Proofs.Ytdhckndehijemaa
open Go.RowKit
set_option linter.unusedVariables false
set_option maxRecDepth 100000

theorem DP.past {t : Ty} {p : Pr t.Dat} {a b c d : World} {r B2 : Nat} {s : St} {us : List Value} {x : t.Dat} (h : DP t p b c r s us x) (k : Chg Non a b) (c' : Chg (One B2) c d) (hB : a.heap.size ≤ B2) (hB' : B2 < b.heap.size) (hr : r < a.heap.size) : DP t p a d r s us x := by
  obtain ⟨s2, q1, q2⟩ := h.ps.st
  exact ⟨(h.rel.chg c' (fun i e => by have e' : i = B2 := e; omega)).btw k.size c'.size, ((k.non _).trans h.ps.chg (fun _ _ q => q)).trans c' (fun i hi e => by have e' : i = B2 := e; omega), s2, q1.keep c' (fun i e => by have e' : i = B2 := e; omega), q2⟩

set_option maxHeartbeats 3200000 in
theorem dshare_any (r : Nat) (s : St) (w : World) (h : DS w r s) : Calls Try.prog 152 #[.pointer (some ⟨r, 0, none⟩)] w fun e w' => ∃ n a l c x, e = .returned (.agg #[.int .u16 n, .slice a l c]) ∧ DP tExt pShare w w' r s [.int .u16 n, .slice a l c] x := by
  obtain ⟨w0, hw0⟩ : ∃ w0, w0 = w.alloc (.cells #[.int .u16 0, .slice none 0 0] 87) := ⟨_, rfl⟩
  have c0 : Chg Non w w0 := by rw [hw0]; exact (Chg.refl _ _).alloc _
  have H0 : Hid (r < w.heap.size ∧ Chg Non w w0 ∧ w.heap.size < w0.heap.size ∧ w0.heap[w.heap.size]? = some (.cells #[.int .u16 0, .slice none 0 0] 87)) := ⟨h.lt, c0, by rw [hw0]; simp, by rw [hw0]; exact heap_alloc_last w _⟩
  have HW0 : Hid (w0 = w.alloc (.cells #[.int .u16 0, .slice none 0 0] 87)) := hw0
  have hn := dnumber_any r 2 (by decide) s w0 (h.non c0)
  clear h c0 hw0
  go_enter Try.func152, Try.ntmps152
  go_wp2_with fail
  rw [← HW0.out]
  refine hn.mono ?_
  rintro e w1 ⟨n, rfl, hx⟩
  have hw16 := hx.w16
  obtain ⟨s1, q1, q2⟩ := hx.ps.st
  have H1 : Hid (DP (.num .u16) (pDig 2) w0 w1 r s [.int .u16 n] n ∧ Res (pDig 2) s n s1) := ⟨hx.rp2, q2⟩
  obtain ⟨w2, hw2⟩ : ∃ w2, w2 = w1.alloc (.cells #[.int .u16 n, .slice none 0 0] 87) := ⟨_, rfl⟩
  have c2 : Chg Non w1 w2 := by rw [hw2]; exact (Chg.refl _ _).alloc _
  have hl := dlist_any r 2 1 65535 16777216 (by decide) 2 1 65535 rfl rfl rfl (lim2 (by decide)) s1 w2 (q1.non c2)
  have H2 : Hid (Chg Non w1 w2 ∧ w1.heap.size < w2.heap.size ∧ w2.heap[w1.heap.size]? = some (.cells #[.int .u16 n, .slice none 0 0] 87) ∧ w.heap.size < w1.heap.size) := ⟨c2, by rw [hw2]; simp, by rw [hw2]; exact heap_alloc_last w1 _, Nat.lt_of_lt_of_le H0.out.2.2.1 hx.ps.chg.size⟩
  have HW2 : Hid (w2 = w1.alloc (.cells #[.int .u16 n, .slice none 0 0] 87)) := hw2
  clear hx q1 q2 hn c2 hw2
  go_wp2_with fail
  rw [← HW2.out]
  refine hl.mono ?_
  rintro e w3 ⟨a, l, c, ys, rfl, hk, -, -⟩
  have HK : Hid (DP .byt (pBytes 2 1 16777216) w2 w3 r s1 [.slice a l c] ys) := hk.dp
  have hB : w3.heap[w.heap.size]? = some (.cells #[.int .u16 0, .slice none 0 0] 87) := by
    have e1 : w1.heap[w.heap.size]? = some (.cells #[.int .u16 0, .slice none 0 0] 87) := by
      rw [H1.out.1.ps.chg.block _ (lt_somW H0.out.2.2.2) (fun e => by have e' : w.heap.size = r := e; have := H0.out.1; omega)]; exact H0.out.2.2.2
    have e2 : w2.heap[w.heap.size]? = some (.cells #[.int .u16 0, .slice none 0 0] 87) := by rw [H2.out.1.block _ (lt_somW e1) (fun e => e)]; exact e1
    rw [hk.ps.chg.block _ (lt_somW e2) (fun e => by have e' : w.heap.size = r := e; have := H0.out.1; omega)]; exact e2
  have hB2 : w3.heap[w1.heap.size]? = some (.cells #[.int .u16 n, .slice none 0 0] 87) := by
    rw [hk.ps.chg.block _ (lt_somW H2.out.2.2.1) (fun e => by have e' : w1.heap.size = r := e; have := H0.out.1; have := H2.out.2.2.2; omega)]; exact H2.out.2.2.1
  obtain ⟨x0, x1⟩ := cell2 hB
  obtain ⟨y0, y1⟩ := cell2 hB2
  have f0 := frozen_of_row w3 w.heap.size 0 _ _ hB
  have f1 := frozen_of_row w3 w.heap.size 1 _ _ hB
  have g0 := frozen_of_row w3 w1.heap.size 0 _ _ hB2
  have g1 := frozen_of_row w3 w1.heap.size 1 _ _ hB2
  obtain ⟨B2, hB2e⟩ : ∃ B2, B2 = w1.heap.size := ⟨_, rfl⟩
  have hlt : w.heap.size < B2 := by rw [hB2e]; exact H2.out.2.2.2
  have HB2 : Hid (B2 = w1.heap.size) := hB2e
  rw [← hB2e] at y0 y1 g0 g1 ⊢
  have hm3 := set_two1 (.slice a l c) hB2
  have hne : B2 ≠ w.heap.size := by omega
  have hB4 : (w3.setCell ⟨B2, 1, none⟩ (.slice a l c)).heap[w.heap.size]? = some (.cells #[.int .u16 0, .slice none 0 0] 87) := by
    rw [(chg_rest w3 B2 1 (.slice a l c)).block _ (lt_somW hB) (fun e => hne (by have e' : w.heap.size = B2 := e; exact e'.symm))]; exact hB
  rw [← hB2e] at hm3
  obtain ⟨y0', y1'⟩ := cell2 hm3
  obtain ⟨x0', x1'⟩ := cell2 hB4
  have f0' := frozen_of_row _ w.heap.size 0 _ _ hB4
  have f1' := frozen_of_row _ w.heap.size 1 _ _ hB4
  clear hB hB2 hk hl hB2e hm3 hB4
  go_wp2_with fail
  have P2 : DP .byt (pBytes 2 1 16777216) w1 (w3.setCell ⟨B2, 1, none⟩ (.slice a l c)) r s1 [.slice a l c] ys := HK.out.past H2.out.1 (chg_rest _ _ _ _) (by rw [HB2.out]; exact Nat.le_refl _) (by rw [HB2.out]; exact H2.out.2.1) (Nat.lt_trans H0.out.1 H2.out.2.2.2)
  have P1 := H1.out.1.pair H1.out.2 P2 (Nat.lt_trans H0.out.1 H0.out.2.2.1)
  refine bodyPost_ret (v := .agg #[.int .u16 n, .slice a l c]) ?_ rfl ⟨n, a, l, c, _, rfl, P1.outC H0.out.2.1 H0.out.2.2.1 (chg_two _ _ _ _) H0.out.1⟩
  simp [results, Try.results152, go_sem, x0', x1']


set_option maxHeartbeats 800000 in
theorem dgetlist_any (v : Value) (xs : List Int) (w : World) (h : Bt (Bel w.heap.size) w v xs) : Calls Try.prog 52 #[v] w fun e w' => ∃ ao L c al, e = .returned (.tuple #[.slice ao L c, .int .i64 al]) ∧ GP (.lst (.num .u16)) (pList 2 1 16777216 (pDig 2)) [] w w' xs [.slice ao L c] al := by
  have hp := dnumbers_any v xs w h 2 (by decide) (lim2 (by decide))
  clear h
  go_enter Try.func52, Try.ntmps52
  go_wp2_with (go_at_call 144; refine hp.mono ?_)
  rintro e w2 ⟨ao, L, c, al, rfl, hq⟩
  have HQ : Hid (GP (.lst (.num .u16)) (pList 2 1 16777216 (pDig 2)) [] w w2 xs [.slice ao L c] al) := hq
  clear hq hp
  go_wp2
  go_ret2
  exact ⟨ao, L, c, al, rfl, HQ.out⟩

set_option maxHeartbeats 800000 in
theorem dgetver_any (v : Value) (xs : List Int) (w : World) (h : Bt (Bel w.heap.size) w v xs) : Calls Try.prog 55 #[v] w fun e w' => ∃ ao L c al, e = .returned (.tuple #[.slice ao L c, .int .i64 al]) ∧ GP (.lst (.num .u16)) (pList 1 1 16777216 (pDig 2)) [] w w' xs [.slice ao L c] al := by
  have hp := dnumbers_any v xs w h 1 (by decide) (lim1 (by decide))
  clear h
  go_enter Try.func55, Try.ntmps55
  go_wp2_with (go_at_call 144; refine hp.mono ?_)
  rintro e w2 ⟨ao, L, c, al, rfl, hq⟩
  have HQ : Hid (GP (.lst (.num .u16)) (pList 1 1 16777216 (pDig 2)) [] w w2 xs [.slice ao L c] al) := hq
  clear hq hp
  go_wp2
  go_ret2
  exact ⟨ao, L, c, al, rfl, HQ.out⟩

set_option maxHeartbeats 3200000 in
theorem dalpn_any (v : Value) (xs : List Int) (w : World) (h : Bt (Bel w.heap.size) w v xs) : Calls Try.prog 57 #[v] w fun e w' => ∃ ao L c al, e = .returned (.tuple #[.slice ao L c, .int .i64 al]) ∧ GP (.lst (.str)) (pList 2 1 16777216 (pBytes 1 1 16777216)) [] w w' xs [.slice ao L c] al := by
  obtain ⟨w1, hw1⟩ : ∃ w1, w1 = w.alloc (.cells #[v, .bool false, .bool false] 124) := ⟨_, rfl⟩
  have R1 : DS w1 w.heap.size (some (xs, false)) := by rw [hw1]; exact DS.begin h
  have C1 : Hid (Chg Non w w1) := by rw [hw1]; exact (Chg.refl _ _).alloc _
  have HW1 : Hid (w1 = w.alloc (.cells #[v, .bool false, .bool false] 124)) := hw1
  have HLT : Hid (w.heap.size < w1.heap.size) := by show _ < _; rw [hw1]; simp
  obtain ⟨ao0, N0, c0, rfl⟩ : ∃ ao n c, v = .slice ao n c := by
    obtain ⟨h1, -⟩ := h
    obtain ⟨ao, n, c, e, -⟩ := h1.shape
    exact ⟨ao, n, c, e⟩
  clear h hw1
  have HB : Hid (∀ zs o, (some (xs, false) : St) = some (zs, o) → Byt zs) := fun zs o e => DB.byt R1 e
  have hp := dpart_any w.heap.size 2 1 65535 16777216 (by decide) 2 1 65535 rfl rfl rfl (lim2 (by decide)) _ w1 R1
  clear R1
  go_enter Try.func57, Try.ntmps57
  go_wp2_with fail
  rw [← HW1.out]
  refine hp.mono ?_
  rintro e w4 ⟨P, s1, body, rfl, hpt⟩
  have HPT : Hid (PT 2 1 16777216 w1 w4 w.heap.size P (some (xs, false)) s1 body) := hpt
  have HL : Hid (DI (.str) 9 (pBytes 1 1 16777216) w4 P (prt s1) body [] (.slice none 0 0) w4 (inn (prt s1) body)) := di_start hpt
  have HP4 : Hid (P < w4.heap.size ∧ w.heap.size < P) := ⟨hpt.part.lt, Nat.lt_of_lt_of_le HLT.out hpt.new⟩
  have HST : Hid (∀ zs o, inn (prt s1) body = some (zs, o) → zs.length ≤ body.length) := fun zs o e => by have := HL.out.lt zs o e; simpa using this
  clear hpt hp
  go_wp2_with fail
  go_loopg [6] body.length (fun m va wr => ∃ pre sc, Hid (DI (.str) 9 (pBytes 1 1 16777216) w4 P (prt s1) body pre va wr sc) ∧ Hid (∀ zs o, sc = some (zs, o) → zs.length ≤ m))
  case atStart => exact ⟨[], inn (prt s1) body, HL.out, HST.out⟩
  case round =>
    obtain ⟨pre, sc, hI, hm⟩ := hrel
    obtain ⟨cs, hcs⟩ := hI.out.row
    have hmo := dmore_any P sc wr hI.out.st
    obtain ⟨M, hM⟩ : ∃ M, M = mor sc := ⟨_, rfl⟩
    rw [← hM] at hmo
    have HMo : Hid (M = mor sc) := hM
    have HCS : Hid (LR (.str) 9 w4.heap.size wr u6 cs pre) := hcs
    clear hM hcs
    go_wp2_with (go_at_call 121; refine hmo.mono ?_)
    rintro e w5 ⟨rfl, rfl⟩
    clear hmo
    cases M with
    | true =>
      have HNE : Hid (∃ zs' o, sc = some (zs', o) ∧ zs' ≠ []) := mor_more HMo.out.symm
      have HP := dlist_any P 1 1 255 16777216 (by decide) 1 1 255 rfl rfl rfl (lim1 (by decide)) sc w5 hI.out.st
      obtain ⟨i0, p1, p2, p3, p4⟩ := info_parts info9
      go_wp2_with (go_at_call 119; refine HP.mono ?_)
      rintro e w6 ⟨ya, yl, yc, x, rfl, hk, -, -⟩
      have hs := run_str w6 _ x hk.bt.1
      obtain ⟨S, hS⟩ : ∃ S, S = strOfNums x := ⟨_, rfl⟩
      rw [← hS] at hs
      have hx' : DP .str (pBytes 1 1 16777216) w5 w6 P sc [.string S] x := ⟨⟨by rw [hS], hk.bt.2.1⟩, hk.ps⟩
      clear hk hS
      have HX : Hid (DP (.str) (pBytes 1 1 16777216) w5 w6 P sc [.string S] x) := hx'
      have HRO := DI.row2 (.cells #[.string S] 9) hI.out hx' HCS.out HP4.out.1
      have HRO' : Hid ((w6.alloc (.cells #[.string S] 9)).ownsRow w4.heap.size 9 1 u6 pre.length cs.flatten ∧ w4.heap.size ≤ (w6.alloc (.cells #[.string S] 9)).heap.size) := HRO
      have HBB : Hid (pre.length + 1 ≤ maxLen ∧ (pre.length + 1) * 16 ≤ 140737488355328) := by
        have h1 := hI.out.le
        have h2 := HPT.out.len
        exact ⟨by unfold maxLen; omega, by omega⟩
      have HONE : Hid (∀ u ∈ ([.string S] : List Value), u.oneCell' = true) := by
        intro u hu
        simp at hu
        rw [hu]; rfl
      have HNEW : Hid (∀ j u, ([.string S] : List Value)[j]? = some u → (w6.alloc (.cells #[.string S] 9)).cell? ((⟨w6.heap.size, 0, none⟩ : Addr).add j) = some u) := fun j u hj => by
        rw [Addr.add_lit, cell_of_row _ w6.heap.size (0 + j) _ 9 (0, 0) (heap_alloc_last w6 _)]
        simpa using hj
      clear hx' HRO HP
      go_wp2_with (at_builtin; refine wpList_append_own_at _ rfl _ _ 76 rfl w4.heap.size 9 i0 _ 1 16 Try.underlying76 p1 p2 p3 p4 rfl (by decide) u6 pre.length cs.flatten rfl HRO'.out.1 ⟨w6.heap.size, 0, none⟩ 1 1 [.string S] rfl rfl HNEW.out HONE.out HBB.out.1 HBB.out.2 HRO'.out.2 ?_)
      intro va' w8 hrow8 hgrow8 _ hblk8
      obtain ⟨sc', n1, n2⟩ := DI.more (pBytes_shr (by decide)) hI.out HNE.out HX.out HCS.out hrow8 hgrow8 hblk8 HP4.out.1
      have N1 : Hid (DI (.str) 9 (pBytes 1 1 16777216) w4 P (prt s1) body (snocD (t := .str) pre x) va' w8 sc') := n1
      have HG : Hid (0 < gk ∧ ∀ zs o, sc' = some (zs, o) → zs.length ≤ gk - 1) := by
        obtain ⟨zs1, o1, hs1, hn1⟩ := HNE.out
        have h1 := hm.out zs1 o1 hs1
        have h2 : 0 < zs1.length := List.length_pos_iff.2 hn1
        refine ⟨by omega, fun zs2 o2 e => ?_⟩
        rcases n2 with n2 | ⟨zs3, o3, e3, n2⟩
        · rw [n2] at e; cases e
        · rw [e3] at e
          injection e with e
          injection e with e _
          subst e
          have := n2 zs1 o1 hs1
          omega
      obtain ⟨g8, cap8, rfl⟩ := ownsRow_succ hrow8
      clear hrow8 hgrow8 hblk8 n1 n2 HRO' HNEW HX HBB p1 p2 p3 p4
      go_wp2
      go_roundg (gk - 1)
      case measure => have := HG.out.1; omega
      case rel => exact ⟨snocD (t := .str) pre x, sc', N1.out, HG.out.2⟩
    | false =>
      obtain ⟨ao, L, c, rfl⟩ : ∃ ao n c, u6 = .slice ao n c := by
        obtain ⟨a, b, e⟩ := ownsRow_any HCS.out.row
        exact ⟨a, _, b, e⟩
      have hwi := dwith_any w.heap.size P (by have := HP4.out.2; omega) s1 sc w5 (HPT.out.st.keep hI.out.chg (fun k e => by have e' : k = P := e; have := HP4.out.2; omega)) hI.out.st
      go_wp2_with (go_at_call 122; refine hwi.mono ?_)
      rintro e w6 ⟨rfl, c6, h6⟩
      obtain ⟨x, hxe⟩ : ∃ x, x = pre := ⟨_, rfl⟩
      have hx : DP (.lst (.str)) (pList 2 1 16777216 (pBytes 1 1 16777216)) w1 w6 w.heap.size (some (xs, false)) [.slice ao L c] x := by
        rw [hxe]
        exact di_fin (pBytes_shr (by decide)) (by decide) HB.out HLT.out HPT.out hI.out HMo.out.symm c6 h6 (many_pos (pBytes_shr (by decide)) (by decide) (shr_min (pBytes_shr (by decide))))
      clear hwi c6 h6 hxe
      obtain ⟨s9, q1, q2⟩ := hx.ps.st
      have he := dend_any w.heap.size s9 w6 q1
      obtain ⟨A, hA⟩ : ∃ A, A = endA s9 := ⟨_, rfl⟩
      rw [← hA] at he
      have HQ : Hid (DP (.lst (.str)) (pList 2 1 16777216 (pBytes 1 1 16777216)) w1 w6 w.heap.size (some (xs, false)) [.slice ao L c] x ∧ Res (pList 2 1 16777216 (pBytes 1 1 16777216)) (some (xs, false)) x s9 ∧ A = endA s9) := ⟨hx, q2, hA⟩
      clear hx q1 q2 hA
      go_wp2_with (go_at_call 106; refine he.mono ?_)
      rintro e w9 ⟨rfl, rfl⟩
      clear he
      by_cases hz : A = 0
      · subst hz
        go_wp2_with fail
        go_ret2
        exact ⟨ao, L, c, 0, rfl, GP.dok HQ.out.1 HQ.out.2.1 HQ.out.2.2.symm C1.out (Chg.refl _ _)⟩
      · have d1 : (A != 0) = true := by simpa using hz
        have HZ : Hid (A ≠ 0) := hz
        clear hz
        go_wp2_with fail
        go_ret2
        exact ⟨none, 0, 0, A, rfl, GP.dbad HQ.out.1 HQ.out.2.1 HQ.out.2.2 HZ.out C1.out (Chg.refl _ _) (Rel.nil _ _ _)⟩

set_option maxHeartbeats 3200000 in
theorem dshares_any (v : Value) (xs : List Int) (w : World) (h : Bt (Bel w.heap.size) w v xs) : Calls Try.prog 62 #[v] w fun e w' => ∃ ao L c al, e = .returned (.tuple #[.slice ao L c, .int .i64 al]) ∧ GP (.lst tExt) (pList 2 0 16777216 (pShare)) [] w w' xs [.slice ao L c] al := by
  obtain ⟨w1, hw1⟩ : ∃ w1, w1 = w.alloc (.cells #[v, .bool false, .bool false] 124) := ⟨_, rfl⟩
  have R1 : DS w1 w.heap.size (some (xs, false)) := by rw [hw1]; exact DS.begin h
  have C1 : Hid (Chg Non w w1) := by rw [hw1]; exact (Chg.refl _ _).alloc _
  have HW1 : Hid (w1 = w.alloc (.cells #[v, .bool false, .bool false] 124)) := hw1
  have HLT : Hid (w.heap.size < w1.heap.size) := by show _ < _; rw [hw1]; simp
  obtain ⟨ao0, N0, c0, rfl⟩ : ∃ ao n c, v = .slice ao n c := by
    obtain ⟨h1, -⟩ := h
    obtain ⟨ao, n, c, e, -⟩ := h1.shape
    exact ⟨ao, n, c, e⟩
  clear h hw1
  have HB : Hid (∀ zs o, (some (xs, false) : St) = some (zs, o) → Byt zs) := fun zs o e => DB.byt R1 e
  have hp := dpart_any w.heap.size 2 0 65535 16777216 (by decide) 2 0 65535 rfl rfl rfl (lim2 (by decide)) _ w1 R1
  clear R1
  go_enter Try.func62, Try.ntmps62
  go_wp2_with fail
  rw [← HW1.out]
  refine hp.mono ?_
  rintro e w4 ⟨P, s1, body, rfl, hpt⟩
  have HPT : Hid (PT 2 0 16777216 w1 w4 w.heap.size P (some (xs, false)) s1 body) := hpt
  have HL : Hid (DI (tExt) 87 (pShare) w4 P (prt s1) body [] (.slice none 0 0) w4 (inn (prt s1) body)) := di_start hpt
  have HP4 : Hid (P < w4.heap.size ∧ w.heap.size < P) := ⟨hpt.part.lt, Nat.lt_of_lt_of_le HLT.out hpt.new⟩
  have HST : Hid (∀ zs o, inn (prt s1) body = some (zs, o) → zs.length ≤ body.length) := fun zs o e => by have := HL.out.lt zs o e; simpa using this
  clear hpt hp
  go_wp2_with fail
  go_loopg [6] body.length (fun m va wr => ∃ pre sc, Hid (DI (tExt) 87 (pShare) w4 P (prt s1) body pre va wr sc) ∧ Hid (∀ zs o, sc = some (zs, o) → zs.length ≤ m))
  case atStart => exact ⟨[], inn (prt s1) body, HL.out, HST.out⟩
  case round =>
    obtain ⟨pre, sc, hI, hm⟩ := hrel
    obtain ⟨cs, hcs⟩ := hI.out.row
    have hmo := dmore_any P sc wr hI.out.st
    obtain ⟨M, hM⟩ : ∃ M, M = mor sc := ⟨_, rfl⟩
    rw [← hM] at hmo
    have HMo : Hid (M = mor sc) := hM
    have HCS : Hid (LR (tExt) 87 w4.heap.size wr u6 cs pre) := hcs
    clear hM hcs
    go_wp2_with (go_at_call 121; refine hmo.mono ?_)
    rintro e w5 ⟨rfl, rfl⟩
    clear hmo
    cases M with
    | true =>
      have HNE : Hid (∃ zs' o, sc = some (zs', o) ∧ zs' ≠ []) := mor_more HMo.out.symm
      have HP := dshare_any P sc w5 hI.out.st
      obtain ⟨i0, p1, p2, p3, p4⟩ := info_parts info87
      go_wp2_with (go_at_call 152; refine HP.mono ?_)
      rintro e w6 ⟨tn, ta, tl, tc, x, rfl, hx'⟩
      have HX : Hid (DP (tExt) (pShare) w5 w6 P sc [.int .u16 tn, .slice ta tl tc] x) := hx'
      have HRO := DI.row2 (.cells #[.int .u16 tn, .slice ta tl tc] 87) hI.out hx' HCS.out HP4.out.1
      have HRO' : Hid ((w6.alloc (.cells #[.int .u16 tn, .slice ta tl tc] 87)).ownsRow w4.heap.size 87 2 u6 pre.length cs.flatten ∧ w4.heap.size ≤ (w6.alloc (.cells #[.int .u16 tn, .slice ta tl tc] 87)).heap.size) := HRO
      have HBB : Hid (pre.length + 1 ≤ maxLen ∧ (pre.length + 1) * 32 ≤ 140737488355328) := by
        have h1 := hI.out.le
        have h2 := HPT.out.len
        exact ⟨by unfold maxLen; omega, by omega⟩
      have HONE : Hid (∀ u ∈ ([.int .u16 tn, .slice ta tl tc] : List Value), u.oneCell' = true) := by
        intro u hu
        simp at hu
        rcases hu with rfl | rfl <;> rfl
      have HNEW : Hid (∀ j u, ([.int .u16 tn, .slice ta tl tc] : List Value)[j]? = some u → (w6.alloc (.cells #[.int .u16 tn, .slice ta tl tc] 87)).cell? ((⟨w6.heap.size, 0, none⟩ : Addr).add j) = some u) := fun j u hj => by
        rw [Addr.add_lit, cell_of_row _ w6.heap.size (0 + j) _ 87 (0, 0) (heap_alloc_last w6 _)]
        simpa using hj
      clear hx' HRO HP
      go_wp2_with (at_builtin; refine wpList_append_own_at _ rfl _ _ 82 rfl w4.heap.size 87 i0 _ 2 32 Try.underlying82 p1 p2 p3 p4 rfl (by decide) u6 pre.length cs.flatten rfl HRO'.out.1 ⟨w6.heap.size, 0, none⟩ 1 1 [.int .u16 tn, .slice ta tl tc] rfl rfl HNEW.out HONE.out HBB.out.1 HBB.out.2 HRO'.out.2 ?_)
      intro va' w8 hrow8 hgrow8 _ hblk8
      obtain ⟨sc', n1, n2⟩ := DI.more pShare_shr hI.out HNE.out HX.out HCS.out hrow8 hgrow8 hblk8 HP4.out.1
      have N1 : Hid (DI (tExt) 87 (pShare) w4 P (prt s1) body (snocD (t := tExt) pre x) va' w8 sc') := n1
      have HG : Hid (0 < gk ∧ ∀ zs o, sc' = some (zs, o) → zs.length ≤ gk - 1) := by
        obtain ⟨zs1, o1, hs1, hn1⟩ := HNE.out
        have h1 := hm.out zs1 o1 hs1
        have h2 : 0 < zs1.length := List.length_pos_iff.2 hn1
        refine ⟨by omega, fun zs2 o2 e => ?_⟩
        rcases n2 with n2 | ⟨zs3, o3, e3, n2⟩
        · rw [n2] at e; cases e
        · rw [e3] at e
          injection e with e
          injection e with e _
          subst e
          have := n2 zs1 o1 hs1
          omega
      obtain ⟨g8, cap8, rfl⟩ := ownsRow_succ hrow8
      clear hrow8 hgrow8 hblk8 n1 n2 HRO' HNEW HX HBB p1 p2 p3 p4
      go_wp2
      go_roundg (gk - 1)
      case measure => have := HG.out.1; omega
      case rel => exact ⟨snocD (t := tExt) pre x, sc', N1.out, HG.out.2⟩
    | false =>
      obtain ⟨ao, L, c, rfl⟩ : ∃ ao n c, u6 = .slice ao n c := by
        obtain ⟨a, b, e⟩ := ownsRow_any HCS.out.row
        exact ⟨a, _, b, e⟩
      have hwi := dwith_any w.heap.size P (by have := HP4.out.2; omega) s1 sc w5 (HPT.out.st.keep hI.out.chg (fun k e => by have e' : k = P := e; have := HP4.out.2; omega)) hI.out.st
      go_wp2_with (go_at_call 122; refine hwi.mono ?_)
      rintro e w6 ⟨rfl, c6, h6⟩
      obtain ⟨x, hxe⟩ : ∃ x, x = pre := ⟨_, rfl⟩
      have hx : DP (.lst tExt) (pList 2 0 16777216 (pShare)) w1 w6 w.heap.size (some (xs, false)) [.slice ao L c] x := by
        rw [hxe]
        exact di_fin pShare_shr (by decide) HB.out HLT.out HPT.out hI.out HMo.out.symm c6 h6 (fun b l o _ => ⟨fun _ => Nat.zero_le _, fun _ => Nat.zero_le _⟩)
      clear hwi c6 h6 hxe
      obtain ⟨s9, q1, q2⟩ := hx.ps.st
      have he := dend_any w.heap.size s9 w6 q1
      obtain ⟨A, hA⟩ : ∃ A, A = endA s9 := ⟨_, rfl⟩
      rw [← hA] at he
      have HQ : Hid (DP (.lst tExt) (pList 2 0 16777216 (pShare)) w1 w6 w.heap.size (some (xs, false)) [.slice ao L c] x ∧ Res (pList 2 0 16777216 (pShare)) (some (xs, false)) x s9 ∧ A = endA s9) := ⟨hx, q2, hA⟩
      clear hx q1 q2 hA
      go_wp2_with (go_at_call 106; refine he.mono ?_)
      rintro e w9 ⟨rfl, rfl⟩
      clear he
      by_cases hz : A = 0
      · subst hz
        go_wp2_with fail
        go_ret2
        exact ⟨ao, L, c, 0, rfl, GP.dok HQ.out.1 HQ.out.2.1 HQ.out.2.2.symm C1.out (Chg.refl _ _)⟩
      · have d1 : (A != 0) = true := by simpa using hz
        have HZ : Hid (A ≠ 0) := hz
        clear hz
        go_wp2_with fail
        go_ret2
        exact ⟨none, 0, 0, A, rfl, GP.dbad HQ.out.1 HQ.out.2.1 HQ.out.2.2 HZ.out C1.out (Chg.refl _ _) (Rel.nil _ _ _)⟩
end Go.Proofs.Ytdhckndehijemaa
