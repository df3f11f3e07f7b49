/-
  get of signatures.
-/
import Derived.Test.YtdhckndehijemaaMj23
namespace Go.Proofs.Ytdhckndehijemaa
open Go.RowKit
set_option linter.unusedVariables false
set_option maxRecDepth 100000


set_option maxHeartbeats 3200000 in
theorem getVm_any (v : Value) (xs : List Int) (w : World) (h : Bt (Bel w.heap.size) w v xs) : Calls Try.prog 125 #[v, .func (.func 126) #[] #[]] w fun e w' => ∃ n a2 l2 c2 al, e = .returned (.tuple #[.agg #[.int .u16 n, .slice a2 l2 c2], .int .i64 al]) ∧ GP (tExt) (pVer) ((0 : Int), []) w w' xs [.int .u16 n, .slice a2 l2 c2] al := by
  obtain ⟨w0, hw0⟩ : ∃ w0, w0 = w.alloc (.cells #[.int .u16 0, .slice none 0 0] 49) := ⟨_, rfl⟩
  have kc0 : Chg Non w w0 := by rw [hw0]; exact (Chg.refl _ _).alloc _
  have hs0 : w0.heap.size = w.heap.size + 1 := by rw [hw0]; simp
  have hB0 : w0.heap[w.heap.size]? = some (.cells #[.int .u16 0, .slice none 0 0] 49) := by rw [hw0]; exact heap_alloc_last w _
  obtain ⟨w1, hw1⟩ : ∃ w1, w1 = w0.alloc (.cells #[v, .int .i64 0] 227) := ⟨_, rfl⟩
  have R1 : RS w1 w0.heap.size (some (xs, false)) := by rw [hw1]; exact RS.begin ((h.oldN kc0).bel2 kc0.size)
  have kc1 : Chg Non w0 w1 := by rw [hw1]; exact (Chg.refl _ _).alloc _
  have HW : Hid (w1 = (w.alloc (.cells #[.int .u16 0, .slice none 0 0] 49)).alloc (.cells #[v, .int .i64 0] 227)) := by show _ = _; rw [hw1, hw0]
  have H0 : Hid (w0.heap.size = w.heap.size + 1 ∧ Chg Non w w0 ∧ Chg Non w0 w1 ∧ w1.heap[w.heap.size]? = some (.cells #[.int .u16 0, .slice none 0 0] 49)) := ⟨hs0, kc0, kc1, by rw [kc1.block _ (by omega) (fun s => s)]; exact hB0⟩
  obtain ⟨ao0, N0, c0, rfl⟩ : ∃ ao n c, v = .slice ao n c := by
    obtain ⟨h1, -⟩ := h
    obtain ⟨ao, n, c, e, -⟩ := h1.shape
    exact ⟨ao, n, c, e⟩
  have HP := verified_any w0.heap.size (some (xs, false)) w1 R1
  rw [hs0] at HP
  clear h R1 hw1 hw0 kc0 kc1 hs0 hB0
  go_enter Try.func125, Try.ntmps125
  go_wp2_with fail
  rw [← HW.out]
  refine HP.mono ?_
  rintro e w2 ⟨n, a2, l2, c2, x, rfl, hx0⟩
  have hx : RP (tExt) (pVer) w1 w2 w0.heap.size (some (xs, false)) [.int .u16 n, .slice a2 l2 c2] x := by rw [H0.out.1]; exact hx0
  obtain ⟨s', q1, q2⟩ := hx.ps.st
  obtain ⟨vr, al, ys, m1, m2⟩ := q1
  obtain ⟨ao9, N, c9, rfl, hN, -, -⟩ := m1.rd.shape
  have HX : Hid (RP (tExt) (pVer) w1 w2 w0.heap.size (some (xs, false)) [.int .u16 n, .slice a2 l2 c2] x ∧ Res (pVer) (some (xs, false)) x s' ∧ AB s' ys al ∧ N = ys.length) := ⟨hx, q2, m2, hN⟩
  have hB2 : w2.heap[w.heap.size]? = some (.cells #[.int .u16 0, .slice none 0 0] 49) := by
    rw [hx.ps.chg.block _ (lt_somW H0.out.2.2.2) (fun e => by have e' : w.heap.size = w0.heap.size := e; have := H0.out.1; omega)]; exact H0.out.2.2.2
  have HF : Hid (∀ u, Chg (One w0.heap.size) w2 u → u.cell? ⟨w.heap.size, 0, none⟩ = some (.int .u16 0) ∧ u.frozen? ⟨w.heap.size, 0, none⟩ = false ∧ u.cell? ⟨w.heap.size, 1, none⟩ = some (.slice none 0 0) ∧ u.frozen? ⟨w.heap.size, 1, none⟩ = false) := fun u hu => by
    have hb : u.heap[w.heap.size]? = some (.cells #[.int .u16 0, .slice none 0 0] 49) := by rw [hu.block _ (lt_somW hB2) (fun e => by have e' : w.heap.size = w0.heap.size := e; have := H0.out.1; omega)]; exact hB2
    exact ⟨by rw [cell_of_row u w.heap.size 0 _ 49 (0, 0) hb]; rfl, frozen_of_row u w.heap.size 0 _ _ hb, by rw [cell_of_row u w.heap.size 1 _ 49 (0, 0) hb]; rfl, frozen_of_row u w.heap.size 1 _ _ hb⟩
  have HM : Hid (RM w2 w0.heap.size (.slice ao9 N c9) al ys) := m1
  have HR := fun u (hu : Chg Non w2 u) => refuse_any w0.heap.size 50 _ al ys u (HM.out.non hu)
  rw [tell50] at HR
  have hm3 := (HM.out.non ((Chg.refl Non w2).alloc (.cells #[.int .u16 n, .slice a2 l2 c2] 49))).facts
  rw [H0.out.1] at hm3 HR
  obtain ⟨z0, z1, f0, f1⟩ := hm3
  obtain ⟨y0, g0, y1, g1⟩ := HF.out _ (((Chg.refl Non w2).alloc (.cells #[.int .u16 n, .slice a2 l2 c2] 49)).non _)
  have C3 : Hid (Chg Non w2 (w2.alloc (.cells #[.int .u16 n, .slice a2 l2 c2] 49))) := (Chg.refl Non w2).alloc _
  clear hx hx0 q2 m2 hN m1 HP hB2
  by_cases hz : N = 0
  · subst hz
    have HE : Hid (ys = []) := List.eq_nil_of_length_eq_zero HX.out.2.2.2.symm
    by_cases ha : al = 0
    · subst ha
      clear HR
      go_wp2_with fail
      have hk := HX.out.2.2.1
      rw [HE.out] at hk
      refine bodyPost_ret (v := .tuple #[.agg #[.int .u16 n, .slice a2 l2 c2], .int .i64 0]) ?_ rfl ⟨n, a2, l2, c2, 0, rfl, (GP.ok HX.out.1 HX.out.2.1 hk H0.out.2.2.1 C3.out).outR H0.out.2.1 (by rw [H0.out.1]; omega) ((chg_rest _ _ 0 _).one (chg_rest _ _ 1 _))⟩
      simp [results, Try.results125, go_sem, y0, y1]
    · have d1 : (al != 0) = true := by simpa using ha
      have HA : Hid (al ≠ 0) := ha
      have hm4 := (HM.out.non (((Chg.refl Non w2).alloc (.cells #[.int .u16 n, .slice a2 l2 c2] 49)).alloc (.cells #[.int .u16 0, .slice none 0 0] 49))).facts
      rw [H0.out.1] at hm4
      obtain ⟨z0', z1', f0', f1'⟩ := hm4
      obtain ⟨y0', g0', y1', g1'⟩ := HF.out _ ((((Chg.refl Non w2).alloc (.cells #[.int .u16 n, .slice a2 l2 c2] 49)).alloc (.cells #[.int .u16 0, .slice none 0 0] 49)).non _)
      have C4 : Hid (Chg Non w2 ((w2.alloc (.cells #[.int .u16 n, .slice a2 l2 c2] 49)).alloc (.cells #[.int .u16 0, .slice none 0 0] 49))) := ((Chg.refl Non w2).alloc _).alloc _
      clear HR ha
      go_wp2_with fail
      go_region_with (fail)
      all_goals
        go_wp2_with fail
        refine bodyPost_ret (v := .tuple #[.agg #[.int .u16 0, .slice none 0 0], .int .i64 al]) ?_ rfl ⟨0, none, 0, 0, al, rfl, (GP.bad HX.out.1 HX.out.2.1 HX.out.2.2.1 H0.out.2.2.1 (C4.out.non _) (.inr ⟨HE.out, HA.out, rfl⟩) (⟨[_], [_], rfl, Rel.zero _ _ _, Rel.nilB _ _⟩)).outR H0.out.2.1 (by rw [H0.out.1]; omega) ((chg_rest _ _ 0 _).one (chg_rest _ _ 1 _)).drew⟩
        simp [results, Try.results125, go_sem, y0', y1']
  · have d0 : decide (0 < N) = true := by simp; omega
    have HE : Hid (ys ≠ []) := by intro e; have := HX.out.2.2.2; rw [e] at this; exact hz this
    have hr := HR _ C3.out
    clear hz HR
    go_wp2_with (go_at_call 182; refine hr.mono ?_)
    rintro e w3 ⟨rfl, k1, k2⟩
    have HK : Hid (Chg (One w0.heap.size) w2 w3) := (C3.out.non _).trans (by rw [H0.out.1]; exact k2) (fun _ _ q => q)
    have hm4 := (k1.non ((Chg.refl Non w3).alloc (.cells #[.int .u16 0, .slice none 0 0] 49))).facts
    obtain ⟨z0', z1', f0', f1'⟩ := hm4
    clear z0 z1 f0 f1 hr k2 y0 g0 y1 g1
    obtain ⟨z0, z1, f0, f1⟩ := k1.facts
    clear k1
    obtain ⟨y0', g0', y1', g1'⟩ := HF.out _ (HK.out.trans (((Chg.refl Non w3).alloc (.cells #[.int .u16 0, .slice none 0 0] 49)).non _) (fun _ _ q => q))
    have C4 : Hid (Chg (One w0.heap.size) w2 (w3.alloc (.cells #[.int .u16 0, .slice none 0 0] 49))) := HK.out.trans (((Chg.refl Non w3).alloc (.cells #[.int .u16 0, .slice none 0 0] 49)).non _) (fun _ _ q => q)
    go_wp2_with fail
    go_region_with (fail)
    all_goals
      go_wp2_with fail
      refine bodyPost_ret (v := .tuple #[.agg #[.int .u16 0, .slice none 0 0], .int .i64 50]) ?_ rfl ⟨0, none, 0, 0, 50, rfl, (GP.bad HX.out.1 HX.out.2.1 HX.out.2.2.1 H0.out.2.2.1 C4.out (.inl ⟨HE.out, rfl⟩) (⟨[_], [_], rfl, Rel.zero _ _ _, Rel.nilB _ _⟩)).outR H0.out.2.1 (by rw [H0.out.1]; omega) ((chg_rest _ _ 0 _).one (chg_rest _ _ 1 _)).drew⟩
      simp [results, Try.results125, go_sem, y0', y1']

set_option maxHeartbeats 1600000 in
theorem getVerify_any (v : Value) (xs : List Int) (w : World) (h : Bt (Bel w.heap.size) w v xs) : Calls Try.prog 34 #[v] w fun e w' => ∃ n a2 l2 c2 al, e = .returned (.tuple #[.agg #[.int .u16 n, .slice a2 l2 c2], .int .i64 al]) ∧ GP (tExt) (pVer) ((0 : Int), []) w w' xs [.int .u16 n, .slice a2 l2 c2] al := by
  obtain ⟨w0, hw0⟩ : ∃ w0, w0 = w.alloc (.cells #[.int .u16 0, .slice none 0 0] 49) := ⟨_, rfl⟩
  have kc0 : Chg Non w w0 := by rw [hw0]; exact (Chg.refl _ _).alloc _
  have hs0 : w0.heap.size = w.heap.size + 1 := by rw [hw0]; simp
  have hB0 : w0.heap[w.heap.size]? = some (.cells #[.int .u16 0, .slice none 0 0] 49) := by rw [hw0]; exact heap_alloc_last w _
  have hp := getVm_any v xs w0 ((h.oldN kc0).bel2 kc0.size)
  have HW : Hid (w0 = w.alloc (.cells #[.int .u16 0, .slice none 0 0] 49)) := hw0
  have H0 : Hid (w.heap.size < w0.heap.size ∧ Chg Non w w0 ∧ w0.heap[w.heap.size]? = some (.cells #[.int .u16 0, .slice none 0 0] 49)) := ⟨by omega, kc0, hB0⟩
  clear h kc0 hs0 hB0 hw0
  go_enter Try.func34, Try.ntmps34
  go_wp2_with fail
  rw [← HW.out]
  refine hp.mono ?_
  rintro e w2 ⟨n, a2, l2, c2, al, rfl, hq⟩
  have hB2 : w2.heap[w.heap.size]? = some (.cells #[.int .u16 0, .slice none 0 0] 49) := by rw [hq.chg.block _ H0.out.1 (fun s => s)]; exact H0.out.2.2
  have y0 : w2.cell? ⟨w.heap.size, 0, none⟩ = some (.int .u16 0) := by rw [cell_of_row w2 w.heap.size 0 _ 49 (0, 0) hB2]; rfl
  have g0 := frozen_of_row w2 w.heap.size 0 _ _ hB2
  have y1 : w2.cell? ⟨w.heap.size, 1, none⟩ = some (.slice none 0 0) := by rw [cell_of_row w2 w.heap.size 1 _ 49 (0, 0) hB2]; rfl
  have g1 := frozen_of_row w2 w.heap.size 1 _ _ hB2
  have HQ : Hid (GP (tExt) (pVer) ((0 : Int), []) w0 w2 xs [.int .u16 n, .slice a2 l2 c2] al) := hq
  clear hq hp hB2
  go_wp2_with fail
  refine bodyPost_ret (v := .tuple #[.agg #[.int .u16 n, .slice a2 l2 c2], .int .i64 al]) ?_ rfl ⟨n, a2, l2, c2, al, rfl, HQ.out.outR H0.out.2.1 H0.out.1 ((chg_rest _ _ 0 _).one (chg_rest _ _ 1 _))⟩
  simp [results, Try.results34, go_sem, y0, y1]
end Go.Proofs.Ytdhckndehijemaa
