/-
  get of numbers.
-/
import Derived.Test.YtdhckndehijemaaGp
import Derived.Test.YtdhckndehijemaaMt
namespace Go.Proofs.Ytdhckndehijemaa
open Go.RowKit
set_option linter.unusedVariables false
set_option maxRecDepth 100000


set_option maxHeartbeats 3200000 in
theorem getN_any (v : Value) (xs : List Int) (w : World) (h : Bt (Bel w.heap.size) w v xs) : Calls Try.prog 142 #[v, .func (.func 143) #[] #[]] w fun e w' => ∃ ao L c al, e = .returned (.tuple #[.slice ao L c, .int .i64 al]) ∧ GP (.lst (.num .u16)) (pList 2 1 16777216 (pDig 2)) [] w w' xs [.slice ao L c] al := by
  obtain ⟨w1, hw1⟩ : ∃ w1, w1 = w.alloc (.cells #[v, .int .i64 0] 227) := ⟨_, rfl⟩
  have R1 : RS w1 w.heap.size (some (xs, false)) := by rw [hw1]; exact RS.begin h
  have C1 : Hid (Chg Non w w1) := by rw [hw1]; exact (Chg.refl _ _).alloc _
  have HW1 : Hid (w1 = w.alloc (.cells #[v, .int .i64 0] 227)) := hw1
  obtain ⟨ao0, N0, c0, rfl⟩ : ∃ ao n c, v = .slice ao n c := by
    obtain ⟨h1, -⟩ := h
    obtain ⟨ao, n, c, e, -⟩ := h1.shape
    exact ⟨ao, n, c, e⟩
  have HP := numbers_any w.heap.size (some (xs, false)) w1 R1
  clear h R1 hw1
  go_enter Try.func142, Try.ntmps142
  go_wp2_with fail
  rw [← HW1.out]
  refine HP.mono ?_
  rintro e w2 ⟨ao, L, c, x, rfl, hx⟩
  obtain ⟨s', q1, q2⟩ := hx.ps.st
  obtain ⟨vr, al, ys, m1, m2⟩ := q1
  obtain ⟨ao9, N, c9, rfl, hN, -, -⟩ := m1.rd.shape
  obtain ⟨z0, z1, f0, f1⟩ := m1.facts
  have HX : Hid (RP (.lst (.num .u16)) (pList 2 1 16777216 (pDig 2)) w1 w2 w.heap.size (some (xs, false)) [.slice ao L c] x ∧ Res (pList 2 1 16777216 (pDig 2)) (some (xs, false)) x s' ∧ AB s' ys al ∧ N = ys.length) := ⟨hx, q2, m2, hN⟩
  have HR := refuse_any w.heap.size 50 _ al ys w2 m1
  rw [tell50] at HR
  clear hx q2 m2 hN m1 HP
  by_cases hz : N = 0
  · subst hz
    have HE : Hid (ys = []) := List.eq_nil_of_length_eq_zero HX.out.2.2.2.symm
    by_cases ha : al = 0
    · subst ha
      clear HR
      go_wp2_with fail
      go_ret2
      have hk := HX.out.2.2.1
      rw [HE.out] at hk
      exact ⟨ao, L, c, 0, rfl, GP.ok HX.out.1 HX.out.2.1 hk C1.out (Chg.refl _ _)⟩
    · have d1 : (al != 0) = true := by simpa using ha
      have HA : Hid (al ≠ 0) := ha
      clear HR ha
      go_wp2_with fail
      go_quiet (fail)
      go_wp2_with fail
      go_ret2
      exact ⟨none, 0, 0, al, rfl, GP.bad HX.out.1 HX.out.2.1 HX.out.2.2.1 C1.out ((Chg.refl _ _).drewN _) (.inr ⟨HE.out, HA.out, rfl⟩) (Rel.nil _ _ _)⟩
  · have d0 : decide (0 < N) = true := by simp; omega
    have HE : Hid (ys ≠ []) := by intro e; have := HX.out.2.2.2; rw [e] at this; exact hz this
    clear hz
    go_wp2_with (go_at_call 182; refine HR.mono ?_)
    rintro e w3 ⟨rfl, k1, k2⟩
    have HK : Hid (Chg (One w.heap.size) w2 w3) := k2
    clear z0 z1 f0 f1 HR k2
    obtain ⟨z0, z1, f0, f1⟩ := k1.facts
    clear k1
    go_wp2_with fail
    go_quiet (fail)
    go_wp2_with fail
    go_ret2
    exact ⟨none, 0, 0, 50, rfl, GP.bad HX.out.1 HX.out.2.1 HX.out.2.2.1 C1.out (HK.out.drewN _) (.inl ⟨HE.out, rfl⟩) (Rel.nil _ _ _)⟩
end Go.Proofs.Ytdhckndehijemaa
