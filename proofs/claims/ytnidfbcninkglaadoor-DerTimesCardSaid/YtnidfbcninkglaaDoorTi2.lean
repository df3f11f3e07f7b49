/-
  What digits tell.
-/
import Derived.Test.YtnidfbcninkglaaDoorTi1
namespace Go.Proofs.YtnidfbcninkglaaDoor
open Go.RowKit
set_option linter.unusedVariables false
set_option maxRecDepth 100000
def arrV (a0 a1 a2 a3 a4 a5 a6 a7 a8 a9 a10 a11 a12 a13 a14 : Int) : Value := .agg #[.int .u8 a0, .int .u8 a1, .int .u8 a2, .int .u8 a3, .int .u8 a4, .int .u8 a5, .int .u8 a6, .int .u8 a7, .int .u8 a8, .int .u8 a9, .int .u8 a10, .int .u8 a11, .int .u8 a12, .int .u8 a13, .int .u8 a14]
def twoI (x y : Int) : Int := 10 * (x - 48) + (y - 48)

set_option maxHeartbeats 3200000 in
theorem two_any (k : Nat) (hk : k < 14) (p : Nat) (x y : Int) (hx0 : 48 ≤ x) (hx1 : x ≤ 57) (hy0 : 48 ≤ y) (hy1 : y ≤ 57) (w : World)
    (h1 : w.cell? ⟨p, k, none⟩ = some (.int .u8 x)) (h2 : w.cell? ⟨p, k + 1, none⟩ = some (.int .u8 y)) :
    Calls Tryd.prog 67 #[.int .i64 (k : Int), .pointer (some ⟨p, 0, none⟩)] w fun e w' => e = .returned (.int .i64 (twoI x y)) ∧ ∃ m, w' = w.drewN m := by
  have i1 : (0 : Int) ≤ (k : Int) := by omega
  have i2 : (k : Int) < 15 := by omega
  have i3 : (0 : Int) ≤ (k : Int) + 1 := by omega
  have i4 : (k : Int) + 1 < 15 := by omega
  go_enter Tryd.func67, Tryd.ntmps67
  go_wp2
  go_quiet (fail)
  go_wp2
  go_ret
  refine ⟨ret_int ?_, _, rfl⟩
  unfold twoI
  omega

set_option maxHeartbeats 6400000 in
theorem momentOf_any (a0 a1 a2 a3 a4 a5 a6 a7 a8 a9 a10 a11 a12 a13 a14 : Int) (l0 : 48 ≤ a0) (u0 : a0 ≤ 57) (l1 : 48 ≤ a1) (u1 : a1 ≤ 57) (l2 : 48 ≤ a2) (u2 : a2 ≤ 57) (l3 : 48 ≤ a3) (u3 : a3 ≤ 57) (l4 : 48 ≤ a4) (u4 : a4 ≤ 57) (l5 : 48 ≤ a5) (u5 : a5 ≤ 57) (l6 : 48 ≤ a6) (u6 : a6 ≤ 57) (l7 : 48 ≤ a7) (u7 : a7 ≤ 57) (l8 : 48 ≤ a8) (u8 : a8 ≤ 57) (l9 : 48 ≤ a9) (u9 : a9 ≤ 57) (l10 : 48 ≤ a10) (u10 : a10 ≤ 57) (l11 : 48 ≤ a11) (u11 : a11 ≤ 57) (l12 : 48 ≤ a12) (u12 : a12 ≤ 57) (l13 : 48 ≤ a13) (u13 : a13 ≤ 57) (w : World) :
    Calls Tryd.prog 47 #[arrV a0 a1 a2 a3 a4 a5 a6 a7 a8 a9 a10 a11 a12 a13 a14] w fun e w' => e = .returned (momV (100 * twoI a0 a1 + twoI a2 a3) (twoI a4 a5) (twoI a6 a7) (twoI a8 a9) (twoI a10 a11) (twoI a12 a13)) ∧ Chg Non w w' := by
  unfold arrV
  obtain ⟨t0, ht0⟩ : ∃ t, t = twoI a0 a1 := ⟨_, rfl⟩
  have v0 : 0 ≤ t0 := by rw [ht0]; unfold twoI; omega
  have w0 : t0 ≤ 99 := by rw [ht0]; unfold twoI; omega
  have HC0 : Hid (∀ p u, u.cell? ⟨p, 0, none⟩ = some (.int .u8 a0) → u.cell? ⟨p, 1, none⟩ = some (.int .u8 a1) → Calls Tryd.prog 67 #[.int .i64 0, .pointer (some ⟨p, 0, none⟩)] u fun e w' => e = .returned (.int .i64 t0) ∧ ∃ m, w' = u.drewN m) := fun p u g1 g2 => by rw [ht0]; exact two_any 0 (by decide) p a0 a1 l0 u0 l1 u1 u g1 g2
  obtain ⟨t2, ht2⟩ : ∃ t, t = twoI a2 a3 := ⟨_, rfl⟩
  have v2 : 0 ≤ t2 := by rw [ht2]; unfold twoI; omega
  have w2 : t2 ≤ 99 := by rw [ht2]; unfold twoI; omega
  have HC2 : Hid (∀ p u, u.cell? ⟨p, 2, none⟩ = some (.int .u8 a2) → u.cell? ⟨p, 3, none⟩ = some (.int .u8 a3) → Calls Tryd.prog 67 #[.int .i64 2, .pointer (some ⟨p, 0, none⟩)] u fun e w' => e = .returned (.int .i64 t2) ∧ ∃ m, w' = u.drewN m) := fun p u g1 g2 => by rw [ht2]; exact two_any 2 (by decide) p a2 a3 l2 u2 l3 u3 u g1 g2
  obtain ⟨t4, ht4⟩ : ∃ t, t = twoI a4 a5 := ⟨_, rfl⟩
  have v4 : 0 ≤ t4 := by rw [ht4]; unfold twoI; omega
  have w4 : t4 ≤ 99 := by rw [ht4]; unfold twoI; omega
  have HC4 : Hid (∀ p u, u.cell? ⟨p, 4, none⟩ = some (.int .u8 a4) → u.cell? ⟨p, 5, none⟩ = some (.int .u8 a5) → Calls Tryd.prog 67 #[.int .i64 4, .pointer (some ⟨p, 0, none⟩)] u fun e w' => e = .returned (.int .i64 t4) ∧ ∃ m, w' = u.drewN m) := fun p u g1 g2 => by rw [ht4]; exact two_any 4 (by decide) p a4 a5 l4 u4 l5 u5 u g1 g2
  obtain ⟨t6, ht6⟩ : ∃ t, t = twoI a6 a7 := ⟨_, rfl⟩
  have v6 : 0 ≤ t6 := by rw [ht6]; unfold twoI; omega
  have w6 : t6 ≤ 99 := by rw [ht6]; unfold twoI; omega
  have HC6 : Hid (∀ p u, u.cell? ⟨p, 6, none⟩ = some (.int .u8 a6) → u.cell? ⟨p, 7, none⟩ = some (.int .u8 a7) → Calls Tryd.prog 67 #[.int .i64 6, .pointer (some ⟨p, 0, none⟩)] u fun e w' => e = .returned (.int .i64 t6) ∧ ∃ m, w' = u.drewN m) := fun p u g1 g2 => by rw [ht6]; exact two_any 6 (by decide) p a6 a7 l6 u6 l7 u7 u g1 g2
  obtain ⟨t8, ht8⟩ : ∃ t, t = twoI a8 a9 := ⟨_, rfl⟩
  have v8 : 0 ≤ t8 := by rw [ht8]; unfold twoI; omega
  have w8 : t8 ≤ 99 := by rw [ht8]; unfold twoI; omega
  have HC8 : Hid (∀ p u, u.cell? ⟨p, 8, none⟩ = some (.int .u8 a8) → u.cell? ⟨p, 9, none⟩ = some (.int .u8 a9) → Calls Tryd.prog 67 #[.int .i64 8, .pointer (some ⟨p, 0, none⟩)] u fun e w' => e = .returned (.int .i64 t8) ∧ ∃ m, w' = u.drewN m) := fun p u g1 g2 => by rw [ht8]; exact two_any 8 (by decide) p a8 a9 l8 u8 l9 u9 u g1 g2
  obtain ⟨t10, ht10⟩ : ∃ t, t = twoI a10 a11 := ⟨_, rfl⟩
  have v10 : 0 ≤ t10 := by rw [ht10]; unfold twoI; omega
  have w10 : t10 ≤ 99 := by rw [ht10]; unfold twoI; omega
  have HC10 : Hid (∀ p u, u.cell? ⟨p, 10, none⟩ = some (.int .u8 a10) → u.cell? ⟨p, 11, none⟩ = some (.int .u8 a11) → Calls Tryd.prog 67 #[.int .i64 10, .pointer (some ⟨p, 0, none⟩)] u fun e w' => e = .returned (.int .i64 t10) ∧ ∃ m, w' = u.drewN m) := fun p u g1 g2 => by rw [ht10]; exact two_any 10 (by decide) p a10 a11 l10 u10 l11 u11 u g1 g2
  obtain ⟨t12, ht12⟩ : ∃ t, t = twoI a12 a13 := ⟨_, rfl⟩
  have v12 : 0 ≤ t12 := by rw [ht12]; unfold twoI; omega
  have w12 : t12 ≤ 99 := by rw [ht12]; unfold twoI; omega
  have HC12 : Hid (∀ p u, u.cell? ⟨p, 12, none⟩ = some (.int .u8 a12) → u.cell? ⟨p, 13, none⟩ = some (.int .u8 a13) → Calls Tryd.prog 67 #[.int .i64 12, .pointer (some ⟨p, 0, none⟩)] u fun e w' => e = .returned (.int .i64 t12) ∧ ∃ m, w' = u.drewN m) := fun p u g1 g2 => by rw [ht12]; exact two_any 12 (by decide) p a12 a13 l12 u12 l13 u13 u g1 g2
  rw [← ht0, ← ht2, ← ht4, ← ht6, ← ht8, ← ht10, ← ht12]
  clear ht0 ht2 ht4 ht6 ht8 ht10 ht12 l0 u0 l1 u1 l2 u2 l3 u3 l4 u4 l5 u5 l6 u6 l7 u7 l8 u8 l9 u9 l10 u10 l11 u11 l12 u12 l13 u13
  unfold momV
  go_enter Tryd.func47, Tryd.ntmps47
  go_wp2_with (first | (go_at_call_of 67 (Value.int IntKind.i64 0); refine (HC0.out _ _ (by simp) (by simp)).mono ?_; clear HC0; rintro e w9 ⟨rfl, m0, rfl⟩) | (go_at_call_of 67 (Value.int IntKind.i64 2); refine (HC2.out _ _ (by simp) (by simp)).mono ?_; clear HC2; rintro e w9 ⟨rfl, m2, rfl⟩) | (go_at_call_of 67 (Value.int IntKind.i64 4); refine (HC4.out _ _ (by simp) (by simp)).mono ?_; clear HC4; rintro e w9 ⟨rfl, m4, rfl⟩) | (go_at_call_of 67 (Value.int IntKind.i64 6); refine (HC6.out _ _ (by simp) (by simp)).mono ?_; clear HC6; rintro e w9 ⟨rfl, m6, rfl⟩) | (go_at_call_of 67 (Value.int IntKind.i64 8); refine (HC8.out _ _ (by simp) (by simp)).mono ?_; clear HC8; rintro e w9 ⟨rfl, m8, rfl⟩) | (go_at_call_of 67 (Value.int IntKind.i64 10); refine (HC10.out _ _ (by simp) (by simp)).mono ?_; clear HC10; rintro e w9 ⟨rfl, m10, rfl⟩) | (go_at_call_of 67 (Value.int IntKind.i64 12); refine (HC12.out _ _ (by simp) (by simp)).mono ?_; clear HC12; rintro e w9 ⟨rfl, m12, rfl⟩))
  refine bodyPost_ret (v := .agg #[.int .i64 (100 * t0 + t2), .int .i64 t4, .int .i64 t6, .int .i64 t8, .int .i64 t10, .int .i64 t12]) ?_ rfl ⟨rfl, ?_⟩
  · simp [results, Tryd.results47, go_sem]
  · exact ((((((((((Chg.refl _ _).alloc _).alloc _).drewN _).setCell (fun h => absurd h (by show ¬ w.heap.size + 1 < _; omega)) _).setCell (fun h => absurd h (by show ¬ w.heap.size + 1 < _; omega)) _).setCell (fun h => absurd h (by show ¬ w.heap.size + 1 < _; omega)) _).setCell (fun h => absurd h (by show ¬ w.heap.size + 1 < _; omega)) _).setCell (fun h => absurd h (by show ¬ w.heap.size + 1 < _; omega)) _).setCell (fun h => absurd h (by show ¬ w.heap.size + 1 < _; omega)) _)
end Go.Proofs.YtnidfbcninkglaaDoor
