/-
  Blocks XORed, and words of boxes: the functions xored and boxed.
-/
import Derived.Test.YtobglgddbhddnaaByt
namespace Go.Proofs.Ytobglgddbhddnaa
open Go.RowKit
set_option linter.unusedVariables false

/-- Up to a place one block, from there on the other. -/
def upTo (i : Nat) (f g : Nat → By) : Nat → By := fun j => if j < i then f j else g j
theorem upTo_zero (f g : Nat → By) : upTo 0 f g = g := by funext j; simp [upTo]
theorem upTo_upd (i : Nat) (f g : Nat → By) : updB (upTo i f g) i (f i) = upTo (i + 1) f g := by
  funext j
  unfold updB upTo
  by_cases h : j = i
  · subst h; simp
  · have e : j < i + 1 ↔ j < i := by omega
    simp [h, e]
theorem upTo_all (n : Nat) (f g : Nat → By) : ba n (upTo n f g) = ba n f := ba_congr fun i hi => by simp [upTo, hi]

set_option maxRecDepth 100000 in
theorem xored_any (a b : Nat → By) (w : World) : Calls Try.prog 47 #[.agg (ba 16 a), .agg (ba 16 b)] w fun r w' => r = .returned (.agg (ba 16 (xr a b))) ∧ Chg w w' := by
  have hsA := ba_size 16 a
  have hsB := ba_size 16 b
  obtain ⟨A, hA⟩ : ∃ A, A = ba 16 a := ⟨_, rfl⟩
  obtain ⟨B, hB⟩ : ∃ B, B = ba 16 b := ⟨_, rfl⟩
  have HAB : Hid (A = ba 16 a ∧ B = ba 16 b) := ⟨hA, hB⟩
  rw [← hA] at hsA ⊢
  rw [← hB] at hsB ⊢
  clear hA hB
  have hz := zero32.1
  go_enter Try.func47, Try.ntmps47
  go_wp2_with fail
  obtain ⟨w3, hw3⟩ : ∃ w3, w3 = ((w.alloc (.cells A 60)).alloc (.cells B 60)).alloc (.cells (ba 16 zB) 60) := ⟨_, rfl⟩
  rw [← hw3]
  have z0 : Hid (Chg w w3 ∧ Ar w3 w.heap.size A ∧ Ar w3 (w.heap.size + 1) B ∧ Ar w3 (w.heap.size + 1 + 1) (ba 16 zB)) := by
    rw [hw3]
    exact ⟨(((Chg.refl w).alloc _).alloc _).alloc _, ((Ar.new w _ _).alloc _).alloc _, (Ar.new1 w _ _ _).alloc _, Ar.new2 w _ _ _ _⟩
  clear hw3
  go_loopw [6] (fun v wr => ∃ (i : Nat), v = .int .i64 i ∧ i ≤ 16 ∧ Chg w wr ∧ Ar wr w.heap.size (ba 16 (upTo i (xr a b) a)) ∧ Ar wr (w.heap.size + 1) (ba 16 b) ∧ Ar wr (w.heap.size + 1 + 1) (ba 16 zB)) (fun v wr => 16 - (intOf v).toNat)
  case atStart =>
    obtain ⟨z1, z2, z3, z4⟩ := z0.out
    rw [HAB.out.1] at z2
    rw [HAB.out.2] at z3
    exact ⟨0, rfl, by omega, z1, by rw [upTo_zero]; exact z2, z3, z4⟩
  case round =>
    clear z0 hsA hsB hz
    obtain ⟨i, rfl, hi, hch, h1, h2, h3⟩ := hrel
    have H : Hid (Chg w wr ∧ Ar wr w.heap.size (ba 16 (upTo i (xr a b) a)) ∧ Ar wr (w.heap.size + 1) (ba 16 b) ∧ Ar wr (w.heap.size + 1 + 1) (ba 16 zB)) := ⟨hch, h1, h2, h3⟩
    by_cases h16 : i < 16
    · have hd : decide ((i : Int) < 16) = true := by simp; omega
      have li : (i : Int) < 16 := by omega
      have c1 := (h1.cell i).trans (ba_get 16 _ h16)
      have c2 := (h2.cell i).trans (ba_get 16 _ h16)
      have f1 := h1.frozen i
      have e0 : upTo i (xr a b) a i = a i := by simp [upTo]
      rw [e0] at c1
      obtain ⟨x, hx⟩ : ∃ x, x = a i := ⟨_, rfl⟩
      obtain ⟨y, hy⟩ : ∃ y, y = b i := ⟨_, rfl⟩
      rw [← hx] at c1
      rw [← hy] at c2
      have HX : Hid (xr a b i = x ^^^ y) := by show xr a b i = _; rw [hx, hy, xr]
      clear hx hy hch h1 h2 h3 e0
      go_wp2_with fail
      go_region_with (fail)
      all_goals go_wp2
      all_goals
        go_roundw
        case rel =>
          obtain ⟨k0, k1, k2, k3⟩ := H.out
          refine ⟨i + 1, by go_num, by omega, (k0.setCell (by dsimp only; omega) _).drew, ?_, (k2.other (by dsimp only; omega) _).drew, (k3.other (by dsimp only; omega) _).drew⟩
          have hh := k1.set i (.int .u8 (Go.bits .xor .u8 (x.toNat : Int) (y.toNat : Int)))
          rw [xorB, ba_set, ← HX.out, upTo_upd] at hh
          rw [xorB, ← HX.out]
          exact hh.drew
        case measure => simp [intOf]; omega
    · have : i = 16 := by omega
      subst this
      obtain ⟨k0, k1, k2, k3⟩ := H.out
      rw [upTo_all] at k1
      obtain ⟨t1, g1⟩ := k1
      obtain ⟨t3, g3⟩ := k3
      have hsz := szB (xr a b) zero32.2
      have hlen := lenB 16 zB (xr a b)
      have hone := ba_one 16 (xr a b)
      clear hch h1 h2 h3 k2
      go_wp2_with (first | refine wpList_load_row rfl 60 _ rfl _ rfl _ _ _ _ g1 und32 rfl hsz ?_ | refine wpList_store_row rfl 60 _ _ rfl _ _ rfl rfl _ _ g3 hsz hlen hone ?_)
      refine bp_c (n := 16) (c := ba 16 (xr a b)) Try.results47 rfl rfl ?_ und32 i32 (ba_size _ _) ⟨rfl, ?_⟩
      · exact H.out.2.2.2.row _
      · exact H.out.1.setRow (by omega) _
end Go.Proofs.Ytobglgddbhddnaa
