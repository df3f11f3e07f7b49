/-
  Words of boxes: the function boxed.
-/
import Derived.Test.YtobglgddbhddnaaXor
namespace Go.Proofs.Ytobglgddbhddnaa
open Go.RowKit
set_option linter.unusedVariables false

/-- The boxes of all bytes. -/
def sbF : Nat → By := fun i => sb (BitVec.ofNat 8 i)
theorem sbF_at (x : By) : sbF x.toNat = sb x := by simp [sbF]
theorem box_cell {w : World} {P : Nat} (h : Ar w P (ba 256 sbF)) (x : By) : w.cell? ⟨P, x.toNat, none⟩ = some (.int .u8 ((sb x).toNat : Int)) := by
  rw [h.cell, ba_get 256 _ x.isLt, sbF_at]

set_option maxRecDepth 100000 in
theorem boxed_any (P : Nat) (f : Nat → By) (w : World) (hP : Ar w P (ba 256 sbF)) : Calls Try.prog 44 #[.pointer (some ⟨P, 0, none⟩), .agg (ba 4 f)] w fun r w' => r = .returned (.agg (ba 4 fun i => sb (f i))) ∧ Chg w w' := by
  have hsA := ba_size 4 f
  obtain ⟨A, hA⟩ : ∃ A, A = ba 4 f := ⟨_, rfl⟩
  have HA : Hid (A = ba 4 f) := hA
  have HP : Hid (Ar w P (ba 256 sbF)) := hP
  have hPl := hP.lt
  rw [← hA] at hsA ⊢
  clear hA hP
  have hz := zero46.1
  go_enter Try.func44, Try.ntmps44
  go_wp2_with fail
  obtain ⟨w3, hw3⟩ : ∃ w3, w3 = (w.alloc (.cells A 74)).alloc (.cells (ba 4 zB) 74) := ⟨_, rfl⟩
  rw [← hw3]
  have z0 : Hid (Chg w w3 ∧ Ar w3 w.heap.size A ∧ Ar w3 (w.heap.size + 1) (ba 4 zB)) := by
    rw [hw3]
    exact ⟨((Chg.refl w).alloc _).alloc _, (Ar.new w _ _).alloc _, Ar.new1 w _ _ _⟩
  clear hw3
  go_loopw [6] (fun v wr => ∃ (i : Nat), v = .int .i64 i ∧ i ≤ 4 ∧ Chg w wr ∧ Ar wr w.heap.size (ba 4 (upTo i (fun i => sb (f i)) f)) ∧ Ar wr (w.heap.size + 1) (ba 4 zB)) (fun v wr => 4 - (intOf v).toNat)
  case atStart =>
    obtain ⟨z1, z2, z3⟩ := z0.out
    rw [HA.out] at z2
    exact ⟨0, rfl, by omega, z1, by rw [upTo_zero]; exact z2, z3⟩
  case round =>
    clear z0 hsA hz
    obtain ⟨i, rfl, hi, hch, h1, h2⟩ := hrel
    have H : Hid (Chg w wr ∧ Ar wr w.heap.size (ba 4 (upTo i (fun i => sb (f i)) f)) ∧ Ar wr (w.heap.size + 1) (ba 4 zB)) := ⟨hch, h1, h2⟩
    by_cases h4 : i < 4
    · have hd : decide ((i : Int) < 4) = true := by simp; omega
      have li : (i : Int) < 4 := by omega
      have c1 := (h1.cell i).trans (ba_get 4 _ h4)
      have f1 := h1.frozen i
      have e0 : upTo i (fun i => sb (f i)) f i = f i := by simp [upTo]
      rw [e0] at c1
      have c2 := box_cell (HP.out.chg hch) (f i)
      obtain ⟨y, hy⟩ : ∃ y, y = sb (f i) := ⟨_, rfl⟩
      obtain ⟨X, hX⟩ : ∃ X, X = (f i).toNat := ⟨_, rfl⟩
      have lX : X < 256 := by rw [hX]; exact (f i).isLt
      rw [← hX] at c1 c2
      rw [← hy] at c2
      have lX' : (X : Int) < 256 := by omega
      have HX : Hid (sb (f i) = y) := hy.symm
      clear hX hy hch h1 h2 e0
      go_wp2_with fail
      go_region_with (fail)
      all_goals go_wp2
      all_goals
        go_roundw
        case rel =>
          obtain ⟨k0, k1, k2⟩ := H.out
          refine ⟨i + 1, by go_num, by omega, (k0.setCell (by dsimp only; omega) _).drew, ?_, (k2.other (by dsimp only; omega) _).drew⟩
          have hh := k1.set i (.int .u8 (y.toNat : Int))
          rw [ba_set, ← HX.out, upTo_upd i (fun i => sb (f i)) f] at hh
          rw [← HX.out]
          exact hh.drew
        case measure => simp [intOf]; omega
    · have : i = 4 := by omega
      subst this
      obtain ⟨k0, k1, k3⟩ := H.out
      rw [upTo_all] at k1
      obtain ⟨g, hg⟩ : ∃ g, g = fun i => sb (f i) := ⟨_, rfl⟩
      rw [← hg] at k1
      have HG : Hid (g = fun i => sb (f i)) := hg
      clear hg
      obtain ⟨t1, g1⟩ := k1
      obtain ⟨t3, g3⟩ := k3
      have hsz := szB g zero46.2
      have hlen := lenB 4 zB g
      have hone := ba_one 4 g
      clear hch h1 h2
      go_wp2_with (first | refine wpList_load_row rfl 74 _ rfl _ rfl _ _ _ _ g1 und46 rfl hsz ?_ | refine wpList_store_row rfl 74 _ _ rfl _ _ rfl rfl _ _ g3 hsz hlen hone ?_)
      refine bp_c (n := 4) (c := ba 4 g) Try.results44 rfl rfl ?_ und46 i46 (ba_size _ _) ⟨by rw [HG.out], ?_⟩
      · exact H.out.2.2.row _
      · exact H.out.1.setRow (by omega) _
end Go.Proofs.Ytobglgddbhddnaa
