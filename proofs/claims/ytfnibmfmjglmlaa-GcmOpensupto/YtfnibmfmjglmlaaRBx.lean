/-
  The document's boxes.
-/
import Derived.Test.YtfnibmfmjglmlaaTms
import Derived.Test.YtfnibmfmjglmlaaBxd
namespace Go.Proofs.Ytfnibmfmjglmlaa
open Go.RowKit
set_option linter.unusedVariables false

set_option maxRecDepth 100000 in
theorem refBoxes_any (w : World) : Calls Try.prog 26 #[] w fun r w' => r = .returned (.agg (ba 256 sbF)) ∧ Chg w w' := by
  have hz := zero47.1
  go_enter Try.func26, Try.ntmps26
  go_wp2_with fail
  obtain ⟨w3, hw3⟩ : ∃ w3, w3 = (w.alloc (.cells (ba 256 zB) 52)).alloc (.cells (ba 256 zB) 52) := ⟨_, rfl⟩
  rw [← hw3]
  have z0 : Hid (Chg w w3 ∧ Ar w3 w.heap.size (ba 256 zB) ∧ Ar w3 (w.heap.size + 1) (ba 256 zB)) := by
    rw [hw3]
    exact ⟨((Chg.refl w).alloc _).alloc _, (Ar.new w _ _).alloc _, Ar.new1 w _ _ _⟩
  clear hw3
  go_loopw [2] (fun v wr => ∃ (i : Nat), v = .int .i64 i ∧ i ≤ 256 ∧ Chg w wr ∧ Ar wr w.heap.size (ba 256 zB) ∧ Ar wr (w.heap.size + 1) (ba 256 (upTo i sbF zB))) (fun v wr => 256 - (intOf v).toNat)
  case atStart =>
    obtain ⟨z1, z2, z3⟩ := z0.out
    exact ⟨0, rfl, by omega, z1, z2, by rw [upTo_zero]; exact z3⟩
  case round =>
    clear z0
    obtain ⟨i, rfl, hi, hch, h1, h2⟩ := hrel
    have H : Hid (Chg w wr ∧ Ar wr w.heap.size (ba 256 zB) ∧ Ar wr (w.heap.size + 1) (ba 256 (upTo i sbF zB))) := ⟨hch, h1, h2⟩
    by_cases h256 : i < 256
    · have hd : decide ((i : Int) < 256) = true := by simp; omega
      have li : (i : Int) < 256 := by omega
      have wi : IntKind.u8.wrap (i : Int) = i := by rw [IntKind.wrap_u8]; omega
      have HC : Hid (∀ u, Calls Try.prog 48 #[.int .u8 (i : Int)] u fun r w' => r = .returned (.int .u8 ((sbF i).toNat : Int)) ∧ Chg u w') := by
        intro u
        have := box_any (BitVec.ofNat 8 i) u
        rw [BitVec.toNat_ofNat, Nat.mod_eq_of_lt (by omega)] at this
        exact this
      obtain ⟨y, hy⟩ : ∃ y, y = sbF i := ⟨_, rfl⟩
      have HY : Hid (y = sbF i) := hy
      rw [← hy] at HC
      clear hch h1 h2 hy hz
      go_wp2_with fail
      go_at_call 48
      refine (HC.out _).mono ?_
      rintro r w1 ⟨rfl, hc1⟩
      have H1 : Hid (Chg wr w1) := hc1
      have c1 := ((H.out.2.2.chg hc1).cell i).trans (ba_get 256 _ h256)
      have f1 := (H.out.2.2.chg hc1).frozen i
      clear hc1
      go_wp2_with fail
      go_roundw
      case rel =>
        obtain ⟨k0, k1, k2⟩ := H.out
        refine ⟨i + 1, by go_num, by omega, (k0.trans H1.out).setCell (by dsimp only; omega) _, (k1.chg H1.out).other (by dsimp only; omega) _, ?_⟩
        have hh := (k2.chg H1.out).set i (.int .u8 (y.toNat : Int))
        rw [ba_set, HY.out, upTo_upd i sbF zB] at hh
        rw [HY.out]
        exact hh
      case measure => simp [intOf]; omega
    · have : i = 256 := by omega
      subst this
      obtain ⟨k0, k1, k2⟩ := H.out
      rw [upTo_all] at k2
      have K0 : Hid (Chg w wr ∧ Ar wr w.heap.size (ba 256 zB)) := ⟨k0, k1⟩
      obtain ⟨t1, g1⟩ := k2
      obtain ⟨t3, g3⟩ := k1
      have hsz := szB sbF zero47.2
      have hlen := lenB 256 zB sbF
      have hone := ba_one 256 sbF
      clear k0 hch h1 h2 H
      go_wp2_with (first | refine wpList_load_row rfl 52 _ rfl _ rfl _ _ _ _ g1 und47 rfl hsz ?_ | refine wpList_store_row rfl 52 _ _ rfl _ _ rfl rfl _ _ g3 hsz hlen hone ?_)
      refine bp_c (n := 256) (c := ba 256 sbF) Try.results26 rfl rfl ?_ und47 i47 (ba_size _ _) ⟨rfl, ?_⟩
      · exact K0.out.2.row _
      · exact K0.out.1.setRow (by omega) _
end Go.Proofs.Ytfnibmfmjglmlaa
