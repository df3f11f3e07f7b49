/-
  A polynomial as a block: blockOf.
-/
import Derived.Test.YtfnibmfmjglmlaaPb
namespace Go.Proofs.Ytfnibmfmjglmlaa
open Go.RowKit
set_option linter.unusedVariables false

/-- Of both halves' last so many bytes. -/
def lastB (i : Nat) (f : Nat → By) : Nat → By := fun j => if (j < 8 ∧ 8 ≤ j + i) ∨ (8 ≤ j ∧ 16 ≤ j + i) then f j else zB j

theorem lastB_step (i : Nat) (f : Nat → By) (h : i < 8) {j : Nat} (hj : j < 16) : updB (updB (lastB i f) (7 - i) (f (7 - i))) (15 - i) (f (15 - i)) j = lastB (i + 1) f j := by
  unfold updB
  by_cases h1 : j = 15 - i
  · rw [if_pos h1, h1]
    unfold lastB
    rw [if_pos (by omega)]
  · rw [if_neg h1]
    by_cases h2 : j = 7 - i
    · rw [if_pos h2, h2]
      unfold lastB
      rw [if_pos (by omega)]
    · rw [if_neg h2]
      unfold lastB
      by_cases h3 : (j < 8 ∧ 8 ≤ j + i) ∨ (8 ≤ j ∧ 16 ≤ j + i)
      · rw [if_pos h3, if_pos (by omega)]
      · rw [if_neg h3, if_neg (by omega)]
theorem lastB_all (f : Nat → By) {j : Nat} (hj : j < 16) : lastB 8 f j = f j := by
  unfold lastB
  rw [if_pos (by omega)]
theorem nmB (h : Wo) (m : Nat) : ∃ z : By, Hid (z = (h >>> m).setWidth 8) ∧ (h.toNat : Int) / 2 ^ m % 256 = (z.toNat : Int) := by
  refine ⟨_, rfl, ?_⟩
  rw [BitVec.toNat_setWidth, BitVec.toNat_ushiftRight, Nat.shiftRight_eq_div_pow]
  simp

set_option maxRecDepth 100000 in
set_option maxHeartbeats 4000000 in
theorem blockOf_any (p : Po) (w : World) : Calls Try.prog 32 #[.agg (pv p)] w fun r w' => r = .returned (.agg (ba 16 (byt p))) ∧ Chg w w' := by
  have hz := zero32.1
  have hsA := pv_size p
  obtain ⟨A, hA⟩ : ∃ A, A = pv p := ⟨_, rfl⟩
  have HA : Hid (A = pv p) := hA
  rw [← hA] at hsA ⊢
  clear hA
  go_enter Try.func32, Try.ntmps32
  go_wp2_with fail
  go_loopw [5] (fun v wr => ∃ (i : Nat), v = .int .i64 i ∧ i ≤ 8 ∧ Chg w wr ∧ Ar wr w.heap.size (pv p) ∧ Ar wr (w.heap.size + 1) (ba 16 zB) ∧ Ar wr (w.heap.size + 1 + 1) (ba 16 (lastB i (byt p)))) (fun v wr => 8 - (intOf v).toNat)
  case atStart =>
    refine ⟨0, rfl, by omega, ?_⟩
    rw [HA.out]
    refine ⟨(((Chg.refl w).alloc _).alloc _).alloc _, ((Ar.new w _ _).alloc _).alloc _, (Ar.new1 w _ _ _).alloc _, ?_⟩
    have e : ba 16 (lastB 0 (byt p)) = ba 16 zB := ba_congr fun j hj => by
      unfold lastB
      rw [if_neg (by omega)]
    rw [e]
    exact Ar.new2 w _ _ _ _
  case round =>
    clear hsA
    obtain ⟨i, rfl, hi', z0, z1, z2, z3⟩ := hrel
    have Z : Hid (Chg w wr ∧ Ar wr w.heap.size (pv p) ∧ Ar wr (w.heap.size + 1) (ba 16 zB) ∧ Ar wr (w.heap.size + 1 + 1) (ba 16 (lastB i (byt p)))) := ⟨z0, z1, z2, z3⟩
    obtain ⟨h, hh⟩ : ∃ h, h = hi p := ⟨_, rfl⟩
    obtain ⟨l, hl⟩ : ∃ l, l = lo p := ⟨_, rfl⟩
    have c1 : wr.cell? ⟨w.heap.size, 0, none⟩ = some (.int .u64 (h.toNat : Int)) := (z1.cell 0).trans (by rw [hh]; rfl)
    have c2 : wr.cell? ⟨w.heap.size, 1, none⟩ = some (.int .u64 (l.toNat : Int)) := (z1.cell 1).trans (by rw [hl]; rfl)
    have HN : Hid (h = hi p ∧ l = lo p) := ⟨hh, hl⟩
    clear z0 z1 z2 hh hl
    by_cases h8 : i < 8
    · have hd : decide ((i : Int) < 8) = true := by simp; omega
      obtain ⟨q, hq⟩ : ∃ q : Nat, (7 : Int) - i = q := ⟨7 - i, by omega⟩
      obtain ⟨q2, hq2⟩ : ∃ q : Nat, (15 : Int) - i = q := ⟨15 - i, by omega⟩
      obtain ⟨m, hm⟩ : ∃ m : Nat, 8 * (i : Int) = m := ⟨8 * i, by omega⟩
      have wq := wrap_i (x := (q : Int)) (by omega) (by omega)
      have wq2 := wrap_i (x := (q2 : Int)) (by omega) (by omega)
      have wm := wrap_i (x := (m : Int)) (by omega) (by omega)
      have lq : (q : Int) < 16 := by omega
      have lq2 : (q2 : Int) < 16 := by omega
      have lm : ¬ (m : Int) < 0 := by omega
      have f1 := z3.frozen q
      have b1 := (z3.cell q).trans (ba_get 16 _ (show q < 16 by omega))
      obtain ⟨y1, H1, e1⟩ := nmB h m
      obtain ⟨y2, H2, e2⟩ := nmB l m
      have HY : Hid (y1 = byt p (7 - i) ∧ y2 = byt p (15 - i) ∧ q = 7 - i ∧ q2 = 15 - i) := by
        have em : m = 8 * i := by omega
        refine ⟨?_, ?_, by omega, by omega⟩
        · rw [H1.out, HN.out.1, em, byt, if_pos (by omega), show 7 - (7 - i) = i by omega]
        · rw [H2.out, HN.out.2, em, byt, if_neg (by omega), show 15 - (15 - i) = i by omega]
      clear z3 H1 H2
      go_upto_region 6 with fail
      obtain ⟨w3, hw3⟩ : ∃ w3, w3 = wr.setCell ⟨w.heap.size + 1 + 1, q, none⟩ (.int .u8 (y1.toNat : Int)) := ⟨_, rfl⟩
      have Z3 : Hid (Chg w w3 ∧ Ar w3 w.heap.size (pv p) ∧ Ar w3 (w.heap.size + 1) (ba 16 zB) ∧ Ar w3 (w.heap.size + 1 + 1) (ba 16 (updB (lastB i (byt p)) q y1))) := by
        rw [hw3]
        obtain ⟨k0, k1, k2, k3⟩ := Z.out
        refine ⟨k0.setCell (by dsimp only; omega) _, k1.other (by dsimp only; omega) _, k2.other (by dsimp only; omega) _, ?_⟩
        have := k3.set q (.int .u8 (y1.toNat : Int))
        rw [ba_set] at this
        exact this
      rw [← hw3]
      have d2 : w3.cell? ⟨w.heap.size, 1, none⟩ = some (.int .u64 (l.toNat : Int)) := by rw [← c2, Z3.out.2.1.cell, Z.out.2.1.cell]
      have f2 := Z3.out.2.2.2.frozen q2
      have b2 := (Z3.out.2.2.2.cell q2).trans (ba_get 16 _ (show q2 < 16 by omega))
      clear hw3 c1 c2 f1 b1 Z e1
      go_wp2_with fail
      go_roundw
      case rel =>
        obtain ⟨k0, k1, k2, k3⟩ := Z3.out
        refine ⟨i + 1, by go_num, by omega, k0.setCell (by dsimp only; omega) _, k1.other (by dsimp only; omega) _, k2.other (by dsimp only; omega) _, ?_⟩
        have := k3.set q2 (.int .u8 (y2.toNat : Int))
        rw [ba_set] at this
        have e : ba 16 (lastB (i + 1) (byt p)) = ba 16 (updB (updB (lastB i (byt p)) q y1) q2 y2) := by
          obtain ⟨a1, a2, a3, a4⟩ := HY.out
          rw [a1, a2, a3, a4]
          exact ba_congr fun j hj => (lastB_step i (byt p) h8 hj).symm
        rw [e]
        exact this
      case measure => simp [intOf]; omega
    · have hi2 : i = 8 := by omega
      have hd : decide ((i : Int) < 8) = false := by simp; omega
      obtain ⟨g, hg⟩ : ∃ g, g = lastB i (byt p) := ⟨_, rfl⟩
      have HG : Hid (ba 16 g = ba 16 (byt p)) := by
        show ba 16 g = _
        rw [hg, hi2]
        exact ba_congr fun j hj => lastB_all _ hj
      rw [← hg] at Z
      obtain ⟨t1, g1⟩ := Z.out.2.2.2
      obtain ⟨t3, g3⟩ := Z.out.2.2.1
      have hsz := szB g zero32.2
      have hlen := lenB 16 zB g
      have hone := ba_one 16 g
      clear hg z3 hi2
      go_wp2_with (first | refine wpList_load_row rfl 23 _ rfl _ rfl _ _ _ _ g1 und32 rfl hsz ?_ | refine wpList_store_row rfl 23 _ _ rfl _ _ rfl rfl _ _ g3 hsz hlen hone ?_)
      refine bp_c (n := 16) (c := ba 16 g) Try.results32 rfl rfl ?_ und32 i32 (ba_size _ _) ⟨by rw [HG.out], ?_⟩
      · exact Z.out.2.2.1.row _
      · exact Z.out.1.setRow (by omega) _
end Go.Proofs.Ytfnibmfmjglmlaa
