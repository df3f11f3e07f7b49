/-
  The counter's block, the tag, two blocks XORed by the law: counter, tagOf, with.
-/
import Derived.Test.YtfnibmfmjglmlaaHh
import Derived.Test.YtfnibmfmjglmlaaEnc
namespace Go.Proofs.Ytfnibmfmjglmlaa
open Go.RowKit
set_option linter.unusedVariables false

theorem zero38 : (∀ w, (zeroValue 38).run Try.prog w = .ok (.agg (ba 12 zB)) w) ∧ (Try.prog.info? 38).map (·.size) = some 12 := zero_of_info (by kernel_rfl)
theorem und38 : Try.prog.underlying 38 = some (.array 12 5) := by kernel_rfl

/-- The block of a nonce and a small number. -/
def ctrB (nc : Nat → By) (x : By) : Nat → By := fun j => if j < 12 then nc j else if j = 15 then x else 0#8

set_option maxRecDepth 100000 in
set_option maxHeartbeats 4000000 in
theorem counter_any (nc : Nat → By) (x : By) (w : World) : Calls Try.prog 41 #[.agg (ba 12 nc), .int .u8 (x.toNat : Int)] w fun r w' => r = .returned (.agg (ba 16 (ctrB nc x))) ∧ Chg w w' := by
  have hz := zero32.1
  have hsA := ba_size 12 nc
  obtain ⟨A, hA⟩ : ∃ A, A = ba 12 nc := ⟨_, rfl⟩
  have HA : Hid (A = ba 12 nc) := hA
  rw [← hA] at hsA ⊢
  clear hA
  go_enter Try.func41, Try.ntmps41
  go_upto_region 2 with fail
  obtain ⟨w2, hw2⟩ : ∃ w2, w2 = ((w.alloc (.cells A 38)).alloc (.cells (ba 16 zB) 23)).alloc (.cells (ba 16 zB) 23) := ⟨_, rfl⟩
  have Z : Hid (Chg w w2 ∧ Ar w2 w.heap.size (ba 12 nc) ∧ Ar w2 (w.heap.size + 1) (ba 16 zB) ∧ Ar w2 (w.heap.size + 1 + 1) (ba 16 zB)) := by
    rw [hw2, HA.out]
    exact ⟨(((Chg.refl w).alloc _).alloc _).alloc _, ((Ar.new w _ _).alloc _).alloc _, (Ar.new1 w _ _ _).alloc _, Ar.new2 w _ _ _ _⟩
  rw [← hw2]
  have hcp := run_cp w2.drew (w.heap.size + 1 + 1) 16 0 16 16 w.heap.size 0 12 12 12 zB nc Z.out.2.2.2 (Ar.bs Z.out.2.1) rfl (by omega)
  obtain ⟨F, hF⟩ : ∃ F, F = over 0 12 nc zB := ⟨_, rfl⟩
  rw [← hF] at hcp
  have HF : Hid (F = over 0 12 nc zB) := hF
  clear hw2 hz hsA hF
  go_cut [] from 6 to 9 (fun wc => Chg w wc ∧ Ar wc (w.heap.size + 1) (ba 16 zB) ∧ Ar wc (w.heap.size + 1 + 1) (ba 16 F))
  case first =>
    go_region_with (fail)
    all_goals go_wp2
    all_goals go_meet
    all_goals
      obtain ⟨k0, k1, k2, k3⟩ := Z.out
      exact ⟨k0.drew.setRow (by omega) _, k2.drew.rowOther (by omega) _, k3.drew.row _⟩
  case rest =>
    obtain ⟨z0, z1, z2⟩ := hcut
    have b1 := (z2.cell 15).trans (ba_get 16 F (by decide))
    have f1 := z2.frozen 15
    have Z2 : Hid (Chg w wc ∧ Ar wc (w.heap.size + 1) (ba 16 zB) ∧ Ar wc (w.heap.size + 1 + 1) (ba 16 F)) := ⟨z0, z1, z2⟩
    clear z0 z1 z2 hcp Z
    go_upto_region 4 with fail
    obtain ⟨w3, hw3⟩ : ∃ w3, w3 = wc.setCell ⟨w.heap.size + 1 + 1, 15, none⟩ (.int .u8 (x.toNat : Int)) := ⟨_, rfl⟩
    obtain ⟨G, hG⟩ : ∃ G, G = updB F 15 x := ⟨_, rfl⟩
    have HG : Hid (ba 16 G = ba 16 (ctrB nc x)) := by
      show ba 16 G = _
      refine ba_congr fun j hj => ?_
      rw [hG, HF.out, updB, over, ctrB]
      by_cases h1 : j = 15
      · rw [if_pos h1, if_neg (by omega), if_pos h1]
      · rw [if_neg h1]
        by_cases h2 : j < 12
        · rw [if_pos (by omega), if_pos h2, Nat.sub_zero]
        · rw [if_neg (by omega), if_neg h2, if_neg h1]
          rfl
    have Z3 : Hid (Chg w w3 ∧ Ar w3 (w.heap.size + 1) (ba 16 zB) ∧ Ar w3 (w.heap.size + 1 + 1) (ba 16 G)) := by
      obtain ⟨k0, k1, k2⟩ := Z2.out
      rw [hw3, hG]
      have := k2.set 15 (.int .u8 (x.toNat : Int))
      rw [ba_set] at this
      exact ⟨k0.setCell (by dsimp only; omega) _, k1.other (by dsimp only; omega) _, this⟩
    rw [← hw3]
    obtain ⟨t1, g1⟩ := Z3.out.2.2
    obtain ⟨t3, g3⟩ := Z3.out.2.1
    have hsz := szB G zero32.2
    have hlen := lenB 16 zB G
    have hone := ba_one 16 G
    clear hw3 hG b1 f1 Z2
    go_wp2_with (first | refine wpList_load_row rfl 23 _ rfl _ rfl _ _ _ _ g1 und32 rfl hsz ?_ | refine wpList_store_row rfl 23 _ _ rfl _ _ rfl rfl _ _ g3 hsz hlen hone ?_)
    refine bp_c (n := 16) (c := ba 16 G) Try.results41 rfl rfl ?_ und32 i32 (ba_size _ _) ⟨by rw [HG.out], ?_⟩
    · exact Z3.out.2.1.row _
    · exact Z3.out.1.setRow (by omega) _

set_option maxRecDepth 100000 in
set_option maxHeartbeats 4000000 in
theorem with_any (a b : Nat → By) (w : World) : Calls Try.prog 19 #[.agg (ba 16 a), .agg (ba 16 b)] w fun r w' => r = .returned (.agg (ba 16 (xr a b))) ∧ Chg w w' := by
  have hsA := ba_size 16 a
  have hsB := ba_size 16 b
  obtain ⟨A, hA⟩ : ∃ A, A = ba 16 a := ⟨_, rfl⟩
  obtain ⟨B, hB⟩ : ∃ B, B = ba 16 b := ⟨_, rfl⟩
  have HAB : Hid (A = ba 16 a ∧ B = ba 16 b) := ⟨hA, hB⟩
  rw [← hA] at hsA ⊢
  rw [← hB] at hsB ⊢
  clear hA hB
  have hz := zero32.1
  go_enter Try.func19, Try.ntmps19
  go_upto_region 1 with fail
  obtain ⟨w3, hw3⟩ : ∃ w3, w3 = ((w.alloc (.cells A 23)).alloc (.cells B 23)).alloc (.cells (ba 16 zB) 23) := ⟨_, rfl⟩
  rw [← hw3]
  have z0 : Hid (Chg w w3 ∧ Ar w3 w.heap.size A ∧ Ar w3 (w.heap.size + 1) B ∧ Ar w3 (w.heap.size + 1 + 1) (ba 16 zB)) := by
    rw [hw3]
    exact ⟨(((Chg.refl w).alloc _).alloc _).alloc _, ((Ar.new w _ _).alloc _).alloc _, (Ar.new1 w _ _ _).alloc _, Ar.new2 w _ _ _ _⟩
  clear hw3
  go_wp2_with fail
  go_loopw [5] (fun v wr => ∃ (i : Nat), v = .int .i64 i ∧ i ≤ 16 ∧ Chg w wr ∧ Ar wr w.heap.size (ba 16 (upTo i (xr a b) a)) ∧ Ar wr (w.heap.size + 1) (ba 16 b) ∧ Ar wr (w.heap.size + 1 + 1) (ba 16 zB)) (fun v wr => 16 - (intOf v).toNat)
  case atStart =>
    obtain ⟨z1, z2, z3, z4⟩ := z0.out
    rw [HAB.out.1] at z2
    rw [HAB.out.2] at z3
    exact ⟨0, rfl, by omega, z1, by rw [upTo_zero]; exact z2, z3, z4⟩
  case round =>
    clear z0 hsA hsB hz
    obtain ⟨i, rfl, hi, hch, h1, h2, h3⟩ := hrel
    have H : Hid (Chg w wr ∧ Ar wr w.heap.size (ba 16 (upTo i (xr a b) a)) ∧ Ar wr (w.heap.size + 1) (ba 16 b) ∧ Ar wr (w.heap.size + 1 + 1) (ba 16 zB)) := ⟨hch, h1, h2, h3⟩
    by_cases h16 : i < 16
    · have hd : decide ((i : Int) < 16) = true := by simp; omega
      have li : (i : Int) < 16 := by omega
      have c1 := (h1.cell i).trans (ba_get 16 _ h16)
      have c2 := (h2.cell i).trans (ba_get 16 _ h16)
      have f1 := h1.frozen i
      have e0 : upTo i (xr a b) a i = a i := by simp [upTo]
      rw [e0] at c1
      obtain ⟨x, hx⟩ : ∃ x, x = a i := ⟨_, rfl⟩
      obtain ⟨y, hy⟩ : ∃ y, y = b i := ⟨_, rfl⟩
      rw [← hx] at c1
      rw [← hy] at c2
      have HX : Hid (xr a b i = x ^^^ y) := by show xr a b i = _; rw [hx, hy, xr]
      clear hx hy hch h1 h2 h3 e0
      go_wp2_with fail
      go_region_with (fail)
      all_goals go_wp2
      all_goals
        go_roundw
        case rel =>
          obtain ⟨k0, k1, k2, k3⟩ := H.out
          refine ⟨i + 1, by go_num, by omega, (k0.setCell (by dsimp only; omega) _).drew, ?_, (k2.other (by dsimp only; omega) _).drew, (k3.other (by dsimp only; omega) _).drew⟩
          have hh := k1.set i (.int .u8 (Go.bits .xor .u8 (x.toNat : Int) (y.toNat : Int)))
          rw [xorB, ba_set, ← HX.out, upTo_upd] at hh
          rw [xorB, ← HX.out]
          exact hh.drew
        case measure => simp [intOf]; omega
    · have : i = 16 := by omega
      subst this
      have hd : decide (((16 : Nat) : Int) < 16) = false := by simp
      obtain ⟨g, hg⟩ : ∃ g, g = upTo 16 (xr a b) a := ⟨_, rfl⟩
      have HG : Hid (ba 16 g = ba 16 (xr a b)) := by
        show ba 16 g = _
        rw [hg, upTo_all]
      rw [← hg] at H
      obtain ⟨t1, g1⟩ := H.out.2.1
      obtain ⟨t3, g3⟩ := H.out.2.2.2
      have hsz := szB g zero32.2
      have hlen := lenB 16 zB g
      have hone := ba_one 16 g
      clear hg hch h1 h2 h3
      go_wp2_with (first | refine wpList_load_row rfl 23 _ rfl _ rfl _ _ _ _ g1 und32 rfl hsz ?_ | refine wpList_store_row rfl 23 _ _ rfl _ _ rfl rfl _ _ g3 hsz hlen hone ?_)
      refine bp_c (n := 16) (c := ba 16 g) Try.results19 rfl rfl ?_ und32 i32 (ba_size _ _) ⟨by rw [HG.out], ?_⟩
      · exact H.out.2.2.2.row _
      · exact H.out.1.setRow (by omega) _
end Go.Proofs.Ytfnibmfmjglmlaa
