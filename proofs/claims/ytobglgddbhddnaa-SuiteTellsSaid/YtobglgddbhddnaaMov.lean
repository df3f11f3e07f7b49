/-
  Boxes of a block's bytes, its rows moved: the function moved.
-/
import Derived.Test.YtobglgddbhddnaaBxd
namespace Go.Proofs.Ytobglgddbhddnaa
open Go.RowKit
set_option linter.unusedVariables false

set_option maxRecDepth 100000 in
set_option maxHeartbeats 4000000 in
theorem moved_any (P : Nat) (f : Nat → By) (w : World) (hP : Ar w P (ba 256 sbF)) : Calls Try.prog 49 #[.pointer (some ⟨P, 0, none⟩), .agg (ba 16 f)] w fun r w' => r = .returned (.agg (ba 16 (mv f))) ∧ Chg w w' := by
  have hsA := ba_size 16 f
  obtain ⟨A, hA⟩ : ∃ A, A = ba 16 f := ⟨_, rfl⟩
  have HA : Hid (A = ba 16 f) := hA
  have HP : Hid (Ar w P (ba 256 sbF)) := hP
  have hPl := hP.lt
  rw [← hA] at hsA ⊢
  clear hA hP
  have hz := zero32.1
  go_enter Try.func49, Try.ntmps49
  go_wp2_with fail
  obtain ⟨w3, hw3⟩ : ∃ w3, w3 = ((w.alloc (.cells A 60)).alloc (.cells (ba 16 zB) 60)).alloc (.cells (ba 16 zB) 60) := ⟨_, rfl⟩
  rw [← hw3]
  have z0 : Hid (Chg w w3 ∧ Ar w3 w.heap.size A ∧ Ar w3 (w.heap.size + 1) (ba 16 zB) ∧ Ar w3 (w.heap.size + 1 + 1) (ba 16 zB)) := by
    rw [hw3]
    exact ⟨(((Chg.refl w).alloc _).alloc _).alloc _, ((Ar.new w _ _).alloc _).alloc _, (Ar.new1 w _ _ _).alloc _, Ar.new2 w _ _ _ _⟩
  clear hw3
  go_loopw [8] (fun v wr => ∃ (c : Nat), v = .int .i64 c ∧ c ≤ 4 ∧ Chg w wr ∧ Ar wr w.heap.size (ba 16 f) ∧ Ar wr (w.heap.size + 1) (ba 16 zB) ∧ Ar wr (w.heap.size + 1 + 1) (ba 16 (upTo (4 * c) (mv f) zB))) (fun v wr => 4 - (intOf v).toNat)
  case atStart =>
    obtain ⟨z1, z2, z3, z4⟩ := z0.out
    rw [HA.out] at z2
    exact ⟨0, rfl, by omega, z1, z2, z3, by rw [Nat.mul_zero, upTo_zero]; exact z4⟩
  case round =>
    clear z0 hsA hz
    obtain ⟨c, rfl, hc, hch, h1, h2, h3⟩ := hrel
    have H : Hid (Chg w wr ∧ Ar wr w.heap.size (ba 16 f) ∧ Ar wr (w.heap.size + 1) (ba 16 zB) ∧ Ar wr (w.heap.size + 1 + 1) (ba 16 (upTo (4 * c) (mv f) zB))) := ⟨hch, h1, h2, h3⟩
    clear hch h1 h2 h3
    by_cases h4 : c < 4
    · have hd : decide ((c : Int) < 4) = true := by simp; omega
      have lc : (c : Int) < 4 := by omega
      obtain ⟨t, ht⟩ : ∃ t : Nat, 4 * (c : Int) = t := ⟨4 * c, by omega⟩
      have wt := wrap_i (x := (t : Int)) (by omega) (by omega)
      have HT : Hid (t = 4 * c) := by show t = _; omega
      go_wp2_with fail
      go_loopw [11] (fun v wq => ∃ (r : Nat), v = .int .i64 r ∧ r ≤ 4 ∧ Chg w wq ∧ Ar wq w.heap.size (ba 16 f) ∧ Ar wq (w.heap.size + 1) (ba 16 zB) ∧ Ar wq (w.heap.size + 1 + 1) (ba 16 (upTo (4 * c + r) (mv f) zB))) (fun v wq => 4 - (intOf v).toNat)
      case atStart => exact ⟨0, rfl, by omega, H.out⟩
      case round =>
        clear H
        obtain ⟨r, rfl, hr, hch, h1, h2, h3⟩ := hrel
        have H : Hid (Chg w wr ∧ Ar wr w.heap.size (ba 16 f) ∧ Ar wr (w.heap.size + 1) (ba 16 zB) ∧ Ar wr (w.heap.size + 1 + 1) (ba 16 (upTo (4 * c + r) (mv f) zB))) := ⟨hch, h1, h2, h3⟩
        by_cases hr4 : r < 4
        · have hdr : decide ((r : Int) < 4) = true := by simp; omega
          have lr : (r : Int) < 4 := by omega
          obtain ⟨tr, htr⟩ : ∃ tr : Nat, (t : Int) + r = tr := ⟨t + r, by omega⟩
          have wtr := wrap_i (x := (tr : Int)) (by omega) (by omega)
          obtain ⟨s, hs⟩ : ∃ s : Nat, (c : Int) + r = s := ⟨c + r, by omega⟩
          have ws := wrap_i (x := (s : Int)) (by omega) (by omega)
          obtain ⟨q, hq⟩ : ∃ q : Nat, q = s % 4 := ⟨_, rfl⟩
          have hmod : (s : Int).tmod 4 = q := by rw [Int.tmod_eq_emod_of_nonneg (by omega), hq]; rfl
          have wq' := wrap_i (x := (q : Int)) (by omega) (by omega)
          obtain ⟨q4, hq4⟩ : ∃ q4 : Nat, 4 * (q : Int) = q4 := ⟨4 * q, by omega⟩
          have wq4 := wrap_i (x := (q4 : Int)) (by omega) (by omega)
          obtain ⟨j, hj⟩ : ∃ j : Nat, (q4 : Int) + r = j := ⟨q4 + r, by omega⟩
          have wj := wrap_i (x := (j : Int)) (by omega) (by omega)
          have lj : j < 16 := by omega
          have lj' : (j : Int) < 16 := by omega
          have ltr : tr < 16 := by have := HT.out; omega
          have ltr' : (tr : Int) < 16 := by omega
          have c1 := (h1.cell j).trans (ba_get 16 _ lj)
          have c2 := box_cell (HP.out.chg hch) (f j)
          have c3 := (h3.cell tr).trans (ba_get 16 _ ltr)
          have f3 := h3.frozen tr
          obtain ⟨x3, hx3⟩ : ∃ x, x = upTo (4 * c + r) (mv f) zB tr := ⟨_, rfl⟩
          rw [← hx3] at c3
          have HX : Hid (mv f (4 * c + r) = sb (f j)) := by
            show mv f (4 * c + r) = _
            have e : 4 * (((4 * c + r) / 4 + (4 * c + r) % 4) % 4) + (4 * c + r) % 4 = j := by omega
            rw [mv, e]
          have HTR : Hid (tr = 4 * c + r) := by have := HT.out; show tr = _; omega
          obtain ⟨y, hy⟩ : ∃ y, y = sb (f j) := ⟨_, rfl⟩
          obtain ⟨X, hX⟩ : ∃ X, X = (f j).toNat := ⟨_, rfl⟩
          have lX : X < 256 := by rw [hX]; exact (f j).isLt
          rw [← hX] at c1 c2
          rw [← hy] at c2
          have lX' : (X : Int) < 256 := by omega
          have HY : Hid (sb (f j) = y) := hy.symm
          clear hX hy hch h1 h2 h3 hq hx3
          go_wp2_with fail
          go_region_with (fail)
          all_goals go_wp2
          all_goals
            go_roundw
            case rel =>
              obtain ⟨k0, k1, k2, k3⟩ := H.out
              refine ⟨r + 1, by go_num, by omega, (k0.setCell (by dsimp only; omega) _).drew, (k1.other (by dsimp only; omega) _).drew, (k2.other (by dsimp only; omega) _).drew, ?_⟩
              have hh := k3.set tr (.int .u8 (y.toNat : Int))
              rw [ba_set, HTR.out, ← HY.out, ← HX.out, upTo_upd (4 * c + r) (mv f) zB] at hh
              rw [← HY.out, ← HX.out, HTR.out]
              exact hh.drew
            case measure => simp [intOf]; omega
        · have : r = 4 := by omega
          subst this
          clear hch h1 h2 h3
          go_wp2
          go_roundw
          case rel =>
            have e : 4 * c + 4 = 4 * (c + 1) := by omega
            rw [e] at H
            exact ⟨c + 1, by go_num, by omega, H.out⟩
          case measure => simp [intOf]; omega
    · have : c = 4 := by omega
      subst this
      obtain ⟨k0, k1, k2, k3⟩ := H.out
      rw [upTo_all] at k3
      obtain ⟨g, hg⟩ : ∃ g, g = mv f := ⟨_, rfl⟩
      rw [← hg] at k3
      have HG : Hid (g = mv f) := hg
      clear hg
      have K2 : Hid (Ar wr (w.heap.size + 1) (ba 16 zB)) := k2
      obtain ⟨t1, g1⟩ := k3
      obtain ⟨t3, g3⟩ := k2
      have hsz := szB g zero32.2
      have hlen := lenB 16 zB g
      have hone := ba_one 16 g
      have K0 : Hid (Chg w wr) := k0
      clear k0 k1 H
      go_wp2_with (first | refine wpList_load_row rfl 60 _ rfl _ rfl _ _ _ _ g1 und32 rfl hsz ?_ | refine wpList_store_row rfl 60 _ _ rfl _ _ rfl rfl _ _ g3 hsz hlen hone ?_)
      refine bp_c (n := 16) (c := ba 16 g) Try.results49 rfl rfl ?_ und32 i32 (ba_size _ _) ⟨by rw [HG.out], ?_⟩
      · exact K2.out.row _
      · exact K0.out.setRow (by omega) _
end Go.Proofs.Ytobglgddbhddnaa
