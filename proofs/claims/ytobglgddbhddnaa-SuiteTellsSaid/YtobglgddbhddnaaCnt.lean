/-
  A block's last four bytes, counted on by one: the function counted.
-/
import Derived.Test.YtobglgddbhddnaaXor
namespace Go.Proofs.Ytobglgddbhddnaa
open Go.RowKit
set_option linter.unusedVariables false

/-- The last j bytes are noughts. -/
def zl (b : Nat → By) (j : Nat) : Nat → By := fun k => if 16 - j ≤ k then 0#8 else b k
def fulls (b : Nat → By) (j : Nat) : Prop := ∀ k, 16 - j ≤ k → k < 16 → (b k).toNat = 255

theorem put4_of (b f : Nat → By) (n : Nat) (h : ∀ k, k < 12 → f k = b k) (hn : num4 f = n % 4294967296) : E16 f (put4 b n) := by
  have h1 : E16 (put4 f (num4 f)) f := by
    have := ctr_zero f
    rwa [ctr, Nat.add_zero] at this
  have h2 : E16 (put4 f (num4 f)) (put4 f n) := put4_mod f _ _ (by rw [hn]; omega)
  intro j hj
  have e : put4 f n j = put4 b n j := by
    unfold put4
    split
    · rename_i h12; exact h j h12
    · rfl
  rw [← e, ← h2 j hj, h1 j hj]

theorem carry_on (b : Nat → By) (j : Nat) (hj : j < 4) (hf : fulls b j) (h : (b (15 - j)).toNat + 1 < 256) : E16 (updB (zl b j) (15 - j) (BitVec.ofNat 8 ((b (15 - j)).toNat + 1))) (ctr b 1) := by
  refine put4_of b _ _ (fun k hk => ?_) ?_
  · unfold updB zl
    have e1 : ¬ k = 15 - j := by omega
    have e2 : ¬ 16 - j ≤ k := by omega
    simp [e1, e2]
  · have h0 := (b 12).isLt
    have h1 := (b 13).isLt
    have h2 := (b 14).isLt
    have h3 := (b 15).isLt
    have : j = 0 ∨ j = 1 ∨ j = 2 ∨ j = 3 := by omega
    rcases this with rfl | rfl | rfl | rfl
    · simp [num4, updB, zl] at h ⊢
      omega
    · have g3 := hf 15 (by omega) (by omega)
      simp [num4, updB, zl] at h ⊢
      omega
    · have g3 := hf 15 (by omega) (by omega)
      have g2 := hf 14 (by omega) (by omega)
      simp [num4, updB, zl] at h ⊢
      omega
    · have g3 := hf 15 (by omega) (by omega)
      have g2 := hf 14 (by omega) (by omega)
      have g1 := hf 13 (by omega) (by omega)
      simp [num4, updB, zl] at h ⊢
      omega

theorem carry_out (b : Nat → By) (hf : fulls b 4) : E16 (zl b 4) (ctr b 1) := by
  refine put4_of b _ _ (fun k hk => ?_) ?_
  · unfold zl
    have e2 : ¬ 16 - 4 ≤ k := by omega
    simp [e2]
  · have g3 := hf 15 (by omega) (by omega)
    have g2 := hf 14 (by omega) (by omega)
    have g1 := hf 13 (by omega) (by omega)
    have g0 := hf 12 (by omega) (by omega)
    simp [num4, zl] at g0 g1 g2 g3 ⊢
    omega

theorem zl_step (b : Nat → By) (j : Nat) (hj : j < 4) (h : (b (15 - j)).toNat = 255) : updB (zl b j) (15 - j) 0#8 = zl b (j + 1) := by
  funext k
  unfold updB zl
  by_cases e : k = 15 - j
  · subst e
    have : 16 - (j + 1) ≤ 15 - j := by omega
    simp
  · have : 16 - (j + 1) ≤ k ↔ 16 - j ≤ k := by omega
    rw [if_neg e]
    simp only [this]

set_option maxRecDepth 100000 in
theorem counted_any (b : Nat → By) (w : World) : Calls Try.prog 37 #[.agg (ba 16 b)] w fun r w' => r = .returned (.agg (ba 16 (ctr b 1))) ∧ Chg w w' := by
  have hsA := ba_size 16 b
  obtain ⟨A, hA⟩ : ∃ A, A = ba 16 b := ⟨_, rfl⟩
  have HA : Hid (A = ba 16 b) := hA
  rw [← hA] at hsA ⊢
  clear hA
  have hz := zero32.1
  go_enter Try.func37, Try.ntmps37
  go_wp2_with fail
  obtain ⟨w3, hw3⟩ : ∃ w3, w3 = (w.alloc (.cells A 60)).alloc (.cells (ba 16 zB) 60) := ⟨_, rfl⟩
  rw [← hw3]
  have z0 : Hid (Chg w w3 ∧ Ar w3 w.heap.size A ∧ Ar w3 (w.heap.size + 1) (ba 16 zB)) := by
    rw [hw3]
    exact ⟨((Chg.refl w).alloc _).alloc _, (Ar.new w _ _).alloc _, Ar.new1 w _ _ _⟩
  clear hw3
  go_loopw [3] (fun v wr => ∃ (j : Nat), v = .int .i64 (15 - (j : Int)) ∧ j ≤ 4 ∧ fulls b j ∧ Chg w wr ∧ Ar wr w.heap.size (ba 16 (zl b j)) ∧ Ar wr (w.heap.size + 1) (ba 16 zB)) (fun v wr => (intOf v).toNat)
  case atStart =>
    obtain ⟨z1, z2, z3⟩ := z0.out
    rw [HA.out] at z2
    refine ⟨0, rfl, by omega, fun k h1 h2 => by omega, z1, ?_, z3⟩
    have e : ba 16 (zl b 0) = ba 16 b := ba_congr fun i hi => by
      have : ¬ 16 - 0 ≤ i := by omega
      simp [zl, this]
    rw [e]
    exact z2
  case round =>
    clear z0 hsA hz
    obtain ⟨j, rfl, hj, hf, hch, h1, h2⟩ := hrel
    have H : Hid (Chg w wr ∧ Ar wr w.heap.size (ba 16 (zl b j)) ∧ Ar wr (w.heap.size + 1) (ba 16 zB) ∧ fulls b j) := ⟨hch, h1, h2, hf⟩
    obtain ⟨i, hi⟩ : ∃ i : Nat, (15 : Int) - j = i := ⟨15 - j, by omega⟩
    rw [hi]
    have HI : Hid (i = 15 - j) := by show i = _; omega
    by_cases h4 : j < 4
    · have hd : decide ((12 : Int) ≤ i) = true := by simp; omega
      have li : (i : Int) < 16 := by omega
      have wi := wrap_i (x := (i : Int)) (by omega) (by omega)
      have c1 := (h1.cell i).trans (ba_get 16 _ (by omega))
      have f1 := h1.frozen i
      have e0 : zl b j i = b i := by
        have : ¬ 16 - j ≤ i := by omega
        simp [zl, this]
      rw [e0] at c1
      obtain ⟨X, hX⟩ : ∃ X, X = (b i).toNat := ⟨_, rfl⟩
      rw [← hX] at c1
      have lX : X < 256 := by rw [hX]; exact (b i).isLt
      have HX : Hid (X = (b i).toNat) := hX
      obtain ⟨Y, hY⟩ : ∃ Y : Nat, ((X : Int) + 1) % 256 = Y := ⟨(X + 1) % 256, by omega⟩
      have hY2 : IntKind.u8.wrap ((X : Int) + 1) = Y := by rw [IntKind.wrap_u8]; exact hY
      have HY : Hid ((((X : Int) + 1) % 256 = Y)) := hY
      clear hch h1 h2 hf hX e0
      by_cases hover : X = 255
      · have hY0 : Y = 0 := by omega
        subst hY0
        go_wp2_with fail
        go_roundw
        case rel =>
          obtain ⟨k0, k1, k2, k3⟩ := H.out
          have hx : (b (15 - j)).toNat = 255 := by rw [← HI.out, ← HX.out]; exact hover
          refine ⟨j + 1, ?_, by omega, ?_, k0.setCell (by dsimp only; omega) _, ?_, k2.other (by dsimp only; omega) _⟩
          · go_num
          · intro k h1 h2
            by_cases e : k = 15 - j
            · rw [e]; exact hx
            · exact k3 k (by omega) h2
          · have hh := k1.set i (.int .u8 ((0#8 : By).toNat : Int))
            rw [ba_set, HI.out, zl_step b j h4 hx] at hh
            have e := HI.out
            rw [e]
            exact hh
        case measure => simp [intOf]; omega
      · have hYn : ((Y : Int) == 0) = false := by simp; omega
        obtain ⟨k0, k1, k2, k3⟩ := H.out
        have hh := k1.set i (.int .u8 (Y : Int))
        have hY' : Y = (b (15 - j)).toNat + 1 := by rw [← HI.out, ← HX.out]; omega
        have hY8 : (Y : Int) = ((BitVec.ofNat 8 ((b (15 - j)).toNat + 1)).toNat : Int) := by
          rw [BitVec.toNat_ofNat, hY']
          have : (b (15 - j)).toNat + 1 < 256 := by omega
          omega
        have hE := carry_on b j h4 k3 (by omega)
        obtain ⟨g, hg⟩ : ∃ g, g = ctr b 1 := ⟨_, rfl⟩
        have HG : Hid (g = ctr b 1) := hg
        rw [hY8, ba_set, HI.out, ba_congr hE, ← hg, ← hY8, ← HI.out] at hh
        clear hg hE hY8 hY'
        have K0 : Hid (Chg w wr) := k0
        have K2 : Hid (Ar (wr.setCell ⟨w.heap.size, i, none⟩ (.int .u8 (Y : Int))) (w.heap.size + 1) (ba 16 zB)) := k2.other (by dsimp only; omega) _
        obtain ⟨t1, g1⟩ := hh
        obtain ⟨t3, g3⟩ := K2.out
        have hsz := szB g zero32.2
        have hlen := lenB 16 zB g
        have hone := ba_one 16 g
        clear k0 k1 k2 k3
        go_wp2_with (first | refine wpList_load_row rfl 60 _ rfl _ rfl _ _ _ _ g1 und32 rfl hsz ?_ | refine wpList_store_row rfl 60 _ _ rfl _ _ rfl rfl _ _ g3 hsz hlen hone ?_)
        refine bp_c (n := 16) (c := ba 16 g) Try.results37 rfl rfl ?_ und32 i32 (ba_size _ _) ⟨by rw [HG.out], ?_⟩
        · exact K2.out.row _
        · exact (K0.out.setCell (by dsimp only; omega) _).setRow (by omega) _
    · have : j = 4 := by omega
      subst this
      obtain ⟨k0, k1, k2, k3⟩ := H.out
      have hd : decide ((12 : Int) ≤ i) = false := by simp; omega
      rw [ba_congr (carry_out b k3)] at k1
      obtain ⟨g, hg⟩ : ∃ g, g = ctr b 1 := ⟨_, rfl⟩
      rw [← hg] at k1
      have HG : Hid (g = ctr b 1) := hg
      clear hg h1 h2 hf hch
      have K2 : Hid (Ar wr (w.heap.size + 1) (ba 16 zB)) := k2
      obtain ⟨t1, g1⟩ := k1
      obtain ⟨t3, g3⟩ := k2
      have hsz := szB g zero32.2
      have hlen := lenB 16 zB g
      have hone := ba_one 16 g
      have K0 : Hid (Chg w wr) := k0
      clear k0 H k3
      go_wp2_with (first | refine wpList_load_row rfl 60 _ rfl _ rfl _ _ _ _ g1 und32 rfl hsz ?_ | refine wpList_store_row rfl 60 _ _ rfl _ _ rfl rfl _ _ g3 hsz hlen hone ?_)
      refine bp_c (n := 16) (c := ba 16 g) Try.results37 rfl rfl ?_ und32 i32 (ba_size _ _) ⟨by rw [HG.out], ?_⟩
      · exact K2.out.row _
      · exact K0.out.setRow (by omega) _
end Go.Proofs.Ytobglgddbhddnaa
