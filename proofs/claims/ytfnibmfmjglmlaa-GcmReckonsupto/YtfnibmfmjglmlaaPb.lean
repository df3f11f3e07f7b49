/-
  Blocks as polynomials, and back: polyOf, blockOf.
-/
import Derived.Test.YtfnibmfmjglmlaaPg
import Derived.Test.YtfnibmfmjglmlaaXor
namespace Go.Proofs.Ytfnibmfmjglmlaa
open Go.RowKit
set_option linter.unusedVariables false

/-- The word of so many bytes. -/
def w8 (f : Nat → By) : Nat → Wo
  | 0 => 0#64
  | n + 1 => (w8 f n <<< 8) ||| (f n).setWidth 64
/-- A block as a polynomial. -/
def pol (f : Nat → By) : Po := jn (w8 f 8) (w8 (fun i => f (i + 8)) 8)
theorem w8_get (f : Nat → By) (n i : Nat) (hn : n ≤ 8) (hi' : i < 8 * n) : (w8 f n).getLsbD i = (f (n - 1 - i / 8)).getLsbD (i % 8) := by
  induction n generalizing i with
  | zero => omega
  | succ n ih =>
    show ((w8 f n <<< 8) ||| (f n).setWidth 64).getLsbD i = _
    rw [BitVec.getLsbD_or, BitVec.getLsbD_shiftLeft, BitVec.getLsbD_setWidth]
    by_cases h : i < 8
    · have e1 : i / 8 = 0 := by omega
      have e2 : i % 8 = i := by omega
      have e3 : i < 64 := by omega
      rw [e1, e2, show n + 1 - 1 - 0 = n by omega]
      simp [h, e3]
    · rw [ih (i - 8) (by omega) (by omega), BitVec.getLsbD_of_ge (f n) i (by omega)]
      have e3 : i < 64 := by omega
      rw [show n - 1 - (i - 8) / 8 = n + 1 - 1 - i / 8 by omega, show (i - 8) % 8 = i % 8 by omega]
      simp [h, e3]
theorem pol_get (f : Nat → By) {i : Nat} (h : i < 128) : (pol f).getMsbD i = (f (i / 8)).getMsbD (i % 8) := by
  have hm : i % 8 < 8 := by omega
  unfold BitVec.getMsbD
  rw [show (128 - 1 - i : Nat) = 127 - i by omega, pol, jn_get]
  simp only [h, hm, decide_true, Bool.true_and]
  by_cases h2 : i < 64
  · rw [if_neg (by omega), w8_get f 8 _ (by omega) (by omega), show 8 - 1 - (127 - i - 64) / 8 = i / 8 by omega, show (127 - i - 64) % 8 = 8 - 1 - i % 8 by omega]
  · rw [if_pos (by omega), w8_get _ 8 _ (by omega) (by omega), show 8 - 1 - (127 - i) / 8 + 8 = i / 8 by omega, show (127 - i) % 8 = 8 - 1 - i % 8 by omega]
/-- A polynomial's byte. -/
def byt (p : Po) : Nat → By := fun j => if j < 8 then ((hi p) >>> (8 * (7 - j))).setWidth 8 else ((lo p) >>> (8 * (15 - j))).setWidth 8
theorem byt_get (p : Po) {j i : Nat} (hj : j < 16) (hi' : i < 8) : (byt p j).getMsbD i = p.getMsbD (8 * j + i) := by
  unfold byt BitVec.getMsbD
  have h1 : 8 * j + i < 128 := by omega
  simp only [hi', h1, decide_true, Bool.true_and]
  by_cases h : j < 8
  · rw [if_pos h, BitVec.getLsbD_setWidth, BitVec.getLsbD_ushiftRight, hi_get _ (by omega), show 64 + (8 * (7 - j) + (8 - 1 - i)) = 128 - 1 - (8 * j + i) by omega]
    have : 8 - 1 - i < 8 := by omega
    simp [this]
  · rw [if_neg h, BitVec.getLsbD_setWidth, BitVec.getLsbD_ushiftRight, lo_get _ (by omega), show 8 * (15 - j) + (8 - 1 - i) = 128 - 1 - (8 * j + i) by omega]
    have : 8 - 1 - i < 8 := by omega
    simp [this]
theorem byt_pol (f : Nat → By) {j : Nat} (hj : j < 16) : byt (pol f) j = f j := by
  apply BitVec.eq_of_getMsbD_eq
  intro i hi'
  rw [byt_get _ hj hi', pol_get _ (by omega), show (8 * j + i) / 8 = j by omega, show (8 * j + i) % 8 = i by omega]
theorem pol_byt (p : Po) : pol (byt p) = p := by
  apply BitVec.eq_of_getMsbD_eq
  intro i hi'
  rw [pol_get _ hi', byt_get _ (by omega) (by omega), show 8 * (i / 8) + i % 8 = i by omega]
theorem pol_inj {f g : Nat → By} (h : pol f = pol g) : ∀ j, j < 16 → f j = g j := fun j hj => by rw [← byt_pol f hj, ← byt_pol g hj, h]
theorem pol_congr {f g : Nat → By} (h : ∀ j, j < 16 → f j = g j) : pol f = pol g := by
  apply BitVec.eq_of_getMsbD_eq
  intro i hi'
  rw [pol_get _ hi', pol_get _ hi', h _ (by omega)]
theorem pol_xr (f g : Nat → By) : pol (xr f g) = pol f ^^^ pol g := by
  apply BitVec.eq_of_getMsbD_eq
  intro i hi'
  rw [BitVec.getMsbD_xor, pol_get _ hi', pol_get _ hi', pol_get _ hi', xr, BitVec.getMsbD_xor]
theorem byt_xor (p q : Po) {j : Nat} (hj : j < 16) : byt (p ^^^ q) j = xr (byt p) (byt q) j := by
  have := pol_xr (byt p) (byt q)
  rw [pol_byt, pol_byt] at this
  rw [← this, byt_pol _ hj]

theorem nmByte (x : By) : ∃ z : Wo, Hid (z = x.setWidth 64) ∧ (x.toNat : Int) = (z.toNat : Int) := ⟨_, rfl, by
  have := x.isLt
  rw [BitVec.toNat_setWidth, Nat.mod_eq_of_lt (by omega)]⟩

set_option maxRecDepth 100000 in
set_option maxHeartbeats 4000000 in
theorem polyOf_any (f : Nat → By) (w : World) : Calls Try.prog 34 #[.agg (ba 16 f)] w fun r w' => r = .returned (.agg (pv (pol f))) ∧ Chg w w' := by
  have hz := zero65.1
  have hsA := ba_size 16 f
  obtain ⟨A, hA⟩ : ∃ A, A = ba 16 f := ⟨_, rfl⟩
  have HA : Hid (A = ba 16 f) := hA
  rw [← hA] at hsA ⊢
  clear hA
  go_enter Try.func34, Try.ntmps34
  go_wp2_with fail
  go_loopw [5] (fun v wr => ∃ (i : Nat), v = .int .i64 i ∧ i ≤ 8 ∧ Chg w wr ∧ Ar wr w.heap.size (ba 16 f) ∧ Ar wr (w.heap.size + 1) (pv 0) ∧ Ar wr (w.heap.size + 1 + 1) (pc (w8 f i) (w8 (fun i => f (i + 8)) i))) (fun v wr => 8 - (intOf v).toNat)
  case atStart =>
    refine ⟨0, rfl, by omega, ?_⟩
    rw [HA.out]
    exact ⟨(((Chg.refl w).alloc _).alloc _).alloc _, ((Ar.new w _ _).alloc _).alloc _, (Ar.new1 w _ _ _).alloc _, Ar.new2 w _ _ _ _⟩
  case round =>
    clear hsA
    obtain ⟨i, rfl, hi', z0, z1, z2, z3⟩ := hrel
    obtain ⟨h, hh⟩ : ∃ h, h = w8 f i := ⟨_, rfl⟩
    obtain ⟨l, hl⟩ : ∃ l, l = w8 (fun i => f (i + 8)) i := ⟨_, rfl⟩
    rw [← hh, ← hl] at z3
    have Z : Hid (Chg w wr ∧ Ar wr w.heap.size (ba 16 f) ∧ Ar wr (w.heap.size + 1) (pv 0) ∧ Ar wr (w.heap.size + 1 + 1) (pc h l)) := ⟨z0, z1, z2, z3⟩
    have HN : Hid (h = w8 f i ∧ l = w8 (fun i => f (i + 8)) i) := ⟨hh, hl⟩
    clear z0 z2 hh hl
    by_cases h8 : i < 8
    · have hd : decide ((i : Int) < 8) = true := by simp; omega
      have li : (i : Int) < 16 := by omega
      obtain ⟨i8, hi8⟩ : ∃ i8 : Nat, (i : Int) + 8 = i8 := ⟨i + 8, by omega⟩
      have wi8 := wrap_i (x := (i8 : Int)) (by omega) (by omega)
      have li8 : i8 < 16 := by omega
      have li8' : (i8 : Int) < 16 := by omega
      have HI : Hid (i8 = i + 8) := by show i8 = _; omega
      have c1 := (z1.cell i).trans (ba_get 16 _ (show i < 16 by omega))
      have c2 := (z1.cell i8).trans (ba_get 16 _ li8)
      have c3 : wr.cell? ⟨w.heap.size + 1 + 1, 0, none⟩ = some (.int .u64 (h.toNat : Int)) := z3.cell 0
      have f3 := z3.frozen 0
      obtain ⟨x, hx⟩ : ∃ x, x = f i := ⟨_, rfl⟩
      obtain ⟨x', hx'⟩ : ∃ x, x = f i8 := ⟨_, rfl⟩
      rw [← hx] at c1
      rw [← hx'] at c2
      obtain ⟨y1, H1, e1⟩ := nmShl h 8 256 rfl
      obtain ⟨y2, H2, e2⟩ := nmByte x
      obtain ⟨y3, H3, e3⟩ := nmOr y1 y2
      obtain ⟨y4, H4, e4⟩ := nmShl l 8 256 rfl
      obtain ⟨y5, H5, e5⟩ := nmByte x'
      obtain ⟨y6, H6, e6⟩ := nmOr y4 y5
      have wx := (show IntKind.u64.wrap (x.toNat : Int) = (y2.toNat : Int) by rw [← e2, IntKind.wrap_u64]; have := x.isLt; omega)
      have wx' := (show IntKind.u64.wrap (x'.toNat : Int) = (y5.toNat : Int) by rw [← e5, IntKind.wrap_u64]; have := x'.isLt; omega)
      have HY : Hid (y3 = w8 f (i + 1) ∧ y6 = w8 (fun i => f (i + 8)) (i + 1)) := by
        refine ⟨?_, ?_⟩
        · rw [H3.out, H1.out, H2.out, hx, HN.out.1]; rfl
        · rw [H6.out, H4.out, H5.out, hx', HN.out.2, HI.out]; rfl
      clear hx hx' z1 z3 H1 H2 H3 H4 H5 H6 HN e2 e5
      go_upto_region 5 with fail
      go_cut [] from 8 to 16 (fun wc => Chg w wc ∧ Ar wc w.heap.size (ba 16 f) ∧ Ar wc (w.heap.size + 1) (pv 0) ∧ Ar wc (w.heap.size + 1 + 1) (pc y3 l))
      case first =>
        go_region_with (fail)
        all_goals go_wp2
        all_goals go_meet
        all_goals
          obtain ⟨k0, k1, k2, k3⟩ := Z.out
          exact ⟨(k0.setCell (by dsimp only; omega) _).drew, (k1.other (by dsimp only; omega) _).drew, (k2.other (by dsimp only; omega) _).drew, (k3.set 0 _).drew⟩
      obtain ⟨z0, z1, z2, z3⟩ := hcut
      have Z2 : Hid (Chg w wc ∧ Ar wc w.heap.size (ba 16 f) ∧ Ar wc (w.heap.size + 1) (pv 0) ∧ Ar wc (w.heap.size + 1 + 1) (pc y3 l)) := ⟨z0, z1, z2, z3⟩
      have d1 := (z1.cell i8).trans (Z.out.2.1.cell i8).symm
      rw [c2] at d1
      have d3 : wc.cell? ⟨w.heap.size + 1 + 1, 1, none⟩ = some (.int .u64 (l.toNat : Int)) := z3.cell 1
      have f4 := z3.frozen 1
      clear z0 z1 z2 z3 c1 c2 c3 f3 Z e1 e3 wx
      go_wp2_with fail
      go_region_with (fail)
      all_goals go_wp2
      all_goals
        go_roundw
        case rel =>
          obtain ⟨k0, k1, k2, k3⟩ := Z2.out
          refine ⟨i + 1, by go_num, by omega, (k0.setCell (by dsimp only; omega) _).drew, (k1.other (by dsimp only; omega) _).drew, (k2.other (by dsimp only; omega) _).drew, ?_⟩
          rw [← HY.out.1, ← HY.out.2]
          exact (k3.set 1 _).drew
        case measure => simp [intOf]; omega
    · have hi2 : i = 8 := by omega
      have hd : decide ((i : Int) < 8) = false := by simp; omega
      have HS : Hid (pc h l = pv (pol f)) := by
        refine pv_of ?_ ?_
        · rw [pol, hi_jn, HN.out.1, hi2]
        · rw [pol, lo_jn, HN.out.2, hi2]
      obtain ⟨t1, g1⟩ := Z.out.2.2.2
      obtain ⟨t2, g2⟩ := Z.out.2.2.1
      obtain ⟨ff, hff⟩ := str65
      have hsq : (Try.prog.info? 65).map (·.size) = some (pc h l).size := i65 _ _
      have hone := pc_one h l
      have hlen : (pv 0).size = (pc h l).size := rfl
      obtain ⟨Q1, hQ1⟩ : ∃ Q1, Q1 = pc h l := ⟨_, rfl⟩
      have HQ1 : Hid (Q1 = pc h l) := hQ1
      rw [← hQ1] at g1 hsq hone hlen
      clear hi2 hQ1 z1 z3
      go_wp2_with (first | refine wpList_load_row rfl 65 _ rfl _ rfl _ _ _ _ g1 hff rfl hsq ?_ | refine wpList_store_row rfl 65 _ _ rfl _ _ rfl rfl _ _ g2 hsq hlen hone ?_)
      refine bp_p (p := pol f) Try.results34 rfl rfl ?_ ⟨rfl, ?_⟩
      · rw [← HS.out, HQ1.out]
        exact Z.out.2.2.1.row _
      · exact Z.out.1.setRow (by omega) _
end Go.Proofs.Ytfnibmfmjglmlaa
