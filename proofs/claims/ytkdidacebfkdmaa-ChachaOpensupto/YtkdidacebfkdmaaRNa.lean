/-
  The document's carried.
-/
import Derived.Test.YtkdidacebfkdmaaRp
import Derived.Test.YtkdidacebfkdmaaPol
namespace Go.Proofs.Ytkdidacebfkdmaa
open Go.RowKit
set_option linter.unusedVariables false

theorem und57 : Try.prog.underlying 57 = some (.array 8 47) := by kernel_rfl
theorem i57 : (Try.prog.info? 57).map (·.size) = some 8 := by kernel_rfl
theorem zero57 : (∀ w, (zeroValue 57).run Try.prog w = .ok (.agg (arr .u64 8 zI)) w) ∧ (Try.prog.info? 57).map (·.size) = some 8 := zero_of_info (by kernel_rfl)
theorem und58 : Try.prog.underlying 58 = some (.array 9 47) := by kernel_rfl
theorem i58 : (Try.prog.info? 58).map (·.size) = some 9 := by kernel_rfl
theorem zero58 : (∀ w, (zeroValue 58).run Try.prog w = .ok (.agg (arr .u64 9 zI)) w) ∧ (Try.prog.info? 58).map (·.size) = some 9 := zero_of_info (by kernel_rfl)
theorem und68 : Try.prog.underlying 68 = some (.array 18 47) := by kernel_rfl
theorem i68 : (Try.prog.info? 68).map (·.size) = some 18 := by kernel_rfl
theorem zero68 : (∀ w, (zeroValue 68).run Try.prog w = .ok (.agg (arr .u64 18 zI)) w) ∧ (Try.prog.info? 68).map (·.size) = some 18 := zero_of_info (by kernel_rfl)
theorem szI {t n : Nat} (d : Nat → Int) (h : (Try.prog.info? t).map (·.size) = some n) : (Try.prog.info? t).map (·.size) = some (arr .u64 n d).size := by rw [arr_size]; exact h
theorem lenI (n : Nat) (d e : Nat → Int) : (arr .u64 n d).size = (arr .u64 n e).size := by rw [arr_size, arr_size]
theorem mask16 {x : Int} (h0 : 0 ≤ x) (h1 : x < 18446744073709551616) : Go.bits .and .u64 x 65535 = x % 65536 := by
  obtain ⟨n, rfl⟩ := Int.eq_ofNat_of_zero_le h0
  have := u64_and_nat n 65535 (by omega) (by decide)
  rw [show (65535 : Int) = ((65535 : Nat) : Int) from rfl, this, show 65535 = 2 ^ 16 - 1 from rfl, Nat.and_two_pow_sub_one_eq_mod]
  omega

/-- Eighteen digits being worked on, and the result. -/
structure RC (w wr : World) (d : Nat → Int) : Prop where
  chg : Chg w wr
  a : Ar wr w.heap.size (arr .u64 18 d)
  out : Ar wr (w.heap.size + 1) (arr .u64 18 zI)
theorem RC.set {w wr : World} {d : Nat → Int} (h : RC w wr d) (i : Nat) (x : Int) : RC w (wr.setCell ⟨w.heap.size, i, none⟩ (.int .u64 x)) (updI d i x) := by
  refine ⟨h.chg.setCell (Nat.le_refl _) _, ?_, h.out.other (by dsimp only; omega) _⟩
  have := h.a.set i (.int .u64 x)
  rwa [arr_set] at this
theorem RC.drew {w wr : World} {d : Nat → Int} (h : RC w wr d) : RC w wr.drew d := ⟨h.chg.drew, h.a, h.out⟩

def ruF (p : Nat → Int) (i : Nat) : Nat → Int := fun j => if j < i then gD 65536 0 p j else if j = i then p i + gO 65536 0 p i else p j
theorem ruF_zero (p : Nat → Int) : ruF p 0 = p := by
  funext j
  unfold ruF
  rw [if_neg (by omega)]
  split
  · rename_i h
    subst h
    show p 0 + 0 = p 0
    omega
  · rfl
theorem ruF_succ (p : Nat → Int) (i : Nat) : updI (updI (ruF p i) (i + 1) (p (i + 1) + gO 65536 0 p (i + 1))) i (gD 65536 0 p i) = ruF p (i + 1) := by
  funext j
  unfold updI ruF
  by_cases h : j = i
  · subst h
    rw [if_pos rfl, if_pos (by omega)]
  · rw [if_neg h]
    by_cases h1 : j = i + 1
    · subst h1
      rw [if_pos rfl, if_neg (by omega), if_pos rfl]
    · rw [if_neg h1, if_neg h, if_neg h1]
      by_cases h2 : j < i
      · rw [if_pos h2, if_pos (by omega)]
      · rw [if_neg h2, if_neg (by omega)]
theorem ruF_all (p : Nat → Int) : arr .u64 18 (ruF p 17) = arr .u64 18 (rcD p) := arr_congr fun j hj => by
  unfold ruF rcD
  by_cases h : j < 17
  · rw [if_pos h, if_pos h]
  · have e : j = 17 := by omega
    subst e
    rw [if_neg h, if_neg h, if_pos rfl]

set_option maxRecDepth 100000 in
set_option maxHeartbeats 4000000 in
theorem refCarried_any (d : Nat → Int) (w : World) (hd : ∀ i, i < 18 → 0 ≤ d i ∧ d i ≤ 4611686018427387904) : Calls Try.prog 41 #[.agg (arr .u64 18 d)] w fun r w' => r = .returned (.agg (arr .u64 18 (rcD d))) ∧ Chg w w' := by
  have hsA := arr_size .u64 18 d
  obtain ⟨A, hA⟩ : ∃ A, A = arr .u64 18 d := ⟨_, rfl⟩
  have HA : Hid (A = arr .u64 18 d) := hA
  rw [← hA] at hsA ⊢
  have HD : Hid (∀ i, i < 18 → 0 ≤ d i ∧ d i ≤ 4611686018427387904) := hd
  clear hA hd
  have hz := zero68.1
  go_enter Try.func41, Try.ntmps41
  go_wp2_with fail
  obtain ⟨w2, hw2⟩ : ∃ w2, w2 = (w.alloc (.cells A 68)).alloc (.cells (arr .u64 18 zI) 68) := ⟨_, rfl⟩
  have Z2 : Hid (RC w w2 d) := by
    rw [hw2, HA.out]
    exact ⟨((Chg.refl w).alloc _).alloc _, (Ar.new w _ _).alloc _, Ar.new1 w _ _ _⟩
  rw [← hw2]
  clear hw2 hsA hz
  go_loopw [3] (fun v wr => ∃ (i : Nat), v = .int .i64 i ∧ i ≤ 17 ∧ RC w wr (ruF d i)) (fun v wr => 17 - (intOf v).toNat)
  case atStart => exact ⟨0, rfl, by omega, by rw [ruF_zero]; exact Z2.out⟩
  case round =>
    clear Z2
    obtain ⟨i, rfl, hi, hz0⟩ := hrel
    have Z : Hid (RC w wr (ruF d i)) := hz0
    by_cases hlt : i < 17
    · have hd' : decide ((i : Int) < 17) = true := by simp; omega
      have li : (i : Int) < 18 := by omega
      obtain ⟨i1, hi1⟩ : ∃ i1 : Nat, (i : Int) + 1 = i1 := ⟨i + 1, by omega⟩
      have wi1 := wrap_i (x := (i1 : Int)) (by omega) (by omega)
      have li1 : (i1 : Int) < 18 := by omega
      have HI : Hid (i1 = i + 1) := by show i1 = _; omega
      have b1 := HD.out i (by omega)
      have b1' := HD.out (i + 1) (by omega)
      have b2 := gO_nonneg (B := 65536) (c := 0) (by decide) (by decide) (d := d) (n := i) (fun j hj => (HD.out j (by omega)).1)
      have b3 := rO_le (p := d) (n := i) (fun j hj => (HD.out j (by omega)).2)
      have c1 := (hz0.a.cell i).trans (arr_get .u64 18 _ (by omega))
      have c2 := (hz0.a.cell i1).trans (arr_get .u64 18 _ (by omega))
      have f1 := hz0.a.frozen i1
      have e0 : ruF d i i = d i + gO 65536 0 d i := by unfold ruF; rw [if_neg (by omega), if_pos rfl]
      have e1 : ruF d i i1 = d i1 := by unfold ruF; rw [if_neg (by omega), if_neg (by omega)]
      rw [e0] at c1
      rw [e1] at c2
      obtain ⟨x, hx⟩ : ∃ x, x = d i + gO 65536 0 d i := ⟨_, rfl⟩
      rw [← hx] at c1
      obtain ⟨y, hy⟩ : ∃ y, y = d i1 := ⟨_, rfl⟩
      rw [← hy] at c2
      rw [← HI.out, ← hy] at b1'
      obtain ⟨q, hq⟩ : ∃ q, x / 65536 = q := ⟨_, rfl⟩
      obtain ⟨z, hzz⟩ : ∃ z, y + q = z := ⟨_, rfl⟩
      have wz := wrap_u (x := z) (by omega) (by omega)
      have mx := mask16 (x := x) (by omega) (by omega)
      obtain ⟨m, hm⟩ : ∃ m, x % 65536 = m := ⟨_, rfl⟩
      rw [hm] at mx
      have HE : Hid (updI (updI (ruF d i) i1 z) i m = ruF d (i + 1)) := by
        show _ = _
        rw [← ruF_succ d i, HI.out]
        have q1 : m = gD 65536 0 d i := by show m = (d i + gO 65536 0 d i) % 65536; rw [← hx, hm]
        have q2 : z = d (i + 1) + gO 65536 0 d (i + 1) := by
          show z = d (i + 1) + (d i + gO 65536 0 d i) / 65536
          rw [← hx, hq, ← hzz, hy, HI.out]
        rw [q1, q2]
      have HXe : Hid (ruF d i i = x) := by show _ = _; rw [e0, hx]
      clear hy hz0 e0 e1 b1 b1' b2 b3 hx hm
      go_upto_region 4 with fail
      go_cut [] from 8 to 19 (fun wc => RC w wc (updI (ruF d i) i1 z))
      case first =>
        go_region_with (fail)
        all_goals go_wp2_with fail
        all_goals go_meet
        all_goals
          first
            | exact (Z.out.set i1 z).drew
            | exact Z.out.drew.set i1 z
      have Z3 : Hid (RC w wc (updI (ruF d i) i1 z)) := hcut
      obtain ⟨w3, hw3⟩ : ∃ w3, w3 = wc := ⟨_, rfl⟩
      rw [← hw3] at Z3 ⊢
      clear hcut hw3 Z c2 f1 wc
      have c3 := (Z3.out.a.cell i).trans (arr_get .u64 18 _ (by omega))
      have e3 : updI (ruF d i) i1 z i = ruF d i i := updI_ne _ _ (by omega)
      rw [e3, HXe.out] at c3
      have f3 := Z3.out.a.frozen i
      clear e3 c1
      go_wp2_with fail
      go_roundw
      case rel =>
        refine ⟨i + 1, by have := HI.out; congr 1; omega, by omega, ?_⟩
        rw [← HE.out]
        exact Z3.out.set i m
      case measure => simp [intOf]; omega
    · have : i = 17 := by omega
      subst this
      have ha := hz0.a
      rw [ruF_all] at ha
      obtain ⟨g, hg⟩ : ∃ g, g = rcD d := ⟨_, rfl⟩
      rw [← hg] at ha
      have HG : Hid (g = rcD d) := hg
      have HOo : Hid (Chg w wr ∧ Ar wr (w.heap.size + 1) (arr .u64 18 zI)) := ⟨hz0.chg, hz0.out⟩
      clear hz0 Z hg
      obtain ⟨t1, g1⟩ := ha
      obtain ⟨t3, g3⟩ := HOo.out.2
      have hsz := szI g i68
      have hlen := lenI 18 zI g
      have hone := arr_one .u64 18 g
      go_wp2_with (first | refine wpList_load_row rfl 68 _ rfl _ rfl _ _ _ _ g1 und68 rfl hsz ?_ | refine wpList_store_row rfl 68 _ _ rfl _ _ rfl rfl _ _ g3 hsz hlen hone ?_)
      refine bp_c (n := 18) (c := arr .u64 18 g) Try.results41 rfl rfl ?_ und68 i68 (arr_size _ _ _) ⟨by rw [HG.out], ?_⟩
      · exact HOo.out.2.row _
      · exact HOo.out.1.setRow (by omega) _
end Go.Proofs.Ytkdidacebfkdmaa
