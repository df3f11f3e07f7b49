/-
  Blocks of a text, hashed: the functions hashed and Hash.
-/
import Derived.Test.YtobglgddbhddnaaMul
import Derived.Test.YtobglgddbhddnaaStv
namespace Go.Proofs.Ytobglgddbhddnaa
open Go.RowKit
set_option linter.unusedVariables false

theorem rangeP {w : World} {b : Nat} {p : Po} (h : Ar w b (pv p)) : w.rangeAt b 0 (pv p).toList := by
  intro j v hv
  rw [Nat.zero_add, h.cell]
  simpa using hv
theorem pvinfo (p : Po) : (Try.prog.info? 90).map (·.size) = some (pv p).toList.length := i65 _ _
theorem thereP {w : World} {b : Nat} {p : Po} (h : Ar w b (pv p)) : w.there b 0 2 := fun j hj => by
  rw [Nat.zero_add, h.cell]
  refine ⟨?_, h.frozen j⟩
  have : j = 0 ∨ j = 1 := by omega
  rcases this with rfl | rfl <;> rfl
theorem setRowP {w : World} {b : Nat} {p : Po} (h : Ar w b (pv p)) (q : Po) : w.setCells b 0 (pv q).toList = w.setRow b (pv q) := by
  have h1 := run_storeVar_mid (P := Try.prog) w b 0 90 (pv q) (thereP h) (i65 _ _) (pv_one q)
  obtain ⟨t, h⟩ := h
  have h2 := run_storeVar_row (P := Try.prog) w b t 90 _ (pv q) h (i65 _ _) rfl (pv_one q)
  rw [h1] at h2
  injection h2

/-- A text's block, filled up with noughts. -/
def blkF (txt : Nat → By) (n m : Nat) : Nat → By := fun j => if 16 * m + j < n then txt (16 * m + j) else 0#8
/-- A sum, behind so many blocks. -/
def hs (s y : Po) (txt : Nat → By) (n : Nat) : Nat → Po
  | 0 => s
  | m + 1 => pr (hs s y txt n m ^^^ pol (blkF txt n m)) y
def nb (n : Nat) : Nat := (n + 15) / 16

set_option maxRecDepth 100000 in
set_option maxHeartbeats 4000000 in
theorem hashedNil_any (s y : Po) (txt : Nat → By) (ao : Option Addr) (cap : Nat) (w : World) :
    Calls Try.prog 51 #[.agg (pv s), .agg (pv y), .slice ao 0 cap] w fun r w' => r = .returned (.agg (pv s)) ∧ Chg w w' := by
  have hz := zero65.1
  rw [show (#[.int .u64 0, .int .u64 0] : Array Value) = pv 0#128 from zeroP] at hz
  have hsA := pv_size s
  have hsB := pv_size y
  obtain ⟨A, hA⟩ : ∃ A, A = pv s := ⟨_, rfl⟩
  obtain ⟨B, hB⟩ : ∃ B, B = pv y := ⟨_, rfl⟩
  have HAB : Hid (A = pv s ∧ B = pv y) := ⟨hA, hB⟩
  have hsq : (Try.prog.info? 90).map (·.size) = some A.size := by rw [hA]; exact i65 _ _
  have hone : A.all (·.oneCell') = true := by rw [hA]; exact pv_one _
  rw [← hA] at hsA ⊢
  rw [← hB] at hsB ⊢
  have hlen : (pv 0#128).size = A.size := by rw [hsA]; rfl
  clear hA hB
  obtain ⟨ff, hff⟩ := str65
  go_enter Try.func51, Try.ntmps51
  go_upto_region 1 with fail
  obtain ⟨w2, hw2⟩ : ∃ w2, w2 = ((w.alloc (.cells A 90)).alloc (.cells B 90)).alloc (.cells (pv 0#128) 90) := ⟨_, rfl⟩
  have Z : Hid (Chg w w2 ∧ Ar w2 w.heap.size A ∧ Ar w2 (w.heap.size + 1 + 1) (pv 0#128)) := by
    rw [hw2]
    exact ⟨(((Chg.refl w).alloc _).alloc _).alloc _, ((Ar.new w _ _).alloc _).alloc _, Ar.new2 w _ _ _ _⟩
  rw [← hw2]
  obtain ⟨t1, g1⟩ := Z.out.2.1
  obtain ⟨t2, g2⟩ := Z.out.2.2
  clear hw2 hz
  go_wp2_with fail
  go_loopw [7] (fun v wr => v = .int .i64 0 ∧ wr = w2) (fun v wr => 0)
  case atStart => exact ⟨rfl, rfl⟩
  case round =>
    obtain ⟨rfl, rfl⟩ := hrel
    go_wp2_with (first | refine wpList_load_row rfl 90 _ rfl _ rfl _ _ _ _ g1 hff rfl hsq ?_ | refine wpList_store_row rfl 90 _ _ rfl _ _ rfl rfl _ _ g2 hsq hlen hone ?_)
    refine bp_p (p := s) Try.results51 rfl rfl ?_ ⟨by rw [HAB.out.1], ?_⟩
    · rw [← HAB.out.1]
      exact Z.out.2.2.row _
    · exact Z.out.1.setRow (by omega) _

set_option maxRecDepth 100000 in
set_option maxHeartbeats 8000000 in
theorem hashed6_any {Q : Exit → Act → World → Prop} {t0 t1 t2 t5 t6 t7 t9 t10 t11 t12 t13 t14 t15 t16 t17 t18 t19 t20 t21 t22 t23 t24 t25 t26 : Value} {S Y bb : Nat} {sm y : Po} {F : Nat → By} {ff : Array Field} {w : World}
    (hff : Try.prog.underlying 90 = some (.struct ff)) (hS : Ar w.drew S (pv sm)) (hY : Ar w.drew Y (pv y)) (hF : Ar w.drew bb (ba 16 F))
    (hQ : ∀ (u20 u21 u22 u23 u24 u25 : Value) (u : World), (∃ w1, Chg w w1 ∧ u = w1.setRow S (pv (pr (sm ^^^ pol F) y))) → Q .normal ⟨#[t0, t1, t2, .pointer (some ⟨S, 0, none⟩), .pointer (some ⟨Y, 0, none⟩), t5, t6, t7, .pointer (some ⟨bb, 0, none⟩), t9, t10, t11, t12, t13, t14, t15, t16, t17, t18, t19, u20, u21, u22, u23, u24, u25, t26], []⟩ u) :
    (rg Try.f51 6).wp Try.prog Q ⟨#[t0, t1, t2, .pointer (some ⟨S, 0, none⟩), .pointer (some ⟨Y, 0, none⟩), t5, t6, t7, .pointer (some ⟨bb, 0, none⟩), t9, t10, t11, t12, t13, t14, t15, t16, t17, t18, t19, t20, t21, t22, t23, t24, t25, t26], []⟩ w := by
  show Code.wp Try.prog (Code.region 6 _ true) Q _ _
  refine wp_region_vals 6 (fun j => match j with
    | 0 => .agg (pv sm)
    | 1 => .agg (ba 16 F)
    | 2 => .agg (pv (pol F))
    | 3 => .agg (pv (sm ^^^ pol F))
    | 4 => .agg (pv y)
    | _ => .agg (pv (pr (sm ^^^ pol F) y))) (by kernel_rfl) (by kernel_rfl) (by kernel_rfl) (by kernel_rfl) (by kernel_rfl) (by kernel_rfl) ?_ ?_
  · intro i o a u hi ho hf hg hc
    have hcs : i = 0 ∨ i = 1 ∨ i = 2 ∨ i = 3 ∨ i = 4 ∨ i = 5 := by omega
    rcases hcs with rfl | rfl | rfl | rfl | rfl | rfl
    · injection ho with ho
      subst ho
      have e1 : a.eval (.tmp 3) = .pointer (some ⟨S, 0, none⟩) := hf 3 (by kernel_rfl)
      exact wp_load_mid 90 (.tmp 3) rfl _ _ e1 ((pv sm).toList) _ (rangeP (hS.chg hc)) hff rfl (pvinfo _) ⟨rfl, Chg.refl _⟩
    · injection ho with ho
      subst ho
      have e1 : a.eval (.tmp 8) = .pointer (some ⟨bb, 0, none⟩) := hf 8 (by kernel_rfl)
      exact wp_load_mid 60 (.tmp 8) rfl _ _ e1 (bl (F)) _ (rangeB (hF.chg hc)) und32 rfl (bl_info _) ⟨rfl, Chg.refl _⟩
    · injection ho with ho
      subst ho
      have e1 : a.eval (.tmp 21) = .agg (ba 16 F) := hg 1 (by kernel_rfl) (by decide)
      exact op_go 50 Try.f50 #[.tmp 21] #[60] rfl Try.func50 (by kernel_rfl) (by kernel_rfl) (by simp [e1]) (polyOf_any F _)
    · injection ho with ho
      subst ho
      have e1 : a.eval (.tmp 20) = .agg (pv sm) := hg 0 (by kernel_rfl) (by decide)
      have e2 : a.eval (.tmp 22) = .agg (pv (pol F)) := hg 2 (by kernel_rfl) (by decide)
      exact op_go 54 Try.f54 #[.tmp 20, .tmp 22] #[90, 90] rfl Try.func54 (by kernel_rfl) (by kernel_rfl) (by simp [e1, e2]) (pxored_any _ _ _)
    · injection ho with ho
      subst ho
      have e1 : a.eval (.tmp 4) = .pointer (some ⟨Y, 0, none⟩) := hf 4 (by kernel_rfl)
      exact wp_load_mid 90 (.tmp 4) rfl _ _ e1 ((pv y).toList) _ (rangeP (hY.chg hc)) hff rfl (pvinfo _) ⟨rfl, Chg.refl _⟩
    · injection ho with ho
      subst ho
      have e1 : a.eval (.tmp 23) = .agg (pv (sm ^^^ pol F)) := hg 3 (by kernel_rfl) (by decide)
      have e2 : a.eval (.tmp 24) = .agg (pv y) := hg 4 (by kernel_rfl) (by decide)
      exact op_go 53 Try.f53 #[.tmp 23, .tmp 24] #[90, 90] rfl Try.func53 (by kernel_rfl) (by kernel_rfl) (by simp [e1, e2]) (product_any _ _ _)
  · intro o u ho hc
    injection ho with ho
    subst ho
    have k := hS.chg hc
    refine wp_store_mid 90 (.tmp 3) (.tmp 25) rfl _ _ (pv (pr (sm ^^^ pol F) y)) rfl rfl (thereP k) (i65 _ _) (pv_one _) ?_
    rw [setRowP k _]
    exact hQ _ _ _ _ _ _ _ ⟨_, (Chg.refl w).drew.trans hc, rfl⟩

set_option maxRecDepth 100000 in
set_option maxHeartbeats 4000000 in
theorem hashed_any (s y : Po) (txt : Nat → By) (tb tt n cap : Nat) (w : World) (ht : Bs w tb tt n txt) (hn : 0 < n) (hn' : n ≤ 140737488351232) (hc1 : n ≤ cap) (hc2 : cap ≤ 9223372036854775807) :
    Calls Try.prog 51 #[.agg (pv s), .agg (pv y), .slice (some ⟨tb, tt, none⟩) n cap] w fun r w' => r = .returned (.agg (pv (hs s y txt n (nb n)))) ∧ Chg w w' := by
  have hz := zero65.1
  rw [show (#[.int .u64 0, .int .u64 0] : Array Value) = pv 0#128 from zeroP] at hz
  have hz2 := zero32.1
  have HX : Hid (Bs w tb tt n txt ∧ tb < w.heap.size) := ⟨ht, block_lt_of_cell (ht 0 hn)⟩
  clear ht
  have hsA := pv_size s
  have hsB := pv_size y
  obtain ⟨A, hA⟩ : ∃ A, A = pv s := ⟨_, rfl⟩
  obtain ⟨B, hB⟩ : ∃ B, B = pv y := ⟨_, rfl⟩
  have HAB : Hid (A = pv s ∧ B = pv y) := ⟨hA, hB⟩
  rw [← hA] at hsA ⊢
  rw [← hB] at hsB ⊢
  clear hA hB
  obtain ⟨ff, hff⟩ := str65
  go_enter Try.func51, Try.ntmps51
  go_upto_region 1 with fail
  obtain ⟨w2, hw2⟩ : ∃ w2, w2 = ((w.alloc (.cells A 90)).alloc (.cells B 90)).alloc (.cells (pv 0#128) 90) := ⟨_, rfl⟩
  have Z : Hid (Chg w w2 ∧ Ar w2 w.heap.size (pv s) ∧ Ar w2 (w.heap.size + 1) (pv y) ∧ Ar w2 (w.heap.size + 1 + 1) (pv 0#128)) := by
    rw [hw2, HAB.out.1, HAB.out.2]
    exact ⟨(((Chg.refl w).alloc _).alloc _).alloc _, ((Ar.new w _ _).alloc _).alloc _, (Ar.new1 w _ _ _).alloc _, Ar.new2 w _ _ _ _⟩
  rw [← hw2]
  clear hw2 hz hsA hsB
  go_wp2_with fail
  go_loopw [7] (fun v wr => ∃ (m : Nat), v = .int .i64 ((16 * m : Nat) : Int) ∧ m ≤ nb n ∧ Chg w wr ∧ Ar wr w.heap.size (pv (hs s y txt n m)) ∧ Ar wr (w.heap.size + 1) (pv y) ∧ Ar wr (w.heap.size + 1 + 1) (pv 0#128)) (fun v wr => n - (intOf v).toNat)
  case atStart => exact ⟨0, rfl, by omega, Z.out⟩
  case round =>
    clear Z
    obtain ⟨m, rfl, hm, hz3⟩ := hrel
    obtain ⟨sm, hsm⟩ : ∃ sm, sm = hs s y txt n m := ⟨_, rfl⟩
    have HSM : Hid (sm = hs s y txt n m) := hsm
    rw [← hsm] at hz3
    have Z : Hid (Chg w wr ∧ Ar wr w.heap.size (pv sm) ∧ Ar wr (w.heap.size + 1) (pv y) ∧ Ar wr (w.heap.size + 1 + 1) (pv 0#128)) := hz3
    clear hz3 hsm
    obtain ⟨fr, hfr⟩ : ∃ fr : Nat, fr = 16 * m := ⟨_, rfl⟩
    rw [← hfr]
    have HFR : Hid (fr = 16 * m ∧ m ≤ nb n) := ⟨hfr, hm⟩
    have hfn : fr ≤ n + 15 := by unfold nb at hm; omega
    clear hfr hm
    by_cases hlt : fr < n
    · have hd : decide ((fr : Int) < n) = true := by simp; omega
      have l1 : (fr : Int) ≤ n := by omega
      have l2 : ¬ cap = fr := by omega
      have l2' : ¬ (cap : Int) = fr := by omega
      go_upto_region 5 with fail
      obtain ⟨bb, hbb⟩ : ∃ bb, bb = wr.heap.size := ⟨_, rfl⟩
      obtain ⟨w4, hw4⟩ : ∃ w4, w4 = wr.alloc (.cells (ba 16 zB) 60) := ⟨_, rfl⟩
      have Z4 : Hid (Chg w w4 ∧ Ar w4 w.heap.size (pv sm) ∧ Ar w4 (w.heap.size + 1) (pv y) ∧ Ar w4 (w.heap.size + 1 + 1) (pv 0#128) ∧ Ar w4 bb (ba 16 zB) ∧ w.heap.size + 1 + 1 < bb) := by
        obtain ⟨k0, k1, k2, k3⟩ := Z.out
        rw [hw4, hbb]
        exact ⟨k0.alloc _, k1.alloc _, k2.alloc _, k3.alloc _, Ar.new wr _ _, k3.lt⟩
      rw [← hw4, ← hbb]
      obtain ⟨q, hq⟩ : ∃ q : Nat, q = min (n - fr) 16 := ⟨_, rfl⟩
      have hcp := run_cp w4.drew bb 16 0 16 16 tb (tt + fr) (n - fr) (cap - fr) q zB (fun j => txt (fr + j)) Z4.out.2.2.2.2.1 (fun j hj => by
        have := (HX.out.1.chg Z4.out.1) (fr + j) (by omega)
        rw [← Nat.add_assoc] at this
        exact this) hq (by omega)
      obtain ⟨F, hF⟩ : ∃ F, F = over 0 q (fun j => txt (fr + j)) zB := ⟨_, rfl⟩
      rw [← hF] at hcp
      have HF : Hid (pol F = pol (blkF txt n m)) := by
        refine pol_congr fun j hj => ?_
        rw [hF, over, blkF, ← HFR.out.1]
        by_cases h1 : fr + j < n
        · rw [if_pos (by omega), if_pos h1, Nat.sub_zero]
        · rw [if_neg (by omega), if_neg h1]; rfl
      clear hw4 hbb Z hF hq
      go_cut [] from 15 to 20 (fun wc => Chg w wc ∧ Ar wc w.heap.size (pv sm) ∧ Ar wc (w.heap.size + 1) (pv y) ∧ Ar wc (w.heap.size + 1 + 1) (pv 0#128) ∧ Ar wc bb (ba 16 F))
      case first =>
        go_region_with (fail)
        all_goals go_wp2
        all_goals go_meet
        all_goals
          obtain ⟨k0, k1, k2, k3, k4, k5⟩ := Z4.out
          exact ⟨(k0.drew.setRow (by omega) _), (k1.drew.rowOther (by omega) _), (k2.drew.rowOther (by omega) _), (k3.drew.rowOther (by omega) _), (k4.drew.row _)⟩
      have Z5 : Hid (Chg w wc ∧ Ar wc w.heap.size (pv sm) ∧ Ar wc (w.heap.size + 1) (pv y) ∧ Ar wc (w.heap.size + 1 + 1) (pv 0#128) ∧ Ar wc bb (ba 16 F)) := hcut
      have hbb := Z4.out.2.2.2.2.2
      clear hcut Z4 hcp
      go_upto_region 6 with fail
      refine hashed6_any hff Z5.out.2.1.drew Z5.out.2.2.1.drew Z5.out.2.2.2.2.drew ?_
      rintro u20 u21 u22 u23 u24 u25 wd ⟨w1, hc5, hwd⟩
      have Z6 : Hid (Chg w wd ∧ Ar wd w.heap.size (pv (pr (sm ^^^ pol F) y)) ∧ Ar wd (w.heap.size + 1) (pv y) ∧ Ar wd (w.heap.size + 1 + 1) (pv 0#128)) := by
        obtain ⟨k0, k1, k2, k3, k4⟩ := Z5.out
        rw [hwd]
        exact ⟨(k0.trans hc5).setRow (by omega) _, (k1.chg hc5).row _, (k2.chg hc5).rowOther (by omega) _, (k3.chg hc5).rowOther (by omega) _⟩
      clear hwd hc5 Z5
      go_wp2_with fail
      go_roundw
      case rel =>
        have h1 := HFR.out
        refine ⟨m + 1, by rw [h1.1]; go_num, by unfold nb; omega, ?_⟩
        have e : hs s y txt n (m + 1) = pr (sm ^^^ pol F) y := by
          rw [HSM.out, HF.out]
          rfl
        rw [e]
        exact Z6.out
      case measure => simp [intOf]; omega
    · have hd : decide ((fr : Int) < n) = false := by simp; omega
      have HM : Hid (sm = hs s y txt n (nb n)) := by
        have h1 := HFR.out
        show sm = _
        rw [HSM.out, show m = nb n by unfold nb at h1 ⊢; omega]
      obtain ⟨t1, g1⟩ := Z.out.2.1
      obtain ⟨t2, g2⟩ := Z.out.2.2.2
      have hsq : (Try.prog.info? 90).map (·.size) = some (pv sm).size := i65 _ _
      have hone := pv_one sm
      have hlen : (pv 0#128).size = (pv sm).size := rfl
      obtain ⟨Q1, hQ1⟩ : ∃ Q1, Q1 = pv sm := ⟨_, rfl⟩
      have HQ1 : Hid (Q1 = pv sm) := hQ1
      rw [← hQ1] at g1 hsq hone hlen
      clear hQ1
      go_wp2_with (first | refine wpList_load_row rfl 90 _ rfl _ rfl _ _ _ _ g1 hff rfl hsq ?_ | refine wpList_store_row rfl 90 _ _ rfl _ _ rfl rfl _ _ g2 hsq hlen hone ?_)
      refine bp_p (p := hs s y txt n (nb n)) Try.results51 rfl rfl ?_ ⟨rfl, ?_⟩
      · rw [← HM.out, HQ1.out]
        exact Z.out.2.2.2.row _
      · exact Z.out.1.setRow (by omega) _

theorem hashedV_any (s y : Po) (txt : Nat → By) (n : Nat) (v : Value) (w : World) (hv : Ap.Rd w v (nums n txt)) (hn' : n ≤ 140737488351232) :
    Calls Try.prog 51 #[.agg (pv s), .agg (pv y), v] w fun r w' => r = .returned (.agg (pv (hs s y txt n (nb n)))) ∧ Chg w w' := by
  by_cases h : n = 0
  · subst h
    obtain ⟨ao, m, c, rfl, hm, _⟩ := hv.shape
    rw [nums_len] at hm
    subst hm
    exact hashedNil_any s y txt ao c w
  · obtain ⟨b, o, c, rfl, h1, h2, h3⟩ := Rd.bs hv (by omega)
    exact hashed_any s y txt b o n c w h3 (by omega) hn' h1 h2
end Go.Proofs.Ytobglgddbhddnaa
