/-
  Blocks of a text, hashed: the functions hashed and Hash.
  The hash of what is only looked at, and of a text: Hash.
  The counter's block, the tag, two blocks XORed by the law: counter, tagOf, with.
  The tag of what is locked up: tagOf.
-/
import Derived.Test.YtobglgddbhddnaaGreatJ06
import Derived.Test.YtobglgddbhddnaaGreatJ07
namespace Go.Proofs.YtobglgddbhddnaaGreat
open Go.RowKit
set_option linter.unusedVariables false

theorem rangeP {w : World} {b : Nat} {p : Po} (h : Ar w b (pv p)) : w.rangeAt b 0 (pv p).toList := by
  intro j v hv
  rw [Nat.zero_add, h.cell]
  simpa using hv
theorem pvinfo (p : Po) : (Tryz.prog.info? 110).map (·.size) = some (pv p).toList.length := i65 _ _
theorem thereP {w : World} {b : Nat} {p : Po} (h : Ar w b (pv p)) : w.there b 0 2 := fun j hj => by
  rw [Nat.zero_add, h.cell]
  refine ⟨?_, h.frozen j⟩
  have : j = 0 ∨ j = 1 := by omega
  rcases this with rfl | rfl <;> rfl
theorem setRowP {w : World} {b : Nat} {p : Po} (h : Ar w b (pv p)) (q : Po) : w.setCells b 0 (pv q).toList = w.setRow b (pv q) := by
  have h1 := run_storeVar_mid (P := Tryz.prog) w b 0 110 (pv q) (thereP h) (i65 _ _) (pv_one q)
  obtain ⟨t, h⟩ := h
  have h2 := run_storeVar_row (P := Tryz.prog) w b t 110 _ (pv q) h (i65 _ _) rfl (pv_one q)
  rw [h1] at h2
  injection h2

/-- A text's block, filled up with noughts. -/
def blkF (txt : Nat → By) (n m : Nat) : Nat → By := fun j => if 16 * m + j < n then txt (16 * m + j) else 0#8
/-- A sum, behind so many blocks. -/
def hs (s y : Po) (txt : Nat → By) (n : Nat) : Nat → Po
  | 0 => s
  | m + 1 => pr (hs s y txt n m ^^^ pol (blkF txt n m)) y
def nb (n : Nat) : Nat := (n + 15) / 16

set_option maxRecDepth 100000 in
set_option maxHeartbeats 4000000 in
theorem hashedNil_any (s y : Po) (txt : Nat → By) (ao : Option Addr) (cap : Nat) (w : World) :
    Calls Tryz.prog 80 #[.agg (pv s), .agg (pv y), .slice ao 0 cap] w fun r w' => r = .returned (.agg (pv s)) ∧ Chg w w' := by
  have hz := zero65.1
  rw [show (#[.int .u64 0, .int .u64 0] : Array Value) = pv 0#128 from zeroP] at hz
  have hsA := pv_size s
  have hsB := pv_size y
  obtain ⟨A, hA⟩ : ∃ A, A = pv s := ⟨_, rfl⟩
  obtain ⟨B, hB⟩ : ∃ B, B = pv y := ⟨_, rfl⟩
  have HAB : Hid (A = pv s ∧ B = pv y) := ⟨hA, hB⟩
  have hsq : (Tryz.prog.info? 110).map (·.size) = some A.size := by rw [hA]; exact i65 _ _
  have hone : A.all (·.oneCell') = true := by rw [hA]; exact pv_one _
  rw [← hA] at hsA ⊢
  rw [← hB] at hsB ⊢
  have hlen : (pv 0#128).size = A.size := by rw [hsA]; rfl
  clear hA hB
  obtain ⟨ff, hff⟩ := str65
  go_enter Tryz.func80, Tryz.ntmps80
  go_upto_region 1 with fail
  obtain ⟨w2, hw2⟩ : ∃ w2, w2 = ((w.alloc (.cells A 110)).alloc (.cells B 110)).alloc (.cells (pv 0#128) 110) := ⟨_, rfl⟩
  have Z : Hid (Chg w w2 ∧ Ar w2 w.heap.size A ∧ Ar w2 (w.heap.size + 1 + 1) (pv 0#128)) := by
    rw [hw2]
    exact ⟨(((Chg.refl w).alloc _).alloc _).alloc _, ((Ar.new w _ _).alloc _).alloc _, Ar.new2 w _ _ _ _⟩
  rw [← hw2]
  obtain ⟨t1, g1⟩ := Z.out.2.1
  obtain ⟨t2, g2⟩ := Z.out.2.2
  clear hw2 hz
  go_wp2_with fail
  go_loopw [7] (fun v wr => v = .int .i64 0 ∧ wr = w2) (fun v wr => 0)
  case atStart => exact ⟨rfl, rfl⟩
  case round =>
    obtain ⟨rfl, rfl⟩ := hrel
    go_wp2_with (first | refine wpList_load_row rfl 110 _ rfl _ rfl _ _ _ _ g1 hff rfl hsq ?_ | refine wpList_store_row rfl 110 _ _ rfl _ _ rfl rfl _ _ g2 hsq hlen hone ?_)
    refine bp_p (p := s) Tryz.results80 rfl rfl ?_ ⟨by rw [HAB.out.1], ?_⟩
    · rw [← HAB.out.1]
      exact Z.out.2.2.row _
    · exact Z.out.1.setRow (by omega) _

set_option maxRecDepth 100000 in
set_option maxHeartbeats 8000000 in
theorem hashed6_any {Q : Exit → Act → World → Prop} {t0 t1 t2 t5 t6 t7 t9 t10 t11 t12 t13 t14 t15 t16 t17 t18 t19 t20 t21 t22 t23 t24 t25 t26 : Value} {S Y bb : Nat} {sm y : Po} {F : Nat → By} {ff : Array Field} {w : World}
    (hff : Tryz.prog.underlying 110 = some (.struct ff)) (hS : Ar w.drew S (pv sm)) (hY : Ar w.drew Y (pv y)) (hF : Ar w.drew bb (ba 16 F))
    (hQ : ∀ (u20 u21 u22 u23 u24 u25 : Value) (u : World), (∃ w1, Chg w w1 ∧ u = w1.setRow S (pv (pr (sm ^^^ pol F) y))) → Q .normal ⟨#[t0, t1, t2, .pointer (some ⟨S, 0, none⟩), .pointer (some ⟨Y, 0, none⟩), t5, t6, t7, .pointer (some ⟨bb, 0, none⟩), t9, t10, t11, t12, t13, t14, t15, t16, t17, t18, t19, u20, u21, u22, u23, u24, u25, t26], []⟩ u) :
    (rg Tryz.f80 6).wp Tryz.prog Q ⟨#[t0, t1, t2, .pointer (some ⟨S, 0, none⟩), .pointer (some ⟨Y, 0, none⟩), t5, t6, t7, .pointer (some ⟨bb, 0, none⟩), t9, t10, t11, t12, t13, t14, t15, t16, t17, t18, t19, t20, t21, t22, t23, t24, t25, t26], []⟩ w := by
  show Code.wp Tryz.prog (Code.region 6 _ true) Q _ _
  refine wp_region_vals 6 (fun j => match j with
    | 0 => .agg (pv sm)
    | 1 => .agg (ba 16 F)
    | 2 => .agg (pv (pol F))
    | 3 => .agg (pv (sm ^^^ pol F))
    | 4 => .agg (pv y)
    | _ => .agg (pv (pr (sm ^^^ pol F) y))) (by kernel_rfl) (by kernel_rfl) (by kernel_rfl) (by kernel_rfl) (by kernel_rfl) (by kernel_rfl) ?_ ?_
  · intro i o a u hi ho hf hg hc
    have hcs : i = 0 ∨ i = 1 ∨ i = 2 ∨ i = 3 ∨ i = 4 ∨ i = 5 := by omega
    rcases hcs with rfl | rfl | rfl | rfl | rfl | rfl
    · injection ho with ho
      subst ho
      have e1 : a.eval (.tmp 3) = .pointer (some ⟨S, 0, none⟩) := hf 3 (by kernel_rfl)
      exact wp_load_mid 110 (.tmp 3) rfl _ _ e1 ((pv sm).toList) _ (rangeP (hS.chg hc)) hff rfl (pvinfo _) ⟨rfl, Chg.refl _⟩
    · injection ho with ho
      subst ho
      have e1 : a.eval (.tmp 8) = .pointer (some ⟨bb, 0, none⟩) := hf 8 (by kernel_rfl)
      exact wp_load_mid 62 (.tmp 8) rfl _ _ e1 (bl (F)) _ (rangeB (hF.chg hc)) und32 rfl (bl_info _) ⟨rfl, Chg.refl _⟩
    · injection ho with ho
      subst ho
      have e1 : a.eval (.tmp 21) = .agg (ba 16 F) := hg 1 (by kernel_rfl) (by decide)
      exact op_go 79 Tryz.f79 #[.tmp 21] #[62] rfl Tryz.func79 (by kernel_rfl) (by kernel_rfl) (by simp [e1]) (polyOf_any F _)
    · injection ho with ho
      subst ho
      have e1 : a.eval (.tmp 20) = .agg (pv sm) := hg 0 (by kernel_rfl) (by decide)
      have e2 : a.eval (.tmp 22) = .agg (pv (pol F)) := hg 2 (by kernel_rfl) (by decide)
      exact op_go 83 Tryz.f83 #[.tmp 20, .tmp 22] #[110, 110] rfl Tryz.func83 (by kernel_rfl) (by kernel_rfl) (by simp [e1, e2]) (pxored_any _ _ _)
    · injection ho with ho
      subst ho
      have e1 : a.eval (.tmp 4) = .pointer (some ⟨Y, 0, none⟩) := hf 4 (by kernel_rfl)
      exact wp_load_mid 110 (.tmp 4) rfl _ _ e1 ((pv y).toList) _ (rangeP (hY.chg hc)) hff rfl (pvinfo _) ⟨rfl, Chg.refl _⟩
    · injection ho with ho
      subst ho
      have e1 : a.eval (.tmp 23) = .agg (pv (sm ^^^ pol F)) := hg 3 (by kernel_rfl) (by decide)
      have e2 : a.eval (.tmp 24) = .agg (pv y) := hg 4 (by kernel_rfl) (by decide)
      exact op_go 82 Tryz.f82 #[.tmp 23, .tmp 24] #[110, 110] rfl Tryz.func82 (by kernel_rfl) (by kernel_rfl) (by simp [e1, e2]) (product_any _ _ _)
  · intro o u ho hc
    injection ho with ho
    subst ho
    have k := hS.chg hc
    refine wp_store_mid 110 (.tmp 3) (.tmp 25) rfl _ _ (pv (pr (sm ^^^ pol F) y)) rfl rfl (thereP k) (i65 _ _) (pv_one _) ?_
    rw [setRowP k _]
    exact hQ _ _ _ _ _ _ _ ⟨_, (Chg.refl w).drew.trans hc, rfl⟩

set_option maxRecDepth 100000 in
set_option maxHeartbeats 4000000 in
theorem hashed_any (s y : Po) (txt : Nat → By) (tb tt n cap : Nat) (w : World) (ht : Bs w tb tt n txt) (hn : 0 < n) (hn' : n ≤ 140737488351232) (hc1 : n ≤ cap) (hc2 : cap ≤ 9223372036854775807) :
    Calls Tryz.prog 80 #[.agg (pv s), .agg (pv y), .slice (some ⟨tb, tt, none⟩) n cap] w fun r w' => r = .returned (.agg (pv (hs s y txt n (nb n)))) ∧ Chg w w' := by
  have hz := zero65.1
  rw [show (#[.int .u64 0, .int .u64 0] : Array Value) = pv 0#128 from zeroP] at hz
  have hz2 := zero32.1
  have HX : Hid (Bs w tb tt n txt ∧ tb < w.heap.size) := ⟨ht, block_lt_of_cell (ht 0 hn)⟩
  clear ht
  have hsA := pv_size s
  have hsB := pv_size y
  obtain ⟨A, hA⟩ : ∃ A, A = pv s := ⟨_, rfl⟩
  obtain ⟨B, hB⟩ : ∃ B, B = pv y := ⟨_, rfl⟩
  have HAB : Hid (A = pv s ∧ B = pv y) := ⟨hA, hB⟩
  rw [← hA] at hsA ⊢
  rw [← hB] at hsB ⊢
  clear hA hB
  obtain ⟨ff, hff⟩ := str65
  go_enter Tryz.func80, Tryz.ntmps80
  go_upto_region 1 with fail
  obtain ⟨w2, hw2⟩ : ∃ w2, w2 = ((w.alloc (.cells A 110)).alloc (.cells B 110)).alloc (.cells (pv 0#128) 110) := ⟨_, rfl⟩
  have Z : Hid (Chg w w2 ∧ Ar w2 w.heap.size (pv s) ∧ Ar w2 (w.heap.size + 1) (pv y) ∧ Ar w2 (w.heap.size + 1 + 1) (pv 0#128)) := by
    rw [hw2, HAB.out.1, HAB.out.2]
    exact ⟨(((Chg.refl w).alloc _).alloc _).alloc _, ((Ar.new w _ _).alloc _).alloc _, (Ar.new1 w _ _ _).alloc _, Ar.new2 w _ _ _ _⟩
  rw [← hw2]
  clear hw2 hz hsA hsB
  go_wp2_with fail
  go_loopw [7] (fun v wr => ∃ (m : Nat), v = .int .i64 ((16 * m : Nat) : Int) ∧ m ≤ nb n ∧ Chg w wr ∧ Ar wr w.heap.size (pv (hs s y txt n m)) ∧ Ar wr (w.heap.size + 1) (pv y) ∧ Ar wr (w.heap.size + 1 + 1) (pv 0#128)) (fun v wr => n - (intOf v).toNat)
  case atStart => exact ⟨0, rfl, by omega, Z.out⟩
  case round =>
    clear Z
    obtain ⟨m, rfl, hm, hz3⟩ := hrel
    obtain ⟨sm, hsm⟩ : ∃ sm, sm = hs s y txt n m := ⟨_, rfl⟩
    have HSM : Hid (sm = hs s y txt n m) := hsm
    rw [← hsm] at hz3
    have Z : Hid (Chg w wr ∧ Ar wr w.heap.size (pv sm) ∧ Ar wr (w.heap.size + 1) (pv y) ∧ Ar wr (w.heap.size + 1 + 1) (pv 0#128)) := hz3
    clear hz3 hsm
    obtain ⟨fr, hfr⟩ : ∃ fr : Nat, fr = 16 * m := ⟨_, rfl⟩
    rw [← hfr]
    have HFR : Hid (fr = 16 * m ∧ m ≤ nb n) := ⟨hfr, hm⟩
    have hfn : fr ≤ n + 15 := by unfold nb at hm; omega
    clear hfr hm
    by_cases hlt : fr < n
    · have hd : decide ((fr : Int) < n) = true := by simp; omega
      have l1 : (fr : Int) ≤ n := by omega
      have l2 : ¬ cap = fr := by omega
      have l2' : ¬ (cap : Int) = fr := by omega
      go_upto_region 5 with fail
      obtain ⟨bb, hbb⟩ : ∃ bb, bb = wr.heap.size := ⟨_, rfl⟩
      obtain ⟨w4, hw4⟩ : ∃ w4, w4 = wr.alloc (.cells (ba 16 zB) 62) := ⟨_, rfl⟩
      have Z4 : Hid (Chg w w4 ∧ Ar w4 w.heap.size (pv sm) ∧ Ar w4 (w.heap.size + 1) (pv y) ∧ Ar w4 (w.heap.size + 1 + 1) (pv 0#128) ∧ Ar w4 bb (ba 16 zB) ∧ w.heap.size + 1 + 1 < bb) := by
        obtain ⟨k0, k1, k2, k3⟩ := Z.out
        rw [hw4, hbb]
        exact ⟨k0.alloc _, k1.alloc _, k2.alloc _, k3.alloc _, Ar.new wr _ _, k3.lt⟩
      rw [← hw4, ← hbb]
      obtain ⟨q, hq⟩ : ∃ q : Nat, q = min (n - fr) 16 := ⟨_, rfl⟩
      have hcp := run_cp w4.drew bb 16 0 16 16 tb (tt + fr) (n - fr) (cap - fr) q zB (fun j => txt (fr + j)) Z4.out.2.2.2.2.1 (fun j hj => by
        have := (HX.out.1.chg Z4.out.1) (fr + j) (by omega)
        rw [← Nat.add_assoc] at this
        exact this) hq (by omega)
      obtain ⟨F, hF⟩ : ∃ F, F = over 0 q (fun j => txt (fr + j)) zB := ⟨_, rfl⟩
      rw [← hF] at hcp
      have HF : Hid (pol F = pol (blkF txt n m)) := by
        refine pol_congr fun j hj => ?_
        rw [hF, over, blkF, ← HFR.out.1]
        by_cases h1 : fr + j < n
        · rw [if_pos (by omega), if_pos h1, Nat.sub_zero]
        · rw [if_neg (by omega), if_neg h1]; rfl
      clear hw4 hbb Z hF hq
      go_cut [] from 15 to 20 (fun wc => Chg w wc ∧ Ar wc w.heap.size (pv sm) ∧ Ar wc (w.heap.size + 1) (pv y) ∧ Ar wc (w.heap.size + 1 + 1) (pv 0#128) ∧ Ar wc bb (ba 16 F))
      case first =>
        go_region_with (fail)
        all_goals go_wp2
        all_goals go_meet
        all_goals
          obtain ⟨k0, k1, k2, k3, k4, k5⟩ := Z4.out
          exact ⟨(k0.drew.setRow (by omega) _), (k1.drew.rowOther (by omega) _), (k2.drew.rowOther (by omega) _), (k3.drew.rowOther (by omega) _), (k4.drew.row _)⟩
      have Z5 : Hid (Chg w wc ∧ Ar wc w.heap.size (pv sm) ∧ Ar wc (w.heap.size + 1) (pv y) ∧ Ar wc (w.heap.size + 1 + 1) (pv 0#128) ∧ Ar wc bb (ba 16 F)) := hcut
      have hbb := Z4.out.2.2.2.2.2
      clear hcut Z4 hcp
      go_upto_region 6 with fail
      refine hashed6_any hff Z5.out.2.1.drew Z5.out.2.2.1.drew Z5.out.2.2.2.2.drew ?_
      rintro u20 u21 u22 u23 u24 u25 wd ⟨w1, hc5, hwd⟩
      have Z6 : Hid (Chg w wd ∧ Ar wd w.heap.size (pv (pr (sm ^^^ pol F) y)) ∧ Ar wd (w.heap.size + 1) (pv y) ∧ Ar wd (w.heap.size + 1 + 1) (pv 0#128)) := by
        obtain ⟨k0, k1, k2, k3, k4⟩ := Z5.out
        rw [hwd]
        exact ⟨(k0.trans hc5).setRow (by omega) _, (k1.chg hc5).row _, (k2.chg hc5).rowOther (by omega) _, (k3.chg hc5).rowOther (by omega) _⟩
      clear hwd hc5 Z5
      go_wp2_with fail
      go_roundw
      case rel =>
        have h1 := HFR.out
        refine ⟨m + 1, by rw [h1.1]; go_num, by unfold nb; omega, ?_⟩
        have e : hs s y txt n (m + 1) = pr (sm ^^^ pol F) y := by
          rw [HSM.out, HF.out]
          rfl
        rw [e]
        exact Z6.out
      case measure => simp [intOf]; omega
    · have hd : decide ((fr : Int) < n) = false := by simp; omega
      have HM : Hid (sm = hs s y txt n (nb n)) := by
        have h1 := HFR.out
        show sm = _
        rw [HSM.out, show m = nb n by unfold nb at h1 ⊢; omega]
      obtain ⟨t1, g1⟩ := Z.out.2.1
      obtain ⟨t2, g2⟩ := Z.out.2.2.2
      have hsq : (Tryz.prog.info? 110).map (·.size) = some (pv sm).size := i65 _ _
      have hone := pv_one sm
      have hlen : (pv 0#128).size = (pv sm).size := rfl
      obtain ⟨Q1, hQ1⟩ : ∃ Q1, Q1 = pv sm := ⟨_, rfl⟩
      have HQ1 : Hid (Q1 = pv sm) := hQ1
      rw [← hQ1] at g1 hsq hone hlen
      clear hQ1
      go_wp2_with (first | refine wpList_load_row rfl 110 _ rfl _ rfl _ _ _ _ g1 hff rfl hsq ?_ | refine wpList_store_row rfl 110 _ _ rfl _ _ rfl rfl _ _ g2 hsq hlen hone ?_)
      refine bp_p (p := hs s y txt n (nb n)) Tryz.results80 rfl rfl ?_ ⟨rfl, ?_⟩
      · rw [← HM.out, HQ1.out]
        exact Z.out.2.2.2.row _
      · exact Z.out.1.setRow (by omega) _

theorem hashedV_any (s y : Po) (txt : Nat → By) (n : Nat) (v : Value) (w : World) (hv : Ap.Rd w v (nums n txt)) (hn' : n ≤ 140737488351232) :
    Calls Tryz.prog 80 #[.agg (pv s), .agg (pv y), v] w fun r w' => r = .returned (.agg (pv (hs s y txt n (nb n)))) ∧ Chg w w' := by
  by_cases h : n = 0
  · subst h
    obtain ⟨ao, m, c, rfl, hm, _⟩ := hv.shape
    rw [nums_len] at hm
    subst hm
    exact hashedNil_any s y txt ao c w
  · obtain ⟨b, o, c, rfl, h1, h2, h3⟩ := Rd.bs hv (by omega)
    exact hashed_any s y txt b o n c w h3 (by omega) hn' h1 h2
end Go.Proofs.YtobglgddbhddnaaGreat

namespace Go.Proofs.YtobglgddbhddnaaGreat
open Go.RowKit
set_option linter.unusedVariables false

/-- How many bits there are, of both. -/
def lens (na nx : Nat) : Po := jn (BitVec.ofNat 64 (8 * na)) (BitVec.ofNat 64 (8 * nx))
/-- The hash. -/
def ghash (h : Nat → By) (ta : Nat → By) (na : Nat) (tx : Nat → By) (nx : Nat) : Nat → By :=
  byt (pr (hs (hs 0#128 (pol h) ta na (nb na)) (pol h) tx nx (nb nx) ^^^ lens na nx) (pol h))
theorem nmLen (n : Nat) (hn : n ≤ 140737488351232) : ∃ z : Wo, Hid (z = BitVec.ofNat 64 (8 * n)) ∧ 8 * (n : Int) = (z.toNat : Int) ∧ IntKind.u64.wrap (z.toNat : Int) = (z.toNat : Int) ∧ IntKind.u64.wrap (n : Int) = (n : Int) := by
  refine ⟨_, rfl, ?_, ?_, ?_⟩
  · rw [BitVec.toNat_ofNat, Nat.mod_eq_of_lt (by omega)]; omega
  · have := (BitVec.ofNat 64 (8 * n)).isLt
    rw [IntKind.wrap_u64]
    omega
  · rw [IntKind.wrap_u64]
    omega

set_option maxRecDepth 100000 in
set_option maxHeartbeats 4000000 in
theorem hash_any (h ta tx : Nat → By) (na nx : Nat) (va vx : Value) (w : World) (hva : Ap.Rd w va (nums na ta)) (hvx : Ap.Rd w vx (nums nx tx)) (hna : na ≤ 140737488351232) (hnx : nx ≤ 140737488351232) :
    Calls Tryz.prog 62 #[.agg (ba 16 h), va, vx] w fun r w' => r = .returned (.agg (ba 16 (ghash h ta na tx nx))) ∧ Chg w w' := by
  obtain ⟨ao, m1, ca, rfl, hm1, -⟩ := hva.shape
  obtain ⟨xo, m2, cx, rfl, hm2, -⟩ := hvx.shape
  rw [nums_len] at hm1 hm2
  subst hm1 hm2
  have HV : Hid (Ap.Rd w (.slice ao m1 ca) (nums m1 ta) ∧ Ap.Rd w (.slice xo m2 cx) (nums m2 tx)) := ⟨hva, hvx⟩
  clear hva hvx
  obtain ⟨l1, HL1, el1, wl1, wm1⟩ := nmLen m1 hna
  obtain ⟨l2, HL2, el2, wl2, wm2⟩ := nmLen m2 hnx
  obtain ⟨y, hy⟩ : ∃ y, y = pol h := ⟨_, rfl⟩
  obtain ⟨s1, hs1⟩ : ∃ s1, s1 = hs 0#128 y ta m1 (nb m1) := ⟨_, rfl⟩
  obtain ⟨s2, hs2⟩ : ∃ s2, s2 = hs s1 y tx m2 (nb m2) := ⟨_, rfl⟩
  obtain ⟨ln, hln⟩ : ∃ ln, ln = lens m1 m2 := ⟨_, rfl⟩
  have HG : Hid (byt (pr (s2 ^^^ ln) y) = ghash h ta m1 tx m2) := by
    show _ = _
    rw [hln, hs2, hs1, hy]
    rfl
  have HLN : Hid (pc l1 l2 = pv ln) := by
    refine pv_of ?_ ?_
    · rw [hln, lens, hi_jn, HL1.out]
    · rw [hln, lens, lo_jn, HL2.out]
  have C1 : Hid (∀ u, Calls Tryz.prog 79 #[.agg (ba 16 h)] u fun r w' => r = .returned (.agg (pv y)) ∧ Chg u w') := by rw [hy]; exact polyOf_any h
  have C2 : Hid (∀ u, Chg w u → Calls Tryz.prog 80 #[.agg (pv 0#128), .agg (pv y), .slice ao m1 ca] u fun r w' => r = .returned (.agg (pv s1)) ∧ Chg u w') := by
    rw [hs1]
    exact fun u k => hashedV_any _ _ ta m1 _ u (Rd.chg HV.out.1 k) hna
  have C3 : Hid (∀ u, Chg w u → Calls Tryz.prog 80 #[.agg (pv s1), .agg (pv y), .slice xo m2 cx] u fun r w' => r = .returned (.agg (pv s2)) ∧ Chg u w') := by
    rw [hs2]
    exact fun u k => hashedV_any _ _ tx m2 _ u (Rd.chg HV.out.2 k) hnx
  have hsA := ba_size 16 h
  obtain ⟨A, hA⟩ : ∃ A, A = ba 16 h := ⟨_, rfl⟩
  have hszA : (Tryz.prog.info? 62).map (·.size) = some A.size := by rw [hA]; exact szB h zero32.2
  rw [← hA] at hsA C1 ⊢
  clear hA hy hs1 hs2 hln HL1 HL2 HV
  have hz := zero65.1
  have hz2 := zero32.1
  obtain ⟨ff, hff⟩ := str65
  have hsy : (Tryz.prog.info? 110).map (·.size) = some (pv y).size := i65 _ _
  have hsy1 : (Tryz.prog.info? 110).map (·.size) = some (pv s1).size := i65 _ _
  have hsy2 : (Tryz.prog.info? 110).map (·.size) = some (pv s2).size := i65 _ _
  have hoy := pv_one y
  have hoy1 := pv_one s1
  have hoy2 := pv_one s2
  have hly : (#[.int .u64 0, .int .u64 0] : Array Value).size = (pv y).size := rfl
  have hly1 : (#[.int .u64 0, .int .u64 0] : Array Value).size = (pv s1).size := rfl
  have hly2 : (pv s1).size = (pv s2).size := rfl
  have hzz : (.agg #[.int .u64 0, .int .u64 0] : Value) = .agg (pv 0#128) := by rw [show (#[.int .u64 0, .int .u64 0] : Array Value) = pv 0#128 from zeroP]
  have HZZ : Hid ((.agg #[.int .u64 0, .int .u64 0] : Value) = .agg (pv 0#128)) := hzz
  rw [← hzz] at C2
  clear hzz
  obtain ⟨Y, hY⟩ : ∃ Y, Y = pv y := ⟨_, rfl⟩
  obtain ⟨S1, hS1⟩ : ∃ S1, S1 = pv s1 := ⟨_, rfl⟩
  obtain ⟨S2, hS2⟩ : ∃ S2, S2 = pv s2 := ⟨_, rfl⟩
  have HE : Hid (Y = pv y ∧ S1 = pv s1 ∧ S2 = pv s2) := ⟨hY, hS1, hS2⟩
  rw [← hY] at C1 C2 C3 hsy hoy hly
  rw [← hS1] at C2 C3 hsy1 hoy1 hly1 hly2
  rw [← hS2] at C3 hsy2 hoy2 hly2
  clear hY hS1 hS2
  go_enter Tryz.func62, Tryz.ntmps62
  go_upto_region 1 with fail
  obtain ⟨w1, hw1⟩ : ∃ w1, w1 = (w.alloc (.cells A 62)).alloc (.cells (ba 16 zB) 62) := ⟨_, rfl⟩
  obtain ⟨Bo, hBo⟩ : ∃ Bo, Bo = w.heap.size + 1 := ⟨_, rfl⟩
  have Z1 : Hid (Chg w w1 ∧ Ar w1 w.heap.size A ∧ Ar w1 Bo (ba 16 zB) ∧ w.heap.size < Bo) := by
    rw [hw1, hBo]
    exact ⟨((Chg.refl w).alloc _).alloc _, (Ar.new w _ _).alloc _, Ar.new1 w _ _ _, by omega⟩
  rw [← hw1, ← hBo]
  obtain ⟨tA, gA⟩ := Z1.out.2.1
  clear hw1 hBo hsA hz2
  go_wp2_with (first | refine wpList_load_row rfl 62 _ rfl _ rfl _ _ _ _ gA und32 rfl hszA ?_)
  go_at_call 79
  refine (C1.out _).mono ?_
  rintro r w2 ⟨rfl, hc2⟩
  obtain ⟨By, hBy⟩ : ∃ By, By = w2.heap.size := ⟨_, rfl⟩
  have Z2 : Hid (Chg w w2 ∧ Ar w2 Bo (ba 16 zB) ∧ w.heap.size < Bo ∧ By = w2.heap.size) := ⟨Z1.out.1.trans hc2, Z1.out.2.2.1.chg hc2, Z1.out.2.2.2, hBy⟩
  clear hc2 gA hszA C1 Z1
  go_upto_region 2 with (first | refine wpList_store_row rfl 110 _ _ rfl _ _ rfl rfl _ _ (heap_alloc_last w2 _) hsy hly hoy ?_)
  obtain ⟨w3, hw3⟩ : ∃ w3, w3 = (w2.alloc (.cells #[.int .u64 0, .int .u64 0] 110)).setRow w2.heap.size Y := ⟨_, rfl⟩
  have Z3 : Hid (Chg w w3 ∧ Ar w3 Bo (ba 16 zB) ∧ Ar w3 By Y ∧ w.heap.size < Bo ∧ Bo < By) := by
    obtain ⟨k0, k1, k2, k3⟩ := Z2.out
    have e1 := k1.lt
    rw [hw3, k3]
    exact ⟨(k0.alloc _).setRow k0.size _, (k1.alloc _).rowOther (by omega) _, (Ar.new w2 _ _).row _, k2, e1⟩
  rw [← hw3, ← hBy]
  clear hw3 hBy Z2
  obtain ⟨tY, gY⟩ := Z3.out.2.2.1
  go_wp2_with (first | refine wpList_load_row rfl 110 _ rfl _ rfl _ _ _ _ gY hff rfl hsy ?_)
  go_at_call 80
  refine (C2.out _ Z3.out.1).mono ?_
  rintro r w4 ⟨rfl, hc4⟩
  obtain ⟨Bs, hBs⟩ : ∃ Bs, Bs = w4.heap.size := ⟨_, rfl⟩
  have Z4 : Hid (Chg w w4 ∧ Ar w4 Bo (ba 16 zB) ∧ Ar w4 By Y ∧ w.heap.size < Bo ∧ Bo < By ∧ Bs = w4.heap.size) := by
    obtain ⟨k0, k1, k2, k3, k4⟩ := Z3.out
    exact ⟨k0.trans hc4, k1.chg hc4, k2.chg hc4, k3, k4, hBs⟩
  clear hc4 gY C2 Z3
  go_upto_region 3 with (first | refine wpList_store_row rfl 110 _ _ rfl _ _ rfl rfl _ _ (heap_alloc_last w4 _) hsy1 hly1 hoy1 ?_)
  obtain ⟨wa, hwa⟩ : ∃ wa, wa = (w4.alloc (.cells #[.int .u64 0, .int .u64 0] 110)).setRow w4.heap.size S1 := ⟨_, rfl⟩
  have Za : Hid (Chg w wa ∧ Ar wa Bo (ba 16 zB) ∧ Ar wa By Y ∧ Ar wa Bs S1 ∧ w.heap.size < Bo ∧ Bo < By ∧ By < Bs) := by
    obtain ⟨k0, k1, k2, k3, k4, k5⟩ := Z4.out
    have e1 := k2.lt
    rw [hwa, k5]
    exact ⟨(k0.alloc _).setRow k0.size _, (k1.alloc _).rowOther (by omega) _, (k2.alloc _).rowOther (by omega) _, (Ar.new w4 _ _).row _, k3, k4, e1⟩
  rw [← hwa, ← hBs]
  clear hwa hBs Z4
  obtain ⟨tY, gY⟩ := Za.out.2.2.1
  obtain ⟨tS, gS⟩ := Za.out.2.2.2.1
  go_wp2_with (first | refine wpList_load_row rfl 110 _ rfl _ rfl _ _ _ _ gS hff rfl hsy1 ?_ | refine wpList_load_row rfl 110 _ rfl _ rfl _ _ _ _ gY hff rfl hsy ?_)
  go_at_call 80
  refine (C3.out _ Za.out.1).mono ?_
  rintro r wb ⟨rfl, hcb⟩
  have Zb : Hid (Chg w wb ∧ Ar wb Bo (ba 16 zB) ∧ Ar wb By Y ∧ Ar wb Bs S1 ∧ w.heap.size < Bo ∧ Bo < By ∧ By < Bs) := by
    obtain ⟨k0, k1, k2, k3, k4, k5, k6⟩ := Za.out
    exact ⟨k0.trans hcb, k1.chg hcb, k2.chg hcb, k3.chg hcb, k4, k5, k6⟩
  obtain ⟨tT, gT⟩ := Zb.out.2.2.2.1
  clear hcb gY gS C3 Za
  go_upto_region 4 with (first | refine wpList_store_row rfl 110 _ _ rfl _ _ rfl rfl _ _ gT hsy2 hly2 hoy2 ?_)
  obtain ⟨wd, hwd⟩ : ∃ wd, wd = wb.setRow Bs S2 := ⟨_, rfl⟩
  have Zd : Hid (Chg w wd ∧ Ar wd Bo (ba 16 zB) ∧ Ar wd By Y ∧ Ar wd Bs S2 ∧ w.heap.size < Bo ∧ Bo < By ∧ By < Bs) := by
    obtain ⟨k0, k1, k2, k3, k4, k5, k6⟩ := Zb.out
    rw [hwd]
    exact ⟨k0.setRow (by omega) _, k1.rowOther (by omega) _, k2.rowOther (by omega) _, k3.row _, k4, k5, k6⟩
  rw [← hwd]
  clear hwd Zb gT hff hsy hsy1 hsy2 hoy hoy1 hoy2 hly hly1 hly2
  have hsl := i65 l1 l2
  have hol := pc_one l1 l2
  have hll : (#[.int .u64 0, .int .u64 0] : Array Value).size = (pc l1 l2).size := rfl
  unfold pc at hsl hol hll
  go_upto_region 5 with (first | refine wpList_store_row rfl 110 _ _ rfl _ _ rfl rfl _ _ (heap_alloc_last wd _) hsl hll hol ?_)
  obtain ⟨Bl, hBl⟩ : ∃ Bl, Bl = wd.heap.size := ⟨_, rfl⟩
  obtain ⟨w5, hw5⟩ : ∃ w5, w5 = (wd.alloc (.cells #[.int .u64 0, .int .u64 0] 110)).setRow wd.heap.size #[.int .u64 (l1.toNat : Int), .int .u64 (l2.toNat : Int)] := ⟨_, rfl⟩
  have Z5 : Hid (Chg w w5 ∧ Ar w5 Bo (ba 16 zB) ∧ Ar w5 By (pv y) ∧ Ar w5 Bs (pv s2) ∧ Ar w5 Bl (pv ln)) := by
    obtain ⟨k0, k1, k2, k3, k4, k5, k6⟩ := Zd.out
    have e1 := k3.lt
    rw [hw5, hBl, ← HE.out.1, ← HE.out.2.2, ← HLN.out]
    exact ⟨(k0.alloc _).setRow k0.size _, (k1.alloc _).rowOther (by omega) _, (k2.alloc _).rowOther (by omega) _, (k3.alloc _).rowOther (by omega) _, (Ar.new wd _ _).row _⟩
  have hBo := Zd.out.2.2.2.2.1
  rw [← hw5, ← hBl]
  clear hw5 hBl Zd
  obtain ⟨ff2, hff⟩ := str65
  dsimp only [Act.put]
  go_cut [] from 29 to 35 (fun wc => Chg w wc ∧ Ar wc Bo (ba 16 (byt (pr (s2 ^^^ ln) y))))
  case first =>
    refine wp_region_vals 6 (fun j => match j with
      | 0 => .agg (pv s2)
      | 1 => .agg (pv ln)
      | 2 => .agg (pv (s2 ^^^ ln))
      | 3 => .agg (pv y)
      | 4 => .agg (pv (pr (s2 ^^^ ln) y))
      | _ => .agg (ba 16 (byt (pr (s2 ^^^ ln) y)))) (by kernel_rfl) (by kernel_rfl) (by kernel_rfl) (by kernel_rfl) (by kernel_rfl) (by kernel_rfl) ?_ ?_
    · intro i o a u hi ho hf hg hc
      have hcs : i = 0 ∨ i = 1 ∨ i = 2 ∨ i = 3 ∨ i = 4 ∨ i = 5 := by omega
      rcases hcs with rfl | rfl | rfl | rfl | rfl | rfl
      · injection ho with ho
        subst ho
        have e1 : a.eval (.tmp 8) = .pointer (some ⟨Bs, 0, none⟩) := hf 8 (by kernel_rfl)
        exact wp_load_mid 110 (.tmp 8) rfl _ _ e1 ((pv s2).toList) _ (rangeP (Ar.chg (w := w5.drew) Z5.out.2.2.2.1 hc)) hff rfl (pvinfo _) ⟨rfl, Chg.refl _⟩
      · injection ho with ho
        subst ho
        have e1 : a.eval (.tmp 9) = .pointer (some ⟨Bl, 0, none⟩) := hf 9 (by kernel_rfl)
        exact wp_load_mid 110 (.tmp 9) rfl _ _ e1 ((pv ln).toList) _ (rangeP (Ar.chg (w := w5.drew) Z5.out.2.2.2.2 hc)) hff rfl (pvinfo _) ⟨rfl, Chg.refl _⟩
      · injection ho with ho
        subst ho
        have e1 : a.eval (.tmp 29) = .agg (pv s2) := hg 0 (by kernel_rfl) (by decide)
        have e2 : a.eval (.tmp 30) = .agg (pv ln) := hg 1 (by kernel_rfl) (by decide)
        exact op_go 83 Tryz.f83 #[.tmp 29, .tmp 30] #[110, 110] rfl Tryz.func83 (by kernel_rfl) (by kernel_rfl) (by simp [e1, e2]) (pxored_any _ _ _)
      · injection ho with ho
        subst ho
        have e1 : a.eval (.tmp 7) = .pointer (some ⟨By, 0, none⟩) := hf 7 (by kernel_rfl)
        exact wp_load_mid 110 (.tmp 7) rfl _ _ e1 ((pv y).toList) _ (rangeP (Ar.chg (w := w5.drew) Z5.out.2.2.1 hc)) hff rfl (pvinfo _) ⟨rfl, Chg.refl _⟩
      · injection ho with ho
        subst ho
        have e1 : a.eval (.tmp 31) = .agg (pv (s2 ^^^ ln)) := hg 2 (by kernel_rfl) (by decide)
        have e2 : a.eval (.tmp 32) = .agg (pv y) := hg 3 (by kernel_rfl) (by decide)
        exact op_go 82 Tryz.f82 #[.tmp 31, .tmp 32] #[110, 110] rfl Tryz.func82 (by kernel_rfl) (by kernel_rfl) (by simp [e1, e2]) (product_any _ _ _)
      · injection ho with ho
        subst ho
        have e1 : a.eval (.tmp 33) = .agg (pv (pr (s2 ^^^ ln) y)) := hg 4 (by kernel_rfl) (by decide)
        exact op_go 81 Tryz.f81 #[.tmp 33] #[110] rfl Tryz.func81 (by kernel_rfl) (by kernel_rfl) (by simp [e1]) (blockOf_any _ _)
    · intro o u ho hc
      injection ho with ho
      subst ho
      have k := Ar.chg (w := w5.drew) Z5.out.2.1 hc
      refine wp_store_mid 62 (.tmp 6) (.tmp 34) rfl _ _ (ba 16 (byt (pr (s2 ^^^ ln) y))) rfl rfl (by rw [ba_size]; exact thereB k) (by rw [ba_size]; exact i32) (ba_one _ _) ?_
      rw [show (ba 16 (byt (pr (s2 ^^^ ln) y))).toList = bl (byt (pr (s2 ^^^ ln) y)) from rfl, setRow_of k _]
      go_wp2_with fail
      go_meet
      exact ⟨(Z5.out.1.drew.trans hc).setRow (by omega) _, k.row _⟩
  case rest =>
    obtain ⟨h1, h2⟩ := hcut
    go_wp2
    refine bp_c (n := 16) (c := ba 16 (byt (pr (s2 ^^^ ln) y))) Tryz.results62 rfl rfl h2 und32 i32 (ba_size _ _) ⟨?_, h1⟩
    rw [HG.out]
end Go.Proofs.YtobglgddbhddnaaGreat

namespace Go.Proofs.YtobglgddbhddnaaGreat
open Go.RowKit
set_option linter.unusedVariables false

theorem zero38 : (∀ w, (zeroValue 25).run Tryz.prog w = .ok (.agg (ba 12 zB)) w) ∧ (Tryz.prog.info? 25).map (·.size) = some 12 := zero_of_info (by kernel_rfl)
theorem und38 : Tryz.prog.underlying 25 = some (.array 12 5) := by kernel_rfl

/-- The block of a nonce and a small number. -/
def ctrB (nc : Nat → By) (x : By) : Nat → By := fun j => if j < 12 then nc j else if j = 15 then x else 0#8

set_option maxRecDepth 100000 in
set_option maxHeartbeats 4000000 in
theorem counter_any (nc : Nat → By) (x : By) (w : World) : Calls Tryz.prog 43 #[.agg (ba 12 nc), .int .u8 (x.toNat : Int)] w fun r w' => r = .returned (.agg (ba 16 (ctrB nc x))) ∧ Chg w w' := by
  have hz := zero32.1
  have hsA := ba_size 12 nc
  obtain ⟨A, hA⟩ : ∃ A, A = ba 12 nc := ⟨_, rfl⟩
  have HA : Hid (A = ba 12 nc) := hA
  rw [← hA] at hsA ⊢
  clear hA
  go_enter Tryz.func43, Tryz.ntmps43
  go_upto_region 2 with fail
  obtain ⟨w2, hw2⟩ : ∃ w2, w2 = ((w.alloc (.cells A 25)).alloc (.cells (ba 16 zB) 62)).alloc (.cells (ba 16 zB) 62) := ⟨_, rfl⟩
  have Z : Hid (Chg w w2 ∧ Ar w2 w.heap.size (ba 12 nc) ∧ Ar w2 (w.heap.size + 1) (ba 16 zB) ∧ Ar w2 (w.heap.size + 1 + 1) (ba 16 zB)) := by
    rw [hw2, HA.out]
    exact ⟨(((Chg.refl w).alloc _).alloc _).alloc _, ((Ar.new w _ _).alloc _).alloc _, (Ar.new1 w _ _ _).alloc _, Ar.new2 w _ _ _ _⟩
  rw [← hw2]
  have hcp := run_cp w2.drew (w.heap.size + 1 + 1) 16 0 16 16 w.heap.size 0 12 12 12 zB nc Z.out.2.2.2 (Ar.bs Z.out.2.1) rfl (by omega)
  obtain ⟨F, hF⟩ : ∃ F, F = over 0 12 nc zB := ⟨_, rfl⟩
  rw [← hF] at hcp
  have HF : Hid (F = over 0 12 nc zB) := hF
  clear hw2 hz hsA hF
  go_cut [] from 6 to 9 (fun wc => Chg w wc ∧ Ar wc (w.heap.size + 1) (ba 16 zB) ∧ Ar wc (w.heap.size + 1 + 1) (ba 16 F))
  case first =>
    go_region_with (fail)
    all_goals go_wp2
    all_goals go_meet
    all_goals
      obtain ⟨k0, k1, k2, k3⟩ := Z.out
      exact ⟨k0.drew.setRow (by omega) _, k2.drew.rowOther (by omega) _, k3.drew.row _⟩
  case rest =>
    obtain ⟨z0, z1, z2⟩ := hcut
    have b1 := (z2.cell 15).trans (ba_get 16 F (by decide))
    have f1 := z2.frozen 15
    have Z2 : Hid (Chg w wc ∧ Ar wc (w.heap.size + 1) (ba 16 zB) ∧ Ar wc (w.heap.size + 1 + 1) (ba 16 F)) := ⟨z0, z1, z2⟩
    clear z0 z1 z2 hcp Z
    go_upto_region 4 with fail
    obtain ⟨w3, hw3⟩ : ∃ w3, w3 = wc.setCell ⟨w.heap.size + 1 + 1, 15, none⟩ (.int .u8 (x.toNat : Int)) := ⟨_, rfl⟩
    obtain ⟨G, hG⟩ : ∃ G, G = updB F 15 x := ⟨_, rfl⟩
    have HG : Hid (ba 16 G = ba 16 (ctrB nc x)) := by
      show ba 16 G = _
      refine ba_congr fun j hj => ?_
      rw [hG, HF.out, updB, over, ctrB]
      by_cases h1 : j = 15
      · rw [if_pos h1, if_neg (by omega), if_pos h1]
      · rw [if_neg h1]
        by_cases h2 : j < 12
        · rw [if_pos (by omega), if_pos h2, Nat.sub_zero]
        · rw [if_neg (by omega), if_neg h2, if_neg h1]
          rfl
    have Z3 : Hid (Chg w w3 ∧ Ar w3 (w.heap.size + 1) (ba 16 zB) ∧ Ar w3 (w.heap.size + 1 + 1) (ba 16 G)) := by
      obtain ⟨k0, k1, k2⟩ := Z2.out
      rw [hw3, hG]
      have := k2.set 15 (.int .u8 (x.toNat : Int))
      rw [ba_set] at this
      exact ⟨k0.setCell (by dsimp only; omega) _, k1.other (by dsimp only; omega) _, this⟩
    rw [← hw3]
    obtain ⟨t1, g1⟩ := Z3.out.2.2
    obtain ⟨t3, g3⟩ := Z3.out.2.1
    have hsz := szB G zero32.2
    have hlen := lenB 16 zB G
    have hone := ba_one 16 G
    clear hw3 hG b1 f1 Z2
    go_wp2_with (first | refine wpList_load_row rfl 62 _ rfl _ rfl _ _ _ _ g1 und32 rfl hsz ?_ | refine wpList_store_row rfl 62 _ _ rfl _ _ rfl rfl _ _ g3 hsz hlen hone ?_)
    refine bp_c (n := 16) (c := ba 16 G) Tryz.results43 rfl rfl ?_ und32 i32 (ba_size _ _) ⟨by rw [HG.out], ?_⟩
    · exact Z3.out.2.1.row _
    · exact Z3.out.1.setRow (by omega) _

/-- The tag. -/
def tagF (R : Nat) (k nc ta : Nat → By) (na : Nat) (tx : Nat → By) (nx : Nat) : Nat → By := xr (ghash (enc R k zB) ta na tx nx) (enc R k (ctrB nc 1#8))

/-- What stands while both are XORed. -/
structure TaS (w wr : World) (Bo Bs Bp : Nat) (g p : Nat → By) (i : Nat) : Prop where
  chg : Chg w wr
  out : Ar wr Bo (ba 16 zB)
  sum : Ar wr Bs (ba 16 (upTo i (xr g p) g))
  pad : Ar wr Bp (ba 16 p)

set_option maxRecDepth 100000 in
set_option maxHeartbeats 4000000 in
theorem tag_any (K R : Nat) (k nc ta tx : Nat → By) (na nx : Nat) (va vx : Value) (w : World) (hK : Ar w K (keyC R k)) (hR : R = 10 ∨ R = 14) (hva : Ap.Rd w va (nums na ta)) (hvx : Ap.Rd w vx (nums nx tx)) (hna : na ≤ 140737488351232) (hnx : nx ≤ 140737488351232) :
    Calls Tryz.prog 44 #[.pointer (some ⟨K, 0, none⟩), .agg (ba 12 nc), va, vx] w fun r w' => r = .returned (.agg (ba 16 (tagF R k nc ta na tx nx))) ∧ Chg w w' := by
  obtain ⟨ao, m1, ca, rfl, hm1, -⟩ := hva.shape
  obtain ⟨xo, m2, cx, rfl, hm2, -⟩ := hvx.shape
  rw [nums_len] at hm1 hm2
  subst hm1 hm2
  obtain ⟨e0, he0⟩ : ∃ e, e = enc R k zB := ⟨_, rfl⟩
  obtain ⟨c1, hc1⟩ : ∃ c, c = ctrB nc 1#8 := ⟨_, rfl⟩
  obtain ⟨g, hg⟩ : ∃ g, g = ghash e0 ta m1 tx m2 := ⟨_, rfl⟩
  obtain ⟨p, hp⟩ : ∃ p, p = enc R k c1 := ⟨_, rfl⟩
  have HT : Hid (xr g p = tagF R k nc ta m1 tx m2) := by
    show _ = _
    rw [hg, hp, hc1, he0]
    rfl
  have C1 : Hid (∀ u, Chg w u → Calls Tryz.prog 63 #[.pointer (some ⟨K, 0, none⟩), .agg (ba 16 zB)] u fun r w' => r = .returned (.agg (ba 16 e0)) ∧ Chg u w') := by
    rw [he0]
    exact fun u c => encrypt_any K R k zB u (hK.chg c) hR
  have C2 : Hid (∀ u, Chg w u → Calls Tryz.prog 62 #[.agg (ba 16 e0), .slice ao m1 ca, .slice xo m2 cx] u fun r w' => r = .returned (.agg (ba 16 g)) ∧ Chg u w') := by
    rw [hg]
    exact fun u c => hash_any e0 ta tx m1 m2 _ _ u (Rd.chg hva c) (Rd.chg hvx c) hna hnx
  have C3 : Hid (∀ u, Calls Tryz.prog 43 #[.agg (ba 12 nc), .int .u8 1] u fun r w' => r = .returned (.agg (ba 16 c1)) ∧ Chg u w') := by
    rw [hc1]
    exact fun u => counter_any nc 1#8 u
  have C4 : Hid (∀ u, Chg w u → Calls Tryz.prog 63 #[.pointer (some ⟨K, 0, none⟩), .agg (ba 16 c1)] u fun r w' => r = .returned (.agg (ba 16 p)) ∧ Chg u w') := by
    rw [hp]
    exact fun u c => encrypt_any K R k c1 u (hK.chg c) hR
  have hsA := ba_size 12 nc
  have hszA := szB nc zero38.2
  have hsg := szB g zero32.2
  have hlg := lenB 16 zB g
  have hog := ba_one 16 g
  have hsp := szB p zero32.2
  have hlp := lenB 16 zB p
  have hop := ba_one 16 p
  obtain ⟨A, hA⟩ : ∃ A, A = ba 12 nc := ⟨_, rfl⟩
  rw [← hA] at hsA hszA C3 ⊢
  clear hA he0 hc1 hg hp hva hvx hK
  have hz := zero32.1
  go_enter Tryz.func44, Tryz.ntmps44
  go_upto_region 1 with fail
  obtain ⟨w1, hw1⟩ : ∃ w1, w1 = (w.alloc (.cells A 25)).alloc (.cells (ba 16 zB) 62) := ⟨_, rfl⟩
  have Z1 : Hid (Chg w w1 ∧ Ar w1 w.heap.size A ∧ Ar w1 (w.heap.size + 1) (ba 16 zB)) := by
    rw [hw1]
    exact ⟨((Chg.refl w).alloc _).alloc _, (Ar.new w _ _).alloc _, Ar.new1 w _ _ _⟩
  rw [← hw1]
  clear hw1 hsA
  go_wp2_with fail
  go_at_call 63
  refine (C1.out _ Z1.out.1).mono ?_
  rintro r w2 ⟨rfl, hc2⟩
  have Z2 : Hid (Chg w w2 ∧ Ar w2 w.heap.size A ∧ Ar w2 (w.heap.size + 1) (ba 16 zB)) := ⟨Z1.out.1.trans hc2, Z1.out.2.1.chg hc2, Z1.out.2.2.chg hc2⟩
  clear hc2 Z1 C1
  go_wp2_with fail
  go_at_call 62
  refine (C2.out _ Z2.out.1).mono ?_
  rintro r w3 ⟨rfl, hc3⟩
  have Z3 : Hid (Chg w w3 ∧ Ar w3 w.heap.size A ∧ Ar w3 (w.heap.size + 1) (ba 16 zB)) := ⟨Z2.out.1.trans hc3, Z2.out.2.1.chg hc3, Z2.out.2.2.chg hc3⟩
  clear hc3 Z2 C2
  go_upto_region 2 with (first | refine wpList_store_row rfl 62 _ _ rfl _ _ rfl rfl _ _ (heap_alloc_last w3 _) hsg hlg hog ?_)
  obtain ⟨Bs, hBs⟩ : ∃ Bs, Bs = w3.heap.size := ⟨_, rfl⟩
  obtain ⟨w4, hw4⟩ : ∃ w4, w4 = (w3.alloc (.cells (ba 16 zB) 62)).setRow w3.heap.size (ba 16 g) := ⟨_, rfl⟩
  have Z4 : Hid (Chg w w4 ∧ Ar w4 w.heap.size A ∧ Ar w4 (w.heap.size + 1) (ba 16 zB) ∧ Ar w4 Bs (ba 16 g) ∧ w.heap.size + 1 < Bs) := by
    obtain ⟨k0, k1, k2⟩ := Z3.out
    have e1 := k2.lt
    rw [hw4, hBs]
    exact ⟨(k0.alloc _).setRow k0.size _, (k1.alloc _).rowOther (by omega) _, (k2.alloc _).rowOther (by omega) _, (Ar.new w3 _ _).row _, e1⟩
  rw [← hw4, ← hBs]
  obtain ⟨tA, gA⟩ := Z4.out.2.1
  clear hw4 hBs Z3
  go_wp2_with (first | refine wpList_load_row rfl 25 _ rfl _ rfl _ _ _ _ gA und38 rfl hszA ?_)
  go_at_call 43
  refine (C3.out _).mono ?_
  rintro r w5 ⟨rfl, hc5⟩
  have Z5 : Hid (Chg w w5 ∧ Ar w5 (w.heap.size + 1) (ba 16 zB) ∧ Ar w5 Bs (ba 16 g) ∧ w.heap.size + 1 < Bs) := by
    obtain ⟨k0, k1, k2, k3, k4⟩ := Z4.out
    exact ⟨k0.trans hc5, k2.chg hc5, k3.chg hc5, k4⟩
  clear hc5 Z4 C3 gA hszA
  go_wp2_with fail
  go_at_call 63
  refine (C4.out _ Z5.out.1).mono ?_
  rintro r w6 ⟨rfl, hc6⟩
  have Z6 : Hid (Chg w w6 ∧ Ar w6 (w.heap.size + 1) (ba 16 zB) ∧ Ar w6 Bs (ba 16 g) ∧ w.heap.size + 1 < Bs) := by
    obtain ⟨k0, k1, k2, k3⟩ := Z5.out
    exact ⟨k0.trans hc6, k1.chg hc6, k2.chg hc6, k3⟩
  clear hc6 Z5 C4
  go_upto_region 3 with (first | refine wpList_store_row rfl 62 _ _ rfl _ _ rfl rfl _ _ (heap_alloc_last w6 _) hsp hlp hop ?_)
  obtain ⟨Bp, hBp⟩ : ∃ Bp, Bp = w6.heap.size := ⟨_, rfl⟩
  obtain ⟨w7, hw7⟩ : ∃ w7, w7 = (w6.alloc (.cells (ba 16 zB) 62)).setRow w6.heap.size (ba 16 p) := ⟨_, rfl⟩
  have Z7 : Hid (TaS w w7 (w.heap.size + 1) Bs Bp g p 0 ∧ w.heap.size + 1 < Bs ∧ Bs < Bp) := by
    obtain ⟨k0, k1, k2, k3⟩ := Z6.out
    have e1 := k2.lt
    rw [hw7, hBp]
    refine ⟨⟨(k0.alloc _).setRow k0.size _, (k1.alloc _).rowOther (by omega) _, ?_, (Ar.new w6 _ _).row _⟩, k3, e1⟩
    rw [upTo_zero]
    exact (k2.alloc _).rowOther (by omega) _
  rw [← hw7, ← hBp]
  clear hw7 hBp Z6 hsg hlg hog hsp hlp hop
  dsimp only [Act.put]
  go_wp2_with fail
  go_loopw [22] (fun v wr => ∃ (i : Nat), v = .int .i64 i ∧ i ≤ 16 ∧ TaS w wr (w.heap.size + 1) Bs Bp g p i) (fun v wr => 16 - (intOf v).toNat)
  case atStart => exact ⟨0, rfl, by omega, Z7.out.1⟩
  case round =>
    obtain ⟨i, rfl, hi, hz3⟩ := hrel
    have Z : Hid (TaS w wr (w.heap.size + 1) Bs Bp g p i) := hz3
    by_cases h16 : i < 16
    · have hd : decide ((i : Int) < 16) = true := by simp; omega
      have li : (i : Int) < 16 := by omega
      have c1 := (hz3.sum.cell i).trans (ba_get 16 _ h16)
      have c2 := (hz3.pad.cell i).trans (ba_get 16 _ h16)
      have f1 := hz3.sum.frozen i
      have e0 : upTo i (xr g p) g i = g i := by simp [upTo]
      rw [e0] at c1
      obtain ⟨x, hx⟩ : ∃ x, x = g i := ⟨_, rfl⟩
      obtain ⟨y, hy⟩ : ∃ y, y = p i := ⟨_, rfl⟩
      rw [← hx] at c1
      rw [← hy] at c2
      have HX : Hid (xr g p i = x ^^^ y) := by show xr g p i = _; rw [hx, hy, xr]
      clear hx hy hz3 e0
      go_wp2_with fail
      go_region_with (fail)
      all_goals go_wp2
      all_goals
        go_roundw
        case rel =>
          have h7 := Z7.out.2
          obtain ⟨k0, k1, k2, k3⟩ := Z.out
          refine ⟨i + 1, by go_num, by omega, (k0.setCell (by dsimp only; omega) _).drew, (k1.other (by dsimp only; omega) _).drew, ?_, (k3.other (by dsimp only; omega) _).drew⟩
          have hh := k2.set i (.int .u8 (Go.bits .xor .u8 (x.toNat : Int) (y.toNat : Int)))
          rw [xorB, ba_set, ← HX.out, upTo_upd] at hh
          rw [xorB, ← HX.out]
          exact hh.drew
        case measure => simp [intOf]; omega
    · have : i = 16 := by omega
      subst this
      have hd : decide (((16 : Nat) : Int) < 16) = false := by simp
      obtain ⟨q, hq⟩ : ∃ q, q = upTo 16 (xr g p) g := ⟨_, rfl⟩
      have HG : Hid (ba 16 q = ba 16 (tagF R k nc ta m1 tx m2)) := by
        show ba 16 q = _
        rw [hq, upTo_all, HT.out]
      have Zq : Hid (Chg w wr ∧ Ar wr (w.heap.size + 1) (ba 16 zB) ∧ Ar wr Bs (ba 16 q)) := ⟨hz3.chg, hz3.out, by rw [hq]; exact hz3.sum⟩
      obtain ⟨t1, g1⟩ := Zq.out.2.2
      obtain ⟨t3, g3⟩ := Zq.out.2.1
      have hsz := szB q zero32.2
      have hlen := lenB 16 zB q
      have hone := ba_one 16 q
      clear hq hz3 Z
      go_wp2_with (first | refine wpList_load_row rfl 62 _ rfl _ rfl _ _ _ _ g1 und32 rfl hsz ?_ | refine wpList_store_row rfl 62 _ _ rfl _ _ rfl rfl _ _ g3 hsz hlen hone ?_)
      refine bp_c (n := 16) (c := ba 16 q) Tryz.results44 rfl rfl ?_ und32 i32 (ba_size _ _) ⟨by rw [HG.out], ?_⟩
      · exact Zq.out.2.1.row _
      · exact Zq.out.1.setRow (by omega) _
end Go.Proofs.YtobglgddbhddnaaGreat
