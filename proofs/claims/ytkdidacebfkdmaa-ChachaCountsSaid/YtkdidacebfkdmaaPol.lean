/-
  The code of a text under a key: the function Poly.
-/
import Derived.Test.YtkdidacebfkdmaaPp
namespace Go.Proofs.Ytkdidacebfkdmaa
open Go.RowKit
set_option linter.unusedVariables false

theorem rangeI {w : World} {B n : Nat} {d : Nat → Int} (h : Ar w B (arr .u64 n d)) : w.rangeAt B 0 (arr .u64 n d).toList := by
  intro j v hv
  rw [Nat.zero_add, h.cell]
  simpa using hv
theorem infoI (d : Nat → Int) : (Try.prog.info? 49).map (·.size) = some (arr .u64 5 d).toList.length := by rw [Array.length_toList, arr_size]; exact i49
theorem thereI {w : World} {B n : Nat} {κ : IntKind} {d : Nat → Int} (h : Ar w B (arr κ n d)) : w.there B 0 n := fun j hj => by
  rw [Nat.zero_add, h.cell, arr_get κ n d hj]
  exact ⟨rfl, h.frozen j⟩
theorem setRowI {w : World} {B n ty : Nat} {κ : IntKind} {d : Nat → Int} (h : Ar w B (arr κ n d)) (hi : (Try.prog.info? ty).map (·.size) = some n) (g : Nat → Int) : w.setCells B 0 (arr κ n g).toList = w.setRow B (arr κ n g) := by
  have h1 := run_storeVar_mid (P := Try.prog) w B 0 ty (arr κ n g) (by rw [arr_size]; exact thereI h) (by rw [arr_size]; exact hi) (arr_one κ n g)
  obtain ⟨t, h⟩ := h
  have h2 := run_storeVar_row (P := Try.prog) w B t ty _ (arr κ n g) h (by rw [arr_size]; exact hi) (by rw [arr_size, arr_size]) (arr_one κ n g)
  rw [h1] at h2
  injection h2
theorem run_sliceLH (b o n cap p q : Nat) (hp : p ≤ q) (hq : q ≤ cap) (hc : cap ≤ 9223372036854775807) (hne : ¬ cap = p) (w : World) : (Instr.sliceAt 25 (.slice (some ⟨b, o, none⟩) n cap) (some (.int .i64 (p : Int))) (some (.int .i64 (q : Int))) none).run Try.prog w = .ok (.slice (some ⟨b, o + p, none⟩) (q - p) (cap - p)) w := by
  have h1 : (p : Int) ≤ q := by omega
  have h2 : (q : Int) ≤ cap := by omega
  refine (run_sliceAt_slice w 25 _ _ _ _ (by kernel_rfl)).trans ?_
  simp [Instr.slice, Instr.sliceBounds, Instr.sliceBound, run_underlying u22, asIntOf, Sem.run_bind, hp, hq, hne, addr_add]

/-- What stands while a text's code is made. -/
structure PS (w wr : World) (R S : Nat) (key : Nat → By) (s : Nat → Int) : Prop where
  chg : Chg w wr
  ky : Ar wr w.heap.size (ba 32 key)
  res : Ar wr (w.heap.size + 1) (ba 16 zB)
  r : Ar wr R (arr .u64 5 (noF (clF key)))
  sum : Ar wr S (arr .u64 5 s)
  l1 : w.heap.size + 1 < R
  l2 : R < S
theorem PS.to {w wr u : World} {R S : Nat} {key : Nat → By} {s : Nat → Int} (h : PS w wr R S key s) (k : Chg wr u) : PS w u R S key s := ⟨h.chg.trans k, h.ky.chg k, h.res.chg k, h.r.chg k, h.sum.chg k, h.l1, h.l2⟩
theorem PS.row {w wr : World} {R S : Nat} {key : Nat → By} {s : Nat → Int} (h : PS w wr R S key s) (g : Nat → Int) : PS w (wr.setRow S (arr .u64 5 g)) R S key g := by
  have e1 := h.l1
  have e2 := h.l2
  exact ⟨h.chg.setRow (by omega) _, h.ky.rowOther (by omega) _, h.res.rowOther (by omega) _, h.r.rowOther (by omega) _, h.sum.row _, e1, e2⟩

def rgOf (n : Nat) : Code → Option Code
  | .region i ops b => if i = n then some (.region i ops b) else none
  | .block _ b => rgOf n b
  | .seq a b => match rgOf n a with
    | some c => some c
    | none => rgOf n b
  | .cond _ a b => match rgOf n a with
    | some c => some c
    | none => rgOf n b
  | .loop b => rgOf n b
  | _ => none
/-- The region of this number. -/
def rg (f : Func) (n : Nat) : Code := match f.body with
  | some c => (rgOf n c).getD .skip
  | none => .skip

set_option maxRecDepth 100000 in
set_option maxHeartbeats 8000000 in
theorem poly7_any {Q : Exit → Act → World → Prop} {t0 t1 t2 t3 t4 t7 t9 t10 t11 t12 t13 t14 t15 t16 t17 t18 t19 t20 t21 t22 t23 t24 t25 t26 t27 t28 t29 t30 t31 t32 t33 t34 t35 t36 t37 : Value} {R S tb tf l cl : Nat} {key f : Nat → By} {s : Nat → Int} {w : World}
    (hS : Ar w.drew S (arr .u64 5 s)) (hR : Ar w.drew R (arr .u64 5 (noF (clF key)))) (hT : Bs w tb tf l f) (hl : l ≤ 16)
    (h1 : ∀ i, i < 5 → 0 ≤ s i ∧ s i ≤ 4294967296) (h2 : ∀ i, i < 5 → 0 ≤ noF (mkF f l) i ∧ noF (mkF f l) i ≤ 4294967296) (h3 : ∀ i, i < 5 → 0 ≤ addF s (noF (mkF f l)) i ∧ addF s (noF (mkF f l)) i ≤ 268435456) (h4 : ∀ i, i < 5 → 0 ≤ noF (clF key) i ∧ noF (clF key) i ≤ 67108864)
    (hQ : ∀ (u25 u26 u27 u28 u29 u30 u31 : Value) (u : World), (∃ w1, Chg w w1 ∧ u = w1.setRow S (arr .u64 5 (nxF (noF (clF key)) s f l))) → Q .normal ⟨#[t0, t1, t2, t3, t4, .pointer (some ⟨R, 0, none⟩), .pointer (some ⟨S, 0, none⟩), t7, .slice (some ⟨tb, tf, none⟩) l cl, t9, t10, t11, t12, t13, t14, t15, t16, t17, t18, t19, t20, t21, t22, t23, t24, u25, u26, u27, u28, u29, u30, u31, t32, t33, t34, t35, t36, t37], []⟩ u) :
    (rg Try.f13 7).wp Try.prog Q ⟨#[t0, t1, t2, t3, t4, .pointer (some ⟨R, 0, none⟩), .pointer (some ⟨S, 0, none⟩), t7, .slice (some ⟨tb, tf, none⟩) l cl, t9, t10, t11, t12, t13, t14, t15, t16, t17, t18, t19, t20, t21, t22, t23, t24, t25, t26, t27, t28, t29, t30, t31, t32, t33, t34, t35, t36, t37], []⟩ w := by
  show Code.wp Try.prog (Code.region 7 _ true) Q _ _
  refine wp_region_vals 7 (fun j => match j with
    | 0 => .agg (arr .u64 5 s)
    | 1 => .slice (some ⟨tb, tf, none⟩) l cl
    | 2 => .agg (ba 17 (mkF f l))
    | 3 => .agg (arr .u64 5 (noF (mkF f l)))
    | 4 => .agg (arr .u64 5 (addF s (noF (mkF f l))))
    | 5 => .agg (arr .u64 5 (noF (clF key)))
    | _ => .agg (arr .u64 5 (nxF (noF (clF key)) s f l))) (by kernel_rfl) (by kernel_rfl) (by kernel_rfl) (by kernel_rfl) (by kernel_rfl) (by kernel_rfl) ?_ ?_
  · intro i o a u hi ho hf hg hc
    have hcs : i = 0 ∨ i = 1 ∨ i = 2 ∨ i = 3 ∨ i = 4 ∨ i = 5 ∨ i = 6 := by omega
    rcases hcs with rfl | rfl | rfl | rfl | rfl | rfl | rfl
    · injection ho with ho
      subst ho
      have e1 : a.eval (.tmp 6) = .pointer (some ⟨S, 0, none⟩) := hf 6 (by kernel_rfl)
      exact wp_load_mid 49 (.tmp 6) rfl _ _ e1 ((arr .u64 5 s).toList) _ (rangeI (hS.chg hc)) und49 rfl (infoI _) ⟨rfl, Chg.refl _⟩
    · injection ho with ho
      subst ho
      have e1 : a.eval (.tmp 8) = .slice (some ⟨tb, tf, none⟩) l cl := hf 8 (by kernel_rfl)
      exact op_val (by simp [execOp, e1]) (Chg.refl _)
    · injection ho with ho
      subst ho
      have e1 : a.eval (.tmp 26) = .slice (some ⟨tb, tf, none⟩) l cl := hg 1 (by kernel_rfl) (by decide)
      exact op_go 27 Try.f27 #[.tmp 26] #[25] rfl Try.func27 (by kernel_rfl) (by kernel_rfl) (by simp [e1]) (marked_any tb tf l cl f _ (Bs.chg hT ((Chg.refl w).drew.trans hc)) hl)
    · injection ho with ho
      subst ho
      have e1 : a.eval (.tmp 27) = .agg (ba 17 (mkF f l)) := hg 2 (by kernel_rfl) (by decide)
      exact op_go 26 Try.f26 #[.tmp 27] #[53] rfl Try.func26 (by kernel_rfl) (by kernel_rfl) (by simp [e1]) (numberOf_any (mkF f l) _)
    · injection ho with ho
      subst ho
      have e1 : a.eval (.tmp 25) = .agg (arr .u64 5 s) := hg 0 (by kernel_rfl) (by decide)
      have e2 : a.eval (.tmp 28) = .agg (arr .u64 5 (noF (mkF f l))) := hg 3 (by kernel_rfl) (by decide)
      exact op_go 25 Try.f25 #[.tmp 25, .tmp 28] #[49, 49] rfl Try.func25 (by kernel_rfl) (by kernel_rfl) (by simp [e1, e2]) (added_any s (noF (mkF f l)) _ h1 h2)
    · injection ho with ho
      subst ho
      have e1 : a.eval (.tmp 5) = .pointer (some ⟨R, 0, none⟩) := hf 5 (by kernel_rfl)
      exact wp_load_mid 49 (.tmp 5) rfl _ _ e1 ((arr .u64 5 (noF (clF key))).toList) _ (rangeI (hR.chg hc)) und49 rfl (infoI _) ⟨rfl, Chg.refl _⟩
    · injection ho with ho
      subst ho
      have e1 : a.eval (.tmp 29) = .agg (arr .u64 5 (addF s (noF (mkF f l)))) := hg 4 (by kernel_rfl) (by decide)
      have e2 : a.eval (.tmp 30) = .agg (arr .u64 5 (noF (clF key))) := hg 5 (by kernel_rfl) (by decide)
      exact op_go 24 Try.f24 #[.tmp 29, .tmp 30] #[49, 49] rfl Try.func24 (by kernel_rfl) (by kernel_rfl) (by simp [e1, e2]) (product_any (addF s (noF (mkF f l))) (noF (clF key)) _ h3 h4)
  · intro o u ho hc
    injection ho with ho
    subst ho
    have k := hS.chg hc
    refine wp_store_mid 49 (.tmp 6) (.tmp 31) rfl S 0 (arr .u64 5 (nxF (noF (clF key)) s f l)) rfl rfl (by rw [arr_size]; exact thereI k) (by rw [arr_size]; exact i49) (arr_one _ _ _) ?_
    rw [setRowI k i49]
    exact hQ _ _ _ _ _ _ _ _ ⟨_, (Chg.refl w).drew.trans hc, rfl⟩


set_option maxRecDepth 100000 in
set_option maxHeartbeats 8000000 in
theorem poly_any (n cap : Nat) (ao : Option Addr) (key txt : Nat → By) (w : World) (hv : Ap.Rd w (.slice ao n cap) (nums n txt)) (hn' : n ≤ 281474976710656) :
    Calls Try.prog 13 #[.agg (ba 32 key), .slice ao n cap] w fun r w' => r = .returned (.agg (ba 16 (polF key txt n))) ∧ Chg w w' := by
  obtain ⟨A, hA⟩ : ∃ A, A = ba 32 key := ⟨_, rfl⟩
  have hsA : A.size = 32 := by rw [hA]; exact ba_size _ _
  have hszA : (Try.prog.info? 22).map (·.size) = some A.size := by rw [hA]; exact szB key i22
  have HA : Hid (A = ba 32 key) := hA
  rw [← hA]
  have HX : Hid (Ap.Rd w (.slice ao n cap) (nums n txt) ∧ n ≤ 281474976710656) := ⟨hv, hn'⟩
  obtain ⟨rd, hrd⟩ : ∃ rd, rd = noF (clF key) := ⟨_, rfl⟩
  have HRD : Hid (rd = noF (clF key)) := hrd
  have HC1 : Hid (∀ u, Calls Try.prog 23 #[.agg A] u fun r w' => r = .returned (.agg (arr .u64 5 rd)) ∧ Chg u w') := by rw [hA, hrd]; exact firstHalf_any key
  clear hA hv hrd
  have hz := zero49.1
  have hz2 := zero32.1
  have hsz := sz49 rd
  have hlen := len5 zI rd
  have hone := arr_one .u64 5 rd
  go_enter Try.func13, Try.ntmps13
  go_upto_region 1 with fail
  obtain ⟨w2, hw2⟩ : ∃ w2, w2 = (w.alloc (.cells A 22)).alloc (.cells (ba 16 zB) 31) := ⟨_, rfl⟩
  have Z2 : Hid (Chg w w2 ∧ Ar w2 w.heap.size A ∧ Ar w2 (w.heap.size + 1) (ba 16 zB)) := by
    rw [hw2]
    exact ⟨((Chg.refl w).alloc _).alloc _, (Ar.new w _ _).alloc _, Ar.new1 w _ _ _⟩
  rw [← hw2]
  clear hw2
  obtain ⟨t1, g1⟩ := Z2.out.2.1
  go_upto_region 2 with (first | refine wpList_load_row rfl 22 _ rfl _ rfl _ _ _ _ g1 und22 rfl hszA ?_ | (go_at_call 23; refine (HC1.out _).mono ?_; rintro r w3 ⟨rfl, hc3⟩) | refine wpList_store_row rfl 49 _ _ rfl _ _ rfl rfl _ _ (heap_alloc_last w3 _) hsz hlen hone ?_)
  obtain ⟨R, hR⟩ : ∃ R, R = w3.heap.size := ⟨_, rfl⟩
  obtain ⟨w4, hw4⟩ : ∃ w4, w4 = (w3.alloc (.cells (arr .u64 5 zI) 49)).setRow w3.heap.size (arr .u64 5 rd) := ⟨_, rfl⟩
  have hsz4 : Hid (w4.heap.size = R + 1) := by rw [hw4, hR]; show _ = _; simp [World.setRow]
  have Z4 : Hid (Chg w w4 ∧ Ar w4 w.heap.size A ∧ Ar w4 (w.heap.size + 1) (ba 16 zB) ∧ Ar w4 R (arr .u64 5 rd) ∧ w.heap.size + 1 < R) := by
    have k0 := Z2.out.1.trans hc3
    have k1 := Z2.out.2.1.chg hc3
    have k2 := Z2.out.2.2.chg hc3
    have e1 := k1.lt
    have e2 := k2.lt
    rw [hw4, hR]
    exact ⟨(k0.alloc _).setRow k0.size _, (k1.alloc _).rowOther (by omega) _, (k2.alloc _).rowOther (by omega) _, (Ar.new w3 _ _).row _, e2⟩
  rw [← hw4, ← hR]
  clear hw4 hR hc3 g1 Z2 HC1 hsz hlen hone hszA hsA
  try dsimp only [Act.put]
  go_upto_region 3 with fail
  obtain ⟨S, hS⟩ : ∃ S, S = w4.heap.size := ⟨_, rfl⟩
  obtain ⟨w6, hw6⟩ : ∃ w6, w6 = w4.alloc (.cells (arr .u64 5 zI) 49) := ⟨_, rfl⟩
  have Z6 : Hid (PS w w6 R S key zI) := by
    obtain ⟨k0, k1, k2, k3, k4⟩ := Z4.out
    have e := hsz4.out
    rw [HA.out] at k1
    rw [HRD.out] at k3
    rw [hw6, hS]
    exact ⟨k0.alloc _, k1.alloc _, k2.alloc _, k3.alloc _, Ar.new w4 _ _, k4, by omega⟩
  rw [← hw6, ← hS]
  clear hw6 hS hsz4 Z4 hz hz2
  go_wp2_with fail
  go_loopw [7] (fun v7 wr => ∃ (m : Nat) (s : Nat → Int), v7 = .int .i64 ((16 * m : Nat) : Int) ∧ 16 * m ≤ n + 15 ∧ PS w wr R S key s ∧ Sm s ∧ val (67108864 : Int) 5 s % (1361129467683753853853498429727072845819 : Int) = pac (rK key) txt n m) (fun v7 wr => n + 15 - (intOf v7).toNat)
  case atStart => exact ⟨0, zI, rfl, by omega, Z6.out, sm_zero, by rw [val_zI]; rfl⟩
  case round =>
    clear Z6
    obtain ⟨m, s, rfl, hm, hz3, hsm, hva⟩ := hrel
    have Z : Hid (PS w wr R S key s) := hz3
    have HV : Hid (Sm s ∧ val (67108864 : Int) 5 s % (1361129467683753853853498429727072845819 : Int) = pac (rK key) txt n m) := ⟨hsm, hva⟩
    clear hz3 hsm hva
    obtain ⟨fr, hfr⟩ : ∃ fr : Nat, fr = 16 * m := ⟨_, rfl⟩
    rw [← hfr]
    have HFR : Hid (fr = 16 * m) := hfr
    have hfn : fr ≤ n + 15 := by omega
    clear hfr hm
    by_cases hlt : fr < n
    · have hd : decide ((fr : Int) < n) = true := by simp; omega
      obtain ⟨tb, tt, tc, hv, hc1, hc2, hbs⟩ := Rd.bs HX.out.1 (by omega)
      injection hv with hv1 hv2 hv3
      subst hv1 hv3
      clear hv2
      obtain ⟨f16, hf16⟩ : ∃ q : Nat, (fr : Int) + 16 = q := ⟨fr + 16, by omega⟩
      have w16 := wrap_i (x := (f16 : Int)) (by omega) (by omega)
      obtain ⟨q, hq⟩ : ∃ q : Nat, q = min f16 n := ⟨_, rfl⟩
      have hmin : min (f16 : Int) (n : Int) = q := by omega
      obtain ⟨l, hl⟩ : ∃ l, l = pcL n m := ⟨_, rfl⟩
      have HL : Hid (l = pcL n m ∧ q - fr = l ∧ l ≤ 16 ∧ fr + l ≤ n ∧ q = min f16 n) := by
        have := HFR.out
        unfold pcL at hl
        show _ ∧ _ ∧ _ ∧ _ ∧ _
        unfold pcL
        omega
      obtain ⟨tf, htf⟩ : ∃ tf, tf = tt + fr := ⟨_, rfl⟩
      obtain ⟨cl, hcl⟩ : ∃ cl, cl = cap - fr := ⟨_, rfl⟩
      obtain ⟨f, hf⟩ : ∃ f : Nat → By, f = fun j => txt (fr + j) := ⟨_, rfl⟩
      have hsl : ∀ u, (Instr.sliceAt 25 (.slice (some ⟨tb, tt, none⟩) n cap) (some (.int .i64 (fr : Int))) (some (.int .i64 (q : Int))) none).run Try.prog u = .ok (.slice (some ⟨tb, tf, none⟩) l cl) u := fun u => by
        have h := run_sliceLH tb tt n cap fr q (by omega) (by omega) hc2 (by omega) u
        rwa [HL.out.2.1, ← htf, ← hcl] at h
      have HT : Hid (Bs w tb tf l f ∧ l ≤ 16) := by
        refine ⟨fun j hj => ?_, HL.out.2.2.1⟩
        have := hbs (fr + j) (by have := HL.out.2.2.2.1; omega)
        rw [htf, hf, Nat.add_assoc]
        exact this
      have HK : Hid ((∀ i, i < 5 → 0 ≤ s i ∧ s i ≤ 4294967296) ∧ (∀ i, i < 5 → 0 ≤ noF (mkF f l) i ∧ noF (mkF f l) i ≤ 4294967296) ∧ (∀ i, i < 5 → 0 ≤ addF s (noF (mkF f l)) i ∧ addF s (noF (mkF f l)) i ≤ 268435456) ∧ (∀ i, i < 5 → 0 ≤ noF (clF key) i ∧ noF (clF key) i ≤ 67108864) ∧ Sm (nxF (noF (clF key)) s f l) ∧
          val (67108864 : Int) 5 (nxF (noF (clF key)) s f l) % (1361129467683753853853498429727072845819 : Int) = pac (rK key) txt n (m + 1)) := by
        have h1 := nx_ok (key := key) (f := f) HV.out.1 HL.out.2.2.1
        have h2 := piece_val f HL.out.2.2.1
        have h3 := noF_val (f := mkF f l) (by rw [h2.1]; exact h2.2.2)
        refine ⟨fun i hi => by have := HV.out.1.le hi; omega, fun i hi => by have := h3.2 i hi; omega, h1.1, h1.2.1, h1.2.2.1, ?_⟩
        rw [h1.2.2.2, HV.out.2]
        have e : pcN txt n m = val 256 l (nmF f) + 256 ^ l := by unfold pcN; rw [← hl, hf, HFR.out]
        show _ = (pac (rK key) txt n m + pcN txt n m) * rK key % _
        rw [e]
      have HTF : Hid (tf = tt + fr ∧ cl = cap - fr) := ⟨htf, hcl⟩
      clear hq hl htf hcl hf hbs
      go_upto_region 6 with fail
      go_cut [8] from 17 to 24 (fun v8 wc => v8 = .slice (some ⟨tb, tf, none⟩) l cl ∧ wc = wr)
      case first =>
        go_wp2_with fail
        all_goals go_meet
        all_goals
          refine ⟨?_, rfl⟩
          have hl := HL.out
          rw [HTF.out.1, HTF.out.2]
          congr 1
          omega
      obtain ⟨rfl, hwc⟩ := hcut
      rw [hwc]
      clear hwc hsl wc
      obtain ⟨w5, hw5⟩ : ∃ w5, w5 = wr := ⟨_, rfl⟩
      rw [← hw5] at Z ⊢
      have Z5 : Hid (PS w w5 R S key s) := Z.out
      clear hw5 Z
      go_upto_region 7 with fail
      refine poly7_any (s := s) (key := key) (f := f) Z5.out.sum Z5.out.r (HT.out.1.chg Z5.out.chg) HT.out.2 HK.out.1 HK.out.2.1 HK.out.2.2.1 HK.out.2.2.2.1 ?_
      rintro u25 u26 u27 u28 u29 u30 u31 u ⟨w9, hc9, rfl⟩
      have Z8 : Hid (PS w (w9.setRow S (arr .u64 5 (nxF (noF (clF key)) s f l))) R S key (nxF (noF (clF key)) s f l)) := (Z5.out.to hc9).row _
      clear hc9 Z5
      go_wp2_with fail
      go_roundw
      case rel =>
        have hf' := HFR.out
        refine ⟨m + 1, _, by congr 1; omega, by omega, Z8.out, HK.out.2.2.2.2.1, HK.out.2.2.2.2.2⟩
      case measure => simp [intOf]; omega
    · have hd : decide ((fr : Int) < n) = false := by simp; omega
      have HK := (show Hid (_) from end_ok (key := key) HV.out.1 HV.out.2)
      have HM : Hid (m = (n + 15) / 16) := by have := HFR.out; show m = _; omega
      go_upto_region 8 with fail
      refine wp_region_vals 6 (fun j => match j with
        | 0 => .agg (arr .u64 5 s)
        | 1 => .agg (arr .u64 5 (leF s))
        | 2 => .agg (ba 32 key)
        | 3 => .agg (arr .u64 5 (noF (half key 16)))
        | 4 => .agg (arr .u64 5 (addF (leF s) (noF (half key 16))))
        | _ => .agg (ba 16 (byF (val (67108864 : Int) 5 (crD (addF (leF s) (noF (half key 16)))))))) (by kernel_rfl) (by kernel_rfl) (by kernel_rfl) (by kernel_rfl) (by kernel_rfl) (by kernel_rfl) ?_ ?_
      · intro i o a u hi ho hf hg hc
        have hcs : i = 0 ∨ i = 1 ∨ i = 2 ∨ i = 3 ∨ i = 4 ∨ i = 5 := by omega
        rcases hcs with rfl | rfl | rfl | rfl | rfl | rfl
        · injection ho with ho
          subst ho
          have e1 : a.eval (.tmp 6) = .pointer (some ⟨S, 0, none⟩) := hf 6 (by kernel_rfl)
          exact wp_load_mid 49 (.tmp 6) rfl _ _ e1 ((arr .u64 5 s).toList) _ (rangeI (Ar.chg (w := wr.drew) Z.out.sum hc)) und49 rfl (infoI _) ⟨rfl, Chg.refl _⟩
        · injection ho with ho
          subst ho
          have e1 : a.eval (.tmp 32) = .agg (arr .u64 5 s) := hg 0 (by kernel_rfl) (by decide)
          exact op_go 29 Try.f29 #[.tmp 32] #[49] rfl Try.func29 (by kernel_rfl) (by kernel_rfl) (by simp [e1]) (least_any s _ HK.out.1)
        · injection ho with ho
          subst ho
          have e1 : a.eval (.tmp 2) = .pointer (some ⟨w.heap.size, 0, none⟩) := hf 2 (by kernel_rfl)
          exact wp_load_mid 22 (.tmp 2) rfl _ _ e1 ((ba 32 key).toList) _ (rangeA (Ar.chg (w := wr.drew) Z.out.ky hc)) und22 rfl (info32 _) ⟨rfl, Chg.refl _⟩
        · injection ho with ho
          subst ho
          have e1 : a.eval (.tmp 34) = .agg (ba 32 key) := hg 2 (by kernel_rfl) (by decide)
          exact op_go 30 Try.f30 #[.tmp 34] #[22] rfl Try.func30 (by kernel_rfl) (by kernel_rfl) (by simp [e1]) (secondHalf_any key _)
        · injection ho with ho
          subst ho
          have e1 : a.eval (.tmp 33) = .agg (arr .u64 5 (leF s)) := hg 1 (by kernel_rfl) (by decide)
          have e2 : a.eval (.tmp 35) = .agg (arr .u64 5 (noF (half key 16))) := hg 3 (by kernel_rfl) (by decide)
          exact op_go 25 Try.f25 #[.tmp 33, .tmp 35] #[49, 49] rfl Try.func25 (by kernel_rfl) (by kernel_rfl) (by simp [e1, e2]) (added_any (leF s) (noF (half key 16)) _ HK.out.2.1 HK.out.2.2.1)
        · injection ho with ho
          subst ho
          have e1 : a.eval (.tmp 36) = .agg (arr .u64 5 (addF (leF s) (noF (half key 16)))) := hg 4 (by kernel_rfl) (by decide)
          exact op_go 28 Try.f28 #[.tmp 36] #[49] rfl Try.func28 (by kernel_rfl) (by kernel_rfl) (by simp [e1]) (bytesOf_any (addF (leF s) (noF (half key 16))) _ HK.out.2.2.2.1)
      · intro o u ho hc
        injection ho with ho
        subst ho
        have kk := Z.out.to ((Chg.refl wr).drew.trans hc)
        refine wp_store_mid 31 (.tmp 4) (.tmp 37) rfl (w.heap.size + 1) 0 (ba 16 (byF (val (67108864 : Int) 5 (crD (addF (leF s) (noF (half key 16))))))) rfl rfl (by rw [ba_size]; exact thereI kk.res) (by rw [ba_size]; exact i32) (ba_one _ _) ?_
        have e := setRowI kk.res i32 (fun i => ((byF (val (67108864 : Int) 5 (crD (addF (leF s) (noF (half key 16))))) i).toNat : Int))
        rw [show (ba 16 (byF (val (67108864 : Int) 5 (crD (addF (leF s) (noF (half key 16))))))) = arr .u8 16 (fun i => ((byF (val (67108864 : Int) 5 (crD (addF (leF s) (noF (half key 16))))) i).toNat : Int)) from rfl, e]
        go_wp2_with fail
        refine bp_c (n := 16) (c := ba 16 (byF (val (67108864 : Int) 5 (crD (addF (leF s) (noF (half key 16))))))) Try.results13 rfl rfl ?_ und32 i32 (ba_size _ _) ⟨?_, ?_⟩
        · exact kk.res.row _
        · have h5 := HK.out.2.2.2.2
          rw [h5, HM.out]
          rfl
        · exact kk.chg.setRow (by omega) _
end Go.Proofs.Ytkdidacebfkdmaa
