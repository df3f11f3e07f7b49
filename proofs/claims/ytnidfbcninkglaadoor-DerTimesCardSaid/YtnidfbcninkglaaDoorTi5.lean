/-
  A time read.
-/
import Derived.Test.YtnidfbcninkglaaDoorTi4
namespace Go.Proofs.YtnidfbcninkglaaDoor
open Go.RowKit
set_option linter.unusedVariables false
set_option maxRecDepth 100000

def timL (ts : List Int) : Int × Int :=
  match ts with
  | [t0, t1, t2, t3, t4, t5, t6, t7, t8, t9, t10, t11, t12, t13, t14] => if okT [t0, t1, t2, t3, t4, t5, t6, t7, t8, t9, t10, t11, t12, t13, t14] && rightB (100 * twoI t0 t1 + twoI t2 t3) (twoI t4 t5) (twoI t6 t7) (twoI t8 t9) (twoI t10 t11) (twoI t12 t13) then
      (secT (100 * twoI t0 t1 + twoI t2 t3) (twoI t4 t5) (twoI t6 t7) (twoI t8 t9) (twoI t10 t11) (twoI t12 t13), 0) else (0, 144)
  | _ => (0, 144)
def lng (t : Int) (xs : List Int) : List Int := if t = 23 ∧ xs.length = 13 then (if xs.headD 0 < 53 then 50 :: 48 :: xs else 49 :: 57 :: xs) else if t = 24 ∧ xs.length = 15 then xs else [0, 0, 0, 0, 0, 0, 0, 0, 0, 0, 0, 0, 0, 0, 0]
def tim (t : Int) (xs : List Int) : Int × Int := timL (lng t xs)

theorem timL_eq (t0 t1 t2 t3 t4 t5 t6 t7 t8 t9 t10 t11 t12 t13 t14 : Int) : timL [t0, t1, t2, t3, t4, t5, t6, t7, t8, t9, t10, t11, t12, t13, t14] = if okT [t0, t1, t2, t3, t4, t5, t6, t7, t8, t9, t10, t11, t12, t13, t14] && rightB (100 * twoI t0 t1 + twoI t2 t3) (twoI t4 t5) (twoI t6 t7) (twoI t8 t9) (twoI t10 t11) (twoI t12 t13) then
      (secT (100 * twoI t0 t1 + twoI t2 t3) (twoI t4 t5) (twoI t6 t7) (twoI t8 t9) (twoI t10 t11) (twoI t12 t13), 0) else (0, 144) := rfl
theorem lt_dflt (t : Int) (v : Value) (xs : List Int) (w : World) (hv : Rd w v xs) (h1 : ¬ (t = 23 ∧ xs.length = 13)) (h2 : ¬ (t = 24 ∧ xs.length = 15)) :
    Calls Tryd.prog 46 #[.int .u8 t, v] w fun e w' => LtP w w' e [0, 0, 0, 0, 0, 0, 0, 0, 0, 0, 0, 0, 0, 0, 0] (arrV 0 0 0 0 0 0 0 0 0 0 0 0 0 0 0) := by
  obtain ⟨ao, n, c, rfl, hn, -, -, -, -⟩ := hv
  rw [← hn] at h1 h2
  have HO : Hid (okT [0, 0, 0, 0, 0, 0, 0, 0, 0, 0, 0, 0, 0, 0, 0] = false) := (by decide : okT [0, 0, 0, 0, 0, 0, 0, 0, 0, 0, 0, 0, 0, 0, 0] = false)
  unfold arrV
  clear hn
  by_cases h23 : t = 23
  · subst h23
    have d13 : ((n : Int) == 13) = false := by simp; omega
    clear h1 h2
    go_enter Tryd.func46, Tryd.ntmps46
    go_wp2
    refine bodyPost_ret (v := .tuple #[.agg #[.int .u8 0, .int .u8 0, .int .u8 0, .int .u8 0, .int .u8 0, .int .u8 0, .int .u8 0, .int .u8 0, .int .u8 0, .int .u8 0, .int .u8 0, .int .u8 0, .int .u8 0, .int .u8 0, .int .u8 0], .bool false]) ?_ rfl ⟨by rw [HO.out], (Chg.refl _ _).alloc _⟩
    simp [results, Tryd.results46, go_sem]
  · have d1 : (t == 23) = false := by simpa using h23
    by_cases h24 : t = 24
    · subst h24
      have d15 : ((n : Int) == 15) = false := by simp; omega
      clear h1 h2 d1 h23
      go_enter Tryd.func46, Tryd.ntmps46
      go_wp2
      refine bodyPost_ret (v := .tuple #[.agg #[.int .u8 0, .int .u8 0, .int .u8 0, .int .u8 0, .int .u8 0, .int .u8 0, .int .u8 0, .int .u8 0, .int .u8 0, .int .u8 0, .int .u8 0, .int .u8 0, .int .u8 0, .int .u8 0, .int .u8 0], .bool false]) ?_ rfl ⟨by rw [HO.out], (Chg.refl _ _).alloc _⟩
      simp [results, Tryd.results46, go_sem]
    · have d2 : (t == 24) = false := by simpa using h24
      clear h1 h2 h23 h24
      go_enter Tryd.func46, Tryd.ntmps46
      go_wp2
      refine bodyPost_ret (v := .tuple #[.agg #[.int .u8 0, .int .u8 0, .int .u8 0, .int .u8 0, .int .u8 0, .int .u8 0, .int .u8 0, .int .u8 0, .int .u8 0, .int .u8 0, .int .u8 0, .int .u8 0, .int .u8 0, .int .u8 0, .int .u8 0], .bool false]) ?_ rfl ⟨by rw [HO.out], (Chg.refl _ _).alloc _⟩
      simp [results, Tryd.results46, go_sem]

theorem okT_dg {t0 t1 t2 t3 t4 t5 t6 t7 t8 t9 t10 t11 t12 t13 t14 : Int} (h : okT [t0, t1, t2, t3, t4, t5, t6, t7, t8, t9, t10, t11, t12, t13, t14] = true) : 48 ≤ t0 ∧ t0 ≤ 57 ∧ 48 ≤ t1 ∧ t1 ≤ 57 ∧ 48 ≤ t2 ∧ t2 ≤ 57 ∧ 48 ≤ t3 ∧ t3 ≤ 57 ∧ 48 ≤ t4 ∧ t4 ≤ 57 ∧ 48 ≤ t5 ∧ t5 ≤ 57 ∧ 48 ≤ t6 ∧ t6 ≤ 57 ∧ 48 ≤ t7 ∧ t7 ≤ 57 ∧ 48 ≤ t8 ∧ t8 ≤ 57 ∧ 48 ≤ t9 ∧ t9 ≤ 57 ∧ 48 ≤ t10 ∧ t10 ≤ 57 ∧ 48 ≤ t11 ∧ t11 ≤ 57 ∧ 48 ≤ t12 ∧ t12 ≤ 57 ∧ 48 ≤ t13 ∧ t13 ≤ 57 := by
  simp [okT, isDg] at h
  omega
theorem twoI_bd {x y : Int} (h1 : 48 ≤ x) (h2 : x ≤ 57) (h3 : 48 ≤ y) (h4 : y ≤ 57) : 0 ≤ twoI x y ∧ twoI x y ≤ 99 := by unfold twoI; omega
theorem rightB_out {y m d h i s : Int} (e : rightB y m d h i s = true) : 1 ≤ y ∧ 1 ≤ m ∧ m ≤ 12 ∧ 1 ≤ d ∧ d ≤ dimI y m ∧ h ≤ 23 ∧ i ≤ 59 ∧ s ≤ 59 := by
  simpa [rightB, and_assoc] using e

theorem cells6 {w w' : World} {a b c d e f : Value} (h : Chg Non (w.alloc (.cells #[a, b, c, d, e, f] 84)) w') :
    w'.cell? ⟨w.heap.size, 0, none⟩ = some a ∧ w'.cell? ⟨w.heap.size, 1, none⟩ = some b ∧ w'.cell? ⟨w.heap.size, 2, none⟩ = some c ∧ w'.cell? ⟨w.heap.size, 3, none⟩ = some d ∧ w'.cell? ⟨w.heap.size, 4, none⟩ = some e ∧ w'.cell? ⟨w.heap.size, 5, none⟩ = some f := by
  have hb := h.block w.heap.size (by simp) (fun x => x)
  refine ⟨?_, ?_, ?_, ?_, ?_, ?_⟩
  all_goals
    rw [World.cell?_of_block hb]
    simp

set_option maxHeartbeats 6400000 in
theorem time_of (t0 t1 t2 t3 t4 t5 t6 t7 t8 t9 t10 t11 t12 t13 t14 : Int) (t : Int) (v : Value) (w : World) (HL : Hid (Calls Tryd.prog 46 #[.int .u8 t, v] w fun e w' => LtP w w' e [t0, t1, t2, t3, t4, t5, t6, t7, t8, t9, t10, t11, t12, t13, t14] (arrV t0 t1 t2 t3 t4 t5 t6 t7 t8 t9 t10 t11 t12 t13 t14))) :
    Calls Tryd.prog 26 #[.int .u8 t, v] w fun e w' => e = .returned (.tuple #[.int .i64 (timL [t0, t1, t2, t3, t4, t5, t6, t7, t8, t9, t10, t11, t12, t13, t14]).1, .int .i64 (timL [t0, t1, t2, t3, t4, t5, t6, t7, t8, t9, t10, t11, t12, t13, t14]).2]) ∧ Chg Non w w' := by
  obtain ⟨q, hq⟩ : ∃ q, okT [t0, t1, t2, t3, t4, t5, t6, t7, t8, t9, t10, t11, t12, t13, t14] = q := ⟨_, rfl⟩
  cases q
  · have E : timL [t0, t1, t2, t3, t4, t5, t6, t7, t8, t9, t10, t11, t12, t13, t14] = (0, 144) := by rw [timL_eq, hq]; rfl
    rw [E]
    clear E
    have HQ : Hid (okT [t0, t1, t2, t3, t4, t5, t6, t7, t8, t9, t10, t11, t12, t13, t14] = false) := hq
    clear hq
    go_enter Tryd.func26, Tryd.ntmps26
    go_wp2_with (go_at_call 46; refine HL.out.mono ?_; rintro e w1 ⟨rfl, hc⟩; rw [HQ.out]; unfold arrV; have HC : Hid (Chg Non w w1) := hc; clear hc)
    go_ret2
    exact ⟨rfl, HC.out.alloc _⟩
  · obtain ⟨l0, u0, l1, u1, l2, u2, l3, u3, l4, u4, l5, u5, l6, u6, l7, u7, l8, u8, l9, u9, l10, u10, l11, u11, l12, u12, l13, u13⟩ := okT_dg hq
    have HM := momentOf_any t0 t1 t2 t3 t4 t5 t6 t7 t8 t9 t10 t11 t12 t13 t14 l0 u0 l1 u1 l2 u2 l3 u3 l4 u4 l5 u5 l6 u6 l7 u7 l8 u8 l9 u9 l10 u10 l11 u11 l12 u12 l13 u13
    have bY1 := twoI_bd l0 u0 l1 u1
    have bY2 := twoI_bd l2 u2 l3 u3
    have bM := twoI_bd l4 u4 l5 u5
    have bD := twoI_bd l6 u6 l7 u7
    have bH := twoI_bd l8 u8 l9 u9
    have bI := twoI_bd l10 u10 l11 u11
    have bS := twoI_bd l12 u12 l13 u13
    have ET : timL [t0, t1, t2, t3, t4, t5, t6, t7, t8, t9, t10, t11, t12, t13, t14] = if rightB (100 * twoI t0 t1 + twoI t2 t3) (twoI t4 t5) (twoI t6 t7) (twoI t8 t9) (twoI t10 t11) (twoI t12 t13) then
      (secT (100 * twoI t0 t1 + twoI t2 t3) (twoI t4 t5) (twoI t6 t7) (twoI t8 t9) (twoI t10 t11) (twoI t12 t13), 0) else (0, 144) := by rw [timL_eq, hq]; rfl
    rw [ET]
    clear ET
    obtain ⟨Y, hY⟩ : ∃ Y, Y = 100 * twoI t0 t1 + twoI t2 t3 := ⟨_, rfl⟩
    have bY : 0 ≤ Y ∧ Y ≤ 9999 := by omega
    rw [← hY] at HM ⊢
    clear hY bY1 bY2
    generalize twoI t4 t5 = M at HM bM ⊢
    generalize twoI t6 t7 = D at HM bD ⊢
    generalize twoI t8 t9 = H at HM bH ⊢
    generalize twoI t10 t11 = I at HM bI ⊢
    generalize twoI t12 t13 = S at HM bS ⊢
    clear l0 u0 l1 u1 l2 u2 l3 u3 l4 u4 l5 u5 l6 u6 l7 u7 l8 u8 l9 u9 l10 u10 l11 u11 l12 u12 l13 u13
    unfold arrV at HM
    have HM' : Hid (∀ u, Calls Tryd.prog 47 #[.agg #[.int .u8 t0, .int .u8 t1, .int .u8 t2, .int .u8 t3, .int .u8 t4, .int .u8 t5, .int .u8 t6, .int .u8 t7, .int .u8 t8, .int .u8 t9, .int .u8 t10, .int .u8 t11, .int .u8 t12, .int .u8 t13, .int .u8 t14]] u fun e w' => e = .returned (momV Y M D H I S) ∧ Chg Non u w') := HM
    clear HM
    have HQ : Hid (okT [t0, t1, t2, t3, t4, t5, t6, t7, t8, t9, t10, t11, t12, t13, t14] = true) := hq
    clear hq
    obtain ⟨r, hr⟩ : ∃ r, rightB Y M D H I S = r := ⟨_, rfl⟩
    have HR : Hid (∀ u, Calls Tryd.prog 48 #[.agg #[.int .i64 Y, .int .i64 M, .int .i64 D, .int .i64 H, .int .i64 I, .int .i64 S]] u fun e w' => e = .returned (.bool r) ∧ Chg Non u w') := fun u => by
      rw [← hr]
      exact right_any Y M D H I S bY.1 u
    rw [hr]
    cases r
    · clear hr bY bM bD bH bI bS
      show Calls _ _ _ _ fun e w' => e = .returned (.tuple #[.int .i64 0, .int .i64 144]) ∧ _
      go_enter Tryd.func26, Tryd.ntmps26
      go_wp2_with (first | (go_at_call 46; refine HL.out.mono ?_; rintro e w1 ⟨rfl, hc⟩; rw [HQ.out]; unfold arrV; have HC : Hid (Chg Non w w1) := hc; clear hc) | (go_at_call 47; refine (HM'.out _).mono ?_; rintro e w2 ⟨rfl, hc⟩; unfold momV; have HC2 : Hid (Chg Non _ w2) := hc; clear hc) | (go_at_call 48; refine (HR.out _).mono ?_; rintro e w3 ⟨rfl, hc⟩; have HC3 : Hid (Chg Non _ w3) := hc; clear hc))
      go_ret2
      exact ⟨rfl, (((HC.out.alloc _).two HC2.out).alloc _).two HC3.out⟩
    · obtain ⟨r1, r2, r3, r4, r5, r6, r7, r8⟩ := rightB_out hr
      have hD31 := dim_bd Y M
      have HS : Hid (∀ u, Calls Tryd.prog 49 #[.agg #[.int .i64 Y, .int .i64 M, .int .i64 D, .int .i64 H, .int .i64 I, .int .i64 S]] u fun e w' => e = .returned (.int .i64 (secT Y M D H I S)) ∧ Chg Non u w') :=
        fun u => seconds_any Y M D H I S r1 bY.2 r2 r3 r4 (by omega) bH.1 r6 bI.1 r7 bS.1 r8 u
      generalize secT Y M D H I S = Z at HS ⊢
      clear hr bY bM bD bH bI bS r1 r2 r3 r4 r5 r6 r7 r8 hD31
      show Calls _ _ _ _ fun e w' => e = .returned (.tuple #[.int .i64 Z, .int .i64 0]) ∧ _
      go_enter Tryd.func26, Tryd.ntmps26
      go_wp2_with (first | (go_at_call 46; refine HL.out.mono ?_; rintro e w1 ⟨rfl, hc⟩; rw [HQ.out]; unfold arrV; have HC : Hid (Chg Non w w1) := hc; clear hc) | (go_at_call 47; refine (HM'.out _).mono ?_; rintro e w2 ⟨rfl, hc⟩; unfold momV; have HC2 : Hid (Chg Non _ w2) := hc; clear hc) | (go_at_call 48; refine (HR.out _).mono ?_; rintro e w3 ⟨rfl, hc⟩; obtain ⟨q0, q1, q2, q3, q4, q5⟩ := cells6 hc; have HC3 : Hid (Chg Non _ w3) := hc; clear hc) | (go_at_call 49; refine (HS.out _).mono ?_; rintro e w4 ⟨rfl, hc⟩; have HC4 : Hid (Chg Non _ w4) := hc; clear hc))
      go_ret2
      exact ⟨rfl, ((((HC.out.alloc _).two HC2.out).alloc _).two HC3.out).two HC4.out⟩

theorem list13 {xs : List Int} (h : xs.length = 13) : ∃ t2 t3 t4 t5 t6 t7 t8 t9 t10 t11 t12 t13 t14, xs = [t2, t3, t4, t5, t6, t7, t8, t9, t10, t11, t12, t13, t14] := by
  match xs, h with
  | [t2, t3, t4, t5, t6, t7, t8, t9, t10, t11, t12, t13, t14], _ => exact ⟨_, _, _, _, _, _, _, _, _, _, _, _, _, rfl⟩
theorem list15 {xs : List Int} (h : xs.length = 15) : ∃ t0 t1 t2 t3 t4 t5 t6 t7 t8 t9 t10 t11 t12 t13 t14, xs = [t0, t1, t2, t3, t4, t5, t6, t7, t8, t9, t10, t11, t12, t13, t14] := by
  match xs, h with
  | [t0, t1, t2, t3, t4, t5, t6, t7, t8, t9, t10, t11, t12, t13, t14], _ => exact ⟨_, _, _, _, _, _, _, _, _, _, _, _, _, _, _, rfl⟩
theorem time_any (t : Int) (v : Value) (xs : List Int) (w : World) (hv : Rd w v xs) :
    Calls Tryd.prog 26 #[.int .u8 t, v] w fun e w' => e = .returned (.tuple #[.int .i64 (tim t xs).1, .int .i64 (tim t xs).2]) ∧ Chg Non w w' := by
  unfold tim lng
  by_cases h1 : t = 23 ∧ xs.length = 13
  · rw [if_pos h1]
    obtain ⟨rfl, hl⟩ := h1
    obtain ⟨t2, t3, t4, t5, t6, t7, t8, t9, t10, t11, t12, t13, t14, rfl⟩ := list13 hl
    by_cases h2 : t2 < 53
    · rw [if_pos (show List.headD [t2, t3, t4, t5, t6, t7, t8, t9, t10, t11, t12, t13, t14] 0 < 53 from h2)]
      exact time_of _ _ _ _ _ _ _ _ _ _ _ _ _ _ _ _ _ _ (lt_s20 _ _ _ _ _ _ _ _ _ _ _ _ _ _ _ rfl rfl h2 v w hv)
    · rw [if_neg (show ¬ List.headD [t2, t3, t4, t5, t6, t7, t8, t9, t10, t11, t12, t13, t14] 0 < 53 from h2)]
      exact time_of _ _ _ _ _ _ _ _ _ _ _ _ _ _ _ _ _ _ (lt_s19 _ _ _ _ _ _ _ _ _ _ _ _ _ _ _ rfl rfl (by omega) v w hv)
  · rw [if_neg h1]
    by_cases h2 : t = 24 ∧ xs.length = 15
    · rw [if_pos h2]
      obtain ⟨rfl, hl⟩ := h2
      obtain ⟨t0, t1, t2, t3, t4, t5, t6, t7, t8, t9, t10, t11, t12, t13, t14, rfl⟩ := list15 hl
      exact time_of _ _ _ _ _ _ _ _ _ _ _ _ _ _ _ _ _ _ (lt_long _ _ _ _ _ _ _ _ _ _ _ _ _ _ _ v w hv)
    · rw [if_neg h2]
      exact time_of _ _ _ _ _ _ _ _ _ _ _ _ _ _ _ _ _ _ (lt_dflt t v xs w hv h1 h2)
end Go.Proofs.YtnidfbcninkglaaDoor
