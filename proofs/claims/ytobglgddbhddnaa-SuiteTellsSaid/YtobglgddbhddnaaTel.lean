/-
  What a suite tells, and a record's nonce: both laws, walked.
-/
import Derived.Test.YtobglgddbhddnaaHed
import Derived.Test.YtobglgddbhddnaaNon
import Derived.Test.YtobglgddbhddnaaEqa
namespace Go.Proofs.Ytobglgddbhddnaa
open Go.RowKit
set_option linter.unusedVariables false


theorem run_eqN {t n : Nat} (hu : Try.prog.underlying t = some (.array n 5)) (hl : List.range' [0:n].start [0:n].size [0:n].step = List.range n) (f g : Nat → By) (d : Nat) (w : World) : (Op.equalIn (d + 2) t (.agg (ba n f)) (.agg (ba n g))).run Try.prog w = .ok ((List.range n).all fun i => f i == g i) w := by
  unfold Op.equalIn
  simp only [Sem.run_bind, run_underlying hu, Result.andThen_ok, size5, Nat.mul_one]
  rw [Std.Legacy.Range.forIn_eq_forIn_range', hl]
  have hm : ∀ i ∈ List.range n, i < n := fun i hi => List.mem_range.1 hi
  generalize List.range n = l at hm
  clear hl
  induction l generalizing w with
  | nil => simp
  | cons i l ih =>
    have hi := hm i (by simp)
    simp only [List.forIn_cons, Sem.run_bind, run_part5 n f hi, run_part5 n g hi, Result.andThen_ok, run_equalIn_int _ d 5 .u8 .u8 _ _ und5]
    have hb : (((f i).toNat : Int) == ((g i).toNat : Int)) = (f i == g i) := by
      by_cases h : f i = g i
      · simp [h]
      · have h2 : ¬ ((f i).toNat : Int) = ((g i).toNat : Int) := fun e => h (BitVec.eq_of_toNat_eq (by omega))
        rw [beq_false_of_ne h2, beq_false_of_ne h]
    rw [hb]
    cases hc : (f i == g i) with
    | true =>
      simp only [List.all_cons, hc, Bool.true_and, Bool.not_true, Bool.false_eq_true, if_false, Sem.run_pure, Result.andThen_ok]
      exact ih w (fun j hj => hm j (by simp [hj]))
    | false =>
      simp only [List.all_cons, hc, Bool.false_and, Bool.not_false, if_true, Sem.run_pure, Result.andThen_ok]

theorem all_self (n : Nat) (f : Nat → By) : ((List.range n).all fun i => f i == f i) = true := by
  rw [List.all_eq_true]
  intro i _
  exact beq_self_eq_true _

def eq12 (f g : Nat → By) : Bool := (List.range 12).all fun i => f i == g i
theorem run_eq12 (f g : Nat → By) (w : World) : (Op.equalIn 10000 24 (.agg (ba 12 f)) (.agg (ba 12 g))).run Try.prog w = .ok (eq12 f g) w := run_eqN und38 (by decide) f g 9998 w
theorem run_same12 (f : Nat → By) (w : World) : (Op.equalIn 10000 24 (.agg (ba 12 f)) (.agg (ba 12 f))).run Try.prog w = .ok true w := by rw [run_eq12, eq12, all_self]
theorem non_all {x y : Nat} (iv : Nat → By) (hx : x < 18446744073709551616) (hy : y < 18446744073709551616) : eq12 (nonF iv x) (nonF iv y) = ((x : Int) == (y : Int)) := by
  unfold eq12
  by_cases h : x = y
  · subst h
    rw [all_self]
    simp
  · have h2 : ((x : Int) == (y : Int)) = false := beq_false_of_ne (by omega)
    rw [h2]
    cases hb : ((List.range 12).all fun i => nonF iv x i == nonF iv y i) with
    | false => rfl
    | true =>
      exfalso
      refine h (non_inj iv hx hy fun j hj => ?_)
      have := (List.all_eq_true.1 hb) j (List.mem_range.2 hj)
      simpa using this

set_option maxRecDepth 100000 in
set_option maxHeartbeats 8000000 in
theorem tells_walk (s : Int) (iv : Nat → By) (x : Nat) (hx : x < 18446744073709551616) (w : World) : Calls Try.prog 3 #[.int .u16 s, .agg (ba 12 iv), .int .u64 (x : Int)] w fun r w' => r = .returned (.bool true) ∧ Chg w w' := by
  have HX : Hid (x < 18446744073709551616) := hx
  have hsA := ba_size 12 iv
  obtain ⟨A, hA⟩ : ∃ A, A = ba 12 iv := ⟨_, rfl⟩
  have HA : Hid (A = ba 12 iv) := hA
  rw [← hA] at hsA ⊢
  clear hA hx
  obtain ⟨k1, hk1⟩ : ∃ b, b = fndB s := ⟨_, rfl⟩
  obtain ⟨k2, hk2⟩ : ∃ b, b = shashF s := ⟨_, rfl⟩
  obtain ⟨k3, hk3⟩ : ∃ b, b = skeyLenF s := ⟨_, rfl⟩
  obtain ⟨k4, hk4⟩ : ∃ b, b = slimitF s := ⟨_, rfl⟩
  have H1 : Hid (∀ u, Calls Try.prog 6 #[.int .u16 s] u fun r w' => r = .returned (.bool k1) ∧ Chg u w') := fun u => by rw [hk1]; exact known_any s u
  have R1 : Hid (∀ u, Calls Try.prog 7 #[.int .u16 s] u fun r w' => r = .returned (.bool k1) ∧ Chg u w') := fun u => by rw [hk1]; exact knownR_any s u
  have H2 : Hid (∀ u, Calls Try.prog 8 #[.int .u16 s] u fun r w' => r = .returned (.int .i64 k2) ∧ Chg u w') := fun u => by rw [hk2]; exact shash_any s u
  have R2 : Hid (∀ u, Calls Try.prog 9 #[.int .u16 s] u fun r w' => r = .returned (.int .i64 k2) ∧ Chg u w') := fun u => by rw [hk2]; exact shashR_any s u
  have H3 : Hid (∀ u, Calls Try.prog 10 #[.int .u16 s] u fun r w' => r = .returned (.int .i64 k3) ∧ Chg u w') := fun u => by rw [hk3]; exact skeyLen_any s u
  have R3 : Hid (∀ u, Calls Try.prog 11 #[.int .u16 s] u fun r w' => r = .returned (.int .i64 k3) ∧ Chg u w') := fun u => by rw [hk3]; exact skeyLenR_any s u
  have H4 : Hid (∀ u, Calls Try.prog 12 #[.int .u16 s] u fun r w' => r = .returned (.int .u64 k4) ∧ Chg u w') := fun u => by rw [hk4]; exact slimit_any s u
  have R4 : Hid (∀ u, Calls Try.prog 13 #[.int .u16 s] u fun r w' => r = .returned (.int .u64 k4) ∧ Chg u w') := fun u => by rw [hk4]; exact slimitR_any s u
  clear hk1 hk2 hk3 hk4
  go_enter Try.func3, Try.ntmps3
  go_upto_region 1 with fail
  obtain ⟨w1, hw1⟩ : ∃ w1, w1 = w.alloc (.cells A 24) := ⟨_, rfl⟩
  have Z1 : Hid (Chg w w1 ∧ Ar w1 w.heap.size (ba 12 iv)) := by
    rw [hw1, HA.out]
    exact ⟨(Chg.refl w).alloc _, Ar.new w _ _⟩
  rw [← hw1]
  clear hw1 hsA HA
  go_upto_region 3 with (first | (go_at_call 5; refine (shead_any _).mono ?_; rintro r u0 ⟨rfl, c0⟩) | (go_at_call 6; refine (H1.out _).mono ?_; rintro r u1 ⟨rfl, c1⟩) | (go_at_call 7; refine (R1.out _).mono ?_; rintro r u2 ⟨rfl, c2⟩) | (go_at_call 8; refine (H2.out _).mono ?_; rintro r u3 ⟨rfl, c3⟩) | (go_at_call 9; refine (R2.out _).mono ?_; rintro r u4 ⟨rfl, c4⟩) | (go_at_call 10; refine (H3.out _).mono ?_; rintro r u5 ⟨rfl, c5⟩) | (go_at_call 11; refine (R3.out _).mono ?_; rintro r u6 ⟨rfl, c6⟩) | (go_at_call 12; refine (H4.out _).mono ?_; rintro r u7 ⟨rfl, c7⟩) | (go_at_call 13; refine (R4.out _).mono ?_; rintro r u8 ⟨rfl, c8⟩))
  obtain ⟨w2, hw2⟩ : ∃ w2, w2 = u8 := ⟨_, rfl⟩
  have Z2 : Hid (Chg w w2 ∧ Ar w2 w.heap.size (ba 12 iv)) := by
    rw [hw2]
    have hc := (((((((c0.trans c1).trans c2).trans c3).trans c4).trans c5).trans c6).trans c7).trans c8
    exact ⟨Z1.out.1.trans hc, Z1.out.2.chg hc⟩
  rw [← hw2]
  clear hw2 c0 c1 c2 c3 c4 c5 c6 c7 c8 H1 H2 H3 H4 R1 R2 R3 R4
  refine wp_region_good 13 (fun j v wg => match j with
    | 0 => v = .bool true
    | 1 => v = .bool true
    | 2 => v = .bool true
    | 3 => v = .bool true
    | 4 => v = .bool true
    | 5 => v = .agg (ba 12 iv)
    | 6 => v = .int .u64 (x : Int)
    | 7 => v = .agg (ba 12 (nonF iv x))
    | 8 => v = .agg (ba 12 iv)
    | 9 => v = .int .u64 (x : Int)
    | 10 => v = .agg (ba 12 (nonF iv x))
    | 11 => v = .bool true
    | 12 => v = .bool true
    | _ => True) (by kernel_rfl) (by kernel_rfl) (by kernel_rfl) (by kernel_rfl) (by kernel_rfl) ?_ ?_ ?_
  · intro j v u1 u2 h hc
    match j, h with
    | 0, h => exact h
    | 1, h => exact h
    | 2, h => exact h
    | 3, h => exact h
    | 4, h => exact h
    | 5, h => exact h
    | 6, h => exact h
    | 7, h => exact h
    | 8, h => exact h
    | 9, h => exact h
    | 10, h => exact h
    | 11, h => exact h
    | 12, h => exact h
    | _ + 13, h => exact trivial
  · intro i o ac u hi ho hsz hf hg hc
    have hcs : i = 0 ∨ i = 1 ∨ i = 2 ∨ i = 3 ∨ i = 4 ∨ i = 5 ∨ i = 6 ∨ i = 7 ∨ i = 8 ∨ i = 9 ∨ i = 10 ∨ i = 11 ∨ i = 12 := by omega
    rcases hcs with rfl | rfl | rfl | rfl | rfl | rfl | rfl | rfl | rfl | rfl | rfl | rfl | rfl
    · injection ho with ho
      subst ho
      refine .inl ⟨wanted_none rfl, ?_⟩
      have e1 : ac.eval (.tmp 7) = .bool true := hf 7 (by kernel_rfl)
      exact opG_val (by simp [execOp, e1]) rfl (Chg.refl _)
    · injection ho with ho
      subst ho
      refine .inl ⟨wanted_none rfl, ?_⟩
      have e1 : ac.eval (.tmp 36) = .bool true := hg 0 (by kernel_rfl) (by decide)
      exact opG_val (by simp [execOp, e1]) rfl (Chg.refl _)
    · injection ho with ho
      subst ho
      refine .inl ⟨wanted_by (T := _) (by kernel_rfl) hsz rfl (by decide : 1 < 13) rfl (hg 1 (by kernel_rfl) (by decide)), ?_⟩
      have e1 : ac.eval (.tmp 8) = .bool true := hf 8 (by kernel_rfl)
      exact opG_val (by simp [execOp, e1]) rfl (Chg.refl _)
    · injection ho with ho
      subst ho
      refine .inl ⟨wanted_none rfl, ?_⟩
      have e1 : ac.eval (.tmp 37) = .bool true := hg 1 (by kernel_rfl) (by decide)
      have e2 : ac.eval (.tmp 38) = .bool true := hg 2 (by kernel_rfl) (by decide)
      have e3 : ac.eval (.const (.bool false)) = .bool false := rfl
      exact opG_val (by revert e1 e2 e3; generalize ac.eval = ρ; intro e1 e2 e3; simp [go_sem, execOp, e1, e2, e3]) rfl (Chg.refl _)
    · injection ho with ho
      subst ho
      refine .inl ⟨wanted_none rfl, ?_⟩
      have e1 : ac.eval (.tmp 39) = .bool true := hg 3 (by kernel_rfl) (by decide)
      exact opG_val (by simp [execOp, e1]) rfl (Chg.refl _)
    · injection ho with ho
      subst ho
      refine .inl ⟨wanted_by (T := _) (by kernel_rfl) hsz rfl (by decide : 4 < 13) rfl (hg 4 (by kernel_rfl) (by decide)), ?_⟩
      have e1 : ac.eval (.tmp 4) = .pointer (some ⟨w.heap.size, 0, none⟩) := hf 4 (by kernel_rfl)
      exact wp_load_mid 24 (.tmp 4) rfl _ _ e1 ((ba 12 iv).toList) _ (range12S (Ar.chg (w := w2.drew) Z2.out.2 hc)) und38 rfl (info12S _) ⟨_, rfl, rfl, Chg.refl _⟩
    · injection ho with ho
      subst ho
      refine .inl ⟨wanted_by (T := _) (by kernel_rfl) hsz rfl (by decide : 4 < 13) rfl (hg 4 (by kernel_rfl) (by decide)), ?_⟩
      have e1 : ac.eval (.tmp 2) = .int .u64 (x : Int) := hf 2 (by kernel_rfl)
      exact opG_val (by simp [execOp, e1]) rfl (Chg.refl _)
    · injection ho with ho
      subst ho
      refine .inl ⟨wanted_by (T := _) (by kernel_rfl) hsz rfl (by decide : 4 < 13) rfl (hg 4 (by kernel_rfl) (by decide)), ?_⟩
      have e1 : ac.eval (.tmp 41) = .agg (ba 12 iv) := hg 5 (by kernel_rfl) (by decide)
      have e2 : ac.eval (.tmp 42) = .int .u64 (x : Int) := hg 6 (by kernel_rfl) (by decide)
      refine opG_go 14 Try.f14 #[.tmp 41, .tmp 42] #[24, 25] rfl Try.func14 (by kernel_rfl) (by kernel_rfl) (by simp [e1, e2]) (Calls.mono (nonce_any iv x HX.out _) ?_)
      rintro r u2 ⟨rfl, hc2⟩
      exact ⟨_, rfl, rfl, hc2⟩
    · injection ho with ho
      subst ho
      refine .inl ⟨wanted_by (T := _) (by kernel_rfl) hsz rfl (by decide : 4 < 13) rfl (hg 4 (by kernel_rfl) (by decide)), ?_⟩
      have e1 : ac.eval (.tmp 4) = .pointer (some ⟨w.heap.size, 0, none⟩) := hf 4 (by kernel_rfl)
      exact wp_load_mid 24 (.tmp 4) rfl _ _ e1 ((ba 12 iv).toList) _ (range12S (Ar.chg (w := w2.drew) Z2.out.2 hc)) und38 rfl (info12S _) ⟨_, rfl, rfl, Chg.refl _⟩
    · injection ho with ho
      subst ho
      refine .inl ⟨wanted_by (T := _) (by kernel_rfl) hsz rfl (by decide : 4 < 13) rfl (hg 4 (by kernel_rfl) (by decide)), ?_⟩
      have e1 : ac.eval (.tmp 2) = .int .u64 (x : Int) := hf 2 (by kernel_rfl)
      exact opG_val (by simp [execOp, e1]) rfl (Chg.refl _)
    · injection ho with ho
      subst ho
      refine .inl ⟨wanted_by (T := _) (by kernel_rfl) hsz rfl (by decide : 4 < 13) rfl (hg 4 (by kernel_rfl) (by decide)), ?_⟩
      have e1 : ac.eval (.tmp 44) = .agg (ba 12 iv) := hg 8 (by kernel_rfl) (by decide)
      have e2 : ac.eval (.tmp 45) = .int .u64 (x : Int) := hg 9 (by kernel_rfl) (by decide)
      refine opG_go 15 Try.f15 #[.tmp 44, .tmp 45] #[24, 25] rfl Try.func15 (by kernel_rfl) (by kernel_rfl) (by simp [e1, e2]) (Calls.mono (nonceR_any iv x HX.out _) ?_)
      rintro r u2 ⟨rfl, hc2⟩
      exact ⟨_, rfl, rfl, hc2⟩
    · injection ho with ho
      subst ho
      refine .inl ⟨wanted_by (T := _) (by kernel_rfl) hsz rfl (by decide : 4 < 13) rfl (hg 4 (by kernel_rfl) (by decide)), ?_⟩
      have e1 : ac.eval (.tmp 43) = .agg (ba 12 (nonF iv x)) := hg 7 (by kernel_rfl) (by decide)
      have e2 : ac.eval (.tmp 46) = .agg (ba 12 (nonF iv x)) := hg 10 (by kernel_rfl) (by decide)
      exact opG_val (by revert e1 e2; generalize ac.eval = ρ; intro e1 e2; simp [go_sem, execOp, e1, e2, run_same12]) rfl (Chg.refl _)
    · injection ho with ho
      subst ho
      refine .inl ⟨wanted_none rfl, ?_⟩
      have e1 : ac.eval (.tmp 40) = .bool true := hg 4 (by kernel_rfl) (by decide)
      have e2 : ac.eval (.tmp 47) = .bool true := hg 11 (by kernel_rfl) (by decide)
      have e3 : ac.eval (.const (.bool false)) = .bool false := rfl
      exact opG_val (by revert e1 e2 e3; generalize ac.eval = ρ; intro e1 e2 e3; simp [go_sem, execOp, e1, e2, e3]) rfl (Chg.refl _)
  · intro o u V ho hV hc
    injection ho with ho
    subst ho
    refine ⟨rfl, ?_⟩
    have q36 : V 0 = .bool true := hV 0 (by decide)
    have q37 : V 1 = .bool true := hV 1 (by decide)
    have q38 : V 2 = .bool true := hV 2 (by decide)
    have q39 : V 3 = .bool true := hV 3 (by decide)
    have q40 : V 4 = .bool true := hV 4 (by decide)
    have q41 : V 5 = .agg (ba 12 iv) := hV 5 (by decide)
    have q42 : V 6 = .int .u64 (x : Int) := hV 6 (by decide)
    have q43 : V 7 = .agg (ba 12 (nonF iv x)) := hV 7 (by decide)
    have q44 : V 8 = .agg (ba 12 iv) := hV 8 (by decide)
    have q45 : V 9 = .int .u64 (x : Int) := hV 9 (by decide)
    have q46 : V 10 = .agg (ba 12 (nonF iv x)) := hV 10 (by decide)
    have q47 : V 11 = .bool true := hV 11 (by decide)
    have q48 : V 12 = .bool true := hV 12 (by decide)
    refine op_asg (.tmp 48) (.bool true) rfl (Eq.trans (by rfl) q48) ?_
    go_wp2_with fail
    go_ret
    exact ⟨rfl, Z2.out.1.drew.trans hc⟩

set_option maxRecDepth 100000 in
set_option maxHeartbeats 8000000 in
theorem apart_walk (iv : Nat → By) (x y : Nat) (hx : x < 18446744073709551616) (hy : y < 18446744073709551616) (w : World) : Calls Try.prog 4 #[.agg (ba 12 iv), .int .u64 (x : Int), .int .u64 (y : Int)] w fun r w' => r = .returned (.bool true) ∧ Chg w w' := by
  have HX : Hid (x < 18446744073709551616 ∧ y < 18446744073709551616) := ⟨hx, hy⟩
  obtain ⟨bb, hbb⟩ : ∃ b : Bool, b = ((x : Int) == (y : Int)) := ⟨_, rfl⟩
  have HE : Hid (eq12 (nonF iv x) (nonF iv y) = bb) := by rw [hbb]; exact non_all iv hx hy
  have HB : Hid (((x : Int) == (y : Int)) = bb ∧ (x == y) = bb) := ⟨hbb.symm, by
    rw [hbb]
    by_cases h : x = y
    · subst h
      rw [beq_self_eq_true, beq_self_eq_true]
    · rw [beq_false_of_ne h, beq_false_of_ne (show (x : Int) ≠ (y : Int) by omega)]⟩
  clear hbb
  have hsA := ba_size 12 iv
  obtain ⟨A, hA⟩ : ∃ A, A = ba 12 iv := ⟨_, rfl⟩
  have HA : Hid (A = ba 12 iv) := hA
  rw [← hA] at hsA ⊢
  clear hA hx hy
  go_enter Try.func4, Try.ntmps4
  go_upto_region 1 with fail
  obtain ⟨w1, hw1⟩ : ∃ w1, w1 = w.alloc (.cells A 24) := ⟨_, rfl⟩
  have Z1 : Hid (Chg w w1 ∧ Ar w1 w.heap.size (ba 12 iv)) := by
    rw [hw1, HA.out]
    exact ⟨(Chg.refl w).alloc _, Ar.new w _ _⟩
  rw [← hw1]
  clear hw1 hsA HA
  go_upto_region 2 with (first | (go_at_call 5; refine (shead_any _).mono ?_; rintro r u0 ⟨rfl, c0⟩))
  obtain ⟨w2, hw2⟩ : ∃ w2, w2 = u0 := ⟨_, rfl⟩
  have Z2 : Hid (Chg w w2 ∧ Ar w2 w.heap.size (ba 12 iv)) := by
    rw [hw2]
    exact ⟨Z1.out.1.trans c0, Z1.out.2.chg c0⟩
  rw [← hw2]
  clear hw2 c0
  refine wp_region_good 14 (fun j v wg => match j with
    | 0 => v = .bool true
    | 1 => v = .bool true
    | 2 => v = .agg (ba 12 iv)
    | 3 => v = .int .u64 (x : Int)
    | 4 => v = .agg (ba 12 (nonF iv x))
    | 5 => v = .agg (ba 12 iv)
    | 6 => v = .int .u64 (y : Int)
    | 7 => v = .agg (ba 12 (nonF iv y))
    | 8 => v = .bool bb
    | 9 => v = .int .u64 (x : Int)
    | 10 => v = .int .u64 (y : Int)
    | 11 => v = .bool bb
    | 12 => v = .bool true
    | 13 => v = .bool true
    | _ => True) (by kernel_rfl) (by kernel_rfl) (by kernel_rfl) (by kernel_rfl) (by kernel_rfl) ?_ ?_ ?_
  · intro j v u1 u2 h hc
    match j, h with
    | 0, h => exact h
    | 1, h => exact h
    | 2, h => exact h
    | 3, h => exact h
    | 4, h => exact h
    | 5, h => exact h
    | 6, h => exact h
    | 7, h => exact h
    | 8, h => exact h
    | 9, h => exact h
    | 10, h => exact h
    | 11, h => exact h
    | 12, h => exact h
    | 13, h => exact h
    | _ + 14, h => exact trivial
  · intro i o ac u hi ho hsz hf hg hc
    have hcs : i = 0 ∨ i = 1 ∨ i = 2 ∨ i = 3 ∨ i = 4 ∨ i = 5 ∨ i = 6 ∨ i = 7 ∨ i = 8 ∨ i = 9 ∨ i = 10 ∨ i = 11 ∨ i = 12 ∨ i = 13 := by omega
    rcases hcs with rfl | rfl | rfl | rfl | rfl | rfl | rfl | rfl | rfl | rfl | rfl | rfl | rfl | rfl
    · injection ho with ho
      subst ho
      refine .inl ⟨wanted_none rfl, ?_⟩
      have e1 : ac.eval (.tmp 7) = .bool true := hf 7 (by kernel_rfl)
      exact opG_val (by simp [execOp, e1]) rfl (Chg.refl _)
    · injection ho with ho
      subst ho
      refine .inl ⟨wanted_none rfl, ?_⟩
      have e1 : ac.eval (.tmp 9) = .bool true := hg 0 (by kernel_rfl) (by decide)
      exact opG_val (by simp [execOp, e1]) rfl (Chg.refl _)
    · injection ho with ho
      subst ho
      refine .inl ⟨wanted_by (T := _) (by kernel_rfl) hsz rfl (by decide : 1 < 14) rfl (hg 1 (by kernel_rfl) (by decide)), ?_⟩
      have e1 : ac.eval (.tmp 3) = .pointer (some ⟨w.heap.size, 0, none⟩) := hf 3 (by kernel_rfl)
      exact wp_load_mid 24 (.tmp 3) rfl _ _ e1 ((ba 12 iv).toList) _ (range12S (Ar.chg (w := w2.drew) Z2.out.2 hc)) und38 rfl (info12S _) ⟨_, rfl, rfl, Chg.refl _⟩
    · injection ho with ho
      subst ho
      refine .inl ⟨wanted_by (T := _) (by kernel_rfl) hsz rfl (by decide : 1 < 14) rfl (hg 1 (by kernel_rfl) (by decide)), ?_⟩
      have e1 : ac.eval (.tmp 1) = .int .u64 (x : Int) := hf 1 (by kernel_rfl)
      exact opG_val (by simp [execOp, e1]) rfl (Chg.refl _)
    · injection ho with ho
      subst ho
      refine .inl ⟨wanted_by (T := _) (by kernel_rfl) hsz rfl (by decide : 1 < 14) rfl (hg 1 (by kernel_rfl) (by decide)), ?_⟩
      have e1 : ac.eval (.tmp 11) = .agg (ba 12 iv) := hg 2 (by kernel_rfl) (by decide)
      have e2 : ac.eval (.tmp 12) = .int .u64 (x : Int) := hg 3 (by kernel_rfl) (by decide)
      refine opG_go 14 Try.f14 #[.tmp 11, .tmp 12] #[24, 25] rfl Try.func14 (by kernel_rfl) (by kernel_rfl) (by simp [e1, e2]) (Calls.mono (nonce_any iv x HX.out.1 _) ?_)
      rintro r u2 ⟨rfl, hc2⟩
      exact ⟨_, rfl, rfl, hc2⟩
    · injection ho with ho
      subst ho
      refine .inl ⟨wanted_by (T := _) (by kernel_rfl) hsz rfl (by decide : 1 < 14) rfl (hg 1 (by kernel_rfl) (by decide)), ?_⟩
      have e1 : ac.eval (.tmp 3) = .pointer (some ⟨w.heap.size, 0, none⟩) := hf 3 (by kernel_rfl)
      exact wp_load_mid 24 (.tmp 3) rfl _ _ e1 ((ba 12 iv).toList) _ (range12S (Ar.chg (w := w2.drew) Z2.out.2 hc)) und38 rfl (info12S _) ⟨_, rfl, rfl, Chg.refl _⟩
    · injection ho with ho
      subst ho
      refine .inl ⟨wanted_by (T := _) (by kernel_rfl) hsz rfl (by decide : 1 < 14) rfl (hg 1 (by kernel_rfl) (by decide)), ?_⟩
      have e1 : ac.eval (.tmp 2) = .int .u64 (y : Int) := hf 2 (by kernel_rfl)
      exact opG_val (by simp [execOp, e1]) rfl (Chg.refl _)
    · injection ho with ho
      subst ho
      refine .inl ⟨wanted_by (T := _) (by kernel_rfl) hsz rfl (by decide : 1 < 14) rfl (hg 1 (by kernel_rfl) (by decide)), ?_⟩
      have e1 : ac.eval (.tmp 14) = .agg (ba 12 iv) := hg 5 (by kernel_rfl) (by decide)
      have e2 : ac.eval (.tmp 15) = .int .u64 (y : Int) := hg 6 (by kernel_rfl) (by decide)
      refine opG_go 14 Try.f14 #[.tmp 14, .tmp 15] #[24, 25] rfl Try.func14 (by kernel_rfl) (by kernel_rfl) (by simp [e1, e2]) (Calls.mono (nonce_any iv y HX.out.2 _) ?_)
      rintro r u2 ⟨rfl, hc2⟩
      exact ⟨_, rfl, rfl, hc2⟩
    · injection ho with ho
      subst ho
      refine .inl ⟨wanted_by (T := _) (by kernel_rfl) hsz rfl (by decide : 1 < 14) rfl (hg 1 (by kernel_rfl) (by decide)), ?_⟩
      have e1 : ac.eval (.tmp 13) = .agg (ba 12 (nonF iv x)) := hg 4 (by kernel_rfl) (by decide)
      have e2 : ac.eval (.tmp 16) = .agg (ba 12 (nonF iv y)) := hg 7 (by kernel_rfl) (by decide)
      exact opG_val (by revert e1 e2; generalize ac.eval = ρ; intro e1 e2; simp [go_sem, execOp, e1, e2, run_eq12, HE.out]) rfl (Chg.refl _)
    · injection ho with ho
      subst ho
      refine .inl ⟨wanted_by (T := _) (by kernel_rfl) hsz rfl (by decide : 1 < 14) rfl (hg 1 (by kernel_rfl) (by decide)), ?_⟩
      have e1 : ac.eval (.tmp 1) = .int .u64 (x : Int) := hf 1 (by kernel_rfl)
      exact opG_val (by simp [execOp, e1]) rfl (Chg.refl _)
    · injection ho with ho
      subst ho
      refine .inl ⟨wanted_by (T := _) (by kernel_rfl) hsz rfl (by decide : 1 < 14) rfl (hg 1 (by kernel_rfl) (by decide)), ?_⟩
      have e1 : ac.eval (.tmp 2) = .int .u64 (y : Int) := hf 2 (by kernel_rfl)
      exact opG_val (by simp [execOp, e1]) rfl (Chg.refl _)
    · injection ho with ho
      subst ho
      refine .inl ⟨wanted_by (T := _) (by kernel_rfl) hsz rfl (by decide : 1 < 14) rfl (hg 1 (by kernel_rfl) (by decide)), ?_⟩
      have e1 : ac.eval (.tmp 18) = .int .u64 (x : Int) := hg 9 (by kernel_rfl) (by decide)
      have e2 : ac.eval (.tmp 19) = .int .u64 (y : Int) := hg 10 (by kernel_rfl) (by decide)
      exact opG_val (by revert e1 e2; generalize ac.eval = ρ; intro e1 e2; simp [go_sem, execOp, e1, e2, HB.out.1]) rfl (Chg.refl _)
    · injection ho with ho
      subst ho
      refine .inl ⟨wanted_by (T := _) (by kernel_rfl) hsz rfl (by decide : 1 < 14) rfl (hg 1 (by kernel_rfl) (by decide)), ?_⟩
      have e1 : ac.eval (.tmp 17) = .bool bb := hg 8 (by kernel_rfl) (by decide)
      have e2 : ac.eval (.tmp 20) = .bool bb := hg 11 (by kernel_rfl) (by decide)
      exact opG_val (by revert e1 e2; generalize ac.eval = ρ; intro e1 e2; simp [go_sem, execOp, e1, e2]) rfl (Chg.refl _)
    · injection ho with ho
      subst ho
      refine .inl ⟨wanted_none rfl, ?_⟩
      have e1 : ac.eval (.tmp 10) = .bool true := hg 1 (by kernel_rfl) (by decide)
      have e2 : ac.eval (.tmp 21) = .bool true := hg 12 (by kernel_rfl) (by decide)
      have e3 : ac.eval (.const (.bool false)) = .bool false := rfl
      exact opG_val (by revert e1 e2 e3; generalize ac.eval = ρ; intro e1 e2 e3; simp [go_sem, execOp, e1, e2, e3]) rfl (Chg.refl _)
  · intro o u V ho hV hc
    injection ho with ho
    subst ho
    refine ⟨rfl, ?_⟩
    have q9 : V 0 = .bool true := hV 0 (by decide)
    have q10 : V 1 = .bool true := hV 1 (by decide)
    have q11 : V 2 = .agg (ba 12 iv) := hV 2 (by decide)
    have q12 : V 3 = .int .u64 (x : Int) := hV 3 (by decide)
    have q13 : V 4 = .agg (ba 12 (nonF iv x)) := hV 4 (by decide)
    have q14 : V 5 = .agg (ba 12 iv) := hV 5 (by decide)
    have q15 : V 6 = .int .u64 (y : Int) := hV 6 (by decide)
    have q16 : V 7 = .agg (ba 12 (nonF iv y)) := hV 7 (by decide)
    have q17 : V 8 = .bool bb := hV 8 (by decide)
    have q18 : V 9 = .int .u64 (x : Int) := hV 9 (by decide)
    have q19 : V 10 = .int .u64 (y : Int) := hV 10 (by decide)
    have q20 : V 11 = .bool bb := hV 11 (by decide)
    have q21 : V 12 = .bool true := hV 12 (by decide)
    have q22 : V 13 = .bool true := hV 13 (by decide)
    refine op_asg (.tmp 22) (.bool true) rfl (Eq.trans (by rfl) q22) ?_
    go_wp2_with fail
    go_ret
    exact ⟨rfl, Z2.out.1.drew.trans hc⟩

theorem tells_int (s z : Int) (iv : Nat → By) (hz : 0 ≤ z ∧ z < 18446744073709551616) (w : World) : Calls Try.prog 3 #[.int .u16 s, .agg (ba 12 iv), .int .u64 z] w fun r w' => r = .returned (.bool true) ∧ Chg w w' := by
  obtain ⟨x, rfl⟩ : ∃ x : Nat, z = x := ⟨z.toNat, by omega⟩
  exact tells_walk s iv x (by omega) w
theorem apart_int (z y : Int) (iv : Nat → By) (hz : 0 ≤ z ∧ z < 18446744073709551616) (hy : 0 ≤ y ∧ y < 18446744073709551616) (w : World) : Calls Try.prog 4 #[.agg (ba 12 iv), .int .u64 z, .int .u64 y] w fun r w' => r = .returned (.bool true) ∧ Chg w w' := by
  obtain ⟨x, rfl⟩ : ∃ x : Nat, z = x := ⟨z.toNat, by omega⟩
  obtain ⟨q, rfl⟩ : ∃ q : Nat, y = q := ⟨y.toNat, by omega⟩
  exact apart_walk iv x q (by omega) (by omega) w
end Go.Proofs.Ytobglgddbhddnaa
