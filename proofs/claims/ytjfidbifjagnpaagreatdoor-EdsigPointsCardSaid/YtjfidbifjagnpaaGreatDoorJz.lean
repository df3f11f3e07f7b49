/-
The x that a y has, the point that bytes tell, the base point: the document.
-/
import Derived.Test.YtjfidbifjagnpaaGreatDoorDe
import Derived.Test.YtjfidbifjagnpaaGreatDoorJr
import Derived.Test.YtjfidbifjagnpaaGreatDoorJg
import Derived.Test.YtjfidbifjagnpaaGreatDoorJx
namespace Go.Proofs.YtjfidbifjagnpaaGreatDoor
open Go.RowKit
set_option linter.unusedVariables false
set_option maxRecDepth 100000
theorem N_mo1 : N256 (mo 1) := ⟨by decide +kernel, by decide +kernel⟩
theorem op_not {o : Oper} {a : Act} {w : World} {K : Act → World → Prop} {Q : Exit → Act → World → Prop} (c : Operand) (cb : Bool) (ho : o.op = .unOp .not 4 c) (hc : a.eval c = .bool cb) (hK : K (a.put o.dst (.bool (!cb))) w) : o.wp Tryz.prog a w K Q := by
 refine op_val1 (v := .bool (!cb)) ?_ hK
 revert hc
 generalize a.eval = ρ
 intro hc
 simp [go_sem, execOp, ho, hc]
def wx (y : Int) (o : Bool) : Int := if wi y o then xBit y o else 0
def wy (y : Int) (o : Bool) : Int := if wi y o then y else 0
def wz (y : Int) (o : Bool) : Int := if wi y o then 1 else 0
theorem w_0 {y : Int} {o : Bool} (h : wi y o = false) : q3 (wx y o) (wy y o) (wz y o) = q3 0 0 0 := by unfold wx wy wz; rw [h]; rfl
theorem w_1 {y : Int} {o : Bool} (h : wi y o = true) : q3 (wx y o) (wy y o) (wz y o) = q3 (xBit y o) y 1 := by unfold wx wy wz; rw [h]; rfl
set_option maxHeartbeats 16000000 in
theorem withF_any (y : Int) (bo : Bool) (hy : N256 y) (w : World) : Calls Tryz.prog 57 #[.agg (num y), .bool bo, .agg (num (dN : Int))] w fun r w' => r = .returned (.tuple #[.agg (q3 (wx y bo) (wy y bo) (wz y bo)), .bool (wi y bo)]) ∧ Chg w w' := by
 have HN : Hid (N256 y) := hy
 have hz := zeroP3.1
 have hsA := num_size y
 have hsD := num_size (dN : Int)
 obtain ⟨A, hA⟩ : ∃ A, A = num y := ⟨_, rfl⟩
 obtain ⟨D, hD⟩ : ∃ D, D = num (dN : Int) := ⟨_, rfl⟩
 have HA : Hid (A = num y) := hA
 have HD : Hid (D = num (dN : Int)) := hD
 rw [← hA] at hsA ⊢
 rw [← hD] at hsD ⊢
 clear hA hD hy
 go_enter Tryz.func57, Tryz.ntmps57
 go_upto_region 1 with fail
 obtain ⟨w1, hw1⟩ : ∃ w1, w1 = ((w.alloc (.cells A 35)).alloc (.cells D 35)).alloc (.cells (q3 0 0 0) 48) := ⟨_, rfl⟩
 have Z1 : Hid (Chg w w1 ∧ Ar w1 w.heap.size (num y) ∧ Ar w1 (w.heap.size + 1) (num ((dN : Int))) ∧ Ar w1 (w.heap.size + 1 + 1) (q3 0 0 0)) := by
  have hnew0 := Ar.new w (num y) 35
  have hnew1 := Ar.new (w.alloc (.cells (num y) 35)) (num ((dN : Int))) 35
  rw [World.size_alloc] at hnew1
  have hnew2 := Ar.new ((w.alloc (.cells (num y) 35)).alloc (.cells (num ((dN : Int))) 35)) (q3 0 0 0) 48
  rw [World.size_alloc, World.size_alloc] at hnew2
  rw [hw1, HA.out, HD.out]
  exact ⟨((((Chg.refl w).alloc _).alloc _).alloc _), (((hnew0).alloc _).alloc _), ((hnew1).alloc _), (hnew2)⟩
 rw [← hw1]
 clear hw1
 clear hsA hsD hz HA HD
 go_cut [8] from 8 to 15 (fun v8 wc => ∃ b8, v8 = .pointer (some ⟨b8, 0, none⟩) ∧ w1.heap.size ≤ b8 ∧ Ar wc b8 (num (md 1 (y * y))) ∧ Chg w1 wc)
 case first =>
  refine regS 4 (fun j v wg => match j with
   | 0 => v = .agg (num y)
   | 1 => v = .agg (num y)
   | 2 => v = .agg (num (md 1 (y * y)))
   | 3 => ∃ b, v = .pointer (some ⟨b, 0, none⟩) ∧ Ar wg b (num 0) ∧ w1.heap.size ≤ b
   | _ => True) (by kernel_rfl) (by kernel_rfl) ?_ ?_ ?_
  ·intro j v u1 u2 h hc
   match j, h with
   | 0, h => exact h
   | 1, h => exact h
   | 2, h => exact h
   | 3, h => (obtain ⟨b, h1, h2, h3⟩ := h; exact ⟨b, h1, h2.chg hc, h3⟩)
   | _ + 4, h => exact trivial
  ·intro i o ac u hi ho hsz hf hg hc
   have hcs : i = 0 ∨ i = 1 ∨ i = 2 ∨ i = 3 := by omega
   rcases hcs with rfl | rfl | rfl | rfl
   ·injection ho with ho
    subst ho
    refine .inl ⟨wanted_none rfl, ?_⟩
    have e1 : ac.eval (.tmp 3) = .pointer (some ⟨w.heap.size, 0, none⟩) := hf 3 (by kernel_rfl)
    exact wp_load_mid 35 (.tmp 3) rfl _ _ e1 ((num y).toList) _ (rangeAp (Z1.out.2.1.chg hc)) undNum rfl (infoN _) ⟨_, rfl, rfl, Chg.refl _⟩
   ·injection ho with ho
    subst ho
    refine .inl ⟨wanted_none rfl, ?_⟩
    have e1 : ac.eval (.tmp 3) = .pointer (some ⟨w.heap.size, 0, none⟩) := hf 3 (by kernel_rfl)
    exact wp_load_mid 35 (.tmp 3) rfl _ _ e1 ((num y).toList) _ (rangeAp (Z1.out.2.1.chg hc)) undNum rfl (infoN _) ⟨_, rfl, rfl, Chg.refl _⟩
   ·injection ho with ho
    subst ho
    refine .inl ⟨wanted_none rfl, ?_⟩
    have e1 : ac.eval (.tmp 13) = .agg (num y) := hg 0 (by decide) (by decide)
    have e2 : ac.eval (.tmp 14) = .agg (num y) := hg 1 (by decide) (by decide)
    refine opG_go 53 Tryz.f53 #[.tmp 13, .tmp 14] #[35, 35] rfl Tryz.func53 (by kernel_rfl) (by kernel_rfl) (by simp [e1, e2]) (Calls.mono (mulF_any y y (HN.out) (HN.out) _) ?_)
    rintro r u2 ⟨rfl, hc2⟩
    exact ⟨_, rfl, rfl, hc2⟩
   ·injection ho with ho
    subst ho
    refine .inl ⟨wanted_none rfl, ?_⟩
    exact opG_val (v := .pointer (some ⟨u.heap.size, 0, none⟩)) (w' := u.alloc (.cells (num 0) 35)) (by generalize ac.eval = ρ; simp [go_sem, execOp, zero25.1]) ⟨_, rfl, Ar.new _ _ _, hc.size⟩ ((Chg.refl _).alloc _)
  ·intro o u V ho hV hc
   injection ho with ho
   subst ho
   refine ⟨rfl, ?_⟩
   have q13 : V 0 = .agg (num y) := hV 0 (by decide)
   have q14 : V 1 = .agg (num y) := hV 1 (by decide)
   have q15 : V 2 = .agg (num (md 1 (y * y))) := hV 2 (by decide)
   obtain ⟨b8, q8, r8, s8⟩ := hV 3 (by decide)
   refine wp_store_mid 35 (.tmp 8) (.tmp 15) rfl b8 0 (num (md 1 (y * y))) (Eq.trans (by rfl) q8) (Eq.trans (by rfl) q15) (by rw [num_size]; exact thereN r8) (szN _) (num_one _) ?_
   rw [show u.setCells b8 0 (num (md 1 (y * y))).toList = u.setRow b8 (num (md 1 (y * y))) from setRowN r8 _]
   go_wp2_with fail
   go_meet
   exact ⟨b8, q8, s8, r8.row _, hc.setRow s8 _⟩
 obtain ⟨b8, rfl, l8, ha8, hcc⟩ := hcut
 obtain ⟨w2, hw2⟩ : ∃ zz0, zz0 = wc := ⟨_, rfl⟩
 rw [← hw2] at hcc ha8 ⊢
 clear hw2
 have O8 : Hid (w.heap.size < b8 ∧ w.heap.size + 1 < b8 ∧ w.heap.size + 1 + 1 < b8) := ⟨Nat.lt_of_lt_of_le (Z1.out.2.1.lt) l8, Nat.lt_of_lt_of_le (Z1.out.2.2.1.lt) l8, Nat.lt_of_lt_of_le (Z1.out.2.2.2.lt) l8⟩
 have Z2 : Hid (Chg w w2 ∧ Ar w2 w.heap.size (num y) ∧ Ar w2 (w.heap.size + 1) (num ((dN : Int))) ∧ Ar w2 (w.heap.size + 1 + 1) (q3 0 0 0) ∧ Ar w2 b8 (num (md 1 (y * y)))) := ⟨Z1.out.1.trans hcc, Z1.out.2.1.chg hcc, Z1.out.2.2.1.chg hcc, Z1.out.2.2.2.chg hcc, ha8⟩
 clear hcc ha8 l8 Z1
 obtain ⟨e8x2, he8x2⟩ : ∃ zz0, zz0 = md 1 (y * y) := ⟨_, rfl⟩
 have Ee8x2 : Hid (e8x2 = md 1 (y * y)) := he8x2
 have Ne8x2 : Hid (N256 e8x2) := by show N256 e8x2; rw [he8x2]; exact md_N _ _
 have Ze8x2 : Hid (Chg w w2 ∧ Ar w2 w.heap.size (num y) ∧ Ar w2 (w.heap.size + 1) (num ((dN : Int))) ∧ Ar w2 (w.heap.size + 1 + 1) (q3 0 0 0) ∧ Ar w2 b8 (num e8x2)) := by rw [he8x2]; exact Z2.out
 clear he8x2 Z2
 go_upto_region 2 with fail
 go_cut [9] from 9 to 18 (fun v9 wc => ∃ b9, v9 = .pointer (some ⟨b9, 0, none⟩) ∧ w2.heap.size ≤ b9 ∧ Ar wc b9 (num (md 1 (e8x2 - 1))) ∧ Chg w2 wc)
 case first =>
  refine regS 4 (fun j v wg => match j with
   | 0 => v = .agg (num e8x2)
   | 1 => v = .agg (num 1)
   | 2 => v = .agg (num (md 1 (e8x2 - 1)))
   | 3 => ∃ b, v = .pointer (some ⟨b, 0, none⟩) ∧ Ar wg b (num 0) ∧ w2.heap.size ≤ b
   | _ => True) (by kernel_rfl) (by kernel_rfl) ?_ ?_ ?_
  ·intro j v u1 u2 h hc
   match j, h with
   | 0, h => exact h
   | 1, h => exact h
   | 2, h => exact h
   | 3, h => (obtain ⟨b, h1, h2, h3⟩ := h; exact ⟨b, h1, h2.chg hc, h3⟩)
   | _ + 4, h => exact trivial
  ·intro i o ac u hi ho hsz hf hg hc
   have hcs : i = 0 ∨ i = 1 ∨ i = 2 ∨ i = 3 := by omega
   rcases hcs with rfl | rfl | rfl | rfl
   ·injection ho with ho
    subst ho
    refine .inl ⟨wanted_none rfl, ?_⟩
    have e1 : ac.eval (.tmp 8) = .pointer (some ⟨b8, 0, none⟩) := hf 8 (by kernel_rfl)
    exact wp_load_mid 35 (.tmp 8) rfl _ _ e1 ((num e8x2).toList) _ (rangeAp (Ze8x2.out.2.2.2.2.chg hc)) undNum rfl (infoN _) ⟨_, rfl, rfl, Chg.refl _⟩
   ·injection ho with ho
    subst ho
    refine .inl ⟨wanted_none rfl, ?_⟩
    exact opG_lit _ rfl (built_1_op ac) rfl
   ·injection ho with ho
    subst ho
    refine .inl ⟨wanted_none rfl, ?_⟩
    have e1 : ac.eval (.tmp 16) = .agg (num e8x2) := hg 0 (by decide) (by decide)
    have e2 : ac.eval (.tmp 17) = .agg (num 1) := hg 1 (by decide) (by decide)
    refine opG_go 54 Tryz.f54 #[.tmp 16, .tmp 17] #[35, 35] rfl Tryz.func54 (by kernel_rfl) (by kernel_rfl) (by simp [e1, e2]) (Calls.mono (subF_any e8x2 1 (Ne8x2.out) n1E _) ?_)
    rintro r u2 ⟨rfl, hc2⟩
    exact ⟨_, rfl, rfl, hc2⟩
   ·injection ho with ho
    subst ho
    refine .inl ⟨wanted_none rfl, ?_⟩
    exact opG_val (v := .pointer (some ⟨u.heap.size, 0, none⟩)) (w' := u.alloc (.cells (num 0) 35)) (by generalize ac.eval = ρ; simp [go_sem, execOp, zero25.1]) ⟨_, rfl, Ar.new _ _ _, hc.size⟩ ((Chg.refl _).alloc _)
  ·intro o u V ho hV hc
   injection ho with ho
   subst ho
   refine ⟨rfl, ?_⟩
   have q16 : V 0 = .agg (num e8x2) := hV 0 (by decide)
   have q17 : V 1 = .agg (num 1) := hV 1 (by decide)
   have q18 : V 2 = .agg (num (md 1 (e8x2 - 1))) := hV 2 (by decide)
   obtain ⟨b9, q9, r9, s9⟩ := hV 3 (by decide)
   refine wp_store_mid 35 (.tmp 9) (.tmp 18) rfl b9 0 (num (md 1 (e8x2 - 1))) (Eq.trans (by rfl) q9) (Eq.trans (by rfl) q18) (by rw [num_size]; exact thereN r9) (szN _) (num_one _) ?_
   rw [show u.setCells b9 0 (num (md 1 (e8x2 - 1))).toList = u.setRow b9 (num (md 1 (e8x2 - 1))) from setRowN r9 _]
   go_wp2_with fail
   go_meet
   exact ⟨b9, q9, s9, r9.row _, hc.setRow s9 _⟩
 obtain ⟨b9, rfl, l9, ha9, hcc⟩ := hcut
 obtain ⟨w3, hw3⟩ : ∃ zz0, zz0 = wc := ⟨_, rfl⟩
 rw [← hw3] at hcc ha9 ⊢
 clear hw3
 have O9 : Hid (w.heap.size < b9 ∧ w.heap.size + 1 < b9 ∧ w.heap.size + 1 + 1 < b9 ∧ b8 < b9) := ⟨Nat.lt_of_lt_of_le (Ze8x2.out.2.1.lt) l9, Nat.lt_of_lt_of_le (Ze8x2.out.2.2.1.lt) l9, Nat.lt_of_lt_of_le (Ze8x2.out.2.2.2.1.lt) l9, Nat.lt_of_lt_of_le (Ze8x2.out.2.2.2.2.lt) l9⟩
 have Z3 : Hid (Chg w w3 ∧ Ar w3 w.heap.size (num y) ∧ Ar w3 (w.heap.size + 1) (num ((dN : Int))) ∧ Ar w3 (w.heap.size + 1 + 1) (q3 0 0 0) ∧ Ar w3 b8 (num e8x2) ∧ Ar w3 b9 (num (md 1 (e8x2 - 1)))) := ⟨Ze8x2.out.1.trans hcc, Ze8x2.out.2.1.chg hcc, Ze8x2.out.2.2.1.chg hcc, Ze8x2.out.2.2.2.1.chg hcc, Ze8x2.out.2.2.2.2.chg hcc, ha9⟩
 clear hcc ha9 l9 Ze8x2
 obtain ⟨e9x3, he9x3⟩ : ∃ zz0, zz0 = md 1 (e8x2 - 1) := ⟨_, rfl⟩
 have Ee9x3 : Hid (e9x3 = md 1 (e8x2 - 1)) := he9x3
 have Ne9x3 : Hid (N256 e9x3) := by show N256 e9x3; rw [he9x3]; exact md_N _ _
 have Ze9x3 : Hid (Chg w w3 ∧ Ar w3 w.heap.size (num y) ∧ Ar w3 (w.heap.size + 1) (num ((dN : Int))) ∧ Ar w3 (w.heap.size + 1 + 1) (q3 0 0 0) ∧ Ar w3 b8 (num e8x2) ∧ Ar w3 b9 (num e9x3)) := by rw [he9x3]; exact Z3.out
 clear he9x3 Z3
 go_upto_region 3 with fail
 go_cut [10] from 10 to 23 (fun v10 wc => ∃ b10, v10 = .pointer (some ⟨b10, 0, none⟩) ∧ w3.heap.size ≤ b10 ∧ Ar wc b10 (num (md 1 ((md 1 (((dN : Int)) * e8x2)) + 1))) ∧ Chg w3 wc)
 case first =>
  refine regS 6 (fun j v wg => match j with
   | 0 => v = .agg (num ((dN : Int)))
   | 1 => v = .agg (num e8x2)
   | 2 => v = .agg (num (md 1 (((dN : Int)) * e8x2)))
   | 3 => v = .agg (num 1)
   | 4 => v = .agg (num (md 1 ((md 1 (((dN : Int)) * e8x2)) + 1)))
   | 5 => ∃ b, v = .pointer (some ⟨b, 0, none⟩) ∧ Ar wg b (num 0) ∧ w3.heap.size ≤ b
   | _ => True) (by kernel_rfl) (by kernel_rfl) ?_ ?_ ?_
  ·intro j v u1 u2 h hc
   match j, h with
   | 0, h => exact h
   | 1, h => exact h
   | 2, h => exact h
   | 3, h => exact h
   | 4, h => exact h
   | 5, h => (obtain ⟨b, h1, h2, h3⟩ := h; exact ⟨b, h1, h2.chg hc, h3⟩)
   | _ + 6, h => exact trivial
  ·intro i o ac u hi ho hsz hf hg hc
   have hcs : i = 0 ∨ i = 1 ∨ i = 2 ∨ i = 3 ∨ i = 4 ∨ i = 5 := by omega
   rcases hcs with rfl | rfl | rfl | rfl | rfl | rfl
   ·injection ho with ho
    subst ho
    refine .inl ⟨wanted_none rfl, ?_⟩
    have e1 : ac.eval (.tmp 5) = .pointer (some ⟨w.heap.size + 1, 0, none⟩) := hf 5 (by kernel_rfl)
    exact wp_load_mid 35 (.tmp 5) rfl _ _ e1 ((num ((dN : Int))).toList) _ (rangeAp (Ze9x3.out.2.2.1.chg hc)) undNum rfl (infoN _) ⟨_, rfl, rfl, Chg.refl _⟩
   ·injection ho with ho
    subst ho
    refine .inl ⟨wanted_none rfl, ?_⟩
    have e1 : ac.eval (.tmp 8) = .pointer (some ⟨b8, 0, none⟩) := hf 8 (by kernel_rfl)
    exact wp_load_mid 35 (.tmp 8) rfl _ _ e1 ((num e8x2).toList) _ (rangeAp (Ze9x3.out.2.2.2.2.1.chg hc)) undNum rfl (infoN _) ⟨_, rfl, rfl, Chg.refl _⟩
   ·injection ho with ho
    subst ho
    refine .inl ⟨wanted_none rfl, ?_⟩
    have e1 : ac.eval (.tmp 19) = .agg (num ((dN : Int))) := hg 0 (by decide) (by decide)
    have e2 : ac.eval (.tmp 20) = .agg (num e8x2) := hg 1 (by decide) (by decide)
    refine opG_go 53 Tryz.f53 #[.tmp 19, .tmp 20] #[35, 35] rfl Tryz.func53 (by kernel_rfl) (by kernel_rfl) (by simp [e1, e2]) (Calls.mono (mulF_any ((dN : Int)) e8x2 N_dN (Ne8x2.out) _) ?_)
    rintro r u2 ⟨rfl, hc2⟩
    exact ⟨_, rfl, rfl, hc2⟩
   ·injection ho with ho
    subst ho
    refine .inl ⟨wanted_none rfl, ?_⟩
    exact opG_lit _ rfl (built_1_op ac) rfl
   ·injection ho with ho
    subst ho
    refine .inl ⟨wanted_none rfl, ?_⟩
    have e1 : ac.eval (.tmp 21) = .agg (num (md 1 (((dN : Int)) * e8x2))) := hg 2 (by decide) (by decide)
    have e2 : ac.eval (.tmp 22) = .agg (num 1) := hg 3 (by decide) (by decide)
    refine opG_go 77 Tryz.f77 #[.tmp 21, .tmp 22] #[35, 35] rfl Tryz.func77 (by kernel_rfl) (by kernel_rfl) (by simp [e1, e2]) (Calls.mono (addF_any (md 1 (((dN : Int)) * e8x2)) 1 (md_N _ _) n1E _) ?_)
    rintro r u2 ⟨rfl, hc2⟩
    exact ⟨_, rfl, rfl, hc2⟩
   ·injection ho with ho
    subst ho
    refine .inl ⟨wanted_none rfl, ?_⟩
    exact opG_val (v := .pointer (some ⟨u.heap.size, 0, none⟩)) (w' := u.alloc (.cells (num 0) 35)) (by generalize ac.eval = ρ; simp [go_sem, execOp, zero25.1]) ⟨_, rfl, Ar.new _ _ _, hc.size⟩ ((Chg.refl _).alloc _)
  ·intro o u V ho hV hc
   injection ho with ho
   subst ho
   refine ⟨rfl, ?_⟩
   have q19 : V 0 = .agg (num ((dN : Int))) := hV 0 (by decide)
   have q20 : V 1 = .agg (num e8x2) := hV 1 (by decide)
   have q21 : V 2 = .agg (num (md 1 (((dN : Int)) * e8x2))) := hV 2 (by decide)
   have q22 : V 3 = .agg (num 1) := hV 3 (by decide)
   have q23 : V 4 = .agg (num (md 1 ((md 1 (((dN : Int)) * e8x2)) + 1))) := hV 4 (by decide)
   obtain ⟨b10, q10, r10, s10⟩ := hV 5 (by decide)
   refine wp_store_mid 35 (.tmp 10) (.tmp 23) rfl b10 0 (num (md 1 ((md 1 (((dN : Int)) * e8x2)) + 1))) (Eq.trans (by rfl) q10) (Eq.trans (by rfl) q23) (by rw [num_size]; exact thereN r10) (szN _) (num_one _) ?_
   rw [show u.setCells b10 0 (num (md 1 ((md 1 (((dN : Int)) * e8x2)) + 1))).toList = u.setRow b10 (num (md 1 ((md 1 (((dN : Int)) * e8x2)) + 1))) from setRowN r10 _]
   go_wp2_with fail
   go_meet
   exact ⟨b10, q10, s10, r10.row _, hc.setRow s10 _⟩
 obtain ⟨b10, rfl, l10, ha10, hcc⟩ := hcut
 obtain ⟨w4, hw4⟩ : ∃ zz0, zz0 = wc := ⟨_, rfl⟩
 rw [← hw4] at hcc ha10 ⊢
 clear hw4
 have O10 : Hid (w.heap.size < b10 ∧ w.heap.size + 1 < b10 ∧ w.heap.size + 1 + 1 < b10 ∧ b8 < b10 ∧ b9 < b10) := ⟨Nat.lt_of_lt_of_le (Ze9x3.out.2.1.lt) l10, Nat.lt_of_lt_of_le (Ze9x3.out.2.2.1.lt) l10, Nat.lt_of_lt_of_le (Ze9x3.out.2.2.2.1.lt) l10, Nat.lt_of_lt_of_le (Ze9x3.out.2.2.2.2.1.lt) l10, Nat.lt_of_lt_of_le (Ze9x3.out.2.2.2.2.2.lt) l10⟩
 have Z4 : Hid (Chg w w4 ∧ Ar w4 w.heap.size (num y) ∧ Ar w4 (w.heap.size + 1) (num ((dN : Int))) ∧ Ar w4 (w.heap.size + 1 + 1) (q3 0 0 0) ∧ Ar w4 b8 (num e8x2) ∧ Ar w4 b9 (num e9x3) ∧ Ar w4 b10 (num (md 1 ((md 1 (((dN : Int)) * e8x2)) + 1)))) := ⟨Ze9x3.out.1.trans hcc, Ze9x3.out.2.1.chg hcc, Ze9x3.out.2.2.1.chg hcc, Ze9x3.out.2.2.2.1.chg hcc, Ze9x3.out.2.2.2.2.1.chg hcc, Ze9x3.out.2.2.2.2.2.chg hcc, ha10⟩
 clear hcc ha10 l10 Ze9x3
 obtain ⟨e10x4, he10x4⟩ : ∃ zz0, zz0 = md 1 ((md 1 (((dN : Int)) * e8x2)) + 1) := ⟨_, rfl⟩
 have Ee10x4 : Hid (e10x4 = md 1 ((md 1 (((dN : Int)) * e8x2)) + 1)) := he10x4
 have Ne10x4 : Hid (N256 e10x4) := by show N256 e10x4; rw [he10x4]; exact md_N _ _
 have Ze10x4 : Hid (Chg w w4 ∧ Ar w4 w.heap.size (num y) ∧ Ar w4 (w.heap.size + 1) (num ((dN : Int))) ∧ Ar w4 (w.heap.size + 1 + 1) (q3 0 0 0) ∧ Ar w4 b8 (num e8x2) ∧ Ar w4 b9 (num e9x3) ∧ Ar w4 b10 (num e10x4)) := by rw [he10x4]; exact Z4.out
 clear he10x4 Z4
 go_upto_region 4 with fail
 go_cut [11, 12] from 11 to 31 (fun v11 v12 wc => ∃ b11, v11 = .pointer (some ⟨b11, 0, none⟩) ∧ v12 = .bool (rtB 1 (md 1 (e9x3 * md 1 (e10x4 ^ ((mo 1 - 2) % R256).toNat)))) ∧ w4.heap.size ≤ b11 ∧ Ar wc b11 (num (rtN 1 (md 1 (e9x3 * md 1 (e10x4 ^ ((mo 1 - 2) % R256).toNat))))) ∧ Chg w4 wc)
 case first =>
  refine wp_region_store 9 (fun j v fl wg => match j with
   | 0 => v = .agg (num e9x3)
   | 1 => v = .agg (num e10x4)
   | 2 => v = .agg (num (md 1 (e10x4 ^ ((mo 1 - 2) % R256).toNat)))
   | 3 => v = .agg (num (md 1 (e9x3 * (md 1 (e10x4 ^ ((mo 1 - 2) % R256).toNat)))))
   | 4 => v = .tuple #[.agg (num (rtN 1 (md 1 (e9x3 * md 1 (e10x4 ^ ((mo 1 - 2) % R256).toNat))))), .bool (rtB 1 (md 1 (e9x3 * md 1 (e10x4 ^ ((mo 1 - 2) % R256).toNat))))]
   | 5 => v = .tuple #[.agg (num (rtN 1 (md 1 (e9x3 * md 1 (e10x4 ^ ((mo 1 - 2) % R256).toNat))))), .bool (rtB 1 (md 1 (e9x3 * md 1 (e10x4 ^ ((mo 1 - 2) % R256).toNat))))]
   | 6 => v = .agg (num (rtN 1 (md 1 (e9x3 * md 1 (e10x4 ^ ((mo 1 - 2) % R256).toNat)))))
   | 7 => v = .bool (rtB 1 (md 1 (e9x3 * md 1 (e10x4 ^ ((mo 1 - 2) % R256).toNat))))
   | 8 => ∃ b, v = .pointer (some ⟨b, 0, none⟩) ∧ w4.heap.size ≤ b ∧ (fl = true → Ar wg b (num (rtN 1 (md 1 (e9x3 * md 1 (e10x4 ^ ((mo 1 - 2) % R256).toNat)))))) ∧ (fl = false → Ar wg b (num 0))
   | 10 => v = .bool (rtB 1 (md 1 (e9x3 * md 1 (e10x4 ^ ((mo 1 - 2) % R256).toNat))))
   | _ => True) (fun _ u => Chg w4.drew u) (by kernel_rfl) (by decide) (by kernel_rfl) (by kernel_rfl) (by kernel_rfl) ?_ ?_ ?_ ?_ ?_ ?_
  ·intro j v fl u1 u2 h hc
   match j, h with
   | 0, h => exact h
   | 1, h => exact h
   | 2, h => exact h
   | 3, h => exact h
   | 4, h => exact h
   | 5, h => exact h
   | 6, h => exact h
   | 7, h => exact h
   | 8, h => (obtain ⟨b, h1, h2, h3, h4⟩ := h; exact ⟨b, h1, h2, fun e => (h3 e).chg hc, fun e => (h4 e).chg hc⟩)
   | 9, h => exact trivial
   | 10, h => exact h
   | _ + 11, h => exact trivial
  ·intro fl u u' h k
   exact h.trans k
  ·intro i o' ac u fl hi his ho hfl hf hg hB
   have hi' : i < 11 := hi
   have hcs : i = 0 ∨ i = 1 ∨ i = 2 ∨ i = 3 ∨ i = 4 ∨ i = 5 ∨ i = 6 ∨ i = 7 ∨ i = 8 ∨ i = 10 := by omega
   rcases hcs with rfl | rfl | rfl | rfl | rfl | rfl | rfl | rfl | rfl | rfl
   ·injection ho with ho
    subst ho
    have e1 : ac.eval (.tmp 9) = .pointer (some ⟨b9, 0, none⟩) := hf 9 (by kernel_rfl)
    exact wp_load_mid 35 (.tmp 9) rfl _ _ e1 ((num e9x3).toList) _ (rangeAp ((Ar.chg (w := w4.drew) Ze10x4.out.2.2.2.2.2.1.drew hB))) undNum rfl (infoN _) ⟨_, rfl, rfl, Chg.refl _⟩
   ·injection ho with ho
    subst ho
    have e1 : ac.eval (.tmp 10) = .pointer (some ⟨b10, 0, none⟩) := hf 10 (by kernel_rfl)
    exact wp_load_mid 35 (.tmp 10) rfl _ _ e1 ((num e10x4).toList) _ (rangeAp ((Ar.chg (w := w4.drew) Ze10x4.out.2.2.2.2.2.2.drew hB))) undNum rfl (infoN _) ⟨_, rfl, rfl, Chg.refl _⟩
   ·injection ho with ho
    subst ho
    have e1 : ac.eval (.tmp 26) = .agg (num e10x4) := hg 1 (by kernel_rfl) (by decide) (by decide)
    refine opG_go 55 Tryz.f55 #[.tmp 26] #[35] rfl Tryz.func55 (by kernel_rfl) (by kernel_rfl) (by simp [e1]) (Calls.mono (invF_any e10x4 (Ne10x4.out) _) ?_)
    rintro r u2 ⟨rfl, hc2⟩
    exact ⟨_, rfl, rfl, hc2⟩
   ·injection ho with ho
    subst ho
    have e1 : ac.eval (.tmp 25) = .agg (num e9x3) := hg 0 (by kernel_rfl) (by decide) (by decide)
    have e2 : ac.eval (.tmp 27) = .agg (num (md 1 (e10x4 ^ ((mo 1 - 2) % R256).toNat))) := hg 2 (by kernel_rfl) (by decide) (by decide)
    refine opG_go 53 Tryz.f53 #[.tmp 25, .tmp 27] #[35, 35] rfl Tryz.func53 (by kernel_rfl) (by kernel_rfl) (by simp [e1, e2]) (Calls.mono (mulF_any e9x3 (md 1 (e10x4 ^ ((mo 1 - 2) % R256).toNat)) (Ne9x3.out) (md_N _ _) _) ?_)
    rintro r u2 ⟨rfl, hc2⟩
    exact ⟨_, rfl, rfl, hc2⟩
   ·injection ho with ho
    subst ho
    have e1 : ac.eval (.const (.int .i64 1)) = .int .i64 1 := rfl
    have e2 : ac.eval (.tmp 28) = .agg (num (md 1 (e9x3 * (md 1 (e10x4 ^ ((mo 1 - 2) % R256).toNat))))) := hg 3 (by kernel_rfl) (by decide) (by decide)
    refine opG_go 86 Tryz.f86 #[.const (.int .i64 1), .tmp 28] #[53, 35] rfl Tryz.func86 (by kernel_rfl) (by kernel_rfl) (by simp [e1, e2]) (Calls.mono (rootR_any 1 (md 1 (e9x3 * md 1 (e10x4 ^ ((mo 1 - 2) % R256).toNat))) (md_N _ _) _) ?_)
    rintro r u2 ⟨rfl, hc2⟩
    exact ⟨_, rfl, rfl, hc2⟩
   ·injection ho with ho
    subst ho
    have e1 : ac.eval (.tmp 29) = .tuple #[.agg (num (rtN 1 (md 1 (e9x3 * md 1 (e10x4 ^ ((mo 1 - 2) % R256).toNat))))), .bool (rtB 1 (md 1 (e9x3 * md 1 (e10x4 ^ ((mo 1 - 2) % R256).toNat))))] := hg 4 (by kernel_rfl) (by decide) (by decide)
    exact opG_val (by simp [execOp, e1]) rfl (Chg.refl _)
   ·injection ho with ho
    subst ho
    have e1 : ac.eval (.tmp 24) = .tuple #[.agg (num (rtN 1 (md 1 (e9x3 * md 1 (e10x4 ^ ((mo 1 - 2) % R256).toNat))))), .bool (rtB 1 (md 1 (e9x3 * md 1 (e10x4 ^ ((mo 1 - 2) % R256).toNat))))] := hg 5 (by kernel_rfl) (by decide) (by decide)
    exact opG_val (by revert e1; generalize ac.eval = ρ; intro e1; simp [go_sem, execOp, e1]) rfl (Chg.refl _)
   ·injection ho with ho
    subst ho
    have e1 : ac.eval (.tmp 24) = .tuple #[.agg (num (rtN 1 (md 1 (e9x3 * md 1 (e10x4 ^ ((mo 1 - 2) % R256).toNat))))), .bool (rtB 1 (md 1 (e9x3 * md 1 (e10x4 ^ ((mo 1 - 2) % R256).toNat))))] := hg 5 (by kernel_rfl) (by decide) (by decide)
    exact opG_val (by revert e1; generalize ac.eval = ρ; intro e1; simp [go_sem, execOp, e1]) rfl (Chg.refl _)
   ·injection ho with ho
    subst ho
    refine opG_val (v := .pointer (some ⟨u.heap.size, 0, none⟩)) (w' := u.alloc (.cells (num 0) 35)) (by simp [go_sem, execOp, zero25.1]) ⟨_, rfl, hB.size, ?_, ?_⟩ ((Chg.refl _).alloc _)
    ·intro e
     rw [hfl (by kernel_rfl)] at e
     cases e
    ·intro _; exact Ar.new _ _ _
   ·injection ho with ho
    subst ho
    have e1 : ac.eval (.tmp 31) = .bool (rtB 1 (md 1 (e9x3 * md 1 (e10x4 ^ ((mo 1 - 2) % R256).toNat)))) := hg 7 (by kernel_rfl) (by decide) (by decide)
    exact opG_val (by simp [execOp, e1]) rfl (Chg.refl _)
  ·intro o' ac u ho hf hg hB
   injection ho with ho
   subst ho
   obtain ⟨b, e1, h1, h2, h3⟩ := hg 8 (by kernel_rfl) (by decide) (by decide)
   have e2 : ac.eval (.tmp 30) = .agg (num (rtN 1 (md 1 (e9x3 * md 1 (e10x4 ^ ((mo 1 - 2) % R256).toNat))))) := hg 6 (by kernel_rfl) (by decide) (by decide)
   refine wp_store_mid 35 (.tmp 11) (.tmp 30) rfl b 0 (num (rtN 1 (md 1 (e9x3 * md 1 (e10x4 ^ ((mo 1 - 2) % R256).toNat))))) e1 e2 (by rw [num_size]; exact thereN ((h3 rfl))) (szN _) (num_one _) ⟨rfl, ?_, ?_⟩
   ·rw [show u.setCells b 0 (num (rtN 1 (md 1 (e9x3 * md 1 (e10x4 ^ ((mo 1 - 2) % R256).toNat))))).toList = u.setRow b (num (rtN 1 (md 1 (e9x3 * md 1 (e10x4 ^ ((mo 1 - 2) % R256).toNat))))) from setRowN ((h3 rfl)) _]
    exact Chg.setRow hB h1 _
   ·intro j hj hjs h
    rw [show u.setCells b 0 (num (rtN 1 (md 1 (e9x3 * md 1 (e10x4 ^ ((mo 1 - 2) % R256).toNat))))).toList = u.setRow b (num (rtN 1 (md 1 (e9x3 * md 1 (e10x4 ^ ((mo 1 - 2) % R256).toNat))))) from setRowN ((h3 rfl)) _]
    have hj' : j < 11 := hj
    have hcs : j = 0 ∨ j = 1 ∨ j = 2 ∨ j = 3 ∨ j = 4 ∨ j = 5 ∨ j = 6 ∨ j = 7 ∨ j = 8 ∨ j = 10 := by omega
    rcases hcs with rfl | rfl | rfl | rfl | rfl | rfl | rfl | rfl | rfl | rfl
    ·exact h
    ·exact h
    ·exact h
    ·exact h
    ·exact h
    ·exact h
    ·exact h
    ·exact h
    ·exact ⟨b, e1, h1, fun _ => (h3 rfl).row _, fun e => nomatch e⟩
    ·exact h
  ·exact Chg.refl _
  ·intro u V hV hB
   have qas : V 10 = .bool (rtB 1 (md 1 (e9x3 * md 1 (e10x4 ^ ((mo 1 - 2) % R256).toNat)))) := hV 10 (by decide) (by decide)
   obtain ⟨b, qb, h1, h2, h3⟩ := hV 8 (by decide) (by decide)
   have q8 : Hid (w4.heap.size ≤ b ∧ Ar u b (num (rtN 1 (md 1 (e9x3 * md 1 (e10x4 ^ ((mo 1 - 2) % R256).toNat))))) ∧ Chg w4 u) := ⟨h1, h2 rfl, (Chg.refl w4).drew.trans hB⟩
   clear h1 h2 h3 hV hB
   go_wp2_with fail
   go_meet
   exact ⟨b, qb, qas, q8.out⟩
 obtain ⟨b11, rfl, rfl, l11, ha11, hcc⟩ := hcut
 obtain ⟨w5, hw5⟩ : ∃ zz0, zz0 = wc := ⟨_, rfl⟩
 rw [← hw5] at hcc ha11 ⊢
 clear hw5
 have O11 : Hid (w.heap.size < b11 ∧ w.heap.size + 1 < b11 ∧ w.heap.size + 1 + 1 < b11 ∧ b8 < b11 ∧ b9 < b11 ∧ b10 < b11) := ⟨Nat.lt_of_lt_of_le (Ze10x4.out.2.1.lt) l11, Nat.lt_of_lt_of_le (Ze10x4.out.2.2.1.lt) l11, Nat.lt_of_lt_of_le (Ze10x4.out.2.2.2.1.lt) l11, Nat.lt_of_lt_of_le (Ze10x4.out.2.2.2.2.1.lt) l11, Nat.lt_of_lt_of_le (Ze10x4.out.2.2.2.2.2.1.lt) l11, Nat.lt_of_lt_of_le (Ze10x4.out.2.2.2.2.2.2.lt) l11⟩
 have Z5 : Hid (Chg w w5 ∧ Ar w5 w.heap.size (num y) ∧ Ar w5 (w.heap.size + 1) (num ((dN : Int))) ∧ Ar w5 (w.heap.size + 1 + 1) (q3 0 0 0) ∧ Ar w5 b8 (num e8x2) ∧ Ar w5 b9 (num e9x3) ∧ Ar w5 b10 (num e10x4) ∧ Ar w5 b11 (num (rtN 1 (md 1 (e9x3 * md 1 (e10x4 ^ ((mo 1 - 2) % R256).toNat)))))) := ⟨Ze10x4.out.1.trans hcc, Ze10x4.out.2.1.chg hcc, Ze10x4.out.2.2.1.chg hcc, Ze10x4.out.2.2.2.1.chg hcc, Ze10x4.out.2.2.2.2.1.chg hcc, Ze10x4.out.2.2.2.2.2.1.chg hcc, Ze10x4.out.2.2.2.2.2.2.chg hcc, ha11⟩
 clear hcc ha11 l11 Ze10x4
 have ES : md 1 (e9x3 * md 1 (e10x4 ^ ((mo 1 - 2) % R256).toNat)) = dS y := by
  rw [Ee9x3.out, Ee10x4.out, Ee8x2.out]
  unfold dS
  rw [Int.add_comm 1]
 rw [ES]
 obtain ⟨bi, hbi⟩ : ∃ zz0, zz0 = isX y := ⟨_, rfl⟩
 have HI : Hid (isX y = bi) := hbi.symm
 have hbi' : rtB 1 (dS y) = bi := hbi.symm
 obtain ⟨r, hr⟩ : ∃ zz0, zz0 = rX y := ⟨_, rfl⟩
 have HRx : Hid (rX y = r ∧ N256 r) := ⟨hr.symm, by rw [hr]; exact rX_N y⟩
 rw [hbi']
 have Zr : Hid (Chg w w5 ∧ Ar w5 w.heap.size (num y) ∧ Ar w5 (w.heap.size + 1) (num ((dN : Int))) ∧ Ar w5 (w.heap.size + 1 + 1) (q3 0 0 0) ∧ Ar w5 b8 (num e8x2) ∧ Ar w5 b9 (num e9x3) ∧ Ar w5 b10 (num e10x4) ∧ Ar w5 b11 (num r)) := by
  have hr' : r = rtN 1 (md 1 (e9x3 * md 1 (e10x4 ^ ((mo 1 - 2) % R256).toNat))) := by rw [ES]; exact hr
  rw [hr']; exact Z5.out
 clear hr hbi hbi' ES Z5
 obtain ⟨bw, hbw⟩ : ∃ zz0, zz0 = wi y bo := ⟨_, rfl⟩
 have HW : Hid (wi y bo = bw) := hbw.symm
 clear hbw
 go_upto_region 5 with fail
 go_cut [41] from 32 to 41 (fun v41 wc => v41 = .bool (!bw) ∧ Chg w5 wc)
 case first =>
  cases bi
  ·have hb : bw = false := by rw [← HW.out]; exact wi_is HI.out
   refine regS 9 (fun j v wg => match j with
    | 0 => v = .bool false
    | 1 => v = .bool true
    | 2 => v = .bool true
    | 3 => v = undef
    | 4 => v = undef
    | 5 => v = undef
    | 6 => v = undef
    | 7 => v = undef
    | 8 => v = undef
    | _ => True) (by kernel_rfl) (by kernel_rfl) ?_ ?_ ?_
   ·intro j v u1 u2 h hc
    match j, h with
    | 0, h => exact h
    | 1, h => exact h
    | 2, h => exact h
    | 3, h => exact h
    | 4, h => exact h
    | 5, h => exact h
    | 6, h => exact h
    | 7, h => exact h
    | 8, h => exact h
    | _ + 9, h => exact trivial
   ·intro i o ac u hi ho hsz hf hg hc
    have hcs : i = 0 ∨ i = 1 ∨ i = 2 ∨ i = 3 ∨ i = 4 ∨ i = 5 ∨ i = 6 ∨ i = 7 ∨ i = 8 := by omega
    rcases hcs with rfl | rfl | rfl | rfl | rfl | rfl | rfl | rfl | rfl
    ·injection ho with ho
     subst ho
     refine .inl ⟨wanted_none rfl, ?_⟩
     have e1 : ac.eval (.tmp 12) = .bool false := hf 12 (by kernel_rfl)
     exact opG_val (by simp [execOp, e1]) rfl (Chg.refl _)
    ·injection ho with ho
     subst ho
     refine .inl ⟨wanted_none rfl, ?_⟩
     have e1 : ac.eval (.tmp 32) = .bool false := hg 0 (by decide) (by decide)
     exact opG_val (by revert e1; generalize ac.eval = ρ; intro e1; simp [go_sem, execOp, e1]) rfl (Chg.refl _)
    ·injection ho with ho
     subst ho
     refine .inl ⟨wanted_none rfl, ?_⟩
     have e1 : ac.eval (.tmp 33) = .bool true := hg 1 (by decide) (by decide)
     exact opG_val (by simp [execOp, e1]) rfl (Chg.refl _)
    ·injection ho with ho
     subst ho
     exact .inr ⟨wanted_not (T := _) (by kernel_rfl) hsz rfl (by decide : 2 < 9) rfl rfl (hg 2 (by decide) (by decide)), rfl⟩
    ·injection ho with ho
     subst ho
     exact .inr ⟨wanted_not (T := _) (by kernel_rfl) hsz rfl (by decide : 2 < 9) rfl rfl (hg 2 (by decide) (by decide)), rfl⟩
    ·injection ho with ho
     subst ho
     exact .inr ⟨wanted_undef (T := _) (by kernel_rfl) hsz rfl (by decide : 4 < 9) rfl (hg 4 (by decide) (by decide)), rfl⟩
    ·injection ho with ho
     subst ho
     exact .inr ⟨wanted_undef (T := _) (by kernel_rfl) hsz rfl (by decide : 4 < 9) rfl (hg 4 (by decide) (by decide)), rfl⟩
    ·injection ho with ho
     subst ho
     exact .inr ⟨wanted_undef (T := _) (by kernel_rfl) hsz rfl (by decide : 4 < 9) rfl (hg 4 (by decide) (by decide)), rfl⟩
    ·injection ho with ho
     subst ho
     exact .inr ⟨wanted_not (T := _) (by kernel_rfl) hsz rfl (by decide : 2 < 9) rfl rfl (hg 2 (by decide) (by decide)), rfl⟩
   ·intro o u V ho hV hc
    injection ho with ho
    subst ho
    refine ⟨rfl, ?_⟩
    have q32 : V 0 = .bool false := hV 0 (by decide)
    have q33 : V 1 = .bool true := hV 1 (by decide)
    have q34 : V 2 = .bool true := hV 2 (by decide)
    have q35 : V 3 = undef := hV 3 (by decide)
    have q36 : V 4 = undef := hV 4 (by decide)
    have q37 : V 5 = undef := hV 5 (by decide)
    have q38 : V 6 = undef := hV 6 (by decide)
    have q39 : V 7 = undef := hV 7 (by decide)
    have q40 : V 8 = undef := hV 8 (by decide)
    refine op_pick (.tmp 34) (.const (.bool true)) (.tmp 40) true (.bool true) rfl (Eq.trans (by rfl) q34) rfl ?_
    go_wp2_with fail
    go_meet
    exact ⟨by rw [hb]; rfl, hc⟩
  ·cases bo
   ·have hb : bw = true := by rw [← HW.out]; unfold wi; rw [HI.out]; rfl
    refine regS 9 (fun j v wg => match j with
     | 0 => v = .bool true
     | 1 => v = .bool false
     | 2 => v = .bool false
     | 3 => v = .bool false
     | 4 => v = .bool false
     | 5 => v = undef
     | 6 => v = undef
     | 7 => v = undef
     | 8 => v = .bool false
     | _ => True) (by kernel_rfl) (by kernel_rfl) ?_ ?_ ?_
    ·intro j v u1 u2 h hc
     match j, h with
     | 0, h => exact h
     | 1, h => exact h
     | 2, h => exact h
     | 3, h => exact h
     | 4, h => exact h
     | 5, h => exact h
     | 6, h => exact h
     | 7, h => exact h
     | 8, h => exact h
     | _ + 9, h => exact trivial
    ·intro i o ac u hi ho hsz hf hg hc
     have hcs : i = 0 ∨ i = 1 ∨ i = 2 ∨ i = 3 ∨ i = 4 ∨ i = 5 ∨ i = 6 ∨ i = 7 ∨ i = 8 := by omega
     rcases hcs with rfl | rfl | rfl | rfl | rfl | rfl | rfl | rfl | rfl
     ·injection ho with ho
      subst ho
      refine .inl ⟨wanted_none rfl, ?_⟩
      have e1 : ac.eval (.tmp 12) = .bool true := hf 12 (by kernel_rfl)
      exact opG_val (by simp [execOp, e1]) rfl (Chg.refl _)
     ·injection ho with ho
      subst ho
      refine .inl ⟨wanted_none rfl, ?_⟩
      have e1 : ac.eval (.tmp 32) = .bool true := hg 0 (by decide) (by decide)
      exact opG_val (by revert e1; generalize ac.eval = ρ; intro e1; simp [go_sem, execOp, e1]) rfl (Chg.refl _)
     ·injection ho with ho
      subst ho
      refine .inl ⟨wanted_none rfl, ?_⟩
      have e1 : ac.eval (.tmp 33) = .bool false := hg 1 (by decide) (by decide)
      exact opG_val (by simp [execOp, e1]) rfl (Chg.refl _)
     ·injection ho with ho
      subst ho
      refine .inl ⟨wanted_by (T := _) (by kernel_rfl) hsz rfl (by decide : 2 < 9) rfl (hg 2 (by decide) (by decide)), ?_⟩
      have e1 : ac.eval (.tmp 1) = .bool false := hf 1 (by kernel_rfl)
      exact opG_val (by simp [execOp, e1]) rfl (Chg.refl _)
     ·injection ho with ho
      subst ho
      refine .inl ⟨wanted_by (T := _) (by kernel_rfl) hsz rfl (by decide : 2 < 9) rfl (hg 2 (by decide) (by decide)), ?_⟩
      have e1 : ac.eval (.tmp 35) = .bool false := hg 3 (by decide) (by decide)
      exact opG_val (by simp [execOp, e1]) rfl (Chg.refl _)
     ·injection ho with ho
      subst ho
      exact .inr ⟨wanted_not (T := _) (by kernel_rfl) hsz rfl (by decide : 4 < 9) rfl rfl (hg 4 (by decide) (by decide)), rfl⟩
     ·injection ho with ho
      subst ho
      exact .inr ⟨wanted_not (T := _) (by kernel_rfl) hsz rfl (by decide : 4 < 9) rfl rfl (hg 4 (by decide) (by decide)), rfl⟩
     ·injection ho with ho
      subst ho
      exact .inr ⟨wanted_not (T := _) (by kernel_rfl) hsz rfl (by decide : 4 < 9) rfl rfl (hg 4 (by decide) (by decide)), rfl⟩
     ·injection ho with ho
      subst ho
      refine .inl ⟨wanted_by (T := _) (by kernel_rfl) hsz rfl (by decide : 2 < 9) rfl (hg 2 (by decide) (by decide)), ?_⟩
      have e1 : ac.eval (.tmp 36) = .bool false := hg 4 (by decide) (by decide)
      have e2 : ac.eval (.tmp 39) = undef := hg 7 (by decide) (by decide)
      have e3 : ac.eval (.const (.bool false)) = .bool false := rfl
      exact opG_val (by revert e1 e2 e3; generalize ac.eval = ρ; intro e1 e2 e3; simp [go_sem, execOp, e1, e2, e3]) rfl (Chg.refl _)
    ·intro o u V ho hV hc
     injection ho with ho
     subst ho
     refine ⟨rfl, ?_⟩
     have q32 : V 0 = .bool true := hV 0 (by decide)
     have q33 : V 1 = .bool false := hV 1 (by decide)
     have q34 : V 2 = .bool false := hV 2 (by decide)
     have q35 : V 3 = .bool false := hV 3 (by decide)
     have q36 : V 4 = .bool false := hV 4 (by decide)
     have q37 : V 5 = undef := hV 5 (by decide)
     have q38 : V 6 = undef := hV 6 (by decide)
     have q39 : V 7 = undef := hV 7 (by decide)
     have q40 : V 8 = .bool false := hV 8 (by decide)
     refine op_pick (.tmp 34) (.const (.bool true)) (.tmp 40) false (.bool false) rfl (Eq.trans (by rfl) q34) (Eq.trans (by rfl) q40) ?_
     go_wp2_with fail
     go_meet
     exact ⟨by rw [hb]; rfl, hc⟩
   ·have hb : decide (r = 0) = !bw := by rw [← HW.out]; unfold wi; rw [HI.out, HRx.out.1]; simp
    refine regS 9 (fun j v wg => match j with
     | 0 => v = .bool true
     | 1 => v = .bool false
     | 2 => v = .bool false
     | 3 => v = .bool true
     | 4 => v = .bool true
     | 5 => v = .agg (num r)
     | 6 => v = .agg (num 0)
     | 7 => v = .bool (decide (r = 0))
     | 8 => v = .bool (decide (r = 0))
     | _ => True) (by kernel_rfl) (by kernel_rfl) ?_ ?_ ?_
    ·intro j v u1 u2 h hc
     match j, h with
     | 0, h => exact h
     | 1, h => exact h
     | 2, h => exact h
     | 3, h => exact h
     | 4, h => exact h
     | 5, h => exact h
     | 6, h => exact h
     | 7, h => exact h
     | 8, h => exact h
     | _ + 9, h => exact trivial
    ·intro i o ac u hi ho hsz hf hg hc
     have hcs : i = 0 ∨ i = 1 ∨ i = 2 ∨ i = 3 ∨ i = 4 ∨ i = 5 ∨ i = 6 ∨ i = 7 ∨ i = 8 := by omega
     rcases hcs with rfl | rfl | rfl | rfl | rfl | rfl | rfl | rfl | rfl
     ·injection ho with ho
      subst ho
      refine .inl ⟨wanted_none rfl, ?_⟩
      have e1 : ac.eval (.tmp 12) = .bool true := hf 12 (by kernel_rfl)
      exact opG_val (by simp [execOp, e1]) rfl (Chg.refl _)
     ·injection ho with ho
      subst ho
      refine .inl ⟨wanted_none rfl, ?_⟩
      have e1 : ac.eval (.tmp 32) = .bool true := hg 0 (by decide) (by decide)
      exact opG_val (by revert e1; generalize ac.eval = ρ; intro e1; simp [go_sem, execOp, e1]) rfl (Chg.refl _)
     ·injection ho with ho
      subst ho
      refine .inl ⟨wanted_none rfl, ?_⟩
      have e1 : ac.eval (.tmp 33) = .bool false := hg 1 (by decide) (by decide)
      exact opG_val (by simp [execOp, e1]) rfl (Chg.refl _)
     ·injection ho with ho
      subst ho
      refine .inl ⟨wanted_by (T := _) (by kernel_rfl) hsz rfl (by decide : 2 < 9) rfl (hg 2 (by decide) (by decide)), ?_⟩
      have e1 : ac.eval (.tmp 1) = .bool true := hf 1 (by kernel_rfl)
      exact opG_val (by simp [execOp, e1]) rfl (Chg.refl _)
     ·injection ho with ho
      subst ho
      refine .inl ⟨wanted_by (T := _) (by kernel_rfl) hsz rfl (by decide : 2 < 9) rfl (hg 2 (by decide) (by decide)), ?_⟩
      have e1 : ac.eval (.tmp 35) = .bool true := hg 3 (by decide) (by decide)
      exact opG_val (by simp [execOp, e1]) rfl (Chg.refl _)
     ·injection ho with ho
      subst ho
      refine .inl ⟨wanted_by (T := _) (by kernel_rfl) hsz rfl (by decide : 4 < 9) rfl (hg 4 (by decide) (by decide)), ?_⟩
      have e1 : ac.eval (.tmp 11) = .pointer (some ⟨b11, 0, none⟩) := hf 11 (by kernel_rfl)
      exact wp_load_mid 35 (.tmp 11) rfl _ _ e1 ((num r).toList) _ (rangeAp (Zr.out.2.2.2.2.2.2.2.chg hc)) undNum rfl (infoN _) ⟨_, rfl, rfl, Chg.refl _⟩
     ·injection ho with ho
      subst ho
      refine .inl ⟨wanted_by (T := _) (by kernel_rfl) hsz rfl (by decide : 4 < 9) rfl (hg 4 (by decide) (by decide)), ?_⟩
      exact opG_lit _ rfl (built_0_op ac) rfl
     ·injection ho with ho
      subst ho
      refine .inl ⟨wanted_by (T := _) (by kernel_rfl) hsz rfl (by decide : 4 < 9) rfl (hg 4 (by decide) (by decide)), ?_⟩
      have e1 : ac.eval (.tmp 37) = .agg (num r) := hg 5 (by decide) (by decide)
      have e2 : ac.eval (.tmp 38) = .agg (num 0) := hg 6 (by decide) (by decide)
      exact opG_val (by revert e1 e2; generalize ac.eval = ρ; intro e1 e2; simp [go_sem, execOp, e1, e2, run_eqNum HRx.out.2 n0E]) rfl (Chg.refl _)
     ·injection ho with ho
      subst ho
      refine .inl ⟨wanted_by (T := _) (by kernel_rfl) hsz rfl (by decide : 2 < 9) rfl (hg 2 (by decide) (by decide)), ?_⟩
      have e1 : ac.eval (.tmp 36) = .bool true := hg 4 (by decide) (by decide)
      have e2 : ac.eval (.tmp 39) = .bool (decide (r = 0)) := hg 7 (by decide) (by decide)
      have e3 : ac.eval (.const (.bool false)) = .bool false := rfl
      exact opG_val (by revert e1 e2 e3; generalize ac.eval = ρ; intro e1 e2 e3; simp [go_sem, execOp, e1, e2, e3]) rfl (Chg.refl _)
    ·intro o u V ho hV hc
     injection ho with ho
     subst ho
     refine ⟨rfl, ?_⟩
     have q32 : V 0 = .bool true := hV 0 (by decide)
     have q33 : V 1 = .bool false := hV 1 (by decide)
     have q34 : V 2 = .bool false := hV 2 (by decide)
     have q35 : V 3 = .bool true := hV 3 (by decide)
     have q36 : V 4 = .bool true := hV 4 (by decide)
     have q37 : V 5 = .agg (num r) := hV 5 (by decide)
     have q38 : V 6 = .agg (num 0) := hV 6 (by decide)
     have q39 : V 7 = .bool (decide (r = 0)) := hV 7 (by decide)
     have q40 : V 8 = .bool (decide (r = 0)) := hV 8 (by decide)
     refine op_pick (.tmp 34) (.const (.bool true)) (.tmp 40) false (.bool (decide (r = 0))) rfl (Eq.trans (by rfl) q34) (Eq.trans (by rfl) q40) ?_
     go_wp2_with fail
     go_meet
     exact ⟨by rw [hb], hc⟩
 obtain ⟨rfl, hcc⟩ := hcut
 obtain ⟨w6, hw6⟩ : ∃ zz0, zz0 = wc := ⟨_, rfl⟩
 rw [← hw6] at hcc ⊢
 have Z6 : Hid (Chg w w6 ∧ Ar w6 w.heap.size (num y) ∧ Ar w6 (w.heap.size + 1) (num ((dN : Int))) ∧ Ar w6 (w.heap.size + 1 + 1) (q3 0 0 0) ∧ Ar w6 b8 (num e8x2) ∧ Ar w6 b9 (num e9x3) ∧ Ar w6 b10 (num e10x4) ∧ Ar w6 b11 (num r)) := ⟨Zr.out.1.trans hcc, Zr.out.2.1.chg hcc, Zr.out.2.2.1.chg hcc, Zr.out.2.2.2.1.chg hcc, Zr.out.2.2.2.2.1.chg hcc, Zr.out.2.2.2.2.2.1.chg hcc, Zr.out.2.2.2.2.2.2.1.chg hcc, Zr.out.2.2.2.2.2.2.2.chg hcc⟩
 clear hw6 hcc Zr
 go_upto_if 41 with fail
 cases bw
 ·have HT2 : Hid (wi y bo = false) := HW.out
  go_upto_region 6 with fail
  go_cut [7] from 7 to 42 (fun v7 wc => v7 = .bool false ∧ Chg w wc ∧ Ar wc w.heap.size (num y) ∧ Ar wc (w.heap.size + 1) (num ((dN : Int))) ∧ Ar wc (w.heap.size + 1 + 1) (q3 0 0 0) ∧ Ar wc b8 (num e8x2) ∧ Ar wc b9 (num e9x3) ∧ Ar wc b10 (num e10x4) ∧ Ar wc b11 (num r))
  case first =>
   refine regL 1 (fun j v wg => match j with
    | 0 => v = .agg (q3 0 0 0)
    | _ => True) (by decide) (by kernel_rfl) ?_ ?_ ?_
   ·intro j v u1 u2 h hc
    match j, h with
    | 0, h => exact h
    | _ + 1, h => exact trivial
   ·intro i o ac u hi ho hsz hf hg hc
    have hcs : i = 0 := by omega
    rcases hcs with rfl
    ·injection ho with ho
     subst ho
     refine .inl ⟨wanted_none rfl, ?_⟩
     exact opG_agg _ rfl (built_z3 ac) rfl
   ·intro u V hV hc
    have q42 : V 0 = .agg (q3 0 0 0) := hV 0 (by decide)
    have hres := Z6.out.2.2.2.1.chg hc
    refine wpList_store_mid rfl 48 (.tmp 6) (.tmp 42) rfl (w.heap.size + 1 + 1) 0 (q3 0 0 0) (by rfl) (Eq.trans (by rfl) q42) (by rw [q3_size]; exact nms_there hres 0 3 (by omega)) (szP3 _ _ _) (q3_one _ _ _) ?_
    rw [show u.setCells (w.heap.size + 1 + 1) 0 (q3 0 0 0).toList = u.setRow (w.heap.size + 1 + 1) (q3 0 0 0) from setRowP3 hres _ _ _]
    have ordO8 := O8.out
    have ordO9 := O9.out
    have ordO10 := O10.out
    have ordO11 := O11.out
    have q8 : Hid (Chg w (u.setRow (w.heap.size + 1 + 1) (q3 0 0 0)) ∧ Ar (u.setRow (w.heap.size + 1 + 1) (q3 0 0 0)) w.heap.size (num y) ∧ Ar (u.setRow (w.heap.size + 1 + 1) (q3 0 0 0)) (w.heap.size + 1) (num ((dN : Int))) ∧ Ar (u.setRow (w.heap.size + 1 + 1) (q3 0 0 0)) (w.heap.size + 1 + 1) (q3 0 0 0) ∧ Ar (u.setRow (w.heap.size + 1 + 1) (q3 0 0 0)) b8 (num e8x2) ∧ Ar (u.setRow (w.heap.size + 1 + 1) (q3 0 0 0)) b9 (num e9x3) ∧ Ar (u.setRow (w.heap.size + 1 + 1) (q3 0 0 0)) b10 (num e10x4) ∧ Ar (u.setRow (w.heap.size + 1 + 1) (q3 0 0 0)) b11 (num r)) := ⟨(Z6.out.1.trans hc).setRow (by omega) _, (Z6.out.2.1.chg hc).rowOther (by omega) _, (Z6.out.2.2.1.chg hc).rowOther (by omega) _, hres.row _, (Z6.out.2.2.2.2.1.chg hc).rowOther (by omega) _, (Z6.out.2.2.2.2.2.1.chg hc).rowOther (by omega) _, (Z6.out.2.2.2.2.2.2.1.chg hc).rowOther (by omega) _, (Z6.out.2.2.2.2.2.2.2.chg hc).rowOther (by omega) _⟩
    generalize u.setRow (w.heap.size + 1 + 1) (q3 0 0 0) = uu at *
    go_wp2_with fail
    go_meet
    exact ⟨rfl, q8.out⟩
  obtain ⟨rfl, hcc⟩ := hcut
  obtain ⟨w7, hw7⟩ : ∃ zz0, zz0 = wc := ⟨_, rfl⟩
  rw [← hw7] at hcc ⊢
  have Z7 : Hid (Chg w w7 ∧ Ar w7 w.heap.size (num y) ∧ Ar w7 (w.heap.size + 1) (num ((dN : Int))) ∧ Ar w7 (w.heap.size + 1 + 1) (q3 0 0 0) ∧ Ar w7 b8 (num e8x2) ∧ Ar w7 b9 (num e9x3) ∧ Ar w7 b10 (num e10x4) ∧ Ar w7 b11 (num r)) := hcc
  clear hw7 hcc Z6
  go_wp2_with fail
  exact bp_3t (c := .bool false) Tryz.results57 rfl rfl rfl Z7.out.2.2.2.1 ⟨by rw [w_0 HT2.out, HT2.out], Z7.out.1⟩
 ·have HT2 : Hid (wi y bo = true) := HW.out
  go_upto_if 43 with fail
  go_cut [] from 44 to 46 (fun wc => Chg w wc ∧ Ar wc w.heap.size (num y) ∧ Ar wc (w.heap.size + 1) (num ((dN : Int))) ∧ Ar wc (w.heap.size + 1 + 1) (q3 0 0 0) ∧ Ar wc b8 (num e8x2) ∧ Ar wc b9 (num e9x3) ∧ Ar wc b10 (num e10x4) ∧ Ar wc b11 (num (xBit y bo)))
  case first =>
   cases bo
   ·go_wp2_with fail
    go_meet
    exact ⟨Z6.out.1, Z6.out.2.1, Z6.out.2.2.1, Z6.out.2.2.2.1, Z6.out.2.2.2.2.1, Z6.out.2.2.2.2.2.1, Z6.out.2.2.2.2.2.2.1, (by show Ar _ _ (num (rX y)); rw [HRx.out.1]; exact Z6.out.2.2.2.2.2.2.2)⟩
   ·go_upto_region 8 with fail
    refine regS 3 (fun j v wg => match j with
     | 0 => v = .agg (num 0)
     | 1 => v = .agg (num r)
     | 2 => v = .agg (num (md 1 (0 - r)))
     | _ => True) (by kernel_rfl) (by kernel_rfl) ?_ ?_ ?_
    ·intro j v u1 u2 h hc
     match j, h with
     | 0, h => exact h
     | 1, h => exact h
     | 2, h => exact h
     | _ + 3, h => exact trivial
    ·intro i o ac u hi ho hsz hf hg hc
     have hcs : i = 0 ∨ i = 1 ∨ i = 2 := by omega
     rcases hcs with rfl | rfl | rfl
     ·injection ho with ho
      subst ho
      refine .inl ⟨wanted_none rfl, ?_⟩
      exact opG_lit _ rfl (built_0_op ac) rfl
     ·injection ho with ho
      subst ho
      refine .inl ⟨wanted_none rfl, ?_⟩
      have e1 : ac.eval (.tmp 11) = .pointer (some ⟨b11, 0, none⟩) := hf 11 (by kernel_rfl)
      exact wp_load_mid 35 (.tmp 11) rfl _ _ e1 ((num r).toList) _ (rangeAp (Z6.out.2.2.2.2.2.2.2.chg hc)) undNum rfl (infoN _) ⟨_, rfl, rfl, Chg.refl _⟩
     ·injection ho with ho
      subst ho
      refine .inl ⟨wanted_none rfl, ?_⟩
      have e1 : ac.eval (.tmp 44) = .agg (num 0) := hg 0 (by decide) (by decide)
      have e2 : ac.eval (.tmp 45) = .agg (num r) := hg 1 (by decide) (by decide)
      refine opG_go 54 Tryz.f54 #[.tmp 44, .tmp 45] #[35, 35] rfl Tryz.func54 (by kernel_rfl) (by kernel_rfl) (by simp [e1, e2]) (Calls.mono (subF_any 0 r n0E (HRx.out.2) _) ?_)
      rintro r u2 ⟨rfl, hc2⟩
      exact ⟨_, rfl, rfl, hc2⟩
    ·intro o u V ho hV hc
     injection ho with ho
     subst ho
     refine ⟨rfl, ?_⟩
     have q44 : V 0 = .agg (num 0) := hV 0 (by decide)
     have q45 : V 1 = .agg (num r) := hV 1 (by decide)
     have q46 : V 2 = .agg (num (md 1 (0 - r))) := hV 2 (by decide)
     have hres := Z6.out.2.2.2.2.2.2.2.chg hc
     refine wp_store_mid 35 (.tmp 11) (.tmp 46) rfl b11 0 (num (md 1 (0 - r))) (by rfl) (Eq.trans (by rfl) q46) (by rw [num_size]; exact thereN hres) (szN _) (num_one _) ?_
     rw [show u.setCells b11 0 (num (md 1 (0 - r))).toList = u.setRow b11 (num (md 1 (0 - r))) from setRowN hres _]
     have ordO8 := O8.out
     have ordO9 := O9.out
     have ordO10 := O10.out
     have ordO11 := O11.out
     have q8 : Hid (Chg w (u.setRow b11 (num (md 1 (0 - r)))) ∧ Ar (u.setRow b11 (num (md 1 (0 - r)))) w.heap.size (num y) ∧ Ar (u.setRow b11 (num (md 1 (0 - r)))) (w.heap.size + 1) (num ((dN : Int))) ∧ Ar (u.setRow b11 (num (md 1 (0 - r)))) (w.heap.size + 1 + 1) (q3 0 0 0) ∧ Ar (u.setRow b11 (num (md 1 (0 - r)))) b8 (num e8x2) ∧ Ar (u.setRow b11 (num (md 1 (0 - r)))) b9 (num e9x3) ∧ Ar (u.setRow b11 (num (md 1 (0 - r)))) b10 (num e10x4) ∧ Ar (u.setRow b11 (num (md 1 (0 - r)))) b11 (num (xBit y true))) := ⟨(Z6.out.1.trans hc).setRow (by omega) _, (Z6.out.2.1.chg hc).rowOther (by omega) _, (Z6.out.2.2.1.chg hc).rowOther (by omega) _, (Z6.out.2.2.2.1.chg hc).rowOther (by omega) _, (Z6.out.2.2.2.2.1.chg hc).rowOther (by omega) _, (Z6.out.2.2.2.2.2.1.chg hc).rowOther (by omega) _, (Z6.out.2.2.2.2.2.2.1.chg hc).rowOther (by omega) _, (by show Ar _ _ (num (md 1 (0 - rX y))); rw [HRx.out.1]; exact hres.row _)⟩
     generalize u.setRow b11 (num (md 1 (0 - r))) = uu at *
     go_wp2_with fail
     go_meet
     exact q8.out
  obtain ⟨w7, hw7⟩ : ∃ zz0, zz0 = wc := ⟨_, rfl⟩
  rw [← hw7] at hcut ⊢
  have Z7 : Hid (Chg w w7 ∧ Ar w7 w.heap.size (num y) ∧ Ar w7 (w.heap.size + 1) (num ((dN : Int))) ∧ Ar w7 (w.heap.size + 1 + 1) (q3 0 0 0) ∧ Ar w7 b8 (num e8x2) ∧ Ar w7 b9 (num e9x3) ∧ Ar w7 b10 (num e10x4) ∧ Ar w7 b11 (num (xBit y bo))) := hcut
  clear hw7 hcut Z6
  go_upto_region 9 with fail
  go_cut [7] from 7 to 50 (fun v7 wc => v7 = .bool true ∧ Chg w wc ∧ Ar wc w.heap.size (num y) ∧ Ar wc (w.heap.size + 1) (num ((dN : Int))) ∧ Ar wc (w.heap.size + 1 + 1) (q3 (xBit y bo) y 1) ∧ Ar wc b8 (num e8x2) ∧ Ar wc b9 (num e9x3) ∧ Ar wc b10 (num e10x4) ∧ Ar wc b11 (num (xBit y bo)))
  case first =>
   refine regL 4 (fun j v wg => match j with
    | 0 => v = .agg (num (xBit y bo))
    | 1 => v = .agg (num y)
    | 2 => v = .agg (num 1)
    | 3 => v = .agg (q3 (xBit y bo) y 1)
    | _ => True) (by decide) (by kernel_rfl) ?_ ?_ ?_
   ·intro j v u1 u2 h hc
    match j, h with
    | 0, h => exact h
    | 1, h => exact h
    | 2, h => exact h
    | 3, h => exact h
    | _ + 4, h => exact trivial
   ·intro i o ac u hi ho hsz hf hg hc
    have hcs : i = 0 ∨ i = 1 ∨ i = 2 ∨ i = 3 := by omega
    rcases hcs with rfl | rfl | rfl | rfl
    ·injection ho with ho
     subst ho
     refine .inl ⟨wanted_none rfl, ?_⟩
     have e1 : ac.eval (.tmp 11) = .pointer (some ⟨b11, 0, none⟩) := hf 11 (by kernel_rfl)
     exact wp_load_mid 35 (.tmp 11) rfl _ _ e1 ((num (xBit y bo)).toList) _ (rangeAp (Z7.out.2.2.2.2.2.2.2.chg hc)) undNum rfl (infoN _) ⟨_, rfl, rfl, Chg.refl _⟩
    ·injection ho with ho
     subst ho
     refine .inl ⟨wanted_none rfl, ?_⟩
     have e1 : ac.eval (.tmp 3) = .pointer (some ⟨w.heap.size, 0, none⟩) := hf 3 (by kernel_rfl)
     exact wp_load_mid 35 (.tmp 3) rfl _ _ e1 ((num y).toList) _ (rangeAp (Z7.out.2.1.chg hc)) undNum rfl (infoN _) ⟨_, rfl, rfl, Chg.refl _⟩
    ·injection ho with ho
     subst ho
     refine .inl ⟨wanted_none rfl, ?_⟩
     exact opG_lit _ rfl (built_1_op ac) rfl
    ·injection ho with ho
     subst ho
     refine .inl ⟨wanted_none rfl, ?_⟩
     have e1 : ac.eval (.tmp 47) = .agg (num (xBit y bo)) := hg 0 (by decide) (by decide)
     have e2 : ac.eval (.tmp 48) = .agg (num y) := hg 1 (by decide) (by decide)
     have e3 : ac.eval (.tmp 49) = .agg (num 1) := hg 2 (by decide) (by decide)
     exact opG_P3 (.tmp 47) (.tmp 48) (.tmp 49) rfl e1 e2 e3 rfl
   ·intro u V hV hc
    have q47 : V 0 = .agg (num (xBit y bo)) := hV 0 (by decide)
    have q48 : V 1 = .agg (num y) := hV 1 (by decide)
    have q49 : V 2 = .agg (num 1) := hV 2 (by decide)
    have q50 : V 3 = .agg (q3 (xBit y bo) y 1) := hV 3 (by decide)
    have hres := Z7.out.2.2.2.1.chg hc
    refine wpList_store_mid rfl 48 (.tmp 6) (.tmp 50) rfl (w.heap.size + 1 + 1) 0 (q3 (xBit y bo) y 1) (by rfl) (Eq.trans (by rfl) q50) (by rw [q3_size]; exact nms_there hres 0 3 (by omega)) (szP3 _ _ _) (q3_one _ _ _) ?_
    rw [show u.setCells (w.heap.size + 1 + 1) 0 (q3 (xBit y bo) y 1).toList = u.setRow (w.heap.size + 1 + 1) (q3 (xBit y bo) y 1) from setRowP3 hres _ _ _]
    have ordO8 := O8.out
    have ordO9 := O9.out
    have ordO10 := O10.out
    have ordO11 := O11.out
    have q8 : Hid (Chg w (u.setRow (w.heap.size + 1 + 1) (q3 (xBit y bo) y 1)) ∧ Ar (u.setRow (w.heap.size + 1 + 1) (q3 (xBit y bo) y 1)) w.heap.size (num y) ∧ Ar (u.setRow (w.heap.size + 1 + 1) (q3 (xBit y bo) y 1)) (w.heap.size + 1) (num ((dN : Int))) ∧ Ar (u.setRow (w.heap.size + 1 + 1) (q3 (xBit y bo) y 1)) (w.heap.size + 1 + 1) (q3 (xBit y bo) y 1) ∧ Ar (u.setRow (w.heap.size + 1 + 1) (q3 (xBit y bo) y 1)) b8 (num e8x2) ∧ Ar (u.setRow (w.heap.size + 1 + 1) (q3 (xBit y bo) y 1)) b9 (num e9x3) ∧ Ar (u.setRow (w.heap.size + 1 + 1) (q3 (xBit y bo) y 1)) b10 (num e10x4) ∧ Ar (u.setRow (w.heap.size + 1 + 1) (q3 (xBit y bo) y 1)) b11 (num (xBit y bo))) := ⟨(Z7.out.1.trans hc).setRow (by omega) _, (Z7.out.2.1.chg hc).rowOther (by omega) _, (Z7.out.2.2.1.chg hc).rowOther (by omega) _, hres.row _, (Z7.out.2.2.2.2.1.chg hc).rowOther (by omega) _, (Z7.out.2.2.2.2.2.1.chg hc).rowOther (by omega) _, (Z7.out.2.2.2.2.2.2.1.chg hc).rowOther (by omega) _, (Z7.out.2.2.2.2.2.2.2.chg hc).rowOther (by omega) _⟩
    generalize u.setRow (w.heap.size + 1 + 1) (q3 (xBit y bo) y 1) = uu at *
    go_wp2_with fail
    go_meet
    exact ⟨rfl, q8.out⟩
  obtain ⟨rfl, hcc⟩ := hcut
  obtain ⟨w8, hw8⟩ : ∃ zz0, zz0 = wc := ⟨_, rfl⟩
  rw [← hw8] at hcc ⊢
  have Z8 : Hid (Chg w w8 ∧ Ar w8 w.heap.size (num y) ∧ Ar w8 (w.heap.size + 1) (num ((dN : Int))) ∧ Ar w8 (w.heap.size + 1 + 1) (q3 (xBit y bo) y 1) ∧ Ar w8 b8 (num e8x2) ∧ Ar w8 b9 (num e9x3) ∧ Ar w8 b10 (num e10x4) ∧ Ar w8 b11 (num (xBit y bo))) := hcc
  clear hw8 hcc Z7
  go_wp2_with fail
  exact bp_3t (c := .bool true) Tryz.results57 rfl rfl rfl Z8.out.2.2.2.1 ⟨by rw [w_1 HT2.out, HT2.out], Z8.out.1⟩
def oxE (e : Nat → Int) : Int := if tell e then xOf e else 0
def oyE (e : Nat → Int) : Int := if tell e then yOf e else 0
def ozE (e : Nat → Int) : Int := if tell e then 1 else 0
theorem u_0 {e : Nat → Int} (h : decide (yOf e < mo 1) = false) : q3 (oxE e) (oyE e) (ozE e) = q3 0 0 0 ∧ tell e = false := by
 have k : tell e = false := by unfold tell; rw [h]; rfl
 unfold oxE oyE ozE; rw [k]; exact ⟨rfl, rfl⟩
theorem u_1 {e : Nat → Int} (h : decide (yOf e < mo 1) = true) : q3 (oxE e) (oyE e) (ozE e) = q3 (wx (yOf e) (od e)) (wy (yOf e) (od e)) (wz (yOf e) (od e)) ∧ tell e = wi (yOf e) (od e) := by
 have k : tell e = wi (yOf e) (od e) := by unfold tell; rw [h]; rfl
 refine ⟨?_, k⟩
 unfold oxE oyE ozE wx wy wz xOf; rw [k]
set_option maxHeartbeats 16000000 in
theorem toldF_any (e : Nat → Int) (he : ∀ i, B8 (e i)) (w : World) : Calls Tryz.prog 39 #[.agg (byt e), .agg (num (dN : Int))] w fun r w' => r = .returned (.tuple #[.agg (q3 (oxE e) (oyE e) (ozE e)), .bool (tell e)]) ∧ Chg w w' := by
 have HE : Hid (∀ i, B8 (e i)) := he
 have hz := zeroP3.1
 have hsA := byt_size e
 have hsD := num_size (dN : Int)
 have hb31 := he 31
 have k2 := (b_hi hb31).2
 obtain ⟨d, hd⟩ : ∃ zz0, zz0 = e 31 := ⟨_, rfl⟩
 obtain ⟨bo, hbo⟩ : ∃ zz0, zz0 = od e := ⟨_, rfl⟩
 have HO : Hid (od e = bo) := hbo.symm
 rw [← hd] at k2
 have k1 : decide (128 ≤ d) = bo := by rw [hbo, hd]; rfl
 obtain ⟨d7, hd7⟩ : ∃ zz0, zz0 = d % 128 := ⟨_, rfl⟩
 rw [← hd7] at k2
 have HDd : Hid (d = e 31 ∧ d7 = e 31 % 128) := ⟨hd, by rw [hd7, hd]⟩
 obtain ⟨A, hA⟩ : ∃ A, A = byt e := ⟨_, rfl⟩
 obtain ⟨D, hD⟩ : ∃ D, D = num (dN : Int) := ⟨_, rfl⟩
 have HA : Hid (A = byt e) := hA
 have HD : Hid (D = num (dN : Int)) := hD
 rw [← hA] at hsA ⊢
 rw [← hD] at hsD ⊢
 clear hA hD he hb31 hd hd7 hbo
 go_enter Tryz.func39, Tryz.ntmps39
 go_upto_region 1 with fail
 obtain ⟨w1, hw1⟩ : ∃ w1, w1 = ((w.alloc (.cells A 22)).alloc (.cells D 35)).alloc (.cells (q3 0 0 0) 48) := ⟨_, rfl⟩
 have Z1 : Hid (Chg w w1 ∧ Ar w1 w.heap.size (byt e) ∧ Ar w1 (w.heap.size + 1) (num ((dN : Int))) ∧ Ar w1 (w.heap.size + 1 + 1) (q3 0 0 0)) := by
  have hnew0 := Ar.new w (byt e) 22
  have hnew1 := Ar.new (w.alloc (.cells (byt e) 22)) (num ((dN : Int))) 35
  rw [World.size_alloc] at hnew1
  have hnew2 := Ar.new ((w.alloc (.cells (byt e) 22)).alloc (.cells (num ((dN : Int))) 35)) (q3 0 0 0) 48
  rw [World.size_alloc, World.size_alloc] at hnew2
  rw [hw1, HA.out, HD.out]
  exact ⟨((((Chg.refl w).alloc _).alloc _).alloc _), (((hnew0).alloc _).alloc _), ((hnew1).alloc _), (hnew2)⟩
 rw [← hw1]
 clear hw1
 clear hsA hsD hz HA HD
 have c31 : w1.cell? ⟨w.heap.size, 31, none⟩ = some (.int .u8 d) := by
  rw [HDd.out.1]
  exact (Z1.out.2.1.cell 31).trans (arr_get _ _ _ (by decide))
 have f31 := Z1.out.2.1.frozen 31
 go_upto_region 3 with fail
 obtain ⟨w2, hw2⟩ : ∃ zz0, zz0 = w1.setCell ⟨w.heap.size, 31, none⟩ (.int .u8 d7) := ⟨_, rfl⟩
 have Z2 : Hid (Chg w w2 ∧ Ar w2 w.heap.size (byt (cu e)) ∧ Ar w2 (w.heap.size + 1) (num ((dN : Int))) ∧ Ar w2 (w.heap.size + 1 + 1) (q3 0 0 0)) := by
  rw [hw2]
  refine ⟨Z1.out.1.setCell (Nat.le_refl _) _, ?_, Z1.out.2.2.1.other (by show _ ≠ w.heap.size; omega) _, Z1.out.2.2.2.other (by show _ ≠ w.heap.size; omega) _⟩
  unfold cu byt
  rw [← HDd.out.2, ← arr_set]
  exact Z1.out.2.1.set 31 _
 rw [← hw2]
 clear hw2 c31 f31 Z1 k2 k1
 go_upto_region 3 with fail
 go_cut [7] from 7 to 16 (fun v7 wc => ∃ b7, v7 = .pointer (some ⟨b7, 0, none⟩) ∧ w2.heap.size ≤ b7 ∧ Ar wc b7 (num (yOf e)) ∧ Chg w2 wc)
 case first =>
  refine regS 3 (fun j v wg => match j with
   | 0 => v = .agg (byt (cu e))
   | 1 => v = .agg (num (yOf e))
   | 2 => ∃ b, v = .pointer (some ⟨b, 0, none⟩) ∧ Ar wg b (num 0) ∧ w2.heap.size ≤ b
   | _ => True) (by kernel_rfl) (by kernel_rfl) ?_ ?_ ?_
  ·intro j v u1 u2 h hc
   match j, h with
   | 0, h => exact h
   | 1, h => exact h
   | 2, h => (obtain ⟨b, h1, h2, h3⟩ := h; exact ⟨b, h1, h2.chg hc, h3⟩)
   | _ + 3, h => exact trivial
  ·intro i o ac u hi ho hsz hf hg hc
   have hcs : i = 0 ∨ i = 1 ∨ i = 2 := by omega
   rcases hcs with rfl | rfl | rfl
   ·injection ho with ho
    subst ho
    refine .inl ⟨wanted_none rfl, ?_⟩
    have e1 : ac.eval (.tmp 2) = .pointer (some ⟨w.heap.size, 0, none⟩) := hf 2 (by kernel_rfl)
    exact wp_load_mid 22 (.tmp 2) rfl _ _ e1 ((byt (cu e)).toList) _ (rangeAp (Z2.out.2.1.chg hc)) un37 rfl (infoY _) ⟨_, rfl, rfl, Chg.refl _⟩
   ·injection ho with ho
    subst ho
    refine .inl ⟨wanted_none rfl, ?_⟩
    have e1 : ac.eval (.tmp 15) = .agg (byt (cu e)) := hg 0 (by decide) (by decide)
    refine opG_go 40 Tryz.f40 #[.tmp 15] #[22] rfl Tryz.func40 (by kernel_rfl) (by kernel_rfl) (by simp [e1]) (Calls.mono (fromLER_any (cu e) (cu_8 HE.out) _) ?_)
    rintro r u2 ⟨rfl, hc2⟩
    exact ⟨_, rfl, rfl, hc2⟩
   ·injection ho with ho
    subst ho
    refine .inl ⟨wanted_none rfl, ?_⟩
    exact opG_val (v := .pointer (some ⟨u.heap.size, 0, none⟩)) (w' := u.alloc (.cells (num 0) 35)) (by generalize ac.eval = ρ; simp [go_sem, execOp, zero25.1]) ⟨_, rfl, Ar.new _ _ _, hc.size⟩ ((Chg.refl _).alloc _)
  ·intro o u V ho hV hc
   injection ho with ho
   subst ho
   refine ⟨rfl, ?_⟩
   have q15 : V 0 = .agg (byt (cu e)) := hV 0 (by decide)
   have q16 : V 1 = .agg (num (yOf e)) := hV 1 (by decide)
   obtain ⟨b7, q7, r7, s7⟩ := hV 2 (by decide)
   refine wp_store_mid 35 (.tmp 7) (.tmp 16) rfl b7 0 (num (yOf e)) (Eq.trans (by rfl) q7) (Eq.trans (by rfl) q16) (by rw [num_size]; exact thereN r7) (szN _) (num_one _) ?_
   rw [show u.setCells b7 0 (num (yOf e)).toList = u.setRow b7 (num (yOf e)) from setRowN r7 _]
   go_wp2_with fail
   go_meet
   exact ⟨b7, q7, s7, r7.row _, hc.setRow s7 _⟩
 obtain ⟨b7, rfl, l7, ha7, hcc⟩ := hcut
 obtain ⟨w3, hw3⟩ : ∃ zz0, zz0 = wc := ⟨_, rfl⟩
 rw [← hw3] at hcc ha7 ⊢
 clear hw3
 have O7 : Hid (w.heap.size < b7 ∧ w.heap.size + 1 < b7 ∧ w.heap.size + 1 + 1 < b7) := ⟨Nat.lt_of_lt_of_le (Z2.out.2.1.lt) l7, Nat.lt_of_lt_of_le (Z2.out.2.2.1.lt) l7, Nat.lt_of_lt_of_le (Z2.out.2.2.2.lt) l7⟩
 have Z3 : Hid (Chg w w3 ∧ Ar w3 w.heap.size (byt (cu e)) ∧ Ar w3 (w.heap.size + 1) (num ((dN : Int))) ∧ Ar w3 (w.heap.size + 1 + 1) (q3 0 0 0) ∧ Ar w3 b7 (num (yOf e))) := ⟨Z2.out.1.trans hcc, Z2.out.2.1.chg hcc, Z2.out.2.2.1.chg hcc, Z2.out.2.2.2.chg hcc, ha7⟩
 clear hcc ha7 l7 Z2
 obtain ⟨y, hy⟩ : ∃ zz0, zz0 = yOf e := ⟨_, rfl⟩
 have HY : Hid (yOf e = y ∧ N256 y) := ⟨hy.symm, by rw [hy]; exact yOf_N HE.out⟩
 have Zy : Hid (Chg w w3 ∧ Ar w3 w.heap.size (byt (cu e)) ∧ Ar w3 (w.heap.size + 1) (num ((dN : Int))) ∧ Ar w3 (w.heap.size + 1 + 1) (q3 0 0 0) ∧ Ar w3 b7 (num y)) := by rw [hy]; exact Z3.out
 clear hy Z3
 obtain ⟨bR, hbR⟩ : ∃ zz0, zz0 = decide (y < mo 1) := ⟨_, rfl⟩
 have HR : Hid (decide (y < mo 1) = bR) := hbR.symm
 clear hbR
 go_upto_region 4 with fail
 go_cut [20] from 17 to 20 (fun v20 wc => v20 = .bool (!bR) ∧ Chg w3 wc)
 case first =>
  refine regA 3 (fun j v wg => match j with
   | 0 => v = .agg (num y)
   | 1 => v = .agg (num (mo 1))
   | 2 => v = .bool bR
   | _ => True) (by kernel_rfl) (by kernel_rfl) (by kernel_rfl) (by kernel_rfl) (by kernel_rfl) ?_ ?_ ?_
  ·intro j v u1 u2 h hc
   match j, h with
   | 0, h => exact h
   | 1, h => exact h
   | 2, h => exact h
   | _ + 3, h => exact trivial
  ·intro i o ac u hi ho hsz hf hg hc
   have hcs : i = 0 ∨ i = 1 ∨ i = 2 := by omega
   rcases hcs with rfl | rfl | rfl
   ·injection ho with ho
    subst ho
    refine .inl ⟨wanted_none rfl, ?_⟩
    have e1 : ac.eval (.tmp 7) = .pointer (some ⟨b7, 0, none⟩) := hf 7 (by kernel_rfl)
    exact wp_load_mid 35 (.tmp 7) rfl _ _ e1 ((num y).toList) _ (rangeAp (Zy.out.2.2.2.2.chg hc)) undNum rfl (infoN _) ⟨_, rfl, rfl, Chg.refl _⟩
   ·injection ho with ho
    subst ho
    refine .inl ⟨wanted_none rfl, ?_⟩
    have e1 : ac.eval (.const (.int .i64 1)) = .int .i64 1 := rfl
    refine opG_go 42 Tryz.f42 #[.const (.int .i64 1)] #[53] rfl Tryz.func42 (by kernel_rfl) (by kernel_rfl) (by simp [e1]) (Calls.mono (modulusR_any 1 _) ?_)
    rintro r u2 ⟨rfl, hc2⟩
    exact ⟨_, rfl, rfl, hc2⟩
   ·injection ho with ho
    subst ho
    refine .inl ⟨wanted_none rfl, ?_⟩
    have e1 : ac.eval (.tmp 17) = .agg (num y) := hg 0 (by kernel_rfl) (by decide)
    have e2 : ac.eval (.tmp 18) = .agg (num (mo 1)) := hg 1 (by kernel_rfl) (by decide)
    refine opG_go 41 Tryz.f41 #[.tmp 17, .tmp 18] #[35, 35] rfl Tryz.func41 (by kernel_rfl) (by kernel_rfl) (by simp [e1, e2]) (Calls.mono ((less_any y (mo 1) HY.out.2 N_mo1 _).mono (fun r_ w_ h => by rw [HR.out] at h; exact h)) ?_)
    rintro r u2 ⟨rfl, hc2⟩
    exact ⟨_, rfl, rfl, hc2⟩
  ·intro o u V ho hV hc
   injection ho with ho
   subst ho
   refine ⟨rfl, ?_⟩
   have q17 : V 0 = .agg (num y) := hV 0 (by decide)
   have q18 : V 1 = .agg (num (mo 1)) := hV 1 (by decide)
   have q19 : V 2 = .bool bR := hV 2 (by decide)
   refine op_not (.tmp 19) bR rfl (Eq.trans (by rfl) q19) ?_
   go_wp2_with fail
   go_meet
   exact ⟨rfl, hc⟩
 obtain ⟨rfl, hcc⟩ := hcut
 obtain ⟨w4, hw4⟩ : ∃ zz0, zz0 = wc := ⟨_, rfl⟩
 rw [← hw4] at hcc ⊢
 have Z4 : Hid (Chg w w4 ∧ Ar w4 w.heap.size (byt (cu e)) ∧ Ar w4 (w.heap.size + 1) (num ((dN : Int))) ∧ Ar w4 (w.heap.size + 1 + 1) (q3 0 0 0) ∧ Ar w4 b7 (num y)) := ⟨Zy.out.1.trans hcc, Zy.out.2.1.chg hcc, Zy.out.2.2.1.chg hcc, Zy.out.2.2.2.1.chg hcc, Zy.out.2.2.2.2.chg hcc⟩
 clear hw4 hcc Zy
 go_upto_if 20 with fail
 cases bR
 ·have HT := u_0 (e := e) (by rw [HY.out.1, HR.out])
  have HT2 : Hid (q3 (oxE e) (oyE e) (ozE e) = q3 0 0 0 ∧ tell e = false) := HT
  clear HT
  go_upto_region 5 with fail
  go_cut [5] from 5 to 21 (fun v5 wc => v5 = .bool false ∧ Chg w wc ∧ Ar wc w.heap.size (byt (cu e)) ∧ Ar wc (w.heap.size + 1) (num ((dN : Int))) ∧ Ar wc (w.heap.size + 1 + 1) (q3 0 0 0) ∧ Ar wc b7 (num y))
  case first =>
   refine regL 1 (fun j v wg => match j with
    | 0 => v = .agg (q3 0 0 0)
    | _ => True) (by decide) (by kernel_rfl) ?_ ?_ ?_
   ·intro j v u1 u2 h hc
    match j, h with
    | 0, h => exact h
    | _ + 1, h => exact trivial
   ·intro i o ac u hi ho hsz hf hg hc
    have hcs : i = 0 := by omega
    rcases hcs with rfl
    ·injection ho with ho
     subst ho
     refine .inl ⟨wanted_none rfl, ?_⟩
     exact opG_agg _ rfl (built_z3 ac) rfl
   ·intro u V hV hc
    have q21 : V 0 = .agg (q3 0 0 0) := hV 0 (by decide)
    have hres := Z4.out.2.2.2.1.chg hc
    refine wpList_store_mid rfl 48 (.tmp 4) (.tmp 21) rfl (w.heap.size + 1 + 1) 0 (q3 0 0 0) (by rfl) (Eq.trans (by rfl) q21) (by rw [q3_size]; exact nms_there hres 0 3 (by omega)) (szP3 _ _ _) (q3_one _ _ _) ?_
    rw [show u.setCells (w.heap.size + 1 + 1) 0 (q3 0 0 0).toList = u.setRow (w.heap.size + 1 + 1) (q3 0 0 0) from setRowP3 hres _ _ _]
    have ordO7 := O7.out
    have q8 : Hid (Chg w (u.setRow (w.heap.size + 1 + 1) (q3 0 0 0)) ∧ Ar (u.setRow (w.heap.size + 1 + 1) (q3 0 0 0)) w.heap.size (byt (cu e)) ∧ Ar (u.setRow (w.heap.size + 1 + 1) (q3 0 0 0)) (w.heap.size + 1) (num ((dN : Int))) ∧ Ar (u.setRow (w.heap.size + 1 + 1) (q3 0 0 0)) (w.heap.size + 1 + 1) (q3 0 0 0) ∧ Ar (u.setRow (w.heap.size + 1 + 1) (q3 0 0 0)) b7 (num y)) := ⟨(Z4.out.1.trans hc).setRow (by omega) _, (Z4.out.2.1.chg hc).rowOther (by omega) _, (Z4.out.2.2.1.chg hc).rowOther (by omega) _, hres.row _, (Z4.out.2.2.2.2.chg hc).rowOther (by omega) _⟩
    generalize u.setRow (w.heap.size + 1 + 1) (q3 0 0 0) = uu at *
    go_wp2_with fail
    go_meet
    exact ⟨rfl, q8.out⟩
  obtain ⟨rfl, hcc⟩ := hcut
  obtain ⟨w5, hw5⟩ : ∃ zz0, zz0 = wc := ⟨_, rfl⟩
  rw [← hw5] at hcc ⊢
  have Z5 : Hid (Chg w w5 ∧ Ar w5 w.heap.size (byt (cu e)) ∧ Ar w5 (w.heap.size + 1) (num ((dN : Int))) ∧ Ar w5 (w.heap.size + 1 + 1) (q3 0 0 0) ∧ Ar w5 b7 (num y)) := hcc
  clear hw5 hcc Z4
  go_wp2_with fail
  exact bp_3t (c := .bool false) Tryz.results39 rfl rfl rfl Z5.out.2.2.2.1 ⟨by rw [HT2.out.1, HT2.out.2], Z5.out.1⟩
 ·have HT := u_1 (e := e) (by rw [HY.out.1, HR.out])
  rw [HY.out.1, HO.out] at HT
  have HT2 : Hid (q3 (oxE e) (oyE e) (ozE e) = q3 (wx y bo) (wy y bo) (wz y bo) ∧ tell e = wi y bo) := HT
  clear HT
  go_upto_region 6 with fail
  go_cut [5] from 5 to 27 (fun v5 wc => v5 = .bool (wi y bo) ∧ Chg w wc ∧ Ar wc w.heap.size (byt (cu e)) ∧ Ar wc (w.heap.size + 1) (num ((dN : Int))) ∧ Ar wc (w.heap.size + 1 + 1) (q3 (wx y bo) (wy y bo) (wz y bo)) ∧ Ar wc b7 (num y))
  case first =>
   refine regL 6 (fun j v wg => match j with
    | 0 => v = .agg (num y)
    | 1 => v = .bool bo
    | 2 => v = .agg (num ((dN : Int)))
    | 3 => v = .tuple #[.agg (q3 (wx y bo) (wy y bo) (wz y bo)), .bool (wi y bo)]
    | 4 => v = .agg (q3 (wx y bo) (wy y bo) (wz y bo))
    | 5 => v = .bool (wi y bo)
    | _ => True) (by decide) (by kernel_rfl) ?_ ?_ ?_
   ·intro j v u1 u2 h hc
    match j, h with
    | 0, h => exact h
    | 1, h => exact h
    | 2, h => exact h
    | 3, h => exact h
    | 4, h => exact h
    | 5, h => exact h
    | _ + 6, h => exact trivial
   ·intro i o ac u hi ho hsz hf hg hc
    have hcs : i = 0 ∨ i = 1 ∨ i = 2 ∨ i = 3 ∨ i = 4 ∨ i = 5 := by omega
    rcases hcs with rfl | rfl | rfl | rfl | rfl | rfl
    ·injection ho with ho
     subst ho
     refine .inl ⟨wanted_none rfl, ?_⟩
     have e1 : ac.eval (.tmp 7) = .pointer (some ⟨b7, 0, none⟩) := hf 7 (by kernel_rfl)
     exact wp_load_mid 35 (.tmp 7) rfl _ _ e1 ((num y).toList) _ (rangeAp (Z4.out.2.2.2.2.chg hc)) undNum rfl (infoN _) ⟨_, rfl, rfl, Chg.refl _⟩
    ·injection ho with ho
     subst ho
     refine .inl ⟨wanted_none rfl, ?_⟩
     have e1 : ac.eval (.tmp 6) = .bool bo := hf 6 (by kernel_rfl)
     exact opG_val (by simp [execOp, e1]) rfl (Chg.refl _)
    ·injection ho with ho
     subst ho
     refine .inl ⟨wanted_none rfl, ?_⟩
     have e1 : ac.eval (.tmp 3) = .pointer (some ⟨w.heap.size + 1, 0, none⟩) := hf 3 (by kernel_rfl)
     exact wp_load_mid 35 (.tmp 3) rfl _ _ e1 ((num ((dN : Int))).toList) _ (rangeAp (Z4.out.2.2.1.chg hc)) undNum rfl (infoN _) ⟨_, rfl, rfl, Chg.refl _⟩
    ·injection ho with ho
     subst ho
     refine .inl ⟨wanted_none rfl, ?_⟩
     have e1 : ac.eval (.tmp 22) = .agg (num y) := hg 0 (by decide) (by decide)
     have e2 : ac.eval (.tmp 23) = .bool bo := hg 1 (by decide) (by decide)
     have e3 : ac.eval (.tmp 24) = .agg (num ((dN : Int))) := hg 2 (by decide) (by decide)
     refine opG_go 57 Tryz.f57 #[.tmp 22, .tmp 23, .tmp 24] #[35, 4, 35] rfl Tryz.func57 (by kernel_rfl) (by kernel_rfl) (by simp [e1, e2, e3]) (Calls.mono (withF_any y bo HY.out.2 _) ?_)
     rintro r u2 ⟨rfl, hc2⟩
     exact ⟨_, rfl, rfl, hc2⟩
    ·injection ho with ho
     subst ho
     refine .inl ⟨wanted_none rfl, ?_⟩
     have e1 : ac.eval (.tmp 25) = .tuple #[.agg (q3 (wx y bo) (wy y bo) (wz y bo)), .bool (wi y bo)] := hg 3 (by decide) (by decide)
     exact opG_val (by revert e1; generalize ac.eval = ρ; intro e1; simp [go_sem, execOp, e1]) rfl (Chg.refl _)
    ·injection ho with ho
     subst ho
     refine .inl ⟨wanted_none rfl, ?_⟩
     have e1 : ac.eval (.tmp 25) = .tuple #[.agg (q3 (wx y bo) (wy y bo) (wz y bo)), .bool (wi y bo)] := hg 3 (by decide) (by decide)
     exact opG_val (by revert e1; generalize ac.eval = ρ; intro e1; simp [go_sem, execOp, e1]) rfl (Chg.refl _)
   ·intro u V hV hc
    have q22 : V 0 = .agg (num y) := hV 0 (by decide)
    have q23 : V 1 = .bool bo := hV 1 (by decide)
    have q24 : V 2 = .agg (num ((dN : Int))) := hV 2 (by decide)
    have q25 : V 3 = .tuple #[.agg (q3 (wx y bo) (wy y bo) (wz y bo)), .bool (wi y bo)] := hV 3 (by decide)
    have q26 : V 4 = .agg (q3 (wx y bo) (wy y bo) (wz y bo)) := hV 4 (by decide)
    have q27 : V 5 = .bool (wi y bo) := hV 5 (by decide)
    have hres := Z4.out.2.2.2.1.chg hc
    refine wpList_store_mid rfl 48 (.tmp 4) (.tmp 26) rfl (w.heap.size + 1 + 1) 0 (q3 (wx y bo) (wy y bo) (wz y bo)) (by rfl) (Eq.trans (by rfl) q26) (by rw [q3_size]; exact nms_there hres 0 3 (by omega)) (szP3 _ _ _) (q3_one _ _ _) ?_
    rw [show u.setCells (w.heap.size + 1 + 1) 0 (q3 (wx y bo) (wy y bo) (wz y bo)).toList = u.setRow (w.heap.size + 1 + 1) (q3 (wx y bo) (wy y bo) (wz y bo)) from setRowP3 hres _ _ _]
    have ordO7 := O7.out
    have q8 : Hid (Chg w (u.setRow (w.heap.size + 1 + 1) (q3 (wx y bo) (wy y bo) (wz y bo))) ∧ Ar (u.setRow (w.heap.size + 1 + 1) (q3 (wx y bo) (wy y bo) (wz y bo))) w.heap.size (byt (cu e)) ∧ Ar (u.setRow (w.heap.size + 1 + 1) (q3 (wx y bo) (wy y bo) (wz y bo))) (w.heap.size + 1) (num ((dN : Int))) ∧ Ar (u.setRow (w.heap.size + 1 + 1) (q3 (wx y bo) (wy y bo) (wz y bo))) (w.heap.size + 1 + 1) (q3 (wx y bo) (wy y bo) (wz y bo)) ∧ Ar (u.setRow (w.heap.size + 1 + 1) (q3 (wx y bo) (wy y bo) (wz y bo))) b7 (num y)) := ⟨(Z4.out.1.trans hc).setRow (by omega) _, (Z4.out.2.1.chg hc).rowOther (by omega) _, (Z4.out.2.2.1.chg hc).rowOther (by omega) _, hres.row _, (Z4.out.2.2.2.2.chg hc).rowOther (by omega) _⟩
    generalize u.setRow (w.heap.size + 1 + 1) (q3 (wx y bo) (wy y bo) (wz y bo)) = uu at *
    go_wp2_with fail
    go_meet
    exact ⟨q27, q8.out⟩
  obtain ⟨rfl, hcc⟩ := hcut
  obtain ⟨w5, hw5⟩ : ∃ zz0, zz0 = wc := ⟨_, rfl⟩
  rw [← hw5] at hcc ⊢
  have Z5 : Hid (Chg w w5 ∧ Ar w5 w.heap.size (byt (cu e)) ∧ Ar w5 (w.heap.size + 1) (num ((dN : Int))) ∧ Ar w5 (w.heap.size + 1 + 1) (q3 (wx y bo) (wy y bo) (wz y bo)) ∧ Ar w5 b7 (num y)) := hcc
  clear hw5 hcc Z4
  go_wp2_with fail
  exact bp_3t (c := .bool (wi y bo)) Tryz.results39 rfl rfl rfl Z5.out.2.2.2.1 ⟨by rw [HT2.out.1, HT2.out.2], Z5.out.1⟩
set_option maxHeartbeats 8000000 in
theorem pointE_any (e : Nat → Int) (he : ∀ i, B8 (e i)) (w : World) : Calls Tryz.prog 13 #[.agg (byt e)] w fun r w' => r = .returned (.bool (tell e)) ∧ Chg w w' := by
 have HE : Hid (∀ i, B8 (e i)) := he
 have hsA := byt_size e
 obtain ⟨A, hA⟩ : ∃ A, A = byt e := ⟨_, rfl⟩
 have HA : Hid (A = byt e) := hA
 rw [← hA] at hsA ⊢
 clear hA he
 go_enter Tryz.func13, Tryz.ntmps13
 go_upto_region 1 with fail
 obtain ⟨w1, hw1⟩ : ∃ w1, w1 = w.alloc (.cells A 22) := ⟨_, rfl⟩
 have Z1 : Hid (Chg w w1 ∧ Ar w1 w.heap.size (byt e)) := by
  have hnew0 := Ar.new w (byt e) 22
  rw [hw1, HA.out]
  exact ⟨((Chg.refl w).alloc _), (hnew0)⟩
 rw [← hw1]
 clear hw1
 clear hsA HA
 go_cut [3, 4] from 3 to 9 (fun v3 v4 wc => ∃ b3, v3 = .pointer (some ⟨b3, 0, none⟩) ∧ v4 = .bool (tell e) ∧ w1.heap.size ≤ b3 ∧ Ar wc b3 (q4 (tx e) (ty e) (tz e) (tt e)) ∧ Chg w1 wc)
 case first =>
  refine regL 6 (fun j v wg => match j with
   | 0 => v = .agg (byt e)
   | 1 => v = .tuple #[.agg (q4 (tx e) (ty e) (tz e) (tt e)), .bool (tell e)]
   | 2 => v = .tuple #[.agg (q4 (tx e) (ty e) (tz e) (tt e)), .bool (tell e)]
   | 3 => v = .agg (q4 (tx e) (ty e) (tz e) (tt e))
   | 4 => v = .bool (tell e)
   | 5 => ∃ b, v = .pointer (some ⟨b, 0, none⟩) ∧ Ar wg b (q4 0 0 0 0) ∧ w1.heap.size ≤ b
   | _ => True) (by decide) (by kernel_rfl) ?_ ?_ ?_
  ·intro j v u1 u2 h hc
   match j, h with
   | 0, h => exact h
   | 1, h => exact h
   | 2, h => exact h
   | 3, h => exact h
   | 4, h => exact h
   | 5, h => (obtain ⟨b, h1, h2, h3⟩ := h; exact ⟨b, h1, h2.chg hc, h3⟩)
   | _ + 6, h => exact trivial
  ·intro i o ac u hi ho hsz hf hg hc
   have hcs : i = 0 ∨ i = 1 ∨ i = 2 ∨ i = 3 ∨ i = 4 ∨ i = 5 := by omega
   rcases hcs with rfl | rfl | rfl | rfl | rfl | rfl
   ·injection ho with ho
    subst ho
    refine .inl ⟨wanted_none rfl, ?_⟩
    have e1 : ac.eval (.tmp 1) = .pointer (some ⟨w.heap.size, 0, none⟩) := hf 1 (by kernel_rfl)
    exact wp_load_mid 22 (.tmp 1) rfl _ _ e1 ((byt e).toList) _ (rangeAp (Z1.out.2.chg hc)) un37 rfl (infoY _) ⟨_, rfl, rfl, Chg.refl _⟩
   ·injection ho with ho
    subst ho
    refine .inl ⟨wanted_none rfl, ?_⟩
    have e1 : ac.eval (.tmp 6) = .agg (byt e) := hg 0 (by decide) (by decide)
    refine opG_go 34 Tryz.f34 #[.tmp 6] #[22] rfl Tryz.func34 (by kernel_rfl) (by kernel_rfl) (by simp [e1]) (Calls.mono (decodeE_any e HE.out _) ?_)
    rintro r u2 ⟨rfl, hc2⟩
    exact ⟨_, rfl, rfl, hc2⟩
   ·injection ho with ho
    subst ho
    refine .inl ⟨wanted_none rfl, ?_⟩
    have e1 : ac.eval (.tmp 7) = .tuple #[.agg (q4 (tx e) (ty e) (tz e) (tt e)), .bool (tell e)] := hg 1 (by decide) (by decide)
    exact opG_val (by simp [execOp, e1]) rfl (Chg.refl _)
   ·injection ho with ho
    subst ho
    refine .inl ⟨wanted_none rfl, ?_⟩
    have e1 : ac.eval (.tmp 5) = .tuple #[.agg (q4 (tx e) (ty e) (tz e) (tt e)), .bool (tell e)] := hg 2 (by decide) (by decide)
    exact opG_val (by revert e1; generalize ac.eval = ρ; intro e1; simp [go_sem, execOp, e1]) rfl (Chg.refl _)
   ·injection ho with ho
    subst ho
    refine .inl ⟨wanted_none rfl, ?_⟩
    have e1 : ac.eval (.tmp 5) = .tuple #[.agg (q4 (tx e) (ty e) (tz e) (tt e)), .bool (tell e)] := hg 2 (by decide) (by decide)
    exact opG_val (by revert e1; generalize ac.eval = ρ; intro e1; simp [go_sem, execOp, e1]) rfl (Chg.refl _)
   ·injection ho with ho
    subst ho
    refine .inl ⟨wanted_none rfl, ?_⟩
    exact opG_val (v := .pointer (some ⟨u.heap.size, 0, none⟩)) (w' := u.alloc (.cells (q4 0 0 0 0) 39)) (by generalize ac.eval = ρ; simp [go_sem, execOp, zeroP4.1]) ⟨_, rfl, Ar.new _ _ _, hc.size⟩ ((Chg.refl _).alloc _)
  ·intro u V hV hc
   have q6 : V 0 = .agg (byt e) := hV 0 (by decide)
   have q7 : V 1 = .tuple #[.agg (q4 (tx e) (ty e) (tz e) (tt e)), .bool (tell e)] := hV 1 (by decide)
   have q5 : V 2 = .tuple #[.agg (q4 (tx e) (ty e) (tz e) (tt e)), .bool (tell e)] := hV 2 (by decide)
   have q8 : V 3 = .agg (q4 (tx e) (ty e) (tz e) (tt e)) := hV 3 (by decide)
   have q9 : V 4 = .bool (tell e) := hV 4 (by decide)
   obtain ⟨b3, q3, r3, s3⟩ := hV 5 (by decide)
   refine wpList_store_mid rfl 39 (.tmp 3) (.tmp 8) rfl b3 0 (q4 (tx e) (ty e) (tz e) (tt e)) (Eq.trans (by rfl) q3) (Eq.trans (by rfl) q8) (by rw [q4_size]; exact nms_there r3 0 4 (by omega)) (szP4 _ _ _ _) (q4_one _ _ _ _) ?_
   rw [show u.setCells b3 0 (q4 (tx e) (ty e) (tz e) (tt e)).toList = u.setRow b3 (q4 (tx e) (ty e) (tz e) (tt e)) from setRowP4 r3 _ _ _ _]
   go_wp2_with fail
   go_meet
   exact ⟨b3, q3, q9, s3, r3.row _, hc.setRow s3 _⟩
 obtain ⟨b3, rfl, rfl, l3, ha3, hcc⟩ := hcut
 obtain ⟨w2, hw2⟩ : ∃ zz0, zz0 = wc := ⟨_, rfl⟩
 rw [← hw2] at hcc ha3 ⊢
 clear hw2
 have O3 : Hid (w.heap.size < b3) := Nat.lt_of_lt_of_le (Z1.out.2.lt) l3
 have Z2 : Hid (Chg w w2 ∧ Ar w2 w.heap.size (byt e) ∧ Ar w2 b3 (q4 (tx e) (ty e) (tz e) (tt e))) := ⟨Z1.out.1.trans hcc, Z1.out.2.chg hcc, ha3⟩
 clear hcc ha3 l3 Z1
 go_wp2_with fail
 go_ret
 exact ⟨rfl, Z2.out.1⟩
set_option maxHeartbeats 8000000 in
theorem isPointF_any (e : Nat → Int) (he : ∀ i, B8 (e i)) (w : World) : Calls Tryz.prog 14 #[.agg (byt e)] w fun r w' => r = .returned (.bool (tell e)) ∧ Chg w w' := by
 have HE : Hid (∀ i, B8 (e i)) := he
 have hsA := byt_size e
 obtain ⟨A, hA⟩ : ∃ A, A = byt e := ⟨_, rfl⟩
 have HA : Hid (A = byt e) := hA
 rw [← hA] at hsA ⊢
 clear hA he
 go_enter Tryz.func14, Tryz.ntmps14
 go_upto_region 1 with fail
 obtain ⟨w1, hw1⟩ : ∃ w1, w1 = w.alloc (.cells A 22) := ⟨_, rfl⟩
 have Z1 : Hid (Chg w w1 ∧ Ar w1 w.heap.size (byt e)) := by
  have hnew0 := Ar.new w (byt e) 22
  rw [hw1, HA.out]
  exact ⟨((Chg.refl w).alloc _), (hnew0)⟩
 rw [← hw1]
 clear hw1
 clear hsA HA
 go_cut [3, 4] from 3 to 10 (fun v3 v4 wc => ∃ b3, v3 = .pointer (some ⟨b3, 0, none⟩) ∧ v4 = .bool (tell e) ∧ w1.heap.size ≤ b3 ∧ Ar wc b3 (q3 (oxE e) (oyE e) (ozE e)) ∧ Chg w1 wc)
 case first =>
  refine wp_region_store 7 (fun j v fl wg => match j with
   | 0 => v = .agg (byt e)
   | 1 => v = .agg (num ((dN : Int)))
   | 2 => v = .tuple #[.agg (q3 (oxE e) (oyE e) (ozE e)), .bool (tell e)]
   | 3 => v = .tuple #[.agg (q3 (oxE e) (oyE e) (ozE e)), .bool (tell e)]
   | 4 => v = .agg (q3 (oxE e) (oyE e) (ozE e))
   | 5 => v = .bool (tell e)
   | 6 => ∃ b, v = .pointer (some ⟨b, 0, none⟩) ∧ w1.heap.size ≤ b ∧ (fl = true → Ar wg b (q3 (oxE e) (oyE e) (ozE e))) ∧ (fl = false → Ar wg b (q3 0 0 0))
   | 8 => v = .bool (tell e)
   | _ => True) (fun _ u => Chg w1.drew u) (by kernel_rfl) (by decide) (by kernel_rfl) (by kernel_rfl) (by kernel_rfl) ?_ ?_ ?_ ?_ ?_ ?_
  ·intro j v fl u1 u2 h hc
   match j, h with
   | 0, h => exact h
   | 1, h => exact h
   | 2, h => exact h
   | 3, h => exact h
   | 4, h => exact h
   | 5, h => exact h
   | 6, h => (obtain ⟨b, h1, h2, h3, h4⟩ := h; exact ⟨b, h1, h2, fun e => (h3 e).chg hc, fun e => (h4 e).chg hc⟩)
   | 7, h => exact trivial
   | 8, h => exact h
   | _ + 9, h => exact trivial
  ·intro fl u u' h k
   exact h.trans k
  ·intro i o' ac u fl hi his ho hfl hf hg hB
   have hi' : i < 9 := hi
   have hcs : i = 0 ∨ i = 1 ∨ i = 2 ∨ i = 3 ∨ i = 4 ∨ i = 5 ∨ i = 6 ∨ i = 8 := by omega
   rcases hcs with rfl | rfl | rfl | rfl | rfl | rfl | rfl | rfl
   ·injection ho with ho
    subst ho
    have e1 : ac.eval (.tmp 1) = .pointer (some ⟨w.heap.size, 0, none⟩) := hf 1 (by kernel_rfl)
    exact wp_load_mid 22 (.tmp 1) rfl _ _ e1 ((byt e).toList) _ (rangeAp ((Ar.chg (w := w1.drew) Z1.out.2.drew hB))) un37 rfl (infoY _) ⟨_, rfl, rfl, Chg.refl _⟩
   ·injection ho with ho
    subst ho
    refine opG_go 19 Tryz.f19 #[] #[] rfl Tryz.func19 (by kernel_rfl) (by kernel_rfl) (by simp []) (Calls.mono (D_any _) ?_)
    rintro r u2 ⟨rfl, hc2⟩
    exact ⟨_, rfl, rfl, hc2⟩
   ·injection ho with ho
    subst ho
    have e1 : ac.eval (.tmp 6) = .agg (byt e) := hg 0 (by kernel_rfl) (by decide) (by decide)
    have e2 : ac.eval (.tmp 7) = .agg (num ((dN : Int))) := hg 1 (by kernel_rfl) (by decide) (by decide)
    refine opG_go 39 Tryz.f39 #[.tmp 6, .tmp 7] #[22, 35] rfl Tryz.func39 (by kernel_rfl) (by kernel_rfl) (by simp [e1, e2]) (Calls.mono (toldF_any e HE.out _) ?_)
    rintro r u2 ⟨rfl, hc2⟩
    exact ⟨_, rfl, rfl, hc2⟩
   ·injection ho with ho
    subst ho
    have e1 : ac.eval (.tmp 8) = .tuple #[.agg (q3 (oxE e) (oyE e) (ozE e)), .bool (tell e)] := hg 2 (by kernel_rfl) (by decide) (by decide)
    exact opG_val (by simp [execOp, e1]) rfl (Chg.refl _)
   ·injection ho with ho
    subst ho
    have e1 : ac.eval (.tmp 5) = .tuple #[.agg (q3 (oxE e) (oyE e) (ozE e)), .bool (tell e)] := hg 3 (by kernel_rfl) (by decide) (by decide)
    exact opG_val (by revert e1; generalize ac.eval = ρ; intro e1; simp [go_sem, execOp, e1]) rfl (Chg.refl _)
   ·injection ho with ho
    subst ho
    have e1 : ac.eval (.tmp 5) = .tuple #[.agg (q3 (oxE e) (oyE e) (ozE e)), .bool (tell e)] := hg 3 (by kernel_rfl) (by decide) (by decide)
    exact opG_val (by revert e1; generalize ac.eval = ρ; intro e1; simp [go_sem, execOp, e1]) rfl (Chg.refl _)
   ·injection ho with ho
    subst ho
    refine opG_val (v := .pointer (some ⟨u.heap.size, 0, none⟩)) (w' := u.alloc (.cells (q3 0 0 0) 48)) (by simp [go_sem, execOp, zeroP3.1]) ⟨_, rfl, hB.size, ?_, ?_⟩ ((Chg.refl _).alloc _)
    ·intro e
     rw [hfl (by kernel_rfl)] at e
     cases e
    ·intro _; exact Ar.new _ _ _
   ·injection ho with ho
    subst ho
    have e1 : ac.eval (.tmp 10) = .bool (tell e) := hg 5 (by kernel_rfl) (by decide) (by decide)
    exact opG_val (by simp [execOp, e1]) rfl (Chg.refl _)
  ·intro o' ac u ho hf hg hB
   injection ho with ho
   subst ho
   obtain ⟨b, e1, h1, h2, h3⟩ := hg 6 (by kernel_rfl) (by decide) (by decide)
   have e2 : ac.eval (.tmp 9) = .agg (q3 (oxE e) (oyE e) (ozE e)) := hg 4 (by kernel_rfl) (by decide) (by decide)
   refine wp_store_mid 48 (.tmp 3) (.tmp 9) rfl b 0 (q3 (oxE e) (oyE e) (ozE e)) e1 e2 (by rw [q3_size]; exact nms_there ((h3 rfl)) 0 3 (by omega)) (szP3 _ _ _) (q3_one _ _ _) ⟨rfl, ?_, ?_⟩
   ·rw [show u.setCells b 0 (q3 (oxE e) (oyE e) (ozE e)).toList = u.setRow b (q3 (oxE e) (oyE e) (ozE e)) from setRowP3 ((h3 rfl)) _ _ _]
    exact Chg.setRow hB h1 _
   ·intro j hj hjs h
    rw [show u.setCells b 0 (q3 (oxE e) (oyE e) (ozE e)).toList = u.setRow b (q3 (oxE e) (oyE e) (ozE e)) from setRowP3 ((h3 rfl)) _ _ _]
    have hj' : j < 9 := hj
    have hcs : j = 0 ∨ j = 1 ∨ j = 2 ∨ j = 3 ∨ j = 4 ∨ j = 5 ∨ j = 6 ∨ j = 8 := by omega
    rcases hcs with rfl | rfl | rfl | rfl | rfl | rfl | rfl | rfl
    ·exact h
    ·exact h
    ·exact h
    ·exact h
    ·exact h
    ·exact h
    ·exact ⟨b, e1, h1, fun _ => (h3 rfl).row _, fun e => nomatch e⟩
    ·exact h
  ·exact Chg.refl _
  ·intro u V hV hB
   have qas : V 8 = .bool (tell e) := hV 8 (by decide) (by decide)
   obtain ⟨b, qb, h1, h2, h3⟩ := hV 6 (by decide) (by decide)
   have q8 : Hid (w1.heap.size ≤ b ∧ Ar u b (q3 (oxE e) (oyE e) (ozE e)) ∧ Chg w1 u) := ⟨h1, h2 rfl, (Chg.refl w1).drew.trans hB⟩
   clear h1 h2 h3 hV hB
   go_wp2_with fail
   go_meet
   exact ⟨b, qb, qas, q8.out⟩
 obtain ⟨b3, rfl, rfl, l3, ha3, hcc⟩ := hcut
 obtain ⟨w2, hw2⟩ : ∃ zz0, zz0 = wc := ⟨_, rfl⟩
 rw [← hw2] at hcc ha3 ⊢
 clear hw2
 have O3 : Hid (w.heap.size < b3) := Nat.lt_of_lt_of_le (Z1.out.2.lt) l3
 have Z2 : Hid (Chg w w2 ∧ Ar w2 w.heap.size (byt e) ∧ Ar w2 b3 (q3 (oxE e) (oyE e) (ozE e))) := ⟨Z1.out.1.trans hcc, Z1.out.2.chg hcc, ha3⟩
 clear hcc ha3 l3 Z1
 go_wp2_with fail
 go_ret
 exact ⟨rfl, Z2.out.1⟩
end Go.Proofs.YtjfidbifjagnpaaGreatDoor
