/-
  A point's first sixteen multiples: the program.
  A number's digits of four bits: the program.
-/
import Derived.Test.YtjfidbifjagnpaaDoorPp4
import Derived.Test.YtjfidbifjagnpaaDoorJu
import Derived.Test.YtjfidbifjagnpaaDoorJf
namespace Go.Proofs.YtjfidbifjagnpaaDoor
open Go.RowKit
set_option linter.unusedVariables false
set_option maxRecDepth 100000
theorem wrap_e {x : Int} (h0 : 0 ≤ x) (h1 : x < 9223372036854775808) : IntKind.i64.wrap x = x := by rw [IntKind.wrap_i64]; omega
def Mul16 (P : Fin pp × Fin pp) (f : Nat → Int) (i : Nat) : Prop := ∀ j, j ≤ i → PT (f (4 * j)) (f (4 * j + 1)) (f (4 * j + 2)) (f (4 * j + 3)) (MU P j)
theorem Mul16.zero (P : Fin pp × Fin pp) : Mul16 P (ovn 0 4 (sel4 0 1 1 (md 1 (0 * 1))) (fun _ => 0)) 0 := fun j hj => by
 have e : j = 0 := by omega
 subst e
 exact PT.zero
theorem Mul16.more {P : Fin pp × Fin pp} {f : Nat → Int} {i : Nat} (h : Mul16 P f i) {x y z t : Int} (k : PT x y z t (MU P (i + 1))) : Mul16 P (ovn (4 * (i + 1)) 4 (sel4 x y z t) f) (i + 1) := fun j hj => by
 by_cases e : j = i + 1
 ·subst e
  have g : ∀ c, c < 4 → ovn (4 * (i + 1)) 4 (sel4 x y z t) f (4 * (i + 1) + c) = sel4 x y z t c := fun c hc => by
   unfold ovn
   rw [if_pos (by omega), Nat.add_sub_cancel_left]
  have g0 : ovn (4 * (i + 1)) 4 (sel4 x y z t) f (4 * (i + 1)) = sel4 x y z t 0 := g 0 (by omega)
  rw [g0, g 1 (by omega), g 2 (by omega), g 3 (by omega)]
  exact k
 ·have g : ∀ c, c < 4 → ovn (4 * (i + 1)) 4 (sel4 x y z t) f (4 * j + c) = f (4 * j + c) := fun c hc => by
   unfold ovn
   rw [if_neg (by omega)]
  have g0 : ovn (4 * (i + 1)) 4 (sel4 x y z t) f (4 * j) = f (4 * j) := g 0 (by omega)
  rw [g0, g 1 (by omega), g 2 (by omega), g 3 (by omega)]
  exact h j (by omega)
set_option maxHeartbeats 16000000 in
theorem multE_any (x y z t : Int) (P : Fin pp × Fin pp) (h : PT x y z t P) (w : World) : Calls Tryd.prog 36 #[.agg (q4 x y z t)] w fun r w' => ∃ f, r = .returned (.agg (nms 64 f)) ∧ Mul16 P f 15 ∧ Chg w w' := by
 have H1 : Hid (PT x y z t P) := h
 have hz := zeroPA.1
 have hsA := q4_size x y z t
 obtain ⟨A, hA⟩ : ∃ A, A = q4 x y z t := ⟨_, rfl⟩
 have HA : Hid (A = q4 x y z t) := hA
 rw [← hA] at hsA ⊢
 clear hA h
 go_enter Tryd.func36, Tryd.ntmps36
 go_upto_region 1 with fail
 obtain ⟨w1, hw1⟩ : ∃ w1, w1 = (w.alloc (.cells A 44)).alloc (.cells (nms 64 (fun _ => 0)) 67) := ⟨_, rfl⟩
 have Z1 : Hid (Chg w w1 ∧ Ar w1 w.heap.size (q4 x y z t) ∧ Ar w1 (w.heap.size + 1) (nms 64 (fun _ => 0))) := by
  have hnew0 := Ar.new w (q4 x y z t) 44
  have hnew1 := Ar.new (w.alloc (.cells (q4 x y z t) 44)) (nms 64 (fun _ => 0)) 67
  rw [World.size_alloc] at hnew1
  rw [hw1, HA.out]
  exact ⟨(((Chg.refl w).alloc _).alloc _), ((hnew0).alloc _), (hnew1)⟩
 rw [← hw1]
 clear hw1
 clear hsA hz HA
 go_cut [3] from 3 to 6 (fun v3 wc => ∃ b3, v3 = .pointer (some ⟨b3, 0, none⟩) ∧ w1.heap.size ≤ b3 ∧ Ar wc b3 (nms 64 (ovn 0 4 (sel4 0 1 1 (md 1 (0 * 1))) (fun _ => 0))) ∧ Chg w1 wc)
 case first =>
  refine regS 3 (fun j v wg => match j with
   | 0 => v = .agg (q4 0 1 1 (md 1 (0 * 1)))
   | 1 => v = .agg (nms 64 (ovn 0 4 (sel4 0 1 1 (md 1 (0 * 1))) (fun _ => 0)))
   | 2 => ∃ b, v = .pointer (some ⟨b, 0, none⟩) ∧ Ar wg b (nms 64 (fun _ => 0)) ∧ w1.heap.size ≤ b
   | _ => True) (by kernel_rfl) (by kernel_rfl) ?_ ?_ ?_
  ·intro j v u1 u2 h hc
   match j, h with
   | 0, h => exact h
   | 1, h => exact h
   | 2, h => (obtain ⟨b, h1, h2, h3⟩ := h; exact ⟨b, h1, h2.chg hc, h3⟩)
   | _ + 3, h => exact trivial
  ·intro i o ac u hi ho hsz hf hg hc
   have hcs : i = 0 ∨ i = 1 ∨ i = 2 := by omega
   rcases hcs with rfl | rfl | rfl
   ·injection ho with ho
    subst ho
    refine .inl ⟨wanted_none rfl, ?_⟩
    refine opG_go 37 Tryd.f37 #[] #[] rfl Tryd.func37 (by kernel_rfl) (by kernel_rfl) (by simp []) (Calls.mono (neutralE_any _) ?_)
    rintro r u2 ⟨rfl, hc2⟩
    exact ⟨_, rfl, rfl, hc2⟩
   ·injection ho with ho
    subst ho
    refine .inl ⟨wanted_none rfl, ?_⟩
    have e1 : ac.eval (.tmp 5) = .agg (q4 0 1 1 (md 1 (0 * 1))) := hg 0 (by decide) (by decide)
    exact opG_PA (.tmp 5) rfl e1 rfl
   ·injection ho with ho
    subst ho
    refine .inl ⟨wanted_none rfl, ?_⟩
    exact opG_val (v := .pointer (some ⟨u.heap.size, 0, none⟩)) (w' := u.alloc (.cells (nms 64 (fun _ => 0)) 67)) (by generalize ac.eval = ρ; simp [go_sem, execOp, zeroPA.1]) ⟨_, rfl, Ar.new _ _ _, hc.size⟩ ((Chg.refl _).alloc _)
  ·intro o u V ho hV hc
   injection ho with ho
   subst ho
   refine ⟨rfl, ?_⟩
   have q5 : V 0 = .agg (q4 0 1 1 (md 1 (0 * 1))) := hV 0 (by decide)
   have q6 : V 1 = .agg (nms 64 (ovn 0 4 (sel4 0 1 1 (md 1 (0 * 1))) (fun _ => 0))) := hV 1 (by decide)
   obtain ⟨b3, q3, r3, s3⟩ := hV 2 (by decide)
   refine wp_store_mid 67 (.tmp 3) (.tmp 6) rfl b3 0 (nms 64 (ovn 0 4 (sel4 0 1 1 (md 1 (0 * 1))) (fun _ => 0))) (Eq.trans (by rfl) q3) (Eq.trans (by rfl) q6) (by rw [n64_size]; exact nms_there r3 0 64 (by omega)) (szPA _) (nms_cells _ _) ?_
   rw [show u.setCells b3 0 (nms 64 (ovn 0 4 (sel4 0 1 1 (md 1 (0 * 1))) (fun _ => 0))).toList = u.setRow b3 (nms 64 (ovn 0 4 (sel4 0 1 1 (md 1 (0 * 1))) (fun _ => 0))) from setRowPA r3 _]
   go_wp2_with fail
   go_meet
   exact ⟨b3, q3, s3, r3.row _, hc.setRow s3 _⟩
 obtain ⟨b3, rfl, l3, ha3, hcc⟩ := hcut
 obtain ⟨w2, hw2⟩ : ∃ zz0, zz0 = wc := ⟨_, rfl⟩
 rw [← hw2] at hcc ha3 ⊢
 clear hw2
 have O3 : Hid (w.heap.size + 1 < b3) := Nat.lt_of_lt_of_le (Z1.out.2.2.lt) l3
 have Z2 : Hid (Chg w w2 ∧ Ar w2 w.heap.size (q4 x y z t) ∧ Ar w2 (w.heap.size + 1) (nms 64 (fun _ => 0)) ∧ Ar w2 b3 (nms 64 (ovn 0 4 (sel4 0 1 1 (md 1 (0 * 1))) (fun _ => 0)))) := ⟨Z1.out.1.trans hcc, Z1.out.2.1.chg hcc, Z1.out.2.2.chg hcc, ha3⟩
 clear hcc ha3 l3 Z1
 go_wp2_with fail
 go_loopw [7] (fun v wr => ∃ (i : Nat) (f : Nat → Int), v = .int .i64 i ∧ i ≤ 15 ∧ Chg w wr ∧ Ar wr w.heap.size (q4 x y z t) ∧ Ar wr (w.heap.size + 1) (nms 64 (fun _ => 0)) ∧ Ar wr b3 (nms 64 f) ∧ Mul16 P f i) (fun v wr => 15 - (intOf v).toNat)
 case atStart => exact ⟨0, _, rfl, by omega, Z2.out.1, Z2.out.2.1, Z2.out.2.2.1, Z2.out.2.2.2, Mul16.zero P⟩
 case round =>
  clear Z2
  obtain ⟨i, f, rfl, hi, k1, k2, k3, k4, k5⟩ := hrel
  have Z2 : Hid (Chg w wr ∧ Ar wr w.heap.size (q4 x y z t) ∧ Ar wr (w.heap.size + 1) (nms 64 (fun _ => 0)) ∧ Ar wr b3 (nms 64 f)) := ⟨k1, k2, k3, k4⟩
  have HM : Hid (Mul16 P f i) := k5
  clear k1 k2 k3 k4 k5
  by_cases h15 : i < 15
  ·have hdi : decide ((i : Int) < 15) = true := by simp; omega
   obtain ⟨i1, hi1⟩ : ∃ i1 : Nat, (i : Int) + 1 = i1 := ⟨i + 1, by omega⟩
   have hi1' : i1 = i + 1 := by omega
   have wi1 := wrap_e (x := (i1 : Int)) (by omega) (by omega)
   have b0 : 0 ≤ (i : Int) := by omega
   have b1 : (i : Int) < 16 := by omega
   have c0 : 0 ≤ (i1 : Int) := by omega
   have c1 : (i1 : Int) < 16 := by omega
   have HI : Hid (i1 = i + 1 ∧ i < 15) := ⟨hi1', h15⟩
   obtain ⟨w2, hw2⟩ : ∃ zz0, zz0 = wr := ⟨_, rfl⟩
   rw [← hw2] at Z2 ⊢
   clear hi1' h15 hi hw2
   go_upto_block 1 with fail
   go_cut [5, 6, 7] from 4 to 17 (fun v5 v6 v7 wc => v5 = u5 ∧ v6 = u6 ∧ v7 = .int .i64 (i : Int) ∧ ∃ u X Y Z T, Chg w2 u ∧ wc = u.setCells b3 (16 * i1) (q4 X Y Z T).toList ∧ PT X Y Z T (AD (MU P i) P))
   case first =>
    go_upto_region 5 with fail
    refine regA 8 (fun j v wg => match j with
     | 0 => v = .int .i64 (i : Int)
     | 1 => v = .int .i64 (i1 : Int)
     | 2 => v = .int .i64 (i : Int)
     | 3 => v = .pointer (some ⟨b3, 16 * i, none⟩)
     | 4 => v = .agg (q4 (f (4 * i)) (f (4 * i + 1)) (f (4 * i + 2)) (f (4 * i + 3)))
     | 5 => v = .agg (q4 x y z t)
     | 6 => ∃ x y z t, v = .agg (q4 x y z t) ∧ PT x y z t (AD (MU P i) P)
     | 7 => v = .pointer (some ⟨b3, 16 * i1, none⟩)
     | _ => True) (by kernel_rfl) (by kernel_rfl) (by kernel_rfl) (by kernel_rfl) (by kernel_rfl) ?_ ?_ ?_
    ·intro j v u1 u2 h hc
     match j, h with
     | 0, h => exact h
     | 1, h => exact h
     | 2, h => exact h
     | 3, h => exact h
     | 4, h => exact h
     | 5, h => exact h
     | 6, h => exact h
     | 7, h => exact h
     | _ + 8, h => exact trivial
    ·intro i o ac u hi ho hsz hf hg hc
     have hcs : i = 0 ∨ i = 1 ∨ i = 2 ∨ i = 3 ∨ i = 4 ∨ i = 5 ∨ i = 6 ∨ i = 7 := by omega
     rcases hcs with rfl | rfl | rfl | rfl | rfl | rfl | rfl | rfl
     ·injection ho with ho
      subst ho
      refine .inl ⟨wanted_none rfl, ?_⟩
      have e1 : ac.eval (.tmp 4) = .int .i64 (i : Int) := hf 4 (by kernel_rfl)
      exact opG_val (by simp [execOp, e1]) rfl (Chg.refl _)
     ·injection ho with ho
      subst ho
      refine .inl ⟨wanted_none rfl, ?_⟩
      have e1 : ac.eval (.tmp 10) = .int .i64 (i : Int) := hg 0 (by kernel_rfl) (by decide)
      have e2 : ac.eval (.const (.int .i64 1)) = .int .i64 1 := rfl
      exact opG_val (by revert e1 e2; generalize ac.eval = ρ; intro e1 e2; simp [go_sem, execOp, e1, e2, hi1, wi1]) rfl (Chg.refl _)
     ·injection ho with ho
      subst ho
      refine .inl ⟨wanted_none rfl, ?_⟩
      have e1 : ac.eval (.tmp 4) = .int .i64 (i : Int) := hf 4 (by kernel_rfl)
      exact opG_val (by simp [execOp, e1]) rfl (Chg.refl _)
     ·injection ho with ho
      subst ho
      refine .inl ⟨wanted_none rfl, ?_⟩
      have e1 : ac.eval (.tmp 3) = .pointer (some ⟨b3, 0, none⟩) := hf 3 (by kernel_rfl)
      have e2 : ac.eval (.tmp 12) = .int .i64 (i : Int) := hg 2 (by kernel_rfl) (by decide)
      exact opG_val (by revert e1 e2; generalize ac.eval = ρ; intro e1 e2; simp [go_sem, execOp, e1, e2, b0, b1, Nat.mul_comm]) rfl (Chg.refl _)
     ·injection ho with ho
      subst ho
      refine .inl ⟨wanted_none rfl, ?_⟩
      have e1 : ac.eval (.tmp 13) = .pointer (some ⟨b3, 16 * i, none⟩) := hg 3 (by kernel_rfl) (by decide)
      exact wp_load_mid 44 (.tmp 13) rfl _ _ e1 ((q4 (f (4 * i)) (f (4 * i + 1)) (f (4 * i + 2)) (f (4 * i + 3))).toList) _ (rangePA (Z2.out.2.2.2.chg hc) i (by omega)) Tryd.underlying44 rfl (infoP4 _ _ _ _) ⟨_, rfl, rfl, Chg.refl _⟩
     ·injection ho with ho
      subst ho
      refine .inl ⟨wanted_none rfl, ?_⟩
      have e1 : ac.eval (.tmp 1) = .pointer (some ⟨w.heap.size, 0, none⟩) := hf 1 (by kernel_rfl)
      exact wp_load_mid 44 (.tmp 1) rfl _ _ e1 ((q4 x y z t).toList) _ (rangeAp (Z2.out.2.1.chg hc)) Tryd.underlying44 rfl (infoP4 _ _ _ _) ⟨_, rfl, rfl, Chg.refl _⟩
     ·injection ho with ho
      subst ho
      refine .inl ⟨wanted_none rfl, ?_⟩
      have e1 : ac.eval (.tmp 14) = .agg (q4 (f (4 * i)) (f (4 * i + 1)) (f (4 * i + 2)) (f (4 * i + 3))) := hg 4 (by kernel_rfl) (by decide)
      have e2 : ac.eval (.tmp 15) = .agg (q4 x y z t) := hg 5 (by kernel_rfl) (by decide)
      refine opG_go 22 Tryd.f22 #[.tmp 14, .tmp 15] #[44, 44] rfl Tryd.func22 (by kernel_rfl) (by kernel_rfl) (by simp [e1, e2]) (Calls.mono (plusE_any _ _ _ _ _ _ _ _ (MU P i) P (HM.out i (Nat.le_refl _)) H1.out _) ?_)
      rintro r u2 ⟨x16, y16, z16, t16, rfl, m16, hc2⟩
      exact ⟨_, rfl, ⟨x16, y16, z16, t16, rfl, m16⟩, hc2⟩
     ·injection ho with ho
      subst ho
      refine .inl ⟨wanted_none rfl, ?_⟩
      have e1 : ac.eval (.tmp 3) = .pointer (some ⟨b3, 0, none⟩) := hf 3 (by kernel_rfl)
      have e2 : ac.eval (.tmp 11) = .int .i64 (i1 : Int) := hg 1 (by kernel_rfl) (by decide)
      exact opG_val (by revert e1 e2; generalize ac.eval = ρ; intro e1 e2; simp [go_sem, execOp, e1, e2, c0, c1, Nat.mul_comm]) rfl (Chg.refl _)
    ·intro o u V ho hV hc
     injection ho with ho
     subst ho
     refine ⟨rfl, ?_⟩
     have q10 : V 0 = .int .i64 (i : Int) := hV 0 (by decide)
     have q11 : V 1 = .int .i64 (i1 : Int) := hV 1 (by decide)
     have q12 : V 2 = .int .i64 (i : Int) := hV 2 (by decide)
     have q13 : V 3 = .pointer (some ⟨b3, 16 * i, none⟩) := hV 3 (by decide)
     have q14 : V 4 = .agg (q4 (f (4 * i)) (f (4 * i + 1)) (f (4 * i + 2)) (f (4 * i + 3))) := hV 4 (by decide)
     have q15 : V 5 = .agg (q4 x y z t) := hV 5 (by decide)
     obtain ⟨x16, y16, z16, t16, q16, m16⟩ := hV 6 (by decide)
     have q17 : V 7 = .pointer (some ⟨b3, 16 * i1, none⟩) := hV 7 (by decide)
     have hres := Z2.out.2.2.2.chg hc
     refine wp_store_mid 44 (.tmp 17) (.tmp 16) rfl b3 (16 * i1) (q4 x16 y16 z16 t16) (Eq.trans (by rfl) q17) (Eq.trans (by rfl) q16) (by rw [q4_size]; exact therePA hres i1 (by omega)) (szP4 _ _ _ _) (q4_one _ _ _ _) ?_
     go_wp2_with fail
     go_meet
     exact ⟨rfl, rfl, rfl, u, _, _, _, _, hc, rfl, m16⟩
   obtain ⟨rfl, rfl, rfl, u, X, Y, Z, T, hcc, rfl, hp⟩ := hcut
   have Z3 : Hid (Chg w (u.setCells b3 (16 * i1) (q4 X Y Z T).toList) ∧ Ar (u.setCells b3 (16 * i1) (q4 X Y Z T).toList) w.heap.size (q4 x y z t) ∧ Ar (u.setCells b3 (16 * i1) (q4 X Y Z T).toList) (w.heap.size + 1) (nms 64 (fun _ => 0)) ∧ Ar (u.setCells b3 (16 * i1) (q4 X Y Z T).toList) b3 (nms 64 (ovn (4 * i1) 4 (sel4 X Y Z T) f)) ∧ Mul16 P (ovn (4 * i1) 4 (sel4 X Y Z T) f) i1) := by
    have o3 := O3.out
    refine ⟨(Z2.out.1.trans hcc).cells (by omega) _ _, Ar.cellsOther (by omega) _ _ (Z2.out.2.1.chg hcc), Ar.cellsOther (by omega) _ _ (Z2.out.2.2.1.chg hcc), (Z2.out.2.2.2.chg hcc).putPA X Y Z T i1 (by omega), ?_⟩
    rw [HI.out.1]
    exact HM.out.more (by rw [MU_succ H1.out.on]; exact hp)
   clear hcc hp Z2 HM
   generalize u.setCells b3 (16 * i1) (q4 X Y Z T).toList = w3 at *
   go_wp2_with fail
   refine ⟨⟨i1, _, rfl, by omega, Z3.out⟩, ?_⟩
   have := HI.out
   simp only [intOf]
   omega
  ·have e : i = 15 := by omega
   subst e
   have hd : decide (((15 : Nat) : Int) < 15) = false := by decide
   obtain ⟨w2, hw2⟩ : ∃ zz0, zz0 = wr := ⟨_, rfl⟩
   rw [← hw2] at Z2 ⊢
   clear hi hw2 h15
   go_upto_region 7 with fail
   go_cut [] from 19 to 19 (fun wc => ∃ u, Chg w2 u ∧ wc = u.setRow (w.heap.size + 1) (nms 64 f))
   case first =>
    refine regS 1 (fun j v wg => match j with
     | 0 => v = .agg (nms 64 f)
     | _ => True) (by kernel_rfl) (by kernel_rfl) ?_ ?_ ?_
    ·intro j v u1 u2 h hc
     match j, h with
     | 0, h => exact h
     | _ + 1, h => exact trivial
    ·intro i o ac u hi ho hsz hf hg hc
     have hcs : i = 0 := by omega
     rcases hcs with rfl
     ·injection ho with ho
      subst ho
      refine .inl ⟨wanted_none rfl, ?_⟩
      have e1 : ac.eval (.tmp 3) = .pointer (some ⟨b3, 0, none⟩) := hf 3 (by kernel_rfl)
      exact wp_load_mid 67 (.tmp 3) rfl _ _ e1 ((nms 64 f).toList) _ (rangeAp (Z2.out.2.2.2.chg hc)) Tryd.underlying67 rfl (infoPA _) ⟨_, rfl, rfl, Chg.refl _⟩
    ·intro o u V ho hV hc
     injection ho with ho
     subst ho
     refine ⟨rfl, ?_⟩
     have q19 : V 0 = .agg (nms 64 f) := hV 0 (by decide)
     have hres := Z2.out.2.2.1.chg hc
     refine wp_store_mid 67 (.tmp 2) (.tmp 19) rfl (w.heap.size + 1) 0 (nms 64 f) (by rfl) (Eq.trans (by rfl) q19) (by rw [n64_size]; exact nms_there hres 0 64 (by omega)) (szPA _) (nms_cells _ _) ?_
     rw [show u.setCells (w.heap.size + 1) 0 (nms 64 f).toList = u.setRow (w.heap.size + 1) (nms 64 f) from setRowPA hres _]
     go_wp2_with fail
     go_meet
     exact ⟨u, hc, rfl⟩
   obtain ⟨u, hcc, rfl⟩ := hcut
   obtain ⟨w3, hw3⟩ : ∃ zz0, zz0 = u.setRow (w.heap.size + 1) (nms 64 f) := ⟨_, rfl⟩
   have Z3 : Hid (Chg w w3 ∧ Ar w3 w.heap.size (q4 x y z t) ∧ Ar w3 (w.heap.size + 1) (nms 64 f) ∧ Ar w3 b3 (nms 64 f)) := by
    have ordO3 := O3.out
    rw [hw3]
    exact ⟨(Z2.out.1.trans hcc).setRow (by omega) _, (Z2.out.2.1.chg hcc).rowOther (by omega) _, (Z2.out.2.2.1.chg hcc).row _, (Z2.out.2.2.2.chg hcc).rowOther (by omega) _⟩
   rw [← hw3]
   clear hw3 hcc Z2 u
   go_wp2_with fail
   exact bp_A Tryd.results36 rfl rfl Z3.out.2.2.1 ⟨_, rfl, HM.out, Z3.out.1⟩
end Go.Proofs.YtjfidbifjagnpaaDoor
namespace Go.Proofs.YtjfidbifjagnpaaDoor
open Go.RowKit
set_option linter.unusedVariables false
set_option maxRecDepth 100000
theorem low4 {d : Int} (h : W64 d) : bits .and .u64 d 15 = d % 16 := by
 obtain ⟨n, rfl⟩ := Int.eq_ofNat_of_zero_le h.1
 have hn := h.2
 have hm : (BitVec.ofInt 64 15).toNat = 2 ^ 4 - 1 := by decide
 show IntKind.u64.wrap ((BitVec.ofInt 64 n &&& BitVec.ofInt 64 15).toNat : Nat) = _
 rw [BitVec.toNat_and, BitVec.toNat_ofInt, hm, Nat.and_two_pow_sub_one_eq_mod, IntKind.wrap_u64]
 omega
theorem dg_four (x : Int) (q t : Nat) (ht : t < 16) : dg B64 x q / 2 ^ (4 * t) % 16 = dg 16 x (16 * q + t) := by
 unfold dg
 have e1 : (16 : Int) ^ (16 * q + t) = B64 ^ q * 2 ^ (4 * t) := by rw [Int.pow_add, Int.pow_mul, Int.pow_mul]; rfl
 rw [e1, ← Int.ediv_ediv_of_nonneg (Int.le_of_lt (pow_pos' B64_pos q))]
 generalize x / B64 ^ q = y
 obtain ⟨k, hk⟩ : ∃ k : Nat, 64 = 4 * t + (k + 4) := ⟨60 - 4 * t, by omega⟩
 have e2 : B64 = 2 ^ (4 * t) * (16 * 2 ^ k) := by
  have : (2 : Int) ^ 64 = 2 ^ (4 * t) * (16 * 2 ^ k) := by rw [hk, Int.pow_add, Int.pow_add, Int.mul_comm (2 ^ k) (2 ^ 4)]; rfl
  rw [← this]
  rfl
 have hp : (0 : Int) < 2 ^ (4 * t) := Int.pow_pos (by decide)
 rw [e2]
 generalize (2 : Int) ^ (4 * t) = c at *
 generalize (2 : Int) ^ k = m
 have hy : y = y % (c * (16 * m)) + c * (16 * m * (y / (c * (16 * m)))) := by
  have := Int.emod_add_mul_ediv y (c * (16 * m))
  rw [Int.mul_assoc c (16 * m)] at this
  exact this.symm
 generalize y % (c * (16 * m)) = r at *
 generalize y / (c * (16 * m)) = s at *
 rw [hy, Int.add_mul_ediv_left _ _ (by omega), Int.mul_assoc 16 m s, Int.add_mul_emod_self_left]
set_option maxHeartbeats 8000000 in
theorem digitE_any (x : Int) (i : Nat) (hi : i < 64) (w : World) : Calls Tryd.prog 38 #[.agg (num x), .int .i64 i] w fun r w' => r = .returned (.int .u64 (dg 16 x i)) ∧ Chg w w' := by
 have hsA := num_size x
 obtain ⟨A, hA⟩ : ∃ A, A = num x := ⟨_, rfl⟩
 have HA : Hid (A = num x) := hA
 rw [← hA] at hsA ⊢
 obtain ⟨q, hq⟩ : ∃ q : Nat, (i : Int).tdiv 16 = q := ⟨i / 16, by rw [Int.tdiv_eq_ediv_of_nonneg (by omega)]; omega⟩
 obtain ⟨t, ht⟩ : ∃ t : Nat, (i : Int).tmod 16 = t := ⟨i % 16, by rw [Int.tmod_eq_emod_of_nonneg (by omega)]; omega⟩
 obtain ⟨t4, ht4⟩ : ∃ t4 : Nat, (t : Int) * 4 = t4 := ⟨t * 4, by omega⟩
 have hq' : q = i / 16 := by rw [Int.tdiv_eq_ediv_of_nonneg (by omega)] at hq; omega
 have ht' : t = i % 16 := by rw [Int.tmod_eq_emod_of_nonneg (by omega)] at ht; omega
 have ht4' : t4 = 4 * t := by omega
 have wq := wrap_i (x := (q : Int)) (by omega) (by omega)
 have wt := wrap_i (x := (t : Int)) (by omega) (by omega)
 have wt4 := wrap_i (x := (t4 : Int)) (by omega) (by omega)
 have lt : ¬ (t4 : Int) < 0 := by omega
 have lt64 : t4 < 64 := by omega
 have lq : (q : Int) < 4 := by omega
 have lq' : q < 4 := by omega
 have hdw : W64 (dg B64 x q) := dg_w x q
 have hsw : W64 (dg B64 x q / 2 ^ t4) := by
  have ⟨h0, h1⟩ := hdw
  have hp : (0 : Int) < 2 ^ t4 := Int.pow_pos (by decide)
  exact ⟨Int.ediv_nonneg h0 (by omega), Int.lt_of_le_of_lt (Int.ediv_le_self _ h0) h1⟩
 have em := low4 hsw
 have em2 := dg_four x q t (by omega)
 rw [← ht4'] at em2
 rw [em2] at em
 have ei : 16 * q + t = i := by omega
 rw [ei] at em
 obtain ⟨d, hd⟩ : ∃ d, d = dg B64 x q := ⟨_, rfl⟩
 obtain ⟨y, hy⟩ : ∃ y, y = dg 16 x i := ⟨_, rfl⟩
 rw [← hd, ← hy] at em
 rw [← hy]
 have HD : Hid (d = dg B64 x q) := hd
 clear hA hq' ht' hdw hsw ei hd hy em2 ht4'
 go_enter Tryd.func38, Tryd.ntmps38
 go_upto_region 1 with fail
 obtain ⟨w1, hw1⟩ : ∃ w1, w1 = w.alloc (.cells A 32) := ⟨_, rfl⟩
 have Z : Hid (Chg w w1 ∧ Ar w1 w.heap.size (num x)) := by
  rw [hw1, HA.out]
  exact ⟨(Chg.refl w).alloc _, Ar.new w _ _⟩
 have c1 : w1.cell? ⟨w.heap.size, q, none⟩ = some (.int .u64 d) := by
  rw [HD.out]
  exact (Z.out.2.cell q).trans (arr_get _ _ _ lq')
 rw [← hw1]
 clear hw1 hsA
 go_wp2_with fail
 go_ret
 exact ⟨rfl, Z.out.1⟩
end Go.Proofs.YtjfidbifjagnpaaDoor
