/-
  The field's sums, differences, products, as the program and the document call them; three times; the curve's number; squares.
-/
import Derived.Test.YtbdgmkejmfjobaaJr
import Derived.Test.YtbdgmkejmfjobaaJj
import Derived.Test.YtbdgmkejmfjobaaJl
import Derived.Test.YtbdgmkejmfjobaaJh
import Derived.Test.YtbdgmkejmfjobaaSm
namespace Go.Proofs.Ytbdgmkejmfjobaa
open Go.RowKit
set_option linter.unusedVariables false
set_option maxRecDepth 100000
set_option maxHeartbeats 16000000 in
theorem mulQ_any (a b : Int) (ha : N256 a) (hb : N256 b) (w : World) : Calls Try.prog 34 #[.agg (num a), .agg (num b)] w fun r w' => r = .returned (.agg (num (md 2 (a * b)))) ∧ Chg w w' := by
 have HN : Hid (N256 a ∧ N256 b) := ⟨ha, hb⟩
 clear ha hb
 have hz0 := zero25.1
 have hsA0 := num_size a
 obtain ⟨A0, hA0⟩ : ∃ zz0, zz0 = num a := ⟨_, rfl⟩
 have HA0 : Hid (A0 = num a) := hA0
 have hsA1 := num_size b
 obtain ⟨A1, hA1⟩ : ∃ zz0, zz0 = num b := ⟨_, rfl⟩
 have HA1 : Hid (A1 = num b) := hA1
 rw [← hA0] at hsA0 ⊢
 rw [← hA1] at hsA1 ⊢
 clear hA0 hA1
 go_enter Try.func34, Try.ntmps34
 go_upto_region 1 with fail
 obtain ⟨w1, hw1⟩ : ∃ w1, w1 = ((w.alloc (.cells A0 24)).alloc (.cells A1 24)).alloc (.cells (num 0) 24) := ⟨_, rfl⟩
 have Z1 : Hid (Chg w w1 ∧ Ar w1 w.heap.size (num a) ∧ Ar w1 (w.heap.size + 1) (num b) ∧ Ar w1 (w.heap.size + 1 + 1) (num 0)) := by
  have hnew0 := Ar.new w (num a) 24
  have hnew1 := Ar.new (w.alloc (.cells (num a) 24)) (num b) 24
  rw [World.size_alloc] at hnew1
  have hnew2 := Ar.new ((w.alloc (.cells (num a) 24)).alloc (.cells (num b) 24)) (num 0) 24
  rw [World.size_alloc, World.size_alloc] at hnew2
  rw [hw1, HA0.out, HA1.out]
  exact ⟨((((Chg.refl w).alloc _).alloc _).alloc _), (((hnew0).alloc _).alloc _), ((hnew1).alloc _), (hnew2)⟩
 rw [← hw1]
 clear hw1 hz0 hsA0 hsA1 HA0 HA1
 go_cut [] from 5 to 7 (fun wc => Chg w wc ∧ Ar wc (w.heap.size + 1 + 1) (num (md 2 (a * b))))
 case first =>
  refine regP 3 (fun j v wg => match j with
   | 0 => v = .agg (num a)
   | 1 => v = .agg (num b)
   | 2 => v = .agg (num (md 2 (a * b)))
   | _ => True) (by decide) (by kernel_rfl) ?_ ?_ ?_
  ·intro j v u1 u2 h hc; exact h
  ·intro i o ac u hi ho hsz hf hg hc
   have hcs : i = 0 ∨ i = 1 ∨ i = 2 := by omega
   rcases hcs with rfl | rfl | rfl <;> (injection ho with ho; subst ho; refine .inl ⟨wanted_none rfl, ?_⟩)
   ·exact ldN rfl (hf 2 (by kernel_rfl)) (rangeAp (Z1.out.2.1.chg hc)) rfl
   ·exact ldN rfl (hf 3 (by kernel_rfl)) (rangeAp (Z1.out.2.2.1.chg hc)) rfl
   ·have e1 : ac.eval (.const (.int .i64 2)) = .int .i64 2 := rfl
    have e2 : ac.eval (.tmp 5) = .agg (num a) := hg 0 (by decide) (by decide)
    have e3 : ac.eval (.tmp 6) = .agg (num b) := hg 1 (by decide) (by decide)
    refine opG_go 60 Try.f60 #[.const (.int .i64 2), .tmp 5, .tmp 6] #[35, 24, 24] rfl Try.func60 (by kernel_rfl) (by kernel_rfl) (by simp [e1, e2, e3]) (Calls.mono (mulM_any 2 a b HN.out.1 HN.out.2 _) ?_)
    rintro r u2 ⟨rfl, hc2⟩
    exact ⟨_, rfl, rfl, hc2⟩
  ·intro u V hV hc
   have q7 : V 2 = .agg (num (md 2 (a * b))) := hV 2 (by decide)
   have hres0 := (Z1.out.2.2.2.chg hc)
   refine wpList_store_mid rfl 24 (.tmp 4) (.tmp 7) rfl (w.heap.size + 1 + 1) 0 (num (md 2 (a * b))) (by rfl) (Eq.trans (by rfl) q7) (by rw [num_size]; exact thereN hres0) (szN _) (num_one _) ?_
   rw [setRowN hres0 _]
   have k0_c : Chg w (u.setRow (w.heap.size + 1 + 1) (num (md 2 (a * b)))) := ((Z1.out.1.trans hc).setRow (by omega) _)
   have k0_B4 := hres0.row (num (md 2 (a * b)))
   generalize (u.setRow (w.heap.size + 1 + 1) (num (md 2 (a * b)))) = u10 at k0_c k0_B4 ⊢
   go_wp2_with fail
   go_meet
   exact ⟨k0_c, k0_B4⟩
 have hz := hcut
 obtain ⟨w2, hw2⟩ : ∃ zz0, zz0 = wc := ⟨_, rfl⟩
 rw [← hw2] at hz ⊢
 have Z2 : Hid _ := hz
 clear hw2 hz Z1
 go_wp2_with fail
 exact bp_n Try.results34 rfl rfl Z2.out.2 ⟨rfl, Z2.out.1⟩
set_option maxHeartbeats 16000000 in
theorem addQ_any (a b : Int) (ha : N256 a) (hb : N256 b) (w : World) : Calls Try.prog 50 #[.agg (num a), .agg (num b)] w fun r w' => r = .returned (.agg (num (md 2 (a + b)))) ∧ Chg w w' := by
 have HN : Hid (N256 a ∧ N256 b) := ⟨ha, hb⟩
 clear ha hb
 have hz0 := zero25.1
 have hsA0 := num_size a
 obtain ⟨A0, hA0⟩ : ∃ zz0, zz0 = num a := ⟨_, rfl⟩
 have HA0 : Hid (A0 = num a) := hA0
 have hsA1 := num_size b
 obtain ⟨A1, hA1⟩ : ∃ zz0, zz0 = num b := ⟨_, rfl⟩
 have HA1 : Hid (A1 = num b) := hA1
 rw [← hA0] at hsA0 ⊢
 rw [← hA1] at hsA1 ⊢
 clear hA0 hA1
 go_enter Try.func50, Try.ntmps50
 go_upto_region 1 with fail
 obtain ⟨w1, hw1⟩ : ∃ w1, w1 = ((w.alloc (.cells A0 24)).alloc (.cells A1 24)).alloc (.cells (num 0) 24) := ⟨_, rfl⟩
 have Z1 : Hid (Chg w w1 ∧ Ar w1 w.heap.size (num a) ∧ Ar w1 (w.heap.size + 1) (num b) ∧ Ar w1 (w.heap.size + 1 + 1) (num 0)) := by
  have hnew0 := Ar.new w (num a) 24
  have hnew1 := Ar.new (w.alloc (.cells (num a) 24)) (num b) 24
  rw [World.size_alloc] at hnew1
  have hnew2 := Ar.new ((w.alloc (.cells (num a) 24)).alloc (.cells (num b) 24)) (num 0) 24
  rw [World.size_alloc, World.size_alloc] at hnew2
  rw [hw1, HA0.out, HA1.out]
  exact ⟨((((Chg.refl w).alloc _).alloc _).alloc _), (((hnew0).alloc _).alloc _), ((hnew1).alloc _), (hnew2)⟩
 rw [← hw1]
 clear hw1 hz0 hsA0 hsA1 HA0 HA1
 go_cut [] from 5 to 7 (fun wc => Chg w wc ∧ Ar wc (w.heap.size + 1 + 1) (num (md 2 (a + b))))
 case first =>
  refine regP 3 (fun j v wg => match j with
   | 0 => v = .agg (num a)
   | 1 => v = .agg (num b)
   | 2 => v = .agg (num (md 2 (a + b)))
   | _ => True) (by decide) (by kernel_rfl) ?_ ?_ ?_
  ·intro j v u1 u2 h hc; exact h
  ·intro i o ac u hi ho hsz hf hg hc
   have hcs : i = 0 ∨ i = 1 ∨ i = 2 := by omega
   rcases hcs with rfl | rfl | rfl <;> (injection ho with ho; subst ho; refine .inl ⟨wanted_none rfl, ?_⟩)
   ·exact ldN rfl (hf 2 (by kernel_rfl)) (rangeAp (Z1.out.2.1.chg hc)) rfl
   ·exact ldN rfl (hf 3 (by kernel_rfl)) (rangeAp (Z1.out.2.2.1.chg hc)) rfl
   ·have e1 : ac.eval (.const (.int .i64 2)) = .int .i64 2 := rfl
    have e2 : ac.eval (.tmp 5) = .agg (num a) := hg 0 (by decide) (by decide)
    have e3 : ac.eval (.tmp 6) = .agg (num b) := hg 1 (by decide) (by decide)
    refine opG_go 70 Try.f70 #[.const (.int .i64 2), .tmp 5, .tmp 6] #[35, 24, 24] rfl Try.func70 (by kernel_rfl) (by kernel_rfl) (by simp [e1, e2, e3]) (Calls.mono (addM_any 2 a b HN.out.1 HN.out.2 _) ?_)
    rintro r u2 ⟨rfl, hc2⟩
    exact ⟨_, rfl, rfl, hc2⟩
  ·intro u V hV hc
   have q7 : V 2 = .agg (num (md 2 (a + b))) := hV 2 (by decide)
   have hres0 := (Z1.out.2.2.2.chg hc)
   refine wpList_store_mid rfl 24 (.tmp 4) (.tmp 7) rfl (w.heap.size + 1 + 1) 0 (num (md 2 (a + b))) (by rfl) (Eq.trans (by rfl) q7) (by rw [num_size]; exact thereN hres0) (szN _) (num_one _) ?_
   rw [setRowN hres0 _]
   have k0_c : Chg w (u.setRow (w.heap.size + 1 + 1) (num (md 2 (a + b)))) := ((Z1.out.1.trans hc).setRow (by omega) _)
   have k0_B4 := hres0.row (num (md 2 (a + b)))
   generalize (u.setRow (w.heap.size + 1 + 1) (num (md 2 (a + b)))) = u10 at k0_c k0_B4 ⊢
   go_wp2_with fail
   go_meet
   exact ⟨k0_c, k0_B4⟩
 have hz := hcut
 obtain ⟨w2, hw2⟩ : ∃ zz0, zz0 = wc := ⟨_, rfl⟩
 rw [← hw2] at hz ⊢
 have Z2 : Hid _ := hz
 clear hw2 hz Z1
 go_wp2_with fail
 exact bp_n Try.results50 rfl rfl Z2.out.2 ⟨rfl, Z2.out.1⟩
set_option maxHeartbeats 16000000 in
theorem subQ_any (a b : Int) (ha : N256 a) (hb : N256 b) (w : World) : Calls Try.prog 52 #[.agg (num a), .agg (num b)] w fun r w' => r = .returned (.agg (num (md 2 (a - b)))) ∧ Chg w w' := by
 have HN : Hid (N256 a ∧ N256 b) := ⟨ha, hb⟩
 clear ha hb
 have hz0 := zero25.1
 have hsA0 := num_size a
 obtain ⟨A0, hA0⟩ : ∃ zz0, zz0 = num a := ⟨_, rfl⟩
 have HA0 : Hid (A0 = num a) := hA0
 have hsA1 := num_size b
 obtain ⟨A1, hA1⟩ : ∃ zz0, zz0 = num b := ⟨_, rfl⟩
 have HA1 : Hid (A1 = num b) := hA1
 rw [← hA0] at hsA0 ⊢
 rw [← hA1] at hsA1 ⊢
 clear hA0 hA1
 go_enter Try.func52, Try.ntmps52
 go_upto_region 1 with fail
 obtain ⟨w1, hw1⟩ : ∃ w1, w1 = ((w.alloc (.cells A0 24)).alloc (.cells A1 24)).alloc (.cells (num 0) 24) := ⟨_, rfl⟩
 have Z1 : Hid (Chg w w1 ∧ Ar w1 w.heap.size (num a) ∧ Ar w1 (w.heap.size + 1) (num b) ∧ Ar w1 (w.heap.size + 1 + 1) (num 0)) := by
  have hnew0 := Ar.new w (num a) 24
  have hnew1 := Ar.new (w.alloc (.cells (num a) 24)) (num b) 24
  rw [World.size_alloc] at hnew1
  have hnew2 := Ar.new ((w.alloc (.cells (num a) 24)).alloc (.cells (num b) 24)) (num 0) 24
  rw [World.size_alloc, World.size_alloc] at hnew2
  rw [hw1, HA0.out, HA1.out]
  exact ⟨((((Chg.refl w).alloc _).alloc _).alloc _), (((hnew0).alloc _).alloc _), ((hnew1).alloc _), (hnew2)⟩
 rw [← hw1]
 clear hw1 hz0 hsA0 hsA1 HA0 HA1
 go_cut [] from 5 to 7 (fun wc => Chg w wc ∧ Ar wc (w.heap.size + 1 + 1) (num (md 2 (a - b))))
 case first =>
  refine regP 3 (fun j v wg => match j with
   | 0 => v = .agg (num a)
   | 1 => v = .agg (num b)
   | 2 => v = .agg (num (md 2 (a - b)))
   | _ => True) (by decide) (by kernel_rfl) ?_ ?_ ?_
  ·intro j v u1 u2 h hc; exact h
  ·intro i o ac u hi ho hsz hf hg hc
   have hcs : i = 0 ∨ i = 1 ∨ i = 2 := by omega
   rcases hcs with rfl | rfl | rfl <;> (injection ho with ho; subst ho; refine .inl ⟨wanted_none rfl, ?_⟩)
   ·exact ldN rfl (hf 2 (by kernel_rfl)) (rangeAp (Z1.out.2.1.chg hc)) rfl
   ·exact ldN rfl (hf 3 (by kernel_rfl)) (rangeAp (Z1.out.2.2.1.chg hc)) rfl
   ·have e1 : ac.eval (.const (.int .i64 2)) = .int .i64 2 := rfl
    have e2 : ac.eval (.tmp 5) = .agg (num a) := hg 0 (by decide) (by decide)
    have e3 : ac.eval (.tmp 6) = .agg (num b) := hg 1 (by decide) (by decide)
    refine opG_go 71 Try.f71 #[.const (.int .i64 2), .tmp 5, .tmp 6] #[35, 24, 24] rfl Try.func71 (by kernel_rfl) (by kernel_rfl) (by simp [e1, e2, e3]) (Calls.mono (subM_any 2 a b HN.out.1 HN.out.2 _) ?_)
    rintro r u2 ⟨rfl, hc2⟩
    exact ⟨_, rfl, rfl, hc2⟩
  ·intro u V hV hc
   have q7 : V 2 = .agg (num (md 2 (a - b))) := hV 2 (by decide)
   have hres0 := (Z1.out.2.2.2.chg hc)
   refine wpList_store_mid rfl 24 (.tmp 4) (.tmp 7) rfl (w.heap.size + 1 + 1) 0 (num (md 2 (a - b))) (by rfl) (Eq.trans (by rfl) q7) (by rw [num_size]; exact thereN hres0) (szN _) (num_one _) ?_
   rw [setRowN hres0 _]
   have k0_c : Chg w (u.setRow (w.heap.size + 1 + 1) (num (md 2 (a - b)))) := ((Z1.out.1.trans hc).setRow (by omega) _)
   have k0_B4 := hres0.row (num (md 2 (a - b)))
   generalize (u.setRow (w.heap.size + 1 + 1) (num (md 2 (a - b)))) = u10 at k0_c k0_B4 ⊢
   go_wp2_with fail
   go_meet
   exact ⟨k0_c, k0_B4⟩
 have hz := hcut
 obtain ⟨w2, hw2⟩ : ∃ zz0, zz0 = wc := ⟨_, rfl⟩
 rw [← hw2] at hz ⊢
 have Z2 : Hid _ := hz
 clear hw2 hz Z1
 go_wp2_with fail
 exact bp_n Try.results52 rfl rfl Z2.out.2 ⟨rfl, Z2.out.1⟩
set_option maxHeartbeats 16000000 in
theorem mulS_any (a b : Int) (ha : N256 a) (hb : N256 b) (w : World) : Calls Try.prog 39 #[.agg (num a), .agg (num b)] w fun r w' => r = .returned (.agg (num (md 2 (a * b)))) ∧ Chg w w' := by
 have HN : Hid (N256 a ∧ N256 b) := ⟨ha, hb⟩
 clear ha hb
 have hz0 := zero25.1
 have hsA0 := num_size a
 obtain ⟨A0, hA0⟩ : ∃ zz0, zz0 = num a := ⟨_, rfl⟩
 have HA0 : Hid (A0 = num a) := hA0
 have hsA1 := num_size b
 obtain ⟨A1, hA1⟩ : ∃ zz0, zz0 = num b := ⟨_, rfl⟩
 have HA1 : Hid (A1 = num b) := hA1
 rw [← hA0] at hsA0 ⊢
 rw [← hA1] at hsA1 ⊢
 clear hA0 hA1
 go_enter Try.func39, Try.ntmps39
 go_upto_region 1 with fail
 obtain ⟨w1, hw1⟩ : ∃ w1, w1 = ((w.alloc (.cells A0 24)).alloc (.cells A1 24)).alloc (.cells (num 0) 24) := ⟨_, rfl⟩
 have Z1 : Hid (Chg w w1 ∧ Ar w1 w.heap.size (num a) ∧ Ar w1 (w.heap.size + 1) (num b) ∧ Ar w1 (w.heap.size + 1 + 1) (num 0)) := by
  have hnew0 := Ar.new w (num a) 24
  have hnew1 := Ar.new (w.alloc (.cells (num a) 24)) (num b) 24
  rw [World.size_alloc] at hnew1
  have hnew2 := Ar.new ((w.alloc (.cells (num a) 24)).alloc (.cells (num b) 24)) (num 0) 24
  rw [World.size_alloc, World.size_alloc] at hnew2
  rw [hw1, HA0.out, HA1.out]
  exact ⟨((((Chg.refl w).alloc _).alloc _).alloc _), (((hnew0).alloc _).alloc _), ((hnew1).alloc _), (hnew2)⟩
 rw [← hw1]
 clear hw1 hz0 hsA0 hsA1 HA0 HA1
 go_cut [] from 5 to 7 (fun wc => Chg w wc ∧ Ar wc (w.heap.size + 1 + 1) (num (md 2 (a * b))))
 case first =>
  refine regP 3 (fun j v wg => match j with
   | 0 => v = .agg (num a)
   | 1 => v = .agg (num b)
   | 2 => v = .agg (num (md 2 (a * b)))
   | _ => True) (by decide) (by kernel_rfl) ?_ ?_ ?_
  ·intro j v u1 u2 h hc; exact h
  ·intro i o ac u hi ho hsz hf hg hc
   have hcs : i = 0 ∨ i = 1 ∨ i = 2 := by omega
   rcases hcs with rfl | rfl | rfl <;> (injection ho with ho; subst ho; refine .inl ⟨wanted_none rfl, ?_⟩)
   ·exact ldN rfl (hf 2 (by kernel_rfl)) (rangeAp (Z1.out.2.1.chg hc)) rfl
   ·exact ldN rfl (hf 3 (by kernel_rfl)) (rangeAp (Z1.out.2.2.1.chg hc)) rfl
   ·have e1 : ac.eval (.const (.int .i64 2)) = .int .i64 2 := rfl
    have e2 : ac.eval (.tmp 5) = .agg (num a) := hg 0 (by decide) (by decide)
    have e3 : ac.eval (.tmp 6) = .agg (num b) := hg 1 (by decide) (by decide)
    refine opG_go 61 Try.f61 #[.const (.int .i64 2), .tmp 5, .tmp 6] #[35, 24, 24] rfl Try.func61 (by kernel_rfl) (by kernel_rfl) (by simp [e1, e2, e3]) (Calls.mono (mulR_any 2 a b HN.out.1 HN.out.2 _) ?_)
    rintro r u2 ⟨rfl, hc2⟩
    exact ⟨_, rfl, rfl, hc2⟩
  ·intro u V hV hc
   have q7 : V 2 = .agg (num (md 2 (a * b))) := hV 2 (by decide)
   have hres0 := (Z1.out.2.2.2.chg hc)
   refine wpList_store_mid rfl 24 (.tmp 4) (.tmp 7) rfl (w.heap.size + 1 + 1) 0 (num (md 2 (a * b))) (by rfl) (Eq.trans (by rfl) q7) (by rw [num_size]; exact thereN hres0) (szN _) (num_one _) ?_
   rw [setRowN hres0 _]
   have k0_c : Chg w (u.setRow (w.heap.size + 1 + 1) (num (md 2 (a * b)))) := ((Z1.out.1.trans hc).setRow (by omega) _)
   have k0_B4 := hres0.row (num (md 2 (a * b)))
   generalize (u.setRow (w.heap.size + 1 + 1) (num (md 2 (a * b)))) = u10 at k0_c k0_B4 ⊢
   go_wp2_with fail
   go_meet
   exact ⟨k0_c, k0_B4⟩
 have hz := hcut
 obtain ⟨w2, hw2⟩ : ∃ zz0, zz0 = wc := ⟨_, rfl⟩
 rw [← hw2] at hz ⊢
 have Z2 : Hid _ := hz
 clear hw2 hz Z1
 go_wp2_with fail
 exact bp_n Try.results39 rfl rfl Z2.out.2 ⟨rfl, Z2.out.1⟩
set_option maxHeartbeats 16000000 in
theorem addS_any (a b : Int) (ha : N256 a) (hb : N256 b) (w : World) : Calls Try.prog 37 #[.agg (num a), .agg (num b)] w fun r w' => r = .returned (.agg (num (md 2 (a + b)))) ∧ Chg w w' := by
 have HN : Hid (N256 a ∧ N256 b) := ⟨ha, hb⟩
 clear ha hb
 have hz0 := zero25.1
 have hsA0 := num_size a
 obtain ⟨A0, hA0⟩ : ∃ zz0, zz0 = num a := ⟨_, rfl⟩
 have HA0 : Hid (A0 = num a) := hA0
 have hsA1 := num_size b
 obtain ⟨A1, hA1⟩ : ∃ zz0, zz0 = num b := ⟨_, rfl⟩
 have HA1 : Hid (A1 = num b) := hA1
 rw [← hA0] at hsA0 ⊢
 rw [← hA1] at hsA1 ⊢
 clear hA0 hA1
 go_enter Try.func37, Try.ntmps37
 go_upto_region 1 with fail
 obtain ⟨w1, hw1⟩ : ∃ w1, w1 = ((w.alloc (.cells A0 24)).alloc (.cells A1 24)).alloc (.cells (num 0) 24) := ⟨_, rfl⟩
 have Z1 : Hid (Chg w w1 ∧ Ar w1 w.heap.size (num a) ∧ Ar w1 (w.heap.size + 1) (num b) ∧ Ar w1 (w.heap.size + 1 + 1) (num 0)) := by
  have hnew0 := Ar.new w (num a) 24
  have hnew1 := Ar.new (w.alloc (.cells (num a) 24)) (num b) 24
  rw [World.size_alloc] at hnew1
  have hnew2 := Ar.new ((w.alloc (.cells (num a) 24)).alloc (.cells (num b) 24)) (num 0) 24
  rw [World.size_alloc, World.size_alloc] at hnew2
  rw [hw1, HA0.out, HA1.out]
  exact ⟨((((Chg.refl w).alloc _).alloc _).alloc _), (((hnew0).alloc _).alloc _), ((hnew1).alloc _), (hnew2)⟩
 rw [← hw1]
 clear hw1 hz0 hsA0 hsA1 HA0 HA1
 go_cut [] from 5 to 7 (fun wc => Chg w wc ∧ Ar wc (w.heap.size + 1 + 1) (num (md 2 (a + b))))
 case first =>
  refine regP 3 (fun j v wg => match j with
   | 0 => v = .agg (num a)
   | 1 => v = .agg (num b)
   | 2 => v = .agg (num (md 2 (a + b)))
   | _ => True) (by decide) (by kernel_rfl) ?_ ?_ ?_
  ·intro j v u1 u2 h hc; exact h
  ·intro i o ac u hi ho hsz hf hg hc
   have hcs : i = 0 ∨ i = 1 ∨ i = 2 := by omega
   rcases hcs with rfl | rfl | rfl <;> (injection ho with ho; subst ho; refine .inl ⟨wanted_none rfl, ?_⟩)
   ·exact ldN rfl (hf 2 (by kernel_rfl)) (rangeAp (Z1.out.2.1.chg hc)) rfl
   ·exact ldN rfl (hf 3 (by kernel_rfl)) (rangeAp (Z1.out.2.2.1.chg hc)) rfl
   ·have e1 : ac.eval (.const (.int .i64 2)) = .int .i64 2 := rfl
    have e2 : ac.eval (.tmp 5) = .agg (num a) := hg 0 (by decide) (by decide)
    have e3 : ac.eval (.tmp 6) = .agg (num b) := hg 1 (by decide) (by decide)
    refine opG_go 19 Try.f19 #[.const (.int .i64 2), .tmp 5, .tmp 6] #[35, 24, 24] rfl Try.func19 (by kernel_rfl) (by kernel_rfl) (by simp [e1, e2, e3]) (Calls.mono (addR_any 2 a b HN.out.1 HN.out.2 _) ?_)
    rintro r u2 ⟨rfl, hc2⟩
    exact ⟨_, rfl, rfl, hc2⟩
  ·intro u V hV hc
   have q7 : V 2 = .agg (num (md 2 (a + b))) := hV 2 (by decide)
   have hres0 := (Z1.out.2.2.2.chg hc)
   refine wpList_store_mid rfl 24 (.tmp 4) (.tmp 7) rfl (w.heap.size + 1 + 1) 0 (num (md 2 (a + b))) (by rfl) (Eq.trans (by rfl) q7) (by rw [num_size]; exact thereN hres0) (szN _) (num_one _) ?_
   rw [setRowN hres0 _]
   have k0_c : Chg w (u.setRow (w.heap.size + 1 + 1) (num (md 2 (a + b)))) := ((Z1.out.1.trans hc).setRow (by omega) _)
   have k0_B4 := hres0.row (num (md 2 (a + b)))
   generalize (u.setRow (w.heap.size + 1 + 1) (num (md 2 (a + b)))) = u10 at k0_c k0_B4 ⊢
   go_wp2_with fail
   go_meet
   exact ⟨k0_c, k0_B4⟩
 have hz := hcut
 obtain ⟨w2, hw2⟩ : ∃ zz0, zz0 = wc := ⟨_, rfl⟩
 rw [← hw2] at hz ⊢
 have Z2 : Hid _ := hz
 clear hw2 hz Z1
 go_wp2_with fail
 exact bp_n Try.results37 rfl rfl Z2.out.2 ⟨rfl, Z2.out.1⟩
set_option maxHeartbeats 16000000 in
theorem subS_any (a b : Int) (ha : N256 a) (hb : N256 b) (w : World) : Calls Try.prog 38 #[.agg (num a), .agg (num b)] w fun r w' => r = .returned (.agg (num (md 2 (a - b)))) ∧ Chg w w' := by
 have HN : Hid (N256 a ∧ N256 b) := ⟨ha, hb⟩
 clear ha hb
 have hz0 := zero25.1
 have hsA0 := num_size a
 obtain ⟨A0, hA0⟩ : ∃ zz0, zz0 = num a := ⟨_, rfl⟩
 have HA0 : Hid (A0 = num a) := hA0
 have hsA1 := num_size b
 obtain ⟨A1, hA1⟩ : ∃ zz0, zz0 = num b := ⟨_, rfl⟩
 have HA1 : Hid (A1 = num b) := hA1
 rw [← hA0] at hsA0 ⊢
 rw [← hA1] at hsA1 ⊢
 clear hA0 hA1
 go_enter Try.func38, Try.ntmps38
 go_upto_region 1 with fail
 obtain ⟨w1, hw1⟩ : ∃ w1, w1 = ((w.alloc (.cells A0 24)).alloc (.cells A1 24)).alloc (.cells (num 0) 24) := ⟨_, rfl⟩
 have Z1 : Hid (Chg w w1 ∧ Ar w1 w.heap.size (num a) ∧ Ar w1 (w.heap.size + 1) (num b) ∧ Ar w1 (w.heap.size + 1 + 1) (num 0)) := by
  have hnew0 := Ar.new w (num a) 24
  have hnew1 := Ar.new (w.alloc (.cells (num a) 24)) (num b) 24
  rw [World.size_alloc] at hnew1
  have hnew2 := Ar.new ((w.alloc (.cells (num a) 24)).alloc (.cells (num b) 24)) (num 0) 24
  rw [World.size_alloc, World.size_alloc] at hnew2
  rw [hw1, HA0.out, HA1.out]
  exact ⟨((((Chg.refl w).alloc _).alloc _).alloc _), (((hnew0).alloc _).alloc _), ((hnew1).alloc _), (hnew2)⟩
 rw [← hw1]
 clear hw1 hz0 hsA0 hsA1 HA0 HA1
 go_cut [] from 5 to 7 (fun wc => Chg w wc ∧ Ar wc (w.heap.size + 1 + 1) (num (md 2 (a - b))))
 case first =>
  refine regP 3 (fun j v wg => match j with
   | 0 => v = .agg (num a)
   | 1 => v = .agg (num b)
   | 2 => v = .agg (num (md 2 (a - b)))
   | _ => True) (by decide) (by kernel_rfl) ?_ ?_ ?_
  ·intro j v u1 u2 h hc; exact h
  ·intro i o ac u hi ho hsz hf hg hc
   have hcs : i = 0 ∨ i = 1 ∨ i = 2 := by omega
   rcases hcs with rfl | rfl | rfl <;> (injection ho with ho; subst ho; refine .inl ⟨wanted_none rfl, ?_⟩)
   ·exact ldN rfl (hf 2 (by kernel_rfl)) (rangeAp (Z1.out.2.1.chg hc)) rfl
   ·exact ldN rfl (hf 3 (by kernel_rfl)) (rangeAp (Z1.out.2.2.1.chg hc)) rfl
   ·have e1 : ac.eval (.const (.int .i64 2)) = .int .i64 2 := rfl
    have e2 : ac.eval (.tmp 5) = .agg (num a) := hg 0 (by decide) (by decide)
    have e3 : ac.eval (.tmp 6) = .agg (num b) := hg 1 (by decide) (by decide)
    refine opG_go 40 Try.f40 #[.const (.int .i64 2), .tmp 5, .tmp 6] #[35, 24, 24] rfl Try.func40 (by kernel_rfl) (by kernel_rfl) (by simp [e1, e2, e3]) (Calls.mono (subR_any 2 a b HN.out.1 HN.out.2 _) ?_)
    rintro r u2 ⟨rfl, hc2⟩
    exact ⟨_, rfl, rfl, hc2⟩
  ·intro u V hV hc
   have q7 : V 2 = .agg (num (md 2 (a - b))) := hV 2 (by decide)
   have hres0 := (Z1.out.2.2.2.chg hc)
   refine wpList_store_mid rfl 24 (.tmp 4) (.tmp 7) rfl (w.heap.size + 1 + 1) 0 (num (md 2 (a - b))) (by rfl) (Eq.trans (by rfl) q7) (by rw [num_size]; exact thereN hres0) (szN _) (num_one _) ?_
   rw [setRowN hres0 _]
   have k0_c : Chg w (u.setRow (w.heap.size + 1 + 1) (num (md 2 (a - b)))) := ((Z1.out.1.trans hc).setRow (by omega) _)
   have k0_B4 := hres0.row (num (md 2 (a - b)))
   generalize (u.setRow (w.heap.size + 1 + 1) (num (md 2 (a - b)))) = u10 at k0_c k0_B4 ⊢
   go_wp2_with fail
   go_meet
   exact ⟨k0_c, k0_B4⟩
 have hz := hcut
 obtain ⟨w2, hw2⟩ : ∃ zz0, zz0 = wc := ⟨_, rfl⟩
 rw [← hw2] at hz ⊢
 have Z2 : Hid _ := hz
 clear hw2 hz Z1
 go_wp2_with fail
 exact bp_n Try.results38 rfl rfl Z2.out.2 ⟨rfl, Z2.out.1⟩
theorem oM {o : Oper} {ac : Act} {u : World} {a b : Int} {G : Value → World → Prop} {Q : Exit → Act → World → Prop} (X Y : Operand) (ho : o.op = .call { callee := .value (.func 34), args := #[X, Y], argTypes := #[24, 24] }) (e1 : ac.eval X = .agg (num a)) (e2 : ac.eval Y = .agg (num b)) (ha : N256 a) (hb : N256 b) (hG : ∀ u2, Chg u u2 → G (.agg (num (md 2 (a * b)))) u2) : o.wp Try.prog ac u (fun a' u' => ∃ v, a' = ac.put o.dst v ∧ G v u' ∧ Chg u u') Q := by
 refine opG_go 34 Try.f34 #[X, Y] #[24, 24] ho Try.func34 (by kernel_rfl) (by kernel_rfl) (by simp [e1, e2]) (Calls.mono (mulQ_any a b ha hb _) ?_)
 rintro r u2 ⟨rfl, hc2⟩
 exact ⟨_, rfl, hG u2 hc2, hc2⟩
theorem oA {o : Oper} {ac : Act} {u : World} {a b : Int} {G : Value → World → Prop} {Q : Exit → Act → World → Prop} (X Y : Operand) (ho : o.op = .call { callee := .value (.func 50), args := #[X, Y], argTypes := #[24, 24] }) (e1 : ac.eval X = .agg (num a)) (e2 : ac.eval Y = .agg (num b)) (ha : N256 a) (hb : N256 b) (hG : ∀ u2, Chg u u2 → G (.agg (num (md 2 (a + b)))) u2) : o.wp Try.prog ac u (fun a' u' => ∃ v, a' = ac.put o.dst v ∧ G v u' ∧ Chg u u') Q := by
 refine opG_go 50 Try.f50 #[X, Y] #[24, 24] ho Try.func50 (by kernel_rfl) (by kernel_rfl) (by simp [e1, e2]) (Calls.mono (addQ_any a b ha hb _) ?_)
 rintro r u2 ⟨rfl, hc2⟩
 exact ⟨_, rfl, hG u2 hc2, hc2⟩
theorem oS {o : Oper} {ac : Act} {u : World} {a b : Int} {G : Value → World → Prop} {Q : Exit → Act → World → Prop} (X Y : Operand) (ho : o.op = .call { callee := .value (.func 52), args := #[X, Y], argTypes := #[24, 24] }) (e1 : ac.eval X = .agg (num a)) (e2 : ac.eval Y = .agg (num b)) (ha : N256 a) (hb : N256 b) (hG : ∀ u2, Chg u u2 → G (.agg (num (md 2 (a - b)))) u2) : o.wp Try.prog ac u (fun a' u' => ∃ v, a' = ac.put o.dst v ∧ G v u' ∧ Chg u u') Q := by
 refine opG_go 52 Try.f52 #[X, Y] #[24, 24] ho Try.func52 (by kernel_rfl) (by kernel_rfl) (by simp [e1, e2]) (Calls.mono (subQ_any a b ha hb _) ?_)
 rintro r u2 ⟨rfl, hc2⟩
 exact ⟨_, rfl, hG u2 hc2, hc2⟩
theorem dM {o : Oper} {ac : Act} {u : World} {a b : Int} {G : Value → World → Prop} {Q : Exit → Act → World → Prop} (X Y : Operand) (ho : o.op = .call { callee := .value (.func 39), args := #[X, Y], argTypes := #[24, 24] }) (e1 : ac.eval X = .agg (num a)) (e2 : ac.eval Y = .agg (num b)) (ha : N256 a) (hb : N256 b) (hG : ∀ u2, Chg u u2 → G (.agg (num (md 2 (a * b)))) u2) : o.wp Try.prog ac u (fun a' u' => ∃ v, a' = ac.put o.dst v ∧ G v u' ∧ Chg u u') Q := by
 refine opG_go 39 Try.f39 #[X, Y] #[24, 24] ho Try.func39 (by kernel_rfl) (by kernel_rfl) (by simp [e1, e2]) (Calls.mono (mulS_any a b ha hb _) ?_)
 rintro r u2 ⟨rfl, hc2⟩
 exact ⟨_, rfl, hG u2 hc2, hc2⟩
theorem dA {o : Oper} {ac : Act} {u : World} {a b : Int} {G : Value → World → Prop} {Q : Exit → Act → World → Prop} (X Y : Operand) (ho : o.op = .call { callee := .value (.func 37), args := #[X, Y], argTypes := #[24, 24] }) (e1 : ac.eval X = .agg (num a)) (e2 : ac.eval Y = .agg (num b)) (ha : N256 a) (hb : N256 b) (hG : ∀ u2, Chg u u2 → G (.agg (num (md 2 (a + b)))) u2) : o.wp Try.prog ac u (fun a' u' => ∃ v, a' = ac.put o.dst v ∧ G v u' ∧ Chg u u') Q := by
 refine opG_go 37 Try.f37 #[X, Y] #[24, 24] ho Try.func37 (by kernel_rfl) (by kernel_rfl) (by simp [e1, e2]) (Calls.mono (addS_any a b ha hb _) ?_)
 rintro r u2 ⟨rfl, hc2⟩
 exact ⟨_, rfl, hG u2 hc2, hc2⟩
theorem dS {o : Oper} {ac : Act} {u : World} {a b : Int} {G : Value → World → Prop} {Q : Exit → Act → World → Prop} (X Y : Operand) (ho : o.op = .call { callee := .value (.func 38), args := #[X, Y], argTypes := #[24, 24] }) (e1 : ac.eval X = .agg (num a)) (e2 : ac.eval Y = .agg (num b)) (ha : N256 a) (hb : N256 b) (hG : ∀ u2, Chg u u2 → G (.agg (num (md 2 (a - b)))) u2) : o.wp Try.prog ac u (fun a' u' => ∃ v, a' = ac.put o.dst v ∧ G v u' ∧ Chg u u') Q := by
 refine opG_go 38 Try.f38 #[X, Y] #[24, 24] ho Try.func38 (by kernel_rfl) (by kernel_rfl) (by simp [e1, e2]) (Calls.mono (subS_any a b ha hb _) ?_)
 rintro r u2 ⟨rfl, hc2⟩
 exact ⟨_, rfl, hG u2 hc2, hc2⟩
set_option maxHeartbeats 16000000 in
theorem thriceQ_any (a : Int) (ha : N256 a) (w : World) : Calls Try.prog 51 #[.agg (num a)] w fun r w' => r = .returned (.agg (num (thr a))) ∧ Chg w w' := by
 have HN : Hid (N256 a) := ha
 clear ha
 have hz0 := zero25.1
 have hsA0 := num_size a
 obtain ⟨A0, hA0⟩ : ∃ zz0, zz0 = num a := ⟨_, rfl⟩
 have HA0 : Hid (A0 = num a) := hA0
 rw [← hA0] at hsA0 ⊢
 clear hA0
 go_enter Try.func51, Try.ntmps51
 go_upto_region 1 with fail
 obtain ⟨w1, hw1⟩ : ∃ w1, w1 = (w.alloc (.cells A0 24)).alloc (.cells (num 0) 24) := ⟨_, rfl⟩
 have Z1 : Hid (Chg w w1 ∧ Ar w1 w.heap.size (num a) ∧ Ar w1 (w.heap.size + 1) (num 0)) := by
  have hnew0 := Ar.new w (num a) 24
  have hnew1 := Ar.new (w.alloc (.cells (num a) 24)) (num 0) 24
  rw [World.size_alloc] at hnew1
  rw [hw1, HA0.out]
  exact ⟨(((Chg.refl w).alloc _).alloc _), ((hnew0).alloc _), (hnew1)⟩
 rw [← hw1]
 clear hw1 hz0 hsA0 HA0
 go_cut [] from 3 to 7 (fun wc => Chg w wc ∧ Ar wc (w.heap.size + 1) (num (md 2 (a + (md 2 (a + a))))))
 case first =>
  refine regM 5 (fun j => false) (fun j v wg => match j with
   | 0 => v = .agg (num a)
   | 1 => v = .agg (num a)
   | 2 => v = .agg (num a)
   | 3 => v = .agg (num (md 2 (a + a)))
   | 4 => v = .agg (num (md 2 (a + (md 2 (a + a)))))
   | _ => True) (by kernel_rfl) (by decide) (by kernel_rfl) (by kernel_rfl) (by kernel_rfl) (by kernel_rfl) ?_ ?_ ?_ ?_
  ·intro j v u1 u2 h hc; exact h
  ·intro j v u hj ha h
   cases ha
  ·intro i o ac u hi ho hsz hf hg hc
   have hcs : i = 0 ∨ i = 1 ∨ i = 2 ∨ i = 3 ∨ i = 4 := by omega
   rcases hcs with rfl | rfl | rfl | rfl | rfl <;> (injection ho with ho; subst ho; refine ⟨wanted_none rfl, ?_⟩)
   ·exact ldN rfl (hf 1 (by kernel_rfl)) (rangeAp (Z1.out.2.1.chg hc)) ⟨rfl, fun h => by cases h⟩
   ·exact ldN rfl (hf 1 (by kernel_rfl)) (rangeAp (Z1.out.2.1.chg hc)) ⟨rfl, fun h => by cases h⟩
   ·exact ldN rfl (hf 1 (by kernel_rfl)) (rangeAp (Z1.out.2.1.chg hc)) ⟨rfl, fun h => by cases h⟩
   ·exact oA (.tmp 4) (.tmp 5) rfl (hg 1 (by kernel_rfl) (by decide)) (hg 2 (by kernel_rfl) (by decide)) (HN.out) (HN.out) fun _ _ => ⟨rfl, fun h => by cases h⟩
   ·exact oA (.tmp 3) (.tmp 6) rfl (hg 0 (by kernel_rfl) (by decide)) (hg 3 (by kernel_rfl) (by decide)) (HN.out) (md_N _ _) fun _ _ => ⟨rfl, fun h => by cases h⟩
  ·intro u V hV hap hc
   have q7 : V 4 = .agg (num (md 2 (a + (md 2 (a + a))))) := hV 4 (by decide)
   have hres0 := (Z1.out.2.2.chg hc)
   refine tail_cons rfl rfl ?_
   refine wp_store_mid 24 (.tmp 2) (.tmp 7) rfl (w.heap.size + 1) 0 (num (md 2 (a + (md 2 (a + a))))) (by rfl) (Eq.trans (by rfl) q7) (by rw [num_size]; exact thereN hres0) (szN _) (num_one _) ?_
   rw [setRowN hres0 _]
   have k0_c : Chg w (u.setRow (w.heap.size + 1) (num (md 2 (a + (md 2 (a + a)))))) := ((Z1.out.1.trans hc).setRow (by omega) _)
   have k0_B2 := hres0.row (num (md 2 (a + (md 2 (a + a)))))
   generalize (u.setRow (w.heap.size + 1) (num (md 2 (a + (md 2 (a + a)))))) = u10 at k0_c k0_B2 ⊢
   refine tail_nil rfl ?_
   go_wp2_with fail
   go_meet
   exact ⟨k0_c, k0_B2⟩
 have hz := hcut
 obtain ⟨w2, hw2⟩ : ∃ zz0, zz0 = wc := ⟨_, rfl⟩
 rw [← hw2] at hz ⊢
 have Z2 : Hid _ := hz
 clear hw2 hz Z1
 go_wp2_with fail
 exact bp_n Try.results51 rfl rfl Z2.out.2 ⟨rfl, Z2.out.1⟩
set_option maxHeartbeats 16000000 in
theorem curveQ_any  (w : World) : Calls Try.prog 53 #[] w fun r w' => r = .returned (.agg (num bQ)) ∧ Chg w w' := by
 have hz0 := zero25.1
 go_enter Try.func53, Try.ntmps53
 go_upto_region 1 with fail
 obtain ⟨w1, hw1⟩ : ∃ w1, w1 = w.alloc (.cells (num 0) 24) := ⟨_, rfl⟩
 have Z1 : Hid (Chg w w1 ∧ Ar w1 w.heap.size (num 0)) := by
  have hnew0 := Ar.new w (num 0) 24
  rw [hw1]
  exact ⟨((Chg.refl w).alloc _), (hnew0)⟩
 rw [← hw1]
 clear hw1 hz0
 go_cut [] from 1 to 1 (fun wc => Chg w wc ∧ Ar wc w.heap.size (num bQ))
 case first =>
  refine regP 1 (fun j v wg => match j with
   | 0 => v = .agg (num bQ)
   | _ => True) (by decide) (by kernel_rfl) ?_ ?_ ?_
  ·intro j v u1 u2 h hc; exact h
  ·intro i o ac u hi ho hsz hf hg hc
   have hcs : i = 0 := by omega
   rcases hcs with rfl <;> (injection ho with ho; subst ho; refine .inl ⟨wanted_none rfl, ?_⟩)
   ·exact opG_built _ [(0, .int .u64 4309448131093880907), (1, .int .u64 7285987128567378166), (2, .int .u64 12964664127075681980), (3, .int .u64 6540974713487397863)] rfl (by kernel_rfl) (by kernel_rfl) rfl
  ·intro u V hV hc
   have q1 : V 0 = .agg (num bQ) := hV 0 (by decide)
   have hres0 := (Z1.out.2.chg hc)
   refine wpList_store_mid rfl 24 (.tmp 0) (.tmp 1) rfl w.heap.size 0 (num bQ) (by rfl) (Eq.trans (by rfl) q1) (by rw [num_size]; exact thereN hres0) (szN _) (num_one _) ?_
   rw [setRowN hres0 _]
   have k0_c : Chg w (u.setRow w.heap.size (num bQ)) := ((Z1.out.1.trans hc).setRow (by omega) _)
   have k0_B0 := hres0.row (num bQ)
   generalize (u.setRow w.heap.size (num bQ)) = u10 at k0_c k0_B0 ⊢
   go_wp2_with fail
   go_meet
   exact ⟨k0_c, k0_B0⟩
 have hz := hcut
 obtain ⟨w2, hw2⟩ : ∃ zz0, zz0 = wc := ⟨_, rfl⟩
 rw [← hw2] at hz ⊢
 have Z2 : Hid _ := hz
 clear hw2 hz Z1
 go_wp2_with fail
 exact bp_n Try.results53 rfl rfl Z2.out.2 ⟨rfl, Z2.out.1⟩
set_option maxHeartbeats 16000000 in
theorem squareQ_any (a : Int) (ha : N256 a) (w : World) : Calls Try.prog 35 #[.agg (num a)] w fun r w' => r = .returned (.agg (num (sqv a))) ∧ Chg w w' := by
 have HN : Hid (N256 a) := ha
 clear ha
 have hz0 := zero25.1
 have hsA0 := num_size a
 obtain ⟨A0, hA0⟩ : ∃ zz0, zz0 = num a := ⟨_, rfl⟩
 have HA0 : Hid (A0 = num a) := hA0
 rw [← hA0] at hsA0 ⊢
 clear hA0
 go_enter Try.func35, Try.ntmps35
 go_upto_region 1 with fail
 obtain ⟨w1, hw1⟩ : ∃ w1, w1 = (w.alloc (.cells A0 24)).alloc (.cells (num 0) 24) := ⟨_, rfl⟩
 have Z1 : Hid (Chg w w1 ∧ Ar w1 w.heap.size (num a) ∧ Ar w1 (w.heap.size + 1) (num 0)) := by
  have hnew0 := Ar.new w (num a) 24
  have hnew1 := Ar.new (w.alloc (.cells (num a) 24)) (num 0) 24
  rw [World.size_alloc] at hnew1
  rw [hw1, HA0.out]
  exact ⟨(((Chg.refl w).alloc _).alloc _), ((hnew0).alloc _), (hnew1)⟩
 rw [← hw1]
 clear hw1 hz0 hsA0 HA0
 go_cut [3] from 3 to 8 (fun v3 wc => ∃ b3, v3 = .pointer (some ⟨b3, 0, none⟩) ∧ w.heap.size + 1 ≠ b3 ∧ Chg w wc ∧ Ar wc w.heap.size (num a) ∧ Ar wc (w.heap.size + 1) (num 0) ∧ Ar wc b3 (num (md 2 (a * (md 2 (a * a))))))
 case first =>
  refine regM 6 (fun j => j == 5) (fun j v wg => match j with
   | 0 => v = .agg (num a)
   | 1 => v = .agg (num a)
   | 2 => v = .agg (num a)
   | 3 => v = .agg (num (md 2 (a * a)))
   | 4 => v = .agg (num (md 2 (a * (md 2 (a * a)))))
   | 5 => ∃ b, v = .pointer (some ⟨b, 0, none⟩) ∧ Ar wg b (num 0) ∧ w1.heap.size ≤ b
   | _ => True) (by kernel_rfl) (by decide) (by kernel_rfl) (by kernel_rfl) (by kernel_rfl) (by kernel_rfl) ?_ ?_ ?_ ?_
  ·intro j v u1 u2 h hc
   match j, h with
   | 0, h => exact h
   | 1, h => exact h
   | 2, h => exact h
   | 3, h => exact h
   | 4, h => exact h
   | 5, h => (obtain ⟨b, h1, h2, h3⟩ := h; exact ⟨b, h1, h2.chg hc, h3⟩)
   | _ + 6, h => exact trivial
  ·intro j v u hj ha h
   have hcs : j = 5 := by simpa [or_assoc] using ha
   rcases hcs with rfl
   ·obtain ⟨b, h1, h2, h3⟩ := h; exact ⟨b, h1, h2.lt⟩
  ·intro i o ac u hi ho hsz hf hg hc
   have hcs : i = 0 ∨ i = 1 ∨ i = 2 ∨ i = 3 ∨ i = 4 ∨ i = 5 := by omega
   rcases hcs with rfl | rfl | rfl | rfl | rfl | rfl <;> (injection ho with ho; subst ho; refine ⟨wanted_none rfl, ?_⟩)
   ·exact ldN rfl (hf 1 (by kernel_rfl)) (rangeAp (Z1.out.2.1.chg hc)) ⟨rfl, fun h => by cases h⟩
   ·exact ldN rfl (hf 1 (by kernel_rfl)) (rangeAp (Z1.out.2.1.chg hc)) ⟨rfl, fun h => by cases h⟩
   ·exact ldN rfl (hf 1 (by kernel_rfl)) (rangeAp (Z1.out.2.1.chg hc)) ⟨rfl, fun h => by cases h⟩
   ·exact oM (.tmp 5) (.tmp 6) rfl (hg 1 (by kernel_rfl) (by decide)) (hg 2 (by kernel_rfl) (by decide)) (HN.out) (HN.out) fun _ _ => ⟨rfl, fun h => by cases h⟩
   ·exact oM (.tmp 4) (.tmp 7) rfl (hg 0 (by kernel_rfl) (by decide)) (hg 3 (by kernel_rfl) (by decide)) (HN.out) (md_N _ _) fun _ _ => ⟨rfl, fun h => by cases h⟩
   ·exact opG_val (v := .pointer (some ⟨u.heap.size, 0, none⟩)) (w' := u.alloc (.cells (num 0) 24)) (by generalize ac.eval = ρ; simp [go_sem, execOp, zero25.1]) ⟨⟨_, rfl, Ar.new _ _ _, hc.size⟩, fun _ => rfl⟩ ((Chg.refl _).alloc _)
  ·intro u V hV hap hc
   have q8 : V 4 = .agg (num (md 2 (a * (md 2 (a * a))))) := hV 4 (by decide)
   obtain ⟨b3, q3, r3, s3⟩ := hV 5 (by decide)
   have lw3 : w.heap.size ≤ b3 := Nat.le_trans Z1.out.1.size s3
   have hres0 := r3
   refine tail_cons rfl rfl ?_
   refine wp_store_mid 24 (.tmp 3) (.tmp 8) rfl b3 0 (num (md 2 (a * (md 2 (a * a))))) (Eq.trans (by rfl) q3) (Eq.trans (by rfl) q8) (by rw [num_size]; exact thereN hres0) (szN _) (num_one _) ?_
   rw [setRowN hres0 _]
   have k0_c : Chg w (u.setRow b3 (num (md 2 (a * (md 2 (a * a)))))) := ((Z1.out.1.trans hc).setRow lw3 _)
   have k0_B1 := (Z1.out.2.1.chg hc).rowOther (Z1.out.2.1.apart s3) (num (md 2 (a * (md 2 (a * a)))))
   have k0_B2 := (Z1.out.2.2.chg hc).rowOther (Z1.out.2.2.apart s3) (num (md 2 (a * (md 2 (a * a)))))
   have k0_B3 := hres0.row (num (md 2 (a * (md 2 (a * a)))))
   generalize (u.setRow b3 (num (md 2 (a * (md 2 (a * a)))))) = u10 at k0_c k0_B1 k0_B2 k0_B3 ⊢
   refine tail_nil rfl ?_
   go_wp2_with fail
   go_meet
   exact ⟨b3, q3, Z1.out.2.2.apart s3, k0_c, k0_B1, k0_B2, k0_B3⟩
 obtain ⟨b3, rfl, of0, hz⟩ := hcut
 obtain ⟨w2, hw2⟩ : ∃ zz0, zz0 = wc := ⟨_, rfl⟩
 rw [← hw2] at hz ⊢
 have Z2 : Hid _ := hz
 have O2_0 : Hid _ := of0
 clear hw2 hz of0 Z1
 go_upto_region 2 with fail
 go_cut [] from 9 to 14 (fun wc => Chg w wc ∧ Ar wc (w.heap.size + 1) (num (md 2 ((md 2 ((md 2 (a * (md 2 (a * a)))) - (thr a))) + bQ))))
 case first =>
  refine regM 6 (fun j => false) (fun j v wg => match j with
   | 0 => v = .agg (num (md 2 (a * (md 2 (a * a)))))
   | 1 => v = .agg (num a)
   | 2 => v = .agg (num (thr a))
   | 3 => v = .agg (num (md 2 ((md 2 (a * (md 2 (a * a)))) - (thr a))))
   | 4 => v = .agg (num bQ)
   | 5 => v = .agg (num (md 2 ((md 2 ((md 2 (a * (md 2 (a * a)))) - (thr a))) + bQ)))
   | _ => True) (by kernel_rfl) (by decide) (by kernel_rfl) (by kernel_rfl) (by kernel_rfl) (by kernel_rfl) ?_ ?_ ?_ ?_
  ·intro j v u1 u2 h hc; exact h
  ·intro j v u hj ha h
   cases ha
  ·intro i o ac u hi ho hsz hf hg hc
   have hcs : i = 0 ∨ i = 1 ∨ i = 2 ∨ i = 3 ∨ i = 4 ∨ i = 5 := by omega
   rcases hcs with rfl | rfl | rfl | rfl | rfl | rfl <;> (injection ho with ho; subst ho; refine ⟨wanted_none rfl, ?_⟩)
   ·exact ldN rfl (hf 3 (by kernel_rfl)) (rangeAp (Z2.out.2.2.2.chg hc)) ⟨rfl, fun h => by cases h⟩
   ·exact ldN rfl (hf 1 (by kernel_rfl)) (rangeAp (Z2.out.2.1.chg hc)) ⟨rfl, fun h => by cases h⟩
   ·have e1 : ac.eval (.tmp 10) = .agg (num a) := hg 1 (by kernel_rfl) (by decide)
    refine opG_go 51 Try.f51 #[.tmp 10] #[24] rfl Try.func51 (by kernel_rfl) (by kernel_rfl) (by simp [e1]) (Calls.mono (thriceQ_any a (HN.out) _) ?_)
    rintro r u2 ⟨rfl, hc2⟩
    exact ⟨_, rfl, ⟨rfl, fun h => by cases h⟩, hc2⟩
   ·exact oS (.tmp 9) (.tmp 11) rfl (hg 0 (by kernel_rfl) (by decide)) (hg 2 (by kernel_rfl) (by decide)) (md_N _ _) (thr_N _) fun _ _ => ⟨rfl, fun h => by cases h⟩
   ·refine opG_go 53 Try.f53 #[] #[] rfl Try.func53 (by kernel_rfl) (by kernel_rfl) (by simp []) (Calls.mono (curveQ_any _) ?_)
    rintro r u2 ⟨rfl, hc2⟩
    exact ⟨_, rfl, ⟨rfl, fun h => by cases h⟩, hc2⟩
   ·exact oA (.tmp 12) (.tmp 13) rfl (hg 3 (by kernel_rfl) (by decide)) (hg 4 (by kernel_rfl) (by decide)) (md_N _ _) N_bQ fun _ _ => ⟨rfl, fun h => by cases h⟩
  ·intro u V hV hap hc
   have q14 : V 5 = .agg (num (md 2 ((md 2 ((md 2 (a * (md 2 (a * a)))) - (thr a))) + bQ))) := hV 5 (by decide)
   have ordO2_0 := O2_0.out
   have hres0 := (Z2.out.2.2.1.chg hc)
   refine tail_cons rfl rfl ?_
   refine wp_store_mid 24 (.tmp 2) (.tmp 14) rfl (w.heap.size + 1) 0 (num (md 2 ((md 2 ((md 2 (a * (md 2 (a * a)))) - (thr a))) + bQ))) (by rfl) (Eq.trans (by rfl) q14) (by rw [num_size]; exact thereN hres0) (szN _) (num_one _) ?_
   rw [setRowN hres0 _]
   have k0_c : Chg w (u.setRow (w.heap.size + 1) (num (md 2 ((md 2 ((md 2 (a * (md 2 (a * a)))) - (thr a))) + bQ)))) := ((Z2.out.1.trans hc).setRow (by omega) _)
   have k0_B2 := hres0.row (num (md 2 ((md 2 ((md 2 (a * (md 2 (a * a)))) - (thr a))) + bQ)))
   generalize (u.setRow (w.heap.size + 1) (num (md 2 ((md 2 ((md 2 (a * (md 2 (a * a)))) - (thr a))) + bQ)))) = u10 at k0_c k0_B2 ⊢
   refine tail_nil rfl ?_
   go_wp2_with fail
   go_meet
   exact ⟨k0_c, k0_B2⟩
 have hz := hcut
 obtain ⟨w3, hw3⟩ : ∃ zz0, zz0 = wc := ⟨_, rfl⟩
 rw [← hw3] at hz ⊢
 have Z3 : Hid _ := hz
 clear hw3 hz Z2
 go_wp2_with fail
 exact bp_n Try.results35 rfl rfl Z3.out.2 ⟨rfl, Z3.out.1⟩
set_option maxHeartbeats 16000000 in
theorem zeroQ_any  (w : World) : Calls Try.prog 24 #[] w fun r w' => r = .returned (.agg (pt true 0 0)) ∧ Chg w w' := by
 have hz0 := zeroPt.1
 go_enter Try.func24, Try.ntmps24
 go_upto_region 1 with fail
 obtain ⟨w1, hw1⟩ : ∃ w1, w1 = w.alloc (.cells (pt false 0 0) 26) := ⟨_, rfl⟩
 have Z1 : Hid (Chg w w1 ∧ Ar w1 w.heap.size (pt false 0 0)) := by
  have hnew0 := Ar.new w (pt false 0 0) 26
  rw [hw1]
  exact ⟨((Chg.refl w).alloc _), (hnew0)⟩
 rw [← hw1]
 clear hw1 hz0
 go_cut [] from 1 to 1 (fun wc => Chg w wc ∧ Ar wc w.heap.size (pt true 0 0))
 case first =>
  refine regP 1 (fun j v wg => match j with
   | 0 => v = .agg (pt true 0 0)
   | _ => True) (by decide) (by kernel_rfl) ?_ ?_ ?_
  ·intro j v u1 u2 h hc; exact h
  ·intro i o ac u hi ho hsz hf hg hc
   have hcs : i = 0 := by omega
   rcases hcs with rfl <;> (injection ho with ho; subst ho; refine .inl ⟨wanted_none rfl, ?_⟩)
   ·exact opG_built _ [(0, .bool true)] rfl (by kernel_rfl) builtPtZ rfl
  ·intro u V hV hc
   have q1 : V 0 = .agg (pt true 0 0) := hV 0 (by decide)
   have hres0 := (Z1.out.2.chg hc)
   refine wpList_store_mid rfl 26 (.tmp 0) (.tmp 1) rfl w.heap.size 0 (pt true 0 0) (by rfl) (Eq.trans (by rfl) q1) (by rw [pt_size]; exact pt_there hres0) (szPt _ _ _) (pt_one _ _ _) ?_
   rw [setRowPt hres0 _ _ _]
   have k0_c : Chg w (u.setRow w.heap.size (pt true 0 0)) := ((Z1.out.1.trans hc).setRow (by omega) _)
   have k0_B0 := hres0.row (pt true 0 0)
   generalize (u.setRow w.heap.size (pt true 0 0)) = u10 at k0_c k0_B0 ⊢
   go_wp2_with fail
   go_meet
   exact ⟨k0_c, k0_B0⟩
 have hz := hcut
 obtain ⟨w2, hw2⟩ : ∃ zz0, zz0 = wc := ⟨_, rfl⟩
 rw [← hw2] at hz ⊢
 have Z2 : Hid _ := hz
 clear hw2 hz Z1
 go_wp2_with fail
 exact bp_Pt Try.results24 rfl rfl Z2.out.2 ⟨rfl, Z2.out.1⟩
set_option maxHeartbeats 16000000 in
theorem baseQ_any  (w : World) : Calls Try.prog 15 #[] w fun r w' => r = .returned (.agg (pt false gX gY)) ∧ Chg w w' := by
 have hz0 := zeroPt.1
 go_enter Try.func15, Try.ntmps15
 go_upto_region 1 with fail
 obtain ⟨w1, hw1⟩ : ∃ w1, w1 = w.alloc (.cells (pt false 0 0) 26) := ⟨_, rfl⟩
 have Z1 : Hid (Chg w w1 ∧ Ar w1 w.heap.size (pt false 0 0)) := by
  have hnew0 := Ar.new w (pt false 0 0) 26
  rw [hw1]
  exact ⟨((Chg.refl w).alloc _), (hnew0)⟩
 rw [← hw1]
 clear hw1 hz0
 go_cut [] from 1 to 3 (fun wc => Chg w wc ∧ Ar wc w.heap.size (pt false gX gY))
 case first =>
  refine regP 3 (fun j v wg => match j with
   | 0 => v = .agg (num gX)
   | 1 => v = .agg (num gY)
   | 2 => v = .agg (pt false gX gY)
   | _ => True) (by decide) (by kernel_rfl) ?_ ?_ ?_
  ·intro j v u1 u2 h hc; exact h
  ·intro i o ac u hi ho hsz hf hg hc
   have hcs : i = 0 ∨ i = 1 ∨ i = 2 := by omega
   rcases hcs with rfl | rfl | rfl <;> (injection ho with ho; subst ho; refine .inl ⟨wanted_none rfl, ?_⟩)
   ·exact opG_built _ [(0, .int .u64 17627433388654248598), (1, .int .u64 8575836109218198432), (2, .int .u64 17923454489921339634), (3, .int .u64 7716867327612699207)] rfl (by kernel_rfl) (by kernel_rfl) rfl
   ·exact opG_built _ [(0, .int .u64 14678990851816772085), (1, .int .u64 3156516839386865358), (2, .int .u64 10297457778147434006), (3, .int .u64 5756518291402817435)] rfl (by kernel_rfl) (by kernel_rfl) rfl
   ·have e1 : ac.eval (.tmp 1) = .agg (num gX) := hg 0 (by decide) (by decide)
    have e2 : ac.eval (.tmp 2) = .agg (num gY) := hg 1 (by decide) (by decide)
    exact opG_built _ [(1, .agg (num gX)), (2, .agg (num gY))] rfl (by simp [e1, e2]) (builtPt _ _) rfl
  ·intro u V hV hc
   have q3 : V 2 = .agg (pt false gX gY) := hV 2 (by decide)
   have hres0 := (Z1.out.2.chg hc)
   refine wpList_store_mid rfl 26 (.tmp 0) (.tmp 3) rfl w.heap.size 0 (pt false gX gY) (by rfl) (Eq.trans (by rfl) q3) (by rw [pt_size]; exact pt_there hres0) (szPt _ _ _) (pt_one _ _ _) ?_
   rw [setRowPt hres0 _ _ _]
   have k0_c : Chg w (u.setRow w.heap.size (pt false gX gY)) := ((Z1.out.1.trans hc).setRow (by omega) _)
   have k0_B0 := hres0.row (pt false gX gY)
   generalize (u.setRow w.heap.size (pt false gX gY)) = u10 at k0_c k0_B0 ⊢
   go_wp2_with fail
   go_meet
   exact ⟨k0_c, k0_B0⟩
 have hz := hcut
 obtain ⟨w2, hw2⟩ : ∃ zz0, zz0 = wc := ⟨_, rfl⟩
 rw [← hw2] at hz ⊢
 have Z2 : Hid _ := hz
 clear hw2 hz Z1
 go_wp2_with fail
 exact bp_Pt Try.results15 rfl rfl Z2.out.2 ⟨rfl, Z2.out.1⟩
set_option maxHeartbeats 16000000 in
theorem baseS_any  (w : World) : Calls Try.prog 16 #[] w fun r w' => r = .returned (.agg (pt false gX gY)) ∧ Chg w w' := by
 have hz0 := zeroPt.1
 go_enter Try.func16, Try.ntmps16
 go_upto_region 1 with fail
 obtain ⟨w1, hw1⟩ : ∃ w1, w1 = w.alloc (.cells (pt false 0 0) 26) := ⟨_, rfl⟩
 have Z1 : Hid (Chg w w1 ∧ Ar w1 w.heap.size (pt false 0 0)) := by
  have hnew0 := Ar.new w (pt false 0 0) 26
  rw [hw1]
  exact ⟨((Chg.refl w).alloc _), (hnew0)⟩
 rw [← hw1]
 clear hw1 hz0
 go_cut [] from 1 to 3 (fun wc => Chg w wc ∧ Ar wc w.heap.size (pt false gX gY))
 case first =>
  refine regP 3 (fun j v wg => match j with
   | 0 => v = .agg (num gX)
   | 1 => v = .agg (num gY)
   | 2 => v = .agg (pt false gX gY)
   | _ => True) (by decide) (by kernel_rfl) ?_ ?_ ?_
  ·intro j v u1 u2 h hc; exact h
  ·intro i o ac u hi ho hsz hf hg hc
   have hcs : i = 0 ∨ i = 1 ∨ i = 2 := by omega
   rcases hcs with rfl | rfl | rfl <;> (injection ho with ho; subst ho; refine .inl ⟨wanted_none rfl, ?_⟩)
   ·exact opG_built _ [(0, .int .u64 17627433388654248598), (1, .int .u64 8575836109218198432), (2, .int .u64 17923454489921339634), (3, .int .u64 7716867327612699207)] rfl (by kernel_rfl) (by kernel_rfl) rfl
   ·exact opG_built _ [(0, .int .u64 14678990851816772085), (1, .int .u64 3156516839386865358), (2, .int .u64 10297457778147434006), (3, .int .u64 5756518291402817435)] rfl (by kernel_rfl) (by kernel_rfl) rfl
   ·have e1 : ac.eval (.tmp 1) = .agg (num gX) := hg 0 (by decide) (by decide)
    have e2 : ac.eval (.tmp 2) = .agg (num gY) := hg 1 (by decide) (by decide)
    exact opG_built _ [(1, .agg (num gX)), (2, .agg (num gY))] rfl (by simp [e1, e2]) (builtPt _ _) rfl
  ·intro u V hV hc
   have q3 : V 2 = .agg (pt false gX gY) := hV 2 (by decide)
   have hres0 := (Z1.out.2.chg hc)
   refine wpList_store_mid rfl 26 (.tmp 0) (.tmp 3) rfl w.heap.size 0 (pt false gX gY) (by rfl) (Eq.trans (by rfl) q3) (by rw [pt_size]; exact pt_there hres0) (szPt _ _ _) (pt_one _ _ _) ?_
   rw [setRowPt hres0 _ _ _]
   have k0_c : Chg w (u.setRow w.heap.size (pt false gX gY)) := ((Z1.out.1.trans hc).setRow (by omega) _)
   have k0_B0 := hres0.row (pt false gX gY)
   generalize (u.setRow w.heap.size (pt false gX gY)) = u10 at k0_c k0_B0 ⊢
   go_wp2_with fail
   go_meet
   exact ⟨k0_c, k0_B0⟩
 have hz := hcut
 obtain ⟨w2, hw2⟩ : ∃ zz0, zz0 = wc := ⟨_, rfl⟩
 rw [← hw2] at hz ⊢
 have Z2 : Hid _ := hz
 clear hw2 hz Z1
 go_wp2_with fail
 exact bp_Pt Try.results16 rfl rfl Z2.out.2 ⟨rfl, Z2.out.1⟩
theorem mo_N2 : N256 (mo 2) := ⟨by decide +kernel, by decide +kernel⟩
theorem mo_N3 : N256 (mo 3) := ⟨by decide +kernel, by decide +kernel⟩
end Go.Proofs.Ytbdgmkejmfjobaa
