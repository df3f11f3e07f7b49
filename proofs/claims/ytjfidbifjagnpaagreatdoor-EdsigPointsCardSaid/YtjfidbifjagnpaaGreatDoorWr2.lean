/-
The field's sums, differences, products, as the program's document calls them.
-/
import Derived.Test.YtjfidbifjagnpaaGreatDoorJu
import Derived.Test.YtjfidbifjagnpaaGreatDoorJl
namespace Go.Proofs.YtjfidbifjagnpaaGreatDoor
open Go.RowKit
set_option linter.unusedVariables false
set_option maxRecDepth 100000
set_option maxHeartbeats 4000000 in
theorem mulF_any (a b : Int) (ha : N256 a) (hb : N256 b) (w : World) : Calls Tryz.prog 53 #[.agg (num a), .agg (num b)] w fun r w' => r = .returned (.agg (num (md 1 (a * b)))) ∧ Chg w w' := by
 have HN : Hid (N256 a ∧ N256 b) := ⟨ha, hb⟩
 have hz := zero25.1
 have hsA := num_size a
 have hsB := num_size b
 obtain ⟨A, hA⟩ : ∃ A, A = num a := ⟨_, rfl⟩
 obtain ⟨B, hB⟩ : ∃ B, B = num b := ⟨_, rfl⟩
 have HA : Hid (A = num a) := hA
 have HB : Hid (B = num b) := hB
 rw [← hA] at hsA ⊢
 rw [← hB] at hsB ⊢
 clear hA hB ha hb
 go_enter Tryz.func53, Tryz.ntmps53
 go_upto_region 1 with fail
 obtain ⟨w1, hw1⟩ : ∃ w1, w1 = ((w.alloc (.cells A 35)).alloc (.cells B 35)).alloc (.cells (num 0) 35) := ⟨_, rfl⟩
 have Z1 : Hid (Chg w w1 ∧ Ar w1 w.heap.size (num a) ∧ Ar w1 (w.heap.size + 1) (num b) ∧ Ar w1 (w.heap.size + 1 + 1) (num 0)) := by
  have hnew0 := Ar.new w (num a) 35
  have hnew1 := Ar.new (w.alloc (.cells (num a) 35)) (num b) 35
  rw [World.size_alloc] at hnew1
  have hnew2 := Ar.new ((w.alloc (.cells (num a) 35)).alloc (.cells (num b) 35)) (num 0) 35
  rw [World.size_alloc, World.size_alloc] at hnew2
  rw [hw1, HA.out, HB.out]
  exact ⟨((((Chg.refl w).alloc _).alloc _).alloc _), (((hnew0).alloc _).alloc _), ((hnew1).alloc _), (hnew2)⟩
 rw [← hw1]
 clear hw1
 clear hsA hsB hz HA HB
 go_cut [] from 5 to 7 (fun wc => ∃ u, Chg w1 u ∧ wc = u.setRow (w.heap.size + 1 + 1) (num (md 1 (a * b))))
 case first =>
  refine regS 3 (fun j v wg => match j with
   | 0 => v = .agg (num a)
   | 1 => v = .agg (num b)
   | 2 => v = .agg (num (md 1 (a * b)))
   | _ => True) (by kernel_rfl) (by kernel_rfl) ?_ ?_ ?_
  ·intro j v u1 u2 h hc
   match j, h with
   | 0, h => exact h
   | 1, h => exact h
   | 2, h => exact h
   | _ + 3, h => exact trivial
  ·intro i o ac u hi ho hsz hf hg hc
   have hcs : i = 0 ∨ i = 1 ∨ i = 2 := by omega
   rcases hcs with rfl | rfl | rfl
   ·injection ho with ho
    subst ho
    refine .inl ⟨wanted_none rfl, ?_⟩
    have e1 : ac.eval (.tmp 2) = .pointer (some ⟨w.heap.size, 0, none⟩) := hf 2 (by kernel_rfl)
    exact wp_load_mid 35 (.tmp 2) rfl _ _ e1 ((num a).toList) _ (rangeAp (Z1.out.2.1.chg hc)) undNum rfl (infoN _) ⟨_, rfl, rfl, Chg.refl _⟩
   ·injection ho with ho
    subst ho
    refine .inl ⟨wanted_none rfl, ?_⟩
    have e1 : ac.eval (.tmp 3) = .pointer (some ⟨w.heap.size + 1, 0, none⟩) := hf 3 (by kernel_rfl)
    exact wp_load_mid 35 (.tmp 3) rfl _ _ e1 ((num b).toList) _ (rangeAp (Z1.out.2.2.1.chg hc)) undNum rfl (infoN _) ⟨_, rfl, rfl, Chg.refl _⟩
   ·injection ho with ho
    subst ho
    refine .inl ⟨wanted_none rfl, ?_⟩
    have e1 : ac.eval (.const (.int .i64 1)) = .int .i64 1 := rfl
    have e2 : ac.eval (.tmp 5) = .agg (num a) := hg 0 (by decide) (by decide)
    have e3 : ac.eval (.tmp 6) = .agg (num b) := hg 1 (by decide) (by decide)
    refine opG_go 32 Tryz.f32 #[.const (.int .i64 1), .tmp 5, .tmp 6] #[53, 35, 35] rfl Tryz.func32 (by kernel_rfl) (by kernel_rfl) (by simp [e1, e2, e3]) (Calls.mono (mulR_any 1 a b HN.out.1 HN.out.2 _) ?_)
    rintro r u2 ⟨rfl, hc2⟩
    exact ⟨_, rfl, rfl, hc2⟩
  ·intro o u V ho hV hc
   injection ho with ho
   subst ho
   refine ⟨rfl, ?_⟩
   have q5 : V 0 = .agg (num a) := hV 0 (by decide)
   have q6 : V 1 = .agg (num b) := hV 1 (by decide)
   have q7 : V 2 = .agg (num (md 1 (a * b))) := hV 2 (by decide)
   have hres := Z1.out.2.2.2.chg hc
   refine wp_store_mid 35 (.tmp 4) (.tmp 7) rfl (w.heap.size + 1 + 1) 0 (num (md 1 (a * b))) (by rfl) (Eq.trans (by rfl) q7) (by rw [num_size]; exact thereN hres) (szN _) (num_one _) ?_
   rw [show u.setCells (w.heap.size + 1 + 1) 0 (num (md 1 (a * b))).toList = u.setRow (w.heap.size + 1 + 1) (num (md 1 (a * b))) from setRowN hres _]
   go_wp2_with fail
   go_meet
   exact ⟨u, hc, rfl⟩
 obtain ⟨u, hcc, rfl⟩ := hcut
 obtain ⟨w2, hw2⟩ : ∃ x, x = u.setRow (w.heap.size + 1 + 1) (num (md 1 (a * b))) := ⟨_, rfl⟩
 have Z2 : Hid (Chg w w2 ∧ Ar w2 w.heap.size (num a) ∧ Ar w2 (w.heap.size + 1) (num b) ∧ Ar w2 (w.heap.size + 1 + 1) (num (md 1 (a * b)))) := by
  rw [hw2]
  exact ⟨(Z1.out.1.trans hcc).setRow (by omega) _, (Z1.out.2.1.chg hcc).rowOther (by omega) _, (Z1.out.2.2.1.chg hcc).rowOther (by omega) _, (Z1.out.2.2.2.chg hcc).row _⟩
 rw [← hw2]
 clear hw2 hcc Z1 u
 go_wp2_with fail
 exact bp_n Tryz.results53 rfl rfl Z2.out.2.2.2 ⟨rfl, Z2.out.1⟩
set_option maxHeartbeats 4000000 in
theorem addF_any (a b : Int) (ha : N256 a) (hb : N256 b) (w : World) : Calls Tryz.prog 77 #[.agg (num a), .agg (num b)] w fun r w' => r = .returned (.agg (num (md 1 (a + b)))) ∧ Chg w w' := by
 have HN : Hid (N256 a ∧ N256 b) := ⟨ha, hb⟩
 have hz := zero25.1
 have hsA := num_size a
 have hsB := num_size b
 obtain ⟨A, hA⟩ : ∃ A, A = num a := ⟨_, rfl⟩
 obtain ⟨B, hB⟩ : ∃ B, B = num b := ⟨_, rfl⟩
 have HA : Hid (A = num a) := hA
 have HB : Hid (B = num b) := hB
 rw [← hA] at hsA ⊢
 rw [← hB] at hsB ⊢
 clear hA hB ha hb
 go_enter Tryz.func77, Tryz.ntmps77
 go_upto_region 1 with fail
 obtain ⟨w1, hw1⟩ : ∃ w1, w1 = ((w.alloc (.cells A 35)).alloc (.cells B 35)).alloc (.cells (num 0) 35) := ⟨_, rfl⟩
 have Z1 : Hid (Chg w w1 ∧ Ar w1 w.heap.size (num a) ∧ Ar w1 (w.heap.size + 1) (num b) ∧ Ar w1 (w.heap.size + 1 + 1) (num 0)) := by
  have hnew0 := Ar.new w (num a) 35
  have hnew1 := Ar.new (w.alloc (.cells (num a) 35)) (num b) 35
  rw [World.size_alloc] at hnew1
  have hnew2 := Ar.new ((w.alloc (.cells (num a) 35)).alloc (.cells (num b) 35)) (num 0) 35
  rw [World.size_alloc, World.size_alloc] at hnew2
  rw [hw1, HA.out, HB.out]
  exact ⟨((((Chg.refl w).alloc _).alloc _).alloc _), (((hnew0).alloc _).alloc _), ((hnew1).alloc _), (hnew2)⟩
 rw [← hw1]
 clear hw1
 clear hsA hsB hz HA HB
 go_cut [] from 5 to 7 (fun wc => ∃ u, Chg w1 u ∧ wc = u.setRow (w.heap.size + 1 + 1) (num (md 1 (a + b))))
 case first =>
  refine regS 3 (fun j v wg => match j with
   | 0 => v = .agg (num a)
   | 1 => v = .agg (num b)
   | 2 => v = .agg (num (md 1 (a + b)))
   | _ => True) (by kernel_rfl) (by kernel_rfl) ?_ ?_ ?_
  ·intro j v u1 u2 h hc
   match j, h with
   | 0, h => exact h
   | 1, h => exact h
   | 2, h => exact h
   | _ + 3, h => exact trivial
  ·intro i o ac u hi ho hsz hf hg hc
   have hcs : i = 0 ∨ i = 1 ∨ i = 2 := by omega
   rcases hcs with rfl | rfl | rfl
   ·injection ho with ho
    subst ho
    refine .inl ⟨wanted_none rfl, ?_⟩
    have e1 : ac.eval (.tmp 2) = .pointer (some ⟨w.heap.size, 0, none⟩) := hf 2 (by kernel_rfl)
    exact wp_load_mid 35 (.tmp 2) rfl _ _ e1 ((num a).toList) _ (rangeAp (Z1.out.2.1.chg hc)) undNum rfl (infoN _) ⟨_, rfl, rfl, Chg.refl _⟩
   ·injection ho with ho
    subst ho
    refine .inl ⟨wanted_none rfl, ?_⟩
    have e1 : ac.eval (.tmp 3) = .pointer (some ⟨w.heap.size + 1, 0, none⟩) := hf 3 (by kernel_rfl)
    exact wp_load_mid 35 (.tmp 3) rfl _ _ e1 ((num b).toList) _ (rangeAp (Z1.out.2.2.1.chg hc)) undNum rfl (infoN _) ⟨_, rfl, rfl, Chg.refl _⟩
   ·injection ho with ho
    subst ho
    refine .inl ⟨wanted_none rfl, ?_⟩
    have e1 : ac.eval (.const (.int .i64 1)) = .int .i64 1 := rfl
    have e2 : ac.eval (.tmp 5) = .agg (num a) := hg 0 (by decide) (by decide)
    have e3 : ac.eval (.tmp 6) = .agg (num b) := hg 1 (by decide) (by decide)
    refine opG_go 31 Tryz.f31 #[.const (.int .i64 1), .tmp 5, .tmp 6] #[53, 35, 35] rfl Tryz.func31 (by kernel_rfl) (by kernel_rfl) (by simp [e1, e2, e3]) (Calls.mono (addR_any 1 a b HN.out.1 HN.out.2 _) ?_)
    rintro r u2 ⟨rfl, hc2⟩
    exact ⟨_, rfl, rfl, hc2⟩
  ·intro o u V ho hV hc
   injection ho with ho
   subst ho
   refine ⟨rfl, ?_⟩
   have q5 : V 0 = .agg (num a) := hV 0 (by decide)
   have q6 : V 1 = .agg (num b) := hV 1 (by decide)
   have q7 : V 2 = .agg (num (md 1 (a + b))) := hV 2 (by decide)
   have hres := Z1.out.2.2.2.chg hc
   refine wp_store_mid 35 (.tmp 4) (.tmp 7) rfl (w.heap.size + 1 + 1) 0 (num (md 1 (a + b))) (by rfl) (Eq.trans (by rfl) q7) (by rw [num_size]; exact thereN hres) (szN _) (num_one _) ?_
   rw [show u.setCells (w.heap.size + 1 + 1) 0 (num (md 1 (a + b))).toList = u.setRow (w.heap.size + 1 + 1) (num (md 1 (a + b))) from setRowN hres _]
   go_wp2_with fail
   go_meet
   exact ⟨u, hc, rfl⟩
 obtain ⟨u, hcc, rfl⟩ := hcut
 obtain ⟨w2, hw2⟩ : ∃ x, x = u.setRow (w.heap.size + 1 + 1) (num (md 1 (a + b))) := ⟨_, rfl⟩
 have Z2 : Hid (Chg w w2 ∧ Ar w2 w.heap.size (num a) ∧ Ar w2 (w.heap.size + 1) (num b) ∧ Ar w2 (w.heap.size + 1 + 1) (num (md 1 (a + b)))) := by
  rw [hw2]
  exact ⟨(Z1.out.1.trans hcc).setRow (by omega) _, (Z1.out.2.1.chg hcc).rowOther (by omega) _, (Z1.out.2.2.1.chg hcc).rowOther (by omega) _, (Z1.out.2.2.2.chg hcc).row _⟩
 rw [← hw2]
 clear hw2 hcc Z1 u
 go_wp2_with fail
 exact bp_n Tryz.results77 rfl rfl Z2.out.2.2.2 ⟨rfl, Z2.out.1⟩
set_option maxHeartbeats 4000000 in
theorem subF_any (a b : Int) (ha : N256 a) (hb : N256 b) (w : World) : Calls Tryz.prog 54 #[.agg (num a), .agg (num b)] w fun r w' => r = .returned (.agg (num (md 1 (a - b)))) ∧ Chg w w' := by
 have HN : Hid (N256 a ∧ N256 b) := ⟨ha, hb⟩
 have hz := zero25.1
 have hsA := num_size a
 have hsB := num_size b
 obtain ⟨A, hA⟩ : ∃ A, A = num a := ⟨_, rfl⟩
 obtain ⟨B, hB⟩ : ∃ B, B = num b := ⟨_, rfl⟩
 have HA : Hid (A = num a) := hA
 have HB : Hid (B = num b) := hB
 rw [← hA] at hsA ⊢
 rw [← hB] at hsB ⊢
 clear hA hB ha hb
 go_enter Tryz.func54, Tryz.ntmps54
 go_upto_region 1 with fail
 obtain ⟨w1, hw1⟩ : ∃ w1, w1 = ((w.alloc (.cells A 35)).alloc (.cells B 35)).alloc (.cells (num 0) 35) := ⟨_, rfl⟩
 have Z1 : Hid (Chg w w1 ∧ Ar w1 w.heap.size (num a) ∧ Ar w1 (w.heap.size + 1) (num b) ∧ Ar w1 (w.heap.size + 1 + 1) (num 0)) := by
  have hnew0 := Ar.new w (num a) 35
  have hnew1 := Ar.new (w.alloc (.cells (num a) 35)) (num b) 35
  rw [World.size_alloc] at hnew1
  have hnew2 := Ar.new ((w.alloc (.cells (num a) 35)).alloc (.cells (num b) 35)) (num 0) 35
  rw [World.size_alloc, World.size_alloc] at hnew2
  rw [hw1, HA.out, HB.out]
  exact ⟨((((Chg.refl w).alloc _).alloc _).alloc _), (((hnew0).alloc _).alloc _), ((hnew1).alloc _), (hnew2)⟩
 rw [← hw1]
 clear hw1
 clear hsA hsB hz HA HB
 go_cut [] from 5 to 7 (fun wc => ∃ u, Chg w1 u ∧ wc = u.setRow (w.heap.size + 1 + 1) (num (md 1 (a - b))))
 case first =>
  refine regS 3 (fun j v wg => match j with
   | 0 => v = .agg (num a)
   | 1 => v = .agg (num b)
   | 2 => v = .agg (num (md 1 (a - b)))
   | _ => True) (by kernel_rfl) (by kernel_rfl) ?_ ?_ ?_
  ·intro j v u1 u2 h hc
   match j, h with
   | 0, h => exact h
   | 1, h => exact h
   | 2, h => exact h
   | _ + 3, h => exact trivial
  ·intro i o ac u hi ho hsz hf hg hc
   have hcs : i = 0 ∨ i = 1 ∨ i = 2 := by omega
   rcases hcs with rfl | rfl | rfl
   ·injection ho with ho
    subst ho
    refine .inl ⟨wanted_none rfl, ?_⟩
    have e1 : ac.eval (.tmp 2) = .pointer (some ⟨w.heap.size, 0, none⟩) := hf 2 (by kernel_rfl)
    exact wp_load_mid 35 (.tmp 2) rfl _ _ e1 ((num a).toList) _ (rangeAp (Z1.out.2.1.chg hc)) undNum rfl (infoN _) ⟨_, rfl, rfl, Chg.refl _⟩
   ·injection ho with ho
    subst ho
    refine .inl ⟨wanted_none rfl, ?_⟩
    have e1 : ac.eval (.tmp 3) = .pointer (some ⟨w.heap.size + 1, 0, none⟩) := hf 3 (by kernel_rfl)
    exact wp_load_mid 35 (.tmp 3) rfl _ _ e1 ((num b).toList) _ (rangeAp (Z1.out.2.2.1.chg hc)) undNum rfl (infoN _) ⟨_, rfl, rfl, Chg.refl _⟩
   ·injection ho with ho
    subst ho
    refine .inl ⟨wanted_none rfl, ?_⟩
    have e1 : ac.eval (.const (.int .i64 1)) = .int .i64 1 := rfl
    have e2 : ac.eval (.tmp 5) = .agg (num a) := hg 0 (by decide) (by decide)
    have e3 : ac.eval (.tmp 6) = .agg (num b) := hg 1 (by decide) (by decide)
    refine opG_go 82 Tryz.f82 #[.const (.int .i64 1), .tmp 5, .tmp 6] #[53, 35, 35] rfl Tryz.func82 (by kernel_rfl) (by kernel_rfl) (by simp [e1, e2, e3]) (Calls.mono (subR_any 1 a b HN.out.1 HN.out.2 _) ?_)
    rintro r u2 ⟨rfl, hc2⟩
    exact ⟨_, rfl, rfl, hc2⟩
  ·intro o u V ho hV hc
   injection ho with ho
   subst ho
   refine ⟨rfl, ?_⟩
   have q5 : V 0 = .agg (num a) := hV 0 (by decide)
   have q6 : V 1 = .agg (num b) := hV 1 (by decide)
   have q7 : V 2 = .agg (num (md 1 (a - b))) := hV 2 (by decide)
   have hres := Z1.out.2.2.2.chg hc
   refine wp_store_mid 35 (.tmp 4) (.tmp 7) rfl (w.heap.size + 1 + 1) 0 (num (md 1 (a - b))) (by rfl) (Eq.trans (by rfl) q7) (by rw [num_size]; exact thereN hres) (szN _) (num_one _) ?_
   rw [show u.setCells (w.heap.size + 1 + 1) 0 (num (md 1 (a - b))).toList = u.setRow (w.heap.size + 1 + 1) (num (md 1 (a - b))) from setRowN hres _]
   go_wp2_with fail
   go_meet
   exact ⟨u, hc, rfl⟩
 obtain ⟨u, hcc, rfl⟩ := hcut
 obtain ⟨w2, hw2⟩ : ∃ x, x = u.setRow (w.heap.size + 1 + 1) (num (md 1 (a - b))) := ⟨_, rfl⟩
 have Z2 : Hid (Chg w w2 ∧ Ar w2 w.heap.size (num a) ∧ Ar w2 (w.heap.size + 1) (num b) ∧ Ar w2 (w.heap.size + 1 + 1) (num (md 1 (a - b)))) := by
  rw [hw2]
  exact ⟨(Z1.out.1.trans hcc).setRow (by omega) _, (Z1.out.2.1.chg hcc).rowOther (by omega) _, (Z1.out.2.2.1.chg hcc).rowOther (by omega) _, (Z1.out.2.2.2.chg hcc).row _⟩
 rw [← hw2]
 clear hw2 hcc Z1 u
 go_wp2_with fail
 exact bp_n Tryz.results54 rfl rfl Z2.out.2.2.2 ⟨rfl, Z2.out.1⟩
end Go.Proofs.YtjfidbifjagnpaaGreatDoor
