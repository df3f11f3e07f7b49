/-
  The modulus of a field, right numbers, bits, how many bits a number has.
-/
import Derived.Test.YtbdgmkejmfjobaaJo
namespace Go.Proofs.Ytbdgmkejmfjobaa
set_option maxRecDepth 100000
open Go.RowKit
set_option linter.unusedVariables false
set_option maxHeartbeats 4000000 in
theorem modulus_any (f : Int) (w : World) : Calls Try.prog 59 #[.int .i64 f] w fun r w' => r = .returned (.agg (num (mo f))) ∧ Chg w w' := by
 have hz := zero25.1
 go_enter Try.func59, Try.ntmps59
 go_upto_region 1 with fail
 obtain ⟨w0, hw0⟩ : ∃ w0, w0 = w.alloc (.cells (num 0) 24) := ⟨_, rfl⟩
 have Z : Hid (Chg w w0 ∧ Ar w0 w.heap.size (num 0)) := by
  rw [hw0]
  exact ⟨(Chg.refl w).alloc _, Ar.new w _ _⟩
 rw [← hw0]
 clear hw0
 by_cases h1 : f = 1
 ·subst h1
  go_wp2_with fail
  go_at_call 76
  refine (prime1_any _).mono ?_
  rintro r w1 ⟨rfl, hc1⟩
  have Z1 : Hid (Chg w w1 ∧ Ar w1 w.heap.size (num 0)) := ⟨Z.out.1.trans hc1, Z.out.2.chg hc1⟩
  obtain ⟨M, hM⟩ : ∃ M, M = num (mo 1) := ⟨_, rfl⟩
  have HM : Hid (M = num (mo 1)) := hM
  have s1 : (Try.prog.info? 24).map (·.size) = some M.size := by rw [hM]; exact szN _
  have l1 : (num 0).size = M.size := by rw [hM]; exact lenN _ _
  have o1 : M.all (·.oneCell') = true := by rw [hM]; exact num_one _
  obtain ⟨t, g⟩ := Z1.out.2
  rw [← hM]
  clear hc1 hM
  go_wp2_with (first | refine wpList_store_row rfl 24 _ _ rfl _ _ rfl rfl _ _ g s1 l1 o1 ?_)
  refine bp_n (x := mo 1) Try.results59 rfl rfl ?_ ⟨rfl, Z1.out.1.setRow (Nat.le_refl _) _⟩
  rw [← HM.out]
  exact Z1.out.2.row _
 ·have e1 : (f == 1) = false := by simpa using h1
  by_cases h2 : f = 2
  ·subst h2
   go_wp2_with fail
   go_at_call 77
   refine (prime2_any _).mono ?_
   rintro r w1 ⟨rfl, hc1⟩
   have Z1 : Hid (Chg w w1 ∧ Ar w1 w.heap.size (num 0)) := ⟨Z.out.1.trans hc1, Z.out.2.chg hc1⟩
   obtain ⟨M, hM⟩ : ∃ M, M = num (mo 2) := ⟨_, rfl⟩
   have HM : Hid (M = num (mo 2)) := hM
   have s1 : (Try.prog.info? 24).map (·.size) = some M.size := by rw [hM]; exact szN _
   have l1 : (num 0).size = M.size := by rw [hM]; exact lenN _ _
   have o1 : M.all (·.oneCell') = true := by rw [hM]; exact num_one _
   obtain ⟨t, g⟩ := Z1.out.2
   rw [← hM]
   clear hc1 hM
   go_wp2_with (first | refine wpList_store_row rfl 24 _ _ rfl _ _ rfl rfl _ _ g s1 l1 o1 ?_)
   refine bp_n (x := mo 2) Try.results59 rfl rfl ?_ ⟨rfl, Z1.out.1.setRow (Nat.le_refl _) _⟩
   rw [← HM.out]
   exact Z1.out.2.row _
  ·have e2 : (f == 2) = false := by simpa using h2
   by_cases h3 : f = 3
   ·subst h3
    go_wp2_with fail
    go_at_call 78
    refine (order3_any _).mono ?_
    rintro r w1 ⟨rfl, hc1⟩
    have Z1 : Hid (Chg w w1 ∧ Ar w1 w.heap.size (num 0)) := ⟨Z.out.1.trans hc1, Z.out.2.chg hc1⟩
    obtain ⟨M, hM⟩ : ∃ M, M = num (mo 3) := ⟨_, rfl⟩
    have HM : Hid (M = num (mo 3)) := hM
    have s1 : (Try.prog.info? 24).map (·.size) = some M.size := by rw [hM]; exact szN _
    have l1 : (num 0).size = M.size := by rw [hM]; exact lenN _ _
    have o1 : M.all (·.oneCell') = true := by rw [hM]; exact num_one _
    obtain ⟨t, g⟩ := Z1.out.2
    rw [← hM]
    clear hc1 hM
    go_wp2_with (first | refine wpList_store_row rfl 24 _ _ rfl _ _ rfl rfl _ _ g s1 l1 o1 ?_)
    refine bp_n (x := mo 3) Try.results59 rfl rfl ?_ ⟨rfl, Z1.out.1.setRow (Nat.le_refl _) _⟩
    rw [← HM.out]
    exact Z1.out.2.row _
   ·have e3 : (f == 3) = false := by simpa using h3
    by_cases h4 : f = 4
    ·subst h4
     go_wp2_with fail
     go_at_call 79
     refine (order4_any _).mono ?_
     rintro r w1 ⟨rfl, hc1⟩
     have Z1 : Hid (Chg w w1 ∧ Ar w1 w.heap.size (num 0)) := ⟨Z.out.1.trans hc1, Z.out.2.chg hc1⟩
     obtain ⟨M, hM⟩ : ∃ M, M = num (mo 4) := ⟨_, rfl⟩
     have HM : Hid (M = num (mo 4)) := hM
     have s1 : (Try.prog.info? 24).map (·.size) = some M.size := by rw [hM]; exact szN _
     have l1 : (num 0).size = M.size := by rw [hM]; exact lenN _ _
     have o1 : M.all (·.oneCell') = true := by rw [hM]; exact num_one _
     obtain ⟨t, g⟩ := Z1.out.2
     rw [← hM]
     clear hc1 hM
     go_wp2_with (first | refine wpList_store_row rfl 24 _ _ rfl _ _ rfl rfl _ _ g s1 l1 o1 ?_)
     refine bp_n (x := mo 4) Try.results59 rfl rfl ?_ ⟨rfl, Z1.out.1.setRow (Nat.le_refl _) _⟩
     rw [← HM.out]
     exact Z1.out.2.row _
    ·have e4 : (f == 4) = false := by simpa using h4
     have HM : Hid (mo f = 0) := by
      show mo f = 0
      unfold mo
      rw [if_neg h1, if_neg h2, if_neg h3, if_neg h4]
     obtain ⟨t, g⟩ := Z.out.2
     have s1 := szN 0
     have l1 := lenN 0 0
     have o1 := num_one 0
     clear h1 h2 h3 h4
     go_wp2_with (first | refine wpList_store_row rfl 24 _ _ rfl _ _ rfl rfl _ _ g s1 l1 o1 ?_)
     refine bp_n (x := mo f) Try.results59 rfl rfl ?_ ⟨rfl, Z.out.1.setRow (Nat.le_refl _) _⟩
     rw [HM.out]
     exact Z.out.2.row _
set_option maxHeartbeats 4000000 in
theorem right_any (f a : Int) (ha : N256 a) (w : World) : Calls Try.prog 33 #[.int .i64 f, .agg (num a)] w fun r w' => r = .returned (.bool (decide (a < mo f))) ∧ Chg w w' := by
 have HN : Hid (N256 a) := ha
 have hsA := num_size a
 obtain ⟨A, hA⟩ : ∃ A, A = num a := ⟨_, rfl⟩
 have HA : Hid (A = num a) := hA
 rw [← hA] at hsA ⊢
 clear hA ha
 go_enter Try.func33, Try.ntmps33
 go_upto_region 1 with fail
 obtain ⟨w1, hw1⟩ : ∃ w1, w1 = w.alloc (.cells A 24) := ⟨_, rfl⟩
 have Z1 : Hid (Chg w w1 ∧ Ar w1 w.heap.size (num a)) := by
  rw [hw1, HA.out]
  exact ⟨(Chg.refl w).alloc _, Ar.new w _ _⟩
 rw [← hw1]
 clear hw1 hsA
 refine wp_region_good 4 (fun j v wg => match j with
  | 0 => v = .agg (num a)
  | 1 => v = .int .i64 f
  | 2 => v = .agg (num (mo f))
  | 3 => v = .bool (decide (a < mo f))
  | _ => True) (by kernel_rfl) (by kernel_rfl) (by kernel_rfl) (by kernel_rfl) (by kernel_rfl) ?_ ?_ ?_
 ·intro j v u1 u2 h hc
  match j, h with
  | 0, h => exact h
  | 1, h => exact h
  | 2, h => exact h
  | 3, h => exact h
  | _ + 4, h => exact trivial
 ·intro i o ac u hi ho hsz hf hg hc
  have hcs : i = 0 ∨ i = 1 ∨ i = 2 ∨ i = 3 := by omega
  rcases hcs with rfl | rfl | rfl | rfl
  ·injection ho with ho
   subst ho
   refine .inl ⟨wanted_none rfl, ?_⟩
   have e1 : ac.eval (.tmp 3) = .pointer (some ⟨w.heap.size, 0, none⟩) := hf 3 (by kernel_rfl)
   exact wp_load_mid 24 (.tmp 3) rfl _ _ e1 ((num a).toList) _ (rangeN (Ar.chg (w := w1.drew) Z1.out.2 hc)) u25 rfl (infoN _) ⟨_, rfl, rfl, Chg.refl _⟩
  ·injection ho with ho
   subst ho
   refine .inl ⟨wanted_none rfl, ?_⟩
   have e1 : ac.eval (.tmp 0) = .int .i64 f := hf 0 (by kernel_rfl)
   exact opG_val (by simp [execOp, e1]) rfl (Chg.refl _)
  ·injection ho with ho
   subst ho
   refine .inl ⟨wanted_none rfl, ?_⟩
   have e1 : ac.eval (.tmp 6) = .int .i64 f := hg 1 (by kernel_rfl) (by decide)
   refine opG_go 59 Try.f59 #[.tmp 6] #[35] rfl Try.func59 (by kernel_rfl) (by kernel_rfl) (by simp [e1]) (Calls.mono (modulus_any f _) ?_)
   rintro r u2 ⟨rfl, hc2⟩
   exact ⟨_, rfl, rfl, hc2⟩
  ·injection ho with ho
   subst ho
   refine .inl ⟨wanted_none rfl, ?_⟩
   have e1 : ac.eval (.tmp 5) = .agg (num a) := hg 0 (by kernel_rfl) (by decide)
   have e2 : ac.eval (.tmp 7) = .agg (num (mo f)) := hg 2 (by kernel_rfl) (by decide)
   refine opG_go 58 Try.f58 #[.tmp 5, .tmp 7] #[24, 24] rfl Try.func58 (by kernel_rfl) (by kernel_rfl) (by simp [e1, e2]) (Calls.mono (below_num a (mo f) HN.out (mo_N f) _) ?_)
   rintro r u2 ⟨rfl, hc2⟩
   exact ⟨_, rfl, rfl, hc2⟩
 ·intro o u V ho hV hc
  injection ho with ho
  subst ho
  refine ⟨rfl, ?_⟩
  have q5 : V 0 = .agg (num a) := hV 0 (by decide)
  have q6 : V 1 = .int .i64 f := hV 1 (by decide)
  have q7 : V 2 = .agg (num (mo f)) := hV 2 (by decide)
  have q8 : V 3 = .bool (decide (a < mo f)) := hV 3 (by decide)
  refine op_val1 (v := .bool (decide (a < mo f))) (by rw [← q8]; rfl) ?_
  go_wp2_with fail
  go_ret
  exact ⟨rfl, Z1.out.1.drew.trans hc⟩
end Go.Proofs.Ytbdgmkejmfjobaa
