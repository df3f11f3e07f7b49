/-
  Roots.
-/
import Derived.Test.YtnahkcapbbjfdaaRt1
namespace Go.Proofs.Ytnahkcapbbjfdaa
open Go.RowKit
set_option linter.unusedVariables false

/-- The even root, if it is one. -/
def rootN (f a m : Int) : Int := if m * m % mo f = a % mo f then (if dg 2 m 0 = 1 then (0 - m) % mo f else m) else 0
/-- What stands behind a root that may be one. -/
structure R2 (w wr : World) (A R : Array Value) : Prop where
  chg : Chg w wr
  r1 : Ar wr w.heap.size A
  r2 : Ar wr (w.heap.size + 1) (num 0)
  r3 : Ar wr (w.heap.size + 1 + 1) R
theorem R2.to {w wr u : World} {A R : Array Value} (h : R2 w wr A R) (k : Chg wr u) : R2 w u A R := ⟨h.chg.trans k, h.r1.chg k, h.r2.chg k, h.r3.chg k⟩

set_option maxRecDepth 100000 in
set_option maxHeartbeats 8000000 in
theorem root1_any (a : Int) (ha : N256 a) (w : World) : Calls Try.prog 27 #[.int .i64 1, .agg (num a)] w fun r w' => r = .returned (.tuple #[.agg (num (rootN 1 a (mr1 a))), .bool (decide ((mr1 a) * (mr1 a) % mo 1 = a % mo 1))]) ∧ Chg w w' := by
  have hz := zero25.1
  have hsA := num_size a
  have k0 := fun W => maybe1_any a ha W
  have hmN : N256 (mr1 a) := mr1_N a
  obtain ⟨m, hm⟩ : ∃ m, m = mr1 a := ⟨_, rfl⟩
  rw [← hm] at k0 hmN ⊢
  clear hm
  obtain ⟨rr, hrr⟩ : ∃ rr, rr = m * m % mo 1 := ⟨_, rfl⟩
  obtain ⟨aa, haa⟩ : ∃ aa, aa = a % mo 1 := ⟨_, rfl⟩
  have HM : Hid (rootN 1 a m = if rr = aa then (if dg 2 m 0 = 1 then (0 - m) % mo 1 else m) else 0) := by
    show rootN 1 a m = _
    rw [hrr, haa]
    rfl
  have HNs : Hid (N256 rr ∧ N256 aa) := ⟨by rw [hrr]; exact N_mod (.inl rfl) _, by rw [haa]; exact N_mod (.inl rfl) _⟩
  have k2 := fun W => mul_any 1 m m (.inl rfl) hmN hmN W
  have k3 := fun W => rest_any 1 a (.inl rfl) ha W
  have k4 := fun W => bit_any m 0 (by decide) W
  have k5 := fun W => neg_any 1 m (.inl rfl) hmN W
  rw [← hrr] at k2 ⊢
  rw [← haa] at k3 ⊢
  obtain ⟨A, hA⟩ : ∃ A, A = num a := ⟨_, rfl⟩
  obtain ⟨R, hR⟩ : ∃ R, R = num m := ⟨_, rfl⟩
  obtain ⟨X, hX⟩ : ∃ X, X = num ((0 - m) % mo 1) := ⟨_, rfl⟩
  obtain ⟨cb, hcb⟩ : ∃ cb, cb = (dg 2 m 0 == 1) := ⟨_, rfl⟩
  have HE : Hid (R = num m ∧ X = num ((0 - m) % mo 1) ∧ cb = (dg 2 m 0 == 1)) := ⟨hR, hX, hcb⟩
  have HSz : Hid (((Try.prog.info? 25).map (·.size) = some R.size ∧ (num 0).size = R.size ∧ R.all (·.oneCell') = true) ∧ (Try.prog.info? 25).map (·.size) = some X.size ∧ ((num 0).size = X.size ∧ R.size = X.size) ∧ X.all (·.oneCell') = true) := by
    rw [hR, hX]
    exact ⟨⟨szN _, lenN _ _, num_one _⟩, szN _, ⟨lenN _ _, lenN _ _⟩, num_one _⟩
  have HI : Hid ((Try.prog.info? 25).map (·.size) = some A.toList.length ∧ (Try.prog.info? 25).map (·.size) = some R.toList.length ∧ (Try.prog.info? 25).map (·.size) = some X.toList.length) := by
    rw [hA, hR, hX]
    exact ⟨infoN _, infoN _, infoN _⟩
  have HZ : Hid ((Try.prog.info? 25).map (·.size) = some (num 0).size ∧ (num 0).size = (num 0).size ∧ (num 0).all (·.oneCell') = true) := ⟨szN _, rfl, num_one _⟩
  rw [← hA] at hsA k0 k3 ⊢
  rw [← hR] at k0 k2 k4 k5
  rw [← hX] at k5
  rw [← hcb] at k4
  have HK : Hid ((∀ W, Calls Try.prog 57 #[.agg A] W fun r w' => r = .returned (.agg R) ∧ Chg W w') ∧ (∀ W, Calls Try.prog 14 #[.int .i64 1, .agg R, .agg R] W fun r w' => r = .returned (.agg (num rr)) ∧ Chg W w') ∧ (∀ W, Calls Try.prog 41 #[.int .i64 1, .agg A] W fun r w' => r = .returned (.agg (num aa)) ∧ Chg W w') ∧ (∀ W, Calls Try.prog 56 #[.agg R, .int .i64 0] W fun r w' => r = .returned (.bool cb) ∧ Chg W w') ∧ (∀ W, Calls Try.prog 16 #[.int .i64 1, .agg R] W fun r w' => r = .returned (.agg X) ∧ Chg W w')) := ⟨k0, k2, k3, k4, k5⟩
  clear hA hR hX hcb k0 k2 k3 k4 k5 ha hmN hrr haa
  go_enter Try.func27, Try.ntmps27
  go_upto_region 2 with fail
  obtain ⟨w1, hw1⟩ : ∃ w1, w1 = ((w.alloc (.cells A 25)).alloc (.cells (num 0) 25)).alloc (.cells (num 0) 25) := ⟨_, rfl⟩
  have Z : Hid (Chg w w1 ∧ Ar w1 w.heap.size A ∧ Ar w1 (w.heap.size + 1) (num 0) ∧ Ar w1 (w.heap.size + 1 + 1) (num 0)) := by
    rw [hw1]
    exact ⟨(((Chg.refl w).alloc _).alloc _).alloc _, ((Ar.new w _ _).alloc _).alloc _, (Ar.new1 w _ _ _).alloc _, Ar.new2 w _ _ _ _⟩
  rw [← hw1]
  clear hw1 hsA
  obtain ⟨iA, -, -⟩ := HI.out
  have r3 := rangeA Z.out.2.1
  go_wp2_with (first
    | refine wpList_load_mid rfl 25 (.tmp 3) rfl _ _ rfl (A.toList) _ r3 u25 rfl iA ?_)
  go_at_call 57
  refine (HK.out.1 _).mono ?_
  rintro r' w5 ⟨rfl, hc5⟩
  obtain ⟨sR, lR, oR⟩ := HSz.out.1
  have Z5 : Hid (Chg w w5 ∧ Ar w5 w.heap.size A ∧ Ar w5 (w.heap.size + 1) (num 0) ∧ Ar w5 (w.heap.size + 1 + 1) (num 0)) := ⟨Z.out.1.trans hc5, Z.out.2.1.chg hc5, Z.out.2.2.1.chg hc5, Z.out.2.2.2.chg hc5⟩
  obtain ⟨t6, g6⟩ := Z5.out.2.2.2
  clear hc5 Z r3 iA
  go_upto_region 8 with (first | refine wpList_store_row rfl 25 _ _ rfl _ _ rfl rfl _ _ g6 sR lR oR ?_)
  obtain ⟨w6, hw6⟩ : ∃ w4, w4 = w5.setRow (w.heap.size + 1 + 1) R := ⟨_, rfl⟩
  have Z6 : Hid (R2 w w6 A R) := by
    obtain ⟨q0, q1, q2, q3⟩ := Z5.out
    rw [hw6]
    exact ⟨q0.setRow (by omega) _, q1.rowOther (by omega) _, q2.rowOther (by omega) _, q3.row _⟩
  rw [← hw6]
  clear hw6 Z5 g6 sR lR oR
  obtain ⟨bb, hbb⟩ : ∃ bb, decide (rr = aa) = bb := ⟨_, rfl⟩
  have HB : Hid (decide (rr = aa) = bb) := hbb
  clear hbb
  try dsimp only [Act.put]
  go_cut [24] from 17 to 24 (fun v wc => v = .bool (!bb) ∧ Chg w6 wc)
  case first =>
    refine wp_region_good 7 (fun j v wg => match j with
      | 0 => v = .int .i64 1
      | 1 => v = .agg R
      | 2 => v = .agg R
      | 3 => v = .agg (num rr)
      | 4 => v = .int .i64 1
      | 5 => v = .agg A
      | 6 => v = .agg (num aa)
      | _ => True) (by kernel_rfl) (by kernel_rfl) (by kernel_rfl) (by kernel_rfl) (by kernel_rfl) ?_ ?_ ?_
    · intro j v u1 u2 h hc
      match j, h with
      | 0, h => exact h
      | 1, h => exact h
      | 2, h => exact h
      | 3, h => exact h
      | 4, h => exact h
      | 5, h => exact h
      | 6, h => exact h
      | _ + 7, h => exact trivial
    · intro i o ac u hi ho hsz hf hg hc
      have hcs : i = 0 ∨ i = 1 ∨ i = 2 ∨ i = 3 ∨ i = 4 ∨ i = 5 ∨ i = 6 := by omega
      rcases hcs with rfl | rfl | rfl | rfl | rfl | rfl | rfl
      · injection ho with ho
        subst ho
        refine .inl ⟨wanted_none rfl, ?_⟩
        have e1 : ac.eval (.tmp 0) = .int .i64 1 := hf 0 (by kernel_rfl)
        exact opG_val (by simp [execOp, e1]) rfl (Chg.refl _)
      · injection ho with ho
        subst ho
        refine .inl ⟨wanted_none rfl, ?_⟩
        have e1 : ac.eval (.tmp 6) = .pointer (some ⟨w.heap.size + 1 + 1, 0, none⟩) := hf 6 (by kernel_rfl)
        exact wp_load_mid 25 (.tmp 6) rfl _ _ e1 (R.toList) _ (rangeA (Ar.chg (w := w6.drew) Z6.out.r3 hc)) Go.Proofs.Ytnahkcapbbjfdaa.u25 rfl (HI.out.2.1) ⟨_, rfl, rfl, Chg.refl _⟩
      · injection ho with ho
        subst ho
        refine .inl ⟨wanted_none rfl, ?_⟩
        have e1 : ac.eval (.tmp 6) = .pointer (some ⟨w.heap.size + 1 + 1, 0, none⟩) := hf 6 (by kernel_rfl)
        exact wp_load_mid 25 (.tmp 6) rfl _ _ e1 (R.toList) _ (rangeA (Ar.chg (w := w6.drew) Z6.out.r3 hc)) Go.Proofs.Ytnahkcapbbjfdaa.u25 rfl (HI.out.2.1) ⟨_, rfl, rfl, Chg.refl _⟩
      · injection ho with ho
        subst ho
        refine .inl ⟨wanted_none rfl, ?_⟩
        have e1 : ac.eval (.tmp 17) = .int .i64 1 := hg 0 (by kernel_rfl) (by decide)
        have e2 : ac.eval (.tmp 18) = .agg R := hg 1 (by kernel_rfl) (by decide)
        have e3 : ac.eval (.tmp 19) = .agg R := hg 2 (by kernel_rfl) (by decide)
        refine opG_go 14 Try.f14 #[.tmp 17, .tmp 18, .tmp 19] #[22, 25, 25] rfl Try.func14 (by kernel_rfl) (by kernel_rfl) (by simp [e1, e2, e3]) (Calls.mono (HK.out.2.1 _) ?_)
        rintro e u2 ⟨rfl, hc2⟩
        exact ⟨_, rfl, rfl, hc2⟩
      · injection ho with ho
        subst ho
        refine .inl ⟨wanted_none rfl, ?_⟩
        have e1 : ac.eval (.tmp 0) = .int .i64 1 := hf 0 (by kernel_rfl)
        exact opG_val (by simp [execOp, e1]) rfl (Chg.refl _)
      · injection ho with ho
        subst ho
        refine .inl ⟨wanted_none rfl, ?_⟩
        have e1 : ac.eval (.tmp 3) = .pointer (some ⟨w.heap.size, 0, none⟩) := hf 3 (by kernel_rfl)
        exact wp_load_mid 25 (.tmp 3) rfl _ _ e1 (A.toList) _ (rangeA (Ar.chg (w := w6.drew) Z6.out.r1 hc)) Go.Proofs.Ytnahkcapbbjfdaa.u25 rfl (HI.out.1) ⟨_, rfl, rfl, Chg.refl _⟩
      · injection ho with ho
        subst ho
        refine .inl ⟨wanted_none rfl, ?_⟩
        have e1 : ac.eval (.tmp 21) = .int .i64 1 := hg 4 (by kernel_rfl) (by decide)
        have e2 : ac.eval (.tmp 22) = .agg A := hg 5 (by kernel_rfl) (by decide)
        refine opG_go 41 Try.f41 #[.tmp 21, .tmp 22] #[22, 25] rfl Try.func41 (by kernel_rfl) (by kernel_rfl) (by simp [e1, e2]) (Calls.mono (HK.out.2.2.1 _) ?_)
        rintro e u2 ⟨rfl, hc2⟩
        exact ⟨_, rfl, rfl, hc2⟩
    · intro o u V ho hV hc
      injection ho with ho
      subst ho
      refine ⟨rfl, ?_⟩
      have q17 : V 0 = .int .i64 1 := hV 0 (by decide)
      have q18 : V 1 = .agg R := hV 1 (by decide)
      have q19 : V 2 = .agg R := hV 2 (by decide)
      have q20 : V 3 = .agg (num rr) := hV 3 (by decide)
      have q21 : V 4 = .int .i64 1 := hV 4 (by decide)
      have q22 : V 5 = .agg A := hV 5 (by decide)
      have q23 : V 6 = .agg (num aa) := hV 6 (by decide)
      refine op_neqNum (.tmp 20) (.tmp 23) rr aa bb rfl HNs.out.1 HNs.out.2 (Eq.trans (by rfl) q20) (Eq.trans (by rfl) q23) HB.out ?_
      go_wp2_with fail
      go_meet
      exact ⟨rfl, (Chg.refl w6).drew.trans hc⟩
  case rest =>
    obtain ⟨rfl, c6⟩ := hcut
    obtain ⟨w7, hw7⟩ : ∃ w7, w7 = wc := ⟨_, rfl⟩
    have Z7 : Hid (R2 w w7 A R) := by rw [hw7]; exact Z6.out.to c6
    rw [← hw7]
    clear hw7 c6 Z6
    cases bb with
    | false =>
      obtain ⟨sZ, lZ, oZ⟩ := HZ.out
      obtain ⟨t, g⟩ := Z7.out.r2
      go_wp2_with (first
        | refine wpList_store_row rfl 25 _ _ rfl _ _ rfl rfl _ _ g (szN 0) rfl (num_one 0) ?_)
      have e : rootN 1 a m = 0 := by rw [HM.out, if_neg (of_decide_eq_false HB.out)]
      refine bp_ct (n := 4) (c := num 0) (x := .bool false) Try.results27 rfl rfl rfl (Z7.out.r2.row _) Go.Proofs.Ytnahkcapbbjfdaa.u25 i25 (num_size 0) ⟨by rw [HB.out, e], Z7.out.chg.setRow (by omega) _⟩
    | true =>
      have r6 := rangeA Z7.out.r3
      obtain ⟨-, iR, -⟩ := HI.out
      go_wp2_with (first
        | refine wpList_load_mid rfl 25 (.tmp 6) rfl _ _ rfl (R.toList) _ r6 Go.Proofs.Ytnahkcapbbjfdaa.u25 rfl iR ?_)
      go_at_call 56
      refine (HK.out.2.2.2.1 _).mono ?_
      rintro r' w8 ⟨rfl, hc8⟩
      have Z8 : Hid (R2 w w8 A R) := Z7.out.to hc8
      clear hc8 Z7 r6
      cases cb with
      | false =>
        have r6 := rangeA Z8.out.r3
        obtain ⟨sR, lR, oR⟩ := HSz.out.1
        obtain ⟨t, g⟩ := Z8.out.r2
        go_wp2_with (first
          | refine wpList_load_mid rfl 25 (.tmp 6) rfl _ _ rfl (R.toList) _ r6 Go.Proofs.Ytnahkcapbbjfdaa.u25 rfl iR ?_
          | refine wpList_store_row rfl 25 _ _ rfl _ _ rfl rfl _ _ g sR lR oR ?_)
        have e1 : ¬ dg 2 m 0 = 1 := by have := HE.out.2.2; simpa using this.symm
        have e : R = num (rootN 1 a m) := by rw [HM.out, if_pos (of_decide_eq_true HB.out), if_neg e1]; exact HE.out.1
        refine bp_ct (n := 4) (c := R) (x := .bool true) Try.results27 rfl rfl rfl (Z8.out.r2.row _) Go.Proofs.Ytnahkcapbbjfdaa.u25 i25 (by rw [e]; exact num_size _) ⟨by rw [HB.out, ← e], Z8.out.chg.setRow (by omega) _⟩
      | true =>
        have r6 := rangeA Z8.out.r3
        go_wp2_with (first
          | refine wpList_load_mid rfl 25 (.tmp 6) rfl _ _ rfl (R.toList) _ r6 Go.Proofs.Ytnahkcapbbjfdaa.u25 rfl iR ?_)
        go_at_call 16
        refine (HK.out.2.2.2.2 _).mono ?_
        rintro r' w9 ⟨rfl, hc9⟩
        have Z9 : Hid (R2 w w9 A R) := Z8.out.to hc9
        clear hc9 Z8 r6 iR
        obtain ⟨sX, ⟨lX, lX2⟩, oX⟩ := HSz.out.2
        obtain ⟨t6, g6⟩ := Z9.out.r3
        go_upto_region 12 with (first | refine wpList_store_row rfl 25 _ _ rfl _ _ rfl rfl _ _ g6 sX lX2 oX ?_)
        obtain ⟨w10, hw10⟩ : ∃ w4, w4 = w9.setRow (w.heap.size + 1 + 1) X := ⟨_, rfl⟩
        have Z10 : Hid (R2 w w10 A X) := by
          obtain ⟨q0, q1, q2, q3⟩ := Z9.out
          rw [hw10]
          exact ⟨q0.setRow (by omega) _, q1.rowOther (by omega) _, q2.rowOther (by omega) _, q3.row _⟩
        rw [← hw10]
        clear hw10 Z9 g6
        have r6 := rangeA Z10.out.r3
        obtain ⟨-, -, iX⟩ := HI.out
        obtain ⟨t, g⟩ := Z10.out.r2
        go_wp2_with (first
          | refine wpList_load_mid rfl 25 (.tmp 6) rfl _ _ rfl (X.toList) _ r6 Go.Proofs.Ytnahkcapbbjfdaa.u25 rfl iX ?_
          | refine wpList_store_row rfl 25 _ _ rfl _ _ rfl rfl _ _ g sX lX oX ?_)
        have e1 : dg 2 m 0 = 1 := by have := HE.out.2.2; simpa using this.symm
        have e : X = num (rootN 1 a m) := by rw [HM.out, if_pos (of_decide_eq_true HB.out), if_pos e1]; exact HE.out.2.1
        refine bp_ct (n := 4) (c := X) (x := .bool true) Try.results27 rfl rfl rfl (Z10.out.r2.row _) Go.Proofs.Ytnahkcapbbjfdaa.u25 i25 (by rw [e]; exact num_size _) ⟨by rw [HB.out, ← e], Z10.out.chg.setRow (by omega) _⟩

set_option maxRecDepth 100000 in
set_option maxHeartbeats 8000000 in
theorem root2_any (a : Int) (ha : N256 a) (w : World) : Calls Try.prog 27 #[.int .i64 2, .agg (num a)] w fun r w' => r = .returned (.tuple #[.agg (num (rootN 2 a (a ^ e256.toNat % mo 2))), .bool (decide ((a ^ e256.toNat % mo 2) * (a ^ e256.toNat % mo 2) % mo 2 = a % mo 2))]) ∧ Chg w w' := by
  have hz := zero25.1
  have hsA := num_size a
  have k0 := fun W => maybe2_any a ha W
  have hmN : N256 (a ^ e256.toNat % mo 2) := N_mod (.inr (.inl rfl)) _
  obtain ⟨m, hm⟩ : ∃ m, m = a ^ e256.toNat % mo 2 := ⟨_, rfl⟩
  rw [← hm] at k0 hmN ⊢
  clear hm
  obtain ⟨rr, hrr⟩ : ∃ rr, rr = m * m % mo 2 := ⟨_, rfl⟩
  obtain ⟨aa, haa⟩ : ∃ aa, aa = a % mo 2 := ⟨_, rfl⟩
  have HM : Hid (rootN 2 a m = if rr = aa then (if dg 2 m 0 = 1 then (0 - m) % mo 2 else m) else 0) := by
    show rootN 2 a m = _
    rw [hrr, haa]
    rfl
  have HNs : Hid (N256 rr ∧ N256 aa) := ⟨by rw [hrr]; exact N_mod (.inr (.inl rfl)) _, by rw [haa]; exact N_mod (.inr (.inl rfl)) _⟩
  have k2 := fun W => mul_any 2 m m (.inr (.inl rfl)) hmN hmN W
  have k3 := fun W => rest_any 2 a (.inr (.inl rfl)) ha W
  have k4 := fun W => bit_any m 0 (by decide) W
  have k5 := fun W => neg_any 2 m (.inr (.inl rfl)) hmN W
  rw [← hrr] at k2 ⊢
  rw [← haa] at k3 ⊢
  obtain ⟨A, hA⟩ : ∃ A, A = num a := ⟨_, rfl⟩
  obtain ⟨R, hR⟩ : ∃ R, R = num m := ⟨_, rfl⟩
  obtain ⟨X, hX⟩ : ∃ X, X = num ((0 - m) % mo 2) := ⟨_, rfl⟩
  obtain ⟨cb, hcb⟩ : ∃ cb, cb = (dg 2 m 0 == 1) := ⟨_, rfl⟩
  have HE : Hid (R = num m ∧ X = num ((0 - m) % mo 2) ∧ cb = (dg 2 m 0 == 1)) := ⟨hR, hX, hcb⟩
  have HSz : Hid (((Try.prog.info? 25).map (·.size) = some R.size ∧ (num 0).size = R.size ∧ R.all (·.oneCell') = true) ∧ (Try.prog.info? 25).map (·.size) = some X.size ∧ ((num 0).size = X.size ∧ R.size = X.size) ∧ X.all (·.oneCell') = true) := by
    rw [hR, hX]
    exact ⟨⟨szN _, lenN _ _, num_one _⟩, szN _, ⟨lenN _ _, lenN _ _⟩, num_one _⟩
  have HI : Hid ((Try.prog.info? 25).map (·.size) = some A.toList.length ∧ (Try.prog.info? 25).map (·.size) = some R.toList.length ∧ (Try.prog.info? 25).map (·.size) = some X.toList.length) := by
    rw [hA, hR, hX]
    exact ⟨infoN _, infoN _, infoN _⟩
  have HZ : Hid ((Try.prog.info? 25).map (·.size) = some (num 0).size ∧ (num 0).size = (num 0).size ∧ (num 0).all (·.oneCell') = true) := ⟨szN _, rfl, num_one _⟩
  rw [← hA] at hsA k0 k3 ⊢
  rw [← hR] at k0 k2 k4 k5
  rw [← hX] at k5
  rw [← hcb] at k4
  have HK : Hid ((∀ W, Calls Try.prog 58 #[.agg A] W fun r w' => r = .returned (.agg R) ∧ Chg W w') ∧ (∀ W, Calls Try.prog 14 #[.int .i64 2, .agg R, .agg R] W fun r w' => r = .returned (.agg (num rr)) ∧ Chg W w') ∧ (∀ W, Calls Try.prog 41 #[.int .i64 2, .agg A] W fun r w' => r = .returned (.agg (num aa)) ∧ Chg W w') ∧ (∀ W, Calls Try.prog 56 #[.agg R, .int .i64 0] W fun r w' => r = .returned (.bool cb) ∧ Chg W w') ∧ (∀ W, Calls Try.prog 16 #[.int .i64 2, .agg R] W fun r w' => r = .returned (.agg X) ∧ Chg W w')) := ⟨k0, k2, k3, k4, k5⟩
  clear hA hR hX hcb k0 k2 k3 k4 k5 ha hmN hrr haa
  go_enter Try.func27, Try.ntmps27
  go_upto_region 2 with fail
  obtain ⟨w1, hw1⟩ : ∃ w1, w1 = ((w.alloc (.cells A 25)).alloc (.cells (num 0) 25)).alloc (.cells (num 0) 25) := ⟨_, rfl⟩
  have Z : Hid (Chg w w1 ∧ Ar w1 w.heap.size A ∧ Ar w1 (w.heap.size + 1) (num 0) ∧ Ar w1 (w.heap.size + 1 + 1) (num 0)) := by
    rw [hw1]
    exact ⟨(((Chg.refl w).alloc _).alloc _).alloc _, ((Ar.new w _ _).alloc _).alloc _, (Ar.new1 w _ _ _).alloc _, Ar.new2 w _ _ _ _⟩
  rw [← hw1]
  clear hw1 hsA
  obtain ⟨iA, -, -⟩ := HI.out
  have r3 := rangeA Z.out.2.1
  go_wp2_with (first
    | refine wpList_load_mid rfl 25 (.tmp 3) rfl _ _ rfl (A.toList) _ r3 u25 rfl iA ?_)
  go_at_call 58
  refine (HK.out.1 _).mono ?_
  rintro r' w5 ⟨rfl, hc5⟩
  obtain ⟨sR, lR, oR⟩ := HSz.out.1
  have Z5 : Hid (Chg w w5 ∧ Ar w5 w.heap.size A ∧ Ar w5 (w.heap.size + 1) (num 0) ∧ Ar w5 (w.heap.size + 1 + 1) (num 0)) := ⟨Z.out.1.trans hc5, Z.out.2.1.chg hc5, Z.out.2.2.1.chg hc5, Z.out.2.2.2.chg hc5⟩
  obtain ⟨t6, g6⟩ := Z5.out.2.2.2
  clear hc5 Z r3 iA
  go_upto_region 8 with (first | refine wpList_store_row rfl 25 _ _ rfl _ _ rfl rfl _ _ g6 sR lR oR ?_)
  obtain ⟨w6, hw6⟩ : ∃ w4, w4 = w5.setRow (w.heap.size + 1 + 1) R := ⟨_, rfl⟩
  have Z6 : Hid (R2 w w6 A R) := by
    obtain ⟨q0, q1, q2, q3⟩ := Z5.out
    rw [hw6]
    exact ⟨q0.setRow (by omega) _, q1.rowOther (by omega) _, q2.rowOther (by omega) _, q3.row _⟩
  rw [← hw6]
  clear hw6 Z5 g6 sR lR oR
  obtain ⟨bb, hbb⟩ : ∃ bb, decide (rr = aa) = bb := ⟨_, rfl⟩
  have HB : Hid (decide (rr = aa) = bb) := hbb
  clear hbb
  try dsimp only [Act.put]
  go_cut [24] from 17 to 24 (fun v wc => v = .bool (!bb) ∧ Chg w6 wc)
  case first =>
    refine wp_region_good 7 (fun j v wg => match j with
      | 0 => v = .int .i64 2
      | 1 => v = .agg R
      | 2 => v = .agg R
      | 3 => v = .agg (num rr)
      | 4 => v = .int .i64 2
      | 5 => v = .agg A
      | 6 => v = .agg (num aa)
      | _ => True) (by kernel_rfl) (by kernel_rfl) (by kernel_rfl) (by kernel_rfl) (by kernel_rfl) ?_ ?_ ?_
    · intro j v u1 u2 h hc
      match j, h with
      | 0, h => exact h
      | 1, h => exact h
      | 2, h => exact h
      | 3, h => exact h
      | 4, h => exact h
      | 5, h => exact h
      | 6, h => exact h
      | _ + 7, h => exact trivial
    · intro i o ac u hi ho hsz hf hg hc
      have hcs : i = 0 ∨ i = 1 ∨ i = 2 ∨ i = 3 ∨ i = 4 ∨ i = 5 ∨ i = 6 := by omega
      rcases hcs with rfl | rfl | rfl | rfl | rfl | rfl | rfl
      · injection ho with ho
        subst ho
        refine .inl ⟨wanted_none rfl, ?_⟩
        have e1 : ac.eval (.tmp 0) = .int .i64 2 := hf 0 (by kernel_rfl)
        exact opG_val (by simp [execOp, e1]) rfl (Chg.refl _)
      · injection ho with ho
        subst ho
        refine .inl ⟨wanted_none rfl, ?_⟩
        have e1 : ac.eval (.tmp 6) = .pointer (some ⟨w.heap.size + 1 + 1, 0, none⟩) := hf 6 (by kernel_rfl)
        exact wp_load_mid 25 (.tmp 6) rfl _ _ e1 (R.toList) _ (rangeA (Ar.chg (w := w6.drew) Z6.out.r3 hc)) Go.Proofs.Ytnahkcapbbjfdaa.u25 rfl (HI.out.2.1) ⟨_, rfl, rfl, Chg.refl _⟩
      · injection ho with ho
        subst ho
        refine .inl ⟨wanted_none rfl, ?_⟩
        have e1 : ac.eval (.tmp 6) = .pointer (some ⟨w.heap.size + 1 + 1, 0, none⟩) := hf 6 (by kernel_rfl)
        exact wp_load_mid 25 (.tmp 6) rfl _ _ e1 (R.toList) _ (rangeA (Ar.chg (w := w6.drew) Z6.out.r3 hc)) Go.Proofs.Ytnahkcapbbjfdaa.u25 rfl (HI.out.2.1) ⟨_, rfl, rfl, Chg.refl _⟩
      · injection ho with ho
        subst ho
        refine .inl ⟨wanted_none rfl, ?_⟩
        have e1 : ac.eval (.tmp 17) = .int .i64 2 := hg 0 (by kernel_rfl) (by decide)
        have e2 : ac.eval (.tmp 18) = .agg R := hg 1 (by kernel_rfl) (by decide)
        have e3 : ac.eval (.tmp 19) = .agg R := hg 2 (by kernel_rfl) (by decide)
        refine opG_go 14 Try.f14 #[.tmp 17, .tmp 18, .tmp 19] #[22, 25, 25] rfl Try.func14 (by kernel_rfl) (by kernel_rfl) (by simp [e1, e2, e3]) (Calls.mono (HK.out.2.1 _) ?_)
        rintro e u2 ⟨rfl, hc2⟩
        exact ⟨_, rfl, rfl, hc2⟩
      · injection ho with ho
        subst ho
        refine .inl ⟨wanted_none rfl, ?_⟩
        have e1 : ac.eval (.tmp 0) = .int .i64 2 := hf 0 (by kernel_rfl)
        exact opG_val (by simp [execOp, e1]) rfl (Chg.refl _)
      · injection ho with ho
        subst ho
        refine .inl ⟨wanted_none rfl, ?_⟩
        have e1 : ac.eval (.tmp 3) = .pointer (some ⟨w.heap.size, 0, none⟩) := hf 3 (by kernel_rfl)
        exact wp_load_mid 25 (.tmp 3) rfl _ _ e1 (A.toList) _ (rangeA (Ar.chg (w := w6.drew) Z6.out.r1 hc)) Go.Proofs.Ytnahkcapbbjfdaa.u25 rfl (HI.out.1) ⟨_, rfl, rfl, Chg.refl _⟩
      · injection ho with ho
        subst ho
        refine .inl ⟨wanted_none rfl, ?_⟩
        have e1 : ac.eval (.tmp 21) = .int .i64 2 := hg 4 (by kernel_rfl) (by decide)
        have e2 : ac.eval (.tmp 22) = .agg A := hg 5 (by kernel_rfl) (by decide)
        refine opG_go 41 Try.f41 #[.tmp 21, .tmp 22] #[22, 25] rfl Try.func41 (by kernel_rfl) (by kernel_rfl) (by simp [e1, e2]) (Calls.mono (HK.out.2.2.1 _) ?_)
        rintro e u2 ⟨rfl, hc2⟩
        exact ⟨_, rfl, rfl, hc2⟩
    · intro o u V ho hV hc
      injection ho with ho
      subst ho
      refine ⟨rfl, ?_⟩
      have q17 : V 0 = .int .i64 2 := hV 0 (by decide)
      have q18 : V 1 = .agg R := hV 1 (by decide)
      have q19 : V 2 = .agg R := hV 2 (by decide)
      have q20 : V 3 = .agg (num rr) := hV 3 (by decide)
      have q21 : V 4 = .int .i64 2 := hV 4 (by decide)
      have q22 : V 5 = .agg A := hV 5 (by decide)
      have q23 : V 6 = .agg (num aa) := hV 6 (by decide)
      refine op_neqNum (.tmp 20) (.tmp 23) rr aa bb rfl HNs.out.1 HNs.out.2 (Eq.trans (by rfl) q20) (Eq.trans (by rfl) q23) HB.out ?_
      go_wp2_with fail
      go_meet
      exact ⟨rfl, (Chg.refl w6).drew.trans hc⟩
  case rest =>
    obtain ⟨rfl, c6⟩ := hcut
    obtain ⟨w7, hw7⟩ : ∃ w7, w7 = wc := ⟨_, rfl⟩
    have Z7 : Hid (R2 w w7 A R) := by rw [hw7]; exact Z6.out.to c6
    rw [← hw7]
    clear hw7 c6 Z6
    cases bb with
    | false =>
      obtain ⟨sZ, lZ, oZ⟩ := HZ.out
      obtain ⟨t, g⟩ := Z7.out.r2
      go_wp2_with (first
        | refine wpList_store_row rfl 25 _ _ rfl _ _ rfl rfl _ _ g (szN 0) rfl (num_one 0) ?_)
      have e : rootN 2 a m = 0 := by rw [HM.out, if_neg (of_decide_eq_false HB.out)]
      refine bp_ct (n := 4) (c := num 0) (x := .bool false) Try.results27 rfl rfl rfl (Z7.out.r2.row _) Go.Proofs.Ytnahkcapbbjfdaa.u25 i25 (num_size 0) ⟨by rw [HB.out, e], Z7.out.chg.setRow (by omega) _⟩
    | true =>
      have r6 := rangeA Z7.out.r3
      obtain ⟨-, iR, -⟩ := HI.out
      go_wp2_with (first
        | refine wpList_load_mid rfl 25 (.tmp 6) rfl _ _ rfl (R.toList) _ r6 Go.Proofs.Ytnahkcapbbjfdaa.u25 rfl iR ?_)
      go_at_call 56
      refine (HK.out.2.2.2.1 _).mono ?_
      rintro r' w8 ⟨rfl, hc8⟩
      have Z8 : Hid (R2 w w8 A R) := Z7.out.to hc8
      clear hc8 Z7 r6
      cases cb with
      | false =>
        have r6 := rangeA Z8.out.r3
        obtain ⟨sR, lR, oR⟩ := HSz.out.1
        obtain ⟨t, g⟩ := Z8.out.r2
        go_wp2_with (first
          | refine wpList_load_mid rfl 25 (.tmp 6) rfl _ _ rfl (R.toList) _ r6 Go.Proofs.Ytnahkcapbbjfdaa.u25 rfl iR ?_
          | refine wpList_store_row rfl 25 _ _ rfl _ _ rfl rfl _ _ g sR lR oR ?_)
        have e1 : ¬ dg 2 m 0 = 1 := by have := HE.out.2.2; simpa using this.symm
        have e : R = num (rootN 2 a m) := by rw [HM.out, if_pos (of_decide_eq_true HB.out), if_neg e1]; exact HE.out.1
        refine bp_ct (n := 4) (c := R) (x := .bool true) Try.results27 rfl rfl rfl (Z8.out.r2.row _) Go.Proofs.Ytnahkcapbbjfdaa.u25 i25 (by rw [e]; exact num_size _) ⟨by rw [HB.out, ← e], Z8.out.chg.setRow (by omega) _⟩
      | true =>
        have r6 := rangeA Z8.out.r3
        go_wp2_with (first
          | refine wpList_load_mid rfl 25 (.tmp 6) rfl _ _ rfl (R.toList) _ r6 Go.Proofs.Ytnahkcapbbjfdaa.u25 rfl iR ?_)
        go_at_call 16
        refine (HK.out.2.2.2.2 _).mono ?_
        rintro r' w9 ⟨rfl, hc9⟩
        have Z9 : Hid (R2 w w9 A R) := Z8.out.to hc9
        clear hc9 Z8 r6 iR
        obtain ⟨sX, ⟨lX, lX2⟩, oX⟩ := HSz.out.2
        obtain ⟨t6, g6⟩ := Z9.out.r3
        go_upto_region 12 with (first | refine wpList_store_row rfl 25 _ _ rfl _ _ rfl rfl _ _ g6 sX lX2 oX ?_)
        obtain ⟨w10, hw10⟩ : ∃ w4, w4 = w9.setRow (w.heap.size + 1 + 1) X := ⟨_, rfl⟩
        have Z10 : Hid (R2 w w10 A X) := by
          obtain ⟨q0, q1, q2, q3⟩ := Z9.out
          rw [hw10]
          exact ⟨q0.setRow (by omega) _, q1.rowOther (by omega) _, q2.rowOther (by omega) _, q3.row _⟩
        rw [← hw10]
        clear hw10 Z9 g6
        have r6 := rangeA Z10.out.r3
        obtain ⟨-, -, iX⟩ := HI.out
        obtain ⟨t, g⟩ := Z10.out.r2
        go_wp2_with (first
          | refine wpList_load_mid rfl 25 (.tmp 6) rfl _ _ rfl (X.toList) _ r6 Go.Proofs.Ytnahkcapbbjfdaa.u25 rfl iX ?_
          | refine wpList_store_row rfl 25 _ _ rfl _ _ rfl rfl _ _ g sX lX oX ?_)
        have e1 : dg 2 m 0 = 1 := by have := HE.out.2.2; simpa using this.symm
        have e : X = num (rootN 2 a m) := by rw [HM.out, if_pos (of_decide_eq_true HB.out), if_pos e1]; exact HE.out.2.1
        refine bp_ct (n := 4) (c := X) (x := .bool true) Try.results27 rfl rfl rfl (Z10.out.r2.row _) Go.Proofs.Ytnahkcapbbjfdaa.u25 i25 (by rw [e]; exact num_size _) ⟨by rw [HB.out, ← e], Z10.out.chg.setRow (by omega) _⟩
end Go.Proofs.Ytnahkcapbbjfdaa
