/-
  Powers in a field.
-/
import Derived.Test.YtnahkcapbbjfdaaLng
namespace Go.Proofs.Ytnahkcapbbjfdaa
open Go.RowKit
set_option linter.unusedVariables false

theorem pw_sq (a M : Int) (t : Nat) : (a ^ t % M) * (a ^ t % M) % M = a ^ (2 * t) % M := by
  rw [← Int.mul_emod, ← Int.pow_add, show t + t = 2 * t by omega]
theorem pw_one (a M : Int) (t : Nat) : (a ^ t % M) * a % M = a ^ (t + 1) % M := by
  rw [Int.mul_emod, Int.emod_emod_of_dvd _ (Int.dvd_refl M), ← Int.mul_emod, ← Int.pow_succ]
/-- What stands above a bit. -/
def up (e : Int) (k : Nat) : Nat := (e / 2 ^ k).toNat
theorem up_none {e : Int} {n : Nat} (h0 : 0 ≤ e) (h : e < 2 ^ n) : up e n = 0 := by
  unfold up
  rw [Int.ediv_eq_zero_of_lt h0 h]
  rfl
theorem up_all {e : Int} : up e 0 = e.toNat := by
  unfold up
  rw [Int.pow_zero, Int.ediv_one]
theorem up_next {e : Int} (h0 : 0 ≤ e) (k : Nat) : (up e k : Int) = 2 * up e (k + 1) + dg 2 e k := by
  have hp : (0 : Int) < 2 ^ k := Int.pow_pos (by decide)
  have h1 : 0 ≤ e / 2 ^ k := Int.ediv_nonneg h0 (by omega)
  have e2 : e / 2 ^ (k + 1) = e / 2 ^ k / 2 := by rw [Int.pow_succ, Int.ediv_ediv_of_nonneg (by omega)]
  unfold up dg
  rw [e2]
  generalize e / 2 ^ k = y at *
  omega

theorem num_set1 : (num 0).setIfInBounds 0 (.int .u64 1) = num 1 := by kernel_rfl
theorem N1 : N256 1 := ⟨by decide, by decide⟩
theorem N_mod {f : Int} (hf : f = 1 ∨ f = 2 ∨ f = 3 ∨ f = 4) (x : Int) : N256 (x % mo f) := by
  obtain ⟨h1, h2⟩ := mo_pos4 hf
  have k1 := Int.emod_nonneg x (show mo f ≠ 0 by omega)
  have k3 := Int.emod_lt_of_pos x h1
  exact ⟨k1, by omega⟩
/-- What stands at a power's loop. -/
structure XS (w wr : World) (b : Nat) (A E P : Array Value) : Prop where
  chg : Chg w wr
  at0 : Ar wr w.heap.size A
  at1 : Ar wr (w.heap.size + 1) E
  at2 : Ar wr (w.heap.size + 1 + 1) (num 0)
  pow : Ar wr b P
theorem XS.to {w wr u : World} {b : Nat} {A E P : Array Value} (h : XS w wr b A E P) (k : Chg wr u) : XS w u b A E P := ⟨h.chg.trans k, h.at0.chg k, h.at1.chg k, h.at2.chg k, h.pow.chg k⟩
theorem XS.row {w wr : World} {b : Nat} {A E P : Array Value} (h : XS w wr b A E P) (hb : w.heap.size + 2 < b) (Q : Array Value) : XS w (wr.setRow b Q) b A E Q := ⟨h.chg.setRow (by omega) _, h.at0.rowOther (by omega) _, h.at1.rowOther (by omega) _, h.at2.rowOther (by omega) _, h.pow.row _⟩

set_option maxRecDepth 100000 in
set_option maxHeartbeats 8000000 in
theorem exp_any (f a e : Int) (hf : f = 1 ∨ f = 2 ∨ f = 3 ∨ f = 4) (ha : N256 a) (he : N256 e) (w : World) : Calls Try.prog 22 #[.int .i64 f, .agg (num a), .agg (num e)] w fun r w' => r = .returned (.agg (num (a ^ e.toNat % mo f))) ∧ Chg w w' := by
  have HN : Hid (N256 a ∧ N256 e ∧ (f = 1 ∨ f = 2 ∨ f = 3 ∨ f = 4)) := ⟨ha, he, hf⟩
  have hz := zero25.1
  have hsA := num_size a
  have hsE := num_size e
  have iA := infoN a
  have iE := infoN e
  obtain ⟨A, hA⟩ : ∃ A, A = num a := ⟨_, rfl⟩
  obtain ⟨E, hE⟩ : ∃ E, E = num e := ⟨_, rfl⟩
  have HA : Hid (A = num a ∧ E = num e) := ⟨hA, hE⟩
  rw [← hA] at hsA iA ⊢
  rw [← hE] at hsE iE ⊢
  clear hA hE ha he hf
  go_enter Try.func22, Try.ntmps22
  go_upto_region 1 with fail
  obtain ⟨w1, hw1⟩ : ∃ w1, w1 = ((w.alloc (.cells A 25)).alloc (.cells E 25)).alloc (.cells (num 0) 25) := ⟨_, rfl⟩
  have Z : Hid (Chg w w1 ∧ Ar w1 w.heap.size A ∧ Ar w1 (w.heap.size + 1) E ∧ Ar w1 (w.heap.size + 1 + 1) (num 0)) := by
    rw [hw1]
    exact ⟨(((Chg.refl w).alloc _).alloc _).alloc _, ((Ar.new w _ _).alloc _).alloc _, (Ar.new1 w _ _ _).alloc _, Ar.new2 w _ _ _ _⟩
  rw [← hw1]
  clear hw1 hsA hsE
  go_wp2_with fail
  rw [num_set1]
  go_at_call 41
  refine (rest_any f 1 HN.out.2.2 N1 _).mono ?_
  rintro r w2 ⟨rfl, hc2⟩
  obtain ⟨P0, hP⟩ : ∃ P0, P0 = num (1 % mo f) := ⟨_, rfl⟩
  have HP : Hid (P0 = num (1 % mo f)) := hP
  have s1 : (Try.prog.info? 25).map (·.size) = some P0.size := by rw [hP]; exact szN _
  have l1 : (num 0).size = P0.size := by rw [hP]; exact lenN _ _
  have o1 : P0.all (·.oneCell') = true := by rw [hP]; exact num_one _
  rw [← hP]
  clear hP
  go_upto_region 2 with (first | refine wpList_store_row rfl 25 _ _ rfl _ _ rfl rfl _ _ (heap_alloc_last w2 _) s1 l1 o1 ?_)
  obtain ⟨b, hb⟩ : ∃ b, b = w2.heap.size := ⟨_, rfl⟩
  obtain ⟨w3, hw3⟩ : ∃ w3, w3 = (w2.alloc (.cells (num 0) 25)).setRow w2.heap.size P0 := ⟨_, rfl⟩
  have HB : Hid (w.heap.size + 2 < b) := by
    have h1 := Z.out.2.2.2.lt
    have h2 := hc2.size
    show w.heap.size + 2 < b
    omega
  have Z3 : Hid (XS w w3 b A E P0) := by
    have hx : XS w (w2.alloc (.cells (num 0) 25)) w2.heap.size A E (num 0) := by
      have q := Z.out
      exact ⟨(q.1.trans hc2).alloc _, (q.2.1.chg hc2).alloc _, (q.2.2.1.chg hc2).alloc _, (q.2.2.2.chg hc2).alloc _, Ar.new w2 _ _⟩
    have := HB.out
    rw [hw3, hb]
    exact hx.row (by omega) P0
  rw [← hw3, ← hb]
  clear hw3 hb hc2 Z s1 l1 o1
  have r5 := rangeA Z3.out.at1
  go_wp2_with (first
    | refine wpList_load_mid rfl 25 (.tmp 5) rfl _ _ rfl (E.toList) _ r5 Go.Proofs.Ytnahkcapbbjfdaa.u25 rfl iE ?_)
  go_at_call 55
  have kl := fun W => length_any e HN.out.2.1 W
  rw [← HA.out.2] at kl
  refine (kl _).mono ?_
  rintro r w4 ⟨n, rfl, hn, hen, hc4⟩
  have HE : Hid (e < 2 ^ n ∧ n ≤ 256) := ⟨hen, hn⟩
  have Z4 : Hid (XS w w4 b A E (num (a ^ up e (n - 0) % mo f))) := by
    have h := Z3.out.to hc4
    rw [HP.out] at h
    rw [Nat.sub_zero, up_none HN.out.2.1.1 hen, Int.pow_zero]
    exact h
  clear kl hen hc4 Z3 r5 HP
  go_wp2_with fail
  go_loopw [16] (fun v wr => ∃ (i : Nat), v = .int .i64 i ∧ i ≤ n ∧ XS w wr b A E (num (a ^ up e (n - i) % mo f))) (fun v wr => n - (intOf v).toNat)
  case atStart => exact ⟨0, rfl, by omega, Z4.out⟩
  case round =>
    clear Z4
    obtain ⟨i, rfl, hi, hxs⟩ := hrel
    have Z : Hid (XS w wr b A E (num (a ^ up e (n - i) % mo f))) := hxs
    clear hxs
    by_cases hlt : i < n
    · have hd : decide ((i : Int) < n) = true := by simp; omega
      have li : (i : Int) < n := by omega
      obtain ⟨n1, hn1⟩ : ∃ n1 : Nat, (n : Int) - 1 = n1 := ⟨n - 1, by omega⟩
      have wn1 := wrap_i (x := (n1 : Int)) (by omega) (by omega)
      obtain ⟨j, hj⟩ : ∃ j : Nat, (n1 : Int) - i = j := ⟨n1 - i, by omega⟩
      have wj := wrap_i (x := (j : Int)) (by omega) (by omega)
      have HJ : Hid (n - i = j + 1 ∧ n - (i + 1) = j ∧ j < 256) := ⟨by omega, by omega, by omega⟩
      obtain ⟨t, ht⟩ : ∃ t, t = up e (n - i) := ⟨_, rfl⟩
      have HT : Hid ((up e j : Int) = 2 * t + dg 2 e j) := by
        show (up e j : Int) = 2 * t + dg 2 e j
        rw [ht, HJ.out.1]
        exact up_next HN.out.2.1.1 j
      rw [← ht] at Z
      clear ht
      obtain ⟨P, hP⟩ : ∃ P, P = num (a ^ t % mo f) := ⟨_, rfl⟩
      obtain ⟨P2, hP2⟩ : ∃ P, P = num (a ^ (2 * t) % mo f) := ⟨_, rfl⟩
      obtain ⟨P3, hP3⟩ : ∃ P, P = num (a ^ (2 * t + 1) % mo f) := ⟨_, rfl⟩
      have HP : Hid (P2 = num (a ^ (2 * t) % mo f) ∧ P3 = num (a ^ (2 * t + 1) % mo f)) := ⟨hP2, hP3⟩
      have K : Hid ((∀ W, Calls Try.prog 14 #[.int .i64 f, .agg P, .agg P] W fun r w' => r = .returned (.agg P2) ∧ Chg W w') ∧ (∀ W, Calls Try.prog 14 #[.int .i64 f, .agg P2, .agg A] W fun r w' => r = .returned (.agg P3) ∧ Chg W w')) := by
        rw [hP, hP2, hP3, HA.out.1, ← pw_sq, ← pw_one a _ (2 * t), ← pw_sq]
        exact ⟨fun W => mul_any f _ _ HN.out.2.2 (N_mod HN.out.2.2 _) (N_mod HN.out.2.2 _) W, fun W => mul_any f _ _ HN.out.2.2 (N_mod HN.out.2.2 _) HN.out.1 W⟩
      have kb := fun W => bit_any e j HJ.out.2.2 W
      rw [← HA.out.2] at kb
      obtain ⟨bb, hbb⟩ : ∃ bb, bb = (dg 2 e j == 1) := ⟨_, rfl⟩
      rw [← hbb] at kb
      have KB : Hid (∀ W, Calls Try.prog 56 #[.agg E, .int .i64 j] W fun r w' => r = .returned (.bool bb) ∧ Chg W w') := kb
      have HBb : Hid (bb = (dg 2 e j == 1)) := hbb
      have iP : (Try.prog.info? 25).map (·.size) = some P.toList.length := by rw [hP]; exact infoN _
      have iP2 : (Try.prog.info? 25).map (·.size) = some P2.toList.length := by rw [hP2]; exact infoN _
      have s2 : (Try.prog.info? 25).map (·.size) = some P2.size := by rw [hP2]; exact szN _
      have l2 : P.size = P2.size := by rw [hP, hP2]; exact lenN _ _
      have o2 : P2.all (·.oneCell') = true := by rw [hP2]; exact num_one _
      have s3 : (Try.prog.info? 25).map (·.size) = some P3.size := by rw [hP3]; exact szN _
      have l3 : P2.size = P3.size := by rw [hP2, hP3]; exact lenN _ _
      have o3 : P3.all (·.oneCell') = true := by rw [hP3]; exact num_one _
      rw [← hP] at Z
      clear hP hP2 hP3 kb hbb
      have r7 := rangeA Z.out.pow
      go_wp2_with (first
        | refine wpList_load_mid rfl 25 (.tmp 7) rfl _ _ rfl (P.toList) _ r7 Go.Proofs.Ytnahkcapbbjfdaa.u25 rfl iP ?_)
      go_at_call 14
      refine (K.out.1 _).mono ?_
      rintro r w5 ⟨rfl, hc5⟩
      have Z5 : Hid (XS w w5 b A E P) := Z.out.to hc5
      obtain ⟨t7, g7⟩ := Z5.out.pow
      clear hc5 r7 Z
      go_upto_region 7 with (first | refine wpList_store_row rfl 25 _ _ rfl _ _ rfl rfl _ _ g7 s2 l2 o2 ?_)
      obtain ⟨w6, hw6⟩ : ∃ w6, w6 = w5.setRow b P2 := ⟨_, rfl⟩
      have Z6 : Hid (XS w w6 b A E P2) := by rw [hw6]; exact Z5.out.row HB.out P2
      rw [← hw6]
      clear hw6 g7 Z5 s2 l2 o2
      have r5 := rangeA Z6.out.at1
      go_wp2_with (first
        | refine wpList_load_mid rfl 25 (.tmp 5) rfl _ _ rfl (E.toList) _ r5 Go.Proofs.Ytnahkcapbbjfdaa.u25 rfl iE ?_)
      go_at_call 56
      refine (KB.out _).mono ?_
      rintro r w7 ⟨rfl, hc7⟩
      have Z7 : Hid (XS w w7 b A E P2) := Z6.out.to hc7
      clear hc7 r5 Z6
      have hbd := dg_bound (B := 2) (by decide) e j
      cases bb with
      | true =>
        have r7 := rangeA Z7.out.pow
        have r4 := rangeA Z7.out.at0
        go_wp2_with (first
          | refine wpList_load_mid rfl 25 (.tmp 7) rfl _ _ rfl (P2.toList) _ r7 Go.Proofs.Ytnahkcapbbjfdaa.u25 rfl iP2 ?_
          | refine wpList_load_mid rfl 25 (.tmp 4) rfl _ _ rfl (A.toList) _ r4 Go.Proofs.Ytnahkcapbbjfdaa.u25 rfl iA ?_)
        go_at_call 14
        refine (K.out.2 _).mono ?_
        rintro r w8 ⟨rfl, hc8⟩
        have Z8 : Hid (XS w w8 b A E P2) := Z7.out.to hc8
        obtain ⟨t7, g7⟩ := Z8.out.pow
        clear hc8 r7 r4 Z7
        go_wp2_with (first | refine wpList_store_row rfl 25 _ _ rfl _ _ rfl rfl _ _ g7 s3 l3 o3 ?_)
        go_roundw
        case rel =>
          refine ⟨i + 1, by go_num, by omega, ?_⟩
          have h1 : dg 2 e j = 1 := by have := HBb.out; simpa using this.symm
          have h2 : up e j = 2 * t + 1 := by have := HT.out; omega
          rw [HJ.out.2.1, h2, ← HP.out.2]
          exact Z8.out.row HB.out P3
        case measure => simp [intOf]; omega
      | false =>
        go_wp2_with fail
        go_roundw
        case rel =>
          refine ⟨i + 1, by go_num, by omega, ?_⟩
          have h1 : ¬ dg 2 e j = 1 := by have := HBb.out; simpa using this.symm
          have h2 : up e j = 2 * t := by have := HT.out; omega
          rw [HJ.out.2.1, h2, ← HP.out.1]
          exact Z7.out
        case measure => simp [intOf]; omega
    · have : i = n := by omega
      subst this
      rw [Nat.sub_self, up_all] at Z
      obtain ⟨P, hP⟩ : ∃ P, P = num (a ^ e.toNat % mo f) := ⟨_, rfl⟩
      have HP : Hid (P = num (a ^ e.toNat % mo f)) := hP
      have iP : (Try.prog.info? 25).map (·.size) = some P.toList.length := by rw [hP]; exact infoN _
      have s1 : (Try.prog.info? 25).map (·.size) = some P.size := by rw [hP]; exact szN _
      have l1 : (num 0).size = P.size := by rw [hP]; exact lenN _ _
      have o1 : P.all (·.oneCell') = true := by rw [hP]; exact num_one _
      rw [← hP] at Z
      clear hP
      have r7 := rangeA Z.out.pow
      obtain ⟨t6, g6⟩ := Z.out.at2
      go_wp2_with (first
        | refine wpList_load_mid rfl 25 (.tmp 7) rfl _ _ rfl (P.toList) _ r7 Go.Proofs.Ytnahkcapbbjfdaa.u25 rfl iP ?_
        | refine wpList_store_row rfl 25 _ _ rfl _ _ rfl rfl _ _ g6 s1 l1 o1 ?_)
      rw [HP.out]
      refine bp_n (x := a ^ e.toNat % mo f) Try.results22 rfl rfl ?_ ⟨rfl, Z.out.chg.setRow (by omega) _⟩
      exact Z.out.at2.row _
end Go.Proofs.Ytnahkcapbbjfdaa
