/-
  Powers and inverses, of whatever field.
  The document's powers, of whatever field.
  The document's inverses.
  Powers and inverses are the document's: the law, walked.
-/
import Derived.Test.YtnahkcapbbjfdaaInv
import Derived.Test.YtnahkcapbbjfdaaJc
import Derived.Test.YtnahkcapbbjfdaaJa
import Derived.Test.YtnahkcapbbjfdaaLw
import Derived.Test.YtnahkcapbbjfdaaRkW
namespace Go.Proofs.Ytnahkcapbbjfdaa
open Go.RowKit
set_option linter.unusedVariables false

theorem mw_sq (f a : Int) (t : Nat) : md f (md f (a ^ t) * md f (a ^ t)) = md f (a ^ (2 * t)) := by
  by_cases hf : f = 1 ∨ f = 2 ∨ f = 3 ∨ f = 4
  · rw [md_in hf, md_in hf, md_in hf]
    exact pw_sq a _ t
  · rw [md_out hf, md_out hf]
theorem mw_one (f a : Int) (t : Nat) : md f (md f (a ^ t) * a) = md f (a ^ (t + 1)) := by
  by_cases hf : f = 1 ∨ f = 2 ∨ f = 3 ∨ f = 4
  · rw [md_in hf, md_in hf, md_in hf]
    exact pw_one a _ t
  · rw [md_out hf, md_out hf]

set_option maxRecDepth 100000 in
set_option maxHeartbeats 8000000 in
theorem expM_any (f a e : Int) (ha : N256 a) (he : N256 e) (w : World) : Calls Try.prog 22 #[.int .i64 f, .agg (num a), .agg (num e)] w fun r w' => r = .returned (.agg (num (md f (a ^ e.toNat)))) ∧ Chg w w' := by
  have HN : Hid (N256 a ∧ N256 e ∧ True) := ⟨ha, he, trivial⟩
  have hz := zero25.1
  have hsA := num_size a
  have hsE := num_size e
  have iA := infoN a
  have iE := infoN e
  obtain ⟨A, hA⟩ : ∃ A, A = num a := ⟨_, rfl⟩
  obtain ⟨E, hE⟩ : ∃ E, E = num e := ⟨_, rfl⟩
  have HA : Hid (A = num a ∧ E = num e) := ⟨hA, hE⟩
  rw [← hA] at hsA iA ⊢
  rw [← hE] at hsE iE ⊢
  clear hA hE ha he
  go_enter Try.func22, Try.ntmps22
  go_upto_region 1 with fail
  obtain ⟨w1, hw1⟩ : ∃ w1, w1 = ((w.alloc (.cells A 25)).alloc (.cells E 25)).alloc (.cells (num 0) 25) := ⟨_, rfl⟩
  have Z : Hid (Chg w w1 ∧ Ar w1 w.heap.size A ∧ Ar w1 (w.heap.size + 1) E ∧ Ar w1 (w.heap.size + 1 + 1) (num 0)) := by
    rw [hw1]
    exact ⟨(((Chg.refl w).alloc _).alloc _).alloc _, ((Ar.new w _ _).alloc _).alloc _, (Ar.new1 w _ _ _).alloc _, Ar.new2 w _ _ _ _⟩
  rw [← hw1]
  clear hw1 hsA hsE
  go_wp2_with fail
  rw [num_set1]
  go_at_call 41
  refine (restM_any f 1 N1 _).mono ?_
  rintro r w2 ⟨rfl, hc2⟩
  obtain ⟨P0, hP⟩ : ∃ P0, P0 = num (md f 1) := ⟨_, rfl⟩
  have HP : Hid (P0 = num (md f 1)) := hP
  have s1 : (Try.prog.info? 25).map (·.size) = some P0.size := by rw [hP]; exact szN _
  have l1 : (num 0).size = P0.size := by rw [hP]; exact lenN _ _
  have o1 : P0.all (·.oneCell') = true := by rw [hP]; exact num_one _
  rw [← hP]
  clear hP
  go_upto_region 2 with (first | refine wpList_store_row rfl 25 _ _ rfl _ _ rfl rfl _ _ (heap_alloc_last w2 _) s1 l1 o1 ?_)
  obtain ⟨b, hb⟩ : ∃ b, b = w2.heap.size := ⟨_, rfl⟩
  obtain ⟨w3, hw3⟩ : ∃ w3, w3 = (w2.alloc (.cells (num 0) 25)).setRow w2.heap.size P0 := ⟨_, rfl⟩
  have HB : Hid (w.heap.size + 2 < b) := by
    have h1 := Z.out.2.2.2.lt
    have h2 := hc2.size
    show w.heap.size + 2 < b
    omega
  have Z3 : Hid (XS w w3 b A E P0) := by
    have hx : XS w (w2.alloc (.cells (num 0) 25)) w2.heap.size A E (num 0) := by
      have q := Z.out
      exact ⟨(q.1.trans hc2).alloc _, (q.2.1.chg hc2).alloc _, (q.2.2.1.chg hc2).alloc _, (q.2.2.2.chg hc2).alloc _, Ar.new w2 _ _⟩
    have := HB.out
    rw [hw3, hb]
    exact hx.row (by omega) P0
  rw [← hw3, ← hb]
  clear hw3 hb hc2 Z s1 l1 o1
  have r5 := rangeA Z3.out.at1
  go_wp2_with (first
    | refine wpList_load_mid rfl 25 (.tmp 5) rfl _ _ rfl (E.toList) _ r5 Go.Proofs.Ytnahkcapbbjfdaa.u25 rfl iE ?_)
  go_at_call 55
  have kl := fun W => length_any e HN.out.2.1 W
  rw [← HA.out.2] at kl
  refine (kl _).mono ?_
  rintro r w4 ⟨n, rfl, hn, hen, hc4⟩
  have HE : Hid (e < 2 ^ n ∧ n ≤ 256) := ⟨hen, hn⟩
  have Z4 : Hid (XS w w4 b A E (num (md f (a ^ up e (n - 0))))) := by
    have h := Z3.out.to hc4
    rw [HP.out] at h
    rw [Nat.sub_zero, up_none HN.out.2.1.1 hen, Int.pow_zero]
    exact h
  clear kl hen hc4 Z3 r5 HP
  go_wp2_with fail
  go_loopw [16] (fun v wr => ∃ (i : Nat), v = .int .i64 i ∧ i ≤ n ∧ XS w wr b A E (num (md f (a ^ up e (n - i))))) (fun v wr => n - (intOf v).toNat)
  case atStart => exact ⟨0, rfl, by omega, Z4.out⟩
  case round =>
    clear Z4
    obtain ⟨i, rfl, hi, hxs⟩ := hrel
    have Z : Hid (XS w wr b A E (num (md f (a ^ up e (n - i))))) := hxs
    clear hxs
    by_cases hlt : i < n
    · have hd : decide ((i : Int) < n) = true := by simp; omega
      have li : (i : Int) < n := by omega
      obtain ⟨n1, hn1⟩ : ∃ n1 : Nat, (n : Int) - 1 = n1 := ⟨n - 1, by omega⟩
      have wn1 := wrap_i (x := (n1 : Int)) (by omega) (by omega)
      obtain ⟨j, hj⟩ : ∃ j : Nat, (n1 : Int) - i = j := ⟨n1 - i, by omega⟩
      have wj := wrap_i (x := (j : Int)) (by omega) (by omega)
      have HJ : Hid (n - i = j + 1 ∧ n - (i + 1) = j ∧ j < 256) := ⟨by omega, by omega, by omega⟩
      obtain ⟨t, ht⟩ : ∃ t, t = up e (n - i) := ⟨_, rfl⟩
      have HT : Hid ((up e j : Int) = 2 * t + dg 2 e j) := by
        show (up e j : Int) = 2 * t + dg 2 e j
        rw [ht, HJ.out.1]
        exact up_next HN.out.2.1.1 j
      rw [← ht] at Z
      clear ht
      obtain ⟨P, hP⟩ : ∃ P, P = num (md f (a ^ t)) := ⟨_, rfl⟩
      obtain ⟨P2, hP2⟩ : ∃ P, P = num (md f (a ^ (2 * t))) := ⟨_, rfl⟩
      obtain ⟨P3, hP3⟩ : ∃ P, P = num (md f (a ^ (2 * t + 1))) := ⟨_, rfl⟩
      have HP : Hid (P2 = num (md f (a ^ (2 * t))) ∧ P3 = num (md f (a ^ (2 * t + 1)))) := ⟨hP2, hP3⟩
      have K : Hid ((∀ W, Calls Try.prog 14 #[.int .i64 f, .agg P, .agg P] W fun r w' => r = .returned (.agg P2) ∧ Chg W w') ∧ (∀ W, Calls Try.prog 14 #[.int .i64 f, .agg P2, .agg A] W fun r w' => r = .returned (.agg P3) ∧ Chg W w')) := by
        rw [hP, hP2, hP3, HA.out.1, ← mw_sq f a t, ← mw_one f a (2 * t), ← mw_sq f a t]
        exact ⟨fun W => mulM_any f _ _ (md_N f _) (md_N f _) W, fun W => mulM_any f _ _ (md_N f _) HN.out.1 W⟩
      have kb := fun W => bit_any e j HJ.out.2.2 W
      rw [← HA.out.2] at kb
      obtain ⟨bb, hbb⟩ : ∃ bb, bb = (dg 2 e j == 1) := ⟨_, rfl⟩
      rw [← hbb] at kb
      have KB : Hid (∀ W, Calls Try.prog 56 #[.agg E, .int .i64 j] W fun r w' => r = .returned (.bool bb) ∧ Chg W w') := kb
      have HBb : Hid (bb = (dg 2 e j == 1)) := hbb
      have iP : (Try.prog.info? 25).map (·.size) = some P.toList.length := by rw [hP]; exact infoN _
      have iP2 : (Try.prog.info? 25).map (·.size) = some P2.toList.length := by rw [hP2]; exact infoN _
      have s2 : (Try.prog.info? 25).map (·.size) = some P2.size := by rw [hP2]; exact szN _
      have l2 : P.size = P2.size := by rw [hP, hP2]; exact lenN _ _
      have o2 : P2.all (·.oneCell') = true := by rw [hP2]; exact num_one _
      have s3 : (Try.prog.info? 25).map (·.size) = some P3.size := by rw [hP3]; exact szN _
      have l3 : P2.size = P3.size := by rw [hP2, hP3]; exact lenN _ _
      have o3 : P3.all (·.oneCell') = true := by rw [hP3]; exact num_one _
      rw [← hP] at Z
      clear hP hP2 hP3 kb hbb
      have r7 := rangeA Z.out.pow
      go_wp2_with (first
        | refine wpList_load_mid rfl 25 (.tmp 7) rfl _ _ rfl (P.toList) _ r7 Go.Proofs.Ytnahkcapbbjfdaa.u25 rfl iP ?_)
      go_at_call 14
      refine (K.out.1 _).mono ?_
      rintro r w5 ⟨rfl, hc5⟩
      have Z5 : Hid (XS w w5 b A E P) := Z.out.to hc5
      obtain ⟨t7, g7⟩ := Z5.out.pow
      clear hc5 r7 Z
      go_upto_region 7 with (first | refine wpList_store_row rfl 25 _ _ rfl _ _ rfl rfl _ _ g7 s2 l2 o2 ?_)
      obtain ⟨w6, hw6⟩ : ∃ w6, w6 = w5.setRow b P2 := ⟨_, rfl⟩
      have Z6 : Hid (XS w w6 b A E P2) := by rw [hw6]; exact Z5.out.row HB.out P2
      rw [← hw6]
      clear hw6 g7 Z5 s2 l2 o2
      have r5 := rangeA Z6.out.at1
      go_wp2_with (first
        | refine wpList_load_mid rfl 25 (.tmp 5) rfl _ _ rfl (E.toList) _ r5 Go.Proofs.Ytnahkcapbbjfdaa.u25 rfl iE ?_)
      go_at_call 56
      refine (KB.out _).mono ?_
      rintro r w7 ⟨rfl, hc7⟩
      have Z7 : Hid (XS w w7 b A E P2) := Z6.out.to hc7
      clear hc7 r5 Z6
      have hbd := dg_bound (B := 2) (by decide) e j
      cases bb with
      | true =>
        have r7 := rangeA Z7.out.pow
        have r4 := rangeA Z7.out.at0
        go_wp2_with (first
          | refine wpList_load_mid rfl 25 (.tmp 7) rfl _ _ rfl (P2.toList) _ r7 Go.Proofs.Ytnahkcapbbjfdaa.u25 rfl iP2 ?_
          | refine wpList_load_mid rfl 25 (.tmp 4) rfl _ _ rfl (A.toList) _ r4 Go.Proofs.Ytnahkcapbbjfdaa.u25 rfl iA ?_)
        go_at_call 14
        refine (K.out.2 _).mono ?_
        rintro r w8 ⟨rfl, hc8⟩
        have Z8 : Hid (XS w w8 b A E P2) := Z7.out.to hc8
        obtain ⟨t7, g7⟩ := Z8.out.pow
        clear hc8 r7 r4 Z7
        go_wp2_with (first | refine wpList_store_row rfl 25 _ _ rfl _ _ rfl rfl _ _ g7 s3 l3 o3 ?_)
        go_roundw
        case rel =>
          refine ⟨i + 1, by go_num, by omega, ?_⟩
          have h1 : dg 2 e j = 1 := by have := HBb.out; simpa using this.symm
          have h2 : up e j = 2 * t + 1 := by have := HT.out; omega
          rw [HJ.out.2.1, h2, ← HP.out.2]
          exact Z8.out.row HB.out P3
        case measure => simp [intOf]; omega
      | false =>
        go_wp2_with fail
        go_roundw
        case rel =>
          refine ⟨i + 1, by go_num, by omega, ?_⟩
          have h1 : ¬ dg 2 e j = 1 := by have := HBb.out; simpa using this.symm
          have h2 : up e j = 2 * t := by have := HT.out; omega
          rw [HJ.out.2.1, h2, ← HP.out.1]
          exact Z7.out
        case measure => simp [intOf]; omega
    · have : i = n := by omega
      subst this
      rw [Nat.sub_self, up_all] at Z
      obtain ⟨P, hP⟩ : ∃ P, P = num (md f (a ^ e.toNat)) := ⟨_, rfl⟩
      have HP : Hid (P = num (md f (a ^ e.toNat))) := hP
      have iP : (Try.prog.info? 25).map (·.size) = some P.toList.length := by rw [hP]; exact infoN _
      have s1 : (Try.prog.info? 25).map (·.size) = some P.size := by rw [hP]; exact szN _
      have l1 : (num 0).size = P.size := by rw [hP]; exact lenN _ _
      have o1 : P.all (·.oneCell') = true := by rw [hP]; exact num_one _
      rw [← hP] at Z
      clear hP
      have r7 := rangeA Z.out.pow
      obtain ⟨t6, g6⟩ := Z.out.at2
      go_wp2_with (first
        | refine wpList_load_mid rfl 25 (.tmp 7) rfl _ _ rfl (P.toList) _ r7 Go.Proofs.Ytnahkcapbbjfdaa.u25 rfl iP ?_
        | refine wpList_store_row rfl 25 _ _ rfl _ _ rfl rfl _ _ g6 s1 l1 o1 ?_)
      rw [HP.out]
      refine bp_n (x := md f (a ^ e.toNat)) Try.results22 rfl rfl ?_ ⟨rfl, Z.out.chg.setRow (by omega) _⟩
      exact Z.out.at2.row _
set_option maxRecDepth 100000 in
set_option maxHeartbeats 8000000 in
theorem invM_any (f a : Int) (ha : N256 a) (w : World) : Calls Try.prog 26 #[.int .i64 f, .agg (num a)] w fun r w' => r = .returned (.agg (num (md f (a ^ ((mo f - 2) % R256).toNat)))) ∧ Chg w w' := by
  have HN : Hid (N256 a ∧ True) := ⟨ha, trivial⟩
  have hz := zero25.1
  have hsA := num_size a
  have iA := infoN a
  have iL := infoN ((mo f - 2) % R256)
  have k1 := fun W => modulus_any f W
  have k2 := fun W => minus_num (mo f) 2 (mo_N f) N2 W
  have k3 := fun W => expM_any f a ((mo f - 2) % R256) ha (N_modR _) W
  have sL := szN ((mo f - 2) % R256)
  have lL := lenN 0 ((mo f - 2) % R256)
  have oL := num_one ((mo f - 2) % R256)
  obtain ⟨A, hA⟩ : ∃ A, A = num a := ⟨_, rfl⟩
  obtain ⟨M, hM⟩ : ∃ M, M = num (mo f) := ⟨_, rfl⟩
  obtain ⟨L, hL⟩ : ∃ L, L = num ((mo f - 2) % R256) := ⟨_, rfl⟩
  obtain ⟨o, ho⟩ : ∃ o, o = bor (mo f) 2 := ⟨_, rfl⟩
  obtain ⟨X, hX⟩ : ∃ X, X = num (md f (a ^ ((mo f - 2) % R256).toNat)) := ⟨_, rfl⟩
  have HXe : Hid (X = num (md f (a ^ ((mo f - 2) % R256).toNat))) := hX
  have sX : (Try.prog.info? 25).map (·.size) = some X.size := by rw [hX]; exact szN _
  have lX : (num 0).size = X.size := by rw [hX]; exact lenN _ _
  have oX : X.all (·.oneCell') = true := by rw [hX]; exact num_one _
  rw [← hA] at hsA iA k3 ⊢
  rw [← hM] at k1 k2
  rw [← hL] at iL k2 k3 sL lL oL
  rw [← ho] at k2
  rw [← hX] at k3
  have HK : Hid ((∀ W, Calls Try.prog 18 #[.int .i64 f] W fun r w' => r = .returned (.agg M) ∧ Chg W w') ∧ (∀ W, Calls Try.prog 42 #[.agg M, .agg (num 2)] W fun r w' => r = .returned (.tuple #[.agg L, .int .u64 o]) ∧ Chg W w') ∧ (∀ W, Calls Try.prog 22 #[.int .i64 f, .agg A, .agg L] W fun r w' => r = .returned (.agg X) ∧ Chg W w')) := ⟨k1, k2, k3⟩
  have HSz : Hid (((Try.prog.info? 25).map (·.size) = some L.size ∧ (num 0).size = L.size ∧ L.all (·.oneCell') = true) ∧ (Try.prog.info? 25).map (·.size) = some X.size ∧ (num 0).size = X.size ∧ X.all (·.oneCell') = true) := ⟨⟨sL, lL, oL⟩, sX, lX, oX⟩
  have HI : Hid ((Try.prog.info? 25).map (·.size) = some A.toList.length ∧ (Try.prog.info? 25).map (·.size) = some L.toList.length) := ⟨iA, iL⟩
  clear hA hM hL ho hX k1 k2 k3 ha sL lL oL sX lX oX iA iL
  go_enter Try.func26, Try.ntmps26
  go_upto_region 1 with fail
  obtain ⟨w1, hw1⟩ : ∃ w1, w1 = (w.alloc (.cells A 25)).alloc (.cells (num 0) 25) := ⟨_, rfl⟩
  have Z : Hid (Chg w w1 ∧ Ar w1 w.heap.size A ∧ Ar w1 (w.heap.size + 1) (num 0)) := by
    rw [hw1]
    exact ⟨((Chg.refl w).alloc _).alloc _, (Ar.new w _ _).alloc _, Ar.new1 w _ _ _⟩
  rw [← hw1]
  clear hw1 hsA
  go_wp2_with fail
  go_at_call 18
  refine (HK.out.1 _).mono ?_
  rintro r w2 ⟨rfl, hc2⟩
  have Z2 : Hid (Chg w w2 ∧ Ar w2 w.heap.size A ∧ Ar w2 (w.heap.size + 1) (num 0)) := ⟨Z.out.1.trans hc2, Z.out.2.1.chg hc2, Z.out.2.2.chg hc2⟩
  clear hc2 Z
  go_wp2_with fail
  rw [num_set2]
  go_at_call 42
  refine (HK.out.2.1 _).mono ?_
  rintro r w3 ⟨rfl, hc3⟩
  have Z3 : Hid (Chg w w3 ∧ Ar w3 w.heap.size A ∧ Ar w3 (w.heap.size + 1) (num 0)) := ⟨Z2.out.1.trans hc3, Z2.out.2.1.chg hc3, Z2.out.2.2.chg hc3⟩
  clear hc3 Z2
  obtain ⟨sL, lL, oL⟩ := HSz.out.1
  go_upto_region 2 with (first | refine wpList_store_row rfl 25 _ _ rfl _ _ rfl rfl _ _ (heap_alloc_last w3 _) sL lL oL ?_)
  obtain ⟨b, hb⟩ : ∃ b, b = w3.heap.size := ⟨_, rfl⟩
  obtain ⟨w4, hw4⟩ : ∃ w4, w4 = (w3.alloc (.cells (num 0) 25)).setRow w3.heap.size L := ⟨_, rfl⟩
  have Z4 : Hid (Chg w w4 ∧ Ar w4 w.heap.size A ∧ Ar w4 (w.heap.size + 1) (num 0) ∧ Ar w4 b L) := by
    have q := Z3.out
    have q1 := q.2.2.lt
    rw [hw4, hb]
    exact ⟨(q.1.alloc _).setRow (by omega) _, (q.2.1.alloc _).rowOther (by omega) _, (q.2.2.alloc _).rowOther (by omega) _, (Ar.new w3 _ _).row _⟩
  rw [← hw4, ← hb]
  clear hw4 hb Z3 sL lL oL
  obtain ⟨iA, iL⟩ := HI.out
  have r3 := rangeA Z4.out.2.1
  have r5 := rangeA Z4.out.2.2.2
  go_wp2_with (first
    | refine wpList_load_mid rfl 25 (.tmp 3) rfl _ _ rfl (A.toList) _ r3 u25 rfl iA ?_
    | refine wpList_load_mid rfl 25 (.tmp 5) rfl _ _ rfl (L.toList) _ r5 u25 rfl iL ?_)
  go_at_call 22
  refine (HK.out.2.2 _).mono ?_
  rintro r w5 ⟨rfl, hc5⟩
  have Z5 : Hid (Chg w w5 ∧ Ar w5 (w.heap.size + 1) (num 0)) := ⟨Z4.out.1.trans hc5, Z4.out.2.2.1.chg hc5⟩
  clear hc5 r3 r5 Z4 iA iL
  obtain ⟨sX, lX, oX⟩ := HSz.out.2
  obtain ⟨t, g⟩ := Z5.out.2
  go_wp2_with (first | refine wpList_store_row rfl 25 _ _ rfl _ _ rfl rfl _ _ g sX lX oX ?_)
  rw [HXe.out]
  refine bp_n (x := md f (a ^ ((mo f - 2) % R256).toNat)) Try.results26 rfl rfl ?_ ⟨rfl, Z5.out.1.setRow (by omega) _⟩
  exact Z5.out.2.row _

end Go.Proofs.Ytnahkcapbbjfdaa

namespace Go.Proofs.Ytnahkcapbbjfdaa
open Go.RowKit
set_option linter.unusedVariables false

set_option maxRecDepth 100000 in
set_option maxHeartbeats 8000000 in
theorem expR_any (f a e : Int) (ha : N256 a) (he : N256 e) (w : World) : Calls Try.prog 23 #[.int .i64 f, .agg (num a), .agg (num e)] w fun r w' => r = .returned (.agg (num (md f (a ^ e.toNat)))) ∧ Chg w w' := by
  have HN : Hid (N256 a ∧ N256 e) := ⟨ha, he⟩
  have HIs : Hid (∀ u, Calls Try.prog 24 #[.int .i64 f] u fun r w' => r = .returned (.bool (isF f)) ∧ Chg u w') := fun u => is_any f u
  have hz := zero25.1
  have hsA := num_size a
  have hsE := num_size e
  have iA := infoN a
  have s0 := szN 0
  have l0 := lenN 0 0
  have o0 := num_one 0
  obtain ⟨A, hA⟩ : ∃ A, A = num a := ⟨_, rfl⟩
  obtain ⟨E, hE⟩ : ∃ E, E = num e := ⟨_, rfl⟩
  have HA : Hid (A = num a ∧ E = num e) := ⟨hA, hE⟩
  rw [← hA] at hsA iA ⊢
  rw [← hE] at hsE ⊢
  obtain ⟨bb, hbb⟩ : ∃ b, b = isF f := ⟨_, rfl⟩
  rw [← hbb] at HIs
  have HBB : Hid (bb = isF f) := hbb
  clear hA hE ha he hbb
  go_enter Try.func23, Try.ntmps23
  go_upto_region 1 with fail
  obtain ⟨w1, hw1⟩ : ∃ w1, w1 = ((w.alloc (.cells A 25)).alloc (.cells E 25)).alloc (.cells (num 0) 25) := ⟨_, rfl⟩
  have Z1 : Hid (Chg w w1 ∧ Ar w1 w.heap.size A ∧ Ar w1 (w.heap.size + 1) E ∧ Ar w1 (w.heap.size + 1 + 1) (num 0)) := by
    rw [hw1]
    exact ⟨(((Chg.refl w).alloc _).alloc _).alloc _, ((Ar.new w _ _).alloc _).alloc _, (Ar.new1 w _ _ _).alloc _, Ar.new2 w _ _ _ _⟩
  rw [← hw1]
  clear hw1 hsA hsE
  go_wp2_with fail
  go_at_call 24
  refine (HIs.out _).mono ?_
  rintro r w2 ⟨rfl, hc2⟩
  have Z2 : Hid (Chg w w2 ∧ Ar w2 w.heap.size A ∧ Ar w2 (w.heap.size + 1) E ∧ Ar w2 (w.heap.size + 1 + 1) (num 0)) := ⟨Z1.out.1.trans hc2, Z1.out.2.1.chg hc2, Z1.out.2.2.1.chg hc2, Z1.out.2.2.2.chg hc2⟩
  clear hc2 Z1
  cases bb with
  | false =>
    have hf : ¬ (f = 1 ∨ f = 2 ∨ f = 3 ∨ f = 4) := fun h => by have := (isF_iff f).2 h; rw [← HBB.out] at this; cases this
    have HE : Hid (md f (a ^ e.toNat) = 0) := md_out hf _
    clear hf iA
    obtain ⟨t, g⟩ := Z2.out.2.2.2
    go_wp2_with (first | refine wpList_store_row rfl 25 _ _ rfl _ _ rfl rfl _ _ g s0 rfl o0 ?_)
    refine bp_n (x := 0) Try.results23 rfl rfl ?_ ⟨by rw [HE.out], ?_⟩
    · exact Z2.out.2.2.2.row _
    · exact Z2.out.1.setRow (by omega) _
  | true =>
    have hf : f = 1 ∨ f = 2 ∨ f = 3 ∨ f = 4 := (isF_iff f).1 HBB.out.symm
    have HF : Hid (f = 1 ∨ f = 2 ∨ f = 3 ∨ f = 4) := hf
    clear hf s0 l0 o0
    go_upto_region 5 with (first | refine wpList_store_row rfl 25 _ _ rfl _ _ rfl rfl _ _ (heap_alloc_last w2 _) (by rw [num_set1]; exact szN _) (by rw [num_set1]; exact lenN _ _) (by rw [num_set1]; exact num_one _) ?_)
    rw [num_set1]
    obtain ⟨b, hb⟩ : ∃ b, b = w2.heap.size := ⟨_, rfl⟩
    obtain ⟨w3, hw3⟩ : ∃ w3, w3 = (w2.alloc (.cells (num 0) 25)).setRow w2.heap.size (num 1) := ⟨_, rfl⟩
    have HB : Hid (w.heap.size + 2 < b) := by
      have h1 := Z2.out.2.2.2.lt
      show w.heap.size + 2 < b
      omega
    have Z3 : Hid (XS w w3 b A E (num 1)) := by
      have hx : XS w (w2.alloc (.cells (num 0) 25)) w2.heap.size A E (num 0) := by
        have q := Z2.out
        exact ⟨q.1.alloc _, q.2.1.alloc _, q.2.2.1.alloc _, q.2.2.2.alloc _, Ar.new w2 _ _⟩
      have := HB.out
      rw [hw3, hb]
      exact hx.row (by omega) (num 1)
    rw [← hw3, ← hb]
    clear hw3 hb Z2
    go_wp2_with fail
    go_loopw [9] (fun v wr => ∃ (z : Int), v = .int .i64 z ∧ -1 ≤ z ∧ z < 256 ∧ XS w wr b A E (num (md f (a ^ up e (z + 1).toNat)))) (fun v wr => (intOf v + 1).toNat)
    case atStart =>
      refine ⟨255, rfl, by decide, by decide, ?_⟩
      have e1 : md f (a ^ up e ((255 : Int) + 1).toNat) = 1 := by
        rw [show ((255 : Int) + 1).toNat = 256 from rfl, up_none HN.out.2.1 (by have := HN.out.2.2; exact this), Int.pow_zero, md_in HF.out]
        rcases HF.out with rfl | rfl | rfl | rfl <;> decide +kernel
      rw [e1]
      exact Z3.out
    case round =>
      clear Z3
      obtain ⟨z, rfl, hz0, hz1, hxs⟩ := hrel
      have Z : Hid (XS w wr b A E (num (md f (a ^ up e (z + 1).toNat)))) := hxs
      clear hxs
      by_cases hzz : 0 ≤ z
      · obtain ⟨j, rfl⟩ : ∃ q : Nat, z = q := ⟨z.toNat, by omega⟩
        have hdz : decide ((0 : Int) ≤ (j : Int)) = true := by simp
        have lj0 : (0 : Int) ≤ (j : Int) := by omega
        obtain ⟨z', hz'⟩ : ∃ z' : Int, (j : Int) - 1 = z' := ⟨_, rfl⟩
        have wz := wrap_i (x := z') (by omega) (by omega)
        have HZ' : Hid (z' = (j : Int) - 1 ∧ (z' + 1).toNat = j ∧ j < 256) := ⟨hz'.symm, by omega, by omega⟩
        obtain ⟨t, ht⟩ : ∃ t, t = up e (j + 1) := ⟨_, rfl⟩
        have HT : Hid ((up e j : Int) = 2 * t + dg 2 e j) := by
          show (up e j : Int) = 2 * t + dg 2 e j
          rw [ht]
          exact up_next HN.out.2.1 j
        rw [show ((j : Int) + 1).toNat = j + 1 by omega, ← ht] at Z
        clear ht
        obtain ⟨P, hP⟩ : ∃ P, P = num (md f (a ^ t)) := ⟨_, rfl⟩
        obtain ⟨P2, hP2⟩ : ∃ P, P = num (md f (a ^ (2 * t))) := ⟨_, rfl⟩
        obtain ⟨P3, hP3⟩ : ∃ P, P = num (md f (a ^ (2 * t + 1))) := ⟨_, rfl⟩
        have HP : Hid (P2 = num (md f (a ^ (2 * t))) ∧ P3 = num (md f (a ^ (2 * t + 1)))) := ⟨hP2, hP3⟩
        have K : Hid ((∀ W, Calls Try.prog 15 #[.int .i64 f, .agg P, .agg P] W fun r w' => r = .returned (.agg P2) ∧ Chg W w') ∧ (∀ W, Calls Try.prog 15 #[.int .i64 f, .agg P2, .agg A] W fun r w' => r = .returned (.agg P3) ∧ Chg W w')) := by
          rw [hP, hP2, hP3, HA.out.1, ← mw_sq f a t, ← mw_one f a (2 * t), ← mw_sq f a t]
          exact ⟨fun W => mulR_any f _ _ (md_N f _) (md_N f _) W, fun W => mulR_any f _ _ (md_N f _) HN.out.1 W⟩
        have iP : (Try.prog.info? 25).map (·.size) = some P.toList.length := by rw [hP]; exact infoN _
        have iP2 : (Try.prog.info? 25).map (·.size) = some P2.toList.length := by rw [hP2]; exact infoN _
        have s2 : (Try.prog.info? 25).map (·.size) = some P2.size := by rw [hP2]; exact szN _
        have l2 : P.size = P2.size := by rw [hP, hP2]; exact lenN _ _
        have o2 : P2.all (·.oneCell') = true := by rw [hP2]; exact num_one _
        have s3 : (Try.prog.info? 25).map (·.size) = some P3.size := by rw [hP3]; exact szN _
        have l3 : P2.size = P3.size := by rw [hP2, hP3]; exact lenN _ _
        have o3 : P3.all (·.oneCell') = true := by rw [hP3]; exact num_one _
        have HS3 : Hid ((Try.prog.info? 25).map (·.size) = some P3.size ∧ P2.size = P3.size ∧ P3.all (·.oneCell') = true ∧ (Try.prog.info? 25).map (·.size) = some P2.toList.length) := ⟨s3, l3, o3, iP2⟩
        rw [← hP] at Z
        clear hP hP2 hP3 s3 l3 o3 iP2
        have r8 := rangeA Z.out.pow
        go_wp2_with (first
          | refine wpList_load_mid rfl 25 (.tmp 8) rfl _ _ rfl (P.toList) _ r8 Go.Proofs.Ytnahkcapbbjfdaa.u25 rfl iP ?_)
        go_at_call 15
        refine (K.out.1 _).mono ?_
        rintro r w5 ⟨rfl, hc5⟩
        have Z5 : Hid (XS w w5 b A E P) := Z.out.to hc5
        obtain ⟨t7, g7⟩ := Z5.out.pow
        clear hc5 r8 Z
        go_upto_region 9 with (first | refine wpList_store_row rfl 25 _ _ rfl _ _ rfl rfl _ _ g7 s2 l2 o2 ?_)
        obtain ⟨w6, hw6⟩ : ∃ w6, w6 = w5.setRow b P2 := ⟨_, rfl⟩
        have Z6 : Hid (XS w w6 b A E P2) := by rw [hw6]; exact Z5.out.row HB.out P2
        rw [← hw6]
        clear hw6 g7 Z5 s2 l2 o2 iP
        obtain ⟨q, hq⟩ : ∃ q : Nat, (j : Int).tdiv 64 = q := ⟨j / 64, by rw [Int.tdiv_eq_ediv_of_nonneg (by omega)]; omega⟩
        obtain ⟨s, hs⟩ : ∃ t : Nat, (j : Int).tmod 64 = t := ⟨j % 64, by rw [Int.tmod_eq_emod_of_nonneg (by omega)]; omega⟩
        have hq' : q = j / 64 := by rw [Int.tdiv_eq_ediv_of_nonneg (by omega)] at hq; omega
        have hs' : s = j % 64 := by rw [Int.tmod_eq_emod_of_nonneg (by omega)] at hs; omega
        have wq := wrap_i (x := (q : Int)) (by omega) (by omega)
        have wt := wrap_i (x := (s : Int)) (by omega) (by omega)
        have lt : ¬ (s : Int) < 0 := by omega
        have lt64 : s < 64 := by omega
        have lq : (q : Int) < 4 := by omega
        have lq' : q < 4 := by omega
        have hdw : W64 (dg B64 e q) := dg_w e q
        have hsw : W64 (dg B64 e q / 2 ^ s) := by
          have ⟨h0, h1⟩ := hdw
          have hp : (0 : Int) < 2 ^ s := Int.pow_pos (by decide)
          exact ⟨Int.ediv_nonneg h0 (by omega), Int.lt_of_le_of_lt (Int.ediv_le_self _ h0) h1⟩
        have em := low1 hsw
        rw [dg_bit e q s lt64] at em
        have ei : 64 * q + s = j := by omega
        rw [ei] at em
        have c1 : w6.cell? ⟨w.heap.size + 1, q, none⟩ = some (.int .u64 (dg B64 e q)) := by
          have h := Z6.out.at1
          rw [HA.out.2] at h
          exact (h.cell q).trans (arr_get _ _ _ lq')
        obtain ⟨d, hd⟩ : ∃ d, d = dg B64 e q := ⟨_, rfl⟩
        obtain ⟨y, hy⟩ : ∃ y, y = dg 2 e j := ⟨_, rfl⟩
        rw [← hd, ← hy] at em
        rw [← hd] at c1
        rw [← hy] at HT
        have HY : Hid (0 ≤ y ∧ y < 2) := by
          have hbd := dg_bound (B := 2) (by decide) e j
          show 0 ≤ y ∧ y < 2
          rw [hy]
          exact hbd
        clear hq' hs' hdw hsw ei hd hy
        by_cases hy1 : y = 1
        · have hyb : (y == 1) = true := by simp [hy1]
          obtain ⟨s3, l3, o3, iP2⟩ := HS3.out
          have HY1 : Hid (y = 1) := hy1
          clear hy1
          have r8 := rangeA Z6.out.pow
          have r4 := rangeA Z6.out.at0
          go_wp2_with (first
            | refine wpList_load_mid rfl 25 (.tmp 8) rfl _ _ rfl (P2.toList) _ r8 Go.Proofs.Ytnahkcapbbjfdaa.u25 rfl iP2 ?_
            | refine wpList_load_mid rfl 25 (.tmp 4) rfl _ _ rfl (A.toList) _ r4 Go.Proofs.Ytnahkcapbbjfdaa.u25 rfl iA ?_)
          go_at_call 15
          refine (K.out.2 _).mono ?_
          rintro r w8 ⟨rfl, hc8⟩
          have Z8 : Hid (XS w w8 b A E P2) := Z6.out.to hc8
          obtain ⟨t7, g7⟩ := Z8.out.pow
          clear hc8 r8 r4 Z6 c1
          go_wp2_with (first | refine wpList_store_row rfl 25 _ _ rfl _ _ rfl rfl _ _ g7 s3 l3 o3 ?_)
          go_roundw
          case rel =>
            refine ⟨z', by first | rfl | go_num, by have := HZ'.out.1; omega, by have := HZ'.out.1; omega, ?_⟩
            have h2 : up e j = 2 * t + 1 := by have := HT.out; have := HY1.out; omega
            rw [HZ'.out.2.1, h2, ← HP.out.2]
            exact Z8.out.row HB.out P3
          case measure =>
            simp [intOf]
            omega
        · have hyb : (y == 1) = false := by simp [hy1]
          have HY1 : Hid (¬ y = 1) := hy1
          clear hy1
          go_wp2_with fail
          go_roundw
          case rel =>
            refine ⟨z', by first | rfl | go_num, by have := HZ'.out.1; omega, by have := HZ'.out.1; omega, ?_⟩
            have h2 : up e j = 2 * t := by have := HT.out; have := HY1.out; have := HY.out; omega
            rw [HZ'.out.2.1, h2, ← HP.out.1]
            exact Z6.out
          case measure =>
            simp [intOf]
            omega
      · have : z = -1 := by omega
        subst this
        rw [show ((-1 : Int) + 1).toNat = 0 from rfl, up_all] at Z
        obtain ⟨P, hP⟩ : ∃ P, P = num (md f (a ^ e.toNat)) := ⟨_, rfl⟩
        have HP : Hid (P = num (md f (a ^ e.toNat))) := hP
        have iP : (Try.prog.info? 25).map (·.size) = some P.toList.length := by rw [hP]; exact infoN _
        have s1 : (Try.prog.info? 25).map (·.size) = some P.size := by rw [hP]; exact szN _
        have l1 : (num 0).size = P.size := by rw [hP]; exact lenN _ _
        have o1 : P.all (·.oneCell') = true := by rw [hP]; exact num_one _
        rw [← hP] at Z
        clear hP
        have r7 := rangeA Z.out.pow
        obtain ⟨t6, g6⟩ := Z.out.at2
        go_wp2_with (first
          | refine wpList_load_mid rfl 25 (.tmp 8) rfl _ _ rfl (P.toList) _ r7 Go.Proofs.Ytnahkcapbbjfdaa.u25 rfl iP ?_
          | refine wpList_store_row rfl 25 _ _ rfl _ _ rfl rfl _ _ g6 s1 l1 o1 ?_)
        rw [HP.out]
        refine bp_n (x := md f (a ^ e.toNat)) Try.results23 rfl rfl ?_ ⟨rfl, Z.out.chg.setRow (by omega) _⟩
        exact Z.out.at2.row _
end Go.Proofs.Ytnahkcapbbjfdaa

namespace Go.Proofs.Ytnahkcapbbjfdaa
open Go.RowKit
set_option linter.unusedVariables false

theorem num_ne0x : (num 0 = #[]) = False := by
  apply eq_false
  intro h
  have := congrArg Array.size h
  rw [num_size] at this
  cases this
set_option maxRecDepth 100000 in
set_option maxHeartbeats 8000000 in
theorem invR_any (f a : Int) (ha : N256 a) (w : World) : Calls Try.prog 25 #[.int .i64 f, .agg (num a)] w fun r w' => r = .returned (.agg (num (md f (a ^ ((mo f - 2) % R256).toNat)))) ∧ Chg w w' := by
  have hz := zero25.1
  have hsA := num_size a
  have iA := infoN a
  obtain ⟨A, hA⟩ : ∃ A, A = num a := ⟨_, rfl⟩
  obtain ⟨M, hM⟩ : ∃ M, M = num (mo f) := ⟨_, rfl⟩
  obtain ⟨T, hT⟩ : ∃ M, M = num 2 := ⟨_, rfl⟩
  obtain ⟨D, hD⟩ : ∃ M, M = num ((mo f - 2) % R256) := ⟨_, rfl⟩
  obtain ⟨ANS, hANS⟩ : ∃ A, A = num (md f (a ^ ((mo f - 2) % R256).toNat)) := ⟨_, rfl⟩
  have HANS : Hid (ANS = num (md f (a ^ ((mo f - 2) % R256).toNat))) := hANS
  have HT : Hid (T = num 2) := hT
  have HMo : Hid (∀ u, Calls Try.prog 19 #[.int .i64 f] u fun r w' => r = .returned (.agg M) ∧ Chg u w') := fun u => by rw [hM]; exact modulusR_any f u
  have HM : Hid (∀ u, Calls Try.prog 46 #[.agg M, .agg T] u fun r w' => r = .returned (.agg D) ∧ Chg u w') := fun u => by rw [hM, hT, hD]; exact minusR_any _ _ (mo_N f) N2 u
  have HEx : Hid (∀ u, Calls Try.prog 23 #[.int .i64 f, .agg A, .agg D] u fun r w' => r = .returned (.agg ANS) ∧ Chg u w') := fun u => by rw [hA, hD, hANS]; exact expR_any f a _ ha (N_modR _) u
  have sR := szN (md f (a ^ ((mo f - 2) % R256).toNat))
  have oR := num_one (md f (a ^ ((mo f - 2) % R256).toNat))
  rw [← hA] at hsA iA ⊢
  rw [← hANS] at sR oR ⊢
  clear hA hM hT hD hANS ha
  go_enter Try.func25, Try.ntmps25
  go_upto_region 1 with fail
  obtain ⟨w2, hw2⟩ : ∃ w2, w2 = (w.alloc (.cells A 25)).alloc (.cells (num 0) 25) := ⟨_, rfl⟩
  have Z2 : Hid (Chg w w2 ∧ Ar w2 w.heap.size A ∧ Ar w2 (w.heap.size + 1) (num 0)) := by
    rw [hw2]
    exact ⟨((Chg.refl w).alloc _).alloc _, (Ar.new w _ _).alloc _, Ar.new1 w _ _ _⟩
  rw [← hw2]
  clear hw2 hsA
  refine wp_region_good 7 (fun j v wg => match j with
    | 0 => v = .int .i64 f
    | 1 => v = .agg A
    | 2 => v = .int .i64 f
    | 3 => v = .agg M
    | 4 => v = .agg T
    | 5 => v = .agg D
    | 6 => v = .agg ANS
    | _ => True) (by kernel_rfl) (by kernel_rfl) (by kernel_rfl) (by kernel_rfl) (by kernel_rfl) ?_ ?_ ?_
  · intro j v u1 u2 h hc
    match j, h with
    | 0, h => exact h
    | 1, h => exact h
    | 2, h => exact h
    | 3, h => exact h
    | 4, h => exact h
    | 5, h => exact h
    | 6, h => exact h
    | _ + 7, h => exact trivial
  · intro i o ac u hi ho hsz hf hg hc
    have hcs : i = 0 ∨ i = 1 ∨ i = 2 ∨ i = 3 ∨ i = 4 ∨ i = 5 ∨ i = 6 := by omega
    rcases hcs with rfl | rfl | rfl | rfl | rfl | rfl | rfl
    · injection ho with ho
      subst ho
      refine .inl ⟨wanted_none rfl, ?_⟩
      have e1 : ac.eval (.tmp 0) = .int .i64 f := hf 0 (by kernel_rfl)
      exact opG_val (by simp [execOp, e1]) rfl (Chg.refl _)
    · injection ho with ho
      subst ho
      refine .inl ⟨wanted_none rfl, ?_⟩
      have e1 : ac.eval (.tmp 3) = .pointer (some ⟨w.heap.size, 0, none⟩) := hf 3 (by kernel_rfl)
      exact wp_load_mid 25 (.tmp 3) rfl _ _ e1 (A.toList) _ (rangeA (Ar.chg (w := w2.drew) Z2.out.2.1 hc)) Go.Proofs.Ytnahkcapbbjfdaa.u25 rfl (iA) ⟨_, rfl, rfl, Chg.refl _⟩
    · injection ho with ho
      subst ho
      refine .inl ⟨wanted_none rfl, ?_⟩
      have e1 : ac.eval (.tmp 0) = .int .i64 f := hf 0 (by kernel_rfl)
      exact opG_val (by simp [execOp, e1]) rfl (Chg.refl _)
    · injection ho with ho
      subst ho
      refine .inl ⟨wanted_none rfl, ?_⟩
      have e1 : ac.eval (.tmp 7) = .int .i64 f := hg 2 (by kernel_rfl) (by decide)
      refine opG_go 19 Try.f19 #[.tmp 7] #[22] rfl Try.func19 (by kernel_rfl) (by kernel_rfl) (by simp [e1]) (Calls.mono (HMo.out _) ?_)
      rintro r u2 ⟨rfl, hc2⟩
      exact ⟨_, rfl, rfl, hc2⟩
    · injection ho with ho
      subst ho
      refine .inl ⟨wanted_none rfl, ?_⟩
      have e1 : ac.eval (.const (.int .u64 2)) = .int .u64 2 := rfl
      exact opG_val (by revert e1; generalize ac.eval = ρ; intro e1; simp [go_sem, execOp, e1, zero25.1, num_set2, num_ne0x, HT.out]) rfl (Chg.refl _)
    · injection ho with ho
      subst ho
      refine .inl ⟨wanted_none rfl, ?_⟩
      have e1 : ac.eval (.tmp 8) = .agg M := hg 3 (by kernel_rfl) (by decide)
      have e2 : ac.eval (.tmp 9) = .agg T := hg 4 (by kernel_rfl) (by decide)
      refine opG_go 46 Try.f46 #[.tmp 8, .tmp 9] #[25, 25] rfl Try.func46 (by kernel_rfl) (by kernel_rfl) (by simp [e1, e2]) (Calls.mono (HM.out _) ?_)
      rintro r u2 ⟨rfl, hc2⟩
      exact ⟨_, rfl, rfl, hc2⟩
    · injection ho with ho
      subst ho
      refine .inl ⟨wanted_none rfl, ?_⟩
      have e1 : ac.eval (.tmp 5) = .int .i64 f := hg 0 (by kernel_rfl) (by decide)
      have e2 : ac.eval (.tmp 6) = .agg A := hg 1 (by kernel_rfl) (by decide)
      have e3 : ac.eval (.tmp 10) = .agg D := hg 5 (by kernel_rfl) (by decide)
      refine opG_go 23 Try.f23 #[.tmp 5, .tmp 6, .tmp 10] #[22, 25, 25] rfl Try.func23 (by kernel_rfl) (by kernel_rfl) (by simp [e1, e2, e3]) (Calls.mono (HEx.out _) ?_)
      rintro r u2 ⟨rfl, hc2⟩
      exact ⟨_, rfl, rfl, hc2⟩
  · intro o u V ho hV hc
    injection ho with ho
    subst ho
    refine ⟨rfl, ?_⟩
    have q5 : V 0 = .int .i64 f := hV 0 (by decide)
    have q6 : V 1 = .agg A := hV 1 (by decide)
    have q7 : V 2 = .int .i64 f := hV 2 (by decide)
    have q8 : V 3 = .agg M := hV 3 (by decide)
    have q9 : V 4 = .agg T := hV 4 (by decide)
    have q10 : V 5 = .agg D := hV 5 (by decide)
    have q11 : V 6 = .agg ANS := hV 6 (by decide)
    have hres := Ar.chg (w := w2.drew) Z2.out.2.2 hc
    refine wp_store_mid 25 (.tmp 4) (.tmp 11) rfl (w.heap.size + 1) 0 ANS (by rfl) (Eq.trans (by rfl) q11) (by rw [HANS.out, num_size]; exact thereN hres) sR oR ?_
    rw [show u.setCells (w.heap.size + 1) 0 ANS.toList = u.setRow (w.heap.size + 1) ANS by rw [HANS.out]; exact setRowN hres _]
    go_wp2_with fail
    refine bp_n (x := md f (a ^ ((mo f - 2) % R256).toNat)) Try.results25 rfl (by rfl) ?_ ⟨by rw [HANS.out], ?_⟩
    · rw [← HANS.out]
      exact hres.row _
    · exact (Z2.out.1.drew.trans hc).setRow (by omega) _
end Go.Proofs.Ytnahkcapbbjfdaa

namespace Go.Proofs.Ytnahkcapbbjfdaa
open Go.RowKit
set_option linter.unusedVariables false

set_option maxRecDepth 100000 in
set_option maxHeartbeats 16000000 in
theorem powers_walk (f a b : Int) (ha : N256 a) (hb : N256 b) (w : World) : Calls Try.prog 4 #[.int .i64 f, .agg (num a), .agg (num b)] w fun r w' => r = .returned (.bool true) ∧ Chg w w' := by
  have HAB : Hid (N256 a ∧ N256 b) := ⟨ha, hb⟩
  have hz := zero25.1
  have hsA := num_size a
  have hsB := num_size b
  have s0 := szN 0
  have l0 := lenN 0 0
  have o0 := num_one 0
  obtain ⟨A, hA⟩ : ∃ A, A = num a := ⟨_, rfl⟩
  obtain ⟨B, hB⟩ : ∃ B, B = num b := ⟨_, rfl⟩
  have HA : Hid (A = num a ∧ B = num b) := ⟨hA, hB⟩
  rw [← hA] at hsA ⊢
  rw [← hB] at hsB ⊢
  clear hA hB ha hb
  go_enter Try.func4, Try.ntmps4
  go_upto_region 1 with fail
  obtain ⟨w0, hw0⟩ : ∃ w0, w0 = (w.alloc (.cells A 25)).alloc (.cells B 25) := ⟨_, rfl⟩
  have Z0 : Hid (Chg w w0 ∧ Ar w0 w.heap.size (num a) ∧ Ar w0 (w.heap.size + 1) (num b)) := by
    rw [hw0, HA.out.1, HA.out.2]
    exact ⟨((Chg.refl w).alloc _).alloc _, (Ar.new w _ _).alloc _, Ar.new1 w _ _ _⟩
  rw [← hw0]
  clear hw0 hsA hsB HA
  go_wp2_with fail
  go_at_call 9
  refine (head_any _).mono ?_
  rintro r w1 ⟨rfl, hc1⟩
  have Z1 : Hid (Chg w w1 ∧ Ar w1 w.heap.size (num a) ∧ Ar w1 (w.heap.size + 1) (num b)) := ⟨Z0.out.1.trans hc1, Z0.out.2.1.chg hc1, Z0.out.2.2.chg hc1⟩
  clear hc1 Z0
  go_upto_region 2 with fail
  go_cut [8] from 11 to 20 (fun v wc => v = .bool true ∧ Chg w1 wc)
  case first =>
    refine wp_region_good 9 (fun j v wg => match j with
      | 0 => v = .int .i64 f
      | 1 => v = .agg (num a)
      | 2 => v = .agg (num b)
      | 3 => v = .agg (num (md f (a ^ b.toNat)))
      | 4 => v = .int .i64 f
      | 5 => v = .agg (num a)
      | 6 => v = .agg (num b)
      | 7 => v = .agg (num (md f (a ^ b.toNat)))
      | 8 => v = .bool true
      | _ => True) (by kernel_rfl) (by kernel_rfl) (by kernel_rfl) (by kernel_rfl) (by kernel_rfl) ?_ ?_ ?_
    · intro j v u1 u2 h hc
      match j, h with
      | 0, h => exact h
      | 1, h => exact h
      | 2, h => exact h
      | 3, h => exact h
      | 4, h => exact h
      | 5, h => exact h
      | 6, h => exact h
      | 7, h => exact h
      | 8, h => exact h
      | _ + 9, h => exact trivial
    · intro i o ac u hi ho hsz hf hg hc
      have hcs : i = 0 ∨ i = 1 ∨ i = 2 ∨ i = 3 ∨ i = 4 ∨ i = 5 ∨ i = 6 ∨ i = 7 ∨ i = 8 := by omega
      rcases hcs with rfl | rfl | rfl | rfl | rfl | rfl | rfl | rfl | rfl
      · injection ho with ho
        subst ho
        refine .inl ⟨wanted_none rfl, ?_⟩
        have e1 : ac.eval (.tmp 0) = .int .i64 f := hf 0 (by kernel_rfl)
        exact opG_val (by simp [execOp, e1]) rfl (Chg.refl _)
      · injection ho with ho
        subst ho
        refine .inl ⟨wanted_none rfl, ?_⟩
        have e1 : ac.eval (.tmp 4) = .pointer (some ⟨w.heap.size, 0, none⟩) := hf 4 (by kernel_rfl)
        exact wp_load_mid 25 (.tmp 4) rfl _ _ e1 ((num a).toList) _ (rangeN (Ar.chg (w := w1.drew) Z1.out.2.1 hc)) Go.Proofs.Ytnahkcapbbjfdaa.u25 rfl (infoN _) ⟨_, rfl, rfl, Chg.refl _⟩
      · injection ho with ho
        subst ho
        refine .inl ⟨wanted_none rfl, ?_⟩
        have e1 : ac.eval (.tmp 5) = .pointer (some ⟨w.heap.size + 1, 0, none⟩) := hf 5 (by kernel_rfl)
        exact wp_load_mid 25 (.tmp 5) rfl _ _ e1 ((num b).toList) _ (rangeN (Ar.chg (w := w1.drew) Z1.out.2.2 hc)) Go.Proofs.Ytnahkcapbbjfdaa.u25 rfl (infoN _) ⟨_, rfl, rfl, Chg.refl _⟩
      · injection ho with ho
        subst ho
        refine .inl ⟨wanted_none rfl, ?_⟩
        have e1 : ac.eval (.tmp 11) = .int .i64 f := hg 0 (by kernel_rfl) (by decide)
        have e2 : ac.eval (.tmp 12) = .agg (num a) := hg 1 (by kernel_rfl) (by decide)
        have e3 : ac.eval (.tmp 13) = .agg (num b) := hg 2 (by kernel_rfl) (by decide)
        refine opG_go 22 Try.f22 #[.tmp 11, .tmp 12, .tmp 13] #[22, 25, 25] rfl Try.func22 (by kernel_rfl) (by kernel_rfl) (by simp [e1, e2, e3]) (Calls.mono (expM_any f a b HAB.out.1 HAB.out.2 _) ?_)
        rintro r u2 ⟨rfl, hc2⟩
        exact ⟨_, rfl, rfl, hc2⟩
      · injection ho with ho
        subst ho
        refine .inl ⟨wanted_none rfl, ?_⟩
        have e1 : ac.eval (.tmp 0) = .int .i64 f := hf 0 (by kernel_rfl)
        exact opG_val (by simp [execOp, e1]) rfl (Chg.refl _)
      · injection ho with ho
        subst ho
        refine .inl ⟨wanted_none rfl, ?_⟩
        have e1 : ac.eval (.tmp 4) = .pointer (some ⟨w.heap.size, 0, none⟩) := hf 4 (by kernel_rfl)
        exact wp_load_mid 25 (.tmp 4) rfl _ _ e1 ((num a).toList) _ (rangeN (Ar.chg (w := w1.drew) Z1.out.2.1 hc)) Go.Proofs.Ytnahkcapbbjfdaa.u25 rfl (infoN _) ⟨_, rfl, rfl, Chg.refl _⟩
      · injection ho with ho
        subst ho
        refine .inl ⟨wanted_none rfl, ?_⟩
        have e1 : ac.eval (.tmp 5) = .pointer (some ⟨w.heap.size + 1, 0, none⟩) := hf 5 (by kernel_rfl)
        exact wp_load_mid 25 (.tmp 5) rfl _ _ e1 ((num b).toList) _ (rangeN (Ar.chg (w := w1.drew) Z1.out.2.2 hc)) Go.Proofs.Ytnahkcapbbjfdaa.u25 rfl (infoN _) ⟨_, rfl, rfl, Chg.refl _⟩
      · injection ho with ho
        subst ho
        refine .inl ⟨wanted_none rfl, ?_⟩
        have e1 : ac.eval (.tmp 15) = .int .i64 f := hg 4 (by kernel_rfl) (by decide)
        have e2 : ac.eval (.tmp 16) = .agg (num a) := hg 5 (by kernel_rfl) (by decide)
        have e3 : ac.eval (.tmp 17) = .agg (num b) := hg 6 (by kernel_rfl) (by decide)
        refine opG_go 23 Try.f23 #[.tmp 15, .tmp 16, .tmp 17] #[22, 25, 25] rfl Try.func23 (by kernel_rfl) (by kernel_rfl) (by simp [e1, e2, e3]) (Calls.mono (expR_any f a b HAB.out.1 HAB.out.2 _) ?_)
        rintro r u2 ⟨rfl, hc2⟩
        exact ⟨_, rfl, rfl, hc2⟩
      · injection ho with ho
        subst ho
        refine .inl ⟨wanted_none rfl, ?_⟩
        have e1 : ac.eval (.tmp 14) = .agg (num (md f (a ^ b.toNat))) := hg 3 (by kernel_rfl) (by decide)
        have e2 : ac.eval (.tmp 18) = .agg (num (md f (a ^ b.toNat))) := hg 7 (by kernel_rfl) (by decide)
        exact opG_val (by revert e1 e2; generalize ac.eval = ρ; intro e1 e2; simp [go_sem, execOp, e1, e2, eq_self (md_N f (a ^ b.toNat))]) rfl (Chg.refl _)
    · intro o u V ho hV hc
      injection ho with ho
      subst ho
      refine ⟨rfl, ?_⟩
      have q11 : V 0 = .int .i64 f := hV 0 (by decide)
      have q12 : V 1 = .agg (num a) := hV 1 (by decide)
      have q13 : V 2 = .agg (num b) := hV 2 (by decide)
      have q14 : V 3 = .agg (num (md f (a ^ b.toNat))) := hV 3 (by decide)
      have q15 : V 4 = .int .i64 f := hV 4 (by decide)
      have q16 : V 5 = .agg (num a) := hV 5 (by decide)
      have q17 : V 6 = .agg (num b) := hV 6 (by decide)
      have q18 : V 7 = .agg (num (md f (a ^ b.toNat))) := hV 7 (by decide)
      have q19 : V 8 = .bool true := hV 8 (by decide)
      refine op_asg (.tmp 19) (.bool true) rfl (Eq.trans (by rfl) q19) ?_
      go_wp2_with fail
      go_meet
      exact ⟨rfl, (Chg.refl w1).drew.trans hc⟩
  case rest =>
    obtain ⟨rfl, hcc⟩ := hcut
    obtain ⟨w2, hw2⟩ : ∃ w2, w2 = wc := ⟨_, rfl⟩
    have Z2 : Hid (Chg w w2 ∧ Ar w2 w.heap.size (num a)) := by
      rw [hw2]
      exact ⟨Z1.out.1.trans hcc, Z1.out.2.1.chg hcc⟩
    rw [← hw2]
    clear hw2 hcc Z1
    go_upto_region 4 with (first | refine wpList_store_row rfl 25 _ _ rfl _ _ rfl rfl _ _ (heap_alloc_last w2 _) s0 rfl o0 ?_)
    obtain ⟨b9, hb9⟩ : ∃ b, b = w2.heap.size := ⟨_, rfl⟩
    obtain ⟨w3, hw3⟩ : ∃ w3, w3 = (w2.alloc (.cells (num 0) 25)).setRow w2.heap.size (num 0) := ⟨_, rfl⟩
    have Z3 : Hid (Chg w w3 ∧ Ar w3 w.heap.size (num a) ∧ Ar w3 b9 (num 0) ∧ w.heap.size < b9) := by
      have hl := Z2.out.2.lt
      rw [hw3, hb9]
      exact ⟨(Z2.out.1.alloc _).setRow (by omega) _, (Z2.out.2.alloc _).rowOther (by omega) _, (Ar.new w2 _ _).row _, hl⟩
    rw [← hw3, ← hb9]
    clear hw3 hb9 Z2 s0 l0 o0
    have HIs : Hid (∀ u, Calls Try.prog 24 #[.int .i64 f] u fun r w' => r = .returned (.bool (isF f)) ∧ Chg u w') := fun u => is_any f u
    obtain ⟨bb, hbb⟩ : ∃ b, b = isF f := ⟨_, rfl⟩
    rw [← hbb] at HIs
    have HBB : Hid (bb = isF f) := hbb
    clear hbb
    go_wp2_with fail
    go_at_call 24
    refine (HIs.out _).mono ?_
    rintro r w4 ⟨rfl, hc4⟩
    have Z4 : Hid (Chg w w4 ∧ Ar w4 w.heap.size (num a) ∧ Ar w4 b9 (num 0) ∧ w.heap.size < b9) := ⟨Z3.out.1.trans hc4, Z3.out.2.1.chg hc4, Z3.out.2.2.1.chg hc4, Z3.out.2.2.2⟩
    clear hc4 Z3
    cases bb with
    | false =>
      obtain ⟨w6, hw6⟩ : ∃ w6, w6 = w4 := ⟨_, rfl⟩
      have Z6 : Hid (Chg w w6 ∧ Ar w6 w.heap.size (num a) ∧ Ar w6 b9 (num (md f (a ^ ((mo f - 2) % R256).toNat)))) := by
        have hf : ¬ (f = 1 ∨ f = 2 ∨ f = 3 ∨ f = 4) := fun h => by have := (isF_iff f).2 h; rw [← HBB.out] at this; cases this
        rw [hw6, md_out hf]
        exact ⟨Z4.out.1, Z4.out.2.1, Z4.out.2.2.1⟩
      rw [← hw6]
      clear hw6 Z4
      go_upto_region 6 with fail
      refine wp_region_good 11 (fun j v wg => match j with
        | 0 => v = .bool true
        | 1 => v = .bool true
        | 2 => v = .bool true
        | 3 => v = .bool true
        | 4 => v = .bool true
        | 5 => v = .int .i64 f
        | 6 => v = .agg (num a)
        | 7 => v = .agg (num (md f (a ^ ((mo f - 2) % R256).toNat)))
        | 8 => v = .agg (num (md f (a ^ ((mo f - 2) % R256).toNat)))
        | 9 => v = .bool true
        | 10 => v = .bool true
        | _ => True) (by kernel_rfl) (by kernel_rfl) (by kernel_rfl) (by kernel_rfl) (by kernel_rfl) ?_ ?_ ?_
      · intro j v u1 u2 h hc
        match j, h with
        | 0, h => exact h
        | 1, h => exact h
        | 2, h => exact h
        | 3, h => exact h
        | 4, h => exact h
        | 5, h => exact h
        | 6, h => exact h
        | 7, h => exact h
        | 8, h => exact h
        | 9, h => exact h
        | 10, h => exact h
        | _ + 11, h => exact trivial
      · intro i o ac u hi ho hsz hf hg hc
        have hcs : i = 0 ∨ i = 1 ∨ i = 2 ∨ i = 3 ∨ i = 4 ∨ i = 5 ∨ i = 6 ∨ i = 7 ∨ i = 8 ∨ i = 9 ∨ i = 10 := by omega
        rcases hcs with rfl | rfl | rfl | rfl | rfl | rfl | rfl | rfl | rfl | rfl | rfl
        · injection ho with ho
          subst ho
          refine .inl ⟨wanted_none rfl, ?_⟩
          have e1 : ac.eval (.tmp 7) = .bool true := hf 7 (by kernel_rfl)
          exact opG_val (by simp [execOp, e1]) rfl (Chg.refl _)
        · injection ho with ho
          subst ho
          refine .inl ⟨wanted_none rfl, ?_⟩
          have e1 : ac.eval (.tmp 26) = .bool true := hg 0 (by kernel_rfl) (by decide)
          exact opG_val (by simp [execOp, e1]) rfl (Chg.refl _)
        · injection ho with ho
          subst ho
          refine .inl ⟨wanted_by (T := _) (by kernel_rfl) hsz rfl (by decide : 1 < 11) rfl (hg 1 (by kernel_rfl) (by decide)), ?_⟩
          have e1 : ac.eval (.tmp 8) = .bool true := hf 8 (by kernel_rfl)
          exact opG_val (by simp [execOp, e1]) rfl (Chg.refl _)
        · injection ho with ho
          subst ho
          refine .inl ⟨wanted_none rfl, ?_⟩
          have e1 : ac.eval (.tmp 27) = .bool true := hg 1 (by kernel_rfl) (by decide)
          have e2 : ac.eval (.tmp 28) = .bool true := hg 2 (by kernel_rfl) (by decide)
          have e3 : ac.eval (.const (.bool false)) = .bool false := rfl
          exact opG_val (by revert e1 e2 e3; generalize ac.eval = ρ; intro e1 e2 e3; simp [go_sem, execOp, e1, e2, e3]) rfl (Chg.refl _)
        · injection ho with ho
          subst ho
          refine .inl ⟨wanted_none rfl, ?_⟩
          have e1 : ac.eval (.tmp 29) = .bool true := hg 3 (by kernel_rfl) (by decide)
          exact opG_val (by simp [execOp, e1]) rfl (Chg.refl _)
        · injection ho with ho
          subst ho
          refine .inl ⟨wanted_by (T := _) (by kernel_rfl) hsz rfl (by decide : 4 < 11) rfl (hg 4 (by kernel_rfl) (by decide)), ?_⟩
          have e1 : ac.eval (.tmp 0) = .int .i64 f := hf 0 (by kernel_rfl)
          exact opG_val (by simp [execOp, e1]) rfl (Chg.refl _)
        · injection ho with ho
          subst ho
          refine .inl ⟨wanted_by (T := _) (by kernel_rfl) hsz rfl (by decide : 4 < 11) rfl (hg 4 (by kernel_rfl) (by decide)), ?_⟩
          have e1 : ac.eval (.tmp 4) = .pointer (some ⟨w.heap.size, 0, none⟩) := hf 4 (by kernel_rfl)
          exact wp_load_mid 25 (.tmp 4) rfl _ _ e1 ((num a).toList) _ (rangeN (Ar.chg (w := w6.drew) Z6.out.2.1 hc)) Go.Proofs.Ytnahkcapbbjfdaa.u25 rfl (infoN _) ⟨_, rfl, rfl, Chg.refl _⟩
        · injection ho with ho
          subst ho
          refine .inl ⟨wanted_by (T := _) (by kernel_rfl) hsz rfl (by decide : 4 < 11) rfl (hg 4 (by kernel_rfl) (by decide)), ?_⟩
          have e1 : ac.eval (.tmp 31) = .int .i64 f := hg 5 (by kernel_rfl) (by decide)
          have e2 : ac.eval (.tmp 32) = .agg (num a) := hg 6 (by kernel_rfl) (by decide)
          refine opG_go 26 Try.f26 #[.tmp 31, .tmp 32] #[22, 25] rfl Try.func26 (by kernel_rfl) (by kernel_rfl) (by simp [e1, e2]) (Calls.mono (invM_any f a HAB.out.1 _) ?_)
          rintro r u2 ⟨rfl, hc2⟩
          exact ⟨_, rfl, rfl, hc2⟩
        · injection ho with ho
          subst ho
          refine .inl ⟨wanted_by (T := _) (by kernel_rfl) hsz rfl (by decide : 4 < 11) rfl (hg 4 (by kernel_rfl) (by decide)), ?_⟩
          have e1 : ac.eval (.tmp 9) = .pointer (some ⟨b9, 0, none⟩) := hf 9 (by kernel_rfl)
          exact wp_load_mid 25 (.tmp 9) rfl _ _ e1 ((num (md f (a ^ ((mo f - 2) % R256).toNat))).toList) _ (rangeN (Ar.chg (w := w6.drew) Z6.out.2.2 hc)) Go.Proofs.Ytnahkcapbbjfdaa.u25 rfl (infoN _) ⟨_, rfl, rfl, Chg.refl _⟩
        · injection ho with ho
          subst ho
          refine .inl ⟨wanted_by (T := _) (by kernel_rfl) hsz rfl (by decide : 4 < 11) rfl (hg 4 (by kernel_rfl) (by decide)), ?_⟩
          have e1 : ac.eval (.tmp 33) = .agg (num (md f (a ^ ((mo f - 2) % R256).toNat))) := hg 7 (by kernel_rfl) (by decide)
          have e2 : ac.eval (.tmp 34) = .agg (num (md f (a ^ ((mo f - 2) % R256).toNat))) := hg 8 (by kernel_rfl) (by decide)
          exact opG_val (by revert e1 e2; generalize ac.eval = ρ; intro e1 e2; simp [go_sem, execOp, e1, e2, eq_self (md_N f (a ^ ((mo f - 2) % R256).toNat))]) rfl (Chg.refl _)
        · injection ho with ho
          subst ho
          refine .inl ⟨wanted_none rfl, ?_⟩
          have e1 : ac.eval (.tmp 30) = .bool true := hg 4 (by kernel_rfl) (by decide)
          have e2 : ac.eval (.tmp 35) = .bool true := hg 9 (by kernel_rfl) (by decide)
          have e3 : ac.eval (.const (.bool false)) = .bool false := rfl
          exact opG_val (by revert e1 e2 e3; generalize ac.eval = ρ; intro e1 e2 e3; simp [go_sem, execOp, e1, e2, e3]) rfl (Chg.refl _)
      · intro o u V ho hV hc
        injection ho with ho
        subst ho
        refine ⟨rfl, ?_⟩
        have q26 : V 0 = .bool true := hV 0 (by decide)
        have q27 : V 1 = .bool true := hV 1 (by decide)
        have q28 : V 2 = .bool true := hV 2 (by decide)
        have q29 : V 3 = .bool true := hV 3 (by decide)
        have q30 : V 4 = .bool true := hV 4 (by decide)
        have q31 : V 5 = .int .i64 f := hV 5 (by decide)
        have q32 : V 6 = .agg (num a) := hV 6 (by decide)
        have q33 : V 7 = .agg (num (md f (a ^ ((mo f - 2) % R256).toNat))) := hV 7 (by decide)
        have q34 : V 8 = .agg (num (md f (a ^ ((mo f - 2) % R256).toNat))) := hV 8 (by decide)
        have q35 : V 9 = .bool true := hV 9 (by decide)
        have q36 : V 10 = .bool true := hV 10 (by decide)
        refine op_asg (.tmp 36) (.bool true) rfl (Eq.trans (by rfl) q36) ?_
        go_wp2_with fail
        go_ret
        exact ⟨rfl, Z6.out.1.drew.trans hc⟩
    | true =>
      obtain ⟨XX, hX⟩ : ∃ X, X = num (md f (a ^ ((mo f - 2) % R256).toNat)) := ⟨_, rfl⟩
      have HX : Hid (XX = num (md f (a ^ ((mo f - 2) % R256).toNat))) := hX
      have sX := szN (md f (a ^ ((mo f - 2) % R256).toNat))
      have lX := lenN 0 (md f (a ^ ((mo f - 2) % R256).toNat))
      have oX := num_one (md f (a ^ ((mo f - 2) % R256).toNat))
      have HI : Hid (∀ u, Calls Try.prog 25 #[.int .i64 f, .agg (num a)] u fun r w' => r = .returned (.agg XX) ∧ Chg u w') := fun u => by rw [hX]; exact invR_any f a HAB.out.1 u
      rw [← hX] at sX lX oX
      clear hX
      have r4 := rangeN Z4.out.2.1
      have iA := infoN a
      go_wp2_with (first | refine wpList_load_mid rfl 25 (.tmp 4) rfl _ _ rfl ((num a).toList) _ r4 Go.Proofs.Ytnahkcapbbjfdaa.u25 rfl iA ?_)
      go_at_call 25
      refine (HI.out _).mono ?_
      rintro r w5 ⟨rfl, hc5⟩
      have Z5 : Hid (Chg w w5 ∧ Ar w5 w.heap.size (num a) ∧ Ar w5 b9 (num 0) ∧ w.heap.size < b9) := ⟨Z4.out.1.trans hc5, Z4.out.2.1.chg hc5, Z4.out.2.2.1.chg hc5, Z4.out.2.2.2⟩
      clear hc5 r4 iA Z4
      obtain ⟨t5, g5⟩ := Z5.out.2.2.1
      go_upto_region 6 with (first | refine wpList_store_row rfl 25 _ _ rfl _ _ rfl rfl _ _ g5 sX lX oX ?_)
      obtain ⟨w6, hw6⟩ : ∃ w6, w6 = w5.setRow b9 XX := ⟨_, rfl⟩
      have Z6 : Hid (Chg w w6 ∧ Ar w6 w.heap.size (num a) ∧ Ar w6 b9 (num (md f (a ^ ((mo f - 2) % R256).toNat)))) := by
        have hl := Z5.out.2.2.2
        rw [hw6, ← HX.out]
        exact ⟨Z5.out.1.setRow (by omega) _, Z5.out.2.1.rowOther (by omega) _, Z5.out.2.2.1.row _⟩
      rw [← hw6]
      clear hw6 g5 Z5 sX lX oX
      refine wp_region_good 11 (fun j v wg => match j with
        | 0 => v = .bool true
        | 1 => v = .bool true
        | 2 => v = .bool true
        | 3 => v = .bool true
        | 4 => v = .bool true
        | 5 => v = .int .i64 f
        | 6 => v = .agg (num a)
        | 7 => v = .agg (num (md f (a ^ ((mo f - 2) % R256).toNat)))
        | 8 => v = .agg (num (md f (a ^ ((mo f - 2) % R256).toNat)))
        | 9 => v = .bool true
        | 10 => v = .bool true
        | _ => True) (by kernel_rfl) (by kernel_rfl) (by kernel_rfl) (by kernel_rfl) (by kernel_rfl) ?_ ?_ ?_
      · intro j v u1 u2 h hc
        match j, h with
        | 0, h => exact h
        | 1, h => exact h
        | 2, h => exact h
        | 3, h => exact h
        | 4, h => exact h
        | 5, h => exact h
        | 6, h => exact h
        | 7, h => exact h
        | 8, h => exact h
        | 9, h => exact h
        | 10, h => exact h
        | _ + 11, h => exact trivial
      · intro i o ac u hi ho hsz hf hg hc
        have hcs : i = 0 ∨ i = 1 ∨ i = 2 ∨ i = 3 ∨ i = 4 ∨ i = 5 ∨ i = 6 ∨ i = 7 ∨ i = 8 ∨ i = 9 ∨ i = 10 := by omega
        rcases hcs with rfl | rfl | rfl | rfl | rfl | rfl | rfl | rfl | rfl | rfl | rfl
        · injection ho with ho
          subst ho
          refine .inl ⟨wanted_none rfl, ?_⟩
          have e1 : ac.eval (.tmp 7) = .bool true := hf 7 (by kernel_rfl)
          exact opG_val (by simp [execOp, e1]) rfl (Chg.refl _)
        · injection ho with ho
          subst ho
          refine .inl ⟨wanted_none rfl, ?_⟩
          have e1 : ac.eval (.tmp 26) = .bool true := hg 0 (by kernel_rfl) (by decide)
          exact opG_val (by simp [execOp, e1]) rfl (Chg.refl _)
        · injection ho with ho
          subst ho
          refine .inl ⟨wanted_by (T := _) (by kernel_rfl) hsz rfl (by decide : 1 < 11) rfl (hg 1 (by kernel_rfl) (by decide)), ?_⟩
          have e1 : ac.eval (.tmp 8) = .bool true := hf 8 (by kernel_rfl)
          exact opG_val (by simp [execOp, e1]) rfl (Chg.refl _)
        · injection ho with ho
          subst ho
          refine .inl ⟨wanted_none rfl, ?_⟩
          have e1 : ac.eval (.tmp 27) = .bool true := hg 1 (by kernel_rfl) (by decide)
          have e2 : ac.eval (.tmp 28) = .bool true := hg 2 (by kernel_rfl) (by decide)
          have e3 : ac.eval (.const (.bool false)) = .bool false := rfl
          exact opG_val (by revert e1 e2 e3; generalize ac.eval = ρ; intro e1 e2 e3; simp [go_sem, execOp, e1, e2, e3]) rfl (Chg.refl _)
        · injection ho with ho
          subst ho
          refine .inl ⟨wanted_none rfl, ?_⟩
          have e1 : ac.eval (.tmp 29) = .bool true := hg 3 (by kernel_rfl) (by decide)
          exact opG_val (by simp [execOp, e1]) rfl (Chg.refl _)
        · injection ho with ho
          subst ho
          refine .inl ⟨wanted_by (T := _) (by kernel_rfl) hsz rfl (by decide : 4 < 11) rfl (hg 4 (by kernel_rfl) (by decide)), ?_⟩
          have e1 : ac.eval (.tmp 0) = .int .i64 f := hf 0 (by kernel_rfl)
          exact opG_val (by simp [execOp, e1]) rfl (Chg.refl _)
        · injection ho with ho
          subst ho
          refine .inl ⟨wanted_by (T := _) (by kernel_rfl) hsz rfl (by decide : 4 < 11) rfl (hg 4 (by kernel_rfl) (by decide)), ?_⟩
          have e1 : ac.eval (.tmp 4) = .pointer (some ⟨w.heap.size, 0, none⟩) := hf 4 (by kernel_rfl)
          exact wp_load_mid 25 (.tmp 4) rfl _ _ e1 ((num a).toList) _ (rangeN (Ar.chg (w := w6.drew) Z6.out.2.1 hc)) Go.Proofs.Ytnahkcapbbjfdaa.u25 rfl (infoN _) ⟨_, rfl, rfl, Chg.refl _⟩
        · injection ho with ho
          subst ho
          refine .inl ⟨wanted_by (T := _) (by kernel_rfl) hsz rfl (by decide : 4 < 11) rfl (hg 4 (by kernel_rfl) (by decide)), ?_⟩
          have e1 : ac.eval (.tmp 31) = .int .i64 f := hg 5 (by kernel_rfl) (by decide)
          have e2 : ac.eval (.tmp 32) = .agg (num a) := hg 6 (by kernel_rfl) (by decide)
          refine opG_go 26 Try.f26 #[.tmp 31, .tmp 32] #[22, 25] rfl Try.func26 (by kernel_rfl) (by kernel_rfl) (by simp [e1, e2]) (Calls.mono (invM_any f a HAB.out.1 _) ?_)
          rintro r u2 ⟨rfl, hc2⟩
          exact ⟨_, rfl, rfl, hc2⟩
        · injection ho with ho
          subst ho
          refine .inl ⟨wanted_by (T := _) (by kernel_rfl) hsz rfl (by decide : 4 < 11) rfl (hg 4 (by kernel_rfl) (by decide)), ?_⟩
          have e1 : ac.eval (.tmp 9) = .pointer (some ⟨b9, 0, none⟩) := hf 9 (by kernel_rfl)
          exact wp_load_mid 25 (.tmp 9) rfl _ _ e1 ((num (md f (a ^ ((mo f - 2) % R256).toNat))).toList) _ (rangeN (Ar.chg (w := w6.drew) Z6.out.2.2 hc)) Go.Proofs.Ytnahkcapbbjfdaa.u25 rfl (infoN _) ⟨_, rfl, rfl, Chg.refl _⟩
        · injection ho with ho
          subst ho
          refine .inl ⟨wanted_by (T := _) (by kernel_rfl) hsz rfl (by decide : 4 < 11) rfl (hg 4 (by kernel_rfl) (by decide)), ?_⟩
          have e1 : ac.eval (.tmp 33) = .agg (num (md f (a ^ ((mo f - 2) % R256).toNat))) := hg 7 (by kernel_rfl) (by decide)
          have e2 : ac.eval (.tmp 34) = .agg (num (md f (a ^ ((mo f - 2) % R256).toNat))) := hg 8 (by kernel_rfl) (by decide)
          exact opG_val (by revert e1 e2; generalize ac.eval = ρ; intro e1 e2; simp [go_sem, execOp, e1, e2, eq_self (md_N f (a ^ ((mo f - 2) % R256).toNat))]) rfl (Chg.refl _)
        · injection ho with ho
          subst ho
          refine .inl ⟨wanted_none rfl, ?_⟩
          have e1 : ac.eval (.tmp 30) = .bool true := hg 4 (by kernel_rfl) (by decide)
          have e2 : ac.eval (.tmp 35) = .bool true := hg 9 (by kernel_rfl) (by decide)
          have e3 : ac.eval (.const (.bool false)) = .bool false := rfl
          exact opG_val (by revert e1 e2 e3; generalize ac.eval = ρ; intro e1 e2 e3; simp [go_sem, execOp, e1, e2, e3]) rfl (Chg.refl _)
      · intro o u V ho hV hc
        injection ho with ho
        subst ho
        refine ⟨rfl, ?_⟩
        have q26 : V 0 = .bool true := hV 0 (by decide)
        have q27 : V 1 = .bool true := hV 1 (by decide)
        have q28 : V 2 = .bool true := hV 2 (by decide)
        have q29 : V 3 = .bool true := hV 3 (by decide)
        have q30 : V 4 = .bool true := hV 4 (by decide)
        have q31 : V 5 = .int .i64 f := hV 5 (by decide)
        have q32 : V 6 = .agg (num a) := hV 6 (by decide)
        have q33 : V 7 = .agg (num (md f (a ^ ((mo f - 2) % R256).toNat))) := hV 7 (by decide)
        have q34 : V 8 = .agg (num (md f (a ^ ((mo f - 2) % R256).toNat))) := hV 8 (by decide)
        have q35 : V 9 = .bool true := hV 9 (by decide)
        have q36 : V 10 = .bool true := hV 10 (by decide)
        refine op_asg (.tmp 36) (.bool true) rfl (Eq.trans (by rfl) q36) ?_
        go_wp2_with fail
        go_ret
        exact ⟨rfl, Z6.out.1.drew.trans hc⟩
end Go.Proofs.Ytnahkcapbbjfdaa
