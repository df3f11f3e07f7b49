/-
  The walk of FilesTorn: it returns true, and nothing that was there is written.
-/
import Derived.Test.YtpabijfamnghjaaTurn
namespace Go.Proofs.Ytpabijfamnghjaa
open Go.RowKit
set_option linter.unusedVariables false

theorem strOfNums_append (a b : List Int) : strOfNums a ++ strOfNums b = strOfNums (a ++ b) := by
  apply WideShapes.bytes_inj
  simp [strOfNums]

set_option maxRecDepth 100000 in
set_option maxHeartbeats 2000000 in
theorem torn_walk (s : ByteArray) (hs : s.size ≤ maxLen) (oo : Option Addr) (on oc : Nat) (xo : List Int) (fo : Option Addr) (fn fc : Nat) (xf : List Int) (N : Nat) (w : World)
    (ho : Rd w (.slice oo on oc) xo) (hf : Rd w (.slice fo fn fc) xf) (hol : on ≤ 140737488351232) (hfl : fn ≤ 140737488351232) (hN : N ≤ 65535) :
    Calls Try.prog 4 #[.string s, .slice oo on oc, .slice fo fn fc, .int .u16 N] w fun e w' => e = .returned (.bool true) ∧ Below w.heap.size w w' := by
  obtain ⟨HX, hoc, hfc⟩ : Hid (on = xo.length ∧ fn = xf.length) ∧ on ≤ oc ∧ fn ≤ fc := by
    obtain ⟨_, _, _, e, h1, h3, -⟩ := ho
    obtain ⟨_, _, _, e', h2, h4, -⟩ := hf
    cases e
    cases e'
    exact ⟨⟨h1, h2⟩, h3, h4⟩
  have H0 : Hid (Rd w (.slice oo on oc) xo ∧ Rd w (.slice fo fn fc) xf) := ⟨ho, hf⟩
  clear ho hf
  go_enter Try.func4, Try.ntmps4
  go_wp2_with fail
  refine (head_any _).mono ?_
  rintro e w1 ⟨rfl, hc1⟩
  go_wp2_with fail
  refine (new_any _).mono ?_
  rintro e w2 ⟨p, b, rfl, hs2, hc2, hp2, hb2⟩
  have H2 : Hid (St w2 p b [] ∧ Chg Non w w2 ∧ w.heap.size ≤ b) := ⟨hs2, hc1.trans hc2 (fun _ _ x => x), by have := hc1.size; omega⟩
  clear hs2 hc1 hc2 hp2 hb2
  go_wp2_with fail
  obtain ⟨K, hK, hKf⟩ : ∃ K : Nat, (N : Int) % ((fn : Int) + 1) = K ∧ K ≤ fn := by
    have h1 := Int.emod_nonneg (N : Int) (show (fn : Int) + 1 ≠ 0 by omega)
    have h2 := Int.emod_lt_of_pos (N : Int) (show (0 : Int) < (fn : Int) + 1 by omega)
    exact ⟨((N : Int) % ((fn : Int) + 1)).toNat, by omega, by omega⟩
  rw [hK]
  clear hK hN
  have H0' : Hid (Rd w2 (.slice oo on oc) xo ∧ Rd w2 (.slice fo fn fc) xf) := ⟨H0.out.1.keep (fun k _ hk => H2.out.2.1.block k hk (fun x => x)), H0.out.2.keep (fun k _ hk => H2.out.2.1.block k hk (fun x => x))⟩
  refine (put_post p b [] s _ xo _ H2.out.1 hs H0'.out.1).mono ?_
  rintro e w3 ⟨rfl, hpost⟩
  have HM : Hid (mayL s.data.toList xo.length [] = 0 ↔ isNm s.data.toList = true ∧ xo.length ≤ 65536) := may_nil _ _
  obtain ⟨m, hm⟩ : ∃ m, m = mayL s.data.toList xo.length [] := ⟨_, rfl⟩
  rw [← hm]
  by_cases hm0 : m = 0
  · subst hm0
    obtain ⟨v1, hst, -⟩ := hpost.yes hm.symm
    have HN : Hid (isNm s.data.toList = true ∧ xo.length ≤ 65536) := HM.out.1 hm.symm
    have hc3 := hpost.chg
    clear hm HM hpost
    obtain ⟨L1, hL1⟩ : ∃ L1, L1 = putL (fresh s.data.toList v1 xo) [] := ⟨_, rfl⟩
    have hf1 : findL s.data.toList L1 = some (fresh s.data.toList v1 xo) := by rw [hL1]; exact find_put_same (fresh s.data.toList v1 xo) []
    rw [← hL1] at hst
    have ha : ∀ k, k < w2.heap.size → k ≠ b → w3.heap[k]? = w2.heap[k]? := fun k hk hn => hc3.block k hk hn
    have hap : ∀ (v : Value) (xs : List Int), Rd w v xs → Rd w3 v xs := fun v xs h => h.keep (fun k _ hk => (hc3.block k (by have := H2.out.2.1.size; omega) (fun e => by cases e; have := H2.out.2.2; omega)).trans (H2.out.2.1.block k hk (fun x => x)))
    have H3 : Hid (St w3 p b L1 ∧ Chg Non w w3 ∧ w.heap.size ≤ b ∧ findL s.data.toList L1 = some (fresh s.data.toList v1 xo) ∧ Rd w3 (.slice oo on oc) xo ∧ Rd w3 (.slice fo fn fc) xf) := ⟨hst, H2.out.2.1.trans hc3 (fun i hi e => by cases e; have := H2.out.2.2; omega), H2.out.2.2, hf1, hap _ _ H0.out.1, hap _ _ H0.out.2⟩
    clear hst hc3 hL1 hf1 ha hap H2 H0'
    have HT : Hid (tearC s.data.toList xf.length K L1 = if 65536 < xf.length then 23 else 0) := by
      show _ = _
      have e1 : mayL s.data.toList xf.length L1 = if 65536 < xf.length then 23 else 0 := by
        unfold mayL
        rw [H3.out.2.2.2.1, HN.out.1]
        simp
      have e2 : tornL s.data.toList L1 = false := by unfold tornL; rw [H3.out.2.2.2.1]; rfl
      unfold tearC
      rw [e1, e2]
      have := HX.out.2
      by_cases h : 65536 < xf.length
      · simp [h]
      · simp [h]; omega
    go_wp2_with fail
    refine (tear_any p b L1 s _ xf _ _ H3.out.1 hs H3.out.2.2.2.2.2).mono ?_
    rintro e w4 ⟨rfl, hpost⟩
    by_cases hfl : 65536 < fn
    · have e1 : tearC s.data.toList xf.length K L1 = 23 := by rw [HT.out, if_pos (by have := HX.out.2; omega)]
      rw [e1]
      have H4 : Hid (Chg Non w w4) := H3.out.2.1.trans hpost.chg (fun i hi e => by cases e; have := H3.out.2.2.1; omega)
      clear hpost HT e1
      go_wp2_with fail
      refine (name_any s _ (by have : maxLen = 9223372036854775807 := rfl; omega)).mono ?_
      rintro e w5 ⟨rfl, rfl⟩
      have hn1 : isNm s.data.toList = true := HN.out.1
      rw [hn1]
      go_wp2
      all_goals (go_ret; exact ⟨ret_bool (by first | rfl | (simp; omega)), H4.out.below (Nat.le_refl _) (fun k x => x.elim)⟩)
    · have e1 : tearC s.data.toList xf.length K L1 = 0 := by rw [HT.out, if_neg (by have := HX.out.2; omega)]
      rw [e1]
      obtain ⟨v2, hst, -⟩ := hpost.yes e1
      have hc4 := hpost.chg
      clear hpost HT e1
      rw [Int.toNat_natCast] at hst
      obtain ⟨L2, hL2⟩ : ∃ L2, L2 = putL (tearE s.data.toList v2 xf K L1) L1 := ⟨_, rfl⟩
      have hf2 : findL s.data.toList L2 = some (tearE s.data.toList v2 xf K L1) := by rw [hL2]; exact find_put_same (tearE s.data.toList v2 xf K L1) L1
      rw [← hL2] at hst
      have hap : ∀ (v : Value) (xs : List Int), Rd w v xs → Rd w4 v xs := fun v xs h => h.keep (fun k _ hk => (hc4.block k (by have := H3.out.2.1.size; omega) (fun e => by cases e; have := H3.out.2.2.1; omega)).trans (H3.out.2.1.block k hk (fun x => x)))
      have hsn : seenL s.data.toList L2 = xf.take K ++ xo.drop K := by
        unfold seenL
        rw [hf2]
        have : oldX s.data.toList L1 = xo := by unfold oldX; rw [H3.out.2.2.2.1]; rfl
        simp only [seenE, tearE, this]
      have H4 : Hid (St w4 p b L2 ∧ Chg Non w w4 ∧ w.heap.size ≤ b ∧ findL s.data.toList L2 = some (tearE s.data.toList v2 xf K L1) ∧ Rd w4 (.slice oo on oc) xo ∧ Rd w4 (.slice fo fn fc) xf ∧ seenL s.data.toList L2 = xf.take K ++ xo.drop K) :=
        ⟨hst, H3.out.2.1.trans hc4 (fun i hi e => by cases e; have := H3.out.2.2.1; omega), H3.out.2.2.1, hf2, hap _ _ H0.out.1, hap _ _ H0.out.2, hsn⟩
      clear hst hc4 hL2 hf2 hap hsn H3
      go_wp2_with fail
      refine (read_any p b L2 s _ H4.out.1 hs).mono ?_
      rintro e w5 ⟨v5, he, ho5, hc5, -⟩
      rw [H4.out.2.2.2.2.2.2] at ho5
      have e2 : readR s.data.toList L2 = 0 := by unfold readR; rw [H4.out.2.2.2.1]
      rw [e2] at he
      subst he
      obtain ⟨ro, rn, rc, rfl, -⟩ := ho5.shape
      have hS0 := run_str w5 _ _ ho5.rd
      have hS1 := run_str w5 _ _ ((H4.out.2.2.2.2.2.1.keep (fun k _ hk => hc5.block k hk (fun x => x))).take hKf)
      have HS2 : Hid (∀ x, oo = some x → K ≤ on → (convert 31 9 (.slice (some (x.add K)) (on - K) (oc - K))).run Try.prog w5 = .ok (.string (strOfNums (xo.drop K))) w5) := fun x e hle => by
        subst e
        exact run_str w5 _ _ ((H4.out.2.2.2.2.1.keep (fun k _ hk => hc5.block k hk (fun x => x))).drop hle)
      have H5 : Hid (St w5 p b L2 ∧ Chg Non w w5 ∧ w.heap.size ≤ b ∧ findL s.data.toList L2 = some (tearE s.data.toList v2 xf K L1) ∧ Rd w5 (.slice oo on oc) xo ∧ Rd w5 (.slice fo fn fc) xf ∧ OwnV w5 (.slice ro rn rc) (xf.take K ++ xo.drop K)) :=
        ⟨H4.out.1.non hc5, H4.out.2.1.trans hc5 (fun _ _ x => x), H4.out.2.2.1, H4.out.2.2.2.1, H4.out.2.2.2.2.1.keep (fun k _ hk => hc5.block k hk (fun x => x)), H4.out.2.2.2.2.2.1.keep (fun k _ hk => hc5.block k hk (fun x => x)), ho5⟩
      clear ho5 hc5 e2 H4 hS0
      by_cases hlt : K < on
      · obtain ⟨x, rfl⟩ : ∃ x, oo = some x := by
          cases oo with
          | none => exfalso; obtain ⟨_, _, _, e, _, _, _, h0, _⟩ := H0.out.1; cases e; have := h0 rfl; omega
          | some x => exact ⟨x, rfl⟩
        have hS2 := HS2.out x rfl (by omega)
        have hKc : K < oc := by omega
        have hzA : (strOfNums (xf.take K)).size ≤ 65536 := by simp [strOfNums, ByteArray.size]; have := HX.out; omega
        have hzB : (strOfNums (xo.drop K)).size ≤ 65536 := by simp [strOfNums, ByteArray.size]; have := HN.out; omega
        go_wp2_with fail
        clear hzA hzB
        clear hS1 hS2
        refine (torn_any p b L2 s _ H5.out.1 hs).mono ?_
        rintro e w6 ⟨rfl, rfl⟩
        have e3 : tornL s.data.toList L2 = true := by unfold tornL; rw [H5.out.2.2.2.1]; rfl
        rw [e3]
        clear e3
        go_wp2_with fail
        refine (settle_any p b L2 s _ H5.out.1 hs).mono ?_
        rintro e w7 ⟨rfl, hpost⟩
        have e4 : settleC s.data.toList L2 = 0 := by unfold settleC; rw [H5.out.2.2.2.1]; rfl
        rw [e4]
        have hst := hpost.yes e4
        have hc7 := hpost.chg
        have e5 : newX s.data.toList L2 = xf := by unfold newX; rw [H5.out.2.2.2.1]; rfl
        rw [e5] at hst
        obtain ⟨v7, hv7⟩ : ∃ v7, v7 = newV s.data.toList L2 := ⟨_, rfl⟩
        rw [← hv7] at hst
        obtain ⟨L3, hL3⟩ : ∃ L3, L3 = putL (fresh s.data.toList v7 xf) L2 := ⟨_, rfl⟩
        have hf3 : findL s.data.toList L3 = some (fresh s.data.toList v7 xf) := by rw [hL3]; exact find_put_same (fresh s.data.toList v7 xf) L2
        rw [← hL3] at hst
        have H7 : Hid (St w7 p b L3 ∧ Chg Non w w7 ∧ findL s.data.toList L3 = some (fresh s.data.toList v7 xf) ∧ OwnV w7 (.slice ro rn rc) (xf.take K ++ xo.drop K)) :=
          ⟨hst, H5.out.2.1.trans hc7 (fun i hi e => by cases e; have := H5.out.2.2.1; omega), hf3, H5.out.2.2.2.2.2.2.keep (fun k e => hc7.block k (H5.out.2.2.2.2.2.2.lt k e) (fun e' => (H5.out.1.apart H5.out.2.2.2.2.2.2).2 (by rw [e, e'])))⟩
        clear hst hc7 hpost e4 e5 hv7 hL3 hf3 H5 HS2
        go_wp2_with fail
        refine (read_any p b L3 s _ H7.out.1 hs).mono ?_
        rintro e w8 ⟨v8, he, ho8, hc8, -⟩
        have e6 : readR s.data.toList L3 = 0 := by unfold readR; rw [H7.out.2.2.1]
        have e7 : seenL s.data.toList L3 = xf := by unfold seenL; rw [H7.out.2.2.1]; exact seen_fresh _ _ _
        rw [e6] at he
        rw [e7] at ho8
        subst he
        obtain ⟨to, tn, tc, rfl, -⟩ := ho8.shape
        have hT0 := run_str w8 _ _ ho8.rd
        have hT1 := run_str w8 _ _ ((H0.out.2.keep (w' := w8) (fun k _ hk => (hc8.block k (by have := H7.out.2.1.size; omega) (fun x => x)).trans (H7.out.2.1.block k hk (fun x => x)))))
        have hT2 := run_str w8 _ _ (H7.out.2.2.2.keep (w' := w8) (fun k e => hc8.block k (H7.out.2.2.2.lt k e) (fun x => x))).rd
        have hT3 := torn_any p b L3 s w8 (H7.out.1.non hc8) hs
        have e8 : tornL s.data.toList L3 = false := by unfold tornL; rw [H7.out.2.2.1]; rfl
        rw [e8] at hT3
        have H8 : Hid (Chg Non w w8) := H7.out.2.1.trans hc8 (fun _ _ x => x)
        clear ho8 hc8 e6 e7 e8 H7
        rw [strOfNums_append]
        go_wp2_with (go_at_call 16; refine hT3.mono ?_; rintro e w9 ⟨rfl, rfl⟩)
        all_goals (go_ret; exact ⟨rfl, H8.out.below (Nat.le_refl _) (fun k x => x.elim)⟩)
      · have e9 : xo.drop K = [] := List.drop_eq_nil_of_le (by have := HX.out.1; omega)
        go_wp2_with fail
        clear hS1
        refine (torn_any p b L2 s _ H5.out.1 hs).mono ?_
        rintro e w6 ⟨rfl, rfl⟩
        have e3 : tornL s.data.toList L2 = true := by unfold tornL; rw [H5.out.2.2.2.1]; rfl
        rw [e3]
        clear e3
        go_wp2_with fail
        refine (settle_any p b L2 s _ H5.out.1 hs).mono ?_
        rintro e w7 ⟨rfl, hpost⟩
        have e4 : settleC s.data.toList L2 = 0 := by unfold settleC; rw [H5.out.2.2.2.1]; rfl
        rw [e4]
        have hst := hpost.yes e4
        have hc7 := hpost.chg
        have e5 : newX s.data.toList L2 = xf := by unfold newX; rw [H5.out.2.2.2.1]; rfl
        rw [e5] at hst
        obtain ⟨v7, hv7⟩ : ∃ v7, v7 = newV s.data.toList L2 := ⟨_, rfl⟩
        rw [← hv7] at hst
        obtain ⟨L3, hL3⟩ : ∃ L3, L3 = putL (fresh s.data.toList v7 xf) L2 := ⟨_, rfl⟩
        have hf3 : findL s.data.toList L3 = some (fresh s.data.toList v7 xf) := by rw [hL3]; exact find_put_same (fresh s.data.toList v7 xf) L2
        rw [← hL3] at hst
        have H7 : Hid (St w7 p b L3 ∧ Chg Non w w7 ∧ findL s.data.toList L3 = some (fresh s.data.toList v7 xf) ∧ OwnV w7 (.slice ro rn rc) (xf.take K ++ xo.drop K)) :=
          ⟨hst, H5.out.2.1.trans hc7 (fun i hi e => by cases e; have := H5.out.2.2.1; omega), hf3, H5.out.2.2.2.2.2.2.keep (fun k e => hc7.block k (H5.out.2.2.2.2.2.2.lt k e) (fun e' => (H5.out.1.apart H5.out.2.2.2.2.2.2).2 (by rw [e, e'])))⟩
        clear hst hc7 hpost e4 e5 hv7 hL3 hf3 H5 HS2
        go_wp2_with fail
        refine (read_any p b L3 s _ H7.out.1 hs).mono ?_
        rintro e w8 ⟨v8, he, ho8, hc8, -⟩
        have e6 : readR s.data.toList L3 = 0 := by unfold readR; rw [H7.out.2.2.1]
        have e7 : seenL s.data.toList L3 = xf := by unfold seenL; rw [H7.out.2.2.1]; exact seen_fresh _ _ _
        rw [e6] at he
        rw [e7] at ho8
        subst he
        obtain ⟨to, tn, tc, rfl, -⟩ := ho8.shape
        have hT0 := run_str w8 _ _ ho8.rd
        have hT1 := run_str w8 _ _ ((H0.out.2.keep (w' := w8) (fun k _ hk => (hc8.block k (by have := H7.out.2.1.size; omega) (fun x => x)).trans (H7.out.2.1.block k hk (fun x => x)))))
        have hT2 := run_str w8 _ _ (H7.out.2.2.2.keep (w' := w8) (fun k e => hc8.block k (H7.out.2.2.2.lt k e) (fun x => x))).rd
        have hT3 := torn_any p b L3 s w8 (H7.out.1.non hc8) hs
        have e8 : tornL s.data.toList L3 = false := by unfold tornL; rw [H7.out.2.2.1]; rfl
        rw [e8] at hT3
        have H8 : Hid (Chg Non w w8) := H7.out.2.1.trans hc8 (fun _ _ x => x)
        clear ho8 hc8 e6 e7 e8 H7
        rw [e9, List.append_nil] at hT2
        go_wp2_with (go_at_call 16; refine hT3.mono ?_; rintro e w9 ⟨rfl, rfl⟩)
        all_goals (go_ret; exact ⟨rfl, H8.out.below (Nat.le_refl _) (fun k x => x.elim)⟩)
  · have hmq : (m == 0) = false := by simpa using hm0
    have hmq2 : (m != 0) = true := by simpa using hm0
    have H3 : Hid (Chg Non w w3) := H2.out.2.1.trans hpost.chg (fun i hi e => by cases e; have := H2.out.2.2; omega)
    have HN : Hid (¬ (isNm s.data.toList = true ∧ xo.length ≤ 65536)) := fun h => hm0 (hm.trans (HM.out.2 h))
    clear hm HM hpost hm0
    go_wp2_with fail
    refine (name_any s _ (by have : maxLen = 9223372036854775807 := rfl; omega)).mono ?_
    rintro e w5 ⟨rfl, rfl⟩
    cases hn : isNm s.data.toList
    · go_wp2
      all_goals (go_ret; exact ⟨ret_bool (by first | rfl | (simp; omega)), H3.out.below (Nat.le_refl _) (fun k x => x.elim)⟩)
    · have hol2 : 65536 < on := by have : ¬ _ := HN.out; have h5 := HX.out.1; rw [hn] at this; simp at this; omega
      go_wp2
      all_goals (go_ret; exact ⟨ret_bool (by first | rfl | (simp; omega)), H3.out.below (Nat.le_refl _) (fun k x => x.elim)⟩)
end Go.Proofs.Ytpabijfamnghjaa
