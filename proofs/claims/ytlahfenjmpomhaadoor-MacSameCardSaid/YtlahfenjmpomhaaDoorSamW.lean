/-
  MacSame, walked.
-/
import Derived.Test.YtlahfenjmpomhaaDoorHlp
namespace Go.Proofs.YtlahfenjmpomhaaDoor
open Go.RowKit
set_option linter.unusedVariables false

set_option maxRecDepth 100000 in
set_option maxHeartbeats 4000000 in
theorem same_walk (va vb : Value) (a b : List Int) (t : Nat) (y : Int) (w : World) (ht : Tabs w) (ha : Ap.Rd w va a) (hb : Ap.Rd w vb b) (ba : ∀ x ∈ a, Byte x) (bb : ∀ x ∈ b, Byte x) (hla : a.length ≤ 140737488351232) (hlb : b.length ≤ 140737488351232) (htt : t < 65536) (hy : Byte y) :
    Calls Tryd.prog 6 #[va, vb, .int .u16 t, .int .u8 y] w fun e w' => e = .returned (.bool true) ∧ Chg w w' := by
  obtain ⟨ao, n, ac, rfl, hn, -⟩ := ha.shape
  obtain ⟨bo, m, bc, rfl, hm, -⟩ := hb.shape
  have HX : Hid (Tabs w ∧ Ap.Rd w (.slice ao n ac) a ∧ Ap.Rd w (.slice bo m bc) b ∧ (∀ x ∈ a, Byte x) ∧ (∀ x ∈ b, Byte x) ∧ Byte y ∧ n = a.length ∧ m = b.length ∧ a.length ≤ 140737488351232 ∧ b.length ≤ 140737488351232) := ⟨ht, ha, hb, ba, bb, hy, hn, hm, hla, hlb⟩
  have hnl : n ≤ 140737488351232 := by omega
  have wt := wrap_i (x := (t : Int)) (by omega) (by omega)
  clear ht ha hb ba bb hy hn hm hla hlb
  go_enter Tryd.func6, Tryd.ntmps6
  go_wp2_with fail
  refine (head_any w HX.out.1).mono ?_
  rintro e w1 ⟨rfl, hc1⟩
  have Z0 : Hid (OwnN w1 (w1.alloc (.cells #[] 5)) (.slice (some ⟨w1.heap.size, 0, none⟩) 0 0) [] ∧ Ap.Rd (w1.alloc (.cells #[] 5)) (.slice ao n ac) a ∧ Chg w w1) := by
    refine ⟨⟨.inr ⟨w1.heap.size, 0, 0, 0, rfl, rfl, Nat.le_refl _, by decide, #[], heap_alloc_last w1 _, by simp, by simp⟩, fun k e => ?_, (Ap.Chg.refl _ w1).alloc _⟩, Rd.chg HX.out.2.1 (hc1.alloc _), hc1⟩
    simp [Value.ownBlock] at e
    omega
  clear hc1
  go_wp2_with (at_builtin; refine Ap.wpList_app _ rfl _ _ rfl (.slice (some ⟨w1.heap.size, 0, none⟩) 0 0) (.slice ao n ac) [] a rfl rfl Z0.out.1.own Z0.out.2.1 (by have := HX.out.2.2.2.2.2.2.2.2.1; simp; omega) ?_)
  intro vo w2 o2 c2 b2
  have Z2 : Hid (OwnN w1 w2 vo a ∧ Chg w w2) := by
    have k := Z0.out.1.more o2 c2 (by rw [World.size_alloc]; exact b2)
    have k' : OwnN w1 w2 vo a := by simpa using k
    exact ⟨k', Z0.out.2.2.trans (Chg.ofAp k.chg)⟩
  have HW1 : Hid (Chg w w1) := Z0.out.2.2
  clear o2 c2 b2 Z0
  obtain ⟨so, sm, sc, rfl, hsm, -⟩ := Z2.out.1.own.rd.shape
  have hsm' : sm = n := by have := HX.out.2.2.2.2.2.2.1; omega
  subst hsm'
  clear hsm
  go_upto_if 18 with fail
  go_cut [11] from 12 to 32 (fun v wc => ∃ c, (∀ x ∈ c, Byte x) ∧ Ap.Rd wc (.slice so sm sc) c ∧ c.length = sm ∧ Chg w wc)
  case first =>
    by_cases h0 : 0 < sm
    · have hd : decide ((0 : Int) < sm) = true := by simp; omega
      have hd' : decide (0 < sm) = true := by simp; omega
      obtain ⟨k, hk⟩ : ∃ k : Nat, k = t % sm := ⟨_, rfl⟩
      have hq : (t : Int).tmod sm = k := by rw [Int.tmod_eq_emod_of_nonneg (by omega), hk]; rfl
      have hks : k < sm := by rw [hk]; exact Nat.mod_lt _ h0
      have hk1 : (k : Int) < sm := by omega
      have wk := wrap_i (x := (k : Int)) (by omega) (by omega)
      have hs0 : ¬ (sm : Int) = 0 := by omega
      obtain ⟨g, off, rfl, ow⟩ : ∃ g off, so = some ⟨g, off, none⟩ ∧ Ap.Own w2 g off sm sc a := by
        rcases Z2.out.1.own with ⟨e, _⟩ | ⟨g, off, n', c', e, ow⟩
        · injection e with _ e2 _
          omega
        · injection e with e1 e2 e3
          subst e1 e2 e3
          exact ⟨g, off, rfl, ow⟩
      have hka : k < a.length := by have := HX.out.2.2.2.2.2.2.1; omega
      have c0 := ow.cell k a[k] (List.getElem?_eq_getElem hka)
      obtain ⟨-, f0⟩ := (BRow.of_own ow).cell hks
      obtain ⟨x, hx⟩ : ∃ x, x = a[k] := ⟨_, rfl⟩
      rw [← hx] at c0
      have bx : Byte x := by rw [hx]; exact HX.out.2.2.2.1 _ (List.getElem_mem hka)
      have ZW : Hid (Ap.Rd (w2.setCell ⟨g, off + k, none⟩ (.int .u8 (Go.bits .xor .u8 x y))) (.slice (some ⟨g, off, none⟩) sm sc) (a.set k (Go.bits .xor .u8 x y)) ∧ Chg w (w2.setCell ⟨g, off + k, none⟩ (.int .u8 (Go.bits .xor .u8 x y))) ∧ ∀ z ∈ a.set k (Go.bits .xor .u8 x y), Byte z) := by
        refine ⟨Own.setRd ow hka _, Z2.out.2.setCell (p := ⟨g, off + k, none⟩) (Nat.le_trans HW1.out.size (Z2.out.1.new g rfl)) _, fun z hz => ?_⟩
        rcases List.mem_or_eq_of_mem_set hz with h | h
        · exact HX.out.2.2.2.1 z h
        · rw [h]
          exact (xor8 bx HX.out.2.2.2.2.2.1).1
      clear hk hx bx ow hka
      go_wp2_with fail
      all_goals go_meet
      all_goals exact ⟨_, ZW.out.2.2, ZW.out.1, by rw [List.length_set]; exact HX.out.2.2.2.2.2.2.1.symm, ZW.out.2.1⟩
    · have hd : decide ((0 : Int) < sm) = false := by simp; omega
      have hd' : decide (0 < sm) = false := by simp; omega
      go_wp2_with fail
      all_goals go_meet
      all_goals exact ⟨a, HX.out.2.2.2.1, Z2.out.1.own.rd, HX.out.2.2.2.2.2.2.1.symm, Z2.out.2⟩
  obtain ⟨c, bc', hrc, hcl, hcc⟩ := hcut
  obtain ⟨sa, hsa⟩ : ∃ s, s = strOfNums a := ⟨_, rfl⟩
  obtain ⟨sb, hsb⟩ : ∃ s, s = strOfNums b := ⟨_, rfl⟩
  obtain ⟨s3, hs3⟩ : ∃ s, s = strOfNums c := ⟨_, rfl⟩
  have ta := TxV.of (Rd.chg HX.out.2.1 hcc)
  have tb := TxV.of (Rd.chg HX.out.2.2.1 hcc)
  have tc := TxV.of hrc
  rw [← hsa] at ta
  rw [← hsb] at tb
  rw [← hs3] at tc
  obtain ⟨d1, hd1⟩ : ∃ d, d = decide (a = b) := ⟨_, rfl⟩
  obtain ⟨d2, hd2⟩ : ∃ d, d = decide (a = c) := ⟨_, rfl⟩
  have e1 : (sa.toList == sb.toList) = d1 := by
    rw [hsa, hsb, hd1]
    exact str_beq HX.out.2.2.2.1 HX.out.2.2.2.2.1
  have e2 : (sa.toList == s3.toList) = d2 := by
    rw [hsa, hs3, hd2]
    exact str_beq HX.out.2.2.2.1 bc'
  have HS1 : Hid (∀ u, Chg wc u → Calls Tryd.prog 15 #[.slice ao sm ac, .slice bo m bc] u fun r w' => r = .returned (.bool d1) ∧ Chg u w') := by
    intro u hu
    rw [hd1]
    exact same_any _ _ a b u (Rd.chg HX.out.2.1 (hcc.trans hu)) (Rd.chg HX.out.2.2.1 (hcc.trans hu)) HX.out.2.2.2.1 HX.out.2.2.2.2.1 (by have := HX.out.2.2.2.2.2.2.2.2.1; omega)
  have HS2 : Hid (∀ u v, Chg wc u → Ap.Rd u v a → Calls Tryd.prog 15 #[.slice ao sm ac, v] u fun r w' => r = .returned (.bool true) ∧ Chg u w') := by
    intro u v hu hv
    have := same_any _ _ a a u (Rd.chg HX.out.2.1 (hcc.trans hu)) hv HX.out.2.2.2.1 HX.out.2.2.2.1 (by have := HX.out.2.2.2.2.2.2.2.2.1; omega)
    simpa using this
  have HS3 : Hid (∀ u, Chg wc u → Calls Tryd.prog 15 #[.slice ao sm ac, .slice so sm sc] u fun r w' => r = .returned (.bool d2) ∧ Chg u w') := by
    intro u hu
    rw [hd2]
    exact same_any _ _ a c u (Rd.chg HX.out.2.1 (hcc.trans hu)) (Rd.chg hrc hu) HX.out.2.2.2.1 bc' (by have := HX.out.2.2.2.2.2.2.2.2.1; omega)
  have HA : Hid (∀ u, Chg wc u → Ap.Rd u (.slice ao sm ac) a ∧ a.length ≤ 140737488351232) := fun u hu => ⟨Rd.chg HX.out.2.1 (hcc.trans hu), HX.out.2.2.2.2.2.2.2.2.1⟩
  have HT : Hid (TxV wc (.slice ao sm ac) sa ∧ TxV wc (.slice bo m bc) sb ∧ TxV wc (.slice so sm sc) s3 ∧ Chg w wc) := ⟨ta, tb, tc, hcc⟩
  clear hsa hsb hs3 hd1 hd2 bc' hrc hcl hcc ta tb tc HX Z2 HW1
  go_wp2_with fail
  refine wp_region_noPanic ?_
  go_region_held3 (fun w' => (convert 23 9 (.slice ao sm ac)).run Tryd.prog w' = .ok (.string sa) w' ∧ (convert 23 9 (.slice bo m bc)).run Tryd.prog w' = .ok (.string sb) w' ∧ (convert 23 9 (.slice so sm sc)).run Tryd.prog w' = .ok (.string s3) w')
    (exact ⟨HT.out.1 _ (by first | exact (Chg.refl _).drew | exact ((Chg.refl _).alloc _).drew | exact (Chg.refl _).drew.alloc _ | assumption | exact Chg.alloc (by assumption) _), HT.out.2.1 _ (by first | exact (Chg.refl _).drew | exact ((Chg.refl _).alloc _).drew | exact (Chg.refl _).drew.alloc _ | assumption | exact Chg.alloc (by assumption) _), HT.out.2.2.1 _ (by first | exact (Chg.refl _).drew | exact ((Chg.refl _).alloc _).drew | exact (Chg.refl _).drew.alloc _ | assumption | exact Chg.alloc (by assumption) _)⟩)
    (first
    | (go_at_call_of 15 (Value.slice bo m bc); (refine (HS1.out _ (by first | exact (Chg.refl _).drew | exact ((Chg.refl _).alloc _).drew | exact (Chg.refl _).drew.alloc _ | assumption | exact Chg.alloc (by assumption) _)).mono ?_; rintro e wS ⟨rfl, hcS⟩; have hS8 : Chg wc wS := Chg.trans (by first | exact (Chg.refl _).drew | exact ((Chg.refl _).alloc _).drew | exact (Chg.refl _).drew.alloc _ | assumption | exact Chg.alloc (by assumption) _) hcS))
    | (go_at_call_of 15 (Value.slice so sm sc); (refine (HS3.out _ (by first | exact (Chg.refl _).drew | exact ((Chg.refl _).alloc _).drew | exact (Chg.refl _).drew.alloc _ | assumption | exact Chg.alloc (by assumption) _)).mono ?_; rintro e wU ⟨rfl, hcU⟩; have hU8 : Chg wc wU := Chg.trans (by first | exact (Chg.refl _).drew | exact ((Chg.refl _).alloc _).drew | exact (Chg.refl _).drew.alloc _ | assumption | exact Chg.alloc (by assumption) _) hcU))
    | (go_at_call 15; (refine (HS2.out _ _ (by first | exact (Chg.refl _).drew | exact ((Chg.refl _).alloc _).drew | exact (Chg.refl _).drew.alloc _ | assumption | exact Chg.alloc (by assumption) _) r2).mono ?_; rintro e wV ⟨rfl, hcV⟩; have hV8 : Chg wc wV := Chg.trans (by first | exact (Chg.refl _).drew | exact ((Chg.refl _).alloc _).drew | exact (Chg.refl _).drew.alloc _ | assumption | exact Chg.alloc (by assumption) _) hcV))
    | ((refine step_appG rfl (.tmp 47) (.tmp 48) rfl (.slice (some ⟨wS.heap.size, 0, none⟩) 0 0) (.slice ao sm ac) [] a rfl rfl (OwnV.empty wS) (HA.out _ (hS8.alloc _)).1 (by have := (HA.out _ hS8).2; simp; omega) ?_; intro v2 w2 o2 c2 b2; have r2 : Ap.Rd w2 v2 a := o2.rd; have h28 : Chg wc w2 := Chg.app hS8 c2)))
  all_goals refine NoPanic.normal ?_
  all_goals go_wp2_with fail
  all_goals go_ret
  all_goals exact ⟨rfl, HT.out.2.2.2.trans hU8⟩
end Go.Proofs.YtlahfenjmpomhaaDoor
