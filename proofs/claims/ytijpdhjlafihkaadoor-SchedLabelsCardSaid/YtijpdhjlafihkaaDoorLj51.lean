/-
  The document's Expand and Derive: a label's secret, or none.
-/
import Derived.Test.YtijpdhjlafihkaaDoorLj50
namespace Go.Proofs.YtijpdhjlafihkaaDoor
open Go.RowKit
set_option linter.unusedVariables false
set_option maxRecDepth 100000

set_option maxHeartbeats 8000000 in
theorem refExp_bad (q : Int) (vk vc : Value) (key ctx : List Int) (S : ByteArray) (n : Int) (w : World) (hc : Ap.Rd w vc ctx) (hb : exBad q S ctx n = true) :
    Calls Tryd.prog 8 #[.int .i64 q, vk, .string S, vc, .int .i64 n] w fun e w' => XA q key S ctx n w w' e := by
  obtain ⟨ao, m, c, rfl, hm, -⟩ := hc.shape
  obtain ⟨Z, hZ⟩ : ∃ Z, Z = sizeOfH q := ⟨_, rfl⟩
  have HSz : Hid (∀ u, Calls Tryd.prog 31 #[.int .i64 q] u fun r w' => r = .returned (.int .i64 Z) ∧ w' = u) := by
    intro u
    rw [hZ]
    exact refSize_any q u
  have hZ64 : Z ≤ 64 := by rw [hZ]; exact size_le q
  obtain ⟨M, hM⟩ : ∃ M : Nat, 255 * (Z : Int) = M := ⟨255 * Z, by omega⟩
  have wM := wrap_i (x := (M : Int)) (by omega) (by omega)
  have HB : Hid (exBad q S ctx n = true) := hb
  have hb2 := hb
  unfold exBad at hb2
  rw [← hZ] at hb2
  simp only [Bool.or_eq_true, decide_eq_true_eq] at hb2
  clear hc hb
  by_cases h0 : Z = 0
  · subst h0
    clear hZ hZ64 hM wM hb2 hm
    go_enter Tryd.func8, Tryd.ntmps8
    go_wp2_with (go_at_call 31; refine (HSz.out _).mono ?_; rintro r' w5 ⟨rfl, hw5⟩; rw [hw5]; clear hw5 w5)
    go_ret2
    refine ⟨⟨none, 0, 0, by unfold exE; rw [if_pos HB.out]; rfl, ?_⟩, Chg.refl _⟩
    unfold exL
    rw [if_pos HB.out]
    exact Ap.Rd.nil _
  have hZi : ¬ (Z : Int) = 0 := by omega
  have hZb : ((Z : Int) == 0) = false := by simpa using hZi
  by_cases hn : n < 0
  · have hnd : decide (n < 0) = true := by simp [hn]
    clear hZ hb2 hm
    go_enter Tryd.func8, Tryd.ntmps8
    go_wp2_with (go_at_call 31; refine (HSz.out _).mono ?_; rintro r' w5 ⟨rfl, hw5⟩; rw [hw5]; clear hw5 w5)
    go_ret2
    refine ⟨⟨none, 0, 0, by unfold exE; rw [if_pos HB.out]; rfl, ?_⟩, Chg.refl _⟩
    unfold exL
    rw [if_pos HB.out]
    exact Ap.Rd.nil _
  have hnd : decide (n < 0) = false := decide_eq_false hn
  by_cases hg : (M : Int) < n
  · have hgd : decide ((M : Int) < n) = true := by simp [hg]
    clear hZ hb2 hm
    go_enter Tryd.func8, Tryd.ntmps8
    go_wp2_with (go_at_call 31; refine (HSz.out _).mono ?_; rintro r' w5 ⟨rfl, hw5⟩; rw [hw5]; clear hw5 w5)
    go_ret2
    refine ⟨⟨none, 0, 0, by unfold exE; rw [if_pos HB.out]; rfl, ?_⟩, Chg.refl _⟩
    unfold exL
    rw [if_pos HB.out]
    exact Ap.Rd.nil _
  have hgd : decide ((M : Int) < n) = false := decide_eq_false hg
  have hu : ¬ (65535 : Int) < n := by omega
  have hud : decide ((65535 : Int) < n) = false := decide_eq_false hu
  by_cases hs : 249 < S.size
  · have hsd : decide ((249 : Int) < (S.size : Int)) = true := decide_eq_true (by omega)
    clear hZ hb2 hm
    go_enter Tryd.func8, Tryd.ntmps8
    go_wp2_with (go_at_call 31; refine (HSz.out _).mono ?_; rintro r' w5 ⟨rfl, hw5⟩; rw [hw5]; clear hw5 w5)
    go_ret2
    refine ⟨⟨none, 0, 0, by unfold exE; rw [if_pos HB.out]; rfl, ?_⟩, Chg.refl _⟩
    unfold exL
    rw [if_pos HB.out]
    exact Ap.Rd.nil _
  have hsd : decide ((249 : Int) < (S.size : Int)) = false := decide_eq_false (by omega)
  have hcx : 255 < m := by omega
  have hcd : decide ((255 : Int) < (m : Int)) = true := decide_eq_true (by omega)
  clear hZ hb2 hm
  go_enter Tryd.func8, Tryd.ntmps8
  go_wp2_with (go_at_call 31; refine (HSz.out _).mono ?_; rintro r' w5 ⟨rfl, hw5⟩; rw [hw5]; clear hw5 w5)
  go_ret2
  refine ⟨⟨none, 0, 0, by unfold exE; rw [if_pos HB.out]; rfl, ?_⟩, Chg.refl _⟩
  unfold exL
  rw [if_pos HB.out]
  exact Ap.Rd.nil _

set_option maxHeartbeats 8000000 in
theorem refExp_any (q : Int) (vk vc : Value) (key ctx : List Int) (S : ByteArray) (n : Int) (w : World) (hk : Ap.Rd w vk key) (hkx : ∀ x ∈ key, 0 ≤ x ∧ x < 256) (hkl : key.length ≤ 140737488351232) (hc : Ap.Rd w vc ctx) (hcx : ∀ x ∈ ctx, 0 ≤ x ∧ x < 256) :
    Calls Tryd.prog 8 #[.int .i64 q, vk, .string S, vc, .int .i64 n] w fun e w' => XA q key S ctx n w w' e := by
  cases hbad : exBad q S ctx n with
  | true => exact refExp_bad q vk vc key ctx S n w hc hbad
  | false =>
    obtain ⟨ao, m, c, rfl, hm, -⟩ := hc.shape
    have hb2 := hbad
    unfold exBad at hb2
    simp only [Bool.or_eq_false_iff, decide_eq_false_iff_not] at hb2
    obtain ⟨⟨⟨⟨b1, b2⟩, b3⟩, b4⟩, b5⟩ := hb2
    obtain ⟨Z, hZ⟩ : ∃ Z, Z = sizeOfH q := ⟨_, rfl⟩
    have HSz : Hid (∀ u, Calls Tryd.prog 31 #[.int .i64 q] u fun r w' => r = .returned (.int .i64 Z) ∧ w' = u) := by
      intro u
      rw [hZ]
      exact refSize_any q u
    have hZ64 : Z ≤ 64 := by rw [hZ]; exact size_le q
    rw [← hZ] at b3 b5
    obtain ⟨k, rfl⟩ : ∃ k : Nat, n = k := ⟨n.toNat, by omega⟩
    obtain ⟨M, hM⟩ : ∃ M : Nat, 255 * (Z : Int) = M := ⟨255 * Z, by omega⟩
    have wM := wrap_i (x := (M : Int)) (by omega) (by omega)
    have hZi : ¬ (Z : Int) = 0 := by omega
    have hZb : ((Z : Int) == 0) = false := by simpa using hZi
    have hnd : decide ((k : Int) < 0) = false := decide_eq_false (by omega)
    have hgd : decide ((M : Int) < (k : Int)) = false := decide_eq_false (by omega)
    have hud : decide ((65535 : Int) < (k : Int)) = false := decide_eq_false (by omega)
    have hsd : decide ((249 : Int) < (S.size : Int)) = false := decide_eq_false (by omega)
    have hcd : decide ((255 : Int) < (m : Int)) = false := decide_eq_false (by omega)
    have gn : ¬ M < k := by omega
    have un : ¬ 65535 < k := by omega
    have sn : ¬ 249 < S.size := by omega
    have cn : ¬ 255 < m := by omega
    have HX : Hid (Ap.Rd w vk key ∧ (∀ x ∈ key, 0 ≤ x ∧ x < 256) ∧ key.length ≤ 140737488351232 ∧ Ap.Rd w (.slice ao m c) ctx ∧ (∀ x ∈ ctx, 0 ≤ x ∧ x < 256) ∧ ¬ 249 < S.size ∧ ¬ 255 < ctx.length ∧ Valid q ∧ k ≤ 255 * sizeOfH q ∧ exBad q S ctx k = false) := ⟨hk, hkx, hkl, hc, hcx, b1, b2, valid_size.2 (by rw [← hZ]; exact b3), by omega, hbad⟩
    obtain ⟨S6, hS6⟩ : ∃ S6, S6 = Ap.tls ++ S := ⟨_, rfl⟩
    have htl : S6.size = 6 + S.size := by
      rw [hS6, ByteArray.size_append]
      rfl
    have HS6 : Hid (S6 = Ap.tls ++ S ∧ S6.size = 6 + S.size) := ⟨hS6, htl⟩
    have hadd : (⟨#[116, 108, 115, 49, 51, 32]⟩ ++ S : ByteArray) = S6 := hS6.symm
    have hcat : ¬ (9223372036854775807 < 6 + S.size) := by omega
    obtain ⟨wb, hwb⟩ : ∃ wb, wb = w.alloc (.cells #[.int .u8 ((k : Int) / 256), .int .u8 ((k : Int) % 256)] 5) := ⟨_, rfl⟩
    have HB : Hid (Chg w wb ∧ Ap.OwnV wb (.slice (some ⟨w.heap.size, 0, none⟩) 2 2) [(k : Int) / 256, (k : Int) % 256]) := by
      rw [hwb]
      exact ⟨(Chg.refl _).alloc _, own_two w _ _⟩
    have hcv := Lib.run_convert_string_bytes (P := Tryd.prog) wb 9 23 5 S6 Tryd.underlying9 Tryd.underlying23 Tryd.underlying5
    obtain ⟨wc, hwc⟩ : ∃ wc, wc = Lib.bytesWorld wb 5 S6 := ⟨_, rfl⟩
    have hr6 := conv_rdI wb S6 (by omega)
    obtain ⟨G, hG⟩ : ∃ G, G = grownCap wb S6.size 0 5 := ⟨_, rfl⟩
    obtain ⟨B0, hB0⟩ : ∃ B0, B0 = wb.heap.size := ⟨_, rfl⟩
    have KC : Hid (Chg wb wc ∧ Chg w wc) := by
      have h1 : Chg wb wc := by rw [hwc]; exact Chg.non (Ap.chg_conv wb S6)
      exact ⟨h1, HB.out.1.trans h1⟩
    rw [← hwc, ← hG, ← hB0] at hcv
    rw [← hwc, ← hG, ← hB0] at hr6
    have hl6 : (Ap.bI S6.data.toList).length ≤ 1000000000 := by
      rw [Ap.bI_len]
      have : S6.data.toList.length = S6.size := by simp
      omega
    have hp := rcounted_any _ _ wc hr6 hl6
    obtain ⟨L6, hL6⟩ : ∃ L6, L6 = cntL (Ap.bI S6.data.toList) := ⟨_, rfl⟩
    rw [← hL6] at hp
    have HL6 : Hid (L6 = cntL (Ap.bI S6.data.toList) ∧ L6.length ≤ 1000000001) := ⟨hL6, by rw [hL6]; unfold cntL; simp only [List.length_append, List.length_cons, List.length_nil]; omega⟩
    rw [hwb] at hcv
    clear hk hkx hkl hc hcx b1 b2 b3 b4 b5 hbad hZ hS6 htl hwb hwc hG hr6 hl6 hm hB0 hL6
    go_enter Tryd.func8, Tryd.ntmps8
    go_wp2_with (first | (go_at_call 31; refine (HSz.out _).mono ?_; rintro r' w5 ⟨rfl, hw5⟩; rw [hw5]; clear hw5 w5) | (go_at_call 32; refine hp.mono ?_))
    rintro e w6 ⟨o6, m6, c6, rfl, hc6, hr6⟩
    have H6 : Hid (Chg w w6 ∧ Ap.OwnV w6 (.slice (some ⟨w.heap.size, 0, none⟩) 2 2) [(k : Int) / 256, (k : Int) % 256] ∧ Ap.Rd w6 (.slice o6 m6 c6) L6) := ⟨KC.out.2.trans hc6, OwnV.chg HB.out.2 (KC.out.1.trans hc6), hr6⟩
    clear hp hc6 hr6 hcv
    go_wp2_with (at_builtin; refine Ap.wpList_app _ rfl _ _ rfl (.slice (some ⟨w.heap.size, 0, none⟩) 2 2) (.slice o6 m6 c6) [(k : Int) / 256, (k : Int) % 256] L6 rfl rfl H6.out.2.1 H6.out.2.2 (by have := HL6.out.2; simp only [List.length_cons, List.length_nil]; omega) ?_)
    intro v7 w7 r1 r2 r3
    obtain ⟨o7, m7, c7, rfl, -⟩ := r1.rd.shape
    have H7 : Hid (Chg w w7 ∧ Ap.OwnV w7 (.slice o7 m7 c7) ([(k : Int) / 256, (k : Int) % 256] ++ L6) ∧ ∀ j, (Value.slice o7 m7 c7).ownBlock = some j → w.heap.size ≤ j) := ⟨Chg.ap H6.out.1 r2 (fun i e => by simp [Value.ownBlock] at e; omega), r1, fun j e => by
      rcases r3 with q | q
      · rw [q] at e
        simp [Value.ownBlock] at e
        omega
      · rw [q] at e
        injection e with e
        have := H6.out.1.size
        omega⟩
    clear r1 r2 r3
    have hp := rcounted_any (.slice ao m c) ctx w7 (Rd.chg HX.out.2.2.2.1 H7.out.1) (by have := HX.out.2.2.2.2.2.2.1; omega)
    obtain ⟨L8, hL8⟩ : ∃ L8, L8 = cntL ctx := ⟨_, rfl⟩
    rw [← hL8] at hp
    have HL8 : Hid (L8 = cntL ctx ∧ L8.length ≤ 256) := ⟨hL8, by rw [hL8]; unfold cntL; have := HX.out.2.2.2.2.2.2.1; simp only [List.length_append, List.length_cons, List.length_nil]; omega⟩
    clear hL8
    go_wp2_with (go_at_call 32; refine hp.mono ?_)
    rintro e w8 ⟨o8, m8, c8, rfl, hc8, hr8⟩
    have H8 : Hid (Chg w w8 ∧ Ap.OwnV w8 (.slice o7 m7 c7) ([(k : Int) / 256, (k : Int) % 256] ++ L6) ∧ Ap.Rd w8 (.slice o8 m8 c8) L8) := ⟨H7.out.1.trans hc8, OwnV.chg H7.out.2.1 hc8, hr8⟩
    clear hp hc8 hr8
    go_wp2_with (at_builtin; refine Ap.wpList_app _ rfl _ _ rfl (.slice o7 m7 c7) (.slice o8 m8 c8) ([(k : Int) / 256, (k : Int) % 256] ++ L6) L8 rfl rfl H8.out.2.1 H8.out.2.2 (by have := HL6.out.2; have := HL8.out.2; simp only [List.length_append, List.length_cons, List.length_nil]; omega) ?_)
    intro v9 w9 r1 r2 r3
    obtain ⟨o9, m9, c9, rfl, -⟩ := r1.rd.shape
    have hinfo : ([(k : Int) / 256, (k : Int) % 256] ++ L6) ++ L8 = Ap.bI (Ap.infoB S ctx k) := by
      rw [← info_eq S ctx k HX.out.2.2.2.2.1, HL6.out.1, HL8.out.1, HS6.out.1, show (k : Int) / 256 % 256 = (k : Int) / 256 by omega]
    have H9 : Hid (Chg w w9 ∧ Ap.Rd w9 (.slice o9 m9 c9) (Ap.bI (Ap.infoB S ctx k))) := ⟨Chg.ap H8.out.1 r2 (fun i e => H7.out.2.2 i e), by rw [← hinfo]; exact r1.rd⟩
    clear r1 r2 r3 hinfo
    have hp := refExpand_any q vk (.slice o9 m9 c9) key _ k w9 HX.out.2.2.2.2.2.2.2.1 (Rd.chg HX.out.1 H9.out.1) HX.out.2.1 HX.out.2.2.1 H9.out.2 (Ap.bI_byte _) (by rw [Ap.bI_len, Ap.infoB_len, nums_size]; have := HX.out.2.2.2.2.2; omega) HX.out.2.2.2.2.2.2.2.2.1
    go_wp2_with (go_at_call 33; refine hp.mono ?_)
    rintro e w2 ⟨o, m2, c2, rfl, hc2, hr2⟩
    have H2 : Hid (Chg w w2 ∧ Ap.Rd w2 (.slice o m2 c2) (exL q key S ctx k)) := ⟨H9.out.1.trans hc2, by unfold exL; rw [HX.out.2.2.2.2.2.2.2.2.2]; exact hr2⟩
    clear hp hc2 hr2
    go_wp2
    go_ret2
    exact ⟨⟨_, _, _, by unfold exE; rw [HX.out.2.2.2.2.2.2.2.2.2]; rfl, H2.out.2⟩, H2.out.1⟩

set_option maxHeartbeats 2000000 in
theorem rderive_any (q : Int) (vk vc : Value) (key ctx : List Int) (S : ByteArray) (w : World) (hk : Ap.Rd w vk key) (hkx : ∀ x ∈ key, 0 ≤ x ∧ x < 256) (hkl : key.length ≤ 140737488351232) (hc : Ap.Rd w vc ctx) (hcx : ∀ x ∈ ctx, 0 ≤ x ∧ x < 256) :
    Calls Tryd.prog 10 #[.int .i64 q, vk, .string S, vc] w fun e w' => RL (drL q key S ctx) w w' e := by
  have hp := refExp_any q vk vc key ctx S (sizeOfH q) w hk hkx hkl hc hcx
  have hs := refSize_any q w
  unfold drL
  obtain ⟨Z, hZ⟩ : ∃ Z, Z = sizeOfH q := ⟨_, rfl⟩
  rw [← hZ] at hp hs ⊢
  clear hk hkx hkl hc hcx hZ
  go_enter Tryd.func10, Tryd.ntmps10
  go_wp2_with (first | (go_at_call 31; refine hs.mono ?_; rintro r' w5 ⟨rfl, hw5⟩; rw [hw5]; clear hw5 w5) | (go_at_call 8; refine hp.mono ?_))
  rintro e w1 ⟨⟨o, m, c, rfl, hr⟩, hc⟩
  have H : Hid (Chg w w1 ∧ Ap.Rd w1 (.slice o m c) (exL q key S ctx Z)) := ⟨hc, hr⟩
  clear hp hc hr hs
  go_wp2
  go_ret
  exact ⟨_, _, _, rfl, H.out⟩
end Go.Proofs.YtijpdhjlafihkaaDoor
