/-
  The walk of LogsBack.
-/
import Derived.Test.YtlhcadfcgibkdaaDoorPsH
import Derived.Test.YtlhcadfcgibkdaaDoorHead
import Derived.Deep.CutBlock
namespace Go.Proofs.YtlhcadfcgibkdaaDoor
open Go.RowKit
set_option linter.unusedVariables false
set_option maxRecDepth 100000

theorem pTime_lt (s : ByteArray) : pTime s < 18446744073709551616 := by
  unfold pTime
  split
  · exact nmR_lt _ _
  · decide
theorem wdT_len (S : List UInt8) (p : Nat) : (wdT S p).length ≤ S.length := by
  have := congrArg List.length (wdT_drop S p)
  simp only [List.length_append, List.length_drop] at this
  omega
theorem pEv_size (s : ByteArray) : (pEv s).size ≤ 1024 := by
  unfold pEv
  split
  · rename_i h
    unfold okS at h
    simp only [Bool.and_eq_true, decide_eq_true_eq] at h
    have h2 := wdT_len s.data.toList (evS s.data.toList).pos
    have h3 : s.data.toList.length = s.size := by simp
    show (⟨_⟩ : ByteArray).size ≤ _
    rw [sz_arr]
    omega
  · decide
theorem pErr_cases (s : ByteArray) : pErr s = 0 ∨ pErr s = 32 ∨ pErr s = 33 := by
  unfold pErr
  split
  · split
    · exact .inr (.inr rfl)
    · exact .inl rfl
  · exact .inr (.inl rfl)

set_option maxHeartbeats 2000000 in
theorem back_walk (time : Nat) (event : ByteArray) (ao : Option Addr) (n c : Nat) (ps : List PairD) (s : ByteArray) (cut : Nat) (w : World) (ht : Tab w) (htime : time < 18446744073709551616) (hev : event.size ≤ 9223372036854775807) (hps : PRd w (.slice ao n c) ps) (hs : s.size ≤ 9223372036854775807) (hcut : cut ≤ 65535) :
    Calls Tryd.prog 5 #[.agg #[.int .u64 time, .string event, .slice ao n c], .string s, .int .u16 cut] w fun e w' => e = .returned (.bool true) ∧ Below w.heap.size w w' := by
  have h2 := ht.size
  have H : Hid (Tab w ∧ PRd w (.slice ao n c) ps ∧ ∀ p ∈ ps, p.num < 18446744073709551616) := ⟨ht, hps, fun p hp => by
    obtain ⟨_, _, _, _, _, _, _, hx⟩ := hps
    obtain ⟨i, hi⟩ := List.mem_iff_getElem?.1 hp
    exact (hx i p hi).1.num⟩
  clear ht hps
  go_enter Tryd.func5, Tryd.ntmps5
  go_wp2_with fail
  refine (head_any _ (H.out.1.non ((Chg.refl _ _).alloc _))).mono ?_
  rintro e w1 ⟨rfl, hc1⟩
  have hbx : w1.heap[w.heap.size]? = some (.cells #[.int .u64 time, .string event, .slice ao n c] 25 (0, 0)) := by
    rw [hc1.block _ (by simp) (fun x => x)]
    exact heap_alloc_new w _
  have H1 : Hid (Chg Non w w1) := ((Chg.refl _ _).alloc _).trans hc1 (fun _ _ x => x)
  have y0 : w1.cell? ⟨w.heap.size, 0, none⟩ = some (.int .u64 time) := by rw [Lib.cell_of_heap hbx]; rfl
  have y1 : w1.cell? ⟨w.heap.size, 1, none⟩ = some (.string event) := by rw [Lib.cell_of_heap hbx]; rfl
  have y2 : w1.cell? ⟨w.heap.size, 2, none⟩ = some (.slice ao n c) := by rw [Lib.cell_of_heap hbx]; rfl
  clear hc1 hbx
  go_wp2_with fail
  refine (encode_any time event _ ps _ (H.out.1.non H1.out) htime hev (H.out.2.1.non H1.out)).mono ?_
  rintro e w2 ⟨rfl, hc2⟩
  have H2 : Hid (Chg Non w w2) := H1.out.trans hc2 (fun _ _ x => x)
  obtain ⟨tS, htS⟩ : ∃ tS, tS = encT time event ps := ⟨_, rfl⟩
  obtain ⟨tE, htE⟩ : ∃ tE, tE = encE time event ps := ⟨_, rfl⟩
  have HT : Hid (tS = encT time event ps ∧ tE = encE time event ps) := ⟨htS, htE⟩
  rw [← htS, ← htE]
  clear hc2 htS htE y0 y1 y2 H1
  go_upto_if 27 with fail
  go_cut [] from 10 to 83 (fun wc => Chg Non w wc)
  case first =>
    by_cases h0 : tE = 0
    · have HB : Hid (pErr tS = 0 ∧ pAt tS = 0 ∧ encE (pTime tS) (pEv tS) (pPs tS) = 0 ∧ encT (pTime tS) (pEv tS) (pPs tS) = tS ∧ tS.size ≤ 1024) := by
        have := back_there htime H.out.2.2 (by rw [← HT.out.2]; exact h0)
        rw [← HT.out.1] at this
        exact this
      have hsz : tS.size ≤ 1024 := HB.out.2.2.2.2
      subst h0
      go_wp2_with fail
      refine (parse_any tS _ (by have := H2.out.size; omega) (by omega)).mono ?_
      rintro e w3 ⟨lv, rfl, hp3, hc3⟩
      obtain ⟨lo, ln, lc, hlv, -⟩ := id hp3
      subst hlv
      obtain ⟨t3, hT⟩ : ∃ t, t = pTime tS := ⟨_, rfl⟩
      obtain ⟨ev3, hE⟩ : ∃ ev, ev = pEv tS := ⟨_, rfl⟩
      have H3 : Hid (PRd w3 (.slice lo ln lc) (pPs tS) ∧ Chg Non w w3 ∧ t3 = pTime tS ∧ ev3 = pEv tS) := ⟨hp3, H2.out.trans hc3 (fun _ _ x => x), hT, hE⟩
      rw [HB.out.1, HB.out.2.1, ← hT, ← hE]
      have ht3 : t3 < 18446744073709551616 := by rw [hT]; exact pTime_lt _
      have hev3 : ev3.size ≤ 1024 := by rw [hE]; exact pEv_size _
      clear hp3 hc3 hT hE
      go_wp2_with fail
      refine (encode_any t3 ev3 _ (pPs tS) _ ((H.out.1.non H3.out.2.1).non ((Chg.refl _ _).alloc _)) ht3 (by omega) (H3.out.1.non ((Chg.refl _ _).alloc _))).mono ?_
      rintro e w4 ⟨rfl, hc4⟩
      have H4 : Hid (Chg Non w w4) := (H3.out.2.1.alloc _).trans hc4 (fun _ _ x => x)
      rw [H3.out.2.2.1, H3.out.2.2.2, HB.out.2.2.1, HB.out.2.2.2.1]
      clear hc4
      obtain ⟨K, hKd⟩ : ∃ K, K = cut % (tS.size + 1) := ⟨_, rfl⟩
      have hKs : K ≤ tS.size := by rw [hKd]; have := Nat.mod_lt cut (show 0 < tS.size + 1 by omega); omega
      have hmod : (cut : Int) % ((tS.size : Int) + 1) = (K : Int) := by rw [hKd]; simp
      clear hKd
      go_wp2_with fail
      have hX : (tS.extract 0 K).size = K := by simp; omega
      refine (parse_any (tS.extract 0 K) _ (by have := H4.out.size; omega) (by omega)).mono ?_
      rintro e w5 ⟨mv, rfl, hp5, hc5⟩
      obtain ⟨mo, mn, mc, hmv, -⟩ := id hp5
      subst hmv
      have hpa := pAt_le (tS.extract 0 K)
      rw [hX] at hpa
      have hpe := pErr_cases (tS.extract 0 K)
      have H5 : Hid (Chg Non w w5) := H4.out.trans hc5 (fun _ _ x => x)
      clear hp5 hc5 hX
      generalize pTime (tS.extract 0 K) = t5 at *
      generalize pEv (tS.extract 0 K) = ev5 at *
      generalize pAt (tS.extract 0 K) = pa at *
      generalize pErr (tS.extract 0 K) = pe at *
      rcases hpe with rfl | rfl | rfl
      all_goals
        go_wp2_with fail
        go_meet
        case rel => exact H5.out
    · have h0' : (tE == 0) = false := by simpa using h0
      clear h0
      go_wp2_with fail
      go_meet
      case rel => exact H2.out
  case rest =>
    obtain ⟨wo, hwo⟩ : ∃ wo, wo = wc := ⟨_, rfl⟩
    subst hwo
    have HW : Hid (Chg Non w wo) := hcut
    clear hcut H2
    go_wp2_with fail
    refine (parse_any s _ (by have := HW.out.size; omega) hs).mono ?_
    rintro e w3 ⟨lv, rfl, hp3, hc3⟩
    obtain ⟨lo, ln, lc, hlv, -⟩ := id hp3
    subst hlv
    obtain ⟨t3, hT⟩ : ∃ t, t = pTime s := ⟨_, rfl⟩
    obtain ⟨ev3, hE⟩ : ∃ ev, ev = pEv s := ⟨_, rfl⟩
    obtain ⟨pa, hA⟩ : ∃ pa, pa = pAt s := ⟨_, rfl⟩
    have hpa : pa ≤ s.size := by rw [hA]; exact pAt_le s
    have H3 : Hid (PRd w3 (.slice lo ln lc) (pPs s) ∧ Chg Non w w3 ∧ t3 = pTime s ∧ ev3 = pEv s) := ⟨hp3, HW.out.trans hc3 (fun _ _ x => x), hT, hE⟩
    have ht3 : t3 < 18446744073709551616 := by rw [hT]; exact pTime_lt _
    have hev3 : ev3.size ≤ 1024 := by rw [hE]; exact pEv_size _
    rw [← hT, ← hE, ← hA]
    by_cases h0 : pErr s = 0
    · have HB : Hid (encE t3 ev3 (pPs s) = 0 ∧ encT t3 ev3 (pPs s) = s) := by rw [hT, hE]; exact back_again h0
      rw [h0]
      clear hp3 hc3 hT hE hA h0
      go_wp2_with fail
      refine (encode_any t3 ev3 _ (pPs s) _ ((H.out.1.non H3.out.2.1).non ((Chg.refl _ _).alloc _)) ht3 (by omega) (H3.out.1.non ((Chg.refl _ _).alloc _))).mono ?_
      rintro e w4 ⟨rfl, hc4⟩
      have H4 : Hid (Chg Non w w4) := (H3.out.2.1.alloc _).trans hc4 (fun _ _ x => x)
      rw [HB.out.1, HB.out.2]
      clear hc4
      go_wp2
      go_ret
      exact ⟨rfl, H4.out.below (Nat.le_refl _) (fun k x => x.elim)⟩
    · have hpe := pErr_cases s
      generalize pErr s = pe at *
      have hne : (pe != 0) = true := by simpa using h0
      have H4 : Hid (Chg Non w (w3.alloc (.cells #[.int .u64 t3, .string ev3, .slice lo ln lc] 25))) := H3.out.2.1.alloc _
      clear hp3 hc3 hT hE hA h0 hpe
      go_wp2
      go_ret
      exact ⟨rfl, H4.out.below (Nat.le_refl _) (fun k x => x.elim)⟩
end Go.Proofs.YtlhcadfcgibkdaaDoor
