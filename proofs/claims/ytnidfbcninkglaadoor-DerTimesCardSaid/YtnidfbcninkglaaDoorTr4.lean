/-
  The document's Time, tag 23.
-/
import Derived.Test.YtnidfbcninkglaaDoorTr1
import Derived.BigQuiet
namespace Go.Proofs.YtnidfbcninkglaaDoor
open Go.RowKit
set_option linter.unusedVariables false
set_option maxRecDepth 100000

set_option maxHeartbeats 12800000 in
theorem rt_s0 (xs : List Int) (hb : Byt xs) (hn : xs.length = 13) (hz : gD xs 12 = 90) (v : Value) (w : World) (hv : Rd w v xs) (R : Int × Int) (hF0 : cv xs 12 0 < 50)
    (hR0 : ∀ i, i < 12 → isDg (gD xs i) = false → R = (0, 144))
    (hR1 : (∀ i, i < 12 → isDg (gD xs i) = true) → R = (if rightB (2000 + cv xs 12 0) (cv xs 12 1) (cv xs 12 2) (cv xs 12 3) (cv xs 12 4) (cv xs 12 5) then (secT (2000 + cv xs 12 0) (cv xs 12 1) (cv xs 12 2) (cv xs 12 3) (cv xs 12 4) (cv xs 12 5), 0) else (0, 144))) :
    Calls Tryd.prog 27 #[.int .u8 23, v] w fun e w' => e = .returned (.tuple #[.int .i64 R.1, .int .i64 R.2]) ∧ Chg Non w w' := by
  obtain ⟨b, o, c, rfl, g1, g2, h3⟩ := hv.bs (by intro e; rw [e] at hn; simp at hn)
  rw [hn] at g1 ⊢
  have hgd : ∀ j, j < 13 → w.cell? ⟨b, o + j, none⟩ = some (.int .u8 (gD xs j)) ∧ 0 ≤ gD xs j ∧ gD xs j < 256 := fun j hj => by
    obtain ⟨x, hx⟩ : ∃ x, xs[j]? = some x := ⟨_, List.getElem?_eq_getElem (by omega)⟩
    have e : gD xs j = x := by unfold gD; rw [List.getD_eq_getElem?_getD, hx]; rfl
    rw [e]
    exact ⟨h3 j x hx, hb x (List.mem_of_getElem? hx)⟩
  have kz : w.cell? ⟨b, o + 12, none⟩ = some (.int .u8 90) := by rw [← hz]; exact (hgd 12 (by omega)).1
  have HGD : Hid (∀ j, j < 13 → w.cell? ⟨b, o + j, none⟩ = some (.int .u8 (gD xs j)) ∧ 0 ≤ gD xs j ∧ gD xs j < 256) := hgd
  have HBL : Hid (b < w.heap.size) := by
    show _ < _
    by_cases e : b < w.heap.size
    · exact e
    · have : w.heap[b]? = none := by simp; omega
      simp [World.cell?, this] at kz
  have HR0 : Hid (∀ i, i < 12 → isDg (gD xs i) = false → R = (0, 144)) := hR0
  have HR1 : Hid ((∀ i, i < 12 → isDg (gD xs i) = true) → R = (if rightB (2000 + cv xs 12 0) (cv xs 12 1) (cv xs 12 2) (cv xs 12 3) (cv xs 12 4) (cv xs 12 5) then (secT (2000 + cv xs 12 0) (cv xs 12 1) (cv xs 12 2) (cv xs 12 3) (cv xs 12 4) (cv xs 12 5), 0) else (0, 144))) := hR1
  have HF0 : Hid (cv xs 12 0 < 50) := hF0
  clear hgd hv h3 hb hz hR0 hR1 hF0
  go_enter Tryd.func27, Tryd.ntmps27
  go_wp2
  have HT : Hid (Two w (w.alloc (.cells #[.int .i64 0, .int .i64 0, .int .i64 0, .int .i64 0, .int .i64 0, .int .i64 0, .int .i64 0] 87)) w.heap.size xs 0) := Two.new w xs
  obtain ⟨P, hP⟩ : ∃ P, P = w.heap.size := ⟨_, rfl⟩
  rw [← hP] at HT ⊢
  have HPB : Hid (¬ b = P) := by show ¬ _; have := HBL.out; omega
  clear hP kz
  go_loopw [8] (fun v wr => ∃ i : Nat, v = .int .i64 (i : Int) ∧ i ≤ 12 ∧ Hid (∀ j, j < i → isDg (gD xs j) = true) ∧ Hid (Two w wr P xs i)) (fun v wr => 12 - (intOf v).toNat)
  case atStart => exact ⟨0, rfl, by omega, fun j hj => absurd hj (Nat.not_lt_zero _), HT⟩
  case round =>
    clear HT
    obtain ⟨i, rfl, hi, HD, HT⟩ := hrel
    by_cases hlt : i < 12
    · obtain ⟨x, hx⟩ : ∃ x, x = gD xs i := ⟨_, rfl⟩
      have hc := HGD.out i (by omega)
      rw [← hx] at hc
      obtain ⟨hc1, hx0, hx1⟩ := hc
      have kx : wr.cell? ⟨b, o + i, none⟩ = some (.int .u8 x) := by
        rw [World.cell?_of_block (HT.out.chg.block b HBL.out (fun x => x))]
        exact hc1
      have HX : Hid (x = gD xs i) := hx
      have li : (i : Int) < 12 := by omega
      have li2 : (i : Int) < 13 := by omega
      clear hc1 hx
      by_cases e0 : x < 48
      · have d0 : decide (x < 48) = true := by simpa using e0
        have HN : Hid (R = (0, 144)) := HR0.out i hlt (by rw [← HX.out]; simp [isDg]; omega)
        clear e0
        go_wp2
        go_ret2
        exact ⟨by rw [HN.out]; rfl, HT.out.chg⟩
      · have d0 : decide (x < 48) = false := by simpa using e0
        by_cases e1 : 57 < x
        · have d1 : decide (57 < x) = true := by simpa using e1
          have HN : Hid (R = (0, 144)) := HR0.out i hlt (by rw [← HX.out]; simp [isDg]; omega)
          clear e0 e1
          go_wp2
          go_ret2
          exact ⟨by rw [HN.out]; rfl, HT.out.chg⟩
        · have d1 : decide (57 < x) = false := by simpa using e1
          have HDx : Hid (isDg (gD xs i) = true) := by show _ = _; rw [← HX.out]; simp [isDg]; omega
          have HD' : Hid (∀ j, j < i + 1 → isDg (gD xs j) = true) := fun j hj => by
            by_cases e : j = i
            · rw [e]; exact HDx.out
            · exact HD.out j (by omega)
          obtain ⟨m, hm⟩ : ∃ m, m = i / 2 := ⟨_, rfl⟩
          obtain ⟨C, hC⟩ : ∃ C, C = cv xs i m := ⟨_, rfl⟩
          have kC : wr.cell? ⟨P, m, none⟩ = some (.int .i64 C) := by rw [hC]; exact HT.out.cell m (by omega)
          have cf : ∀ j, wr.frozen? ⟨P, j, none⟩ = false := HT.out.frz
          have hCb : 0 ≤ C ∧ C ≤ 99 := by
            rw [hC]
            refine cv_bd (fun j hj => ?_) m
            have := HD.out j hj
            simp [isDg] at this
            exact this
          obtain ⟨hC0, hC1⟩ := hCb
          have qm : (i : Int) / 2 = (m : Int) := by omega
          have lm : (m : Int) < 7 := by omega
          have HST : Hid (Two w (wr.setCell ⟨P, m, none⟩ (.int .i64 (10 * C + (x - 48) % 256))).drew P xs (i + 1)) := by
            have e9 : (x - 48) % 256 = x - 48 := by omega
            rw [e9]
            have := HT.out.step (by omega) (10 * C + (x - 48)) (by rw [hC, HX.out, hm])
            rw [← hm] at this
            exact this.drew
          clear hm hC e0 e1
          go_wp2
          go_region
          go_wp2
          go_roundw
          case rel => exact ⟨i + 1, by simp, by omega, HD', HST⟩
          case measure => simp [intOf]; omega
    · have hiN : i = 12 := by omega
      subst hiN
      clear hlt
      have b0 := cv_bd (xs := xs) (i := 12) (fun j hj => by have := HD.out j hj; simp [isDg] at this; exact this) 0
      have k0 := HT.out.cell 0 (by omega)
      have b1 := cv_bd (xs := xs) (i := 12) (fun j hj => by have := HD.out j hj; simp [isDg] at this; exact this) 1
      have k1 := HT.out.cell 1 (by omega)
      have b2 := cv_bd (xs := xs) (i := 12) (fun j hj => by have := HD.out j hj; simp [isDg] at this; exact this) 2
      have k2 := HT.out.cell 2 (by omega)
      have b3 := cv_bd (xs := xs) (i := 12) (fun j hj => by have := HD.out j hj; simp [isDg] at this; exact this) 3
      have k3 := HT.out.cell 3 (by omega)
      have b4 := cv_bd (xs := xs) (i := 12) (fun j hj => by have := HD.out j hj; simp [isDg] at this; exact this) 4
      have k4 := HT.out.cell 4 (by omega)
      have b5 := cv_bd (xs := xs) (i := 12) (fun j hj => by have := HD.out j hj; simp [isDg] at this; exact this) 5
      have k5 := HT.out.cell 5 (by omega)
      have hR := HR1.out HD.out
      have hF := HF0.out
      generalize cv xs 12 0 = F0 at b0 k0 hR hF
      obtain ⟨b0l, b0u⟩ := b0
      generalize cv xs 12 1 = F1 at b1 k1 hR
      obtain ⟨b1l, b1u⟩ := b1
      generalize cv xs 12 2 = F2 at b2 k2 hR
      obtain ⟨b2l, b2u⟩ := b2
      generalize cv xs 12 3 = F3 at b3 k3 hR
      obtain ⟨b3l, b3u⟩ := b3
      generalize cv xs 12 4 = F4 at b4 k4 hR
      obtain ⟨b4l, b4u⟩ := b4
      generalize cv xs 12 5 = F5 at b5 k5 hR
      obtain ⟨b5l, b5u⟩ := b5
      obtain ⟨Y, hY⟩ : ∃ Y, Y = 2000 + F0 := ⟨_, rfl⟩
      have hY0 : 0 ≤ Y := by omega
      have hY9 : Y ≤ 9999 := by omega
      rw [← hY] at hR
      obtain ⟨K, hK⟩ : ∃ K, K = dimI Y F1 := ⟨_, rfl⟩
      have HC : Hid (∀ u, Calls Tryd.prog 50 #[.int .i64 Y, .int .i64 F1] u fun e w' => e = .returned (.int .i64 K) ∧ w' = u) := fun u => by rw [hK]; exact month_any Y F1 hY0 u
      have hKb := dim_bd Y F1
      rw [← hK] at hKb
      have HR : Hid (R = if rightB Y F1 F2 F3 F4 F5 then (secT Y F1 F2 F3 F4 F5, 0) else (0, 144)) := hR
      have HK : Hid (K = dimI Y F1) := hK
      have dF : decide (50 ≤ F0) = false := by simp; omega
      have HCH : Hid (Chg Non w wr) := HT.out.chg
      clear hR hK HR0 HR1 HD HT HGD hF HF0
      go_wp2
      rw [← hY]
      clear hY
      by_cases c0 : Y < 1
      · have d0 : decide (Y < 1) = true := by simpa using c0
        have HN : Hid (R = (0, 144)) := by
          show _ = _
          rw [HR.out]
          have hf : rightB Y F1 F2 F3 F4 F5 = false := by
            have hk := HK.out
            have e : decide (1 ≤ Y) = false := by simp; omega
            simp only [rightB, e, Bool.false_and]
          rw [hf]
          rfl
        go_quiet ((go_at_call 50; exact Calls.quiet_of_same (HC.out _)))
        go_wp2
        go_ret2
        exact ⟨by rw [HN.out]; rfl, HCH.out.drewN _⟩
      have d0 : decide (Y < 1) = false := by simpa using c0
      by_cases c1 : F1 < 1
      · have d1 : decide (F1 < 1) = true := by simpa using c1
        have HN : Hid (R = (0, 144)) := by
          show _ = _
          rw [HR.out]
          have hf : rightB Y F1 F2 F3 F4 F5 = false := by
            have hk := HK.out
            have e : decide (1 ≤ F1) = false := by simp; omega
            simp only [rightB, e, Bool.false_and, Bool.and_false]
          rw [hf]
          rfl
        go_quiet ((go_at_call 50; exact Calls.quiet_of_same (HC.out _)))
        go_wp2
        go_ret2
        exact ⟨by rw [HN.out]; rfl, HCH.out.drewN _⟩
      have d1 : decide (F1 < 1) = false := by simpa using c1
      by_cases c2 : 12 < F1
      · have d2 : decide (12 < F1) = true := by simpa using c2
        have HN : Hid (R = (0, 144)) := by
          show _ = _
          rw [HR.out]
          have hf : rightB Y F1 F2 F3 F4 F5 = false := by
            have hk := HK.out
            have e : decide (F1 ≤ 12) = false := by simp; omega
            simp only [rightB, e, Bool.false_and, Bool.and_false]
          rw [hf]
          rfl
        go_quiet ((go_at_call 50; exact Calls.quiet_of_same (HC.out _)))
        go_wp2
        go_ret2
        exact ⟨by rw [HN.out]; rfl, HCH.out.drewN _⟩
      have d2 : decide (12 < F1) = false := by simpa using c2
      by_cases c3 : F2 < 1
      · have d3 : decide (F2 < 1) = true := by simpa using c3
        have HN : Hid (R = (0, 144)) := by
          show _ = _
          rw [HR.out]
          have hf : rightB Y F1 F2 F3 F4 F5 = false := by
            have hk := HK.out
            have e : decide (1 ≤ F2) = false := by simp; omega
            simp only [rightB, e, Bool.false_and, Bool.and_false]
          rw [hf]
          rfl
        go_quiet ((go_at_call 50; exact Calls.quiet_of_same (HC.out _)))
        go_wp2
        go_ret2
        exact ⟨by rw [HN.out]; rfl, HCH.out.drewN _⟩
      have d3 : decide (F2 < 1) = false := by simpa using c3
      by_cases c4 : K < F2
      · have d4 : decide (K < F2) = true := by simpa using c4
        have HN : Hid (R = (0, 144)) := by
          show _ = _
          rw [HR.out]
          have hf : rightB Y F1 F2 F3 F4 F5 = false := by
            have hk := HK.out
            have e : decide (F2 ≤ K) = false := by simp; omega
            rw [hk] at e
            simp only [rightB, e, Bool.false_and, Bool.and_false]
          rw [hf]
          rfl
        go_quiet ((go_at_call 50; exact Calls.quiet_of_same (HC.out _)))
        go_wp2
        go_ret2
        exact ⟨by rw [HN.out]; rfl, HCH.out.drewN _⟩
      have d4 : decide (K < F2) = false := by simpa using c4
      by_cases c5 : 23 < F3
      · have d5 : decide (23 < F3) = true := by simpa using c5
        have HN : Hid (R = (0, 144)) := by
          show _ = _
          rw [HR.out]
          have hf : rightB Y F1 F2 F3 F4 F5 = false := by
            have hk := HK.out
            have e : decide (F3 ≤ 23) = false := by simp; omega
            simp only [rightB, e, Bool.false_and, Bool.and_false]
          rw [hf]
          rfl
        go_quiet ((go_at_call 50; exact Calls.quiet_of_same (HC.out _)))
        go_wp2
        go_ret2
        exact ⟨by rw [HN.out]; rfl, HCH.out.drewN _⟩
      have d5 : decide (23 < F3) = false := by simpa using c5
      by_cases c6 : 59 < F4
      · have d6 : decide (59 < F4) = true := by simpa using c6
        have HN : Hid (R = (0, 144)) := by
          show _ = _
          rw [HR.out]
          have hf : rightB Y F1 F2 F3 F4 F5 = false := by
            have hk := HK.out
            have e : decide (F4 ≤ 59) = false := by simp; omega
            simp only [rightB, e, Bool.false_and, Bool.and_false]
          rw [hf]
          rfl
        go_quiet ((go_at_call 50; exact Calls.quiet_of_same (HC.out _)))
        go_wp2
        go_ret2
        exact ⟨by rw [HN.out]; rfl, HCH.out.drewN _⟩
      have d6 : decide (59 < F4) = false := by simpa using c6
      by_cases c7 : 59 < F5
      · have d7 : decide (59 < F5) = true := by simpa using c7
        have HN : Hid (R = (0, 144)) := by
          show _ = _
          rw [HR.out]
          have hf : rightB Y F1 F2 F3 F4 F5 = false := by
            have hk := HK.out
            have e : decide (F5 ≤ 59) = false := by simp; omega
            simp only [rightB, e, Bool.and_false]
          rw [hf]
          rfl
        go_quiet ((go_at_call 50; exact Calls.quiet_of_same (HC.out _)))
        go_wp2
        go_ret2
        exact ⟨by rw [HN.out]; rfl, HCH.out.drewN _⟩
      have d7 : decide (59 < F5) = false := by simpa using c7
      have HN : Hid (R = (secT Y F1 F2 F3 F4 F5, 0)) := by
        show _ = _
        have hk := HK.out
        have ht : rightB Y F1 F2 F3 F4 F5 = true := by
          simp only [rightB, Bool.and_eq_true, decide_eq_true_eq]
          omega
        rw [HR.out, ht]
        rfl
      have hB := dby_bd Y (by omega) (by omega)
      obtain ⟨B, eB⟩ : ∃ B, B = dby Y := ⟨_, rfl⟩
      rw [← eB] at hB
      have HDY : Hid (∀ u, Calls Tryd.prog 51 #[.int .i64 Y] u fun e w' => e = .returned (.int .i64 (B - 719162)) ∧ w' = u) := fun u => by rw [eB]; exact days_any Y (by omega) (by omega) u
      have HB : Hid (B = dby Y) := eB
      obtain ⟨hB0, hB1⟩ := hB
      have hY1 : 1 ≤ Y := by omega
      have hM1 : 1 ≤ F1 := by omega
      have hM2 : F1 ≤ 12 := by omega
      have hD2 : F2 ≤ 31 := by omega
      go_quiet ((go_at_call 50; exact Calls.quiet_of_same (HC.out _)))
      clear eB d0 d1 d2 d3 d4 d5 d6 d7 c0 c1 c2 c3 c4 HR HC
      go_wp2_with (go_at_call 51; refine (HDY.out _).mono ?_; rintro e w9 ⟨rfl, hw9⟩; obtain rfl := hw9.symm)
      go_loop [11, 12] (fun n x => ∃ k c : Int, 1 ≤ k ∧ k ≤ F1 ∧ x = .int .i64 k ∧ n = .int .i64 (B - 719162 + c) ∧ Hid (c = cum Y k) ∧ 0 ≤ c ∧ c ≤ 366) (fun _ x => (F1 - intOf x).toNat)
      case atStart => exact ⟨1, 0, by omega, by omega, rfl, by simp, (rfl : (0 : Int) = cum Y 1), by omega, by omega⟩
      case round =>
        obtain ⟨k, c, hk0, hk1, rfl, rfl, hc, hc0, hc1⟩ := hrel
        by_cases hlt : k < F1
        · obtain ⟨K2, hK2⟩ : ∃ K2, K2 = dimI Y k := ⟨_, rfl⟩
          have HC3 : Hid (∀ u, Calls Tryd.prog 50 #[.int .i64 Y, .int .i64 k] u fun e w' => e = .returned (.int .i64 K2) ∧ w' = u) := fun u => by rw [hK2]; exact month_any Y k (by omega) u
          have hcs := cum_succ Y k hk0 (by omega)
          have hcb := cum_bd Y (k + 1) (by omega) (by omega)
          have HCS : Hid (c + K2 = cum Y (k + 1)) := by show _ = _; rw [hcs, ← hc.out, hK2]
          have hcK0 : 0 ≤ c + K2 := by have := HCS.out; omega
          have hcK1 : c + K2 ≤ 366 := by have := HCS.out; omega
          have hKb2 := dim_bd Y k
          rw [← hK2] at hKb2
          obtain ⟨hKb3, hKb4⟩ := hKb2
          clear hK2 hcs hcb
          go_wp2_with (go_at_call 50; refine (HC3.out _).mono ?_; rintro e w9 ⟨rfl, hw9⟩; obtain rfl := hw9.symm)
          go_round
          case rel => exact ⟨k + 1, c + K2, by omega, by omega, rfl, by congr 1; omega, HCS, hcK0, hcK1⟩
          case measure => simp [intOf]; omega
        · have hkm : k = F1 := by omega
          have hcM : Hid (c = cum Y F1) := by rw [← hkm]; exact hc
          have dkm : decide (k < F1) = false := by simpa using hlt
          clear hlt hc
          go_wp2
          go_quiet (fail)
          go_wp2
          go_ret2
          refine ⟨?_, ?_⟩
          · rw [HN.out]
            have h1 := HB.out
            have h2 := hcM.out
            have E : secT Y F1 F2 F3 F4 F5 = (B - 719162 + c + F2 - 1) * 86400 + (F3 * 3600 + F4 * 60 + F5) := by unfold secT; rw [← h1, ← h2]; omega
            rw [E]
            rfl
          · exact (HCH.out.drewN _).drewN _
end Go.Proofs.YtnidfbcninkglaaDoor
