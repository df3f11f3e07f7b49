/-
  The document's Put, two digits, a time written.
-/
import Derived.Test.YtnidfbcninkglaaDoorDr
import Derived.Test.YtnidfbcninkglaaDoorPt
namespace Go.Proofs.YtnidfbcninkglaaDoor
open Go.RowKit
set_option linter.unusedVariables false
set_option maxRecDepth 100000

set_option maxHeartbeats 1600000 in
theorem rtwo_any (n : Int) (h0 : 0 ≤ n) (h1 : n < 100) (w : World) : Calls Tryd.prog 55 #[.int .i64 n] w fun e w' => e = .returned (.slice (some ⟨w.heap.size, 0, none⟩) 2 2) ∧ Rd w' (.slice (some ⟨w.heap.size, 0, none⟩) 2 2) (dg2 n) ∧ Chg Non w w' := by
  have hr := row_rd w (dg2 n) 2 rfl (by decide)
  have q : n / 10 % 10 = n / 10 := by omega
  go_enter Tryd.func55, Tryd.ntmps55
  go_wp2
  go_ret
  exact ⟨rfl, hr, (Chg.refl _ _).alloc _⟩

theorem OwnN.oneC {w : World} (x : Int) : OwnN w (w.alloc (.cells #[.int .u8 x] 5)) (.slice (some ⟨w.heap.size, 0, none⟩) 1 1) [x] :=
  ⟨.inr ⟨_, 0, 1, 1, rfl, rfl, Nat.le_refl _, by decide, _, heap_alloc_last w _, by simp, by simp⟩, fun i e => by injection e with e; rw [← e]; exact Nat.le_refl _, (Chg.refl _ _).alloc _⟩

set_option maxHeartbeats 3200000 in
theorem rput_any (t : Int) (h0 : 0 ≤ t) (h1 : t < 256) (v : Value) (xs : List Int) (w : World) (hv : Rd w v xs) :
    Calls Tryd.prog 30 #[.int .u8 t, v] w fun e w' => ∃ v', e = .returned v' ∧ OwnN w w' v' (putL t xs) := by
  have HV : Hid (Rd w v xs) := hv
  obtain ⟨ao, n, c, rfl, hn, hnc, hm⟩ := hv.shape
  have HN : Hid (n = xs.length) := hn
  unfold maxLen at hm
  by_cases ht : t % 32 = 31
  · have HE : Hid (putL t xs = []) := by unfold putL; rw [if_neg (fun h => h.1 ht)]; rfl
    have d1 : (t % 32 == 31) = true := by simpa using ht
    clear hn hv
    go_enter Tryd.func30, Tryd.ntmps30
    go_wp2
    go_ret
    exact ⟨_, rfl, by rw [HE.out]; exact OwnN.nought w⟩
  · have d1 : (t % 32 == 31) = false := by simpa using ht
    by_cases hl : n ≤ 65535
    · have d2 : decide ((65535 : Int) < (n : Int)) = false := by simp; omega
      obtain ⟨Z, hZ⟩ : ∃ Z, Z = putL t xs := ⟨_, rfl⟩
      rw [← hZ]
      have HZ : Hid (Z = t :: (lenB n ++ xs)) := by
        show _ = _
        rw [hZ]; unfold putL; rw [if_pos ⟨ht, by omega⟩]; unfold encL; rw [← hn]
      have HLB : Hid ((lenB n).length ≤ 3) := by show _ ≤ _; rw [lenB_len]; split; omega; split <;> omega
      have hl0 : n < 128 ∨ (128 ≤ n ∧ n < 256) ∨ 256 ≤ n := by omega
      obtain ⟨w1, hw1⟩ : ∃ w1, w1 = w.alloc (.cells #[.int .u8 t] 5) := ⟨_, rfl⟩
      have HW : Hid (w1 = w.alloc (.cells #[.int .u8 t] 5)) := hw1
      have HO1 : Hid (OwnN w w1 (.slice (some ⟨w.heap.size, 0, none⟩) 1 1) [t]) := by rw [hw1]; exact OwnN.oneC t
      clear hn hv hZ hw1
      rcases hl0 with hs | ⟨hs, hs'⟩ | hs
      · have d3 : decide ((n : Int) < 128) = true := by simp; omega
        have HB : Hid (lenB n = [(n : Int)]) := by show _ = _; unfold lenB; rw [if_pos hs]
        go_enter Tryd.func30, Tryd.ntmps30
        go_upto_region 5 with fail
        rw [← HW.out]
        go_wp2_with (at_builtin; refine wpList_app _ rfl (.tmp 30) (.tmp 34) rfl _ _ [t] [(n : Int)] rfl rfl (HO1.out.own.chg ((Chg.refl _ _).alloc _)) (Rd.one _ _) (by simp) ?_)
        intro v3 w3 g1 g2 g3
        have HO3 : Hid (OwnN w w3 v3 ([t] ++ [(n : Int)])) := (HO1.out.after ((Chg.refl _ _).alloc _)).more g1 g2 (by simpa using g3)
        clear g1 g2 g3
        obtain ⟨o3, n3, c3, rfl, -, -, -⟩ := HO3.out.rd.shape
        go_wp2_with (at_builtin; refine wpList_app _ rfl (.tmp 46) (.tmp 47) rfl _ _ ([t] ++ [(n : Int)]) xs rfl rfl HO3.out.own (HV.out.chg HO3.out.chg) (by have := HN.out; simp; omega) ?_)
        intro v4 w4 g1 g2 g3
        have HO4 : Hid (OwnN w w4 v4 Z) := by
          have := HO3.out.more g1 g2 g3
          rw [HZ.out, HB.out]
          simpa [Hid] using this
        clear g1 g2 g3
        go_wp2
        go_ret
        exact ⟨_, rfl, HO4.out⟩
      · have d3 : decide ((n : Int) < 128) = false := by simp; omega
        have d4 : decide ((n : Int) < 256) = true := by simp; omega
        have HB : Hid (lenB n = [129, (n : Int)]) := by show _ = _; unfold lenB; rw [if_neg (by omega), if_pos hs']
        go_enter Tryd.func30, Tryd.ntmps30
        go_upto_region 5 with fail
        rw [← HW.out]
        go_wp2_with (at_builtin; refine wpList_app _ rfl (.tmp 40) (.tmp 44) rfl _ _ [t] [129, (n : Int)] rfl rfl (HO1.out.own.chg ((Chg.refl _ _).alloc _)) (row_rd _ [129, (n : Int)] 2 rfl (by decide)) (by simp) ?_)
        intro v3 w3 g1 g2 g3
        have HO3 : Hid (OwnN w w3 v3 ([t] ++ [129, (n : Int)])) := (HO1.out.after ((Chg.refl _ _).alloc _)).more g1 g2 (by simpa using g3)
        clear g1 g2 g3
        obtain ⟨o3, n3, c3, rfl, -, -, -⟩ := HO3.out.rd.shape
        go_wp2_with (at_builtin; refine wpList_app _ rfl (.tmp 46) (.tmp 47) rfl _ _ ([t] ++ [129, (n : Int)]) xs rfl rfl HO3.out.own (HV.out.chg HO3.out.chg) (by have := HN.out; simp; omega) ?_)
        intro v4 w4 g1 g2 g3
        have HO4 : Hid (OwnN w w4 v4 Z) := by
          have := HO3.out.more g1 g2 g3
          rw [HZ.out, HB.out]
          simpa [Hid] using this
        clear g1 g2 g3
        go_wp2
        go_ret
        exact ⟨_, rfl, HO4.out⟩
      · have d3 : decide ((n : Int) < 128) = false := by simp; omega
        have d4 : decide ((n : Int) < 256) = false := by simp; omega
        have HB : Hid (lenB n = [130, ((n / 256 : Nat) : Int), ((n % 256 : Nat) : Int)]) := by show _ = _; unfold lenB; rw [if_neg (by omega), if_neg (by omega)]
        go_enter Tryd.func30, Tryd.ntmps30
        go_upto_region 5 with fail
        rw [← HW.out]
        go_wp2_with (at_builtin; refine wpList_app _ rfl (.tmp 16) (.tmp 24) rfl _ _ [t] [130, ((n / 256 : Nat) : Int), ((n % 256 : Nat) : Int)] rfl rfl (HO1.out.own.chg ((Chg.refl _ _).alloc _)) (row_rd _ [130, ((n / 256 : Nat) : Int), ((n % 256 : Nat) : Int)] 3 rfl (by decide)) (by simp) ?_)
        intro v3 w3 g1 g2 g3
        have HO3 : Hid (OwnN w w3 v3 ([t] ++ [130, ((n / 256 : Nat) : Int), ((n % 256 : Nat) : Int)])) := (HO1.out.after ((Chg.refl _ _).alloc _)).more g1 g2 (by simpa using g3)
        clear g1 g2 g3
        obtain ⟨o3, n3, c3, rfl, -, -, -⟩ := HO3.out.rd.shape
        go_wp2_with (at_builtin; refine wpList_app _ rfl (.tmp 46) (.tmp 47) rfl _ _ ([t] ++ [130, ((n / 256 : Nat) : Int), ((n % 256 : Nat) : Int)]) xs rfl rfl HO3.out.own (HV.out.chg HO3.out.chg) (by have := HN.out; simp; omega) ?_)
        intro v4 w4 g1 g2 g3
        have HO4 : Hid (OwnN w w4 v4 Z) := by
          have := HO3.out.more g1 g2 g3
          rw [HZ.out, HB.out]
          simpa [Hid] using this
        clear g1 g2 g3
        go_wp2
        go_ret
        exact ⟨_, rfl, HO4.out⟩
    · have d2 : decide ((65535 : Int) < (n : Int)) = true := by simp; omega
      have HE : Hid (putL t xs = []) := by unfold putL; rw [if_neg (fun h => hl (by omega))]; rfl
      clear hn hv
      go_enter Tryd.func30, Tryd.ntmps30
      go_wp2
      go_ret
      exact ⟨_, rfl, by rw [HE.out]; exact OwnN.nought w⟩
end Go.Proofs.YtnidfbcninkglaaDoor
