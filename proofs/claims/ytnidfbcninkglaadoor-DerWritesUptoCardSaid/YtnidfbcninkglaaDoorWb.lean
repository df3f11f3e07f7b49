/-
  PutNum: the program's.
-/
import Derived.Test.YtnidfbcninkglaaDoorWa
import Derived.Deep.Cut
import Derived.Deep.CutBlock
namespace Go.Proofs.YtnidfbcninkglaaDoor
open Go.RowKit
set_option linter.unusedVariables false
set_option maxRecDepth 100000

set_option maxHeartbeats 4000000 in
theorem putNum_any (v : Value) (xs : List Int) (hb : Byt xs) (hl : xs.length ≤ 140737488355327) (w : World) (hv : Rd w v xs) :
    Calls Tryd.prog 31 #[v] w fun e w' => ∃ v', e = .returned v' ∧ OwnN w w' v' (pnL xs) := by
  have HT : Hid (Calls Tryd.prog 56 #[v, .string ⟨#[0]⟩] w fun e w' => ∃ v', e = .returned v' ∧ RdP w v' (strip xs) ∧ w' = w) := trimLeft_any v xs w hv
  have HN : Hid (∀ u q, Rd q u (pnB xs) → Calls Tryd.prog 16 #[u] q fun e w' => ∃ v', e = .returned (.tuple #[v', .int .i64 (if (pnB xs).length ≤ 33 then 0 else 144)]) ∧ OwnN q w' v' (numR (pnB xs))) := fun u q h => by
    have := num_any u (pnB xs) (pnB_byt hb) q h
    rw [pnB_put hb] at this
    exact this
  have HPU : Hid (∀ u q, Rd q u (pnB xs) → Calls Tryd.prog 15 #[.int .u8 2, .slice (some ⟨q.heap.size, 0, none⟩) 1 1] (q.alloc (.cells #[u] 22)) fun e w' => ∃ v', e = .returned v' ∧ OwnN (q.alloc (.cells #[u] 22)) w' v' (putL 2 (pnB xs))) := fun u q h => by
    have := put_any 2 (by omega) (by omega) _ _ _ (PtR.one h)
    rw [flat1] at this
    exact this
  have HSB : Hid (Byt (strip xs)) := strip_byt hb
  have HSL : Hid ((strip xs).length ≤ 140737488355327) := Nat.le_trans (strip_len xs) hl
  obtain ⟨ao, n, c, rfl, -, -, -⟩ := hv.shape
  clear hv hb hl
  go_enter Tryd.func31, Tryd.ntmps31
  go_wp2_with (go_at_call 56; refine HT.out.mono ?_)
  rintro e w1 ⟨v1, rfl, hP, hw⟩
  obtain rfl := hw.symm
  obtain ⟨a1, n1, c1, rfl, hn1, hnc1, hm1⟩ := hP.rd.shape
  unfold maxLen at hm1
  have HR1 : Hid (Rd w (.slice a1 n1 c1) (strip xs)) := hP.rd
  clear hP HT
  have HBND : Hid (([0] : List Int).length + (strip xs).length ≤ 140737488355328) := by have := HSL.out; show _ ≤ _; simp; omega
  cases hs : strip xs with
  | nil =>
    have h0 : n1 = 0 := by rw [hn1, hs]; rfl
    clear hn1
    subst h0
    have HP : Hid (pnB xs = [0] ++ strip xs) := by show _ = _; unfold pnB; rw [hs]; rfl
    clear hs
    go_wp2_with (at_builtin; refine wpList_app _ rfl (.tmp 17) (.tmp 18) rfl _ _ [0] (strip xs) rfl rfl (OwnN.oneC (w := w) 0).own (HR1.out.chg ((Chg.refl _ _).alloc _)) HBND.out ?_)
    intro v' w9 g1 g2 g3
    have hO := (OwnN.oneC (w := w) 0).more g1 g2 (by rw [World.size_alloc]; exact g3)
    obtain ⟨a2, n2, c2, rfl, -, -, -⟩ := g1.rd.shape
    have HC3 : Hid (Chg Non w w9 ∧ Rd w9 (.slice a2 n2 c2) (pnB xs)) := ⟨hO.chg, by rw [HP.out]; exact g1.rd⟩
    clear g1 g2 g3 hO HR1
    have HN3 : Hid (Calls Tryd.prog 16 #[.slice a2 n2 c2] w9 fun e w' => ∃ v', e = .returned (.tuple #[v', .int .i64 (if (pnB xs).length ≤ 33 then 0 else 144)]) ∧ OwnN w9 w' v' (numR (pnB xs))) := HN.out _ w9 HC3.out.2
    by_cases h33 : (pnB xs).length ≤ 33
    · rw [if_pos h33] at HN3
      have HPL : Hid (pnL xs = putL 2 (pnB xs)) := by show _ = _; unfold pnL putL; rw [if_pos h33, if_pos ⟨by omega, by omega⟩]
      clear h33 HN
      go_wp2_with (go_at_call 16; refine HN3.out.mono ?_)
      rintro e w4 ⟨v4, rfl, hO4⟩
      obtain ⟨a4, n4, c4, rfl, -, -, -⟩ := hO4.rd.shape
      have HPU4 : Hid (Calls Tryd.prog 15 #[.int .u8 2, .slice (some ⟨w4.heap.size, 0, none⟩) 1 1] (w4.alloc (.cells #[.slice a2 n2 c2] 22)) fun e w' => ∃ v', e = .returned v' ∧ OwnN (w4.alloc (.cells #[.slice a2 n2 c2] 22)) w' v' (putL 2 (pnB xs))) := HPU.out _ w4 (HC3.out.2.chg hO4.chg)
      have C4 : Hid (Chg Non w (w4.alloc (.cells #[.slice a2 n2 c2] 22))) := (HC3.out.1.two hO4.chg).alloc _
      clear hO4
      go_wp2_with (go_at_call 15; refine HPU4.out.mono ?_)
      rintro e w5 ⟨v5, rfl, hO5⟩
      have HO5 : Hid (OwnN w w5 v5 (pnL xs)) := by rw [HPL.out]; exact hO5.from C4.out
      obtain ⟨a5, n5, c5, rfl, -, -, -⟩ := hO5.rd.shape
      clear hO5
      go_wp2
      go_ret
      exact ⟨_, rfl, HO5.out⟩
    · rw [if_neg h33] at HN3
      have HPL : Hid (pnL xs = []) := by show _ = _; unfold pnL; rw [if_neg h33]
      clear h33 HN
      go_wp2_with (go_at_call 16; refine HN3.out.mono ?_)
      rintro e w4 ⟨v4, rfl, hO4⟩
      obtain ⟨a4, n4, c4, rfl, -, -, -⟩ := hO4.rd.shape
      have C4 : Hid (Chg Non w w4) := HC3.out.1.two hO4.chg
      clear hO4
      go_wp2
      go_ret
      exact ⟨.slice none 0 0, rfl, by rw [HPL.out]; exact (OwnN.nought w4).from C4.out⟩
  | cons x r =>
    have hne : n1 ≠ 0 := by rw [hn1, hs]; simp
    obtain ⟨b1, o1, c1', e, q1, q2, q3⟩ := HR1.out.bs (by rw [hs]; simp)
    injection e with e1 e2 e3
    subst e1 e3
    rw [hs] at q3
    have hx := q3.at0
    have hz : ((n1 : Int) == 0) = false := by simp; omega
    by_cases h128 : 128 ≤ x
    · have HP : Hid (pnB xs = [0] ++ strip xs) := by show _ = _; unfold pnB; rw [hs]; dsimp only; rw [if_pos h128]; rfl
      have d1 : decide (128 ≤ x) = true := by simpa using h128
      clear hs hn1 e2 q3 q1
      go_wp2_with (at_builtin; refine wpList_app _ rfl (.tmp 17) (.tmp 18) rfl _ _ [0] (strip xs) rfl rfl (OwnN.oneC (w := w) 0).own (HR1.out.chg ((Chg.refl _ _).alloc _)) HBND.out ?_)
      intro v' w9 g1 g2 g3
      have hO := (OwnN.oneC (w := w) 0).more g1 g2 (by rw [World.size_alloc]; exact g3)
      obtain ⟨a2, n2, c2, rfl, -, -, -⟩ := g1.rd.shape
      have HC3 : Hid (Chg Non w w9 ∧ Rd w9 (.slice a2 n2 c2) (pnB xs)) := ⟨hO.chg, by rw [HP.out]; exact g1.rd⟩
      clear g1 g2 g3 hO HR1
      have HN3 : Hid (Calls Tryd.prog 16 #[.slice a2 n2 c2] w9 fun e w' => ∃ v', e = .returned (.tuple #[v', .int .i64 (if (pnB xs).length ≤ 33 then 0 else 144)]) ∧ OwnN w9 w' v' (numR (pnB xs))) := HN.out _ w9 HC3.out.2
      by_cases h33 : (pnB xs).length ≤ 33
      · rw [if_pos h33] at HN3
        have HPL : Hid (pnL xs = putL 2 (pnB xs)) := by show _ = _; unfold pnL putL; rw [if_pos h33, if_pos ⟨by omega, by omega⟩]
        clear h33 HN
        go_wp2_with (go_at_call 16; refine HN3.out.mono ?_)
        rintro e w4 ⟨v4, rfl, hO4⟩
        obtain ⟨a4, n4, c4, rfl, -, -, -⟩ := hO4.rd.shape
        have HPU4 : Hid (Calls Tryd.prog 15 #[.int .u8 2, .slice (some ⟨w4.heap.size, 0, none⟩) 1 1] (w4.alloc (.cells #[.slice a2 n2 c2] 22)) fun e w' => ∃ v', e = .returned v' ∧ OwnN (w4.alloc (.cells #[.slice a2 n2 c2] 22)) w' v' (putL 2 (pnB xs))) := HPU.out _ w4 (HC3.out.2.chg hO4.chg)
        have C4 : Hid (Chg Non w (w4.alloc (.cells #[.slice a2 n2 c2] 22))) := (HC3.out.1.two hO4.chg).alloc _
        clear hO4
        go_wp2_with (go_at_call 15; refine HPU4.out.mono ?_)
        rintro e w5 ⟨v5, rfl, hO5⟩
        have HO5 : Hid (OwnN w w5 v5 (pnL xs)) := by rw [HPL.out]; exact hO5.from C4.out
        obtain ⟨a5, n5, c5, rfl, -, -, -⟩ := hO5.rd.shape
        clear hO5
        go_wp2
        go_ret
        exact ⟨_, rfl, HO5.out⟩
      · rw [if_neg h33] at HN3
        have HPL : Hid (pnL xs = []) := by show _ = _; unfold pnL; rw [if_neg h33]
        clear h33 HN
        go_wp2_with (go_at_call 16; refine HN3.out.mono ?_)
        rintro e w4 ⟨v4, rfl, hO4⟩
        obtain ⟨a4, n4, c4, rfl, -, -, -⟩ := hO4.rd.shape
        have C4 : Hid (Chg Non w w4) := HC3.out.1.two hO4.chg
        clear hO4
        go_wp2
        go_ret
        exact ⟨.slice none 0 0, rfl, by rw [HPL.out]; exact (OwnN.nought w4).from C4.out⟩
    · have HP : Hid (pnB xs = strip xs) := by show _ = _; unfold pnB; rw [hs]; dsimp only; rw [if_neg h128]
      have d1 : decide (128 ≤ x) = false := by simpa using h128
      have HC3 : Hid (Chg Non w w ∧ Rd w (.slice (some ⟨b1, o1, none⟩) n1 c1) (pnB xs)) := ⟨Chg.refl _ _, by rw [HP.out]; exact HR1.out⟩
      clear hs hn1 e2 q3 q1 HR1
      have HN3 : Hid (Calls Tryd.prog 16 #[.slice (some ⟨b1, o1, none⟩) n1 c1] w fun e w' => ∃ v', e = .returned (.tuple #[v', .int .i64 (if (pnB xs).length ≤ 33 then 0 else 144)]) ∧ OwnN w w' v' (numR (pnB xs))) := HN.out _ w HC3.out.2
      by_cases h33 : (pnB xs).length ≤ 33
      · rw [if_pos h33] at HN3
        have HPL : Hid (pnL xs = putL 2 (pnB xs)) := by show _ = _; unfold pnL putL; rw [if_pos h33, if_pos ⟨by omega, by omega⟩]
        clear h33 HN
        go_wp2_with (go_at_call 16; refine HN3.out.mono ?_)
        rintro e w4 ⟨v4, rfl, hO4⟩
        obtain ⟨a4, n4, c4, rfl, -, -, -⟩ := hO4.rd.shape
        have HPU4 : Hid (Calls Tryd.prog 15 #[.int .u8 2, .slice (some ⟨w4.heap.size, 0, none⟩) 1 1] (w4.alloc (.cells #[.slice (some ⟨b1, o1, none⟩) n1 c1] 22)) fun e w' => ∃ v', e = .returned v' ∧ OwnN (w4.alloc (.cells #[.slice (some ⟨b1, o1, none⟩) n1 c1] 22)) w' v' (putL 2 (pnB xs))) := HPU.out _ w4 (HC3.out.2.chg hO4.chg)
        have C4 : Hid (Chg Non w (w4.alloc (.cells #[.slice (some ⟨b1, o1, none⟩) n1 c1] 22))) := (HC3.out.1.two hO4.chg).alloc _
        clear hO4
        go_wp2_with (go_at_call 15; refine HPU4.out.mono ?_)
        rintro e w5 ⟨v5, rfl, hO5⟩
        have HO5 : Hid (OwnN w w5 v5 (pnL xs)) := by rw [HPL.out]; exact hO5.from C4.out
        obtain ⟨a5, n5, c5, rfl, -, -, -⟩ := hO5.rd.shape
        clear hO5
        go_wp2
        go_ret
        exact ⟨_, rfl, HO5.out⟩
      · rw [if_neg h33] at HN3
        have HPL : Hid (pnL xs = []) := by show _ = _; unfold pnL; rw [if_neg h33]
        clear h33 HN
        go_wp2_with (go_at_call 16; refine HN3.out.mono ?_)
        rintro e w4 ⟨v4, rfl, hO4⟩
        obtain ⟨a4, n4, c4, rfl, -, -, -⟩ := hO4.rd.shape
        have C4 : Hid (Chg Non w w4) := HC3.out.1.two hO4.chg
        clear hO4
        go_wp2
        go_ret
        exact ⟨.slice none 0 0, rfl, by rw [HPL.out]; exact (OwnN.nought w4).from C4.out⟩
end Go.Proofs.YtnidfbcninkglaaDoor
