/-
  PutNum: the document's.
-/
import Derived.Test.YtnidfbcninkglaaDoorWb
namespace Go.Proofs.YtnidfbcninkglaaDoor
open Go.RowKit
set_option linter.unusedVariables false
set_option maxRecDepth 100000

set_option maxHeartbeats 8000000 in
theorem rputNum_any (v : Value) (xs : List Int) (hb : Byt xs) (hl : xs.length ≤ 140737488355327) (w : World) (hv : Rd w v xs) :
    Calls Tryd.prog 32 #[v] w fun e w' => ∃ v', e = .returned v' ∧ OwnN w w' v' (pnL xs) := by
  obtain ⟨ao, n, c, rfl, hn, hnc, hm⟩ := hv.shape
  have HV : Hid (Rd w (.slice ao n c) xs) := hv
  have HSL : Hid ((strip xs).length ≤ 140737488355327) := Nat.le_trans (strip_len xs) hl
  have HBN0 : Hid (([] : List Int).length + (strip xs).length ≤ 140737488355328) := by have := HSL.out; show _ ≤ _; simp; omega
  have HBN1 : Hid (([0] : List Int).length + (strip xs).length ≤ 140737488355328) := by have := HSL.out; show _ ≤ _; simp; omega
  have HBN1b : Hid (([0] ++ strip xs : List Int).length ≤ 140737488355328) := by have := HSL.out; show _ ≤ _; simp; omega
  clear hv hb hl
  go_enter Tryd.func32, Tryd.ntmps32
  go_wp2
  go_loop [0] (fun v0 => ∃ rs ao n c, v0 = .slice ao n c ∧ n ≤ 9223372036854775807 ∧ Hid (Rd w (.slice ao n c) rs ∧ strip rs = strip xs ∧ n = rs.length)) (fun v0 => lenV v0)
  case atStart => exact ⟨xs, ao, n, c, rfl, by unfold maxLen at hm; omega, HV.out, rfl, hn⟩
  case round =>
    obtain ⟨rs, ao, n, c, rfl, hn9, hI⟩ := hrel
    match rs, hI with
    | [], hI =>
      have h0 : n = 0 := hI.out.2.2
      subst h0
      have HR : Hid (strip xs = []) := hI.out.2.1.symm
      have HALL : Hid (Rd w (.slice ao 0 c) (strip xs)) := by rw [HR.out]; exact hI.out.1
      have HP : Hid (pnB xs = [0] ++ strip xs) := by show _ = _; unfold pnB; rw [HR.out]; rfl
      clear hI
      go_wp2_with (at_builtin; refine wpList_app _ rfl (.tmp 15) (.tmp 16) rfl _ _ [] (strip xs) rfl rfl (OwnV.empty w) (HALL.out.chg ((Chg.refl _ _).alloc _)) HBN0.out ?_)
      intro vx w8 g1 g2 g3
      have hO := (OwnN.start w w (Chg.refl _ _)).more g1 g2 (by rw [World.size_alloc]; exact g3)
      obtain ⟨ax, nx, cx, rfl, hnx, -, -⟩ := hO.rd.shape
      have HO8 : Hid (OwnN w w8 (.slice ax nx cx) (strip xs)) := hO
      have HNX : Hid (nx = (strip xs).length) := hnx
      clear g1 g2 g3 hO hnx
      go_wp2_with (at_builtin; refine wpList_app _ rfl (.tmp 27) (.tmp 28) rfl _ _ [0] (strip xs) rfl rfl (OwnN.oneC (w := w8) 0).own (HALL.out.chg (HO8.out.chg.alloc _)) HBN1.out ?_)
      intro vy w9 g1 g2 g3
      have hO := ((OwnN.oneC (w := w8) 0).more g1 g2 (by rw [World.size_alloc]; exact g3)).from HO8.out.chg
      obtain ⟨ay, ny, cy, rfl, hny, -, -⟩ := hO.rd.shape
      have HO9 : Hid (OwnN w w9 (.slice ay ny cy) (pnB xs)) := by rw [HP.out]; exact hO
      have HNY : Hid (ny = (pnB xs).length) := by show _ = _; rw [HP.out]; exact hny
      have hny2 : ny ≤ 140737488355328 := by rw [hny]; exact HBN1b.out
      clear g1 g2 g3 hO hny HO8 HNX HALL
      by_cases h33 : (pnB xs).length ≤ 33
      · have HPU : Hid (Calls Tryd.prog 30 #[.int .u8 2, .slice ay ny cy] w9 fun e w' => ∃ v', e = .returned v' ∧ OwnN w9 w' v' (putL 2 (pnB xs))) := rput_any 2 (by omega) (by omega) _ _ _ HO9.out.rd
        have HPL : Hid (pnL xs = putL 2 (pnB xs)) := by show _ = _; unfold pnL putL; rw [if_pos h33, if_pos ⟨by omega, by omega⟩]
        have h33' : ny ≤ 33 := by rw [HNY.out]; exact h33
        clear h33
        go_wp2_with (go_at_call 30; refine HPU.out.mono ?_)
        rintro e w5 ⟨v5, rfl, hO5⟩
        have HO5 : Hid (OwnN w w5 v5 (pnL xs)) := by rw [HPL.out]; exact hO5.from HO9.out.chg
        obtain ⟨a5, n5, c5, rfl, -, -, -⟩ := hO5.rd.shape
        clear hO5
        go_wp2
        go_ret
        exact ⟨_, rfl, HO5.out⟩
      · have HPL : Hid (pnL xs = []) := by show _ = _; unfold pnL; rw [if_neg h33]
        have h33' : 33 < ny := by rw [HNY.out]; omega
        clear h33
        go_wp2
        go_ret
        exact ⟨.slice none 0 0, rfl, by rw [HPL.out]; exact (OwnN.nought w9).from HO9.out.chg⟩
    | x :: r, hI =>
      obtain ⟨b, o, c', e, h1, h2, h3⟩ := hI.out.1.bs (by simp)
      injection e with e1 e2 e3
      subst e1 e3
      obtain ⟨m, hm⟩ : ∃ m, m = r.length := ⟨_, rfl⟩
      have hnm : n = m + 1 := by rw [e2, hm]; simp
      subst hnm
      have hx := h3.at0
      have HT : Hid (strip (x :: r) = strip xs) := hI.out.2.1
      have HRT : Hid (Rd w (.slice (if c = 1 then some ⟨b, o, none⟩ else some ⟨b, o + 1, none⟩) m (c - 1)) r ∧ m = r.length) := ⟨by rw [hm]; exact Rd.from1 (by have := hI.out.1; rw [hm] at this; exact this), hm⟩
      have HAL0 : Hid (Rd w (.slice (some ⟨b, o, none⟩) (m + 1) c) (x :: r)) := hI.out.1
      simp at h1
      have hmc : m + 1 ≤ c := by omega
      clear hI h3 hm h1 e2
      by_cases hx0 : x = 0
      · subst hx0
        have HT2 : Hid (strip r = strip xs) := by show _ = _; rw [← HT.out, strip, if_pos rfl]
        by_cases hc : c = 1
        · subst hc
          rw [if_pos rfl] at HRT
          have hm0 : m = 0 := by omega
          subst hm0
          go_wp2
          exact ⟨⟨r, _, _, _, rfl, by omega, HRT.out.1, HT2.out, HRT.out.2⟩, by simp [lenV]⟩
        · rw [if_neg hc] at HRT
          go_wp2
          exact ⟨⟨r, _, _, _, rfl, by omega, HRT.out.1, HT2.out, HRT.out.2⟩, by simp [lenV]⟩
      · have d0 : (x == 0) = false := by simpa using hx0
        have HS : Hid (strip xs = x :: r) := by show _ = _; rw [← HT.out, strip, if_neg hx0]
        have HALL : Hid (Rd w (.slice (some ⟨b, o, none⟩) (m + 1) c) (strip xs)) := by rw [HS.out]; exact HAL0.out
        have HCE : Hid (∀ q, Chg Non w q → q.cell? ⟨b, o, none⟩ = some (.int .u8 x)) := fun q hq => by rw [← hx]; exact World.cell?_of_block (hq.block b (World.block_lt_of_cell? w _ hx) (fun x => x))
        clear HT HRT hx0 HAL0
        by_cases h128 : 128 ≤ x
        · have HP : Hid (pnB xs = [0] ++ strip xs) := by show _ = _; unfold pnB; rw [HS.out]; dsimp only; rw [if_pos h128]; rfl
          have d1 : decide (128 ≤ x) = true := by simpa using h128
          go_wp2_with (at_builtin; refine wpList_app _ rfl (.tmp 15) (.tmp 16) rfl _ _ [] (strip xs) rfl rfl (OwnV.empty w) (HALL.out.chg ((Chg.refl _ _).alloc _)) HBN0.out ?_)
          intro vx w8 g1 g2 g3
          have hO := (OwnN.start w w (Chg.refl _ _)).more g1 g2 (by rw [World.size_alloc]; exact g3)
          obtain ⟨ax, nx, cx, rfl, hnx, -, -⟩ := hO.rd.shape
          have HO8 : Hid (OwnN w w8 (.slice ax nx cx) (strip xs)) := hO
          have HNX : Hid (nx = (strip xs).length) := hnx
          clear g1 g2 g3 hO hnx
          have hx8 := HCE.out _ HO8.out.chg
          go_wp2_with (at_builtin; refine wpList_app _ rfl (.tmp 27) (.tmp 28) rfl _ _ [0] (strip xs) rfl rfl (OwnN.oneC (w := w8) 0).own (HALL.out.chg (HO8.out.chg.alloc _)) HBN1.out ?_)
          intro vy w9 g1 g2 g3
          have hO := ((OwnN.oneC (w := w8) 0).more g1 g2 (by rw [World.size_alloc]; exact g3)).from HO8.out.chg
          obtain ⟨ay, ny, cy, rfl, hny, -, -⟩ := hO.rd.shape
          have HO9 : Hid (OwnN w w9 (.slice ay ny cy) (pnB xs)) := by rw [HP.out]; exact hO
          have HNY : Hid (ny = (pnB xs).length) := by show _ = _; rw [HP.out]; exact hny
          have hny2 : ny ≤ 140737488355328 := by rw [hny]; exact HBN1b.out
          clear g1 g2 g3 hO hny HO8 HNX HALL
          by_cases h33 : (pnB xs).length ≤ 33
          · have HPU : Hid (Calls Tryd.prog 30 #[.int .u8 2, .slice ay ny cy] w9 fun e w' => ∃ v', e = .returned v' ∧ OwnN w9 w' v' (putL 2 (pnB xs))) := rput_any 2 (by omega) (by omega) _ _ _ HO9.out.rd
            have HPL : Hid (pnL xs = putL 2 (pnB xs)) := by show _ = _; unfold pnL putL; rw [if_pos h33, if_pos ⟨by omega, by omega⟩]
            have h33' : ny ≤ 33 := by rw [HNY.out]; exact h33
            clear h33
            go_wp2_with (go_at_call 30; refine HPU.out.mono ?_)
            rintro e w5 ⟨v5, rfl, hO5⟩
            have HO5 : Hid (OwnN w w5 v5 (pnL xs)) := by rw [HPL.out]; exact hO5.from HO9.out.chg
            obtain ⟨a5, n5, c5, rfl, -, -, -⟩ := hO5.rd.shape
            clear hO5
            go_wp2
            go_ret
            exact ⟨_, rfl, HO5.out⟩
          · have HPL : Hid (pnL xs = []) := by show _ = _; unfold pnL; rw [if_neg h33]
            have h33' : 33 < ny := by rw [HNY.out]; omega
            clear h33
            go_wp2
            go_ret
            exact ⟨.slice none 0 0, rfl, by rw [HPL.out]; exact (OwnN.nought w9).from HO9.out.chg⟩
        · have HP : Hid (pnB xs = strip xs) := by show _ = _; unfold pnB; rw [HS.out]; dsimp only; rw [if_neg h128]
          have d1 : decide (128 ≤ x) = false := by simpa using h128
          go_wp2_with (at_builtin; refine wpList_app _ rfl (.tmp 15) (.tmp 16) rfl _ _ [] (strip xs) rfl rfl (OwnV.empty w) (HALL.out.chg ((Chg.refl _ _).alloc _)) HBN0.out ?_)
          intro vx w8 g1 g2 g3
          have hO := (OwnN.start w w (Chg.refl _ _)).more g1 g2 (by rw [World.size_alloc]; exact g3)
          obtain ⟨ax, nx, cx, rfl, hnx, -, -⟩ := hO.rd.shape
          have HO8 : Hid (OwnN w w8 (.slice ax nx cx) (strip xs)) := hO
          have HNX : Hid (nx = (strip xs).length) := hnx
          clear g1 g2 g3 hO hnx
          have hx8 := HCE.out _ HO8.out.chg
          have HO9 : Hid (OwnN w w8 (.slice ax nx cx) (pnB xs)) := by rw [HP.out]; exact HO8.out
          have HNY : Hid (nx = (pnB xs).length) := by show _ = _; rw [HP.out]; exact HNX.out
          have hny2 : nx ≤ 140737488355328 := by have h1 := HNX.out; have h2 := HSL.out; omega
          clear HO8 HNX HALL
          by_cases h33 : (pnB xs).length ≤ 33
          · have HPU : Hid (Calls Tryd.prog 30 #[.int .u8 2, .slice ax nx cx] w8 fun e w' => ∃ v', e = .returned v' ∧ OwnN w8 w' v' (putL 2 (pnB xs))) := rput_any 2 (by omega) (by omega) _ _ _ HO9.out.rd
            have HPL : Hid (pnL xs = putL 2 (pnB xs)) := by show _ = _; unfold pnL putL; rw [if_pos h33, if_pos ⟨by omega, by omega⟩]
            have h33' : nx ≤ 33 := by rw [HNY.out]; exact h33
            clear h33
            go_wp2_with (go_at_call 30; refine HPU.out.mono ?_)
            rintro e w5 ⟨v5, rfl, hO5⟩
            have HO5 : Hid (OwnN w w5 v5 (pnL xs)) := by rw [HPL.out]; exact hO5.from HO9.out.chg
            obtain ⟨a5, n5, c5, rfl, -, -, -⟩ := hO5.rd.shape
            clear hO5
            go_wp2
            go_ret
            exact ⟨_, rfl, HO5.out⟩
          · have HPL : Hid (pnL xs = []) := by show _ = _; unfold pnL; rw [if_neg h33]
            have h33' : 33 < nx := by rw [HNY.out]; omega
            clear h33
            go_wp2
            go_ret
            exact ⟨.slice none 0 0, rfl, by rw [HPL.out]; exact (OwnN.nought w8).from HO9.out.chg⟩
end Go.Proofs.YtnidfbcninkglaaDoor
