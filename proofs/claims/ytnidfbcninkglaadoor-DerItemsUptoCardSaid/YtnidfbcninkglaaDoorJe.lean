/-
  The document's Next, by what the bytes are.
-/
import Derived.Test.YtnidfbcninkglaaDoorJb
import Derived.Test.YtnidfbcninkglaaDoorJc
import Derived.Test.YtnidfbcninkglaaDoorJd
namespace Go.Proofs.YtnidfbcninkglaaDoor
open Go.RowKit
set_option linter.unusedVariables false
set_option maxRecDepth 100000

theorem nxE_at {xs : List Int} {k : Nat} {t : Int} {r : List Int} (hd : xs.drop k = t :: r) : nxE xs k = (itemL (t :: r)).1 := by
  obtain ⟨h1, h2⟩ := drop_lt hd
  unfold nxE
  rw [if_neg (by omega), Int.toNat_natCast, hd]

theorem rnext_err (v : Value) (xs : List Int) (hb : Byt xs) (a : Int) (w : World) (hv : Rd w v xs) (hl : xs.length ≤ 140737488355328) (he : nxE xs a ≠ 0) :
    Calls Tryd.prog 11 #[v, .int .i64 a] w fun e w' => e = .returned (.tuple #[itemV 0 (.slice none 0 0) 0 0, .int .i64 (nxE xs a)]) ∧ Chg Non w w' := by
  by_cases ha : a < 0 ∨ (xs.length : Int) ≤ a
  · have E : nxE xs a = 141 := by unfold nxE; rw [if_pos ha]
    rw [E]
    exact rn_far v xs a w hv ha
  · obtain ⟨k, rfl⟩ := Int.eq_ofNat_of_zero_le (show 0 ≤ a by omega)
    have hk : k < xs.length := by omega
    obtain ⟨t, r, hd⟩ : ∃ t r, xs.drop k = t :: r := by
      rw [List.drop_eq_getElem_cons hk]
      exact ⟨_, _, rfl⟩
    obtain ⟨b, o, c, N, rfl, A⟩ := at_of hv hb hl hd
    rw [nxE_at hd] at he ⊢
    rw [itemL_cons] at he ⊢
    by_cases h1 : t % 32 = 31
    · rw [if_pos h1]
      exact rn_tag A h1
    · rw [if_neg h1] at he ⊢
      match r, A with
      | [], A => exact rn_end A h1
      | x :: r1, A =>
        have hx := A.byt.tail.head
        by_cases h2 : x < 128
        · have E : lenL (x :: r1) = (0, 1, x.toNat) := by simp [lenL, h2]
          rw [E] at he ⊢
          simp only [if_true, List.length_cons] at he ⊢
          by_cases h3 : r1.length + 1 - 1 < x.toNat
          · rw [if_pos h3]
            exact rn_o0 A h1 h2 (by omega)
          · rw [if_neg h3] at he
            exact absurd rfl he
        · by_cases h3 : x = 129
          · subst h3
            match r1, A with
            | [], A => exact rn_s1 A h1
            | y :: r2, A =>
              have hy := A.byt.tail.tail.head
              by_cases h4 : y < 128
              · have E : lenL (129 :: y :: r2) = (143, 0, 0) := by simp [lenL, h4]
                rw [E]
                exact rn_l1 A h1 h4
              · have E : lenL (129 :: y :: r2) = (0, 2, y.toNat) := by simp [lenL, h4]
                rw [E] at he ⊢
                simp only [if_true, List.length_cons] at he ⊢
                by_cases h5 : r2.length + 1 + 1 - 2 < y.toNat
                · rw [if_pos h5]
                  exact rn_o1 A h1 (by omega) (by omega)
                · rw [if_neg h5] at he
                  exact absurd rfl he
          · by_cases h4 : x = 130
            · subst h4
              match r1, A with
              | [], A => exact rn_s2 A h1 (by simp)
              | [y], A => exact rn_s2 A h1 (by simp)
              | y :: z :: r3, A =>
                have hy := A.byt.tail.tail.head
                have hz := A.byt.tail.tail.tail.head
                by_cases h5 : y = 0
                · subst h5
                  exact rn_l2 A h1
                · have E : lenL (130 :: y :: z :: r3) = (0, 3, (256 * y + z).toNat) := by simp [lenL, h5]
                  rw [E] at he ⊢
                  simp only [if_true, List.length_cons] at he ⊢
                  by_cases h6 : r3.length + 1 + 1 + 1 - 3 < (256 * y + z).toNat
                  · rw [if_pos h6]
                    exact rn_o2 A h1 h5 (by omega)
                  · rw [if_neg h6] at he
                    exact absurd rfl he
            · have E : lenL (x :: r1) = (143, 0, 0) := by simp [lenL, h2, h3, h4]
              rw [E]
              exact rn_form A h1 (by omega) h3 h4

theorem rnext_ok (v : Value) (xs : List Int) (hb : Byt xs) (k : Nat) (x : PI) (w : World) (hv : Rd w v xs) (hx : nxI xs k = some x) (hl : xs.length ≤ 140737488355328) :
    Calls Tryd.prog 11 #[v, .int .i64 k] w fun e w' => ∃ v', e = .returned (.tuple #[itemV x.t v' x.k x.l, .int .i64 0]) ∧ ReadP w w' v' x.ys := by
  obtain ⟨t, r, hd, he, rfl⟩ := nxI_some hx
  dsimp only
  obtain ⟨b, o, c, N, rfl, A⟩ := at_of hv hb hl hd
  obtain ⟨h1, h2, h3, h4, -⟩ := itemL_ok A.byt.tail he
  match r, A, h3, h4 with
  | [], A, h3, h4 => simp [lenL] at h3
  | x :: r1, A, h3, h4 =>
    have hx := A.byt.tail.head
    by_cases h5 : x < 128
    · have E : lenL (x :: r1) = (0, 1, x.toNat) := by simp [lenL, h5]
      rw [E] at h4 ⊢
      simp only [List.length_cons, List.drop_one, List.tail_cons] at h4 ⊢
      exact ro_0 A h1 h5 (by omega)
    · by_cases h6 : x = 129
      · subst h6
        match r1, A, h3, h4 with
        | [], A, h3, h4 => simp [lenL] at h3
        | y :: r2, A, h3, h4 =>
          have hy := A.byt.tail.tail.head
          by_cases h7 : y < 128
          · simp [lenL, h7] at h3
          · have E : lenL (129 :: y :: r2) = (0, 2, y.toNat) := by simp [lenL, h7]
            rw [E] at h4 ⊢
            simp only [List.length_cons, List.drop_succ_cons, List.drop_zero] at h4 ⊢
            exact ro_1 A h1 (by omega) (by omega)
      · by_cases h7 : x = 130
        · subst h7
          match r1, A, h3, h4 with
          | [], A, h3, h4 => simp [lenL] at h3
          | [y], A, h3, h4 => simp [lenL] at h3
          | y :: z :: r3, A, h3, h4 =>
            have hy := A.byt.tail.tail.head
            have hz := A.byt.tail.tail.tail.head
            by_cases h8 : y = 0
            · simp [lenL, h8] at h3
            · have E : lenL (130 :: y :: z :: r3) = (0, 3, (256 * y + z).toNat) := by simp [lenL, h8]
              rw [E] at h4 ⊢
              simp only [List.length_cons, List.drop_succ_cons, List.drop_zero] at h4 ⊢
              exact ro_2 A h1 h8 (by omega)
        · simp [lenL, h5, h6, h7] at h3
end Go.Proofs.YtnidfbcninkglaaDoor
