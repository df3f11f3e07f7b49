/-
  Next, by what the bytes are.
-/
import Derived.Test.YtnidfbcninkglaaDoorNx
namespace Go.Proofs.YtnidfbcninkglaaDoor
open Go.RowKit
set_option linter.unusedVariables false
set_option maxRecDepth 100000

def nxE (xs : List Int) (a : Int) : Int := if a < 0 ∨ (xs.length : Int) ≤ a then 141 else (itemL (xs.drop a.toNat)).1

theorem read_bad (v : Value) (xs : List Int) (hb : Byt xs) (a : Int) (w : World) (hv : Rd w v xs) (hl : xs.length ≤ 140737488355328) (he : nxE xs a ≠ 0) :
    Calls Tryd.prog 35 #[v, .int .i64 a] w fun e w' => e = .returned (.tuple #[itemV 0 (.slice none 0 0) 0 0, faultV (nxE xs a) a]) ∧ Chg Non w w' := by
  by_cases ha : a < 0 ∨ (xs.length : Int) ≤ a
  · have E : nxE xs a = 141 := by unfold nxE; rw [if_pos ha]
    rw [E]
    exact read_far v xs a w hv ha
  · have E : nxE xs a = (itemL (xs.drop a.toNat)).1 := by unfold nxE; rw [if_neg ha]
    rw [E] at he ⊢
    obtain ⟨k, rfl⟩ := Int.eq_ofNat_of_zero_le (show 0 ≤ a by omega)
    rw [Int.toNat_natCast] at he ⊢
    have hk : k < xs.length := by omega
    obtain ⟨t, r, hd⟩ : ∃ t r, xs.drop k = t :: r := by
      rw [List.drop_eq_getElem_cons hk]
      exact ⟨_, _, rfl⟩
    rw [hd, itemL_cons] at he ⊢
    by_cases h1 : t % 32 = 31
    · rw [if_pos h1] at he ⊢
      exact read_tag v xs hb k t r w hv hk hd hl h1
    · rw [if_neg h1] at he ⊢
      by_cases h2 : (lenL r).1 = 0
      · rw [if_pos h2] at he ⊢
        by_cases h3 : r.length - (lenL r).2.1 < (lenL r).2.2
        · rw [if_pos h3] at he ⊢
          exact read_short v xs hb k t r w hv hk hd hl h1 h2 h3
        · rw [if_neg h3] at he
          exact absurd h2 he
      · rw [if_neg h2] at he ⊢
        exact read_len v xs hb k t r w hv hk hd hl h1 h2

theorem read_good (v : Value) (xs : List Int) (hb : Byt xs) (k : Nat) (t : Int) (r : List Int) (w : World) (hv : Rd w v xs) (hk : k < xs.length) (hd : xs.drop k = t :: r) (hl : xs.length ≤ 140737488355328) (he : (itemL (t :: r)).1 = 0) :
    Calls Tryd.prog 35 #[v, .int .i64 k] w fun e w' => ∃ v', e = .returned (.tuple #[itemV t v' k (1 + (lenL r).2.1 + (lenL r).2.2 : Nat), .nilIface]) ∧ ReadP w w' v' ((r.drop (lenL r).2.1).take (lenL r).2.2) := by
  obtain ⟨h1, h2, h3, h4, -⟩ := itemL_ok (by have := hb.drop k; rw [hd] at this; exact this.tail) he
  exact read_ok v xs hb k t r w hv hk hd hl h1 h3 (by omega)

theorem next_err (v : Value) (xs : List Int) (hb : Byt xs) (a : Int) (w : World) (hg : ErrT w) (hv : Rd w v xs) (hl : xs.length ≤ 140737488355328) (he : nxE xs a ≠ 0) :
    Calls Tryd.prog 10 #[v, .int .i64 a] w fun e w' => e = .returned (.tuple #[itemV 0 (.slice none 0 0) 0 0, .int .i64 (nxE xs a)]) ∧ Chg Non w w' :=
  next_bad v a (nxE xs a) w hg (fun u hu => read_bad v xs hb a u (hv.chg hu) hl he)

theorem next_ok (v : Value) (xs : List Int) (hb : Byt xs) (k : Nat) (t : Int) (r : List Int) (w : World) (hv : Rd w v xs) (hk : k < xs.length) (hd : xs.drop k = t :: r) (hl : xs.length ≤ 140737488355328) (he : (itemL (t :: r)).1 = 0) :
    Calls Tryd.prog 10 #[v, .int .i64 k] w fun e w' => ∃ v', e = .returned (.tuple #[itemV t v' k (1 + (lenL r).2.1 + (lenL r).2.2 : Nat), .int .i64 0]) ∧ ReadP w w' v' ((r.drop (lenL r).2.1).take (lenL r).2.2) :=
  next_good v k t _ _ w (fun u hu => read_good v xs hb k t r u (hv.chg hu) hk hd hl he)
end Go.Proofs.YtnidfbcninkglaaDoor
