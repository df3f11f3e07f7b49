/-
  SchedOwn, its first half: what is cut, expanded, derived.
-/
import Derived.Test.YtijpdhjlafihkaaDoorMy
namespace Go.Proofs.YtijpdhjlafihkaaDoor
open Go.RowKit
set_option linter.unusedVariables false
set_option maxRecDepth 100000

theorem gd_zer (n j : Nat) : gd (zer n) j = 0 := by
  unfold zer gd
  rw [List.getD_eq_getElem?_getD, List.getElem?_map]
  cases h : (List.range n)[j]? <;> simp
/-- No salt is as noughts. -/
theorem mac_salt (q : Int) (x : List Int) : macL q [] x = macL q (zer (sizeOfH q)) x := by
  have hk : ∀ y, blkK q [] y = blkK q (zer (sizeOfH q)) y := by
    intro y
    unfold blkK
    refine List.map_congr_left fun j _ => ?_
    unfold blkF
    have h1 : keyOf q ([] : List Int) = [] := by
      unfold keyOf
      split
      · rename_i h
        simp at h
      · rfl
    have h2 : keyOf q (zer (sizeOfH q)) = zer (sizeOfH q) := by
      unfold keyOf
      rw [if_neg]
      rw [zer_len]
      unfold sizeOfH blockOf
      split
      · decide
      · split
        · decide
        · split
          · decide
          · decide
    rw [h1, h2, gd_zer]
    rfl
  unfold macL
  rw [hk, hk]
theorem drL_none {q : Int} (hv : ¬ Valid q) (key : List Int) (S : ByteArray) (ctx : List Int) : drL q key S ctx = [] := by
  unfold drL exL
  rw [if_pos]
  unfold exBad
  have : sizeOfH q = 0 := by
    rw [valid_size] at hv
    omega
  simp [this]
theorem earlyL_none {q : Int} (hv : ¬ Valid q) (psk : List Int) : earlyL q psk = [] := by
  unfold earlyL macL
  exact sumL_none hv _
theorem exE_ok {q : Int} (hv : Valid q) (S : ByteArray) (hS : S.size ≤ 249) : exE q S [] (sizeOfH q) = 0 := by
  have h1 := valid_size.1 hv
  unfold exE
  rw [if_neg]
  unfold exBad
  simp
  omega
theorem exE_none {q : Int} (hv : ¬ Valid q) (S : ByteArray) (ctx : List Int) (n : Int) : exE q S ctx n = 191 := by
  have : sizeOfH q = 0 := by
    rw [valid_size] at hv
    omega
  unfold exE
  rw [if_pos]
  unfold exBad
  simp [this]
end Go.Proofs.YtijpdhjlafihkaaDoor
