/-
  What is locked up is the document's, and is opened as the text: ChachaSeals walked.
  The code of any text is the document's: ChachaCodes walked.
  What is opened of a locked text with a turned byte: ChachaOpens walked.
-/
import Derived.Test.YtobglgddbhddnaaGreatJ33
import Derived.Test.YtobglgddbhddnaaGreatJ31
namespace Go.Proofs.YtobglgddbhddnaaGreat.Cha
open Go.RowKit
set_option linter.unusedVariables false

def sealF (key nonce : Nat → By) (xs : List Int) (n : Nat) (txt : Nat → By) : Nat → By := fun i => if i < n then stF key 1#32 nonce txt i else tagF key nonce xs (nums n (stF key 1#32 nonce txt)) (i - n)
theorem sealF_lo {n j : Nat} {key nonce txt : Nat → By} {xs : List Int} (h : j < n) : sealF key nonce xs n txt j = stF key 1#32 nonce txt j := by rw [sealF, if_pos h]
theorem sealF_hi {n j : Nat} {key nonce txt : Nat → By} {xs : List Int} : sealF key nonce xs n txt (n + j) = tagF key nonce xs (nums n (stF key 1#32 nonce txt)) j := by rw [sealF, if_neg (by omega), show n + j - n = j by omega]
theorem sealL_nums (key nonce : Nat → By) (xs : List Int) (n : Nat) (txt : Nat → By) : sealL key nonce xs n txt = nums (n + 16) (sealF key nonce xs n txt) := by
  rw [nums_split (n + 16) n _ (by omega), show n + 16 - n = 16 by omega, sealL]
  rw [nums_congr (f := sealF key nonce xs n txt) (g := stF key 1#32 nonce txt) fun i hi => sealF_lo hi]
  rw [nums_congr (n := 16) (f := fun i => sealF key nonce xs n txt (n + i)) (g := tagF key nonce xs (nums n (stF key 1#32 nonce txt))) fun i hi => sealF_hi]
theorem stF_congr (n : Nat) (key nonce : Nat → By) (c : Wd) {f g : Nat → By} (h : ∀ i, i < n → f i = g i) : nums n (stF key c nonce f) = nums n (stF key c nonce g) := nums_congr fun i hi => by
  unfold stF
  rw [h i hi]
/-- What was sealed is opened. -/
theorem seal_opens (key nonce : Nat → By) (xs : List Int) (n : Nat) (txt : Nat → By) :
    sameB 16 (tagF key nonce xs (nums n (sealF key nonce xs n txt))) (fun j => sealF key nonce xs n txt (n + j)) = true ∧ nums n (stF key 1#32 nonce (sealF key nonce xs n txt)) = nums n txt := by
  constructor
  · rw [sameB_iff]
    intro j hj
    show _ = sealF key nonce xs n txt (n + j)
    rw [sealF_hi, nums_congr fun i hi => sealF_lo hi]
  · rw [stF_congr n key nonce 1#32 (fun i hi => sealF_lo hi)]
    exact stF_back n key nonce txt 1#32
/-- What is opened was sealed. -/
theorem opens_seal (key nonce : Nat → By) (xs : List Int) (m : Nat) (sf : Nat → By) (h : sameB 16 (tagF key nonce xs (nums m sf)) (fun j => sf (m + j)) = true) :
    sealL key nonce xs m (stF key 1#32 nonce sf) = nums (m + 16) sf := by
  rw [nums_split (m + 16) m sf (by omega), show m + 16 - m = 16 by omega, sealL, stF_back]
  rw [nums_congr (n := 16) ((sameB_iff 16 _ _).1 h)]

end Go.Proofs.YtobglgddbhddnaaGreat.Cha

namespace Go.Proofs.YtobglgddbhddnaaGreat.Cha
open Go.RowKit
set_option linter.unusedVariables false

/-- A row of bytes that may be written. -/
theorem own_set {w : World} {g o n c : Nat} {f : Nat → By} (h : Ap.Own w g o n c (nums n f)) {i : Nat} (hi : i < n) (x : By) : Ap.Own (w.setCell ⟨g, o + i, none⟩ (.int .u8 (x.toNat : Int))) g o n c (nums n (updB f i x)) := by
  obtain ⟨h1, h2, h3, cur, hb, hs, ht⟩ := h
  refine ⟨nums_len _ _, h2, h3, cur.setIfInBounds (o + i) (.int .u8 (x.toNat : Int)), ?_, by simpa using hs, ?_⟩
  · rw [setCell_eq_setRow w g (o + i) cur 5 (0, 0) _ hb, setRow_heap _ _ _ _ _ _ hb]
  · apply List.ext_getElem?
    intro j
    have htj := congrArg (·[j]?) ht
    simp only [List.getElem?_take, List.getElem?_drop, List.getElem?_map, Array.getElem?_toList] at htj ⊢
    rw [Array.getElem?_setIfInBounds]
    by_cases hj : j < n
    · rw [if_pos hj] at htj ⊢
      rw [nums_get n f hj] at htj
      rw [nums_get n _ hj]
      by_cases e : i = j
      · subst e
        have hlt : o + i < cur.size := by omega
        simp [hlt, updB]
      · have e1 : ¬ o + i = o + j := by omega
        have e2 : ¬ j = i := fun h => e h.symm
        rw [if_neg e1, htj, updB, if_neg e2]
    · rw [if_neg hj, List.getElem?_eq_none (by rw [nums_len]; omega)]
      rfl

end Go.Proofs.YtobglgddbhddnaaGreat.Cha

namespace Go.Proofs.YtobglgddbhddnaaGreat.Cha
open Go.RowKit
set_option linter.unusedVariables false

/-- What stands behind the turned byte. -/
def turned (sf : Nat → By) (n at' : Nat) (x : By) : Nat → By := if n = 0 then sf else updB sf (at' % n) (sf (at' % n) ^^^ x)

end Go.Proofs.YtobglgddbhddnaaGreat.Cha
