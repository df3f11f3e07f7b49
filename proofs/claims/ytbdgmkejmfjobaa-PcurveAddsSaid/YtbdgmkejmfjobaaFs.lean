/-
  A point and its counterpart; a number put into a point.
-/
import Derived.Test.YtbdgmkejmfjobaaGp
namespace Go.Proofs.Ytbdgmkejmfjobaa
open Go.RowKit
set_option linter.unusedVariables false
set_option maxRecDepth 100000
theorem pt_thereY {w : World} {b : Nat} {z : Bool} {x y : Int} (h : Ar w b (pt z x y)) : w.there b 5 4 := fun i hi => by
 rw [h.cell]
 refine ⟨?_, h.frozen _⟩
 rw [show 5 + i = (4 + i) + 1 by omega, pt_get _ _ _ (by omega)]
 rfl
theorem Ar.putY {w : World} {b : Nat} {z : Bool} {x y : Int} (h : Ar w b (pt z x y)) (v : Int) : Ar (w.setCells b 5 (num v).toList) b (pt z x v) := by
 have k := Ar.cellsIn (num v).toList 5 h
 have e : putR (pt z x y) 5 (num v).toList = pt z x v := by
  have hl : (num v).toList.length = 4 := by rw [Array.length_toList, num_size]
  refine Array.ext_getElem? fun i => ?_
  rw [putR_get _ _ _ _ (by rw [hl, pt_size]; decide), hl]
  by_cases hi : 5 ≤ i ∧ i < 5 + 4
  ·rw [if_pos hi, show (num v).toList[i - 5]? = (num v)[i - 5]? from Array.getElem?_toList, num, arr_get _ _ _ (by omega), show i = (i - 1) + 1 by omega, pt_get _ _ _ (by omega), if_neg (by omega), show (i - 1 + 1) - 5 = (i - 1) % 4 by omega]
  ·rw [if_neg hi]
   match i with
   | 0 => rfl
   | i + 1 =>
    by_cases h4 : i < 4
    ·rw [pt_get _ _ _ (by omega), pt_get _ _ _ (by omega), if_pos h4, if_pos h4]
    ·rw [Array.getElem?_eq_none (by rw [pt_size]; omega), Array.getElem?_eq_none (by rw [pt_size]; omega)]
 rw [e] at k
 exact k
def NG (A : PQt) : PQt := wneg A
theorem NG_on {A : PQt} (h : ONW A) : ONW (NG A) := onW_neg h
theorem NG_add (A : PQt) : AW A (NG A) = none := wad_neg smoQ A
theorem NG_z {A : PQt} (h : zP A = true) : pt (zP A) (xP A) (yP A) = pt (zP (NG A)) (xP (NG A)) (yP (NG A)) := by
 cases A with
 | none => rfl
 | some a => cases h
theorem g_neg {p : Nat} [NeZero p] (a : Fin p) : 0 - a = -a := by grobner
theorem NG_y {A : PQt} (h : zP A = false) : pt (zP A) (xP A) (md 2 (0 - yP A)) = pt (zP (NG A)) (xP (NG A)) (yP (NG A)) := by
 cases A with
 | none => cases h
 | some a =>
  obtain ⟨a, b⟩ := a
  have e : md 2 (0 - yP (some (a, b))) = yP (NG (some (a, b))) := by
   show md 2 (0 - (b.val : Int)) = ((-b : Fin pq).val : Int)
   refine md_fq ?_
   rw [fq_sub, fq_nat, fq_z]
   exact g_neg b
  rw [e]
  rfl
end Go.Proofs.Ytbdgmkejmfjobaa
