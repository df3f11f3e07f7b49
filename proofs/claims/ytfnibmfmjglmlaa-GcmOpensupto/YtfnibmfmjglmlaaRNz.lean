/-
  The document's key as it is built.
-/
import Derived.Test.YtfnibmfmjglmlaaRK
namespace Go.Proofs.Ytfnibmfmjglmlaa
open Go.RowKit
set_option linter.unusedVariables false

/-- The cells of a key that is not there yet. -/
def rkeyZ : Array Value := ba 240 zB ++ #[.int .i64 0] ++ ba 256 zB
theorem rkeyZ_size : rkeyZ.size = 497 := by simp [rkeyZ, ba_size]

theorem fold_get (o : Nat) (l : List Value) : ∀ (k : Nat) (c : Array Value) (j : Nat), ((l.zipIdx k).foldl (fun (cs : Array Value) (x : Value × Nat) => cs.setIfInBounds (o + x.2) x.1) c)[j]? = if o + k ≤ j ∧ j < o + k + l.length ∧ j < c.size then l[j - (o + k)]? else c[j]? := by
  induction l with
  | nil =>
    intro k c j
    have : ¬ (o + k ≤ j ∧ j < o + k + ([] : List Value).length ∧ j < c.size) := by simp; omega
    rw [if_neg this]
    rfl
  | cons v l ih =>
    intro k c j
    rw [List.zipIdx_cons, List.foldl_cons, ih, Array.size_setIfInBounds]
    dsimp only
    by_cases h1 : j = o + k
    · subst h1
      have e1 : ¬ (o + (k + 1) ≤ o + k ∧ o + k < o + (k + 1) + l.length ∧ o + k < c.size) := by omega
      rw [if_neg e1]
      by_cases h2 : o + k < c.size
      · have e2 : o + k ≤ o + k ∧ o + k < o + k + (v :: l).length ∧ o + k < c.size := by simp; omega
        rw [if_pos e2, Array.getElem?_setIfInBounds_self_of_lt h2, Nat.sub_self]
        rfl
      · have e2 : ¬ (o + k ≤ o + k ∧ o + k < o + k + (v :: l).length ∧ o + k < c.size) := by omega
        rw [if_neg e2, Array.getElem?_eq_none (by rw [Array.size_setIfInBounds]; omega), Array.getElem?_eq_none (by omega)]
    · rw [Array.getElem?_setIfInBounds_ne (fun x => h1 x.symm)]
      by_cases h2 : o + (k + 1) ≤ j ∧ j < o + (k + 1) + l.length ∧ j < c.size
      · have e2 : o + k ≤ j ∧ j < o + k + (v :: l).length ∧ j < c.size := by simp only [List.length_cons]; omega
        rw [if_pos h2, if_pos e2, show j - (o + k) = (j - (o + (k + 1))) + 1 by omega, List.getElem?_cons_succ]
      · have e2 : ¬ (o + k ≤ j ∧ j < o + k + (v :: l).length ∧ j < c.size) := by simp only [List.length_cons]; omega
        rw [if_neg h2, if_neg e2]

theorem built50 (R : Nat) : Array.foldl (fun (cs : Array Value) (x : Value × Nat) => cs.setIfInBounds (241 + x.snd) x.fst) (rkeyZ.setIfInBounds 240 (Value.int IntKind.i64 (R : Int))) (ba 256 sbF).zipIdx 0 256 = rkeyC R zB := by
  have hs : (ba 256 sbF).zipIdx.size = 256 := by rw [Array.size_zipIdx, ba_size]
  have e : Array.foldl (fun (cs : Array Value) (x : Value × Nat) => cs.setIfInBounds (241 + x.snd) x.fst) (rkeyZ.setIfInBounds 240 (Value.int IntKind.i64 (R : Int))) (ba 256 sbF).zipIdx 0 256 = ((ba 256 sbF).toList.zipIdx 0).foldl (fun (cs : Array Value) (x : Value × Nat) => cs.setIfInBounds (241 + x.2) x.1) (rkeyZ.setIfInBounds 240 (Value.int IntKind.i64 (R : Int))) := by
    have h := Array.foldl_toList (fun (cs : Array Value) (x : Value × Nat) => cs.setIfInBounds (241 + x.snd) x.fst) (init := rkeyZ.setIfInBounds 240 (Value.int IntKind.i64 (R : Int))) (xs := (ba 256 sbF).zipIdx)
    rw [hs] at h
    rw [← h, Array.toList_zipIdx]
  rw [e]
  have hz : ∀ j, j < 240 → rkeyZ[j]? = some (.int .u8 0) := fun j hj => by
    unfold rkeyZ
    rw [Array.getElem?_append_left (by simp [ba_size]; omega), Array.getElem?_append_left (by rw [ba_size]; exact hj), ba_get 240 zB hj]
    rfl
  apply Array.ext_getElem?
  intro j
  rw [fold_get, Array.size_setIfInBounds, rkeyZ_size, Array.length_toList, ba_size]
  by_cases h1 : j < 240
  · have e1 : ¬ (241 + 0 ≤ j ∧ j < 241 + 0 + 256 ∧ j < 497) := by omega
    rw [if_neg e1, Array.getElem?_setIfInBounds_ne (by omega), hz j h1, rkeyC_get R zB h1]
    rfl
  · by_cases h2 : j = 240
    · subst h2
      rw [if_neg (by omega), Array.getElem?_setIfInBounds_self_of_lt (by rw [rkeyZ_size]; omega), rkeyC_N]
    · by_cases h3 : j < 497
      · rw [if_pos (by omega)]
        obtain ⟨x, hx⟩ : ∃ x, j = 241 + x := ⟨j - 241, by omega⟩
        subst hx
        have hb := rkeyC_box R zB (BitVec.ofNat 8 x)
        rw [BitVec.toNat_ofNat, Nat.mod_eq_of_lt (by omega)] at hb
        rw [hb, show 241 + x - (241 + 0) = x by omega, Array.getElem?_toList, ba_get 256 sbF (by omega)]
        rfl
      · rw [if_neg (by omega), Array.getElem?_eq_none (by rw [Array.size_setIfInBounds, rkeyZ_size]; omega), Array.getElem?_eq_none (by rw [rkeyC_size]; omega)]
end Go.Proofs.Ytfnibmfmjglmlaa
