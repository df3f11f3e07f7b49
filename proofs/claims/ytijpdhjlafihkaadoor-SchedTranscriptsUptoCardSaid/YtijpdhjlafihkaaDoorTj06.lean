/-
  What a digest has taken in: plain facts on lists of bytes, whole blocks, and what is left over.
-/
import Derived.Test.YtijpdhjlafihkaaDoorTj05
namespace Go.Proofs.YtijpdhjlafihkaaDoor
open Go.RowKit
set_option linter.unusedVariables false
set_option maxRecDepth 100000

def gd (l : List Int) (j : Nat) : Int := l.getD j 0
theorem gd_left (a b : List Int) {j : Nat} (h : j < a.length) : gd (a ++ b) j = gd a j := by
  unfold gd
  rw [List.getD_eq_getElem?_getD, List.getD_eq_getElem?_getD, List.getElem?_append_left h]
theorem gd_right (a b : List Int) {j : Nat} (h : a.length ≤ j) : gd (a ++ b) j = gd b (j - a.length) := by
  unfold gd
  rw [List.getD_eq_getElem?_getD, List.getD_eq_getElem?_getD, List.getElem?_append_right h]
theorem gd_take (a : List Int) {j n : Nat} (h : j < n) : gd (a.take n) j = gd a j := by
  unfold gd
  rw [List.getD_eq_getElem?_getD, List.getD_eq_getElem?_getD, List.getElem?_take, if_pos h]
theorem gd_drop (a : List Int) (j n : Nat) : gd (a.drop n) j = gd a (n + j) := by
  unfold gd
  rw [List.getD_eq_getElem?_getD, List.getD_eq_getElem?_getD, List.getElem?_drop]

def Valid (h : Int) : Prop := h = 1 ∨ h = 2 ∨ h = 3
theorem Valid.block {h : Int} (hv : Valid h) : blockOf h = 64 ∧ h = 1 ∨ blockOf h = 128 ∧ h ≠ 1 := by
  rcases hv with rfl | rfl | rfl
  · exact .inl ⟨rfl, rfl⟩
  · exact .inr ⟨rfl, by decide⟩
  · exact .inr ⟨rfl, by decide⟩
theorem Valid.pos {h : Int} (hv : Valid h) : 64 ≤ blockOf h ∧ blockOf h ≤ 128 := by
  rcases hv.block with ⟨e, _⟩ | ⟨e, _⟩ <;> rw [e] <;> decide

theorem joinW_congr {κ : IntKind} {d e : Nat → Int} {n : Nat} (h : ∀ k, k < n → d k = e k) : joinW κ d n = joinW κ e n := by
  induction n with
  | zero => rfl
  | succ n ih => rw [joinW, joinW, ih (fun k hk => h k (by omega)), h n (by omega)]
theorem firstW_congr {κ : IntKind} {nb : Nat} {d e : Nat → Int} (h : ∀ k, k < nb * 16 → d k = e k) : firstW κ nb d 16 = firstW κ nb e 16 := by
  funext j
  unfold firstW
  by_cases hj : j < 16
  · rw [if_pos hj, if_pos hj]
    unfold wordW
    refine joinW_congr fun k hk => h _ ?_
    have : nb * (j + 1) ≤ nb * 16 := Nat.mul_le_mul_left nb (by omega)
    rw [Nat.mul_add] at this
    omega
  · rw [if_neg hj, if_neg hj]
theorem mixH_congr {h : Int} {st d e : Nat → Int} (hv : Valid h) (hd : ∀ j, j < blockOf h → d j = e j) : mixH h st d = mixH h st e := by
  unfold mixH
  rcases hv.block with ⟨e1, e2⟩ | ⟨e1, e2⟩
  · rw [if_pos e2, if_pos e2]
    rw [e1] at hd
    unfold mix32 words32
    rw [firstW_congr (nb := 4) hd]
  · rw [if_neg e2, if_neg e2]
    rw [e1] at hd
    unfold mix64 words64
    rw [firstW_congr (nb := 8) hd]

/-- The state behind so many blocks. -/
def stN (h : Int) (f : Nat → Int) : Nat → (Nat → Int)
  | 0 => startOf h
  | k + 1 => mixH h (stN h f k) (fun j => f (blockOf h * k + j))
theorem stN_congr {h : Int} (hv : Valid h) {f g : Nat → Int} {k : Nat} (e : ∀ j, j < blockOf h * k → f j = g j) : stN h f k = stN h g k := by
  induction k with
  | zero => rfl
  | succ k ih =>
    rw [Nat.mul_add, Nat.mul_one] at e
    rw [stN, stN, ih (fun j hj => e j (by omega))]
    exact mixH_congr hv fun j hj => e _ (by omega)

/-- The state behind the whole blocks of some bytes. -/
def stOf (h : Int) (all : List Int) : Nat → Int := stN h (gd all) (all.length / blockOf h)
theorem stOf_more {h : Int} (hv : Valid h) (all zs : List Int) (hr : all.length % blockOf h + zs.length < blockOf h) : stOf h (all ++ zs) = stOf h all ∧ (all ++ zs).length % blockOf h = all.length % blockOf h + zs.length ∧ (all ++ zs).length / blockOf h = all.length / blockOf h := by
  have hp := hv.pos
  have hd := Nat.div_add_mod all.length (blockOf h)
  have hlen : (all ++ zs).length = blockOf h * (all.length / blockOf h) + (all.length % blockOf h + zs.length) := by rw [List.length_append]; omega
  have e1 : (all ++ zs).length / blockOf h = all.length / blockOf h := by
    rw [hlen, Nat.mul_add_div (by omega), Nat.div_eq_of_lt hr]
    rfl
  have e2 : (all ++ zs).length % blockOf h = all.length % blockOf h + zs.length := by
    rw [hlen, Nat.mul_add_mod, Nat.mod_eq_of_lt hr]
  refine ⟨?_, e2, e1⟩
  unfold stOf
  rw [e1]
  exact stN_congr hv fun j hj => gd_left _ _ (by omega)
theorem stOf_block {h : Int} (hv : Valid h) (all zs : List Int) (d : Nat → Int) (hr : all.length % blockOf h + zs.length = blockOf h)
    (hd : ∀ j, j < blockOf h → d j = gd (all ++ zs) (blockOf h * (all.length / blockOf h) + j)) : stOf h (all ++ zs) = mixH h (stOf h all) d ∧ (all ++ zs).length % blockOf h = 0 := by
  have hp := hv.pos
  have hdm := Nat.div_add_mod all.length (blockOf h)
  have hlen : (all ++ zs).length = blockOf h * (all.length / blockOf h + 1) := by rw [List.length_append, Nat.mul_add, Nat.mul_one]; omega
  have e1 : (all ++ zs).length / blockOf h = all.length / blockOf h + 1 := by
    rw [hlen, Nat.mul_div_cancel_left _ (by omega)]
  have e2 : (all ++ zs).length % blockOf h = 0 := by rw [hlen, Nat.mul_mod_right]
  refine ⟨?_, e2⟩
  unfold stOf
  rw [e1, stN, stN_congr hv (g := gd all) (fun j hj => gd_left _ _ (by omega))]
  exact mixH_congr hv fun j hj => (hd j hj).symm

end Go.Proofs.YtijpdhjlafihkaaDoor
