/-
  A text's parts as the library cuts them, and a part's number as the library reads it, plainly.
-/
import Derived.Test.YtnidfbcninkglaaDoorWj
import Derived.Lib.Split
import Derived.Lib.IndexBytes
import Derived.Lib.ParseIntB
namespace Go.Proofs.YtnidfbcninkglaaDoor
set_option linter.unusedVariables false
set_option maxRecDepth 100000

theorem ix_no : ∀ (l : List UInt8), (∀ b ∈ l, b ≠ 46) → Lib.indexByte l 46 = -1
  | [], _ => rfl
  | b :: l, h => by
    have hb : (b == 46) = false := by simpa using h b List.mem_cons_self
    rw [Lib.indexByte, hb, ix_no l (fun x hx => h x (List.mem_cons_of_mem _ hx))]
    rfl
theorem ix_yes : ∀ (p r : List UInt8), (∀ b ∈ p, b ≠ 46) → Lib.indexByte (p ++ 46 :: r) 46 = p.length
  | [], r, _ => rfl
  | b :: p, r, h => by
    have hb : (b == 46) = false := by simpa using h b List.mem_cons_self
    have ih := ix_yes p r (fun x hx => h x (List.mem_cons_of_mem _ hx))
    rw [List.cons_append, Lib.indexByte, hb, ih]
    have : ((p.length : Int) == -1) = false := by simp
    rw [this]
    simp
theorem dot_or (l : List UInt8) : (∀ b ∈ l, b ≠ 46) ∨ ∃ p r, l = p ++ 46 :: r ∧ ∀ b ∈ p, b ≠ 46 := by
  induction l with
  | nil => exact .inl (fun b hb => by cases hb)
  | cons c l ih =>
    by_cases hc : c = 46
    · subst hc
      exact .inr ⟨[], l, rfl, fun b hb => by cases hb⟩
    · rcases ih with h | ⟨p, r, rfl, h⟩
      · exact .inl (fun b hb => by rcases List.mem_cons.1 hb with rfl | hb; exact hc; exact h b hb)
      · exact .inr ⟨c :: p, r, rfl, fun b hb => by rcases List.mem_cons.1 hb with rfl | hb; exact hc; exact h b hb⟩
theorem spD_len : ∀ (l : List UInt8), 1 ≤ (spD l).length ∧ (spD l).length ≤ l.length + 1
  | [] => by simp [spD]
  | b :: r => by
    have ⟨h1, h2⟩ := spD_len r
    unfold spD
    split
    · simp; omega
    · simp; omega
theorem prP_dot (p r : List UInt8) : prP (p ++ 46 :: r) = none := by
  unfold prP
  rw [if_neg]
  rintro ⟨-, h, -⟩
  have := List.all_eq_true.1 h 46 (by simp)
  revert this
  decide
theorem parts_same : ∀ (k : Nat) (l : List UInt8), (Lib.splitK [46] 0 k l).mapM prP = if (spD l).length ≤ k + 1 then (spD l).mapM prP else none
  | 0, l => by
    rcases dot_or l with h | ⟨p, r, rfl, h⟩
    · rw [spD_end l h]
      rfl
    · rw [spD_app_dot p r h, if_neg (by have := (spD_len r).1; rw [List.length_cons]; omega)]
      show [p ++ 46 :: r].mapM prP = none
      rw [List.mapM_cons, prP_dot]
      rfl
  | k + 1, l => by
    rcases dot_or l with h | ⟨p, r, rfl, h⟩
    · rw [spD_end l h, if_pos (by simp)]
      rw [Lib.splitK, Lib.index_one, ix_no l h]
      rfl
    · rw [spD_app_dot p r h, Lib.splitK, Lib.index_one, ix_yes p r h]
      have hn : (((p.length : Nat) : Int) == -1) = false := by simp
      rw [hn]
      simp only [Bool.false_eq_true, if_false, Int.toNat_natCast, Nat.add_zero, List.length_singleton]
      have e : (p ++ 46 :: r).drop (p.length + 1) = r := by simp
      have e2 : (p ++ 46 :: r).take p.length = p := List.take_left
      rw [e2, e, List.mapM_cons, List.mapM_cons, parts_same k r]
      by_cases hk : (spD r).length ≤ k + 1
      · rw [if_pos hk, if_pos (by simp; omega)]
      · rw [if_neg hk, if_neg (by simp; omega)]
        cases prP p <;> rfl
/-- As SplitN cuts it. -/
theorem parts_min (l : List UInt8) : (Lib.splitK [46] 0 (min 17 (l.length + 1) - 1) l).mapM prP = if (spD l).length ≤ 17 then (spD l).mapM prP else none := by
  rw [parts_same]
  have := (spD_len l).2
  by_cases h : (spD l).length ≤ 17
  · rw [if_pos h, if_pos (by omega)]
  · rw [if_neg h, if_neg (by omega)]
def nuE : Lib.NumEnd Nat → Option Int
  | .ok u => some (u : Int)
  | _ => none
theorem isDg_iff (c : UInt8) : isDg c = true ↔ 48 ≤ c.toNat ∧ c.toNat ≤ 57 := by simp [isDg]
theorem parseM : ∀ (l : List UInt8) (acc : Nat), acc < 4294967296 → nuE (Lib.parseUintM (2 ^ 32 - 1) acc l) = if l.all isDg = true ∧ valF acc l < 4294967296 then some (valF acc l : Int) else none
  | [], acc, h => by
    rw [Lib.parseUintM, if_pos ⟨rfl, by simpa [valF] using h⟩]
    rfl
  | c :: r, acc, h => by
    have e32 : (2 : Nat) ^ 32 - 1 = 4294967295 := by decide
    have hv : valF acc (c :: r) = valF (10 * acc + (c.toNat - 48)) r := rfl
    rw [Lib.parseUintM, hv]
    by_cases hc : 48 ≤ c.toNat ∧ c.toNat ≤ 57
    · have hd : isDg c = true := (isDg_iff c).2 hc
      rw [if_pos hc, if_neg (by omega)]
      by_cases hm : 2 ^ 32 - 1 < acc * 10 + (c.toNat - 48)
      · rw [if_pos hm, if_neg]
        · rfl
        · rintro ⟨-, hlt⟩
          have := valF_ge r (10 * acc + (c.toNat - 48))
          omega
      · rw [if_neg hm, show acc * 10 + (c.toNat - 48) = 10 * acc + (c.toNat - 48) by omega, parseM r _ (by omega)]
        simp [hd]
    · rw [if_neg hc, if_neg]
      · rfl
      · rintro ⟨ha, -⟩
        have := List.all_eq_true.1 ha c List.mem_cons_self
        exact hc ((isDg_iff c).1 this)
theorem parse_prP (l : List UInt8) : nuE (Lib.parseUintB 32 l) = prP l := by
  unfold Lib.parseUintB prP
  by_cases h : l = []
  · rw [if_pos h, if_neg (fun q => q.1 h)]
    rfl
  · rw [if_neg h, parseM l 0 (by omega)]
    by_cases hq : l.all isDg = true ∧ valF 0 l < 4294967296
    · rw [if_pos hq, if_pos ⟨h, hq.1, hq.2⟩]
      rfl
    · rw [if_neg hq, if_neg (fun q => hq q.2)]
end Go.Proofs.YtnidfbcninkglaaDoor
