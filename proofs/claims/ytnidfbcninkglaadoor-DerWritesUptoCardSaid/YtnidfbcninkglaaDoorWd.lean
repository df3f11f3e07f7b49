/-
  Numbers by seven bits a byte, written and read again, plainly.
-/
import Derived.Test.YtnidfbcninkglaaDoorOs
namespace Go.Proofs.YtnidfbcninkglaaDoor
set_option linter.unusedVariables false
set_option maxRecDepth 100000

/-- The groups above the lowest, the highest first, each with its mark. -/
def sevH : Nat → Int → List Int
  | 0, _ => []
  | k + 1, x => (128 + x / 128 ^ (k + 1) % 128) :: sevH k x
/-- So many groups above the lowest are wanted. -/
def SevK (k : Nat) (x : Int) : Prop := x / 128 ^ (k + 1) = 0 ∧ (k = 0 ∨ x / 128 ^ k ≠ 0)
def sevK (x : Int) : Nat := if x < 128 then 0 else if x < 16384 then 1 else if x < 2097152 then 2 else if x < 268435456 then 3 else if x < 34359738368 then 4 else 5
def sev (x : Int) : List Int := sevH (sevK x) x ++ [x % 128]
def sevAll (l : List Int) : List Int := (l.map sev).flatten

theorem sevK_is {x : Int} (h0 : 0 ≤ x) (h1 : x < 4398046511104) : SevK (sevK x) x := by
  unfold SevK sevK
  split
  · exact ⟨by simp; omega, .inl rfl⟩
  · split
    · exact ⟨by simp; omega, .inr (by simp; omega)⟩
    · split
      · exact ⟨by simp; omega, .inr (by simp; omega)⟩
      · split
        · exact ⟨by simp; omega, .inr (by simp; omega)⟩
        · split
          · exact ⟨by simp; omega, .inr (by simp; omega)⟩
          · exact ⟨by simp; omega, .inr (by simp; omega)⟩
theorem pow_step (x : Int) (k : Nat) (h0 : 0 ≤ x) : 128 * (x / 128 ^ (k + 1)) + x / 128 ^ k % 128 = x / 128 ^ k := by
  have : x / 128 ^ (k + 1) = x / 128 ^ k / 128 := by rw [Int.pow_succ, Int.ediv_ediv_of_nonneg (by exact Int.le_of_lt (Int.pow_pos (by omega)))]
  rw [this]
  omega
theorem sev_le (x : Int) (k : Nat) (h0 : 0 ≤ x) : x / 128 ^ k ≤ x := by
  have h1 : (0 : Int) < 128 ^ k := Int.pow_pos (by omega)
  exact Int.ediv_le_self _ h0

/-- Read again. -/
theorem sevL_read : ∀ (k : Nat) (x : Int) (wi : Bool) (acc rest : List Int), 0 ≤ x → x < 4294967296 → (wi = true ∨ k = 0 ∨ x / 128 ^ k % 128 ≠ 0) →
    sevL (sevH k x ++ (x % 128 :: rest)) (x / 128 ^ (k + 1)) wi acc = sevL rest 0 false (acc ++ [x])
  | 0, x, wi, acc, rest, h0, h1, hw => by
    have e := pow_step x 0 h0
    simp only [Nat.zero_add, Int.pow_zero, Int.ediv_one] at e
    have hm := Int.emod_nonneg x (b := 128) (by omega)
    have hl := Int.emod_lt_of_pos x (b := 128) (by omega)
    rw [sevH, List.nil_append, sevL_cons, if_neg (fun h => by omega), Nat.zero_add, Int.emod_emod_of_dvd _ (Int.dvd_refl _), e, if_neg (by omega), if_neg (by omega)]
  | k + 1, x, wi, acc, rest, h0, h1, hw => by
    have e := pow_step x (k + 1) h0
    have hle := sev_le x (k + 1) h0
    have hm := Int.emod_nonneg (x / 128 ^ (k + 1)) (b := 128) (by omega)
    have hl := Int.emod_lt_of_pos (x / 128 ^ (k + 1)) (b := 128) (by omega)
    have hc : (128 + x / 128 ^ (k + 1) % 128) % 128 = x / 128 ^ (k + 1) % 128 := by omega
    rw [sevH, List.cons_append, sevL_cons, hc, e, if_neg (fun h => ?_), if_neg (by omega), if_pos (by omega)]
    · exact sevL_read k x true acc rest h0 h1 (.inl rfl)
    · obtain ⟨h2, h3⟩ := h
      rcases hw with q | q | q
      · rw [h2] at q; cases q
      · omega
      · omega
/-- Too great: not read. -/
theorem sevL_big : ∀ (k : Nat) (x : Int) (wi : Bool) (acc rest : List Int), 4294967296 ≤ x → sevL (sevH k x ++ (x % 128 :: rest)) (x / 128 ^ (k + 1)) wi acc = none
  | 0, x, wi, acc, rest, h1 => by
    have e := pow_step x 0 (by omega)
    simp only [Nat.zero_add, Int.pow_zero, Int.ediv_one] at e
    have hm := Int.emod_nonneg x (b := 128) (by omega)
    have hl := Int.emod_lt_of_pos x (b := 128) (by omega)
    rw [sevH, List.nil_append, sevL_cons, if_neg (fun h => by omega), Nat.zero_add, Int.emod_emod_of_dvd _ (Int.dvd_refl _), e, if_pos (by omega)]
  | k + 1, x, wi, acc, rest, h1 => by
    have e := pow_step x (k + 1) (by omega)
    have hm := Int.emod_nonneg (x / 128 ^ (k + 1)) (b := 128) (by omega)
    have hl := Int.emod_lt_of_pos (x / 128 ^ (k + 1)) (b := 128) (by omega)
    have hc : (128 + x / 128 ^ (k + 1) % 128) % 128 = x / 128 ^ (k + 1) % 128 := by omega
    rw [sevH, List.cons_append, sevL_cons, hc, e]
    split
    · rfl
    · split
      · rfl
      · rw [if_pos (by omega)]
        exact sevL_big k x true acc rest h1
theorem sev_top {x : Int} (h0 : 0 ≤ x) (h1 : x < 4398046511104) : x / 128 ^ (sevK x + 1) = 0 ∧ (sevK x = 0 ∨ x / 128 ^ sevK x % 128 ≠ 0) := by
  obtain ⟨a, b⟩ := sevK_is h0 h1
  refine ⟨a, ?_⟩
  rcases b with b | b
  · exact .inl b
  · right
    have e := pow_step x (sevK x) h0
    rw [a] at e
    omega
theorem sevL_sev {x : Int} (acc rest : List Int) (h0 : 0 ≤ x) (h1 : x < 4398046511104) : sevL (sev x ++ rest) 0 false acc = if x < 4294967296 then sevL rest 0 false (acc ++ [x]) else none := by
  obtain ⟨a, b⟩ := sev_top h0 h1
  unfold sev
  rw [List.append_assoc, List.singleton_append]
  by_cases h : x < 4294967296
  · rw [if_pos h]
    have := sevL_read (sevK x) x false acc rest h0 h (.inr b)
    rw [a] at this
    exact this
  · rw [if_neg h]
    have := sevL_big (sevK x) x false acc rest (by omega)
    rw [a] at this
    exact this
theorem sevL_all : ∀ (l acc : List Int), (∀ x ∈ l, 0 ≤ x ∧ x < 4398046511104) → sevL (sevAll l) 0 false acc = if l.all (fun x => decide (x < 4294967296)) = true then some (acc ++ l) else none
  | [], acc, h => by simp [sevAll, sevL]
  | x :: l, acc, h => by
    have hx := h x List.mem_cons_self
    have ih := sevL_all l (acc ++ [x]) (fun y hy => h y (List.mem_cons_of_mem _ hy))
    have e : sevAll (x :: l) = sev x ++ sevAll l := by simp [sevAll]
    rw [e, sevL_sev acc _ hx.1 hx.2]
    by_cases hb : x < 4294967296
    · rw [if_pos hb, ih]
      simp [hb]
    · rw [if_neg hb]
      simp [hb]
/-- What was written so is read so. -/
theorem oidL_all (l : List Int) (h : ∀ x ∈ l, 0 ≤ x ∧ x < 4398046511104) : oidL (sevAll l) = if (l.all (fun x => decide (x < 4294967296)) = true ∧ 1 ≤ l.length ∧ l.length ≤ 16) then some l else none := by
  rw [oidL_of (sevL_all l [] h)]
  by_cases h1 : l.all (fun x => decide (x < 4294967296)) = true
  · rw [if_pos h1, List.nil_append]
    unfold oidC
    by_cases h2 : 1 ≤ l.length ∧ l.length ≤ 16
    · simp only [if_pos h2, if_pos (And.intro h1 h2)]
    · simp only [if_neg h2, if_neg (fun q : _ ∧ _ => h2 q.2)]
  · rw [if_neg h1, if_neg (fun q : _ ∧ _ => h1 q.1)]
    rfl
end Go.Proofs.YtnidfbcninkglaaDoor
