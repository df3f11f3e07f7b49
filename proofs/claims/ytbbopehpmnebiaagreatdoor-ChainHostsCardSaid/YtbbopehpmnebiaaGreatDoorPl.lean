/-
  Hosts, plainly: labels between points.
-/
import Derived.Lib.Case
namespace Go.Proofs.YtbbopehpmnebiaaGreatDoor
set_option linter.unusedVariables false

/-- May a byte stand within a label? -/
def lbI (c : Int) : Bool := (decide (97 ≤ c) && decide (c ≤ 122)) || (decide (65 ≤ c) && decide (c ≤ 90)) || (decide (48 ≤ c) && decide (c ≤ 57)) || (c == 45)
def lb (b : UInt8) : Bool := lbI (b.toNat : Int)
/-- What is a label. -/
def isLab (l : List UInt8) : Bool := decide (1 ≤ l.length) && decide (l.length ≤ 63) && !(l.head? == some 45) && !(l.getLast? == some 45) && l.all lb
/-- The parts between points. -/
def spl : List UInt8 → List (List UInt8)
  | [] => [[]]
  | b :: r => if b = 46 then [] :: spl r else (b :: (spl r).headD []) :: (spl r).tail
/-- How many labels a host has; 0 of none. -/
def cnt (l : List UInt8) : Nat := if l.length ≤ 253 ∧ (spl l).all isLab = true then (spl l).length else 0
def low (l : List UInt8) : List UInt8 := Lib.toLowerA l
/-- What stands behind the first point. -/
def aft (l : List UInt8) : List UInt8 := (l.dropWhile (· != 46)).drop 1
def mat (p n : List UInt8) : Bool :=
  if cnt n = 0 then false
  else match p with
    | 42 :: 46 :: u => decide (2 ≤ cnt u) && (low u == low (aft n))
    | p => decide (0 < cnt p) && (low p == low n)

theorem spl_ne : ∀ l, spl l ≠ []
  | [] => by simp [spl]
  | b :: r => by unfold spl; split <;> simp
theorem spl_cons (l : List UInt8) : spl l = (spl l).headD [] :: (spl l).tail := by
  cases h : spl l with
  | nil => exact absurd h (spl_ne l)
  | cons a b => rfl
/-- A run without points belongs to the first part. -/
theorem spl_app : ∀ (p r : List UInt8), (∀ b ∈ p, b ≠ 46) → spl (p ++ r) = (p ++ (spl r).headD []) :: (spl r).tail
  | [], r, h => spl_cons r
  | b :: p, r, h => by
    have hb := h b List.mem_cons_self
    have ih := spl_app p r (fun x hx => h x (List.mem_cons_of_mem _ hx))
    rw [List.cons_append, spl, if_neg hb, ih]
    rfl
theorem spl_dot (r : List UInt8) : spl (46 :: r) = [] :: spl r := by rw [spl]; simp
theorem spl_app_dot (p r : List UInt8) (h : ∀ b ∈ p, b ≠ 46) : spl (p ++ 46 :: r) = p :: spl r := by
  rw [spl_app p _ h, spl_dot]
  simp
theorem spl_end (p : List UInt8) (h : ∀ b ∈ p, b ≠ 46) : spl p = [p] := by
  have := spl_app p [] h
  simpa [spl] using this
theorem spl_len (l : List UInt8) : 1 ≤ (spl l).length := by
  have := spl_ne l
  cases h : spl l with
  | nil => exact absurd h this
  | cons a b => simp

/-- All bytes of a host are letters, digits, '-' or points. -/
theorem mem_spl : ∀ (l : List UInt8) (b : UInt8), b ∈ l → b = 46 ∨ ∃ p ∈ spl l, b ∈ p := by
  intro l
  induction l with
  | nil => intro b hb; cases hb
  | cons c r ih =>
    intro b hb
    by_cases hc : c = 46
    · subst hc
      rcases List.mem_cons.1 hb with e | hb
      · exact .inl e
      · rcases ih b hb with e | ⟨p, hp, hbp⟩
        · exact .inl e
        · exact .inr ⟨p, by rw [spl_dot]; exact List.mem_cons_of_mem _ hp, hbp⟩
    · have hs : spl (c :: r) = (c :: (spl r).headD []) :: (spl r).tail := by rw [spl, if_neg hc]
      rcases List.mem_cons.1 hb with e | hb
      · exact .inr ⟨_, by rw [hs]; exact List.mem_cons_self, by rw [e]; exact List.mem_cons_self⟩
      · rcases ih b hb with e | ⟨p, hp, hbp⟩
        · exact .inl e
        · rw [spl_cons r] at hp
          rcases List.mem_cons.1 hp with e | hp
          · exact .inr ⟨_, by rw [hs]; exact List.mem_cons_self, List.mem_cons_of_mem _ (by rw [← e]; exact hbp)⟩
          · exact .inr ⟨p, by rw [hs]; exact List.mem_cons_of_mem _ hp, hbp⟩
theorem all_spl (l : List UInt8) (h : (spl l).all isLab = true) : ∀ b ∈ l, b = 46 ∨ lb b = true := by
  intro b hb
  rcases mem_spl l b hb with e | ⟨p, hp, hbp⟩
  · exact .inl e
  · have := List.all_eq_true.1 h p hp
    unfold isLab at this
    simp only [Bool.and_eq_true] at this
    exact .inr (List.all_eq_true.1 this.2 b hbp)
theorem lb_ascii {b : UInt8} (h : lb b = true) : b.toNat < 128 := by
  unfold lb lbI at h
  simp at h
  omega
theorem cnt_ascii {l : List UInt8} (h : 0 < cnt l) : ∀ b ∈ l, b.toNat < 128 := by
  unfold cnt at h
  split at h
  · rename_i hc
    intro b hb
    rcases all_spl l hc.2 b hb with rfl | hl
    · decide
    · exact lb_ascii hl
  · omega
theorem cnt_len {l : List UInt8} (h : 0 < cnt l) : 1 ≤ l.length ∧ l.length ≤ 253 := by
  unfold cnt at h
  split at h
  · rename_i hc
    refine ⟨?_, hc.1⟩
    cases l with
    | nil => simp [spl, isLab] at hc
    | cons a b => simp
  · omega
/-- A pattern with a star is no host. -/
theorem cnt_star (u : List UInt8) : cnt (42 :: 46 :: u) = 0 := by
  unfold cnt
  rw [if_neg]
  rintro ⟨-, h⟩
  have h2 := all_spl _ h 42 List.mem_cons_self
  rcases h2 with e | e
  · exact absurd e (by decide)
  · exact absurd e (by decide)
theorem cnt_le (l : List UInt8) : cnt l ≤ 254 := by
  have hs : ∀ l : List UInt8, (spl l).length ≤ l.length + 1 := by
    intro l
    induction l with
    | nil => simp [spl]
    | cons b r ih =>
      unfold spl
      split
      · simp; omega
      · simp; omega
  unfold cnt
  split
  · have := hs l; omega
  · omega
theorem aft_none {n : List UInt8} (h : ∀ b ∈ n, b ≠ 46) : aft n = [] := by
  have : n.dropWhile (· != 46) = [] := by
    induction n with
    | nil => rfl
    | cons b p ih =>
      have hb : (b != 46) = true := by simpa using h b List.mem_cons_self
      rw [List.dropWhile_cons, hb]
      exact ih (fun x hx => h x (List.mem_cons_of_mem _ hx))
  unfold aft
  rw [this]
  rfl
theorem aft_at (p r : List UInt8) (h : ∀ b ∈ p, b ≠ 46) : aft (p ++ 46 :: r) = r := by
  unfold aft
  induction p with
  | nil => simp
  | cons b p ih =>
    have hb : (b != 46) = true := by simpa using h b List.mem_cons_self
    rw [List.cons_append, List.dropWhile_cons, hb]
    exact ih (fun x hx => h x (List.mem_cons_of_mem _ hx))
theorem aft_mem {l : List UInt8} {b : UInt8} (h : b ∈ aft l) : b ∈ l := by
  unfold aft at h
  exact (List.dropWhile_sublist _).subset (List.mem_of_mem_drop h)
theorem low_nil {l : List UInt8} (h : low l = []) : l = [] := by
  unfold low Lib.toLowerA at h
  simpa using h
end Go.Proofs.YtbbopehpmnebiaaGreatDoor
