/-
  A digest's cells; the small functions: Size, Block, start, the kinds, mixInto, begin, New, Clone, Hash.
-/
import Derived.Test.YtijpdhjlafihkaaDoorLj03
namespace Go.Proofs.YtijpdhjlafihkaaDoor
open Go.RowKit
set_option linter.unusedVariables false
set_option maxRecDepth 100000

def sizeOfH (h : Int) : Nat := if h = 1 then 32 else if h = 2 then 48 else if h = 3 then 64 else 0
def blockOf (h : Int) : Nat := if h = 1 then 64 else if h = 2 then 128 else if h = 3 then 128 else 0
def startOf (h : Int) (i : Nat) : Int := if h = 1 then root i / 4294967296 else if h = 2 then root (8 + i) else root i
def mixH (h : Int) (st d : Nat → Int) : Nat → Int := if h = 1 then mix32 st d else mix64 st d

theorem size_any (h : Int) (w : World) : Calls Tryd.prog 20 #[.int .i64 h] w fun r w' => r = .returned (.int .i64 (sizeOfH h)) ∧ w' = w := by
  unfold sizeOfH
  by_cases h1 : h = 1
  · subst h1
    go_enter Tryd.func20, Tryd.ntmps20
    go_wp2
    go_ret
    exact ⟨rfl, rfl⟩
  · by_cases h2 : h = 2
    · subst h2
      go_enter Tryd.func20, Tryd.ntmps20
      go_wp2
      go_ret
      exact ⟨rfl, rfl⟩
    · by_cases h3 : h = 3
      · subst h3
        go_enter Tryd.func20, Tryd.ntmps20
        go_wp2
        go_ret
        exact ⟨rfl, rfl⟩
      · simp only [h1, h2, h3, if_false]
        go_enter Tryd.func20, Tryd.ntmps20
        go_wp2
        go_ret
        exact ⟨rfl, rfl⟩
theorem block_any (h : Int) (w : World) : Calls Tryd.prog 50 #[.int .i64 h] w fun r w' => r = .returned (.int .i64 (blockOf h)) ∧ w' = w := by
  unfold blockOf
  by_cases h1 : h = 1
  · subst h1
    go_enter Tryd.func50, Tryd.ntmps50
    go_wp2
    go_ret
    exact ⟨rfl, rfl⟩
  · by_cases h2 : h = 2
    · subst h2
      go_enter Tryd.func50, Tryd.ntmps50
      go_wp2
      go_ret
      exact ⟨rfl, rfl⟩
    · by_cases h3 : h = 3
      · subst h3
        go_enter Tryd.func50, Tryd.ntmps50
        go_wp2
        go_ret
        exact ⟨rfl, rfl⟩
      · simp only [h1, h2, h3, if_false]
        go_enter Tryd.func50, Tryd.ntmps50
        go_wp2
        go_ret
        exact ⟨rfl, rfl⟩
theorem refSize_any (h : Int) (w : World) : Calls Tryd.prog 31 #[.int .i64 h] w fun r w' => r = .returned (.int .i64 (sizeOfH h)) ∧ w' = w := by
  unfold sizeOfH
  by_cases h1 : h = 1
  · subst h1
    go_enter Tryd.func31, Tryd.ntmps31
    go_wp2
    go_ret
    exact ⟨rfl, rfl⟩
  · by_cases h2 : h = 2
    · subst h2
      go_enter Tryd.func31, Tryd.ntmps31
      go_wp2
      go_ret
      exact ⟨rfl, rfl⟩
    · by_cases h3 : h = 3
      · subst h3
        go_enter Tryd.func31, Tryd.ntmps31
        go_wp2
        go_ret
        exact ⟨rfl, rfl⟩
      · simp only [h1, h2, h3, if_false]
        go_enter Tryd.func31, Tryd.ntmps31
        go_wp2
        go_ret
        exact ⟨rfl, rfl⟩
theorem refBlock_any (h : Int) (w : World) : Calls Tryd.prog 62 #[.int .i64 h] w fun r w' => r = .returned (.int .i64 (blockOf h)) ∧ w' = w := by
  unfold blockOf
  by_cases h1 : h = 1
  · subst h1
    go_enter Tryd.func62, Tryd.ntmps62
    go_wp2
    go_ret
    exact ⟨rfl, rfl⟩
  · by_cases h2 : h = 2
    · subst h2
      go_enter Tryd.func62, Tryd.ntmps62
      go_wp2
      go_ret
      exact ⟨rfl, rfl⟩
    · by_cases h3 : h = 3
      · subst h3
        go_enter Tryd.func62, Tryd.ntmps62
        go_wp2
        go_ret
        exact ⟨rfl, rfl⟩
      · simp only [h1, h2, h3, if_false]
        go_enter Tryd.func62, Tryd.ntmps62
        go_wp2
        go_ret
        exact ⟨rfl, rfl⟩

theorem start_any (h : Int) (i : Nat) (w : World) (ht : Tabs w) (hi : i < 8) : Calls Tryd.prog 49 #[.int .i64 h, .int .i64 i] w fun r w' => r = .returned (.int .u64 (startOf h i)) ∧ w' = w := by
  have l1 : (i : Int) < 16 := by omega
  unfold startOf
  by_cases h1 : h = 1
  · subst h1
    have c0 := ht.r i (by omega)
    obtain ⟨x, hx⟩ : ∃ x, x = root i := ⟨_, rfl⟩
    rw [← hx] at c0
    simp only [if_true, ← hx]
    clear hx ht
    go_enter Tryd.func49, Tryd.ntmps49
    go_wp2
    go_ret
    exact ⟨rfl, rfl⟩
  · by_cases h2 : h = 2
    · subst h2
      obtain ⟨q, hq⟩ : ∃ q : Nat, 8 + (i : Int) = q := ⟨8 + i, by omega⟩
      have hq' : 8 + i = q := by omega
      have hqw := wrap_i (x := (q : Int)) (by omega) (by omega)
      have c0 := ht.r q (by omega)
      obtain ⟨x, hx⟩ : ∃ x, x = root q := ⟨_, rfl⟩
      rw [← hx] at c0
      rw [hq', ← hx]
      simp only [h1, if_false, if_true]
      have l2 : (q : Int) < 16 := by omega
      clear hx ht hq'
      go_enter Tryd.func49, Tryd.ntmps49
      go_wp2
      go_ret
      exact ⟨rfl, rfl⟩
    · have c0 := ht.r i (by omega)
      obtain ⟨x, hx⟩ : ∃ x, x = root i := ⟨_, rfl⟩
      rw [← hx] at c0
      simp only [h1, h2, if_false, ← hx]
      clear hx ht
      go_enter Tryd.func49, Tryd.ntmps49
      go_wp2
      go_ret
      exact ⟨rfl, rfl⟩

end Go.Proofs.YtijpdhjlafihkaaDoor
