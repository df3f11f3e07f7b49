/-
  A digest's cells; the small functions: Size, Block, start, the kinds, mixInto, begin, New, Clone, Hash.
-/
import Derived.Test.YtijpdhjlafihkaaDoorTj03
namespace Go.Proofs.YtijpdhjlafihkaaDoor
open Go.RowKit
set_option linter.unusedVariables false
set_option maxRecDepth 100000

def sizeOfH (h : Int) : Nat := if h = 1 then 32 else if h = 2 then 48 else if h = 3 then 64 else 0
def blockOf (h : Int) : Nat := if h = 1 then 64 else if h = 2 then 128 else if h = 3 then 128 else 0
def startOf (h : Int) (i : Nat) : Int := if h = 1 then root i / 4294967296 else if h = 2 then root (8 + i) else root i
def mixH (h : Int) (st d : Nat → Int) : Nat → Int := if h = 1 then mix32 st d else mix64 st d

theorem size_any (h : Int) (w : World) : Calls Tryd.prog 20 #[.int .i64 h] w fun r w' => r = .returned (.int .i64 (sizeOfH h)) ∧ w' = w := by
  unfold sizeOfH
  by_cases h1 : h = 1
  · subst h1
    go_enter Tryd.func20, Tryd.ntmps20
    go_wp2
    go_ret
    exact ⟨rfl, rfl⟩
  · by_cases h2 : h = 2
    · subst h2
      go_enter Tryd.func20, Tryd.ntmps20
      go_wp2
      go_ret
      exact ⟨rfl, rfl⟩
    · by_cases h3 : h = 3
      · subst h3
        go_enter Tryd.func20, Tryd.ntmps20
        go_wp2
        go_ret
        exact ⟨rfl, rfl⟩
      · simp only [h1, h2, h3, if_false]
        go_enter Tryd.func20, Tryd.ntmps20
        go_wp2
        go_ret
        exact ⟨rfl, rfl⟩
theorem block_any (h : Int) (w : World) : Calls Tryd.prog 50 #[.int .i64 h] w fun r w' => r = .returned (.int .i64 (blockOf h)) ∧ w' = w := by
  unfold blockOf
  by_cases h1 : h = 1
  · subst h1
    go_enter Tryd.func50, Tryd.ntmps50
    go_wp2
    go_ret
    exact ⟨rfl, rfl⟩
  · by_cases h2 : h = 2
    · subst h2
      go_enter Tryd.func50, Tryd.ntmps50
      go_wp2
      go_ret
      exact ⟨rfl, rfl⟩
    · by_cases h3 : h = 3
      · subst h3
        go_enter Tryd.func50, Tryd.ntmps50
        go_wp2
        go_ret
        exact ⟨rfl, rfl⟩
      · simp only [h1, h2, h3, if_false]
        go_enter Tryd.func50, Tryd.ntmps50
        go_wp2
        go_ret
        exact ⟨rfl, rfl⟩
theorem refSize_any (h : Int) (w : World) : Calls Tryd.prog 31 #[.int .i64 h] w fun r w' => r = .returned (.int .i64 (sizeOfH h)) ∧ w' = w := by
  unfold sizeOfH
  by_cases h1 : h = 1
  · subst h1
    go_enter Tryd.func31, Tryd.ntmps31
    go_wp2
    go_ret
    exact ⟨rfl, rfl⟩
  · by_cases h2 : h = 2
    · subst h2
      go_enter Tryd.func31, Tryd.ntmps31
      go_wp2
      go_ret
      exact ⟨rfl, rfl⟩
    · by_cases h3 : h = 3
      · subst h3
        go_enter Tryd.func31, Tryd.ntmps31
        go_wp2
        go_ret
        exact ⟨rfl, rfl⟩
      · simp only [h1, h2, h3, if_false]
        go_enter Tryd.func31, Tryd.ntmps31
        go_wp2
        go_ret
        exact ⟨rfl, rfl⟩
theorem refBlock_any (h : Int) (w : World) : Calls Tryd.prog 62 #[.int .i64 h] w fun r w' => r = .returned (.int .i64 (blockOf h)) ∧ w' = w := by
  unfold blockOf
  by_cases h1 : h = 1
  · subst h1
    go_enter Tryd.func62, Tryd.ntmps62
    go_wp2
    go_ret
    exact ⟨rfl, rfl⟩
  · by_cases h2 : h = 2
    · subst h2
      go_enter Tryd.func62, Tryd.ntmps62
      go_wp2
      go_ret
      exact ⟨rfl, rfl⟩
    · by_cases h3 : h = 3
      · subst h3
        go_enter Tryd.func62, Tryd.ntmps62
        go_wp2
        go_ret
        exact ⟨rfl, rfl⟩
      · simp only [h1, h2, h3, if_false]
        go_enter Tryd.func62, Tryd.ntmps62
        go_wp2
        go_ret
        exact ⟨rfl, rfl⟩

theorem start_any (h : Int) (i : Nat) (w : World) (ht : Tabs w) (hi : i < 8) : Calls Tryd.prog 49 #[.int .i64 h, .int .i64 i] w fun r w' => r = .returned (.int .u64 (startOf h i)) ∧ w' = w := by
  have l1 : (i : Int) < 16 := by omega
  unfold startOf
  by_cases h1 : h = 1
  · subst h1
    have c0 := ht.r i (by omega)
    obtain ⟨x, hx⟩ : ∃ x, x = root i := ⟨_, rfl⟩
    rw [← hx] at c0
    simp only [if_true, ← hx]
    clear hx ht
    go_enter Tryd.func49, Tryd.ntmps49
    go_wp2
    go_ret
    exact ⟨rfl, rfl⟩
  · by_cases h2 : h = 2
    · subst h2
      obtain ⟨q, hq⟩ : ∃ q : Nat, 8 + (i : Int) = q := ⟨8 + i, by omega⟩
      have hq' : 8 + i = q := by omega
      have hqw := wrap_i (x := (q : Int)) (by omega) (by omega)
      have c0 := ht.r q (by omega)
      obtain ⟨x, hx⟩ : ∃ x, x = root q := ⟨_, rfl⟩
      rw [← hx] at c0
      rw [hq', ← hx]
      simp only [h1, if_false, if_true]
      have l2 : (q : Int) < 16 := by omega
      clear hx ht hq'
      go_enter Tryd.func49, Tryd.ntmps49
      go_wp2
      go_ret
      exact ⟨rfl, rfl⟩
    · have c0 := ht.r i (by omega)
      obtain ⟨x, hx⟩ : ∃ x, x = root i := ⟨_, rfl⟩
      rw [← hx] at c0
      simp only [h1, h2, if_false, ← hx]
      clear hx ht
      go_enter Tryd.func49, Tryd.ntmps49
      go_wp2
      go_ret
      exact ⟨rfl, rfl⟩

end Go.Proofs.YtijpdhjlafihkaaDoor
namespace Go.Proofs.YtijpdhjlafihkaaDoor
open Go.RowKit
set_option linter.unusedVariables false
set_option maxRecDepth 100000

/-- A digest's cells: its hash, its state, the bytes of a block that is not whole, how many of them count, how many bytes came. -/
def digF (h : Int) (st rest : Nat → Int) (held count : Int) (j : Nat) : Value :=
  if j = 0 then .int .i64 h else if j < 9 then .int .u64 (st (j - 1)) else if j < 137 then .int .u8 (rest (j - 9)) else if j = 137 then .int .i64 held else .int .u64 count
def dig (h : Int) (st rest : Nat → Int) (held count : Int) : Array Value := ((List.range 139).map (digF h st rest held count)).toArray

theorem dig_size (h : Int) (st rest : Nat → Int) (held count : Int) : (dig h st rest held count).size = 139 := by simp [dig]
theorem dig_get (h : Int) (st rest : Nat → Int) (held count : Int) {j : Nat} (hj : j < 139) : (dig h st rest held count)[j]? = some (digF h st rest held count j) := by simp [dig, hj]
theorem dig_eq {c : Array Value} {h : Int} {st rest : Nat → Int} {held count : Int} (hs : c.size = 139) (hc : ∀ j, j < 139 → c[j]? = some (digF h st rest held count j)) : c = dig h st rest held count := by
  apply Array.ext_getElem?
  intro j
  by_cases hj : j < 139
  · rw [hc j hj, dig_get _ _ _ _ _ hj]
  · rw [Array.getElem?_eq_none (by omega), Array.getElem?_eq_none (by rw [dig_size]; omega)]
theorem dig_one (h : Int) (st rest : Nat → Int) (held count : Int) : (dig h st rest held count).all (·.oneCell') = true := by
  rw [Array.all_eq_true_iff_forall_mem]
  intro v hv
  simp [dig] at hv
  obtain ⟨i, _, rfl⟩ := hv
  unfold digF
  repeat' split
  all_goals rfl
theorem dig_hash (h : Int) (st rest : Nat → Int) (held count : Int) : (dig h st rest held count)[0]? = some (.int .i64 h) := by rw [dig_get _ _ _ _ _ (by omega)]; rfl
theorem dig_st (h : Int) (st rest : Nat → Int) (held count : Int) {i : Nat} (hi : i < 8) : (dig h st rest held count)[1 + i]? = some (.int .u64 (st i)) := by
  rw [dig_get _ _ _ _ _ (by omega), digF, if_neg (by omega), if_pos (by omega), show 1 + i - 1 = i by omega]
theorem dig_rest (h : Int) (st rest : Nat → Int) (held count : Int) {i : Nat} (hi : i < 128) : (dig h st rest held count)[9 + i]? = some (.int .u8 (rest i)) := by
  rw [dig_get _ _ _ _ _ (by omega), digF, if_neg (by omega), if_neg (by omega), if_pos (by omega), show 9 + i - 9 = i by omega]
theorem dig_held (h : Int) (st rest : Nat → Int) (held count : Int) : (dig h st rest held count)[137]? = some (.int .i64 held) := by rw [dig_get _ _ _ _ _ (by omega)]; rfl
theorem dig_count (h : Int) (st rest : Nat → Int) (held count : Int) : (dig h st rest held count)[138]? = some (.int .u64 count) := by rw [dig_get _ _ _ _ _ (by omega)]; rfl

theorem dig_setHeld (h : Int) (st rest : Nat → Int) (held count x : Int) : (dig h st rest held count).setIfInBounds 137 (.int .i64 x) = dig h st rest x count := by
  refine dig_eq (by simp [dig_size]) fun j hj => ?_
  by_cases e : j = 137
  · subst e
    rw [Array.getElem?_setIfInBounds_self_of_lt (by rw [dig_size]; omega)]
    rfl
  · rw [Array.getElem?_setIfInBounds_ne (by omega), dig_get _ _ _ _ _ hj]
    simp [digF, e]
theorem dig_setCount (h : Int) (st rest : Nat → Int) (held count x : Int) : (dig h st rest held count).setIfInBounds 138 (.int .u64 x) = dig h st rest held x := by
  refine dig_eq (by simp [dig_size]) fun j hj => ?_
  by_cases e : j = 138
  · subst e
    rw [Array.getElem?_setIfInBounds_self_of_lt (by rw [dig_size]; omega)]
    rfl
  · rw [Array.getElem?_setIfInBounds_ne (by omega), dig_get _ _ _ _ _ hj]
    unfold digF
    repeat' split
    all_goals first | rfl | omega
theorem dig_setSt (h : Int) (st rest : Nat → Int) (held count x : Int) {i : Nat} (hi : i < 8) : (dig h st rest held count).setIfInBounds (1 + i) (.int .u64 x) = dig h (upd st i x) rest held count := by
  refine dig_eq (by simp [dig_size]) fun j hj => ?_
  by_cases e : j = 1 + i
  · subst e
    rw [Array.getElem?_setIfInBounds_self_of_lt (by rw [dig_size]; omega), digF, if_neg (by omega), if_pos (by omega), show 1 + i - 1 = i by omega, upd_same]
  · rw [Array.getElem?_setIfInBounds_ne (by omega), dig_get _ _ _ _ _ hj]
    unfold digF
    by_cases e0 : j = 0
    · simp [e0]
    · by_cases e9 : j < 9
      · simp only [e0, e9, if_true, if_false]
        rw [upd_ne _ _ (by omega)]
      · simp [e0, e9]
theorem dig_lay (h : Int) (st rest st' : Nat → Int) (held count : Int) : lay .u64 (dig h st rest held count) 1 st' 8 = dig h st' rest held count := by
  refine dig_eq (by rw [lay_size, dig_size]) fun j hj => ?_
  by_cases e : 1 ≤ j ∧ j < 9
  · have : j = 1 + (j - 1) := by omega
    rw [this, lay_in _ _ _ _ _ _ (by omega) (by rw [dig_size]; omega), ← this, digF, if_neg (by omega), if_pos (by omega)]
  · rw [lay_out _ _ _ _ _ _ (by omega), dig_get _ _ _ _ _ hj]
    unfold digF
    by_cases e0 : j = 0
    · simp [e0]
    · have e9 : ¬ j < 9 := by omega
      simp [e0, e9]
theorem dig_congr {h : Int} {st st' rest rest' : Nat → Int} {held count : Int} (hs : ∀ i, i < 8 → st i = st' i) (hr : ∀ i, i < 128 → rest i = rest' i) : dig h st rest held count = dig h st' rest' held count := by
  refine dig_eq (dig_size _ _ _ _ _) fun j hj => ?_
  rw [dig_get _ _ _ _ _ hj]
  unfold digF
  by_cases e0 : j = 0
  · simp [e0]
  · by_cases e9 : j < 9
    · simp only [e0, e9, if_true, if_false]
      rw [hs _ (by omega)]
    · by_cases e1 : j < 137
      · simp only [e0, e9, e1, if_true, if_false]
        rw [hr _ (by omega)]
      · simp [e0, e9, e1]

set_option maxRecDepth 100000 in
theorem zero44 : (∀ w, (zeroValue 59).run Tryd.prog w = .ok (.agg (dig 0 (fun _ => 0) (fun _ => 0) 0 0)) w) ∧ (Tryd.prog.info? 59).map (·.size) = some 139 := zero_of_info (by kernel_rfl)
set_option maxRecDepth 100000 in
theorem built44 (h : Int) : Tryd.prog.built 59 [(0, .int .i64 h)] = some (dig h (fun _ => 0) (fun _ => 0) 0 0) := by kernel_rfl
theorem agg44 : ∃ d, Tryd.prog.underlying 59 = some d ∧ (match d with | .struct _ | .array _ _ => true | _ => false) = true := by
  cases hq : Tryd.prog.underlying 59 with
  | none => exact absurd hq (by
      have : (Tryd.prog.underlying 59).isSome = true := by kernel_rfl
      intro e
      rw [e] at this
      cases this)
  | some d =>
    refine ⟨d, rfl, ?_⟩
    have : (Tryd.prog.underlying 59).map (fun d => match d with | .struct _ | .array _ _ => true | _ => false) = some true := by kernel_rfl
    rw [hq] at this
    exact Option.some.inj this

end Go.Proofs.YtijpdhjlafihkaaDoor
