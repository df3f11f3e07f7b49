/-
  What is a word: the program's isWord and the document's Word say the same.
-/
import Derived.Test.YtlhcadfcgibkdaaDoorWord
namespace Go.Proofs.YtlhcadfcgibkdaaDoor
open Go.RowKit
set_option linter.unusedVariables false

theorem headD_get {s : ByteArray} (h : 0 < s.size) : s.data.toList.headD 0 = s[0]'h := by
  obtain ⟨⟨l⟩⟩ := s
  cases l with
  | nil => exact absurd h (by decide)
  | cons a l => rfl

theorem isWd_false {s : ByteArray} {pos : Nat} (h : pos < s.size) (hl : letter (s[pos]'h).toNat = false) : isWd s.data.toList = false := by
  have : s.data.toList.all (fun c => letter c.toNat) = false := by
    rw [List.all_eq_false]
    refine ⟨s[pos]'h, ?_, by simp [hl]⟩
    show s.data[pos] ∈ s.data.toList
    simp
  unfold isWd
  simp [this]

theorem isWd_first {s : ByteArray} (h : 0 < s.size) (hl : small (s[0]'h).toNat = false) : isWd s.data.toList = false := by
  unfold isWd
  rw [headD_get h, hl]
  simp

theorem isWd_true {s : ByteArray} (h1 : 1 ≤ s.size) (h2 : s.size ≤ 32) (h0 : small (s[0]'h1).toNat = true) (hl : ∀ (j : Nat) (h : j < s.size), letter (s[j]'h).toNat = true) : isWd s.data.toList = true := by
  have e1 : s.data.toList.length = s.size := by simp
  have : s.data.toList.all (fun c => letter c.toNat) = true := by
    rw [List.all_eq_true]
    intro c hc
    obtain ⟨j, hj, rfl⟩ := List.mem_iff_getElem.1 hc
    have := hl j (by omega)
    exact this
  unfold isWd
  rw [this, e1, headD_get h1, h0]
  simp [h1, h2]

theorem isWd_len {s : ByteArray} (h : s.size = 0 ∨ 32 < s.size) : isWd s.data.toList = false := by
  have e1 : s.data.toList.length = s.size := by simp
  unfold isWd
  rw [e1]
  rcases h with h | h
  · simp [h]
  · have : ¬ s.size ≤ 32 := by omega
    simp [this]

theorem isWd_size {s : ByteArray} (h : isWd s.data.toList = true) : 1 ≤ s.size ∧ s.size ≤ 32 := by
  by_cases h1 : s.size = 0 ∨ 32 < s.size
  · rw [isWd_len h1] at h; cases h
  · omega

theorem empty_of {s : ByteArray} (h : s.size = 0) : s = ByteArray.empty := by
  obtain ⟨⟨l⟩⟩ := s
  have : l.length = 0 := h
  have : l = [] := List.eq_nil_of_length_eq_zero this
  subst this
  rfl

theorem nonempty_of {s : ByteArray} (h0 : s.size ≠ 0) : s.toList.isEmpty = false := by
  cases h : s.toList with
  | nil =>
    exfalso
    rw [ByteArray.toList_eq] at h
    have : s.data.toList.length = 0 := by rw [h]; rfl
    simp at this
    exact h0 (by rw [this]; rfl)
  | cons a l => rfl

theorem run_at (s : ByteArray) (pos : Nat) (hp : pos < s.size) (c : Int) (hc : c = ((s[pos]'hp).toNat : Int)) : ∀ w : World, (Instr.index 9 (.string s) (.int .i64 pos)).run Tryd.prog w = .ok (.int .u8 c) w := by
  intro w
  rw [run_index_string w 9 s .i64 pos Tryd.underlying9, dif_pos (by omega), hc]
  rfl

set_option maxRecDepth 100000 in
set_option maxHeartbeats 2000000 in
theorem isWord_any (s : ByteArray) (w : World) (hs : s.size ≤ 9223372036854775807) :
    Calls Tryd.prog 36 #[.string s] w fun e w' => e = .returned (.bool (isWd s.data.toList)) ∧ w' = w := by
  by_cases h0 : s.size = 0
  · have := empty_of h0
    subst this
    go_enter Tryd.func36, Tryd.ntmps36
    go_wp2
    go_ret
    exact ⟨rfl, rfl⟩
  · have hne := nonempty_of h0
    by_cases h1 : 32 < s.size
    · go_enter Tryd.func36, Tryd.ntmps36
      go_wp2
      all_goals (go_ret; exact ⟨ret_bool (isWd_len (.inr h1)).symm, rfl⟩)
    · have hp0 : 0 < s.size := by omega
      have hle : ((s.size : Int) ≤ 32) := by omega
      go_enter Tryd.func36, Tryd.ntmps36
      go_wp2_with fail
      refine (isSmall_any _ _).mono ?_
      rintro e w ⟨rfl, rfl⟩
      cases hs0 : small ((s[0]'hp0).toNat : Int)
      · go_wp2
        go_ret
        exact ⟨ret_bool (isWd_first hp0 hs0).symm, rfl⟩
      · go_wp2_with fail
        go_loopw [3, 19] (fun _ i wr => ∃ pos : Nat, i = .int .i64 pos ∧ pos ≤ s.size ∧ wr = w ∧ ∀ (j : Nat) (h : j < s.size), j < pos → letter (s[j]'h).toNat = true) (fun _ i _ => s.size - (intOf i).toNat)
        case atStart => exact ⟨0, rfl, by omega, rfl, fun j h hj => by omega⟩
        case round =>
          obtain ⟨pos, rfl, hps, rfl, hl⟩ := hrel
          have HL : Hid (∀ (j : Nat) (h : j < s.size), j < pos → letter (s[j]'h).toNat = true) := hl
          clear hl
          by_cases hp : pos < s.size
          · obtain ⟨c, hc⟩ : ∃ c : Int, c = ((s[pos]'hp).toNat : Int) := ⟨_, rfl⟩
            have hix := run_at s pos hp c hc
            have HC : Hid (c = ((s[pos]'hp).toNat : Int)) := hc
            clear hc
            go_wp2_with fail
            refine (inWord_any _ _).mono ?_
            rintro e w' ⟨rfl, rfl⟩
            cases hr : letter c
            · go_wp2
              go_ret
              exact ⟨ret_bool (isWd_false hp (by rw [← HC.out]; exact hr)).symm, by first | rfl | trivial⟩
            · go_wp2
              go_roundw
              case rel =>
                refine ⟨pos + 1, by go_num, by omega, by first | rfl | trivial, fun j h hj => ?_⟩
                by_cases hjp : j = pos
                · subst hjp; rw [← HC.out]; exact hr
                · exact HL.out j h (by omega)
              case measure => simp [intOf]; omega
          · go_wp2
            go_ret
            exact ⟨ret_bool (isWd_true (by omega) (by omega) hs0 (fun j h => HL.out j h (by omega))).symm, rfl⟩

set_option maxRecDepth 100000 in
set_option maxHeartbeats 2000000 in
theorem word_any (s : ByteArray) (w : World) (hs : s.size ≤ 9223372036854775807) :
    Calls Tryd.prog 27 #[.string s] w fun e w' => e = .returned (.bool (isWd s.data.toList)) ∧ w' = w := by
  by_cases h0 : s.size < 1
  · go_enter Tryd.func27, Tryd.ntmps27
    go_wp2
    all_goals (go_ret; exact ⟨ret_bool (isWd_len (.inl (by omega))).symm, rfl⟩)
  · by_cases h1 : 32 < s.size
    · go_enter Tryd.func27, Tryd.ntmps27
      go_wp2
      all_goals (go_ret; exact ⟨ret_bool (isWd_len (.inr h1)).symm, rfl⟩)
    · have hp0 : 0 < s.size := by omega
      have hle : ((s.size : Int) ≤ 32) := by omega
      obtain ⟨c0, hc0⟩ : ∃ c : Int, c = ((s[0]'hp0).toNat : Int) := ⟨_, rfl⟩
      cases hs0 : small c0
      · have hn : c0 < 97 ∨ 122 < c0 := by unfold small at hs0; simp at hs0; omega
        rw [hc0] at hn
        rcases hn with hn | hn
        · go_enter Tryd.func27, Tryd.ntmps27
          go_wp2
          all_goals (go_ret; exact ⟨ret_bool (isWd_first hp0 (by rw [← hc0]; exact hs0)).symm, rfl⟩)
        · have hn2 : 97 ≤ ((s[0]'hp0).toNat : Int) := by omega
          have hn3 : ¬ (((s[0]'hp0).toNat : Int) ≤ 122) := by omega
          go_enter Tryd.func27, Tryd.ntmps27
          go_wp2
          all_goals first
            | (exfalso; rename_i hh; simp at hh; omega)
            | (go_ret; exact ⟨ret_bool (isWd_first hp0 (by rw [← hc0]; exact hs0)).symm, rfl⟩)
      · have hn : 97 ≤ c0 ∧ c0 ≤ 122 := by unfold small at hs0; simp at hs0; exact hs0
        rw [hc0] at hn
        obtain ⟨hn1, hn2⟩ := hn
        go_enter Tryd.func27, Tryd.ntmps27
        go_wp2_with fail
        go_loopw [3] (fun i wr => ∃ pos : Nat, i = .int .i64 pos ∧ pos ≤ s.size ∧ wr = w ∧ ∀ (j : Nat) (h : j < s.size), j < pos → letter (s[j]'h).toNat = true) (fun i _ => s.size - (intOf i).toNat)
        case atStart => exact ⟨0, rfl, by omega, rfl, fun j h hj => by omega⟩
        case round =>
          obtain ⟨pos, rfl, hps, rfl, hl⟩ := hrel
          have HL : Hid (∀ (j : Nat) (h : j < s.size), j < pos → letter (s[j]'h).toNat = true) := hl
          clear hl
          by_cases hp : pos < s.size
          · obtain ⟨c, hc⟩ : ∃ c : Int, c = ((s[pos]'hp).toNat : Int) := ⟨_, rfl⟩
            have hix := run_at s pos hp c hc
            have HC : Hid (c = ((s[pos]'hp).toNat : Int)) := hc
            clear hc
            go_wp2_with fail
            refine (letter_any _ _).mono ?_
            rintro e w' ⟨rfl, rfl⟩
            cases hr : letter c
            · go_wp2
              go_ret
              exact ⟨ret_bool (isWd_false hp (by rw [← HC.out]; exact hr)).symm, by first | rfl | trivial⟩
            · go_wp2
              go_roundw
              case rel =>
                refine ⟨pos + 1, by go_num, by omega, by first | rfl | trivial, fun j h hj => ?_⟩
                by_cases hjp : j = pos
                · subst hjp; rw [← HC.out]; exact hr
                · exact HL.out j h (by omega)
              case measure => simp [intOf]; omega
          · go_wp2
            go_ret
            exact ⟨ret_bool (isWd_true (by omega) (by omega) (by rw [← hc0]; exact hs0) (fun j h => HL.out j h (by omega))).symm, rfl⟩
end Go.Proofs.YtlhcadfcgibkdaaDoor
