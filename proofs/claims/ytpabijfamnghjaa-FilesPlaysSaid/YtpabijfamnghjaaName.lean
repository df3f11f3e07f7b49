/-
  What is a name: the program's isLetter and isName, and the document's Name.
-/
import Derived.Test.YtpabijfamnghjaaMap
namespace Go.Proofs.Ytpabijfamnghjaa
open Go.RowKit
set_option linter.unusedVariables false

theorem ret_int {k : IntKind} {a b : Int} (h : a = b) : Ending.returned (.int k a) = .returned (.int k b) := by rw [h]
theorem ret_bool {a b : Bool} (h : a = b) : Ending.returned (.bool a) = .returned (.bool b) := by rw [h]

def letter (r : Int) : Bool := decide (97 ≤ r ∧ r ≤ 122 ∨ 48 ≤ r ∧ r ≤ 57 ∨ r = 45 ∨ r = 95 ∨ r = 46)
def isNm (l : List UInt8) : Bool := decide (1 ≤ l.length) && decide (l.length ≤ 32) && l.all (fun c => letter c.toNat)

set_option maxHeartbeats 1000000 in
theorem isLetter_any (r : Int) (w : World) :
    Calls Try.prog 45 #[.int .i32 r] w fun e w' => e = .returned (.bool (letter r)) ∧ w' = w := by
  by_cases h1 : 97 ≤ r <;> by_cases h2 : r ≤ 122 <;> by_cases h3 : 48 ≤ r <;> by_cases h4 : r ≤ 57
  all_goals
    go_enter Try.func45, Try.ntmps45
    go_wp2
  all_goals (go_ret; exact ⟨ret_bool (by rw [Bool.eq_iff_iff]; unfold letter; first | (simp only [decide_eq_true_eq, Bool.or_eq_true, beq_iff_eq, true_iff]; omega) | simp), rfl⟩)


theorem width_pos (s : ByteArray) (pos : Nat) (h : pos < s.size) : 1 ≤ (Utf8.decode s pos).2 := by
  by_cases ha : (s[pos]'h).toNat < 128
  · rw [decode_ascii s pos h ha]
    exact Nat.le_refl _
  · exact (decode_high s pos h (by omega)).2

theorem isNm_false {s : ByteArray} {pos : Nat} (h : pos < s.size) (hl : letter (s[pos]'h).toNat = false) : isNm s.data.toList = false := by
  have : s.data.toList.all (fun c => letter c.toNat) = false := by
    rw [List.all_eq_false]
    refine ⟨s[pos]'h, ?_, by simp [hl]⟩
    show s.data[pos] ∈ s.data.toList
    simp
  unfold isNm
  simp [this]

theorem isNm_true {s : ByteArray} (h1 : 1 ≤ s.size) (h2 : s.size ≤ 32) (hl : ∀ (j : Nat) (h : j < s.size), letter (s[j]'h).toNat = true) : isNm s.data.toList = true := by
  have e1 : s.data.toList.length = s.size := by simp
  have : s.data.toList.all (fun c => letter c.toNat) = true := by
    rw [List.all_eq_true]
    intro c hc
    obtain ⟨j, hj, rfl⟩ := List.mem_iff_getElem.1 hc
    have := hl j (by omega)
    exact this
  unfold isNm
  rw [this, e1]
  simp [h1, h2]

theorem isNm_len {s : ByteArray} (h : s.size = 0 ∨ 32 < s.size) : isNm s.data.toList = false := by
  have e1 : s.data.toList.length = s.size := by simp
  unfold isNm
  rw [e1]
  rcases h with h | h
  · simp [h]
  · have : ¬ s.size ≤ 32 := by omega
    simp [this]

theorem empty_of {s : ByteArray} (h : s.size = 0) : s = ByteArray.empty := by
  obtain ⟨⟨l⟩⟩ := s
  have : l.length = 0 := h
  have : l = [] := List.eq_nil_of_length_eq_zero this
  subst this
  rfl

set_option maxRecDepth 100000 in
set_option maxHeartbeats 1000000 in
theorem isName_any (s : ByteArray) (w : World) (hs : s.size ≤ 9223372036854775807) :
    Calls Try.prog 33 #[.string s] w fun e w' => e = .returned (.bool (isNm s.data.toList)) ∧ Chg Non w w' := by
  by_cases h0 : s.size = 0
  · have := empty_of h0
    subst this
    go_enter Try.func33, Try.ntmps33
    go_wp2
    go_ret
    exact ⟨rfl, Chg.refl _ _⟩
  · have hne : s.toList.isEmpty = false := by
      cases h : s.toList with
      | nil =>
        exfalso
        rw [ByteArray.toList_eq] at h
        have : s.data.toList.length = 0 := by rw [h]; rfl
        simp at this
        exact h0 (by rw [this]; rfl)
      | cons a l => rfl
    by_cases h1 : 32 < s.size
    · go_enter Try.func33, Try.ntmps33
      go_wp2
      all_goals (go_ret; exact ⟨ret_bool (isNm_len (.inr h1)).symm, Chg.refl _ _⟩)
    · go_enter Try.func33, Try.ntmps33
      go_wp2
      go_loopw [4] (fun _ wr => ∃ pos, wr = w.iter s pos ∧ ∀ (j : Nat) (h : j < s.size), j < pos → letter (s[j]'h).toNat = true) (fun _ w' => s.size - w'.iterPos w.heap.size)
      case atStart => exact ⟨0, rfl, fun j h hj => by omega⟩
      case round =>
        obtain ⟨pos, rfl, hl⟩ := hrel
        have HL : Hid (∀ (j : Nat) (h : j < s.size), j < pos → letter (s[j]'h).toNat = true) := hl
        clear hl
        by_cases hp : pos < s.size
        · have hnx : ∀ ty, (Instr.next (.pointer (some ⟨w.heap.size, 0, none⟩)) true ty).run Try.prog (w.iter s pos) = _ := fun ty => run_next_any w s pos ty hp
          have hwd := width_pos s pos hp
          obtain ⟨d, hd⟩ : ∃ d, d = Utf8.decode s pos := ⟨_, rfl⟩
          rw [← hd] at hnx hwd
          have HD : Hid (d = Utf8.decode s pos) := hd
          clear hd
          obtain ⟨rn, wd⟩ := d
          go_wp2_with fail
          refine (isLetter_any _ _).mono ?_
          rintro e w' ⟨rfl, rfl⟩
          cases hr : letter (rn : Int)
          · go_wp2
            go_ret
            refine ⟨ret_bool ?_, (Chg.refl _ _).alloc _⟩
            rw [isNm_false hp]
            by_cases ha : (s[pos]'hp).toNat < 128
            · have := HD.out
              rw [decode_ascii s pos hp ha] at this
              cases this
              exact hr
            · simp [letter]; omega
          · go_wp2
            go_roundw
            case rel =>
              refine ⟨pos + wd, rfl, fun j h hj => ?_⟩
              by_cases ha : (s[pos]'hp).toNat < 128
              · have := HD.out
                rw [decode_ascii s pos hp ha] at this
                cases this
                by_cases hjp : j = pos
                · subst hjp; exact hr
                · exact HL.out j h (by omega)
              · have h5 := (decode_high s pos hp (by omega)).1
                rw [← HD.out] at h5
                simp only at h5
                exfalso
                simp [letter] at hr
                omega
            case measure =>
              simp
              omega
        · have hnx : ∀ ty, (Instr.next (.pointer (some ⟨w.heap.size, 0, none⟩)) true ty).run Try.prog (w.iter s pos) = _ := fun ty => run_next_end w s pos ty hp
          go_wp2
          go_ret
          exact ⟨ret_bool (isNm_true (by omega) (by omega) (fun j h => HL.out j h (by omega))).symm, (Chg.refl _ _).alloc _⟩

set_option maxRecDepth 100000 in
set_option maxHeartbeats 2000000 in
theorem name_any (s : ByteArray) (w : World) (hs : s.size ≤ 9223372036854775807) :
    Calls Try.prog 15 #[.string s] w fun e w' => e = .returned (.bool (isNm s.data.toList)) ∧ w' = w := by
  by_cases h0 : s.size < 1
  · go_enter Try.func15, Try.ntmps15
    go_wp2
    all_goals (go_ret; exact ⟨ret_bool (isNm_len (.inl (by omega))).symm, rfl⟩)
  · by_cases h1 : 32 < s.size
    · go_enter Try.func15, Try.ntmps15
      go_wp2
      all_goals (go_ret; exact ⟨ret_bool (isNm_len (.inr h1)).symm, rfl⟩)
    · go_enter Try.func15, Try.ntmps15
      go_wp2
      go_loopw [3] (fun i wr => ∃ pos : Nat, i = .int .i64 pos ∧ pos ≤ s.size ∧ wr = w ∧ ∀ (j : Nat) (h : j < s.size), j < pos → letter (s[j]'h).toNat = true) (fun i _ => s.size - (intOf i).toNat)
      case atStart => exact ⟨0, rfl, by omega, rfl, fun j h hj => by omega⟩
      case round =>
        obtain ⟨pos, rfl, hps, rfl, hl⟩ := hrel
        have HL : Hid (∀ (j : Nat) (h : j < s.size), j < pos → letter (s[j]'h).toNat = true) := hl
        clear hl
        by_cases hp : pos < s.size
        · obtain ⟨c, hc⟩ : ∃ c : Int, c = ((s[pos]'hp).toNat : Int) := ⟨_, rfl⟩
          have hix : ∀ w : World, (Instr.index 9 (.string s) (.int .i64 pos)).run Try.prog w = .ok (.int .u8 c) w := by
            intro w
            rw [run_index_string w 9 s .i64 pos Try.underlying9, dif_pos (by omega), hc]
            rfl
          have HC : Hid (c = ((s[pos]'hp).toNat : Int)) := hc
          clear hc
          by_cases hr : letter c = true
          · have hr' : Hid (97 ≤ c ∧ c ≤ 122 ∨ 48 ≤ c ∧ c ≤ 57 ∨ c = 45 ∨ c = 95 ∨ c = 46) := by
              unfold letter at hr
              simp at hr
              show _ ∨ _
              omega
            have hr2 : letter (s[pos]'hp).toNat = true := by rw [← HC.out]; exact hr
            have HR2 : Hid (letter (s[pos]'hp).toNat = true) := hr2
            clear hr hr2
            rcases hr'.out with ⟨h5, h6⟩ | ⟨h5, h6⟩ | h5 | h5 | h5
            all_goals (clear hr'; try subst h5)
            all_goals
              go_wp2
            all_goals go_roundw
            all_goals first
              | (refine ⟨pos + 1, by go_num, by omega, by first | rfl | trivial, fun j h hj => ?_⟩
                 by_cases hjp : j = pos
                 · subst hjp; exact HR2.out
                 · exact HL.out j h (by omega))
              | (simp [intOf]; omega)
          · have hr' : Hid (¬ (97 ≤ c ∧ c ≤ 122 ∨ 48 ≤ c ∧ c ≤ 57 ∨ c = 45 ∨ c = 95 ∨ c = 46)) := by
              unfold letter at hr
              simp at hr
              show ¬ _
              omega
            have HR2 : Hid (letter (s[pos]'hp).toNat = false) := by show letter _ = false; rw [← HC.out]; simpa using hr
            clear hr
            have hr3 : c < 45 ∨ c = 47 ∨ 57 < c ∧ c < 95 ∨ c = 96 ∨ 122 < c := by have : ¬ _ := hr'.out; omega
            clear hr'
            have hq1 : (c == 45) = false := by simp; omega
            have hq2 : (c == 95) = false := by simp; omega
            have hq3 : (c == 46) = false := by simp; omega
            rcases hr3 with h5 | h5 | ⟨h5, h6⟩ | h5 | h5
            all_goals (try subst h5)
            all_goals
              go_wp2
            all_goals first
              | (go_ret; exact ⟨ret_bool (isNm_false hp HR2.out).symm, by first | rfl | trivial⟩)
              | (exfalso; rename_i hh; simp only [Bool.not_eq_false', decide_eq_true_eq] at hh; omega)
        · go_wp2
          go_ret
          exact ⟨ret_bool (isNm_true (by omega) (by omega) (fun j h => HL.out j h (by omega))).symm, rfl⟩
end Go.Proofs.Ytpabijfamnghjaa
