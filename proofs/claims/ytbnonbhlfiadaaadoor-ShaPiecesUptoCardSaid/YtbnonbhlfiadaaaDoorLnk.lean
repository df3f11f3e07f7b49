/-
  The document's bytes, words and states are the program's: plain facts.
-/
import Derived.Test.YtbnonbhlfiadaaaDoorPad
import Derived.Test.YtbnonbhlfiadaaaDoorSum
namespace Go.Proofs.YtbnonbhlfiadaaaDoor
open Go.RowKit
set_option linter.unusedVariables false

theorem padC_cnt (xs : List Int) : padC xs.length = IntKind.u64.wrap (cnt xs * 8) := by
  unfold padC cnt
  rw [IntKind.wrap_u64, IntKind.wrap_u64, IntKind.wrap_u64]
  omega
theorem padL_length (q : Int) (hv : Valid q) (n : Nat) : (padL (blockOf q) n).length = endN q (n % blockOf q) := by
  have hB : blockOf q = 64 ∨ blockOf q = 128 := by
    rcases hv.block with ⟨e, _⟩ | ⟨e, _⟩
    · exact .inl e
    · exact .inr e
  simp only [padL, padE, padK, endN, List.length_append, List.length_replicate, List.length_cons, List.length_nil, List.length_map, List.length_range]
  rcases hB with e | e <;> rw [e] <;> omega

theorem pad_end (q : Int) (hv : Valid q) (xs : List Int) : padL (blockOf q) xs.length = endL q xs := by
  have hB : blockOf q = 64 ∨ blockOf q = 128 := by
    rcases hv.block with ⟨e, _⟩ | ⟨e, _⟩
    · exact .inl e
    · exact .inr e
  obtain ⟨T, hT⟩ : ∃ T, T = endN q (xs.length % blockOf q) := ⟨_, rfl⟩
  have hlen := padL_length q hv xs.length
  rw [← hT] at hlen
  have hT9 : 9 ≤ T := by
    rw [hT, endN]
    rcases hB with e | e <;> rw [e] <;> omega
  unfold endL
  rw [← hT]
  apply List.ext_getElem?
  intro j
  by_cases hj : j < T
  · rw [List.getElem?_map, List.getElem?_range hj]
    simp only [Option.map_some]
    have hk : padK (blockOf q) xs.length + 1 + (blockOf q / 8 - 8) + 8 = T := by
      rw [← hlen]
      simp only [padL, padE, List.length_append, List.length_replicate, List.length_cons, List.length_nil, List.length_map, List.length_range]
      omega
    unfold padL endB endUp
    by_cases h0 : j = 0
    · subst h0
      simp
    · by_cases h8 : T - 8 ≤ j
      · rw [if_neg h0, if_pos h8, List.getElem?_append_right (by simp; omega)]
        unfold padE
        rw [List.getElem?_map, List.getElem?_range (by simp; omega)]
        simp only [Option.map_some]
        rw [padC_cnt]
        congr 4
        simp
        omega
      · rw [if_neg h0, if_neg h8, List.getElem?_append_left (by simp; omega), List.append_assoc, List.getElem?_append_right (by simp; omega)]
        rw [List.replicate_append_replicate, List.getElem?_replicate, if_pos (by simp; omega)]
  · rw [List.getElem?_eq_none (by omega), List.getElem?_eq_none (by simp; omega)]
end Go.Proofs.YtbnonbhlfiadaaaDoor
