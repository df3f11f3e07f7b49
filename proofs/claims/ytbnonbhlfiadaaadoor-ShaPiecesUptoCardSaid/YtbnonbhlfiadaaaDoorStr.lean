/-
  Bytes made a string.
-/
import Derived.Test.YtbnonbhlfiadaaaDoorBase
import Derived.Laws.BytesArg
namespace Go.Proofs.YtbnonbhlfiadaaaDoor
open Go.RowKit
set_option linter.unusedVariables false

theorem run_strA (w : World) (b n : Nat) (f : Nat → Int) (h : Ar w b (arr .u8 n f)) : (convert 23 9 (.slice (some ⟨b, 0, none⟩) n n)).run Tryd.prog w = .ok (.string (strOfNums ((List.range n).map f))) w := by
  have hf := h.load (n := n) (arr_size _ _ _)
  have e : arr .u8 n f = (((List.range n).map f).map (Value.int .u8)).toArray := by simp [arr]
  rw [e] at hf
  have hl : ((List.range n).map f).length = n := by simp
  rw [run_convert_bytes_string w 23 9 5 _ _ _ Tryd.underlying23 Tryd.underlying5 Tryd.underlying9, run_bytesToString w ⟨b, 0, none⟩ n n ((List.range n).map f) (by simpa [loadCells, hl] using hf), foldl_push_bytes]
  simp [strOfNums, ByteArray.empty, ByteArray.emptyWithCapacity]
  rfl
theorem run_strNil (w : World) : (convert 23 9 (.slice none 0 0)).run Tryd.prog w = .ok (.string (strOfNums [])) w :=
  run_convert_bytes_nil w 23 5 Tryd.underlying23 Tryd.underlying5 _ _ 9 Tryd.underlying9
end Go.Proofs.YtbnonbhlfiadaaaDoor
