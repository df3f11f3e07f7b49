/-
  The variables that DerWrites' row lists: a world where they lie so; what they give.
-/
import Derived.Test.YtnidfbcninkglaaDoorArg
import Derived.Test.YtnidfbcninkglaaDoorWo
import Derived.Lay
import Derived.Lib.LaidIn
namespace Go.Proofs.YtnidfbcninkglaaDoor
open Go.ChangeShapes Go.WideShapes Go.ChangeAt Go.RowKit
set_option linter.unusedVariables false
set_option maxRecDepth 100000

def laidW : List (String × DataW Unit) := [("math/bits.deBruijn32tab", Rows.laid_math_bits_deBruijn32tab), ("math/bits.deBruijn64tab", Rows.laid_math_bits_deBruijn64tab), ("internal/strconv.uint64pow10", Rows.laid_internal_strconv_uint64pow10), ("unicode/utf8.acceptRanges", Rows.laid_unicode_utf8_acceptRanges), ("strconv.ErrRange", Rows.laid_strconv_ErrRange), ("strconv.ErrSyntax", Rows.laid_strconv_ErrSyntax), ("unicode/utf8.first", Rows.laid_unicode_utf8_first)]
def laidGW : List (String × DataW Unit) := [("unicode/utf8.first", Rows.laid_unicode_utf8_first)]
def laidOW : List (String × DataW Unit) := [("math/bits.deBruijn32tab", Rows.laid_math_bits_deBruijn32tab), ("math/bits.deBruijn64tab", Rows.laid_math_bits_deBruijn64tab), ("internal/strconv.uint64pow10", Rows.laid_internal_strconv_uint64pow10), ("unicode/utf8.acceptRanges", Rows.laid_unicode_utf8_acceptRanges), ("strconv.ErrRange", Rows.laid_strconv_ErrRange), ("strconv.ErrSyntax", Rows.laid_strconv_ErrSyntax)]
theorem filGW : (laidW.filter fun x => ["unicode/utf8.first"].contains x.1) = laidGW := rfl
theorem filOW : (laidW.filter fun x => !["unicode/utf8.first"].contains x.1) = laidOW := rfl
theorem wit_osW (os : Os) : ((World.doorLaid Tryd.prog 400 os).layVars Tryd.prog laidGW).os = os := World.layVars_os _ _ _

theorem gRange : Tryd.prog.globalNamed "strconv.ErrRange" = some 5 := by kernel_rfl
theorem gSyntax : Tryd.prog.globalNamed "strconv.ErrSyntax" = some 4 := by kernel_rfl
theorem tRange : (Tryd.prog.globals[5]?).map (·.type) = some 58 := by kernel_rfl
theorem tSyntax : (Tryd.prog.globals[4]?).map (·.type) = some 58 := by kernel_rfl
theorem cells9 : Tryd.prog.cellsOf 9 = 1 := by kernel_rfl
theorem cells180 : Tryd.prog.cellsOf 180 = 1 := by kernel_rfl
theorem starE : "*" ++ "errors.errorString" = "*errors.errorString" := by decide
theorem row178 (u : TypeId) (h : Tryd.prog.typeName? 3 u = some "*errors.errorString") : u = 178 :=
  typeName_ptr_named (nm := "errors.errorString") (by rw [starE]; kernel_rfl) (by kernel_rfl) (by decide) u (by rw [starE]; exact h)
def blkW : List Nat := [1, 3, 4, 5, 6, 7, 9, 10, 11, 12, 13, 14, 15]
theorem wit_metW (os : Os) (args : Array Value) : laidMetH Tryd.prog laidW (((World.doorLaid Tryd.prog 400 os).layVars Tryd.prog laidGW).forCall (fun _ _ => 0) ⟨#[], args, []⟩).memory := by
  have hp : laidMet Tryd.prog laidW ((World.doorLaid Tryd.prog 400 os).layVars Tryd.prog laidGW) :=
    laidMet_layVars (w0 := World.doorLaid Tryd.prog 400 os) ["unicode/utf8.first"] blkW (by rw [filGW]) (by rw [filGW]; kernel_rfl) (by rw [filGW]; kernel_rfl)
      (by rw [filOW]; exact LaidIn.of_run blkW 8 (by kernel_rfl) (by kernel_rfl) (by kernel_rfl) (by kernel_rfl))
  rw [MakeChecks.laidMetH_plain _ _ _ (by kernel_rfl)]
  exact hp.of_heap (by simp [World.memory, World.forCall, Input.heap])
theorem tab_ofW {W : World} (h : laidMetH Tryd.prog laidW W) : Tab W := by
  rw [MakeChecks.laidMetH_plain _ _ _ (by kernel_rfl)] at h
  exact Lib.tabIs_of_head gTab tTab Tryd.underlying151 Tryd.underlying73 cells73 (by kernel_rfl) h.tail.tail
theorem errV_ofW {W : World} (h : laidMetH Tryd.prog laidW W) : ErrV W := by
  rw [MakeChecks.laidMetH_plain _ _ _ (by kernel_rfl)] at h
  have h4 := h.tail.tail.tail.tail
  obtain ⟨a1, s1, hv1, -⟩ := laid_sentinel h4 gRange tRange Tryd.underlying58 row178 Tryd.underlying178 Tryd.underlying180 rfl rfl Tryd.underlying9 cells180 cells9
  obtain ⟨a2, s2, hv2, -⟩ := laid_sentinel h4.tail gSyntax tSyntax Tryd.underlying58 row178 Tryd.underlying178 Tryd.underlying180 rfl rfl Tryd.underlying9 cells180 cells9
  exact ⟨⟨_, _, by simpa using World.var?_cell gSyntax hv2 0⟩, _, _, by simpa using World.var?_cell gRange hv1 0⟩
end Go.Proofs.YtnidfbcninkglaaDoor
