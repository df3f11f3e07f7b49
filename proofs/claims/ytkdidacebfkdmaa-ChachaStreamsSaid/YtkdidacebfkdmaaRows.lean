/-
  No cell of these rows narrows 'for every input' (looked for: loops, veiled, ifaces, maps, wideKeys, modest, calm, conditions, laid).
  DERIVED. THE GIVEN ROWS OF THIS SEAT. 5 by the template 'for every input the law returns true; each argument reads behind the call as it read before'; 0 by the template 'total and deterministic' (their statements: YtkdidacebfkdmaaTotals.lean).
  GIVEN WITH THE SEED: the statements are not yours to turn. If you find one false, say at which input.
  Laid BY PROGRAM, IN A SANDBOX (cutbox-rows.mjs): the forced cells as the released guide's own fill.sh prints them over the translation 2e5b2d7ee76c120e… (all of the seat's roots in one cut). By AI agents, Wed Nov 11 2026. No macro, syntax, notation, axiom, sorry.
-/
import Derived.Test.YtkdidacebfkdmaaChecked
import GoSem.Claim
import GoSem.ClaimJoined
import GoSem.ClaimMapViews
import Derived.JoinedTies
import Derived.KernelRfl
namespace Go.Proofs.Ytkdidacebfkdmaa
/- THE CELL 'sum', in the pinned program and in every row, IS THE sha256 OF THE DUMP (.gsa) THAT YtkdidacebfkdmaaProg.lean LOADS. Nothing in Lean hashes anything: it is a label: what it is worth is what the hold of that sum in a sandbox is worth. -/
noncomputable def Try.pinned : Pinned := { name := "ytkdidacebfkdmaa", sum := "2e5b2d7ee76c120e4c076d6f1b8e6dd42ec4b486e383dc412765fadb57b98054", checked := Try.checked }
namespace Rows
def none {H : Type} : Left H := { results := [], args := [] }

/-- 'drawbridgelaw09.ChachaStreams': WHATEVER THE INPUT: true; the input reads as it did. -/
def chachaStreamsSpec : ChangeSpec := { name := "chachaStreams", fn := fun _ => fun
  | [d1, d2, d3, d4] => { results := [.lit (.bool true)], args := [d1, d2, d3, d4] }
  | _ => none }
def chachaStreamsRow : OpenClaim := { program := "ytkdidacebfkdmaa", sum := "2e5b2d7ee76c120e4c076d6f1b8e6dd42ec4b486e383dc412765fadb57b98054", func := "drawbridge/drawbridgelaw09.ChachaStreams", spec := "chachaStreams", unfollowed := true, recurses := true, apart := false }
def ChachaStreamsSaid : Prop := chachaStreamsRow.holds Try.pinned (OpenSpec.ofChange chachaStreamsSpec)

/-- ITS FALSE NEIGHBOUR: 'it returns false'. Refute it at one input. -/
def chachaStreamsWrong : ChangeSpec := { name := "chachaStreams", fn := fun _ => fun
  | [d1, d2, d3, d4] => { results := [.lit (.bool false)], args := [d1, d2, d3, d4] }
  | _ => none }
def ChachaStreamsWrongFalsely : Prop := chachaStreamsRow.holds Try.pinned (OpenSpec.ofChange chachaStreamsWrong)

/-- 'drawbridgelaw09.ChachaCodes': WHATEVER THE INPUT: true; the input reads as it did. -/
def chachaCodesSpec : ChangeSpec := { name := "chachaCodes", fn := fun _ => fun
  | [d1, d2, d3] => { results := [.lit (.bool true)], args := [d1, d2, d3] }
  | _ => none }
def chachaCodesRow : OpenClaim := { program := "ytkdidacebfkdmaa", sum := "2e5b2d7ee76c120e4c076d6f1b8e6dd42ec4b486e383dc412765fadb57b98054", func := "drawbridge/drawbridgelaw09.ChachaCodes", spec := "chachaCodes", unfollowed := true, recurses := true, apart := false }
def ChachaCodesSaid : Prop := chachaCodesRow.holds Try.pinned (OpenSpec.ofChange chachaCodesSpec)

/-- ITS FALSE NEIGHBOUR: 'it returns false'. Refute it at one input. -/
def chachaCodesWrong : ChangeSpec := { name := "chachaCodes", fn := fun _ => fun
  | [d1, d2, d3] => { results := [.lit (.bool false)], args := [d1, d2, d3] }
  | _ => none }
def ChachaCodesWrongFalsely : Prop := chachaCodesRow.holds Try.pinned (OpenSpec.ofChange chachaCodesWrong)

/-- 'drawbridgelaw09.ChachaSeals': WHATEVER THE INPUT: true; the input reads as it did. -/
def chachaSealsSpec : ChangeSpec := { name := "chachaSeals", fn := fun _ => fun
  | [d1, d2, d3, d4] => { results := [.lit (.bool true)], args := [d1, d2, d3, d4] }
  | _ => none }
def chachaSealsRow : OpenClaim := { program := "ytkdidacebfkdmaa", sum := "2e5b2d7ee76c120e4c076d6f1b8e6dd42ec4b486e383dc412765fadb57b98054", func := "drawbridge/drawbridgelaw09.ChachaSeals", spec := "chachaSeals", unfollowed := true, recurses := true, apart := false }
def ChachaSealsSaid : Prop := chachaSealsRow.holds Try.pinned (OpenSpec.ofChange chachaSealsSpec)

/-- ITS FALSE NEIGHBOUR: 'it returns false'. Refute it at one input. -/
def chachaSealsWrong : ChangeSpec := { name := "chachaSeals", fn := fun _ => fun
  | [d1, d2, d3, d4] => { results := [.lit (.bool false)], args := [d1, d2, d3, d4] }
  | _ => none }
def ChachaSealsWrongFalsely : Prop := chachaSealsRow.holds Try.pinned (OpenSpec.ofChange chachaSealsWrong)

/-- 'drawbridgelaw09.ChachaOpens': WHATEVER THE INPUT: true; the input reads as it did. -/
def chachaOpensSpec : ChangeSpec := { name := "chachaOpens", fn := fun _ => fun
  | [d1, d2, d3, d4, d5, d6] => { results := [.lit (.bool true)], args := [d1, d2, d3, d4, d5, d6] }
  | _ => none }
def chachaOpensRow : OpenClaim := { program := "ytkdidacebfkdmaa", sum := "2e5b2d7ee76c120e4c076d6f1b8e6dd42ec4b486e383dc412765fadb57b98054", func := "drawbridge/drawbridgelaw09.ChachaOpens", spec := "chachaOpens", unfollowed := true, recurses := true, apart := false }
def ChachaOpensSaid : Prop := chachaOpensRow.holds Try.pinned (OpenSpec.ofChange chachaOpensSpec)

/-- ITS FALSE NEIGHBOUR: 'it returns false'. Refute it at one input. -/
def chachaOpensWrong : ChangeSpec := { name := "chachaOpens", fn := fun _ => fun
  | [d1, d2, d3, d4, d5, d6] => { results := [.lit (.bool false)], args := [d1, d2, d3, d4, d5, d6] }
  | _ => none }
def ChachaOpensWrongFalsely : Prop := chachaOpensRow.holds Try.pinned (OpenSpec.ofChange chachaOpensWrong)

/-- 'drawbridgelaw09.ChachaCounts': WHATEVER THE INPUT: true; the input reads as it did. -/
def chachaCountsSpec : ChangeSpec := { name := "chachaCounts", fn := fun _ => fun
  | [d1, d2, d3, d4, d5] => { results := [.lit (.bool true)], args := [d1, d2, d3, d4, d5] }
  | _ => none }
def chachaCountsRow : OpenClaim := { program := "ytkdidacebfkdmaa", sum := "2e5b2d7ee76c120e4c076d6f1b8e6dd42ec4b486e383dc412765fadb57b98054", func := "drawbridge/drawbridgelaw09.ChachaCounts", spec := "chachaCounts", unfollowed := true, recurses := true, apart := false }
def ChachaCountsSaid : Prop := chachaCountsRow.holds Try.pinned (OpenSpec.ofChange chachaCountsSpec)

/-- ITS FALSE NEIGHBOUR: 'it returns false'. Refute it at one input. -/
def chachaCountsWrong : ChangeSpec := { name := "chachaCounts", fn := fun _ => fun
  | [d1, d2, d3, d4, d5] => { results := [.lit (.bool false)], args := [d1, d2, d3, d4, d5] }
  | _ => none }
def ChachaCountsWrongFalsely : Prop := chachaCountsRow.holds Try.pinned (OpenSpec.ofChange chachaCountsWrong)

/- THE SECOND FORM. 'bulk': how many values and letters a reading holds, each counted each time it is reached (what is shared counts as often as it is met; a slice's spare places count too). A statement '..UptoSaid' is the law's where the arguments, and the package variables that the reading takes, are together of bulk at most 1048576: NARROWER than '..Said'. Prove '..Said' where nothing that the law and all that it calls make is longer than what came in: it says more and counts as full. Else prove '..UptoSaid'. A law counts once. -/
mutual
def uptoBulk {H : Type} : DataW H → Nat
  | .lit (.string bytes) => bytes.length + 1
  | .lit _ => 1
  | .nil => 1
  | .ptr d => uptoBulk d + 1
  | .slice elems spare => uptoBulkAll elems + uptoBulkAll spare + 1
  | .agg parts => uptoBulkAll parts + 1
  | .iface _ d => uptoBulk d + 1
  | .map entries => uptoBulkEntries entries + 1
  | .held _ => 1
def uptoBulkAll {H : Type} : List (DataW H) → Nat
  | [] => 0
  | d :: r => uptoBulk d + uptoBulkAll r
def uptoBulkEntries {H : Type} : List (Lit × DataW H) → Nat
  | [] => 0
  | x :: r => uptoBulkEntry x + uptoBulkEntries r
def uptoBulkEntry {H : Type} : Lit × DataW H → Nat
  | (.string bytes, d) => bytes.length + uptoBulk d + 1
  | (_, d) => uptoBulk d + 1
 end
def uptoSmall : (H : Type) → List (DataW H) → Bool := fun _ ds => decide (uptoBulkAll ds ≤ 1048576)
def OpenSpec.upto (s : _root_.Go.ChangeSpec) : _root_.Go.OpenSpec := { _root_.Go.OpenSpec.ofChange s with cond := some uptoSmall }

/-- 'drawbridgelaw09.ChachaStreams', WHERE WHAT IT READS IS OF BULK AT MOST 1048576: true; the input reads as it did. -/
def chachaStreamsUptoRow : OpenClaim := { program := "ytkdidacebfkdmaa", sum := "2e5b2d7ee76c120e4c076d6f1b8e6dd42ec4b486e383dc412765fadb57b98054", func := "drawbridge/drawbridgelaw09.ChachaStreams", spec := "chachaStreams", unfollowed := true, recurses := true, apart := false, narrowed := true }
def ChachaStreamsUptoSaid : Prop := chachaStreamsUptoRow.holds Try.pinned (OpenSpec.upto chachaStreamsSpec)

/-- 'drawbridgelaw09.ChachaCodes', WHERE WHAT IT READS IS OF BULK AT MOST 1048576: true; the input reads as it did. -/
def chachaCodesUptoRow : OpenClaim := { program := "ytkdidacebfkdmaa", sum := "2e5b2d7ee76c120e4c076d6f1b8e6dd42ec4b486e383dc412765fadb57b98054", func := "drawbridge/drawbridgelaw09.ChachaCodes", spec := "chachaCodes", unfollowed := true, recurses := true, apart := false, narrowed := true }
def ChachaCodesUptoSaid : Prop := chachaCodesUptoRow.holds Try.pinned (OpenSpec.upto chachaCodesSpec)

/-- 'drawbridgelaw09.ChachaSeals', WHERE WHAT IT READS IS OF BULK AT MOST 1048576: true; the input reads as it did. -/
def chachaSealsUptoRow : OpenClaim := { program := "ytkdidacebfkdmaa", sum := "2e5b2d7ee76c120e4c076d6f1b8e6dd42ec4b486e383dc412765fadb57b98054", func := "drawbridge/drawbridgelaw09.ChachaSeals", spec := "chachaSeals", unfollowed := true, recurses := true, apart := false, narrowed := true }
def ChachaSealsUptoSaid : Prop := chachaSealsUptoRow.holds Try.pinned (OpenSpec.upto chachaSealsSpec)

/-- 'drawbridgelaw09.ChachaOpens', WHERE WHAT IT READS IS OF BULK AT MOST 1048576: true; the input reads as it did. -/
def chachaOpensUptoRow : OpenClaim := { program := "ytkdidacebfkdmaa", sum := "2e5b2d7ee76c120e4c076d6f1b8e6dd42ec4b486e383dc412765fadb57b98054", func := "drawbridge/drawbridgelaw09.ChachaOpens", spec := "chachaOpens", unfollowed := true, recurses := true, apart := false, narrowed := true }
def ChachaOpensUptoSaid : Prop := chachaOpensUptoRow.holds Try.pinned (OpenSpec.upto chachaOpensSpec)

/-- 'drawbridgelaw09.ChachaCounts', WHERE WHAT IT READS IS OF BULK AT MOST 1048576: true; the input reads as it did. -/
def chachaCountsUptoRow : OpenClaim := { program := "ytkdidacebfkdmaa", sum := "2e5b2d7ee76c120e4c076d6f1b8e6dd42ec4b486e383dc412765fadb57b98054", func := "drawbridge/drawbridgelaw09.ChachaCounts", spec := "chachaCounts", unfollowed := true, recurses := true, apart := false, narrowed := true }
def ChachaCountsUptoSaid : Prop := chachaCountsUptoRow.holds Try.pinned (OpenSpec.upto chachaCountsSpec)

end Rows
end Go.Proofs.Ytkdidacebfkdmaa
