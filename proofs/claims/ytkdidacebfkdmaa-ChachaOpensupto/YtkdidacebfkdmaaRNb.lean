/-
  The document's product: digits multiplied; what stands above 2^130 is brought down.
-/
import Derived.Test.YtkdidacebfkdmaaRNa
namespace Go.Proofs.Ytkdidacebfkdmaa
open Go.RowKit
set_option linter.unusedVariables false

/-- A block of a function's code, found by its number. -/
def bkOf (n : Nat) : Code → Option Code
  | .block i b => if i = n then some (.block i b) else bkOf n b
  | .seq a b => match bkOf n a with
    | some c => some c
    | none => bkOf n b
  | .cond _ a b => match bkOf n a with
    | some c => some c
    | none => bkOf n b
  | .loop b => bkOf n b
  | _ => none
def bk (f : Func) (n : Nat) : Code := match f.body with
  | some c => (bkOf n c).getD .skip
  | none => .skip

/-- What stands while the document multiplies. -/
structure RP (w wr : World) (a r p : Nat → Int) : Prop where
  chg : Chg w wr
  a : Ar wr w.heap.size (arr .u64 9 a)
  r : Ar wr (w.heap.size + 1) (arr .u64 8 r)
  out : Ar wr (w.heap.size + 1 + 1) (arr .u64 9 zI)
  p : Ar wr (w.heap.size + 1 + 1 + 1) (arr .u64 18 p)
theorem RP.to {w wr u : World} {a r p : Nat → Int} (h : RP w wr a r p) (k : Chg wr u) : RP w u a r p := ⟨h.chg.trans k, h.a.chg k, h.r.chg k, h.out.chg k, h.p.chg k⟩
theorem RP.set {w wr : World} {a r p : Nat → Int} (h : RP w wr a r p) (i : Nat) (x : Int) : RP w (wr.setCell ⟨w.heap.size + 1 + 1 + 1, i, none⟩ (.int .u64 x)) a r (updI p i x) := by
  refine ⟨h.chg.setCell (by dsimp only; omega) _, h.a.other (by dsimp only; omega) _, h.r.other (by dsimp only; omega) _, h.out.other (by dsimp only; omega) _, ?_⟩
  have := h.p.set i (.int .u64 x)
  rwa [arr_set] at this
theorem RP.drew {w wr : World} {a r p : Nat → Int} (h : RP w wr a r p) : RP w wr.drew a r p := ⟨h.chg.drew, h.a, h.r, h.out, h.p⟩
theorem RP.row {w wr : World} {a r p : Nat → Int} (h : RP w wr a r p) (q : Nat → Int) : RP w (wr.setRow (w.heap.size + 1 + 1 + 1) (arr .u64 18 q)) a r q :=
  ⟨h.chg.setRow (by omega) _, h.a.rowOther (by omega) _, h.r.rowOther (by omega) _, h.out.rowOther (by omega) _, h.p.row _⟩
theorem RP.other {w wr : World} {a r p : Nat → Int} (h : RP w wr a r p) {H : Nat} (hH : w.heap.size + 1 + 1 + 1 < H) (i : Nat) (v : Value) : RP w (wr.setCell ⟨H, i, none⟩ v) a r p :=
  ⟨h.chg.setCell (by dsimp only; omega) _, h.a.other (by dsimp only; omega) _, h.r.other (by dsimp only; omega) _, h.out.other (by dsimp only; omega) _, h.p.other (by dsimp only; omega) _⟩
theorem addr_sum (i k : Nat) (hi : i < 9) (hk : k < 8) : ∃ s : Nat, (i : Int) + k = s ∧ IntKind.i64.wrap (s : Int) = s ∧ (s : Int) < 18 ∧ s < 18 ∧ Hid (s = i + k) := ⟨i + k, by omega, wrap_i (by omega) (by omega), by omega, by omega, rfl⟩
end Go.Proofs.Ytkdidacebfkdmaa
