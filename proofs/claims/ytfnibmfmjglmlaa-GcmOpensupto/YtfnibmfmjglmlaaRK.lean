/-
  The document's key: its cells; the first and the last steps of its Encrypt.
-/
import Derived.Test.YtfnibmfmjglmlaaMxd
import Derived.Test.YtfnibmfmjglmlaaBxd
import Derived.Deep.RegionHeld3
namespace Go.Proofs.Ytfnibmfmjglmlaa
open Go.RowKit
set_option linter.unusedVariables false

/-- The document's key: round keys, rounds, boxes. -/
def rkeyC (R : Nat) (k : Nat → By) : Array Value := ba 240 k ++ #[.int .i64 (R : Int)] ++ ba 256 sbF
theorem rkeyC_size (R : Nat) (k : Nat → By) : (rkeyC R k).size = 497 := by simp [rkeyC, ba_size]
theorem rkeyC_get (R : Nat) (k : Nat → By) {j : Nat} (h : j < 240) : (rkeyC R k)[j]? = some (.int .u8 ((k j).toNat : Int)) := by
  unfold rkeyC
  rw [Array.getElem?_append_left (by simp [ba_size]; omega), Array.getElem?_append_left (by rw [ba_size]; exact h), ba_get 240 k h]
theorem rkeyC_N (R : Nat) (k : Nat → By) : (rkeyC R k)[240]? = some (.int .i64 (R : Int)) := by
  unfold rkeyC
  rw [Array.getElem?_append_left (by simp [ba_size]), Array.getElem?_append_right (by rw [ba_size]; exact Nat.le_refl _), ba_size]
  rfl
theorem rkeyC_box (R : Nat) (k : Nat → By) (x : By) : (rkeyC R k)[241 + x.toNat]? = some (.int .u8 ((sb x).toNat : Int)) := by
  have hx := x.isLt
  unfold rkeyC
  rw [Array.getElem?_append_right (by simp [ba_size])]
  have : 241 + x.toNat - (ba 240 k ++ #[Value.int IntKind.i64 (R : Int)]).size = x.toNat := by simp [ba_size]
  rw [this, ba_get 256 sbF hx, sbF_at]
theorem rkR {w : World} {K R : Nat} {k : Nat → By} (h : Ar w K (rkeyC R k)) : w.cell? ⟨K, 240, none⟩ = some (.int .i64 (R : Int)) := (h.cell 240).trans (rkeyC_N R k)
theorem rkK {w : World} {K R : Nat} {k : Nat → By} (h : Ar w K (rkeyC R k)) {j : Nat} (hj : j < 240) : w.cell? ⟨K, j, none⟩ = some (.int .u8 ((k j).toNat : Int)) := (h.cell j).trans (rkeyC_get R k hj)
theorem rkB {w : World} {K R : Nat} {k : Nat → By} (h : Ar w K (rkeyC R k)) (x : By) : w.cell? ⟨K, 241 + x.toNat, none⟩ = some (.int .u8 ((sb x).toNat : Int)) := (h.cell _).trans (rkeyC_box R k x)
end Go.Proofs.Ytfnibmfmjglmlaa
