/-
  The document's states and bytes by 64 bits are the program's: plain facts.
-/
import Derived.Test.YtbnonbhlfiadaaaDoorM64
import Derived.Test.YtbnonbhlfiadaaaDoorLnk
namespace Go.Proofs.YtbnonbhlfiadaaaDoor
open Go.RowKit
set_option linter.unusedVariables false

theorem block23 {q : Int} (hq : q = 2 ∨ q = 3) : blockOf q = 128 := by rcases hq with rfl | rfl <;> rfl
theorem ref64_eq (q : Int) (hq : q = 2 ∨ q = 3) (f : Nat → Int) (k : Nat) : ref64 (startOf q) f k = stN q f k := by
  induction k with
  | zero => rfl
  | succ k ih => rw [ref64, stN, ih, mixH, if_neg (by rcases hq with rfl | rfl <;> decide), block23 hq]
theorem out64_eq (q : Int) (hq : q = 2 ∨ q = 3) (s : Nat → Int) : out64 s 8 = (List.range 64).map (sumByte q s) := by
  have e : ∀ i, sumByte q s i = IntKind.u8.wrap (s (i / 8) / 2 ^ (8 * (7 - i % 8))) := fun i => by
    unfold sumByte
    rw [block23 hq]
  simp only [List.range, List.range.loop, List.map_cons, List.map_nil, e, out64, byt64]
  simp
theorem sum64_eq (q : Int) (hq : q = 2 ∨ q = 3) (xs : List Int) : out64 (ref64 (startOf q) (fun j => (xs ++ padL 128 xs.length).getD j 0) ((xs ++ padL 128 xs.length).length / 128)) 8 = (List.range 64).map (sumByte q (sumSt q xs)) := by
  have hp : padL 128 xs.length = endL q xs := by
    have := pad_end q (.inr hq) xs
    rw [block23 hq] at this
    exact this
  rw [ref64_eq q hq, out64_eq q hq, hp]
  unfold sumSt stOf
  rw [block23 hq]
  rfl
end Go.Proofs.YtbnonbhlfiadaaaDoor
