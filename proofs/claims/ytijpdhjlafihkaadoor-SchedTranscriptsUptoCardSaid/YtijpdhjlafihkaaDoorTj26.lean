/-
  What a secret is expanded with: a builder that is written through method values kept by closures.
-/
import Derived.Test.YtijpdhjlafihkaaDoorTj25
import Derived.Deep.RegionHeld3
import Derived.Deep.LoopGhost
import Derived.Lib.ConvBytes
import Derived.Laws.EntriesVeiled
namespace Go.Proofs.YtijpdhjlafihkaaDoor.Ap
open Go.RowKit
set_option linter.unusedVariables false
set_option maxRecDepth 100000

theorem mkf (fn : Fn) (first cap : Array Value) (w : World) : (Instr.makeFunc fn first cap).run Tryd.prog w = .ok (.func fn first cap) w := rfl
def f58 (b : Nat) : Value := .func (.func 58) #[.pointer (some ⟨b, 0, none⟩)] #[]
def f60 (b : Nat) : Value := .func (.func 60) #[.pointer (some ⟨b, 0, none⟩)] #[]

/-- A builder that three cells know by its methods. -/
structure EN (w0 w : World) (b P Q R : Nat) (v : Value) (xs : List UInt8) : Prop where
  tb : TB w0 w b v xs
  p : w.heap[P]? = some (.cells #[f58 b] 81 (0, 0))
  q : w.heap[Q]? = some (.cells #[f58 b] 81 (0, 0))
  r : w.heap[R]? = some (.cells #[f60 b] 84 (0, 0))
  d : ∀ k, BS b v k → k ≠ P ∧ k ≠ Q ∧ k ≠ R
theorem lt_some {w : World} {k : Nat} {o : Obj} (h : w.heap[k]? = some o) : k < w.heap.size := (Array.getElem?_eq_some_iff.1 h).1
theorem EN.wrote {w0 w w' : World} {b P Q R : Nat} {v v' : Value} {xs ys : List UInt8} (h : EN w0 w b P Q R v xs) (k : Wrote w b v w' v' ys) : EN w0 w' b P Q R v' ys := by
  have lp := lt_some h.p
  have lq := lt_some h.q
  have lr := lt_some h.r
  refine ⟨h.tb.wrote k, ?_, ?_, ?_, fun i e => ?_⟩
  · rw [k.heap lp (fun e => (h.d _ e).1 rfl)]; exact h.p
  · rw [k.heap lq (fun e => (h.d _ e).2.1 rfl)]; exact h.q
  · rw [k.heap lr (fun e => (h.d _ e).2.2 rfl)]; exact h.r
  · rcases e with e | e
    · exact h.d i (.inl e)
    · rcases k.row i e with x | x
      · exact h.d i (.inr x)
      · exact ⟨by omega, by omega, by omega⟩
theorem EN.non {w0 w w' : World} {b P Q R : Nat} {v : Value} {xs : List UInt8} (h : EN w0 w b P Q R v xs) (k : Chg Non w w') : EN w0 w' b P Q R v xs :=
  h.wrote ⟨h.tb.bld.keep k, k.non _, fun i e => .inl e⟩

set_option maxHeartbeats 1000000 in
theorem digits_mk (b : Nat) (w : World) : Calls Tryd.prog 42 #[.pointer (some ⟨b, 0, none⟩)] w fun e w' => e = .returned (.func (.func 59) #[] #[.pointer (some ⟨w.heap.size, 0, none⟩)]) ∧ w' = w.alloc (.cells #[f58 b] 81) := by
  have hmf := mkf
  go_enter Tryd.func42, Tryd.ntmps42
  go_wp2_with fail
  go_ret
  exact ⟨rfl, rfl⟩
set_option maxHeartbeats 1000000 in
theorem counted_mk (b : Nat) (w : World) : Calls Tryd.prog 43 #[.pointer (some ⟨b, 0, none⟩)] w fun e w' => e = .returned (.func (.func 61) #[] #[.pointer (some ⟨w.heap.size, 0, none⟩), .pointer (some ⟨w.heap.size + 1, 0, none⟩)]) ∧ w' = (w.alloc (.cells #[f58 b] 81)).alloc (.cells #[f60 b] 84) := by
  have hmf := mkf
  go_enter Tryd.func43, Tryd.ntmps43
  go_wp2_with fail
  go_ret
  exact ⟨rfl, rfl⟩

theorem EN.cells {w0 w : World} {b P Q R : Nat} {v : Value} {xs : List UInt8} (h : EN w0 w b P Q R v xs) : w.cell? ⟨P, 0, none⟩ = some (f58 b) ∧ w.cell? ⟨Q, 0, none⟩ = some (f58 b) ∧ w.cell? ⟨R, 0, none⟩ = some (f60 b) := by
  refine ⟨?_, ?_, ?_⟩
  · rw [Lib.cell_of_heap h.p]; rfl
  · rw [Lib.cell_of_heap h.q]; rfl
  · rw [Lib.cell_of_heap h.r]; rfl

set_option maxHeartbeats 4000000 in
theorem part_any (w0 : World) (b P Q R : Nat) (v : Value) (xs : List UInt8) (S : ByteArray) (w : World) (h : EN w0 w b P Q R v xs) (hl : xs.length + 1 + S.size ≤ 140737488355328) :
    Calls Tryd.prog 61 #[.string S, .pointer (some ⟨Q, 0, none⟩), .pointer (some ⟨R, 0, none⟩)] w fun e w' => e = .returned (.tuple #[]) ∧ ∃ v', EN w0 w' b P Q R v' (xs ++ [UInt8.ofNat S.size] ++ S.data.toList) := by
  obtain ⟨-, q1, -⟩ := h.cells
  have hu : IntKind.u8.wrap (S.size : Int) = ((UInt8.ofNat S.size).toNat : Int) := by
    rw [IntKind.wrap_u8]
    simp
  have hw := writeByte_any b v xs (UInt8.ofNat S.size) w h.tb.bld (by omega)
  rw [← hu] at hw
  have H : Hid (EN w0 w b P Q R v xs ∧ xs.length + 1 + S.size ≤ 140737488355328) := ⟨h, hl⟩
  unfold f58 at q1
  clear h hl
  go_enter Tryd.func61, Tryd.ntmps61
  go_wp2_with (go_at_call 58; refine hw.mono ?_)
  rintro e w1 ⟨rfl, v1, hw1⟩
  have HE : Hid (EN w0 w1 b P Q R v1 (xs ++ [UInt8.ofNat S.size])) := H.out.1.wrote hw1
  clear hw hw1 q1
  obtain ⟨-, -, r1⟩ := HE.out.cells
  unfold f60 at r1
  have hw := writeString_any b v1 (xs ++ [UInt8.ofNat S.size]) S w1 HE.out.tb.bld (by have := H.out.2; simp only [List.length_append, List.length_cons, List.length_nil]; omega)
  go_wp2_with (go_at_call 60; refine hw.mono ?_)
  rintro e w2 ⟨rfl, v2, hw2⟩
  have HE2 := HE.out.wrote hw2
  clear hw hw2 r1
  go_wp2_with fail
  go_end0
  exact ⟨rfl, v2, HE2⟩

/-- Two bytes, the highest first. -/
def two (u : Nat) : List UInt8 := [UInt8.ofNat (u / 256), UInt8.ofNat u]

set_option maxHeartbeats 8000000 in
theorem dig2_any (w0 : World) (b P Q R : Nat) (v : Value) (xs : List UInt8) (u : Nat) (w : World) (hu : u < 18446744073709551616) (h : EN w0 w b P Q R v xs) (hl : xs.length + 2 ≤ 140737488355328) :
    Calls Tryd.prog 59 #[.int .i64 2, .int .u64 (u : Int), .pointer (some ⟨P, 0, none⟩)] w fun e w' => e = .returned (.tuple #[]) ∧ ∃ v', EN w0 w' b P Q R v' (xs ++ two u) := by
  have H : Hid (EN w0 w b P Q R v xs ∧ xs.length + 2 ≤ 140737488355328) := ⟨h, hl⟩
  have b1 : IntKind.u8.wrap ((u : Int) / 256) = ((UInt8.ofNat (u / 256)).toNat : Int) := by
    rw [IntKind.wrap_u8]
    simp
  have b2 : IntKind.u8.wrap (u : Int) = ((UInt8.ofNat u).toNat : Int) := by
    rw [IntKind.wrap_u8]
    simp
  have hu0 : (0 : Int) ≤ u := by omega
  have hu1 : (u : Int) < 18446744073709551616 := by omega
  have B : Hid (IntKind.u8.wrap ((u : Int) / 256) = ((UInt8.ofNat (u / 256)).toNat : Int) ∧ IntKind.u8.wrap (u : Int) = ((UInt8.ofNat u).toNat : Int)) := ⟨b1, b2⟩
  obtain ⟨U, hU⟩ : ∃ U : Int, U = u := ⟨_, rfl⟩
  rw [← hU] at hu0 hu1
  have HU : Hid (U = (u : Int)) := hU
  rw [← hU]
  clear h hl b1 b2 hu hU
  go_enter Tryd.func59, Tryd.ntmps59
  go_wp2_with fail
  go_loopg [5] 3 (fun m iv wr => (iv = .int .i64 1 ∧ m = 3 ∧ Hid (∃ v', EN w0 wr b P Q R v' xs)) ∨ (iv = .int .i64 0 ∧ m = 2 ∧ Hid (∃ v', EN w0 wr b P Q R v' (xs ++ [UInt8.ofNat (u / 256)]))) ∨ (iv = .int .i64 (-1) ∧ m = 1 ∧ Hid (∃ v', EN w0 wr b P Q R v' (xs ++ two u))))
  case atStart => exact .inl ⟨rfl, rfl, v, H.out.1⟩
  case round =>
    have w8 : IntKind.i64.wrap 8 = 8 := rfl
    have w00 : IntKind.i64.wrap 0 = 0 := rfl
    rcases hrel with ⟨rfl, rfl, hE⟩ | ⟨rfl, rfl, hE⟩ | ⟨rfl, rfl, hE⟩
    · obtain ⟨v', hE'⟩ := hE.out
      obtain ⟨p1, -, -⟩ := hE'.cells
      unfold f58 at p1
      have hwb := writeByte_any b v' (xs) (UInt8.ofNat (u / 256)) wr.drew (hE'.non (Chg.refl Non _).drew).tb.bld (by have := H.out.2; omega)
      rw [← B.out.1, ← HU.out] at hwb
      have HE : Hid (EN w0 wr b P Q R v' (xs)) := hE'
      clear hE'
      go_wp2_with fail
      go_region_held3 (fun w' => w'.cell? ⟨P, 0, none⟩ = some (.func (.func 58) #[.pointer (some ⟨b, 0, none⟩)] #[])) (first | assumption | exact q2) ((go_at_call 58; refine hwb.mono ?_; rintro e w1 ⟨rfl, v1, hw1⟩; have q1 := ((HE.out.non (Chg.refl Non _).drew).wrote hw1); have q2 := q1.cells.1; unfold f58 at q2))
      all_goals
        go_wp2
        go_roundg 2
        case measure => omega
        case rel => exact .inr (.inl ⟨rfl, rfl, v1, q1⟩)
    · obtain ⟨v', hE'⟩ := hE.out
      obtain ⟨p1, -, -⟩ := hE'.cells
      unfold f58 at p1
      have hwb := writeByte_any b v' (xs ++ [UInt8.ofNat (u / 256)]) (UInt8.ofNat u) wr.drew (hE'.non (Chg.refl Non _).drew).tb.bld (by have := H.out.2; simp only [List.length_append, List.length_cons, List.length_nil]; omega)
      rw [← B.out.2, ← HU.out] at hwb
      have HE : Hid (EN w0 wr b P Q R v' (xs ++ [UInt8.ofNat (u / 256)])) := hE'
      clear hE'
      go_wp2_with fail
      go_region_held3 (fun w' => w'.cell? ⟨P, 0, none⟩ = some (.func (.func 58) #[.pointer (some ⟨b, 0, none⟩)] #[])) (first | assumption | exact q2) ((go_at_call 58; refine hwb.mono ?_; rintro e w1 ⟨rfl, v1, hw1⟩; have q1 := ((HE.out.non (Chg.refl Non _).drew).wrote hw1); have q2 := q1.cells.1; unfold f58 at q2))
      all_goals
        go_wp2
        go_roundg 1
        case measure => omega
        case rel => exact .inr (.inr ⟨rfl, rfl, v1, by have q3 := q1; rw [List.append_assoc] at q3; exact q3⟩)
    · obtain ⟨v', hE'⟩ := hE.out
      go_wp2
      go_end0
      exact ⟨rfl, v', hE'⟩
end Go.Proofs.YtijpdhjlafihkaaDoor.Ap
