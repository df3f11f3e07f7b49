/-
  A strings.Builder that nobody has read yet: what it holds, and what its copyCheck, WriteByte and WriteString do.
-/
import Derived.Test.YtbbopehpmnebiaaGreatDoorBase
import Derived.Lib.Builder
import Derived.Lib.AppendStr
import Derived.Lib.UnsafeStr
import Derived.Lib.Join
import Derived.Lib.MakeNoZero
import Derived.Lib.Hide
import Derived.Laws.Externs
import Derived.Deep.Slices
namespace Go.Proofs.YtbbopehpmnebiaaGreatDoor
open Go.RowKit
set_option linter.unusedVariables false
set_option maxRecDepth 100000

def BS (b : Nat) (v : Value) : Nat → Prop := fun k => k = b ∨ v.ownBlock = some k

/-- A builder in block b, its buffer's value v, the bytes xs; blocks 0 and 1 (tables) are none of its own. -/
structure Bld (w : World) (b : Nat) (v : Value) (xs : List UInt8) : Prop where
  blk : ∃ p, (p = .pointer none ∨ p = .pointer (some ⟨b, 0, none⟩)) ∧ w.heap[b]? = some (.cells #[p, v] 62 (0, 0))
  own : w.ownsRow 0 5 1 v xs.length (Lib.byteCells xs)
  high : ∀ k, BS b v k → 0 ≤ k

theorem row5 {w : World} {B n : Nat} {v : Value} {xs : List Value} (h : w.ownsRow B 5 1 v n xs) : ∀ k, v.ownBlock = some k → ∃ c, w.heap[k]? = some (.cells c 5 (0, 0)) := by
  intro k hk
  rcases h.2 with ⟨rfl, _⟩ | ⟨g, cap, cur, rfl, _, hg, _⟩
  · simp [Value.ownBlock] at hk
  · simp only [Value.ownBlock, Option.some.injEq] at hk
    subst hk
    exact ⟨cur, hg⟩

theorem Bld.lt {w : World} {b : Nat} {v : Value} {xs : List UInt8} (h : Bld w b v xs) : b < w.heap.size := by
  obtain ⟨p, _, hb⟩ := h.blk
  exact (Array.getElem?_eq_some_iff.1 hb).1

theorem Bld.rowlt {w : World} {b : Nat} {v : Value} {xs : List UInt8} (h : Bld w b v xs) : ∀ k, v.ownBlock = some k → k < w.heap.size := by
  intro k hk
  obtain ⟨c, hc⟩ := row5 h.own k hk
  exact (Array.getElem?_eq_some_iff.1 hc).1

theorem Bld.slt {w : World} {b : Nat} {v : Value} {xs : List UInt8} (h : Bld w b v xs) : ∀ k, BS b v k → k < w.heap.size := by
  rintro k (rfl | e)
  · exact h.lt
  · exact h.rowlt k e

theorem Bld.ne {w : World} {b : Nat} {v : Value} {xs : List UInt8} (h : Bld w b v xs) : v.ownBlock ≠ some b := by
  intro e
  obtain ⟨c, hc⟩ := row5 h.own b e
  obtain ⟨p, _, hb⟩ := h.blk
  rw [hb] at hc
  simp at hc

theorem Bld.keep {w w' : World} {b : Nat} {v : Value} {xs : List UInt8} (h : Bld w b v xs) (hc : Chg Non w w') : Bld w' b v xs := by
  obtain ⟨p, hp, hb⟩ := h.blk
  exact ⟨⟨p, hp, by rw [hc.block b h.lt (fun x => x)]; exact hb⟩, h.own.kept (row := none) ⟨hc.os, hc.tape, hc.output, hc.size, fun k hk _ => hc.block k hk (fun x => x)⟩ (by cases v.ownBlock <;> simp), h.high⟩

theorem Bld.fresh (w : World) : Bld (w.alloc (.cells #[.pointer none, .slice none 0 0] 62)) w.heap.size (.slice none 0 0) [] :=
  ⟨⟨_, .inl rfl, heap_alloc_new w _⟩, World.ownsRow_nil _ _ _ _, fun k e => e.elim (fun x => by omega) (fun x => by simp [Value.ownBlock] at x)⟩

/-- What writing leaves: the builder's own block and its row alone may have changed. -/
structure Wrote (w : World) (b : Nat) (v : Value) (w' : World) (v' : Value) (xs : List UInt8) : Prop where
  bld : Bld w' b v' xs
  chg : Chg (BS b v) w w'
  row : ∀ k, v'.ownBlock = some k → v.ownBlock = some k ∨ w.heap.size ≤ k

theorem Wrote.trans {w w1 w2 : World} {b : Nat} {v v1 v2 : Value} {xs ys : List UInt8} (h : Wrote w b v w1 v1 xs) (k : Wrote w1 b v1 w2 v2 ys) : Wrote w b v w2 v2 ys := by
  refine ⟨k.bld, h.chg.trans k.chg (fun i hi e => ?_), fun i e => ?_⟩
  · rcases e with e | e
    · exact .inl e
    · rcases h.row i e with x | x
      · exact .inr x
      · omega
  · rcases k.row i e with x | x
    · exact h.row i x
    · have := h.chg.size; exact .inr (by omega)

theorem Wrote.refl {w : World} {b : Nat} {v : Value} {xs : List UInt8} (h : Bld w b v xs) : Wrote w b v w v xs := ⟨h, Chg.refl _ _, fun k e => .inl e⟩

/-- New memory alone ahead. -/
theorem Wrote.from {w w1 w2 : World} {b : Nat} {v v2 : Value} {xs ys : List UInt8} (h : Bld w b v xs) (hc : Chg Non w w1) (k : Wrote w1 b v w2 v2 ys) : Wrote w b v w2 v2 ys :=
  Wrote.trans ⟨h.keep hc, hc.non _, fun k e => .inl e⟩ k

theorem Wrote.then {w w1 w2 : World} {b : Nat} {v v1 : Value} {xs : List UInt8} (h : Wrote w b v w1 v1 xs) (hc : Chg Non w1 w2) : Wrote w b v w2 v1 xs :=
  h.trans ⟨h.bld.keep hc, hc.non _, fun k e => .inl e⟩

theorem Wrote.heap {w w' : World} {b : Nat} {v v' : Value} {xs : List UInt8} (h : Wrote w b v w' v' xs) {k : Nat} (hk : k < w.heap.size) (hn : ¬ BS b v k) : w'.heap[k]? = w.heap[k]? := h.chg.block k hk hn

theorem info62 : (Tryz.prog.info? 62).map (·.size) = some 2 := by kernel_rfl
theorem lies62 : liesAt Tryz.prog Tryz.prog.depth 62 (2 / Tryz.prog.cellsOf 62) 0 62 1 = true := by kernel_rfl

set_option maxHeartbeats 1000000 in
theorem copyCheck_fresh (b : Nat) (w : World) (h0 : w.cell? ⟨b, 0, none⟩ = some (.pointer none)) (hsh : w.shape? b = some (62, 2)) (hfz : w.frozen? ⟨b, 0, none⟩ = false) :
    Calls Tryz.prog 58 #[.pointer (some ⟨b, 0, none⟩)] w fun e w' => e = .returned (.tuple #[]) ∧ w' = w.setCell ⟨b, 0, none⟩ (.pointer (some ⟨b, 0, none⟩)) := by
  obtain ⟨j, hj, hjs⟩ := Option.map_eq_some_iff.1 info62
  go_enter Tryz.func58, Tryz.ntmps58
  go_wp2
  rw [Lib.run_to_unsafe w ⟨b, 0, none⟩ Tryz.underlying60 Tryz.underlying88 hj (by rw [hjs]; decide) hsh (Nat.zero_lt_succ 1)]
  simp only [Result.andThen]
  rw [Oper.upon_value]
  go_wp2
  rw [run_callFunc_extern Tryz.func71 (by kernel_rfl) (by kernel_rfl) (by kernel_rfl) (e := Extern.AbiNoEscape.same) (by kernel_rfl)]
  rw [Lib.run_noEscape]
  simp only [Result.andThen]
  rw [Oper.upon_value]
  go_wp2
  rw [Lib.run_from_unsafe w ⟨b, 0, none⟩ Tryz.underlying88 Tryz.underlying60 hj hsh lies62]
  simp only [Result.andThen]
  rw [Oper.upon_value]
  go_wp2
  go_end0
  exact ⟨rfl, rfl⟩

set_option maxHeartbeats 1000000 in
theorem copyCheck_used (b : Nat) (w : World) (h0 : w.cell? ⟨b, 0, none⟩ = some (.pointer (some ⟨b, 0, none⟩))) :
    Calls Tryz.prog 58 #[.pointer (some ⟨b, 0, none⟩)] w fun e w' => e = .returned (.tuple #[]) ∧ w' = w := by
  obtain ⟨j, hj, hjs⟩ := Option.map_eq_some_iff.1 info62
  go_enter Tryz.func58, Tryz.ntmps58
  go_wp2
  first
    | done
    | (rw [Lib.run_neq_ptr_same w ⟨b, 0, none⟩ Tryz.underlying60 hj]
       simp only [Result.andThen]
       rw [Oper.upon_value]
       go_wp2)
  go_end0
  exact ⟨rfl, rfl⟩
end Go.Proofs.YtbbopehpmnebiaaGreatDoor
