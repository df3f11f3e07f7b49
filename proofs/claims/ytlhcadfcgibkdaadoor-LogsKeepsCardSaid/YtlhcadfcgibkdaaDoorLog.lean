/-
  A log: New, Lost.
-/
import Derived.Lib.Builder
import Derived.Test.YtlhcadfcgibkdaaDoorStrs
import Derived.BigQuiet
namespace Go.Proofs.YtlhcadfcgibkdaaDoor
open Go.RowKit
set_option linter.unusedVariables false
set_option maxRecDepth 100000

theorem newTwo (w : World) (o1 o2 : Obj) : ((w.alloc o1).alloc o2).heap[w.heap.size + 1]? = some o2 := by
  have := heap_alloc_new (w.alloc o1) o2
  rwa [show (w.alloc o1).heap.size = w.heap.size + 1 by simp] at this

/-- A log: its cells, its lines as they lie. -/
structure LogSt (w : World) (p most : Nat) (lv : Value) (first lost : Nat) (mv : Value) (L : List ByteArray) : Prop where
  blk : w.heap[p]? = some (.cells #[.int .i64 most, lv, .int .i64 first, .int .u64 lost, mv] 82 (0, 0))
  own : OwnVS w lv L
  m1 : 1 ≤ most
  m2 : most ≤ 4096
  fm : first < most
  le : L.length ≤ most
  f0 : L.length < most → first = 0
  nn : L = [] → lv = .slice none 0 0

def kept (L : List ByteArray) (first : Nat) : List ByteArray := L.drop first ++ L.take first

def LS (p : Nat) (lv : Value) : Nat → Prop := fun k => k = p ∨ lv.ownBlock = some k

/-- What New leaves. -/
structure NewP (w w' : World) (most p b : Nat) : Prop where
  st : LogSt w' p most (.slice none 0 0) 0 0 (.map (some b)) []
  map : w'.heap[b]? = some (.map #[] 0)
  np : w.heap.size ≤ p
  nb : w.heap.size ≤ b
  lb : b < w'.heap.size
  chg : Chg Non w w'

theorem new_no (most : Int) (w : World) (h : ¬ (1 ≤ most ∧ most ≤ 4096)) :
    Calls Tryd.prog 14 #[.int .i64 most] w fun e w' => e = .returned (.tuple #[.pointer none, .int .i64 1]) ∧ w' = w := by
  by_cases h1 : most < 1
  · go_enter Tryd.func14, Tryd.ntmps14
    go_wp2
    go_ret2
    exact ⟨rfl, rfl⟩
  · have h2 : 4096 < most := by omega
    go_enter Tryd.func14, Tryd.ntmps14
    go_wp2
    go_ret2
    exact ⟨rfl, rfl⟩

theorem new_any (most : Nat) (w : World) (h1 : 1 ≤ most) (h2 : most ≤ 4096) :
    Calls Tryd.prog 14 #[.int .i64 most] w fun e w' => ∃ p, e = .returned (.tuple #[.pointer (some ⟨p, 0, none⟩), .int .i64 0]) ∧ ∃ b, NewP w w' most p b := by
  have hmm := @run_makeMap Tryd.prog
  have h1' : ¬ ((most : Int) < 1) := by omega
  have h2' : ¬ ((4096 : Int) < most) := by omega
  go_enter Tryd.func14, Tryd.ntmps14
  go_wp2
  go_ret2
  refine ⟨w.heap.size + 1, rfl, w.heap.size, ⟨newTwo w _ _, .inl ⟨rfl, rfl⟩, h1, h2, by omega, by simp, fun _ => rfl, fun _ => rfl⟩, ?_, by omega, Nat.le_refl _, by simp; omega, ((Chg.refl _ _).alloc _).alloc _⟩
  exact (Below.heap_alloc _ _ _ (by simp)).trans (heap_alloc_new w _)

theorem LogSt.lt {w : World} {p most : Nat} {lv : Value} {first lost : Nat} {mv : Value} {L : List ByteArray} (h : LogSt w p most lv first lost mv L) : p < w.heap.size := (Array.getElem?_eq_some_iff.1 h.blk).1

theorem OwnVS.blk {w : World} {v : Value} {L : List ByteArray} (h : OwnVS w v L) : ∀ k, v.ownBlock = some k → ∃ c, w.heap[k]? = some (.cells c 9 (0, 0)) := by
  intro k e
  rcases h with ⟨rfl, _⟩ | ⟨g, off, n, cap, rfl, ho⟩
  · simp [Value.ownBlock] at e
  · simp [Value.ownBlock] at e
    subst e
    obtain ⟨cur, hg, _⟩ := ho.blk
    exact ⟨cur, hg⟩

theorem OwnVS.shape {w : World} {v : Value} {L : List ByteArray} (h : OwnVS w v L) : ∃ ao c, v = .slice ao L.length c ∧ L.length ≤ c ∧ c ≤ maxLen ∧ (ao = none → L = [] ∧ c = 0) := by
  rcases h with ⟨rfl, rfl⟩ | ⟨g, off, n, cap, rfl, ho⟩
  · exact ⟨none, 0, rfl, Nat.le_refl _, by decide, fun _ => ⟨rfl, rfl⟩⟩
  · exact ⟨some ⟨g, off, none⟩, cap, by rw [ho.len], by have := ho.len; have := ho.le; omega, ho.mx, fun e => by cases e⟩

theorem LogSt.keep {w w' : World} {p most : Nat} {lv : Value} {first lost : Nat} {mv : Value} {L : List ByteArray} (h : LogSt w p most lv first lost mv L) {S : Nat → Prop} (hc : Chg S w w') (hS : ∀ k, LS p lv k → ¬ S k) : LogSt w' p most lv first lost mv L :=
  ⟨by rw [hc.block p h.lt (hS p (.inl rfl))]; exact h.blk, h.own.keep (fun k e => hc.block k (h.own.lt k e) (hS k (.inr e))), h.m1, h.m2, h.fm, h.le, h.f0, h.nn⟩

theorem LogSt.non {w w' : World} {p most : Nat} {lv : Value} {first lost : Nat} {mv : Value} {L : List ByteArray} (h : LogSt w p most lv first lost mv L) (hc : Chg Non w w') : LogSt w' p most lv first lost mv L := h.keep hc (fun _ _ x => x)

theorem LogSt.rowp {w : World} {p most : Nat} {lv : Value} {first lost : Nat} {mv : Value} {L : List ByteArray} (h : LogSt w p most lv first lost mv L) : lv.ownBlock ≠ some p := by
  intro e
  obtain ⟨c, hc⟩ := h.own.blk p e
  rw [h.blk] at hc
  cases hc

theorem LogSt.cells {w : World} {p most : Nat} {lv : Value} {first lost : Nat} {mv : Value} {L : List ByteArray} (h : LogSt w p most lv first lost mv L) :
    w.cell? ⟨p, 0, none⟩ = some (.int .i64 most) ∧ w.cell? ⟨p, 1, none⟩ = some lv ∧ w.cell? ⟨p, 2, none⟩ = some (.int .i64 first) ∧ w.cell? ⟨p, 3, none⟩ = some (.int .u64 lost) ∧ w.cell? ⟨p, 4, none⟩ = some mv := by
  refine ⟨?_, ?_, ?_, ?_, ?_⟩ <;> rw [Lib.cell_of_heap h.blk] <;> rfl

set_option maxHeartbeats 400000 in
theorem lost_any (p most : Nat) (lv : Value) (first lost : Nat) (mv : Value) (L : List ByteArray) (w : World) (h : LogSt w p most lv first lost mv L) :
    Calls Tryd.prog 17 #[.pointer (some ⟨p, 0, none⟩)] w fun e w' => e = .returned (.int .u64 lost) ∧ w' = w := by
  obtain ⟨-, -, -, c3, -⟩ := h.cells
  clear h
  go_enter Tryd.func17, Tryd.ntmps17
  go_wp2
  go_ret
  exact ⟨rfl, rfl⟩
end Go.Proofs.YtlhcadfcgibkdaaDoor
