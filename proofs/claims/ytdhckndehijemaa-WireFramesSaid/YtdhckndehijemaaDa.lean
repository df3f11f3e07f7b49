/-
  The document's writer in memory.
-/
import Derived.Test.YtdhckndehijemaaHd
namespace Go.Proofs.Ytdhckndehijemaa
open Go.RowKit
set_option linter.unusedVariables false
set_option maxRecDepth 100000

/-- A writer: its bytes, whether something is wrong. -/
structure VM (w : World) (r : Nat) (v : Value) (no : Bool) (xs : List Int) : Prop where
  blk : w.heap[r]? = some (.cells #[v, .bool no] 115)
  own : OwnV w v xs
  new : ∀ k, v.ownBlock = some k → k ≠ r
  byt : Byt xs

theorem VM.lt {w : World} {r : Nat} {v : Value} {no : Bool} {xs : List Int} (h : VM w r v no xs) : r < w.heap.size := (Array.getElem?_eq_some_iff.1 h.blk).1
theorem VM.facts {w : World} {r : Nat} {v : Value} {no : Bool} {xs : List Int} (h : VM w r v no xs) : w.cell? ⟨r, 0, none⟩ = some v ∧ w.cell? ⟨r, 1, none⟩ = some (.bool no) ∧ w.frozen? ⟨r, 0, none⟩ = false ∧ w.frozen? ⟨r, 1, none⟩ = false :=
  ⟨(cell2 h.blk).1, (cell2 h.blk).2, frozen_of_row w r 0 _ _ h.blk, frozen_of_row w r 1 _ _ h.blk⟩
theorem VM.keep {S : Nat → Prop} {w w' : World} {r : Nat} {v : Value} {no : Bool} {xs : List Int} (h : VM w r v no xs) (c : Chg S w w') (hr : ¬ S r) (hS : ∀ k, v.ownBlock = some k → ¬ S k) : VM w' r v no xs :=
  ⟨by rw [c.block r h.lt hr]; exact h.blk, h.own.keep (fun k e => c.block k (h.own.lt k e) (hS k e)), h.new, h.byt⟩
theorem VM.non {w w' : World} {r : Nat} {v : Value} {no : Bool} {xs : List Int} (h : VM w r v no xs) (c : Chg Non w w') : VM w' r v no xs := h.keep c (fun s => s) (fun k e s => s)

structure VP (r : Nat) (v : Value) (w w' : World) (v' : Value) (no : Bool) (xs : List Int) : Prop where
  wm : VM w' r v' no xs
  chg : Chg (Wr r v) w w'
  gr : Gr r v v' w.heap.size

theorem VP.refl {w : World} {r : Nat} {v : Value} {no : Bool} {xs : List Int} (h : VM w r v no xs) : VP r v w w v no xs := ⟨h, Chg.refl _ _, .inl rfl⟩
theorem VP.trans {r : Nat} {v v1 v2 : Value} {a b c : World} {no no' : Bool} {xs ys : List Int} (h : VP r v a b v1 no xs) (k : VP r v1 b c v2 no' ys) : VP r v a c v2 no' ys := by
  refine ⟨k.wm, h.chg.trans k.chg (fun i hi q => ?_), ?_⟩
  · rcases q with q | q
    · exact .inl q
    · rcases h.gr with g | ⟨g, g1, g2⟩
      · rw [g] at q; exact .inr q
      · rw [g1] at q; injection q with q; omega
  · rcases k.gr with g | ⟨g, g1, g2⟩
    · rcases h.gr with g' | ⟨g', g1', g2'⟩
      · exact .inl (g.trans g')
      · exact .inr ⟨g', g.trans g1', g2'⟩
    · exact .inr ⟨g, g1, Nat.le_trans h.chg.size g2⟩
theorem VP.ahead {r : Nat} {v v1 : Value} {a b c : World} {no : Bool} {xs : List Int} (h : VP r v b c v1 no xs) (k : Chg Non a b) : VP r v a c v1 no xs :=
  ⟨h.wm, (k.non _).trans h.chg (fun _ _ q => q), by rcases h.gr with g | ⟨g, g1, g2⟩; exact .inl g; exact .inr ⟨g, g1, Nat.le_trans k.size g2⟩⟩
theorem VP.after {r : Nat} {v v1 : Value} {a b c : World} {no : Bool} {xs : List Int} (h : VP r v a b v1 no xs) (k : Chg Non b c) : VP r v a c v1 no xs :=
  ⟨h.wm.non k, h.chg.trans k (fun _ _ q => q.elim), h.gr⟩

theorem VM.bad {w : World} {r : Nat} {v : Value} {no : Bool} {xs : List Int} (h : VM w r v no xs) : VP r v w (w.setCell ⟨r, 1, none⟩ (.bool true)) v true xs := by
  have c := chg_rest w r 1 (.bool true)
  exact ⟨⟨set_two1 _ h.blk, h.own.keep (fun k e => c.block k (h.own.lt k e) (fun s => by have s' : k = r := s; have := h.new k e; omega)), h.new, h.byt⟩, c.mono (fun _ _ q => .inl q), .inl rfl⟩

/-- A byte more. -/
theorem VM.app {w w2 : World} {r : Nat} {v v2 : Value} {no : Bool} {xs ys : List Int} {o : Obj} (h : VM w r v no xs) (h2 : OwnV w2 v2 (xs ++ ys)) (c : Chg (fun k => v.ownBlock = some k) (w.alloc o) w2) (g : v2.ownBlock = v.ownBlock ∨ v2.ownBlock = some (w.heap.size + 1)) (hb : Byt ys) :
    VP r v w (w2.setCell ⟨r, 0, none⟩ v2) v2 no (xs ++ ys) ∧ w2.heap[r]? = some (.cells #[v, .bool no] 115) := by
  have c1 : Chg (fun k => v.ownBlock = some k) w w2 := ((Chg.refl _ _).alloc o).trans c (fun _ _ q => q)
  have hr := h.lt
  have hne : ¬ v.ownBlock = some r := fun e => by have := h.new r e; omega
  have hb2 : w2.heap[r]? = some (.cells #[v, .bool no] 115) := by rw [c1.block r hr hne]; exact h.blk
  have cs := chg_rest w2 r 0 v2
  have hnew : ∀ k, v2.ownBlock = some k → k ≠ r := fun k e => by
    rcases g with g | g
    · rw [g] at e; exact h.new k e
    · rw [g] at e; injection e with e; omega
  refine ⟨⟨⟨set_two0 _ hb2, h2.keep (fun k e => cs.block k (h2.lt k e) (fun s => by have s' : k = r := s; have := hnew k e; omega)), hnew, h.byt.append hb⟩, ?_, ?_⟩, hb2⟩
  · exact (c1.mono (fun _ _ q => .inr q)).trans cs (fun i hi q => .inl q)
  · rcases g with g | g
    · exact .inl g
    · exact .inr ⟨_, g, by omega⟩
end Go.Proofs.Ytdhckndehijemaa
