/-
  A value in a box beside a writer; small words on what is written.
-/
import Derived.Test.YtdhckndehijemaaTb
import Derived.Test.YtdhckndehijemaaSx
namespace Go.Proofs.Ytdhckndehijemaa
open Go.RowKit
set_option linter.unusedVariables false
set_option maxRecDepth 100000

theorem Rel.split {a b : Ty} {F : Nat → Prop} {w : World} {us1 us2 : List Value} {x : a.Dat × b.Dat} (h : Rel (.pair a b) F w (us1 ++ us2) x) (hl : us1.length = a.sz) : Rel a F w us1 x.1 ∧ Rel b F w us2 x.2 := by
  obtain ⟨vs1, vs2, e, h1, h2⟩ := h
  obtain ⟨e1, e2⟩ := List.append_inj e (by rw [hl, h1.len])
  subst e1; subst e2
  exact ⟨h1, h2⟩

/-- A block beside a writer. -/
structure Bk (w : World) (r : Nat) (v : Value) (B : Nat) (o : Obj) : Prop where
  blk : w.heap[B]? = some o
  ne : B ≠ r
  nv : ¬ v.ownBlock = some B
theorem Bk.wp {w w' : World} {r : Nat} {v v' : Value} {B : Nat} {o : Obj} {no : Bool} {xs : List Int} (h : Bk w r v B o) (k : WP r v w w' v' no xs) : Bk w' r v' B o := by
  have hl := lt_somW h.blk
  refine ⟨by rw [k.chg.block B hl (fun s => by rcases s with s | s; exact h.ne s; exact h.nv s)]; exact h.blk, h.ne, fun e => ?_⟩
  rcases k.gr with g | ⟨g, g1, g2⟩
  · rw [g] at e; exact h.nv e
  · rw [g1] at e; injection e with e; omega
theorem Bk.non {w w' : World} {r : Nat} {v : Value} {B : Nat} {o : Obj} (h : Bk w r v B o) (c : Chg Non w w') : Bk w' r v B o :=
  ⟨by rw [c.block B (lt_somW h.blk) (fun s => s)]; exact h.blk, h.ne, h.nv⟩
theorem Bk.new {w : World} {r : Nat} {v : Value} {no : Bool} {xs : List Int} (h : WM w r v no xs) (o : Obj) : Bk (w.alloc o) r v w.heap.size o :=
  ⟨heap_alloc_last w _, fun e => by have := h.lt; omega, fun e => by have := h.own.lt _ e; omega⟩
theorem Bk.cell {w : World} {r : Nat} {v : Value} {B : Nat} {c : Array Value} {T : TypeId} (h : Bk w r v B (.cells c T)) {i : Nat} {u : Value} (hu : c[i]? = some u) : w.cell? ⟨B, i, none⟩ = some u := by
  rw [cell_of_row w B i c T (0, 0) h.blk]; exact hu

/-- Written only where this is so: 'unless' ahead. -/
theorem WQ.wif {α : Type} {p : Pw α} {G r : Nat} {v v1 v2 : Value} {a b c : World} {no no2 : Bool} {xs ys : List Int} {x : α} (cd : α → Bool) (h : WP r v a b v1 (no || !cd x) xs) (k : WQ p G r v1 b c v2 (no || !cd x) no2 xs ys x) : WQ (wIf cd p) G r v a c v2 no no2 xs ys x := by
  refine ⟨h.trans k.wp, fun e => k.bad (by rw [e]; rfl), fun e => ?_, k.len⟩
  unfold wIf
  cases hc : cd x with
  | true =>
    rw [if_pos rfl]
    exact k.out (by rw [e, hc]; rfl)
  | false =>
    rw [if_neg (by decide)]
    exact .inl ⟨rfl, k.bad (by rw [e, hc]; rfl)⟩
end Go.Proofs.Ytdhckndehijemaa
