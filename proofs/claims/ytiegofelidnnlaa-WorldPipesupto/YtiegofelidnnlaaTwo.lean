/-
  Two pipes, the program's and the document's, that hold the same.
-/
import Derived.Test.YtiegofelidnnlaaRefPipe3
import Derived.Test.YtiegofelidnnlaaDrawsWalk
namespace Go.Proofs.Ytiegofelidnnlaa
open Go.RowKit
set_option linter.unusedVariables false

/-- Both pipes. -/
structure Two (w : World) (p q : Nat) (room : Int) (vf va uf ua : Value) (f a : List Int) (cl br : Bool) : Prop where
  A : PipeA w p room vf va f a cl br
  B : PipeB w q room uf ua f a cl br
  fq : vf.ownBlock ≠ some q
  aq : va.ownBlock ≠ some q

theorem Two.pq {w : World} {p q : Nat} {room : Int} {vf va uf ua : Value} {f a : List Int} {cl br : Bool} (h : Two w p q room vf va uf ua f a cl br) : p ≠ q := by
  intro e
  have := h.A.blk
  rw [e, h.B.blk] at this
  simp at this

theorem Two.fresh {w w' : World} {p q : Nat} {room : Int} {vf va uf ua : Value} {f a : List Int} {cl br : Bool} (h : Two w p q room vf va uf ua f a cl br) {S : Nat → Prop} (hc : Chg S w w') (hS : ∀ k, S k → w.heap.size ≤ k) : Two w' p q room vf va uf ua f a cl br :=
  ⟨h.A.kept hc (fun e => by have := hS _ e; have := h.A.lt; omega) (fun k e e' => by have := hS _ e'; have := h.A.fly.lt k e; omega) (fun k e e' => by have := hS _ e'; have := h.A.arr.lt k e; omega),
   h.B.kept hc (fun e => by have := hS _ e; have := h.B.lt; omega) (fun k e e' => by have := hS _ e'; have := h.B.fly.lt k e; omega) (fun k e e' => by have := hS _ e'; have := h.B.arr.lt k e; omega), h.fq, h.aq⟩

theorem Two.drewN {w : World} {p q : Nat} {room : Int} {vf va uf ua : Value} {f a : List Int} {cl br : Bool} (h : Two w p q room vf va uf ua f a cl br) (n : Nat) : Two (w.drewN n) p q room vf va uf ua f a cl br :=
  ⟨h.A.drewN n, h.B.drewN n, h.fq, h.aq⟩


def PQ (p q : Nat) : Nat → Prop := fun k => k = p ∨ k = q

/-- First the program's pipe, then the document's. -/
theorem Two.step {w w3 w4 : World} {p q : Nat} {room : Int} {vf va uf ua vf' va' uf' ua' : Value} {f a f' a' : List Int} {cl br cl' br' : Bool} (h : Two w p q room vf va uf ua f a cl br)
    (hA : PipeA w3 p room vf' va' f' a' cl' br') (hc3 : Chg (One p) w w3) (h1 : ∀ k, vf'.ownBlock = some k → vf.ownBlock = some k ∨ w.heap.size ≤ k) (h2 : ∀ k, va'.ownBlock = some k → va.ownBlock = some k ∨ w.heap.size ≤ k)
    (hB : PipeB w4 q room uf' ua' f' a' cl' br') (hc4 : Chg (One q) w3 w4) : Two w4 p q room vf' va' uf' ua' f' a' cl' br' ∧ Chg (PQ p q) w w4 := by
  have hq := h.B.lt
  have hs := hc3.size
  have fq : vf'.ownBlock ≠ some q := fun e => by
    rcases h1 q e with e | e
    · exact h.fq e
    · omega
  have aq : va'.ownBlock ≠ some q := fun e => by
    rcases h2 q e with e | e
    · exact h.aq e
    · omega
  exact ⟨⟨hA.kept hc4 (fun e => h.pq e) (fun k e e' => fq (by rw [e, e'])) (fun k e e' => aq (by rw [e, e'])), hB, fq, aq⟩, (hc3.mono (fun _ _ e => .inl e)).trans hc4 (fun _ _ e => .inr e)⟩

/-- The document's pipe, behind what the program's pipe did. -/
theorem Two.keepB {w w3 : World} {p q : Nat} {room : Int} {vf va uf ua : Value} {f a : List Int} {cl br : Bool} (h : Two w p q room vf va uf ua f a cl br) (hc3 : Chg (One p) w w3) : PipeB w3 q room uf ua f a cl br :=
  h.B.kept hc3 (fun e => h.pq e.symm) (fun k e e' => h.B.fly.ne h.A.blk (by decide) (by rw [e, e'])) (fun k e e' => h.B.arr.ne h.A.blk (by decide) (by rw [e, e']))
end Go.Proofs.Ytiegofelidnnlaa
