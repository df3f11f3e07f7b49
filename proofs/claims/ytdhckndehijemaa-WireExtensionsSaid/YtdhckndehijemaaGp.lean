/-
  What get answers, plainly.
-/
import Derived.Test.YtdhckndehijemaaXs
import Derived.Deep.QuietTactic
import Derived.Deep.RegionHeld3
namespace Go.Proofs.Ytdhckndehijemaa
open Go.RowKit
set_option linter.unusedVariables false
set_option maxRecDepth 100000

/-- The whole of bytes: the value, or zeros, and the alert. -/
def outc {α : Type} (p : Pr α) (z : α) (xs : List Int) : α × Int := match p xs with
  | none => (z, 50)
  | some (a, ys, o) => if ys ≠ [] then (z, 50) else if o then (z, 47) else (a, 0)

structure GP (t : Ty) (p : Pr t.Dat) (z : t.Dat) (w w' : World) (xs : List Int) (us : List Value) (al : Int) : Prop where
  chg : Chg Non w w'
  out : ∃ x, outc p z xs = (x, al) ∧ Rel t (Btw w.heap.size w'.heap.size) w' us x

theorem outc_more {α : Type} {p : Pr α} {z x : α} {xs ys : List Int} {s' : St} {al : Int} (h : Res p (some (xs, false)) x s') (k : AB s' ys al) (hy : ys ≠ []) : outc p z xs = (z, 50) := by
  unfold Res at h
  dsimp only at h
  unfold outc
  cases hp : p xs with
  | none => rfl
  | some q =>
    obtain ⟨a, ys', o⟩ := q
    rw [hp] at h
    dsimp only at h ⊢
    rcases k with ⟨e, -⟩ | ⟨o', e, -⟩
    · rw [h.2] at e; cases e
    · rw [h.2] at e
      injection e with e
      injection e with e _
      rw [if_pos (by rw [e]; exact hy)]
theorem outc_alert {α : Type} {p : Pr α} {z x : α} {xs : List Int} {s' : St} {al : Int} (h : Res p (some (xs, false)) x s') (k : AB s' [] al) (ha : al ≠ 0) : outc p z xs = (z, al) := by
  unfold Res at h
  dsimp only at h
  unfold outc
  cases hp : p xs with
  | none =>
    rw [hp] at h
    dsimp only at h ⊢
    rcases k with ⟨e, rfl⟩ | ⟨o', e, -⟩
    · rfl
    · rw [h] at e; cases e
  | some q =>
    obtain ⟨a, ys', o⟩ := q
    rw [hp] at h
    dsimp only at h ⊢
    rcases k with ⟨e, -⟩ | ⟨o', e, rfl⟩
    · rw [h.2] at e; cases e
    · rw [h.2] at e
      injection e with e
      injection e with e1 e2
      rw [if_neg (by simpa using e1)]
      cases o with
      | true =>
        have : o' = true := by rw [← e2]; rfl
        subst this
        rfl
      | false =>
        have : o' = false := by rw [← e2]; rfl
        subst this
        exact absurd rfl ha
theorem outc_ok {α : Type} {p : Pr α} {z x : α} {xs : List Int} {s' : St} (h : Res p (some (xs, false)) x s') (k : AB s' [] 0) : outc p z xs = (x, 0) := by
  unfold Res at h
  dsimp only at h
  unfold outc
  cases hp : p xs with
  | none =>
    rw [hp] at h
    dsimp only at h
    rcases k with ⟨-, e⟩ | ⟨o', e, -⟩
    · cases e
    · rw [h] at e; cases e
  | some q =>
    obtain ⟨a, ys', o⟩ := q
    rw [hp] at h
    dsimp only at h ⊢
    rcases k with ⟨e, -⟩ | ⟨o', e, e0⟩
    · rw [h.2] at e; cases e
    · rw [h.2] at e
      injection e with e
      injection e with e1 e2
      rw [if_neg (by simpa using e1)]
      cases o with
      | true =>
        have : o' = true := by rw [← e2]; rfl
        subst this
        cases e0
      | false => rw [if_neg (by decide), h.1]

theorem Chg.drewN {S : Nat → Prop} {a b : World} (h : Chg S a b) (n : Nat) : Chg S a (b.drewN n) := ⟨h.os, h.tape, h.output, h.size, h.block⟩

/-- A reader that begins. -/
theorem RS.begin {w : World} {v : Value} {xs : List Int} (h : Bt (Bel w.heap.size) w v xs) : RS (w.alloc (.cells #[v, .int .i64 0] 227)) w.heap.size (some (xs, false)) := by
  obtain ⟨h1, h2, h3⟩ := h
  exact ⟨v, 0, xs, ⟨heap_alloc_last w _, h1.chg ((Chg.refl _ _).alloc _), h2, h3⟩, .inr ⟨false, rfl, rfl⟩⟩
theorem GP.ok {t : Ty} {p : Pr t.Dat} {z x : t.Dat} {w w1 w2 w3 : World} {xs : List Int} {us : List Value} {s' : St} (h : RP t p w1 w2 w.heap.size (some (xs, false)) us x) (q : Res p (some (xs, false)) x s') (k : AB s' [] 0) (c1 : Chg Non w w1) (c2 : Chg Non w2 w3) : GP t p z w w3 xs us 0 :=
  ⟨(c1.trans h.ps.chg (fun i hi e => by have e' : i = w.heap.size := e; omega)).two c2, x, outc_ok q k, (h.rel.oldN c2).btw c1.size c2.size⟩
theorem GP.bad {t : Ty} {p : Pr t.Dat} {z x : t.Dat} {w w1 w2 w3 : World} {xs ys : List Int} {us us0 : List Value} {s' : St} {al al' : Int} (h : RP t p w1 w2 w.heap.size (some (xs, false)) us x) (q : Res p (some (xs, false)) x s') (k : AB s' ys al) (c1 : Chg Non w w1) (c2 : Chg (One w.heap.size) w2 w3)
    (ha : (ys ≠ [] ∧ al' = 50) ∨ (ys = [] ∧ al ≠ 0 ∧ al' = al)) (hz : Rel t (Btw w.heap.size w3.heap.size) w3 us0 z) : GP t p z w w3 xs us0 al' := by
  refine ⟨((c1.trans h.ps.chg (fun i hi e => by have e' : i = w.heap.size := e; omega)).trans c2 (fun i hi e => by have e' : i = w.heap.size := e; omega)), z, ?_, hz⟩
  rcases ha with ⟨h1, rfl⟩ | ⟨rfl, h2, rfl⟩
  · exact outc_more q k h1
  · exact outc_alert q k h2
theorem Rel.nil (t : Ty) (F : Nat → Prop) (w : World) : Rel (.lst t) F w [.slice none 0 0] [] := ⟨none, 0, 0, rfl, rfl, Nat.le_refl _, by decide, fun _ => rfl, fun b e => by cases e⟩
theorem Rel.nilB (F : Nat → Prop) (w : World) : Rel .byt F w [.slice none 0 0] [] := ⟨_, rfl, Rd.nil w, Byt.nil, fun k e => by cases e⟩
theorem Rel.empty (F : Nat → Prop) (w : World) : Rel .str F w [.string ⟨#[]⟩] [] := ⟨rfl, Byt.nil⟩
theorem Rel.zero (k : IntKind) (F : Nat → Prop) (w : World) : Rel (.num k) F w [.int k 0] (show (Ty.num k).Dat from (0 : Int)) := ⟨rfl, Int.le_refl _, by cases k <;> decide⟩
end Go.Proofs.Ytdhckndehijemaa
