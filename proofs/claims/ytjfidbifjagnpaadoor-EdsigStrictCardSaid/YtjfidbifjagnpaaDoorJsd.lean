/-
  Append among the walks of this seat; rows of bytes that are written in place; parts that can be read.
  A key's block, and the code of bytes under a key, as plain lists; a digest that begins with a key's block.
-/
import Derived.Test.YtjfidbifjagnpaaDoorJq
import Derived.Test.YtjfidbifjagnpaaDoorJsc
import Derived.Deep.CutBlock
namespace Go.Proofs.YtjfidbifjagnpaaDoor.Sha
open Go.RowKit
set_option linter.unusedVariables false
set_option maxRecDepth 100000
theorem Chg.ap {w0 w w' : World} {S : Nat → Prop} (h : Chg w0 w) (k : Ap.Chg S w w') (hS : ∀ i, S i → w0.heap.size ≤ i) : Chg w0 w' :=
 ⟨k.os.trans h.os, k.tape.trans h.tape, k.output.trans h.output, Nat.le_trans h.size k.size, fun i hi =>
  (k.block i (Nat.lt_of_lt_of_le hi h.size) (fun e => by have := hS i e; omega)).trans (h.block i hi)⟩
theorem Ar.ap {w w' : World} {b : Nat} {c : Array Value} {S : Nat → Prop} (h : Ar w b c) (k : Ap.Chg S w w') (hn : ¬ S b) : Ar w' b c := by
 have hl := h.lt
 obtain ⟨t, h⟩ := h
 exact ⟨t, (k.block b hl hn).trans h⟩
theorem DgC.ap {w w' : World} {D : Nat} {h : Int} {all : List Int} {c : Int} {S : Nat → Prop} (k : DgC w D h all c) (hc : Ap.Chg S w w') (hn : ¬ S D) : DgC w' D h all c := by
 obtain ⟨rest, k1, k2⟩ := k
 exact ⟨rest, k1.ap hc hn, k2⟩
theorem spot_none {w : World} {a : Addr} {v : Value} (h : w.cell? a = some v) : a.spot = none := by
 unfold World.cell? at h
 cases hs : a.spot with
 | none => rfl
 | some s =>
  exfalso
  revert h
  split
  ·simp [hs]
  ·simp
theorem Rd.chg {w w' : World} {v : Value} {xs : List Int} (h : Ap.Rd w v xs) (k : Chg w w') : Ap.Rd w' v xs := h.keep (fun i _ hi => k.block i hi)
theorem OwnV.chg {w w' : World} {v : Value} {xs : List Int} (h : Ap.OwnV w v xs) (k : Chg w w') : Ap.OwnV w' v xs := h.keep (fun i e => k.block i (h.lt i e))
theorem OwnV.cb {D : Nat} {w w' : World} {v : Value} {xs : List Int} (h : Ap.OwnV w v xs) (k : Cb D w w') (hn : ∀ i, v.ownBlock = some i → i ≠ D) : Ap.OwnV w' v xs := h.keep (fun i e => k.block i (h.lt i e) (hn i e))
theorem Rd.slA {w : World} {v : Value} {xs : List Int} (h : Ap.Rd w v xs) (hl : xs.length < 4611686018427387904) : SlA w v xs := by
 obtain ⟨ao, n, c, rfl, hn, hc, hmx, h0, hx⟩ := h
 have hm : c ≤ 9223372036854775807 := by simpa [maxLen] using hmx
 cases ao with
 | none =>
  have hc0 := h0 rfl
  have hn0 : n = 0 := by omega
  subst hn0 hc0
  exact .inl ⟨rfl, List.eq_nil_of_length_eq_zero hn.symm⟩
 | some x =>
  cases xs with
  | nil =>
   subst hn
   exact .inr (.inl ⟨_, _, rfl, rfl⟩)
  | cons y ys =>
   have h1 := hx x rfl 0 y rfl
   have hs := spot_none h1
   have hs' : x.spot = none := by
    unfold Addr.add at hs
    split at hs
    ·assumption
    ·simp_all
   obtain ⟨b, o, sp⟩ := x
   dsimp only at hs'
   subst hs'
   subst hn
   refine .inr (.inr ⟨b, o, c, rfl, hc, ⟨by omega, hl⟩, fun j hj => ?_⟩)
   have hadd : (⟨b, o, none⟩ : Addr).add j = ⟨b, o + j, none⟩ := by unfold Addr.add; split <;> simp_all
   have := hx _ rfl j ((y :: ys)[j]'hj) (List.getElem?_eq_getElem hj)
   rw [hadd] at this
   rw [this]
   simp [gd, List.getD_eq_getElem?_getD, List.getElem?_eq_getElem hj]
def BRow (w : World) (g off n : Nat) : Prop := ∃ cur, Ar w g cur ∧ ∀ k, k < n → ∃ x, cur[off + k]? = some (.int .u8 x)
theorem BRow.lt {w : World} {g off n : Nat} (h : BRow w g off n) : g < w.heap.size := by
 obtain ⟨cur, h1, _⟩ := h
 exact h1.lt
theorem BRow.cell {w : World} {g off n : Nat} (h : BRow w g off n) {k : Nat} (hk : k < n) : (∃ x, w.cell? ⟨g, off + k, none⟩ = some (.int .u8 x)) ∧ w.frozen? ⟨g, off + k, none⟩ = false := by
 obtain ⟨cur, h1, h2⟩ := h
 obtain ⟨x, hx⟩ := h2 k hk
 exact ⟨⟨x, (h1.cell _).trans hx⟩, h1.frozen _⟩
theorem BRow.set {w : World} {g off n : Nat} (h : BRow w g off n) (j : Nat) (y : Int) : BRow (w.setCell ⟨g, j, none⟩ (.int .u8 y)) g off n := by
 obtain ⟨cur, h1, h2⟩ := h
 refine ⟨_, h1.set j (.int .u8 y), fun k hk => ?_⟩
 obtain ⟨x, hx⟩ := h2 k hk
 by_cases e : j = off + k
 ·subst e
  have hl : off + k < cur.size := by
   rcases Nat.lt_or_ge (off + k) cur.size with h' | h'
   ·exact h'
   ·rw [Array.getElem?_eq_none h'] at hx
    cases hx
  exact ⟨y, Array.getElem?_setIfInBounds_self_of_lt hl⟩
 ·exact ⟨x, by rw [Array.getElem?_setIfInBounds_ne e]; exact hx⟩
end Go.Proofs.YtjfidbifjagnpaaDoor.Sha
namespace Go.Proofs.YtjfidbifjagnpaaDoor.Sha
open Go.RowKit
set_option linter.unusedVariables false
set_option maxRecDepth 100000
def sumL (q : Int) (xs : List Int) : List Int := (List.range (sizeOfH q)).map (sumByte q (sumSt q xs))
theorem Rd.sl {w : World} {v : Value} {xs : List Int} (h : Ap.Rd w v xs) (hl : xs.length < 4611686018427387904) (D : Nat) (hD : v.ownBlock ≠ some D) : Sl w D v xs := by
 rcases Rd.slA h hl with k | k | ⟨b, o, cap, k1, k2, k3, k4⟩
 ·exact .inl k
 ·exact .inr (.inl k)
 ·refine .inr (.inr ⟨b, o, cap, k1, k2, k3, k4, fun e => hD ?_⟩)
  rw [k1, e]
  rfl
theorem Cb.row {b : Nat} {v w : World} (h : Cb b v w) (c : Array Value) : Cb b v (w.setRow b c) :=
 ⟨h.os, h.tape, h.output, by simp [World.setRow]; exact h.size, fun k hk hb => (setRow_other _ _ _ _ hb).trans (h.block k hk hb)⟩
end Go.Proofs.YtjfidbifjagnpaaDoor.Sha
