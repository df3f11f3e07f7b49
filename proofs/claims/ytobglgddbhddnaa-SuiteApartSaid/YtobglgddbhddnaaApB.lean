/-
  Append among the walks of this seat; bytes that a slice shows, by their numbers.
-/
import Derived.Test.YtobglgddbhddnaaAp
import Derived.Test.YtobglgddbhddnaaSl
namespace Go.Proofs.Ytobglgddbhddnaa
open Go.RowKit
set_option linter.unusedVariables false

theorem Chg.ap {w0 w w' : World} {S : Nat → Prop} (h : Chg w0 w) (k : Ap.Chg S w w') (hS : ∀ i, S i → w0.heap.size ≤ i) : Chg w0 w' :=
  ⟨k.os.trans h.os, k.tape.trans h.tape, k.output.trans h.output, Nat.le_trans h.size k.size, fun i hi =>
    (k.block i (Nat.lt_of_lt_of_le hi h.size) (fun e => by have := hS i e; omega)).trans (h.block i hi)⟩
theorem Ar.ap {w w' : World} {b : Nat} {c : Array Value} {S : Nat → Prop} (h : Ar w b c) (k : Ap.Chg S w w') (hn : ¬ S b) : Ar w' b c := by
  have hl := h.lt
  obtain ⟨t, h⟩ := h
  exact ⟨t, (k.block b hl hn).trans h⟩
theorem Chg.non {w w' : World} (h : Ap.Chg Ap.Non w w') : Chg w w' := (Chg.refl w).ap h (fun i e => e.elim)

theorem spot_none {w : World} {a : Addr} {v : Value} (h : w.cell? a = some v) : a.spot = none := by
  unfold World.cell? at h
  cases hs : a.spot with
  | none => rfl
  | some s =>
    exfalso
    revert h
    split
    · simp [hs]
    · simp

theorem Rd.chg {w w' : World} {v : Value} {xs : List Int} (h : Ap.Rd w v xs) (k : Chg w w') : Ap.Rd w' v xs := h.keep (fun i _ hi => k.block i hi)
theorem OwnV.chg {w w' : World} {v : Value} {xs : List Int} (h : Ap.OwnV w v xs) (k : Chg w w') : Ap.OwnV w' v xs := h.keep (fun i e => k.block i (h.lt i e))
theorem OwnV.empty (u : World) : Ap.OwnV (u.alloc (.cells #[] 5)) (.slice (some ⟨u.heap.size, 0, none⟩) 0 0) [] :=
  .inr ⟨_, _, _, _, rfl, rfl, Nat.le_refl _, by decide, #[], heap_alloc_last u _, by simp, by simp⟩

structure OwnN (w : World) (w' : World) (v : Value) (xs : List Int) : Prop where
  own : Ap.OwnV w' v xs
  new : ∀ k, v.ownBlock = some k → w.heap.size ≤ k
  chg : Chg w w'
theorem OwnN.more {w u u' : World} {v v' : Value} {xs ys : List Int} (h : OwnN w u v xs) (h1 : Ap.OwnV u' v' ys) (h2 : Ap.Chg (fun k => v.ownBlock = some k) u u') (h3 : v'.ownBlock = v.ownBlock ∨ v'.ownBlock = some u.heap.size) : OwnN w u' v' ys := by
  refine ⟨h1, fun k e => ?_, h.chg.ap h2 h.new⟩
  rcases h3 with h3 | h3
  · rw [h3] at e
    exact h.new k e
  · rw [h3] at e
    injection e with e
    rw [← e]
    exact h.chg.size
theorem OwnN.alloc {w u : World} {v : Value} {xs : List Int} (h : OwnN w u v xs) (o : Obj) : OwnN w (u.alloc o) v xs :=
  ⟨h.own.keep (fun k e => Below.heap_alloc _ _ _ (h.own.lt k e)), h.new, h.chg.alloc o⟩

/-- Bytes as numbers. -/
def nums (n : Nat) (f : Nat → By) : List Int := (List.range n).map fun i => ((f i).toNat : Int)
theorem nums_len (n : Nat) (f : Nat → By) : (nums n f).length = n := by simp [nums]
theorem nums_get (n : Nat) (f : Nat → By) {j : Nat} (h : j < n) : (nums n f)[j]? = some ((f j).toNat : Int) := by simp [nums, h]
theorem nums_succ (n : Nat) (f : Nat → By) : nums (n + 1) f = nums n f ++ [((f n).toNat : Int)] := by simp [nums, List.range_succ]
theorem nums_congr {n : Nat} {f g : Nat → By} (h : ∀ i, i < n → f i = g i) : nums n f = nums n g := by
  unfold nums
  refine List.map_congr_left fun i hi => ?_
  rw [h i (List.mem_range.1 hi)]

/-- A slice that can be read shows bytes in a row. -/
theorem Rd.bs {w : World} {v : Value} {n : Nat} {f : Nat → By} (h : Ap.Rd w v (nums n f)) (hn : 0 < n) : ∃ b o c, v = .slice (some ⟨b, o, none⟩) n c ∧ n ≤ c ∧ c ≤ 9223372036854775807 ∧ Bs w b o n f := by
  obtain ⟨ao, m, c, rfl, hm, hc, hmx, h0, hx⟩ := h
  rw [nums_len] at hm
  subst hm
  have hm : c ≤ 9223372036854775807 := by simpa [maxLen] using hmx
  cases ao with
  | none => have := h0 rfl; omega
  | some x =>
    have h1 := hx x rfl 0 _ (nums_get m f hn)
    have hs := spot_none h1
    have hs' : x.spot = none := by
      unfold Addr.add at hs
      split at hs
      · assumption
      · simp_all
    obtain ⟨b, o, sp⟩ := x
    dsimp only at hs'
    subst hs'
    refine ⟨b, o, c, rfl, hc, hm, fun j hj => ?_⟩
    have := hx _ rfl j _ (nums_get m f hj)
    have hadd : (⟨b, o, none⟩ : Addr).add j = ⟨b, o + j, none⟩ := by unfold Addr.add; split <;> simp_all
    rwa [hadd] at this
/-- Bytes in a row can be read. -/
theorem Bs.rd {w : World} {b o n c : Nat} {f : Nat → By} (h : Bs w b o n f) (hc : n ≤ c) (hm : c ≤ 9223372036854775807) : Ap.Rd w (.slice (some ⟨b, o, none⟩) n c) (nums n f) := by
  refine ⟨_, n, c, rfl, (nums_len n f).symm, hc, by simpa [maxLen] using hm, (fun e => by cases e), fun x e j u hj => ?_⟩
  injection e with e
  subst e
  have hj' : j < n := by
    have := (List.getElem?_eq_some_iff.1 hj).1
    rwa [nums_len] at this
  rw [nums_get n f hj'] at hj
  injection hj with hj
  have hadd : (⟨b, o, none⟩ : Addr).add j = ⟨b, o + j, none⟩ := by unfold Addr.add; split <;> simp_all
  rw [hadd, h j hj', ← hj]
theorem Ar.bs {w : World} {b n : Nat} {f : Nat → By} (h : Ar w b (ba n f)) : Bs w b 0 n f := fun j hj => by rw [Nat.zero_add]; exact (h.cell j).trans (ba_get n f hj)
end Go.Proofs.Ytobglgddbhddnaa
