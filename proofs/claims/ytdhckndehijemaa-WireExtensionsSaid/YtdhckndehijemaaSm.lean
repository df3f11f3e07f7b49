/-
  Small calls: slices of bytes taken apart; tags, lengths, copies.
-/
import Derived.Test.YtdhckndehijemaaBase
import Derived.Laws.BitsAllLaws
import Derived.Laws.BitsLemmas
import Derived.Deep.WholeRow
import Derived.Laws.Rows
import Derived.Lib.SliceRun
import Derived.Deep.Cut
import Derived.Deep.CutBlock
namespace Go.Proofs.Ytdhckndehijemaa
open Go.RowKit
set_option linter.unusedVariables false
set_option maxRecDepth 100000

theorem ret_int {k : IntKind} {a b : Int} (h : a = b) : Ending.returned (.int k a) = .returned (.int k b) := by rw [h]
theorem ret_bool {a b : Bool} (h : a = b) : Ending.returned (.bool a) = .returned (.bool b) := by rw [h]

theorem spot_none {w : World} {a : Addr} {v : Value} (h : w.cell? a = some v) : a.spot = none := by
  unfold World.cell? at h
  cases hs : a.spot with
  | none => rfl
  | some s =>
    exfalso
    revert h
    split
    · simp [hs]
    · simp

/-- Bytes in a row of memory. -/
def Bs (w : World) (b o : Nat) (xs : List Int) : Prop := ∀ j u, xs[j]? = some u → w.cell? ⟨b, o + j, none⟩ = some (.int .u8 u)

theorem Rd.bs {w : World} {v : Value} {xs : List Int} (h : Rd w v xs) (hn : xs ≠ []) : ∃ b o c, v = .slice (some ⟨b, o, none⟩) xs.length c ∧ xs.length ≤ c ∧ c ≤ 9223372036854775807 ∧ Bs w b o xs := by
  obtain ⟨ao, m, c, rfl, hm, hc, hmx, h0, hx⟩ := h
  have hp : 0 < xs.length := List.length_pos_iff.2 hn
  have hm' : c ≤ 9223372036854775807 := by simpa [maxLen] using hmx
  cases ao with
  | none => have := h0 rfl; omega
  | some x =>
    have h1 := hx x rfl 0 _ (List.getElem?_eq_getElem hp)
    have hs := spot_none h1
    have hs' : x.spot = none := by
      unfold Addr.add at hs
      split at hs
      · assumption
      · simp_all
    obtain ⟨b, o, sp⟩ := x
    dsimp only at hs'
    subst hs'
    refine ⟨b, o, c, by rw [hm], by omega, hm', fun j u hj => ?_⟩
    have := hx _ rfl j u hj
    have hadd : (⟨b, o, none⟩ : Addr).add j = ⟨b, o + j, none⟩ := by unfold Addr.add; split <;> simp_all
    rwa [hadd] at this

theorem Bs.rd {w : World} {b o n c : Nat} {xs : List Int} (h : Bs w b o xs) (hn : n = xs.length) (hc : n ≤ c) (hm : c ≤ 9223372036854775807) : Rd w (.slice (some ⟨b, o, none⟩) n c) xs := by
  refine ⟨_, n, c, rfl, hn, hc, by simpa [maxLen] using hm, (fun e => by cases e), fun x e j u hj => ?_⟩
  injection e with e
  subst e
  have hadd : (⟨b, o, none⟩ : Addr).add j = ⟨b, o + j, none⟩ := by unfold Addr.add; split <;> simp_all
  rw [hadd, h j u hj]

theorem Rd.empty {w : World} {v : Value} (h : Rd w v []) : ∃ ao c, v = .slice ao 0 c ∧ c ≤ 9223372036854775807 := by
  obtain ⟨ao, m, c, rfl, hm, hc, hmx, h0, hx⟩ := h
  exact ⟨ao, c, by rw [hm]; rfl, by simpa [maxLen] using hmx⟩

theorem Bs.at0 {w : World} {b o : Nat} {x : Int} {xs : List Int} (h : Bs w b o (x :: xs)) : w.cell? ⟨b, o, none⟩ = some (.int .u8 x) := h 0 x rfl
theorem Bs.at1 {w : World} {b o : Nat} {x y : Int} {xs : List Int} (h : Bs w b o (x :: y :: xs)) : w.cell? ⟨b, o + 1, none⟩ = some (.int .u8 y) := h 1 y rfl
theorem Bs.tail {w : World} {b o : Nat} {x : Int} {xs : List Int} (h : Bs w b o (x :: xs)) : Bs w b (o + 1) xs := fun j u hj => by
  have := h (j + 1) u (by simpa using hj)
  rwa [show o + (j + 1) = o + 1 + j by omega] at this
theorem Bs.drop {w : World} {b o : Nat} {xs : List Int} (h : Bs w b o xs) (n : Nat) : Bs w b (o + n) (xs.drop n) := fun j u hj => by
  have := h (n + j) u (by rw [List.getElem?_drop] at hj; exact hj)
  rwa [show o + (n + j) = o + n + j by omega] at this
theorem Bs.take {w : World} {b o : Nat} {xs : List Int} (h : Bs w b o xs) (n : Nat) : Bs w b o (xs.take n) := fun j u hj => by
  rw [List.getElem?_take] at hj
  split at hj
  · exact h j u hj
  · cases hj
theorem Bs.keep {w w' : World} {b o : Nat} {xs : List Int} (h : Bs w b o xs) (hk : b < w.heap.size → w'.heap[b]? = w.heap[b]?) : Bs w' b o xs := fun j u hj => by
  have h1 := h j u hj
  rw [← h1]
  exact World.cell?_of_block (hk (World.block_lt_of_cell? w _ h1))

theorem Rd.chg {w w' : World} {v : Value} {xs : List Int} (h : Rd w v xs) (k : Chg Non w w') : Rd w' v xs := h.keep (fun i _ hi => k.block i hi (fun x => x))
theorem Bs.chg {w w' : World} {b o : Nat} {xs : List Int} (h : Bs w b o xs) (k : Chg Non w w') : Bs w' b o xs := h.keep (fun hi => k.block b hi (fun x => x))
theorem OwnV.chg {w w' : World} {v : Value} {xs : List Int} (h : OwnV w v xs) (k : Chg Non w w') : OwnV w' v xs := h.keep (fun i e => k.block i (h.lt i e) (fun x => x))
theorem Chg.two {a b c : World} (h : Chg Non a b) (k : Chg Non b c) : Chg Non a c := h.trans k (fun _ _ x => x)
/-- What is added into a new list. -/
theorem Chg.new {a b c : World} {S : Nat → Prop} (h : Chg Non a b) (k : Chg S b c) (hS : ∀ i, S i → a.heap.size ≤ i) : Chg Non a c := h.trans k (fun i hi x => by have := hS i x; omega)
theorem OwnV.empty (u : World) : OwnV (u.alloc (.cells #[] 5)) (.slice (some ⟨u.heap.size, 0, none⟩) 0 0) [] :=
  .inr ⟨_, _, _, _, rfl, rfl, Nat.le_refl _, by decide, #[], heap_alloc_last u _, by simp, by simp⟩

/-- A list of bytes that is new since w. -/
structure OwnN (w : World) (w' : World) (v : Value) (xs : List Int) : Prop where
  own : OwnV w' v xs
  new : ∀ k, v.ownBlock = some k → w.heap.size ≤ k
  chg : Chg Non w w'
theorem OwnN.more {w u u' : World} {v v' : Value} {xs ys : List Int} (h : OwnN w u v xs) (h1 : OwnV u' v' ys) (h2 : Chg (fun k => v.ownBlock = some k) u u') (h3 : v'.ownBlock = v.ownBlock ∨ v'.ownBlock = some u.heap.size) : OwnN w u' v' ys := by
  refine ⟨h1, fun k e => ?_, h.chg.new h2 h.new⟩
  rcases h3 with h3 | h3
  · rw [h3] at e
    exact h.new k e
  · rw [h3] at e
    injection e with e
    rw [← e]
    exact h.chg.size
theorem OwnN.after {w u u' : World} {v : Value} {xs : List Int} (h : OwnN w u v xs) (k : Chg Non u u') : OwnN w u' v xs := ⟨h.own.chg k, h.new, h.chg.two k⟩
theorem OwnN.from {a w u : World} {v : Value} {xs : List Int} (h : OwnN w u v xs) (k : Chg Non a w) : OwnN a u v xs := ⟨h.own, fun i e => Nat.le_trans k.size (h.new i e), k.two h.chg⟩
theorem OwnN.nought (w : World) : OwnN w w (.slice none 0 0) [] := ⟨.inl ⟨rfl, rfl⟩, (fun k e => by cases e), Chg.refl _ _⟩
theorem OwnN.rd {w u : World} {v : Value} {xs : List Int} (h : OwnN w u v xs) : Rd u v xs := h.own.rd
theorem OwnN.start (w u : World) (k : Chg Non w u) : OwnN w (u.alloc (.cells #[] 5)) (.slice (some ⟨u.heap.size, 0, none⟩) 0 0) [] :=
  ⟨OwnV.empty u, fun i e => by injection e with e; rw [← e]; exact k.size, k.alloc _⟩

theorem row_rd (w : World) (xs : List Int) (n : Nat) (hn : n = xs.length) (hm : n ≤ 9223372036854775807) : Rd (w.alloc (.cells (xs.map (Value.int .u8)).toArray 5)) (.slice (some ⟨w.heap.size, 0, none⟩) n n) xs := by
  refine Bs.rd (fun j u hj => ?_) hn (Nat.le_refl _) hm
  have := cell_of_row (w.alloc (.cells (xs.map (Value.int .u8)).toArray 5)) w.heap.size (0 + j) _ 5 (0, 0) (heap_alloc_last w _)
  rw [this]
  simp [hj]

set_option maxHeartbeats 400000 in
/-- bytes.Clone. -/
theorem clone_any (v : Value) (xs : List Int) (w : World) (hv : Rd w v xs) (hl : xs.length ≤ 140737488355328) :
    Calls Try.prog 99 #[v] w fun e w' => ∃ v', e = .returned v' ∧ OwnN w w' v' xs := by
  have hv' := hv
  obtain ⟨ao, n, c, rfl, hn, hc, hmx, h0, hx⟩ := hv
  cases ao with
  | none =>
    have h0' := h0 rfl
    have : xs = [] := List.eq_nil_of_length_eq_zero (by omega)
    subst this
    subst h0'
    obtain rfl : n = 0 := by omega
    have hq := Go.Lib.run_eql_slice_nil w 23 5 none 0 0 0 0 Try.underlying23
    clear hn h0 hx hv' hc hmx
    go_enter Try.func99, Try.ntmps99
    go_wp2
    go_ret
    exact ⟨_, rfl, OwnN.nought w⟩
  | some x =>
    have HV : Hid (Rd w (.slice (some x) n c) xs) := hv'
    have hq := Go.Lib.run_eql_slice_nil w 23 5 (some x) n c 0 0 Try.underlying23
    clear hn h0 hx hv'
    go_enter Try.func99, Try.ntmps99
    go_wp2_with (at_builtin; refine wpList_app _ rfl (.tmp 5) (.tmp 6) rfl _ _ [] xs rfl rfl (OwnV.empty w) (HV.out.chg ((Chg.refl _ _).alloc _)) (by simpa using hl) ?_)
    intro v' w' h1 h2 h3
    go_wp2
    go_ret
    exact ⟨_, rfl, (OwnN.start w w (Chg.refl _ _)).more h1 h2 (by rw [World.size_alloc]; exact h3)⟩
end Go.Proofs.Ytdhckndehijemaa
