/-
  DerNests: what its first loop keeps.
-/
import Derived.Test.YtnidfbcninkglaaDoorKa
import Derived.Test.YtnidfbcninkglaaDoorIe
namespace Go.Proofs.YtnidfbcninkglaaDoor
open Go.RowKit
set_option linter.unusedVariables false
set_option maxRecDepth 100000

/-- Items that were written, and their bytes put together. -/
structure NS (w : World) (ts : List (Int × List Int)) (vb vw : Value) (vals : List Value) (W : World) : Prop where
  chg : Chg Non w W
  body : OwnV W vb (toksB ts)
  bnew : ∀ i, vb.ownBlock = some i → w.heap.size ≤ i
  row : W.ownsRow w.heap.size 22 1 vw ts.length vals
  len : vals.length = ts.length
  rd : ∀ (j : Nat) (x : Int × List Int) (u : Value), ts[j]? = some x → vals[j]? = some u → OwnV W u (encL x.1 x.2) ∧ (∀ g, u.ownBlock = some g → ¬ vb.ownBlock = some g)
  ok : ∀ x ∈ ts, x.1 % 32 ≠ 31 ∧ 0 ≤ x.1 ∧ x.1 < 256 ∧ Byt x.2 ∧ x.2.length ≤ 20000
  tot : (toksB ts).length ≤ 20003

theorem NS.start (w W : World) (c : Chg Non w W) : NS w [] (.slice none 0 0) (.slice none 0 0) [] W :=
  ⟨c, .inl ⟨rfl, rfl⟩, (fun i e => by cases e), ⟨rfl, .inl ⟨rfl, rfl⟩⟩, rfl, (fun j x u h => by simp at h), (fun x hx => by cases hx), by simp [toksB]⟩

theorem NS.non {w W W' : World} {ts : List (Int × List Int)} {vb vw : Value} {vals : List Value} (h : NS w ts vb vw vals W) (c : Chg Non W W') : NS w ts vb vw vals W' :=
  ⟨h.chg.two c, own_keep h.body (chg_cells c), h.bnew, row_keep h.row (chg_cells c), h.len, fun j x u h1 h2 => ⟨own_keep (h.rd j x u h1 h2).1 (chg_cells c), (h.rd j x u h1 h2).2⟩, h.ok, h.tot⟩

theorem NS.more {w W W1 W2 : World} {ts : List (Int × List Int)} {vb vw vb' vw' u : Value} {vals : List Value} {x : Int × List Int} {o : Obj} (h : NS w ts vb vw vals W)
    (hx : x.1 % 32 ≠ 31 ∧ 0 ≤ x.1 ∧ x.1 < 256 ∧ Byt x.2 ∧ x.2.length ≤ 20000) (ht : (toksB ts).length + x.2.length < 20000) (hu : OwnV W u (encL x.1 x.2)) (hub : ∀ g, u.ownBlock = some g → ¬ vb.ownBlock = some g)
    (hr : W1.ownsRow w.heap.size 22 1 vw' (ts.length + 1) (vals ++ [u])) (hg : (W.alloc o).grownBy W1 vw.ownBlock)
    (hb : OwnV W2 vb' (toksB ts ++ encL x.1 x.2)) (hc : Chg (fun k => vb.ownBlock = some k) W1 W2) (hk : vb'.ownBlock = vb.ownBlock ∨ vb'.ownBlock = some W1.heap.size) :
    NS w (ts ++ [x]) vb' vw' (vals ++ [u]) W2 := by
  have c1 : Chg (fun b => vw.ownBlock = some b) W W1 := ((Chg.refl _ W).alloc o).trans ⟨hg.os, hg.tape, hg.output, hg.size, fun b hb hnn => hg.block b hb (fun e => hnn e.symm)⟩ (fun _ _ q => q)
  have k1 : ∀ {v : Value} {ys : List Int}, OwnV W v ys → OwnV W1 v ys := fun {v ys} ho => ho.keep (fun b e => by
    obtain ⟨cur, q⟩ := ho.kind e
    refine c1.block b (lt_some q) (fun e2 => ?_)
    obtain ⟨-, -, cur', e'⟩ := row_kind h.row e2
    rw [q] at e'
    injection e' with e'
    injection e' with _ e'
    cases e')
  have hbody1 := k1 h.body
  have k2 : ∀ {v : Value} {ys : List Int}, OwnV W1 v ys → (∀ g, v.ownBlock = some g → ¬ vb.ownBlock = some g) → OwnV W2 v ys := fun {v ys} ho hn => ho.keep (fun b e => by
    obtain ⟨cur, q⟩ := ho.kind e
    exact hc.block b (lt_some q) (hn b e))
  have hnb : ∀ {v : Value} {ys : List Int}, OwnV W1 v ys → (∀ g, v.ownBlock = some g → ¬ vb.ownBlock = some g) → ∀ g, v.ownBlock = some g → ¬ vb'.ownBlock = some g := fun {v ys} ho hn g e q => by
    rcases hk with hk | hk
    · rw [hk] at q; exact hn g e q
    · rw [hk] at q
      injection q with q
      have := ho.lt g e
      omega
  have hmem : ∀ (j : Nat) (y : Int × List Int) (v : Value), (ts ++ [x])[j]? = some y → (vals ++ [u])[j]? = some v → OwnV W1 v (encL y.1 y.2) ∧ ∀ g, v.ownBlock = some g → ¬ vb.ownBlock = some g := fun j y v h1 h2 => by
    by_cases hj : j < ts.length
    · rw [List.getElem?_append_left hj] at h1
      rw [List.getElem?_append_left (by rw [h.len]; exact hj)] at h2
      obtain ⟨g1, g2⟩ := h.rd j y v h1 h2
      exact ⟨k1 g1, g2⟩
    · have hj' : j = ts.length := by
        have := (List.getElem?_eq_some_iff.1 h1).1
        simp at this
        omega
      subst hj'
      rw [List.getElem?_append_right (Nat.le_refl _)] at h1
      rw [← h.len, List.getElem?_append_right (Nat.le_refl _)] at h2
      simp at h1 h2
      subst h1 h2
      exact ⟨k1 hu, hub⟩
  refine ⟨(h.chg.trans c1 (fun i hi q => ?_)).trans hc (fun i hi q => ?_), by rw [toksB_snoc]; exact hb, fun i e => ?_, ?_, by rw [List.length_append, List.length_append, h.len]; rfl, fun j y v h1 h2 => ?_, fun y hy => ?_, ?_⟩
  · have := (row_kind h.row q).1; omega
  · have := h.bnew i q; omega
  · rcases hk with hk | hk
    · rw [hk] at e; exact h.bnew i e
    · rw [hk] at e
      injection e with e
      have := h.chg.size
      have := c1.size
      omega
  · rw [List.length_append]
    refine ⟨hr.1, ?_⟩
    rcases hr.2 with q | ⟨g, cap, cur, e, h1, h2, h3⟩
    · exact .inl q
    · refine .inr ⟨g, cap, cur, e, h1, ?_, h3⟩
      rw [hc.block g (lt_some h2) (fun q => ?_)]
      · exact h2
      · obtain ⟨cur', e'⟩ := hbody1.kind q
        rw [h2] at e'
        injection e' with e'
        injection e' with _ e'
        cases e'
  · obtain ⟨g1, g2⟩ := hmem j y v h1 h2
    exact ⟨k2 g1 g2, hnb g1 g2⟩
  · rcases List.mem_append.1 hy with hy | hy
    · exact h.ok y hy
    · obtain rfl := List.mem_singleton.1 hy
      exact hx
  · rw [toksB_snoc, List.length_append, encL_len]
    have := lenB_len x.2.length
    have h3 : (lenB x.2.length).length ≤ 3 := by rw [this]; split <;> (try split) <;> omega
    omega
end Go.Proofs.YtnidfbcninkglaaDoor
