/-
  DerNests: what its last loop reads.
-/
import Derived.Test.YtnidfbcninkglaaDoorKb
namespace Go.Proofs.YtnidfbcninkglaaDoor
open Go.RowKit
set_option linter.unusedVariables false
set_option maxRecDepth 100000

theorem rowk_shape {w : World} {B size k : Nat} {t : TypeId} {v : Value} {xs : List Value} (h : w.ownsRow B t size v k xs) : ∃ ao c, v = .slice ao k c := by
  rcases h.2 with ⟨rfl, rfl⟩ | ⟨g, cap, cur, rfl, -⟩
  · exact ⟨_, _, rfl⟩
  · exact ⟨_, _, rfl⟩
theorem info22 : (Tryd.prog.info? 22).map (fun i => (i.zero, i.size, i.bytes)) = some (some (.slice none 0 0), 1, 24) := by kernel_rfl
theorem rowsI_at : ∀ (p : List (PI × Value)) (j : Nat) (q : PI × Value), p[j]? = some q → (rowsI p)[j * 4]? = some (.int .u8 q.1.t) ∧ (rowsI p)[j * 4 + 1]? = some q.2
  | [], j, q, h => by simp at h
  | a :: p, 0, q, h => by
    simp at h
    subst h
    simp [rowsI, cellsI]
  | a :: p, j + 1, q, h => by
    have ih := rowsI_at p j q (by simpa using h)
    have e : rowsI (a :: p) = .int .u8 a.1.t :: a.2 :: .int .i64 a.1.k :: .int .i64 a.1.l :: rowsI p := by simp [rowsI, cellsI]
    rw [e, show (j + 1) * 4 = j * 4 + 1 + 1 + 1 + 1 by omega]
    simpa using ih
theorem toksB_ge : ∀ (l : List (Int × List Int)), 2 * l.length ≤ (toksB l).length
  | [] => by simp
  | x :: r => by
    have ih := toksB_ge r
    rw [toksB_cons, List.length_append, encL_len, lenB_len, List.length_cons]
    split <;> (try split) <;> omega
theorem OwnV.beside {W W1 : World} {B k size : Nat} {t : TypeId} {vw v : Value} {vals : List Value} {ys : List Int} {o : Obj} (ho : OwnV W v ys) (hr : W.ownsRow B t size vw k vals) (ht : t ≠ 5) (hg : (W.alloc o).grownBy W1 vw.ownBlock) : OwnV W1 v ys := by
  have c1 : Chg (fun b => vw.ownBlock = some b) W W1 := ((Chg.refl _ W).alloc o).trans ⟨hg.os, hg.tape, hg.output, hg.size, fun b hb hnn => hg.block b hb (fun e => hnn e.symm)⟩ (fun _ _ q => q)
  refine ho.keep (fun b e => ?_)
  obtain ⟨cur, q⟩ := ho.kind e
  refine c1.block b (lt_some q) (fun e2 => ?_)
  obtain ⟨-, -, cur', e'⟩ := row_kind hr e2
  rw [q] at e'
  injection e' with e'
  injection e' with _ e'
  exact ht e'.symm
theorem nest_items {w w9 : World} {ts : List (Int × List Int)} {v : Value} {q F : Int} (h : ItP w w9 (toksB ts) v q F) (hok : ∀ x ∈ ts, x.1 % 32 ≠ 31 ∧ x.2.length ≤ 65535) :
    ∃ l : List (PI × Value), l.map (·.1) = plainI ts 0 ∧ q = 0 ∧ F = 0 ∧ w9.ownsRow w.heap.size 25 4 v ts.length (rowsI l) ∧ ∀ z ∈ l, OwnV w9 z.2 z.1.ys := by
  have hall := its_all ts hok
  rcases h.res with ⟨pre, k, h1, h2, h3, h4, h5, h6⟩ | ⟨pl, k, h1, h2, h3, -⟩
  · obtain ⟨e1, -⟩ := Its.unique h1 (nxI_end h2) hall (nxI_end (Nat.le_refl _))
    have hl : pre.length = ts.length := by
      have := congrArg List.length e1
      rw [List.length_map, plainI_len] at this
      exact this
    rw [hl] at h5
    exact ⟨pre, e1, h3, h4, h5, fun z hz => (h6 z hz).1⟩
  · obtain ⟨-, e2⟩ := Its.unique h1 (nxI_err h3) hall (nxI_end (Nat.le_refl _))
    omega
theorem nest_at {w wc w9 : World} {B : Nat} {ts : List (Int × List Int)} {vb vw : Value} {vals : List Value} {wo lo : Option Addr} {cw lc : Nat} {l : List (PI × Value)} (hN : NS w ts vb (.slice wo ts.length cw) vals wc) (hc : Chg Non wc w9)
    (hrow : w9.ownsRow B 25 4 (.slice lo ts.length lc) ts.length (rowsI l)) (hl : l.map (·.1) = plainI ts 0) (hbod : ∀ z ∈ l, OwnV w9 z.2 z.1.ys) {k : Nat} (hk : k < ts.length) :
    ∃ (gb wb : Nat) (t : Int) (v1 v2 : Value) (ys : List Int), lo = some ⟨gb, 0, none⟩ ∧ wo = some ⟨wb, 0, none⟩ ∧ (ts.length ≤ lc ∧ lc ≤ 9223372036854775807 ∧ ts.length ≤ cw ∧ cw ≤ 9223372036854775807) ∧ (0 ≤ t ∧ t < 256) ∧ putL t ys = encL t ys ∧ w9.cell? ⟨gb, k * 4, none⟩ = some (.int .u8 t) ∧ w9.cell? ⟨gb, k * 4 + 1, none⟩ = some v1 ∧ w9.cell? ⟨wb, k, none⟩ = some v2 ∧ Rd w9 v1 ys ∧ Rd w9 v2 (encL t ys) := by
  obtain ⟨x, hx⟩ : ∃ x, ts[k]? = some x := ⟨ts[k], List.getElem?_eq_getElem hk⟩
  obtain ⟨p, hp, hp1, hp2⟩ := plainI_get ts 0 k x hx
  rw [← hl, List.getElem?_map] at hp
  obtain ⟨z, hz, hzp⟩ : ∃ z, l[k]? = some z ∧ z.1 = p := by
    cases hz : l[k]? with
    | none => rw [hz] at hp; cases hp
    | some z => rw [hz] at hp; exact ⟨z, rfl, Option.some.inj hp⟩
  obtain ⟨a1, a2⟩ := rowsI_at l k z hz
  obtain ⟨v, hv⟩ : ∃ v, vals[k]? = some v := ⟨vals[k]'(by rw [hN.len]; exact hk), List.getElem?_eq_getElem _⟩
  obtain ⟨hr, -⟩ := hN.rd k x v hx hv
  obtain ⟨o1, o2, o3, o4, o5⟩ := hN.ok x (List.mem_of_getElem? hx)
  rcases hrow.2 with ⟨e, h0⟩ | ⟨g, cap, cur, e, -, hg, hn, hm, hs, ht⟩
  · omega
  rcases (row_keep hN.row (chg_cells hc)).2 with ⟨e', h0⟩ | ⟨g', cap', cur', e', -, hg', hn', hm', hs', ht'⟩
  · omega
  injection e with e1 e2 e3
  injection e' with e1' e2' e3'
  subst e3 e3'
  refine ⟨g, g', x.1, z.2, v, x.2, e1, e1', ⟨hn, by simpa [maxLen] using hm, hn', by simpa [maxLen] using hm'⟩, ⟨o2, o3⟩, ?_, ?_, ?_, ?_, ?_, ?_⟩
  · unfold putL
    rw [if_pos ⟨o1, by omega⟩]
  · rw [cell_of_row w9 g (k * 4) cur 25 (0, 0) hg]
    rw [← ht, List.getElem?_take] at a1
    split at a1
    · rw [hzp, hp1] at a1
      simpa using a1
    · cases a1
  · rw [cell_of_row w9 g (k * 4 + 1) cur 25 (0, 0) hg]
    rw [← ht, List.getElem?_take] at a2
    split at a2
    · simpa using a2
    · cases a2
  · rw [cell_of_row w9 g' k cur' 22 (0, 0) hg']
    rw [← ht', List.getElem?_take] at hv
    split at hv
    · simpa using hv
    · cases hv
  · have := (hbod z (List.mem_of_getElem? hz)).rd
    rw [hzp, hp2] at this
    exact this
  · exact hr.rd.chg hc
end Go.Proofs.YtnidfbcninkglaaDoor
