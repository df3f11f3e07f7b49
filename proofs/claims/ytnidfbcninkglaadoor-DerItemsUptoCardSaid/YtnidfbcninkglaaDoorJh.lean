/-
  DerItems: what both readings leave, and what may be written into it.
-/
import Derived.Test.YtnidfbcninkglaaDoorJg
import Derived.Test.YtnidfbcninkglaaDoorHd
namespace Go.Proofs.YtnidfbcninkglaaDoor
open Go.RowKit
set_option linter.unusedVariables false
set_option maxRecDepth 100000

/-- The item at a place, told alike by both; where there is none, an empty one and the error. -/
theorem next_both (xs : List Int) (hb : Byt xs) (hl : xs.length ≤ 140737488355328) (a : Int) : ∃ (p : PI) (E : Int),
    (∀ w v, ErrT w → Rd w v xs → Calls Tryd.prog 10 #[v, .int .i64 a] w fun e w' => ∃ v', e = .returned (.tuple #[itemV p.t v' p.k p.l, .int .i64 E]) ∧ ReadP w w' v' p.ys) ∧
    (∀ w v, Rd w v xs → Calls Tryd.prog 11 #[v, .int .i64 a] w fun e w' => ∃ v', e = .returned (.tuple #[itemV p.t v' p.k p.l, .int .i64 E]) ∧ ReadP w w' v' p.ys) := by
  by_cases he : nxE xs a = 0
  · have ha : ¬ (a < 0 ∨ (xs.length : Int) ≤ a) := fun h => by
      unfold nxE at he
      rw [if_pos h] at he
      cases he
    obtain ⟨k, rfl⟩ := Int.eq_ofNat_of_zero_le (show 0 ≤ a by omega)
    obtain ⟨x, hx⟩ := nxI_of (by omega) he
    refine ⟨x, 0, fun w v hg hv => ?_, fun w v hv => rnext_ok v xs hb k x w hv hx hl⟩
    obtain ⟨t, r, hd, h0, rfl⟩ := nxI_some hx
    exact next_ok v xs hb k t r w hv (drop_lt hd).1 hd hl h0
  · have z : ∀ w w', Chg Non w w' → ReadP w w' (.slice none 0 0) [] := fun w w' h => ⟨⟨.inl ⟨rfl, rfl⟩, (fun i e => by cases e), h⟩⟩
    refine ⟨⟨0, [], 0, 0⟩, nxE xs a, fun w v hg hv => ?_, fun w v hv => ?_⟩
    · refine (next_err v xs hb a w hg hv hl he).mono ?_
      rintro e w' ⟨rfl, h⟩
      exact ⟨_, rfl, z _ _ h⟩
    · refine (rnext_err v xs hb a w hv hl he).mono ?_
      rintro e w' ⟨rfl, h⟩
      exact ⟨_, rfl, z _ _ h⟩

structure ToksAt (w w' : World) (v : Value) (l : List (PI × Value)) : Prop where
  row : w'.ownsRow w.heap.size 25 4 v l.length (rowsI l)
  bod : ∀ q ∈ l, OwnV w' q.2 q.1.ys ∧ ∀ i, q.2.ownBlock = some i → w.heap.size ≤ i

theorem ItP.both {w1 w1' w2 w2' : World} {xs : List Int} {v1 v2 : Value} {p1 p2 e1 e2 : Int} (h1 : ItP w1 w1' xs v1 p1 e1) (h2 : ItP w2 w2' xs v2 p2 e2) :
    p1 = p2 ∧ e1 = e2 ∧ ∃ l1 l2 : List (PI × Value), l1.map (·.1) = l2.map (·.1) ∧ ToksAt w1 w1' v1 l1 ∧ ToksAt w2 w2' v2 l2 := by
  have nil : ∀ w w', ToksAt w w' (.slice none 0 0) [] := fun w w' => ⟨⟨rfl, .inl ⟨rfl, rfl⟩⟩, fun q hq => by cases hq⟩
  rcases h1.res with ⟨a, k, i1, i2, i3, i4, i5, i6⟩ | ⟨a, k, i1, i2, i3, i4, i5, i6⟩
  · rcases h2.res with ⟨b, j, j1, j2, j3, j4, j5, j6⟩ | ⟨b, j, j1, j2, j3, j4, j5, j6⟩
    · obtain ⟨q1, q2⟩ := Its.unique i1 (nxI_end i2) j1 (nxI_end j2)
      exact ⟨by rw [i3, j3], by rw [i4, j4], a, b, q1, ⟨i5, i6⟩, ⟨j5, j6⟩⟩
    · obtain ⟨q1, q2⟩ := Its.unique i1 (nxI_end i2) j1 (nxI_err j3)
      omega
  · rcases h2.res with ⟨b, j, j1, j2, j3, j4, j5, j6⟩ | ⟨b, j, j1, j2, j3, j4, j5, j6⟩
    · obtain ⟨q1, q2⟩ := Its.unique i1 (nxI_err i3) j1 (nxI_end j2)
      omega
    · obtain ⟨q1, q2⟩ := Its.unique i1 (nxI_err i3) j1 (nxI_err j3)
      subst q2
      exact ⟨by rw [i4, j4], by rw [i5, j5], [], [], rfl, by rw [i6]; exact nil _ _, by rw [j6]; exact nil _ _⟩

/-- Bytes that may be written. -/
def May (W : World) (v : Value) (n B : Nat) : Prop := (∃ zs : List Int, zs.length = n ∧ OwnV W v zs) ∧ ∀ i, v.ownBlock = some i → B ≤ i

theorem own_set {W : World} {v : Value} {zs : List Int} (h : OwnV W v zs) (g o : Nat) (u : Int) : ∃ zs' : List Int, zs'.length = zs.length ∧ OwnV (W.setCell ⟨g, o, none⟩ (.int .u8 u)) v zs' := by
  rcases h with ⟨rfl, rfl⟩ | ⟨g', off, n, cap, rfl, h⟩
  · exact ⟨[], rfl, .inl ⟨rfl, rfl⟩⟩
  · by_cases hg : g' = g
    · subst hg
      obtain ⟨cur, hc, hs, ht⟩ := h.blk
      have hb : (W.setCell ⟨g', o, none⟩ (.int .u8 u)).heap[g']? = some (.cells (cur.setIfInBounds o (.int .u8 u)) 5 (0, 0)) := by
        show (W.heap.modify g' _)[g']? = _
        obtain ⟨hlt, hk⟩ := Array.getElem?_eq_some_iff.1 hc
        rw [Array.getElem?_eq_getElem (by rw [Array.size_modify]; exact hlt), Array.getElem_modify_self, hk]
        rfl
      have key : ∃ zs' : List Int, zs'.length = zs.length ∧ ((cur.setIfInBounds o (.int .u8 u)).toList.drop off).take n = zs'.map (Value.int .u8) := by
        by_cases ho : off ≤ o ∧ o < off + n
        · refine ⟨zs.set (o - off) u, by simp, ?_⟩
          rw [List.map_set, ← ht, Array.toList_setIfInBounds, List.drop_set, if_neg (by omega), List.take_set]
        · refine ⟨zs, rfl, ?_⟩
          rw [← ht, Array.toList_setIfInBounds]
          by_cases h1 : o < off
          · rw [List.drop_set, if_pos h1]
          · rw [List.drop_set, if_neg h1, List.take_set, List.set_eq_of_length_le]
            rw [List.length_take]
            omega
      obtain ⟨zs', k1, k2⟩ := key
      exact ⟨zs', k1, .inr ⟨g', off, n, cap, rfl, ⟨by rw [k1]; exact h.len, h.le, h.mx, _, hb, by simpa using hs, k2⟩⟩⟩
    · exact ⟨zs, rfl, .inr ⟨g', off, n, cap, rfl, h.keep (Below.heap_setCell _ _ _ _ hg)⟩⟩

theorem May.set {W : World} {v : Value} {n B : Nat} (h : May W v n B) (g o : Nat) (u : Int) : May (W.setCell ⟨g, o, none⟩ (.int .u8 u)) v n B := by
  obtain ⟨⟨zs, h1, h2⟩, h3⟩ := h
  obtain ⟨zs', k1, k2⟩ := own_set h2 g o u
  exact ⟨⟨zs', by omega, k2⟩, h3⟩

/-- What the law's loops keep: B, whatever lies below it; the box of the item; the list's row. -/
structure LS (w3 : World) (B7 : Nat) (t k l : Int) (vb vl : Value) (nb : Nat) (ts : List (PI × Value)) (W : World) : Prop where
  chg : Chg Non w3 W
  box : W.heap[B7]? = some (.cells #[.int .u8 t, vb, .int .i64 k, .int .i64 l] 25)
  may : May W vb nb w3.heap.size
  row : W.ownsRow w3.heap.size 25 4 vl ts.length (rowsI ts)
  bod : ∀ q ∈ ts, May W q.2 q.1.ys.length w3.heap.size

theorem LS.set {w3 W : World} {B7 : Nat} {t k l : Int} {vb vl : Value} {nb : Nat} {ts : List (PI × Value)} (h : LS w3 B7 t k l vb vl nb ts W) {g : Nat} (o : Nat) (u : Int) (hg : w3.heap.size ≤ g) (hc : ∃ cur, W.heap[g]? = some (.cells cur 5 (0, 0))) :
    LS w3 B7 t k l vb vl nb ts (W.setCell ⟨g, o, none⟩ (.int .u8 u)) := by
  obtain ⟨cur, hc⟩ := hc
  refine ⟨h.chg.setCell (p := ⟨g, o, none⟩) (fun q => absurd q (by dsimp only; omega)) _, ?_, h.may.set g o u, ⟨h.row.1, ?_⟩, fun q hq => (h.bod q hq).set g o u⟩
  · rw [Below.heap_setCell _ _ _ _ (fun e => by dsimp only at e; subst e; rw [h.box] at hc; injection hc with hc; injection hc with _ hc; cases hc)]
    exact h.box
  · rcases h.row.2 with q | ⟨g', cap, cur', e, h1, h2, h3⟩
    · exact .inl q
    · refine .inr ⟨g', cap, cur', e, h1, ?_, h3⟩
      rw [Below.heap_setCell _ _ _ _ (fun e => by dsimp only at e; subst e; rw [h2] at hc; injection hc with hc; injection hc with _ hc; cases hc)]
      exact h2

/-- A byte of such a list: where it lies. -/
theorem May.at {W : World} {v : Value} {n B i : Nat} (h : May W v n B) (hi : i < n) : ∃ g off cap z, v = .slice (some ⟨g, off, none⟩) n cap ∧ n ≤ cap ∧ cap ≤ 9223372036854775807 ∧ W.cell? ⟨g, off + i, none⟩ = some (.int .u8 z) ∧ W.frozen? ⟨g, off + i, none⟩ = false ∧ B ≤ g ∧ ∃ cur, W.heap[g]? = some (.cells cur 5 (0, 0)) := by
  obtain ⟨⟨zs, h1, h2⟩, h3⟩ := h
  rcases h2 with ⟨rfl, rfl⟩ | ⟨g, off, m, cap, rfl, h2⟩
  · simp at h1; omega
  · obtain rfl : m = n := by rw [← h2.len]; exact h1
    obtain ⟨cur, hc, -⟩ := h2.blk
    refine ⟨g, off, cap, zs[i]'(by omega), rfl, h2.le, by have := h2.mx; simpa [maxLen] using this, h2.cell i _ (List.getElem?_eq_getElem _), by simp [World.frozen?, hc], h3 g rfl, cur, hc⟩
theorem May.shape {W : World} {v : Value} {n B : Nat} (h : May W v n B) : ∃ ao cap, v = .slice ao n cap := by
  obtain ⟨⟨zs, h1, h2⟩, -⟩ := h
  obtain ⟨ao, m, c, rfl, e, -, -⟩ := h2.rd.shape
  exact ⟨ao, c, by rw [e, h1]⟩
end Go.Proofs.YtnidfbcninkglaaDoor
