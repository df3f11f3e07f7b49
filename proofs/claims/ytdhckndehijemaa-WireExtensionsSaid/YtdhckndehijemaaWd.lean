/-
  Small writers; a cell of a writer's bytes set.
-/
import Derived.Test.YtdhckndehijemaaWc
namespace Go.Proofs.Ytdhckndehijemaa
open Go.RowKit
set_option linter.unusedVariables false
set_option maxRecDepth 100000

theorem WQ.num {n r : Nat} {v v' : Value} {w w' : World} {no : Bool} {xs : List Int} {x : Int} (h : WP r v w w' v' no (xs ++ putD n x)) : WQ (wNum n) n r v w w' v' no no xs (putD n x) x :=
  ⟨h, id, fun e => .inr ⟨e, rfl⟩, by rw [putD_len]; exact Nat.le_refl _⟩

set_option maxHeartbeats 400000 in
theorem woctet_any (r : Nat) (x : Int) (v : Value) (no : Bool) (xs : List Int) (w : World) (h : WM w r v no xs) (hx : InK .u8 x) (hl : xs.length ≤ 1000000000000) :
    Calls Try.prog 194 #[.pointer (some ⟨r, 0, none⟩), .int .u8 x] w fun e w' => ∃ v' no' ys, e = .returned (.tuple #[]) ∧ WQ (wNum 1) 1 r v w w' v' no no' xs ys x := by
  obtain ⟨h0, h1⟩ := hx
  have h1' : x < 256 := h1
  have hd := wdigits_any r 1 x (by decide) h0 (by omega) v no xs w h hl
  have hw : IntKind.u32.wrap x = x := by rw [IntKind.wrap_u32]; omega
  clear h h1
  go_enter Try.func194, Try.ntmps194
  go_wp2_with (go_at_call 227; refine hd.mono ?_)
  rintro e w' ⟨v', rfl, hp⟩
  have HP : Hid (WP r v w w' v' no (xs ++ putD 1 x)) := hp
  clear hp hd
  go_wp2
  go_end0
  exact ⟨v', no, _, rfl, WQ.num HP.out⟩
set_option maxHeartbeats 400000 in
theorem wnumber_any (r : Nat) (x : Int) (v : Value) (no : Bool) (xs : List Int) (w : World) (h : WM w r v no xs) (hx : InK .u16 x) (hl : xs.length ≤ 1000000000000) :
    Calls Try.prog 179 #[.pointer (some ⟨r, 0, none⟩), .int .u16 x] w fun e w' => ∃ v' no' ys, e = .returned (.tuple #[]) ∧ WQ (wNum 2) 2 r v w w' v' no no' xs ys x := by
  obtain ⟨h0, h1⟩ := hx
  have h1' : x < 65536 := h1
  have hd := wdigits_any r 2 x (by decide) h0 (by omega) v no xs w h hl
  have hw : IntKind.u32.wrap x = x := by rw [IntKind.wrap_u32]; omega
  clear h h1
  go_enter Try.func179, Try.ntmps179
  go_wp2_with (go_at_call 227; refine hd.mono ?_)
  rintro e w' ⟨v', rfl, hp⟩
  have HP : Hid (WP r v w w' v' no (xs ++ putD 2 x)) := hp
  clear hp hd
  go_wp2
  go_end0
  exact ⟨v', no, _, rfl, WQ.num HP.out⟩
set_option maxHeartbeats 400000 in
theorem wlong_any (r : Nat) (x : Int) (v : Value) (no : Bool) (xs : List Int) (w : World) (h : WM w r v no xs) (hx : InK .u32 x) (hl : xs.length ≤ 1000000000000) :
    Calls Try.prog 207 #[.pointer (some ⟨r, 0, none⟩), .int .u32 x] w fun e w' => ∃ v' no' ys, e = .returned (.tuple #[]) ∧ WQ (wNum 4) 4 r v w w' v' no no' xs ys x := by
  obtain ⟨h0, h1⟩ := hx
  have h1' : x < 4294967296 := h1
  have hd := wdigits_any r 4 x (by decide) h0 h1' v no xs w h hl
  clear h h1
  go_enter Try.func207, Try.ntmps207
  go_wp2_with (go_at_call 227; refine hd.mono ?_)
  rintro e w' ⟨v', rfl, hp⟩
  have HP : Hid (WP r v w w' v' no (xs ++ putD 4 x)) := hp
  clear hp hd
  go_wp2
  go_end0
  exact ⟨v', no, _, rfl, WQ.num HP.out⟩

set_option maxHeartbeats 400000 in
theorem maxLen_any (size : Nat) (h0 : 0 < size) (h1 : size ≤ 3) (b c : Int) (w : World) : Calls Try.prog 232 #[.agg #[.int .i64 size, .int .i64 b, .int .i64 c]] w fun e w' => e = .returned (.int .i64 ((256 ^ size - 1 : Nat) : Int)) ∧ Chg Non w w' := by
  have h : size = 1 ∨ size = 2 ∨ size = 3 := by omega
  rcases h with rfl | rfl | rfl
  all_goals
    clear h0 h1
    go_enter Try.func232, Try.ntmps232
    go_wp2
    go_ret
    exact ⟨rfl, (Chg.refl _ _).alloc _⟩

theorem Own.set {W : World} {g off n cap : Nat} {zs : List Int} (h : Own W g off n cap zs) (j : Nat) (u : Int) (hj : j < n) : Own (W.setCell ⟨g, off + j, none⟩ (.int .u8 u)) g off n cap (zs.set j u) := by
  obtain ⟨cur, hc, hs, ht⟩ := h.blk
  have hb : (W.setCell ⟨g, off + j, none⟩ (.int .u8 u)).heap[g]? = some (.cells (cur.setIfInBounds (off + j) (.int .u8 u)) 5 (0, 0)) := by
    show (W.heap.modify g _)[g]? = _
    obtain ⟨hlt, hk⟩ := Array.getElem?_eq_some_iff.1 hc
    rw [Array.getElem?_eq_getElem (by rw [Array.size_modify]; exact hlt), Array.getElem_modify_self, hk]
    rfl
  refine ⟨by simpa using h.len, h.le, h.mx, _, hb, by simpa using hs, ?_⟩
  rw [List.map_set, ← ht, Array.toList_setIfInBounds, List.drop_set, if_neg (by omega), List.take_set, Nat.add_sub_cancel_left]
theorem byt_set {xs : List Int} (h : Byt xs) (j : Nat) (u : Int) (h0 : 0 ≤ u) (h1 : u < 256) : Byt (xs.set j u) := fun x hx => by
  rcases List.mem_or_eq_of_mem_set hx with hx | rfl
  · exact h x hx
  · exact ⟨h0, h1⟩
theorem WM.set {w : World} {r g off n c : Nat} {no : Bool} {xs : List Int} (h : WM w r (.slice (some ⟨g, off, none⟩) n c) no xs) (j : Nat) (u : Int) (hj : j < n) (h0 : 0 ≤ u) (h1 : u < 256) : WP r (.slice (some ⟨g, off, none⟩) n c) w (w.setCell ⟨g, off + j, none⟩ (.int .u8 u)) (.slice (some ⟨g, off, none⟩) n c) no (xs.set j u) := by
  have hg : r < g := h.new g rfl
  have cs : Chg (One g) w (w.setCell ⟨g, off + j, none⟩ (.int .u8 u)) := (Chg.refl (One g) w).setCell (p := ⟨g, off + j, none⟩) (fun _ => rfl) _
  refine ⟨⟨?_, ?_, h.new, byt_set h.byt j u h0 h1⟩, cs.mono (fun k _ e => .inr (by have e' : k = g := e; rw [e']; rfl)), .inl rfl⟩
  · rw [cs.block r h.lt (fun e => by have e' : r = g := e; omega)]
    exact h.blk
  · rcases h.own with ⟨e, -⟩ | ⟨g', off', n', cap', e, ho⟩
    · cases e
    · injection e with e1 e2 e3
      injection e1 with e1
      injection e1 with e1 e4
      subst e1; subst e2; subst e3; subst e4
      exact .inr ⟨_, _, _, _, rfl, ho.set j u hj⟩
/-- A writer's bytes, cell by cell. -/
theorem WM.cells {w : World} {r : Nat} {v : Value} {no : Bool} {xs : List Int} (h : WM w r v no xs) (hn : 0 < xs.length) : ∃ g off n c, v = .slice (some ⟨g, off, none⟩) n c ∧ n = xs.length ∧ n ≤ c ∧ c ≤ 9223372036854775807 ∧ (∀ j, w.frozen? ⟨g, j, none⟩ = false) ∧ (∀ j u, xs[j]? = some u → w.cell? ⟨g, off + j, none⟩ = some (.int .u8 u)) := by
  rcases h.own with ⟨-, e⟩ | ⟨g, off, n, cap, rfl, ho⟩
  · rw [e] at hn; simp at hn
  · obtain ⟨cur, hc, -⟩ := ho.blk
    exact ⟨g, off, n, cap, rfl, ho.len.symm, ho.le, by simpa [maxLen] using ho.mx, fun j => frozen_of_row w g j _ _ hc, ho.cell⟩
theorem Rel.ofByt {F : Nat → Prop} {w : World} {us : List Value} {l : List Int} (h : Rel .byt F w us l) : Rel (.lst (.num .u8)) F w us l := by
  obtain ⟨v, rfl, ⟨ao, n, c, rfl, h1, h2, h3, h4, h5⟩, hb, hF⟩ := h
  refine ⟨ao, n, c, rfl, h1, h2, h3, h4, fun b e j a ha => ⟨hF _ (by subst e; rfl) (fun q => by have := (List.getElem?_eq_some_iff.1 ha).1; have q' : List.length (α := Int) l = 0 := q; have q2 : j < List.length (α := Int) l := this; omega), [.int .u8 a], ⟨rfl, ?_⟩, fun i u hu => ?_⟩⟩
  · exact hb a (List.mem_of_getElem? ha)
  · match i, hu with
    | 0, hu =>
      injection hu with hu
      subst hu
      have := h5 b e j a ha
      simpa [Ty.sz] using this
end Go.Proofs.Ytdhckndehijemaa
