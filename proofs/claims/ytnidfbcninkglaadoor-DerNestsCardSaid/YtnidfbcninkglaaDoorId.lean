/-
  What Items keeps between two rounds of its loop.
-/
import Derived.Test.YtnidfbcninkglaaDoorIc
import Derived.Maps.OwnIn
namespace Go.Proofs.YtnidfbcninkglaaDoor
open Go.RowKit Go.Shelf
set_option linter.unusedVariables false
set_option maxRecDepth 100000

def cellsI (p : PI × Value) : List Value := [.int .u8 p.1.t, p.2, .int .i64 p.1.k, .int .i64 p.1.l]
def rowsI (l : List (PI × Value)) : List Value := l.flatMap cellsI
theorem rowsI_snoc (l : List (PI × Value)) (p : PI × Value) : rowsI (l ++ [p]) = rowsI l ++ cellsI p := by simp [rowsI]
theorem rowsI_len (l : List (PI × Value)) : (rowsI l).length = l.length * 4 := by
  induction l with
  | nil => rfl
  | cons a l ih =>
    have : rowsI (a :: l) = cellsI a ++ rowsI l := by simp [rowsI]
    rw [this, List.length_append, ih, List.length_cons]
    simp [cellsI]
    omega

theorem OwnV.kind {W : World} {v : Value} {ys : List Int} (h : OwnV W v ys) {b : Nat} (e : v.ownBlock = some b) : ∃ cur, W.heap[b]? = some (.cells cur 5 (0, 0)) := by
  rcases h with ⟨rfl, -⟩ | ⟨g, off, n, cap, rfl, h⟩
  · cases e
  · obtain ⟨cur, hc, -⟩ := h.blk
    injection e with e
    exact ⟨cur, by rw [← e]; exact hc⟩

theorem row_kind {W : World} {base size k : Nat} {t : TypeId} {v : Value} {xs : List Value} (h : W.ownsRow base t size v k xs) {b : Nat} (e : v.ownBlock = some b) : base ≤ b ∧ b < W.heap.size ∧ ∃ cur, W.heap[b]? = some (.cells cur t (0, 0)) := by
  rcases h.2 with ⟨rfl, -⟩ | ⟨g, cap, cur, rfl, hb, hg, -⟩
  · cases e
  · injection e with e
    subst e
    exact ⟨hb, (Array.getElem?_eq_some_iff.1 hg).1, cur, hg⟩

structure II (w : World) (v : Value) (xs : List Int) (pre : List (PI × Value)) (k : Nat) (W : World) : Prop where
  chg : Chg Non w W
  b2 : W.heap[w.heap.size]? = some (.cells #[.slice none 0 0] 30)
  b3 : W.heap[w.heap.size + 1]? = some (.cells #[.int .i64 0] 3)
  b4 : W.heap[w.heap.size + 2]? = some (.cells #[.int .i64 0] 26)
  all : ∃ va, W.heap[w.heap.size + 3]? = some (.cells #[va] 30) ∧ W.ownsRow w.heap.size 25 4 va pre.length (rowsI pre)
  bx : W.heap[w.heap.size + 4]? = some (.cells #[v] 22)
  its : Its xs 0 (pre.map (·.1)) k
  bod : ∀ p ∈ pre, OwnV W p.2 p.1.ys ∧ ∀ i, p.2.ownBlock = some i → w.heap.size ≤ i

theorem lt_some {W : World} {b : Nat} {o : Obj} (h : W.heap[b]? = some o) : b < W.heap.size := (Array.getElem?_eq_some_iff.1 h).1

/-- What holds no cells may be turned. -/
theorem II.keep {w W W' : World} {v : Value} {xs : List Int} {pre : List (PI × Value)} {k l : Nat} (h : II w v xs pre k W) (hl : w.heap.size ≤ l) (hc : ∀ cur t z, W.heap[l]? ≠ some (.cells cur t z)) (c : Chg (One l) W W') : II w v xs pre k W' := by
  have hb : ∀ {b : Nat} {cur t z}, W.heap[b]? = some (.cells cur t z) → W'.heap[b]? = some (.cells cur t z) := fun {b cur t z} e => by
    rw [c.block b (lt_some e) (fun q => by have q' : b = l := q; subst q'; exact hc _ _ _ e)]
    exact e
  obtain ⟨va, ha, hr⟩ := h.all
  refine ⟨h.chg.trans c (fun i hi q => by have q' : i = l := q; omega), hb h.b2, hb h.b3, hb h.b4, ⟨va, hb ha, hr.1, ?_⟩, hb h.bx, h.its, fun p hp => ⟨?_, (h.bod p hp).2⟩⟩
  · rcases hr.2 with q | ⟨g, cap, cur, e, h1, h2, h3⟩
    · exact .inl q
    · exact .inr ⟨g, cap, cur, e, h1, hb h2, h3⟩
  · refine (h.bod p hp).1.keep (fun b e => ?_)
    obtain ⟨cur, q⟩ := (h.bod p hp).1.kind e
    rw [hb q, q]

theorem II.non {w W W' : World} {v : Value} {xs : List Int} {pre : List (PI × Value)} {k : Nat} (h : II w v xs pre k W) (c : Chg Non W W') : II w v xs pre k W' :=
  h.keep (l := W.heap.size) (Nat.le_trans (Nat.le_refl _) h.chg.size) (fun cur t z e => absurd (lt_some e) (Nat.lt_irrefl _)) (c.non _)

theorem chg_put {W : World} {l : Nat} {o o' : Obj} (h : W.heap[l]? = some o) : Chg (One l) W (W.putObj l o') :=
  ⟨rfl, rfl, rfl, by simp, fun b _ hn => World.putObj_heap_other (fun e => hn e)⟩

/-- One item more. -/
theorem II.more {w W W3 : World} {v : Value} {xs : List Int} {pre : List (PI × Value)} {k : Nat} {x : PI} {v' va va' : Value} {o : Obj} (h : II w v xs pre k W) (hva : W.heap[w.heap.size + 3]? = some (.cells #[va] 30)) (hrow : W.ownsRow w.heap.size 25 4 va pre.length (rowsI pre))
    (hx : nxI xs k = some x) (hov : OwnV W v' x.ys) (hn : ∀ i, v'.ownBlock = some i → w.heap.size ≤ i)
    (hr : W3.ownsRow w.heap.size 25 4 va' (pre.length + 1) (rowsI pre ++ [.int .u8 x.t, v', .int .i64 x.k, .int .i64 x.l])) (hg : (W.alloc o).grownBy W3 va.ownBlock) :
    II w v xs (pre ++ [(x, v')]) (k + x.l) (W3.setCell ⟨w.heap.size + 3, 0, none⟩ va') ∧ Chg (fun b => va.ownBlock = some b ∨ b = w.heap.size + 3) W (W3.setCell ⟨w.heap.size + 3, 0, none⟩ va') ∧ W3.heap[w.heap.size + 3]? = some (.cells #[va] 30) := by
  have c1 : Chg (fun b => va.ownBlock = some b) W W3 := ((Chg.refl _ W).alloc o).trans ⟨hg.os, hg.tape, hg.output, hg.size, fun b hb hnn => hg.block b hb (fun e => hnn e.symm)⟩ (fun _ _ q => q)
  have hne : ∀ {b : Nat} {cur : Array Value} {t : TypeId}, W.heap[b]? = some (.cells cur t) → t ≠ 25 → ¬ va.ownBlock = some b := fun {b cur t} e ht q => by
    obtain ⟨-, -, cur', e'⟩ := row_kind hrow q
    rw [e] at e'
    injection e' with e'
    injection e' with _ e'
    exact ht e'
  have k3 : ∀ {b : Nat} {cur : Array Value} {t : TypeId}, W.heap[b]? = some (.cells cur t) → t ≠ 25 → W3.heap[b]? = some (.cells cur t) := fun {b cur t} e ht => (c1.block b (lt_some e) (hne e ht)).trans e
  have h3 := k3 hva (by decide)
  have c2 : Chg (fun b => va.ownBlock = some b ∨ b = w.heap.size + 3) W (W3.setCell ⟨w.heap.size + 3, 0, none⟩ va') := (c1.mono (fun _ _ q => .inl q)).setCell (p := ⟨w.heap.size + 3, 0, none⟩) (fun _ => .inr rfl) va'
  have k4 : ∀ {b : Nat} {cur : Array Value} {t : TypeId}, W.heap[b]? = some (.cells cur t) → t ≠ 25 → b ≠ w.heap.size + 3 → (W3.setCell ⟨w.heap.size + 3, 0, none⟩ va').heap[b]? = some (.cells cur t) := fun {b cur t} e ht hb =>
    (c2.block b (lt_some e) (fun q => by rcases q with q | q; exact hne e ht q; exact hb q)).trans e
  have hs : (W3.setCell ⟨w.heap.size + 3, 0, none⟩ va').heap[w.heap.size + 3]? = some (.cells #[va'] 30) := Boxed.set va' (show Boxed W3 (w.heap.size + 3) 30 va from h3)
  have hrow' : (W3.setCell ⟨w.heap.size + 3, 0, none⟩ va').ownsRow w.heap.size 25 4 va' (pre.length + 1) (rowsI pre ++ [.int .u8 x.t, v', .int .i64 x.k, .int .i64 x.l]) := by
    refine hr.kept (grownBy_setCell' W3 (w.heap.size + 3) va') (.inr fun q => ?_)
    obtain ⟨-, -, cur', e'⟩ := row_kind hr q
    rw [h3] at e'
    injection e' with e'
    injection e' with _ e'
    cases e'
  refine ⟨⟨h.chg.trans c2 (fun i hi q => ?_), k4 h.b2 (by decide) (by omega), k4 h.b3 (by decide) (by omega), k4 h.b4 (by decide) (by omega), ⟨va', hs, ?_⟩, k4 h.bx (by decide) (by omega), ?_, fun p hp => ?_⟩, c2, h3⟩
  · rcases q with q | q
    · have := (row_kind hrow q).1
      omega
    · omega
  · rw [List.length_append, rowsI_snoc]
    exact hrow'
  · rw [List.map_append]
    exact h.its.snoc hx
  · have keep : ∀ {u : Value} {ys : List Int}, OwnV W u ys → OwnV (W3.setCell ⟨w.heap.size + 3, 0, none⟩ va') u ys := fun {u ys} ho => ho.keep (fun b e => by
      obtain ⟨cur, q⟩ := ho.kind e
      rw [k4 q (by decide) (fun e3 => by subst e3; rw [hva] at q; injection q with q; injection q with _ q; cases q), q])
    rcases List.mem_append.1 hp with hp | hp
    · exact ⟨keep (h.bod p hp).1, (h.bod p hp).2⟩
    · obtain rfl := List.mem_singleton.1 hp
      exact ⟨keep hov, hn⟩
end Go.Proofs.YtnidfbcninkglaaDoor
