/-
  Arrays of digits as blocks of memory: what a block holds, what a call leaves alone, whole arrays loaded and stored.
-/
import Derived.Test.YtijpdhjlafihkaaDoorProg
import Derived.WalkKit
import Derived.WalkSpells
import Derived.WalkLawsBesides
import Derived.Laws.Rows
import Derived.Laws.Tables
import Derived.Deep.WholeRow
import Derived.Laws.ResultCell
import Derived.Deep.RegionWith
import Derived.Deep.Cut
import Derived.Deep.CutBlock
import Derived.Deep.QuietTactic
namespace Go.Proofs.YtijpdhjlafihkaaDoor
open Go.RowKit
set_option linter.unusedVariables false
set_option maxRecDepth 100000

/-- Of what was there nothing has changed. -/
structure Chg (w w' : World) : Prop where
  os : w'.os = w.os
  tape : w'.tape = w.tape
  output : w'.output = w.output
  size : w.heap.size ≤ w'.heap.size
  block : ∀ k, k < w.heap.size → w'.heap[k]? = w.heap[k]?

theorem Chg.refl (w : World) : Chg w w := ⟨rfl, rfl, rfl, Nat.le_refl _, fun _ _ => rfl⟩

theorem Chg.trans {a b c : World} (h : Chg a b) (k : Chg b c) : Chg a c :=
  ⟨k.os.trans h.os, k.tape.trans h.tape, k.output.trans h.output, Nat.le_trans h.size k.size, fun i hi =>
    (k.block i (Nat.lt_of_lt_of_le hi h.size)).trans (h.block i hi)⟩

theorem Chg.drew {a b : World} (h : Chg a b) : Chg a b.drew := ⟨h.os, h.tape, h.output, h.size, h.block⟩

theorem Chg.alloc {a w : World} (h : Chg a w) (o : Obj) : Chg a (w.alloc o) :=
  h.trans ⟨rfl, rfl, rfl, by simp, fun k hk => Below.heap_alloc _ _ _ hk⟩

theorem Chg.setCell {a w : World} (h : Chg a w) {p : Addr} (hp : a.heap.size ≤ p.block) (u : Value) : Chg a (w.setCell p u) :=
  ⟨h.os, h.tape, h.output, by simp [World.setCell]; exact h.size, fun k hk => (Below.heap_setCell _ _ _ _ (by omega)).trans (h.block k hk)⟩

theorem Chg.setRow {a w : World} (h : Chg a w) {b : Nat} (hb : a.heap.size ≤ b) (c : Array Value) : Chg a (w.setRow b c) :=
  ⟨h.os, h.tape, h.output, by simp [World.setRow]; exact h.size, fun k hk => (setRow_other _ _ _ _ (by omega)).trans (h.block k hk)⟩

/-- A block that holds these cells, and may be written. -/
def Ar (w : World) (b : Nat) (c : Array Value) : Prop := ∃ t, w.heap[b]? = some (.cells c t (0, 0))

theorem Ar.lt {w : World} {b : Nat} {c : Array Value} (h : Ar w b c) : b < w.heap.size := by
  obtain ⟨t, h⟩ := h
  exact (Array.getElem?_eq_some_iff.1 h).1

theorem Ar.cell {w : World} {b : Nat} {c : Array Value} (h : Ar w b c) (i : Nat) : w.cell? ⟨b, i, none⟩ = c[i]? := by
  obtain ⟨t, h⟩ := h
  exact cell_of_row w b i c t (0, 0) h

theorem Ar.frozen {w : World} {b : Nat} {c : Array Value} (h : Ar w b c) (i : Nat) : w.frozen? ⟨b, i, none⟩ = false := by
  obtain ⟨t, h⟩ := h
  simp [World.frozen?, h]

theorem Ar.chg {w w' : World} {b : Nat} {c : Array Value} (h : Ar w b c) (k : Chg w w') : Ar w' b c := by
  have hl := h.lt
  obtain ⟨t, h⟩ := h
  exact ⟨t, (k.block b hl).trans h⟩

theorem Ar.new (w : World) (c : Array Value) (t : TypeId) : Ar (w.alloc (.cells c t)) w.heap.size c := ⟨t, heap_alloc_last w _⟩

theorem Ar.alloc {w : World} {b : Nat} {c : Array Value} (h : Ar w b c) (o : Obj) : Ar (w.alloc o) b c := h.chg ((Chg.refl w).alloc o)

theorem Ar.drew {w : World} {b : Nat} {c : Array Value} (h : Ar w b c) : Ar w.drew b c := h

theorem Ar.set {w : World} {b : Nat} {c : Array Value} (h : Ar w b c) (i : Nat) (v : Value) : Ar (w.setCell ⟨b, i, none⟩ v) b (c.setIfInBounds i v) := by
  obtain ⟨t, h⟩ := h
  refine ⟨t, ?_⟩
  rw [setCell_eq_setRow w b i c t (0, 0) v h, setRow_heap _ _ _ _ _ _ h]

theorem Ar.other {w : World} {b : Nat} {c : Array Value} (h : Ar w b c) {p : Addr} (hp : b ≠ p.block) (v : Value) : Ar (w.setCell p v) b c := by
  obtain ⟨t, h⟩ := h
  exact ⟨t, (Below.heap_setCell _ _ _ _ hp).trans h⟩

theorem Ar.row {w : World} {b : Nat} {c : Array Value} (h : Ar w b c) (c' : Array Value) : Ar (w.setRow b c') b c' := by
  obtain ⟨t, h⟩ := h
  exact ⟨t, setRow_heap _ _ _ _ _ _ h⟩

theorem Ar.rowOther {w : World} {b b' : Nat} {c : Array Value} (h : Ar w b c) (hb : b ≠ b') (c' : Array Value) : Ar (w.setRow b' c') b c := by
  obtain ⟨t, h⟩ := h
  exact ⟨t, (setRow_other _ _ _ _ hb).trans h⟩

/-- The whole array. -/
theorem Ar.load {w : World} {b : Nat} {c : Array Value} (h : Ar w b c) {n : Nat} (hn : c.size = n) :
    (loadCellsFrom ⟨b, 0, none⟩ 0 n #[]).run Tryd.prog w = .ok c w := by
  subst hn
  have := run_loadCells_list (P := Tryd.prog) w ⟨b, 0, none⟩ c.toList (fun j v hv => by
    have hadd : (⟨b, 0, none⟩ : Addr).add j = ⟨b, j, none⟩ := by unfold Addr.add; split <;> simp_all
    rw [hadd, h.cell]
    simpa using hv)
  simpa [loadCells] using this

def upd (d : Nat → Int) (i : Nat) (x : Int) : Nat → Int := fun j => if j = i then x else d j
theorem upd_same (d : Nat → Int) (i : Nat) (x : Int) : upd d i x i = x := by simp [upd]
theorem upd_ne (d : Nat → Int) {i j : Nat} (x : Int) (h : j ≠ i) : upd d i x j = d j := by simp [upd, h]

/-- Digits, as cells. -/
def arr (κ : IntKind) (n : Nat) (d : Nat → Int) : Array Value := ((List.range n).map fun i => Value.int κ (d i)).toArray

theorem arr_size (κ : IntKind) (n : Nat) (d : Nat → Int) : (arr κ n d).size = n := by simp [arr]

theorem arr_get (κ : IntKind) (n : Nat) (d : Nat → Int) {i : Nat} (h : i < n) : (arr κ n d)[i]? = some (.int κ (d i)) := by
  simp [arr, h]

theorem arr_set (κ : IntKind) (n : Nat) (d : Nat → Int) (i : Nat) (x : Int) : (arr κ n d).setIfInBounds i (.int κ x) = arr κ n (upd d i x) := by
  apply Array.ext_getElem?
  intro j
  rw [Array.getElem?_setIfInBounds]
  by_cases h : i = j
  · subst h
    by_cases hn : i < n
    · rw [arr_get _ _ (upd d i x) hn, upd_same]
      simp [arr_size, hn]
    · simp [hn, arr]
  · by_cases hn : j < n
    · have h' : ¬ j = i := fun e => h e.symm
      simp [h, hn, arr_get, upd, h']
    · have h' : ¬ j = i := fun e => h e.symm
      simp [h, arr, hn]

theorem arr_one (κ : IntKind) (n : Nat) (d : Nat → Int) : (arr κ n d).all (·.oneCell') = true := by
  rw [Array.all_eq_true_iff_forall_mem]
  intro v hv
  simp [arr] at hv
  obtain ⟨i, _, rfl⟩ := hv
  rfl

theorem Ar.store {w : World} {b : Nat} {κ : IntKind} {n : Nat} {c : Array Value} (h : Ar w b c) (d : Nat → Int) (hn : c.size = n) :
    (storeCells ⟨b, 0, none⟩ (arr κ n d).toList 0).run Tryd.prog w = .ok () (w.setRow b (arr κ n d)) := by
  obtain ⟨t, h⟩ := h
  have := run_storeCells_from (P := Tryd.prog) b t (arr κ n d).toList 0 c w h (by simp [arr_size, hn]) (fun v hv => (Array.all_eq_true_iff_forall_mem.1 (arr_one κ n d)) v (by simpa using hv))
  refine this.trans ?_
  simp

/-! A whole array as a result. -/
theorem Ar.loadVar {w : World} {b : Nat} {c : Array Value} (h : Ar w b c) (ty : TypeId) {n : Nat} {e : TypeId} (hu : Tryd.prog.underlying ty = some (.array n e)) (hi : (Tryd.prog.info? ty).map (·.size) = some n) (hc : c.size = n) :
    (Go.loadVar ty ⟨b, 0, none⟩).run Tryd.prog w = .ok (.agg c) w := by
  obtain ⟨t, h⟩ := h
  exact run_loadVar_row w b t ty c (0, 0) _ h hu rfl (by rw [hi, hc])

theorem bp_c {fn : Func} {R : Ending → World → Prop} {a : Act} {w : World} {p b n : Nat} {ty e : TypeId} {c : Array Value} (h : fn.results = #[.cell p ty]) (hd : a.defers = []) (hp : a.tmps.getD p undef = .pointer (some ⟨b, 0, none⟩)) (ha : Ar w b c)
    (hu : Tryd.prog.underlying ty = some (.array n e)) (hi : (Tryd.prog.info? ty).map (·.size) = some n) (hc : c.size = n) (hR : R (.returned (.agg c)) w) : bodyPost Tryd.prog fn R .ret a w := by
  refine bodyPost_ret (v := .agg c) ?_ hd hR
  rw [Array.getD_eq_getD_getElem?] at hp
  simp only [results, h]
  simp [hp, asAddr, ha.loadVar ty hu hi hc]

theorem bp_ct {fn : Func} {R : Ending → World → Prop} {a : Act} {w : World} {p u b n : Nat} {ty e : TypeId} {c : Array Value} {x : Value} (h : fn.results = #[.cell p ty, .tmp u]) (hd : a.defers = []) (hp : a.tmps.getD p undef = .pointer (some ⟨b, 0, none⟩)) (hx : a.tmps.getD u undef = x) (ha : Ar w b c)
    (hu : Tryd.prog.underlying ty = some (.array n e)) (hi : (Tryd.prog.info? ty).map (·.size) = some n) (hc : c.size = n) (hR : R (.returned (.tuple #[.agg c, x])) w) : bodyPost Tryd.prog fn R .ret a w := by
  refine bodyPost_ret (v := .tuple #[.agg c, x]) ?_ hd hR
  rw [results_cell_tmp h]
  simp [Result.andThen, hp, hx, asAddr, ha.loadVar ty hu hi hc]

end Go.Proofs.YtijpdhjlafihkaaDoor
