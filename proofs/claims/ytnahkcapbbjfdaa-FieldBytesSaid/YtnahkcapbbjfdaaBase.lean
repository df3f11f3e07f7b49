/-
  Arrays of digits as blocks of memory: what a block holds, what a call leaves alone, whole arrays loaded and stored.
-/
import Derived.Test.YtnahkcapbbjfdaaProg
import Derived.Test.YtnahkcapbbjfdaaVal
import Derived.WalkKit
import Derived.WalkSpells
import Derived.WalkLawsBesides
import Derived.Laws.Rows
import Derived.Laws.Tables
import Derived.Deep.WholeRow
import Derived.Laws.ResultCell
import Derived.Deep.RegionWith
import Derived.Deep.Cut
import Derived.Deep.CutBlock
import Derived.Deep.QuietTactic
namespace Go.Proofs.Ytnahkcapbbjfdaa
open Go.RowKit
set_option linter.unusedVariables false

/-- Of what was there nothing has changed. -/
structure Chg (w w' : World) : Prop where
  os : w'.os = w.os
  tape : w'.tape = w.tape
  output : w'.output = w.output
  size : w.heap.size ≤ w'.heap.size
  block : ∀ k, k < w.heap.size → w'.heap[k]? = w.heap[k]?

theorem Chg.refl (w : World) : Chg w w := ⟨rfl, rfl, rfl, Nat.le_refl _, fun _ _ => rfl⟩

theorem Chg.trans {a b c : World} (h : Chg a b) (k : Chg b c) : Chg a c :=
  ⟨k.os.trans h.os, k.tape.trans h.tape, k.output.trans h.output, Nat.le_trans h.size k.size, fun i hi =>
    (k.block i (Nat.lt_of_lt_of_le hi h.size)).trans (h.block i hi)⟩

theorem Chg.drew {a b : World} (h : Chg a b) : Chg a b.drew := ⟨h.os, h.tape, h.output, h.size, h.block⟩

theorem Chg.alloc {a w : World} (h : Chg a w) (o : Obj) : Chg a (w.alloc o) :=
  h.trans ⟨rfl, rfl, rfl, by simp, fun k hk => Below.heap_alloc _ _ _ hk⟩

theorem Chg.setCell {a w : World} (h : Chg a w) {p : Addr} (hp : a.heap.size ≤ p.block) (u : Value) : Chg a (w.setCell p u) :=
  ⟨h.os, h.tape, h.output, by simp [World.setCell]; exact h.size, fun k hk => (Below.heap_setCell _ _ _ _ (by omega)).trans (h.block k hk)⟩

theorem Chg.setRow {a w : World} (h : Chg a w) {b : Nat} (hb : a.heap.size ≤ b) (c : Array Value) : Chg a (w.setRow b c) :=
  ⟨h.os, h.tape, h.output, by simp [World.setRow]; exact h.size, fun k hk => (setRow_other _ _ _ _ (by omega)).trans (h.block k hk)⟩

/-- A block that holds these cells, and may be written. -/
def Ar (w : World) (b : Nat) (c : Array Value) : Prop := ∃ t, w.heap[b]? = some (.cells c t (0, 0))

theorem Ar.lt {w : World} {b : Nat} {c : Array Value} (h : Ar w b c) : b < w.heap.size := by
  obtain ⟨t, h⟩ := h
  exact (Array.getElem?_eq_some_iff.1 h).1

theorem Ar.cell {w : World} {b : Nat} {c : Array Value} (h : Ar w b c) (i : Nat) : w.cell? ⟨b, i, none⟩ = c[i]? := by
  obtain ⟨t, h⟩ := h
  exact cell_of_row w b i c t (0, 0) h

theorem Ar.frozen {w : World} {b : Nat} {c : Array Value} (h : Ar w b c) (i : Nat) : w.frozen? ⟨b, i, none⟩ = false := by
  obtain ⟨t, h⟩ := h
  simp [World.frozen?, h]

theorem Ar.chg {w w' : World} {b : Nat} {c : Array Value} (h : Ar w b c) (k : Chg w w') : Ar w' b c := by
  have hl := h.lt
  obtain ⟨t, h⟩ := h
  exact ⟨t, (k.block b hl).trans h⟩

theorem Ar.new (w : World) (c : Array Value) (t : TypeId) : Ar (w.alloc (.cells c t)) w.heap.size c := ⟨t, heap_alloc_last w _⟩

theorem Ar.alloc {w : World} {b : Nat} {c : Array Value} (h : Ar w b c) (o : Obj) : Ar (w.alloc o) b c := h.chg ((Chg.refl w).alloc o)

theorem Ar.drew {w : World} {b : Nat} {c : Array Value} (h : Ar w b c) : Ar w.drew b c := h

theorem Ar.set {w : World} {b : Nat} {c : Array Value} (h : Ar w b c) (i : Nat) (v : Value) : Ar (w.setCell ⟨b, i, none⟩ v) b (c.setIfInBounds i v) := by
  obtain ⟨t, h⟩ := h
  refine ⟨t, ?_⟩
  rw [setCell_eq_setRow w b i c t (0, 0) v h, setRow_heap _ _ _ _ _ _ h]

theorem Ar.other {w : World} {b : Nat} {c : Array Value} (h : Ar w b c) {p : Addr} (hp : b ≠ p.block) (v : Value) : Ar (w.setCell p v) b c := by
  obtain ⟨t, h⟩ := h
  exact ⟨t, (Below.heap_setCell _ _ _ _ hp).trans h⟩

theorem Ar.row {w : World} {b : Nat} {c : Array Value} (h : Ar w b c) (c' : Array Value) : Ar (w.setRow b c') b c' := by
  obtain ⟨t, h⟩ := h
  exact ⟨t, setRow_heap _ _ _ _ _ _ h⟩

theorem Ar.rowOther {w : World} {b b' : Nat} {c : Array Value} (h : Ar w b c) (hb : b ≠ b') (c' : Array Value) : Ar (w.setRow b' c') b c := by
  obtain ⟨t, h⟩ := h
  exact ⟨t, (setRow_other _ _ _ _ hb).trans h⟩

/-- The whole array. -/
theorem Ar.load {w : World} {b : Nat} {c : Array Value} (h : Ar w b c) {n : Nat} (hn : c.size = n) :
    (loadCellsFrom ⟨b, 0, none⟩ 0 n #[]).run Try.prog w = .ok c w := by
  subst hn
  have := run_loadCells_list (P := Try.prog) w ⟨b, 0, none⟩ c.toList (fun j v hv => by
    have hadd : (⟨b, 0, none⟩ : Addr).add j = ⟨b, j, none⟩ := by unfold Addr.add; split <;> simp_all
    rw [hadd, h.cell]
    simpa using hv)
  simpa [loadCells] using this

/-- Digits, as cells. -/
def arr (κ : IntKind) (n : Nat) (d : Nat → Int) : Array Value := ((List.range n).map fun i => Value.int κ (d i)).toArray

theorem arr_size (κ : IntKind) (n : Nat) (d : Nat → Int) : (arr κ n d).size = n := by simp [arr]

theorem arr_get (κ : IntKind) (n : Nat) (d : Nat → Int) {i : Nat} (h : i < n) : (arr κ n d)[i]? = some (.int κ (d i)) := by
  simp [arr, h]

theorem arr_set (κ : IntKind) (n : Nat) (d : Nat → Int) (i : Nat) (x : Int) : (arr κ n d).setIfInBounds i (.int κ x) = arr κ n (upd d i x) := by
  apply Array.ext_getElem?
  intro j
  rw [Array.getElem?_setIfInBounds]
  by_cases h : i = j
  · subst h
    by_cases hn : i < n
    · rw [arr_get _ _ (upd d i x) hn, upd_same]
      simp [arr_size, hn]
    · simp [hn, arr]
  · by_cases hn : j < n
    · have h' : ¬ j = i := fun e => h e.symm
      simp [h, hn, arr_get, upd, h']
    · have h' : ¬ j = i := fun e => h e.symm
      simp [h, arr, hn]

/-- The cells of a number of four digits. -/
theorem Ar.four {w : World} {b : Nat} {d : Nat → Int} (h : Ar w b (arr .u64 4 d)) : w.cell? ⟨b, 0, none⟩ = some (.int .u64 (d 0)) ∧ w.cell? ⟨b, 1, none⟩ = some (.int .u64 (d 1)) ∧ w.cell? ⟨b, 2, none⟩ = some (.int .u64 (d 2)) ∧ w.cell? ⟨b, 3, none⟩ = some (.int .u64 (d 3)) :=
  ⟨h.cell 0, h.cell 1, h.cell 2, h.cell 3⟩
theorem Ar.free4 {w : World} {b : Nat} {c : Array Value} (h : Ar w b c) : w.frozen? ⟨b, 0, none⟩ = false ∧ w.frozen? ⟨b, 1, none⟩ = false ∧ w.frozen? ⟨b, 2, none⟩ = false ∧ w.frozen? ⟨b, 3, none⟩ = false :=
  ⟨h.frozen 0, h.frozen 1, h.frozen 2, h.frozen 3⟩

theorem arr_one (κ : IntKind) (n : Nat) (d : Nat → Int) : (arr κ n d).all (·.oneCell') = true := by
  rw [Array.all_eq_true_iff_forall_mem]
  intro v hv
  simp [arr] at hv
  obtain ⟨i, _, rfl⟩ := hv
  rfl

theorem Ar.store {w : World} {b : Nat} {κ : IntKind} {n : Nat} {c : Array Value} (h : Ar w b c) (d : Nat → Int) (hn : c.size = n) :
    (storeCells ⟨b, 0, none⟩ (arr κ n d).toList 0).run Try.prog w = .ok () (w.setRow b (arr κ n d)) := by
  obtain ⟨t, h⟩ := h
  have := run_storeCells_from (P := Try.prog) b t (arr κ n d).toList 0 c w h (by simp [arr_size, hn]) (fun v hv => (Array.all_eq_true_iff_forall_mem.1 (arr_one κ n d)) v (by simpa using hv))
  refine this.trans ?_
  simp

/-! The machine's sums and differences. -/
theorem run_add64 (x y c : Int) (hx : 0 ≤ x) (hy : 0 ≤ y) (hc0 : 0 ≤ c) (hc : c ≤ 1) (w : World) : (callFunc 63 #[.int .u64 x, .int .u64 y, .int .u64 c]).run Try.prog w =
    .ok (.value (.tuple #[.int .u64 ((x + y + c) % 18446744073709551616), .int .u64 ((x + y + c) / 18446744073709551616)])) w := by
  obtain ⟨x, rfl⟩ := Int.eq_ofNat_of_zero_le hx
  obtain ⟨y, rfl⟩ := Int.eq_ofNat_of_zero_le hy
  obtain ⟨c, rfl⟩ := Int.eq_ofNat_of_zero_le hc0
  have : c = 0 ∨ c = 1 := by omega
  rcases this with rfl | rfl <;> rfl

/-- The 1 that a difference lacks. -/
def bor (x y : Int) : Int := if x < y then 1 else 0
theorem bor_le (x y : Int) : 0 ≤ bor x y ∧ bor x y ≤ 1 := by unfold bor; split <;> decide

theorem run_sub64 (x y b : Int) (hx : 0 ≤ x) (hy : 0 ≤ y) (hy' : y < 18446744073709551616) (hb0 : 0 ≤ b) (hb : b ≤ 1) (w : World) : (callFunc 64 #[.int .u64 x, .int .u64 y, .int .u64 b]).run Try.prog w =
    .ok (.value (.tuple #[.int .u64 ((x - y - b) % 18446744073709551616), .int .u64 (bor x (y + b))])) w := by
  obtain ⟨x, rfl⟩ := Int.eq_ofNat_of_zero_le hx
  obtain ⟨y, rfl⟩ := Int.eq_ofNat_of_zero_le hy
  obtain ⟨b, rfl⟩ := Int.eq_ofNat_of_zero_le hb0
  have e1 : (((x + 18446744073709551616 - y - b) % 18446744073709551616 : Nat) : Int) = ((x : Int) - y - b) % 18446744073709551616 := by omega
  have e2 : ((if x < y + b then 1 else 0 : Nat) : Int) = bor x (y + b) := by unfold bor; split <;> split <;> omega
  rw [← e1, ← e2]
  have : b = 0 ∨ b = 1 := by omega
  rcases this with rfl | rfl <;> rfl

/-! A whole array as a result. -/
theorem Ar.loadVar {w : World} {b : Nat} {c : Array Value} (h : Ar w b c) (ty : TypeId) {n : Nat} {e : TypeId} (hu : Try.prog.underlying ty = some (.array n e)) (hi : (Try.prog.info? ty).map (·.size) = some n) (hc : c.size = n) :
    (Go.loadVar ty ⟨b, 0, none⟩).run Try.prog w = .ok (.agg c) w := by
  obtain ⟨t, h⟩ := h
  exact run_loadVar_row w b t ty c (0, 0) _ h hu rfl (by rw [hi, hc])

theorem bp_c {fn : Func} {R : Ending → World → Prop} {a : Act} {w : World} {p b n : Nat} {ty e : TypeId} {c : Array Value} (h : fn.results = #[.cell p ty]) (hd : a.defers = []) (hp : a.tmps.getD p undef = .pointer (some ⟨b, 0, none⟩)) (ha : Ar w b c)
    (hu : Try.prog.underlying ty = some (.array n e)) (hi : (Try.prog.info? ty).map (·.size) = some n) (hc : c.size = n) (hR : R (.returned (.agg c)) w) : bodyPost Try.prog fn R .ret a w := by
  refine bodyPost_ret (v := .agg c) ?_ hd hR
  rw [Array.getD_eq_getD_getElem?] at hp
  simp only [results, h]
  simp [hp, asAddr, ha.loadVar ty hu hi hc]

theorem bp_ct {fn : Func} {R : Ending → World → Prop} {a : Act} {w : World} {p u b n : Nat} {ty e : TypeId} {c : Array Value} {x : Value} (h : fn.results = #[.cell p ty, .tmp u]) (hd : a.defers = []) (hp : a.tmps.getD p undef = .pointer (some ⟨b, 0, none⟩)) (hx : a.tmps.getD u undef = x) (ha : Ar w b c)
    (hu : Try.prog.underlying ty = some (.array n e)) (hi : (Try.prog.info? ty).map (·.size) = some n) (hc : c.size = n) (hR : R (.returned (.tuple #[.agg c, x])) w) : bodyPost Try.prog fn R .ret a w := by
  refine bodyPost_ret (v := .tuple #[.agg c, x]) ?_ hd hR
  rw [results_cell_tmp h]
  simp [Result.andThen, hp, hx, asAddr, ha.loadVar ty hu hi hc]

theorem u25 : Try.prog.underlying 25 = some (.array 4 23) := by kernel_rfl
theorem i25 : (Try.prog.info? 25).map (·.size) = some 4 := by kernel_rfl

/-- Four stores of a whole number. -/
theorem Ar.put4 {w : World} {b : Nat} {d : Nat → Int} (h : Ar w b (arr .u64 4 d)) (x0 x1 x2 x3 : Int) (s : Nat → Int) (h0 : s 0 = x0) (h1 : s 1 = x1) (h2 : s 2 = x2) (h3 : s 3 = x3) :
    Ar ((((w.setCell ⟨b, 0, none⟩ (.int .u64 x0)).setCell ⟨b, 1, none⟩ (.int .u64 x1)).setCell ⟨b, 2, none⟩ (.int .u64 x2)).setCell ⟨b, 3, none⟩ (.int .u64 x3)) b (arr .u64 4 s) := by
  subst h0 h1 h2 h3
  exact (((h.set 0 _).set 1 _).set 2 _).set 3 _
end Go.Proofs.Ytnahkcapbbjfdaa
