/-
  Arrays of digits as blocks of memory: what a block holds, what a call leaves alone, whole arrays loaded and stored.
  Bytes doubled, turned, and their boxes: the small functions of both.
  Blocks XORed, and words of boxes: the functions xored and boxed.
  Words of boxes: the function boxed.
  All boxes: the function boxes.
-/
import Derived.Test.YtobglgddbhddnaaGreatProg
import Derived.Test.YtobglgddbhddnaaGreatJ00
import Derived.WalkKit
import Derived.WalkSpells
import Derived.WalkLawsBesides
import Derived.Laws.Rows
import Derived.Laws.Tables
import Derived.Deep.WholeRow
import Derived.Laws.ResultCell
import Derived.Deep.RegionWith
import Derived.Deep.Cut
import Derived.Deep.CutBlock
import Derived.Deep.QuietTactic
import Derived.Laws.BitsAllLaws
import Derived.Laws.BitsLemmas
namespace Go.Proofs.YtobglgddbhddnaaGreat
open Go.RowKit
set_option linter.unusedVariables false

/-- Of what was there nothing has changed. -/
structure Chg (w w' : World) : Prop where
  os : w'.os = w.os
  tape : w'.tape = w.tape
  output : w'.output = w.output
  size : w.heap.size ≤ w'.heap.size
  block : ∀ k, k < w.heap.size → w'.heap[k]? = w.heap[k]?

theorem Chg.refl (w : World) : Chg w w := ⟨rfl, rfl, rfl, Nat.le_refl _, fun _ _ => rfl⟩

theorem Chg.trans {a b c : World} (h : Chg a b) (k : Chg b c) : Chg a c :=
  ⟨k.os.trans h.os, k.tape.trans h.tape, k.output.trans h.output, Nat.le_trans h.size k.size, fun i hi =>
    (k.block i (Nat.lt_of_lt_of_le hi h.size)).trans (h.block i hi)⟩

theorem Chg.drew {a b : World} (h : Chg a b) : Chg a b.drew := ⟨h.os, h.tape, h.output, h.size, h.block⟩

theorem Chg.alloc {a w : World} (h : Chg a w) (o : Obj) : Chg a (w.alloc o) :=
  h.trans ⟨rfl, rfl, rfl, by simp, fun k hk => Below.heap_alloc _ _ _ hk⟩

theorem Chg.setCell {a w : World} (h : Chg a w) {p : Addr} (hp : a.heap.size ≤ p.block) (u : Value) : Chg a (w.setCell p u) :=
  ⟨h.os, h.tape, h.output, by simp [World.setCell]; exact h.size, fun k hk => (Below.heap_setCell _ _ _ _ (by omega)).trans (h.block k hk)⟩

theorem Chg.setRow {a w : World} (h : Chg a w) {b : Nat} (hb : a.heap.size ≤ b) (c : Array Value) : Chg a (w.setRow b c) :=
  ⟨h.os, h.tape, h.output, by simp [World.setRow]; exact h.size, fun k hk => (setRow_other _ _ _ _ (by omega)).trans (h.block k hk)⟩

/-- A block that holds these cells, and may be written. -/
def Ar (w : World) (b : Nat) (c : Array Value) : Prop := ∃ t, w.heap[b]? = some (.cells c t (0, 0))

theorem Ar.lt {w : World} {b : Nat} {c : Array Value} (h : Ar w b c) : b < w.heap.size := by
  obtain ⟨t, h⟩ := h
  exact (Array.getElem?_eq_some_iff.1 h).1

theorem Ar.cell {w : World} {b : Nat} {c : Array Value} (h : Ar w b c) (i : Nat) : w.cell? ⟨b, i, none⟩ = c[i]? := by
  obtain ⟨t, h⟩ := h
  exact cell_of_row w b i c t (0, 0) h

theorem Ar.frozen {w : World} {b : Nat} {c : Array Value} (h : Ar w b c) (i : Nat) : w.frozen? ⟨b, i, none⟩ = false := by
  obtain ⟨t, h⟩ := h
  simp [World.frozen?, h]

theorem Ar.chg {w w' : World} {b : Nat} {c : Array Value} (h : Ar w b c) (k : Chg w w') : Ar w' b c := by
  have hl := h.lt
  obtain ⟨t, h⟩ := h
  exact ⟨t, (k.block b hl).trans h⟩

theorem Ar.new (w : World) (c : Array Value) (t : TypeId) : Ar (w.alloc (.cells c t)) w.heap.size c := ⟨t, heap_alloc_last w _⟩

theorem Ar.alloc {w : World} {b : Nat} {c : Array Value} (h : Ar w b c) (o : Obj) : Ar (w.alloc o) b c := h.chg ((Chg.refl w).alloc o)

theorem Ar.drew {w : World} {b : Nat} {c : Array Value} (h : Ar w b c) : Ar w.drew b c := h

theorem Ar.set {w : World} {b : Nat} {c : Array Value} (h : Ar w b c) (i : Nat) (v : Value) : Ar (w.setCell ⟨b, i, none⟩ v) b (c.setIfInBounds i v) := by
  obtain ⟨t, h⟩ := h
  refine ⟨t, ?_⟩
  rw [setCell_eq_setRow w b i c t (0, 0) v h, setRow_heap _ _ _ _ _ _ h]

theorem Ar.other {w : World} {b : Nat} {c : Array Value} (h : Ar w b c) {p : Addr} (hp : b ≠ p.block) (v : Value) : Ar (w.setCell p v) b c := by
  obtain ⟨t, h⟩ := h
  exact ⟨t, (Below.heap_setCell _ _ _ _ hp).trans h⟩

theorem Ar.row {w : World} {b : Nat} {c : Array Value} (h : Ar w b c) (c' : Array Value) : Ar (w.setRow b c') b c' := by
  obtain ⟨t, h⟩ := h
  exact ⟨t, setRow_heap _ _ _ _ _ _ h⟩

theorem Ar.rowOther {w : World} {b b' : Nat} {c : Array Value} (h : Ar w b c) (hb : b ≠ b') (c' : Array Value) : Ar (w.setRow b' c') b c := by
  obtain ⟨t, h⟩ := h
  exact ⟨t, (setRow_other _ _ _ _ hb).trans h⟩

/-- The whole array. -/
theorem Ar.load {w : World} {b : Nat} {c : Array Value} (h : Ar w b c) {n : Nat} (hn : c.size = n) :
    (loadCellsFrom ⟨b, 0, none⟩ 0 n #[]).run Tryz.prog w = .ok c w := by
  subst hn
  have := run_loadCells_list (P := Tryz.prog) w ⟨b, 0, none⟩ c.toList (fun j v hv => by
    have hadd : (⟨b, 0, none⟩ : Addr).add j = ⟨b, j, none⟩ := by unfold Addr.add; split <;> simp_all
    rw [hadd, h.cell]
    simpa using hv)
  simpa [loadCells] using this

def upd (d : Nat → Int) (i : Nat) (x : Int) : Nat → Int := fun j => if j = i then x else d j
theorem upd_same (d : Nat → Int) (i : Nat) (x : Int) : upd d i x i = x := by simp [upd]
theorem upd_ne (d : Nat → Int) {i j : Nat} (x : Int) (h : j ≠ i) : upd d i x j = d j := by simp [upd, h]

/-- Digits, as cells. -/
def arr (κ : IntKind) (n : Nat) (d : Nat → Int) : Array Value := ((List.range n).map fun i => Value.int κ (d i)).toArray

theorem arr_size (κ : IntKind) (n : Nat) (d : Nat → Int) : (arr κ n d).size = n := by simp [arr]

theorem arr_get (κ : IntKind) (n : Nat) (d : Nat → Int) {i : Nat} (h : i < n) : (arr κ n d)[i]? = some (.int κ (d i)) := by
  simp [arr, h]

theorem arr_set (κ : IntKind) (n : Nat) (d : Nat → Int) (i : Nat) (x : Int) : (arr κ n d).setIfInBounds i (.int κ x) = arr κ n (upd d i x) := by
  apply Array.ext_getElem?
  intro j
  rw [Array.getElem?_setIfInBounds]
  by_cases h : i = j
  · subst h
    by_cases hn : i < n
    · rw [arr_get _ _ (upd d i x) hn, upd_same]
      simp [arr_size, hn]
    · simp [hn, arr]
  · by_cases hn : j < n
    · have h' : ¬ j = i := fun e => h e.symm
      simp [h, hn, arr_get, upd, h']
    · have h' : ¬ j = i := fun e => h e.symm
      simp [h, arr, hn]

theorem arr_one (κ : IntKind) (n : Nat) (d : Nat → Int) : (arr κ n d).all (·.oneCell') = true := by
  rw [Array.all_eq_true_iff_forall_mem]
  intro v hv
  simp [arr] at hv
  obtain ⟨i, _, rfl⟩ := hv
  rfl

theorem Ar.store {w : World} {b : Nat} {κ : IntKind} {n : Nat} {c : Array Value} (h : Ar w b c) (d : Nat → Int) (hn : c.size = n) :
    (storeCells ⟨b, 0, none⟩ (arr κ n d).toList 0).run Tryz.prog w = .ok () (w.setRow b (arr κ n d)) := by
  obtain ⟨t, h⟩ := h
  have := run_storeCells_from (P := Tryz.prog) b t (arr κ n d).toList 0 c w h (by simp [arr_size, hn]) (fun v hv => (Array.all_eq_true_iff_forall_mem.1 (arr_one κ n d)) v (by simpa using hv))
  refine this.trans ?_
  simp

/-! A whole array as a result. -/
theorem Ar.loadVar {w : World} {b : Nat} {c : Array Value} (h : Ar w b c) (ty : TypeId) {n : Nat} {e : TypeId} (hu : Tryz.prog.underlying ty = some (.array n e)) (hi : (Tryz.prog.info? ty).map (·.size) = some n) (hc : c.size = n) :
    (Go.loadVar ty ⟨b, 0, none⟩).run Tryz.prog w = .ok (.agg c) w := by
  obtain ⟨t, h⟩ := h
  exact run_loadVar_row w b t ty c (0, 0) _ h hu rfl (by rw [hi, hc])

theorem bp_c {fn : Func} {R : Ending → World → Prop} {a : Act} {w : World} {p b n : Nat} {ty e : TypeId} {c : Array Value} (h : fn.results = #[.cell p ty]) (hd : a.defers = []) (hp : a.tmps.getD p undef = .pointer (some ⟨b, 0, none⟩)) (ha : Ar w b c)
    (hu : Tryz.prog.underlying ty = some (.array n e)) (hi : (Tryz.prog.info? ty).map (·.size) = some n) (hc : c.size = n) (hR : R (.returned (.agg c)) w) : bodyPost Tryz.prog fn R .ret a w := by
  refine bodyPost_ret (v := .agg c) ?_ hd hR
  rw [Array.getD_eq_getD_getElem?] at hp
  simp only [results, h]
  simp [hp, asAddr, ha.loadVar ty hu hi hc]

theorem bp_ct {fn : Func} {R : Ending → World → Prop} {a : Act} {w : World} {p u b n : Nat} {ty e : TypeId} {c : Array Value} {x : Value} (h : fn.results = #[.cell p ty, .tmp u]) (hd : a.defers = []) (hp : a.tmps.getD p undef = .pointer (some ⟨b, 0, none⟩)) (hx : a.tmps.getD u undef = x) (ha : Ar w b c)
    (hu : Tryz.prog.underlying ty = some (.array n e)) (hi : (Tryz.prog.info? ty).map (·.size) = some n) (hc : c.size = n) (hR : R (.returned (.tuple #[.agg c, x])) w) : bodyPost Tryz.prog fn R .ret a w := by
  refine bodyPost_ret (v := .tuple #[.agg c, x]) ?_ hd hR
  rw [results_cell_tmp h]
  simp [Result.andThen, hp, hx, asAddr, ha.loadVar ty hu hi hc]

theorem wrap_i {x : Int} (h0 : -9223372036854775808 ≤ x) (h1 : x < 9223372036854775808) : IntKind.i64.wrap x = x := by rw [IntKind.wrap_i64]; omega
theorem Chg.drewN {a b : World} (h : Chg a b) (n : Nat) : Chg a (b.drewN n) := ⟨h.os, h.tape, h.output, h.size, h.block⟩
theorem Ar.drewN {w : World} {b : Nat} {c : Array Value} (h : Ar w b c) (n : Nat) : Ar (w.drewN n) b c := h

/-! Bytes as cells. -/
def vb (x : By) : Value := .int .u8 (x.toNat : Int)
def ba (n : Nat) (f : Nat → By) : Array Value := arr .u8 n fun i => ((f i).toNat : Int)
def updB (d : Nat → By) (i : Nat) (x : By) : Nat → By := fun j => if j = i then x else d j
theorem ba_size (n : Nat) (f : Nat → By) : (ba n f).size = n := arr_size _ _ _
theorem ba_get (n : Nat) (f : Nat → By) {i : Nat} (h : i < n) : (ba n f)[i]? = some (.int .u8 ((f i).toNat : Int)) := arr_get _ _ _ h
theorem ba_set (n : Nat) (f : Nat → By) (i : Nat) (x : By) : (ba n f).setIfInBounds i (.int .u8 (x.toNat : Int)) = ba n (updB f i x) := by
  unfold ba
  rw [arr_set]
  congr 1
  funext j
  unfold upd updB
  split <;> rfl
theorem ba_congr {n : Nat} {f g : Nat → By} (h : ∀ i, i < n → f i = g i) : ba n f = ba n g := by
  apply Array.ext_getElem?
  intro j
  by_cases hj : j < n
  · rw [ba_get _ _ hj, ba_get _ _ hj, h j hj]
  · simp [ba, arr, hj]
theorem ba_inj {n : Nat} {f g : Nat → By} (h : ba n f = ba n g) : ∀ i, i < n → f i = g i := by
  intro i hi
  have := congrArg (·[i]?) h
  simp only [ba_get _ _ hi, Option.some.injEq, Value.int.injEq, true_and] at this
  exact BitVec.eq_of_toNat_eq (by omega)
theorem xorB (x y : By) : Go.bits .xor .u8 (x.toNat : Int) (y.toNat : Int) = ((x ^^^ y).toNat : Int) := by
  rw [u8_xor_nat _ _ x.isLt y.isLt, BitVec.toNat_xor]

theorem ba_one (n : Nat) (f : Nat → By) : (ba n f).all (·.oneCell') = true := arr_one _ _ _
def zB : Nat → By := fun _ => 0#8
theorem zero32 : (∀ w, (zeroValue 62).run Tryz.prog w = .ok (.agg (ba 16 zB)) w) ∧ (Tryz.prog.info? 62).map (·.size) = some 16 := zero_of_info (by kernel_rfl)
theorem zero46 : (∀ w, (zeroValue 70).run Tryz.prog w = .ok (.agg (ba 4 zB)) w) ∧ (Tryz.prog.info? 70).map (·.size) = some 4 := zero_of_info (by kernel_rfl)
theorem zero47 : (∀ w, (zeroValue 65).run Tryz.prog w = .ok (.agg (ba 256 zB)) w) ∧ (Tryz.prog.info? 65).map (·.size) = some 256 := zero_of_info (by kernel_rfl)
theorem zero57 : (∀ w, (zeroValue 108).run Tryz.prog w = .ok (.agg (ba 255 zB)) w) ∧ (Tryz.prog.info? 108).map (·.size) = some 255 := zero_of_info (by kernel_rfl)
theorem szB {t n : Nat} (f : Nat → By) (h : (Tryz.prog.info? t).map (·.size) = some n) : (Tryz.prog.info? t).map (·.size) = some (ba n f).size := by rw [ba_size]; exact h
theorem lenB (n : Nat) (f g : Nat → By) : (ba n f).size = (ba n g).size := by rw [ba_size, ba_size]
theorem und57 : Tryz.prog.underlying 108 = some (.array 255 5) := by kernel_rfl

/-! New blocks, one behind the other. -/
theorem Ar.new1 (w : World) (o : Obj) (c : Array Value) (t : TypeId) : Ar ((w.alloc o).alloc (.cells c t)) (w.heap.size + 1) c := by
  have := Ar.new (w.alloc o) c t
  rwa [World.size_alloc] at this
theorem Ar.new2 (w : World) (o p : Obj) (c : Array Value) (t : TypeId) : Ar (((w.alloc o).alloc p).alloc (.cells c t)) (w.heap.size + 1 + 1) c := by
  have := Ar.new ((w.alloc o).alloc p) c t
  rwa [World.size_alloc, World.size_alloc] at this

theorem und32 : Tryz.prog.underlying 62 = some (.array 16 5) := by kernel_rfl
theorem i32 : (Tryz.prog.info? 62).map (·.size) = some 16 := by kernel_rfl
theorem und46 : Tryz.prog.underlying 70 = some (.array 4 5) := by kernel_rfl
theorem i46 : (Tryz.prog.info? 70).map (·.size) = some 4 := by kernel_rfl
theorem und47 : Tryz.prog.underlying 65 = some (.array 256 5) := by kernel_rfl
theorem i47 : (Tryz.prog.info? 65).map (·.size) = some 256 := by kernel_rfl

end Go.Proofs.YtobglgddbhddnaaGreat

namespace Go.Proofs.YtobglgddbhddnaaGreat
open Go.RowKit
set_option linter.unusedVariables false

theorem ret8 {a b : Int} (h : a = b) : Ending.returned (Value.int .u8 a) = Ending.returned (Value.int .u8 b) := by rw [h]

theorem dbl_num (x : By) : Go.bits .xor .u8 ((x.toNat : Int) * 2 % 256) ((x.toNat : Int) / 128 * 27) = ((dbl x).toNat : Int) := by
  revert x
  refine all_bytes ?_
  decide +kernel
theorem dbl_num1 (x : By) (h : ((x.toNat : Int) / 128 == 1) = true) : Go.bits .xor .u8 ((x.toNat : Int) * 2 % 256) 27 = ((dbl x).toNat : Int) := by
  revert x
  refine all_bytes ?_
  decide +kernel
theorem dbl_num0 (x : By) (h : ((x.toNat : Int) / 128 == 1) = false) : (x.toNat : Int) * 2 % 256 = ((dbl x).toNat : Int) := by
  revert x
  refine all_bytes ?_
  decide +kernel

set_option maxRecDepth 100000 in
theorem double_any (x : By) (w : World) : Calls Tryz.prog 74 #[.int .u8 (x.toNat : Int)] w fun r w' => r = .returned (.int .u8 ((dbl x).toNat : Int)) ∧ w' = w := by
  go_enter Tryz.func74, Tryz.ntmps74
  go_wp2
  go_ret
  exact ⟨ret8 (dbl_num x), rfl⟩

set_option maxRecDepth 100000 in
theorem refDouble_any (x : By) (w : World) : Calls Tryz.prog 54 #[.int .u8 (x.toNat : Int)] w fun r w' => r = .returned (.int .u8 ((dbl x).toNat : Int)) ∧ w' = w := by
  go_enter Tryz.func54, Tryz.ntmps54
  go_wp2
  · rename_i h
    go_ret
    exact ⟨ret8 (dbl_num1 x h), rfl⟩
  · rename_i h
    go_ret
    exact ⟨ret8 (dbl_num0 x h), rfl⟩

/-! Turned. -/
theorem rot_num1 (x : By) : Go.bits .or .u8 ((x.toNat : Int) * 2 % 256) ((x.toNat : Int) / 128) = ((x.rotateLeft 1).toNat : Int) := by
  revert x
  refine all_bytes ?_
  decide +kernel
theorem rot_num2 (x : By) : Go.bits .or .u8 ((x.toNat : Int) * 4 % 256) ((x.toNat : Int) / 64) = ((x.rotateLeft 2).toNat : Int) := by
  revert x
  refine all_bytes ?_
  decide +kernel
theorem rot_num3 (x : By) : Go.bits .or .u8 ((x.toNat : Int) * 8 % 256) ((x.toNat : Int) / 32) = ((x.rotateLeft 3).toNat : Int) := by
  revert x
  refine all_bytes ?_
  decide +kernel
theorem rot_num4 (x : By) : Go.bits .or .u8 ((x.toNat : Int) * 16 % 256) ((x.toNat : Int) / 16) = ((x.rotateLeft 4).toNat : Int) := by
  revert x
  refine all_bytes ?_
  decide +kernel

set_option maxRecDepth 100000 in
theorem rot1_any (x : By) (w : World) : Calls Tryz.prog 94 #[.int .u8 (x.toNat : Int), .int .i64 1] w fun r w' => r = .returned (.int .u8 ((x.rotateLeft 1).toNat : Int)) ∧ w' = w := by
  have h : Go.bits .and .u64 1 7 = 1 := by decide
  go_enter Tryz.func94, Tryz.ntmps94
  go_wp2
  go_ret
  exact ⟨ret8 (rot_num1 x), rfl⟩
set_option maxRecDepth 100000 in
theorem rot2_any (x : By) (w : World) : Calls Tryz.prog 94 #[.int .u8 (x.toNat : Int), .int .i64 2] w fun r w' => r = .returned (.int .u8 ((x.rotateLeft 2).toNat : Int)) ∧ w' = w := by
  have h : Go.bits .and .u64 2 7 = 2 := by decide
  go_enter Tryz.func94, Tryz.ntmps94
  go_wp2
  go_ret
  exact ⟨ret8 (rot_num2 x), rfl⟩
set_option maxRecDepth 100000 in
theorem rot3_any (x : By) (w : World) : Calls Tryz.prog 94 #[.int .u8 (x.toNat : Int), .int .i64 3] w fun r w' => r = .returned (.int .u8 ((x.rotateLeft 3).toNat : Int)) ∧ w' = w := by
  have h : Go.bits .and .u64 3 7 = 3 := by decide
  go_enter Tryz.func94, Tryz.ntmps94
  go_wp2
  go_ret
  exact ⟨ret8 (rot_num3 x), rfl⟩
set_option maxRecDepth 100000 in
theorem rot4_any (x : By) (w : World) : Calls Tryz.prog 94 #[.int .u8 (x.toNat : Int), .int .i64 4] w fun r w' => r = .returned (.int .u8 ((x.rotateLeft 4).toNat : Int)) ∧ w' = w := by
  have h : Go.bits .and .u64 4 7 = 4 := by decide
  go_enter Tryz.func94, Tryz.ntmps94
  go_wp2
  go_ret
  exact ⟨ret8 (rot_num4 x), rfl⟩

theorem bo_num (x : By) : Go.bits .xor .u8 (Go.bits .xor .u8 (Go.bits .xor .u8 (Go.bits .xor .u8 (Go.bits .xor .u8 (x.toNat : Int) ((x.rotateLeft 1).toNat : Int)) ((x.rotateLeft 2).toNat : Int)) ((x.rotateLeft 3).toNat : Int)) ((x.rotateLeft 4).toNat : Int)) 99 = ((bo x).toNat : Int) := by
  rw [xorB, xorB, xorB, xorB]
  exact xorB _ 0x63#8

set_option maxRecDepth 100000 in
theorem boxOf_any (x : By) (w : World) : Calls Tryz.prog 75 #[.int .u8 (x.toNat : Int)] w fun r w' => r = .returned (.int .u8 ((bo x).toNat : Int)) ∧ w' = w := by
  go_enter Tryz.func75, Tryz.ntmps75
  go_wp2_with (first | (go_at_call_of 94 (Value.int .i64 1); refine (rot1_any x _).mono ?_; rintro r w1 ⟨rfl, hw1⟩; rw [hw1]) | (go_at_call_of 94 (Value.int .i64 2); refine (rot2_any x _).mono ?_; rintro r w1 ⟨rfl, hw1⟩; rw [hw1]) | (go_at_call_of 94 (Value.int .i64 3); refine (rot3_any x _).mono ?_; rintro r w1 ⟨rfl, hw1⟩; rw [hw1]) | (go_at_call_of 94 (Value.int .i64 4); refine (rot4_any x _).mono ?_; rintro r w1 ⟨rfl, hw1⟩; rw [hw1]))
  go_ret
  exact ⟨ret8 (bo_num x), rfl⟩

theorem rot_numN (x : By) (n q : Nat) (h0 : 0 < n) (h : n ≤ 4) (hq : (8 : Int) - n = q) : Go.bits .or .u8 (IntKind.u8.wrap ((x.toNat : Int) * 2 ^ n)) ((x.toNat : Int) / 2 ^ q) = ((x.rotateLeft n).toNat : Int) := by
  have h1 := rot_num1 x
  have h2 := rot_num2 x
  have h3 := rot_num3 x
  have h4 := rot_num4 x
  have : n = 1 ∧ q = 7 ∨ n = 2 ∧ q = 6 ∨ n = 3 ∧ q = 5 ∨ n = 4 ∧ q = 4 := by omega
  rw [IntKind.wrap_u8]
  rcases this with ⟨rfl, rfl⟩ | ⟨rfl, rfl⟩ | ⟨rfl, rfl⟩ | ⟨rfl, rfl⟩
  · exact h1
  · exact h2
  · exact h3
  · exact h4

set_option maxRecDepth 100000 in
theorem left_any (x : By) (n : Nat) (w : World) (h0 : 0 < n) (h : n ≤ 4) : Calls Tryz.prog 70 #[.int .u8 (x.toNat : Int), .int .i64 n] w fun r w' => r = .returned (.int .u8 ((x.rotateLeft n).toNat : Int)) ∧ ∃ m, w' = w.drewN m := by
  obtain ⟨q, hq⟩ : ∃ q : Nat, (8 : Int) - n = q := ⟨8 - n, by omega⟩
  have e3 := wrap_i (x := q) (by omega) (by omega)
  have l1 : (n : Int) ≤ 8 := by omega
  have l2 : (q : Int) ≤ 8 := by omega
  have HR : Hid (Go.bits .or .u8 (IntKind.u8.wrap ((x.toNat : Int) * 2 ^ n)) ((x.toNat : Int) / 2 ^ q) = ((x.rotateLeft n).toNat : Int)) := rot_numN x n q h0 h hq
  clear h0 h
  go_enter Tryz.func70, Tryz.ntmps70
  go_wp2_with fail
  go_quiet (fail)
  all_goals go_wp2
  all_goals
    go_ret
    exact ⟨ret8 HR.out, nq, rfl⟩
end Go.Proofs.YtobglgddbhddnaaGreat

namespace Go.Proofs.YtobglgddbhddnaaGreat
open Go.RowKit
set_option linter.unusedVariables false

/-- Up to a place one block, from there on the other. -/
def upTo (i : Nat) (f g : Nat → By) : Nat → By := fun j => if j < i then f j else g j
theorem upTo_zero (f g : Nat → By) : upTo 0 f g = g := by funext j; simp [upTo]
theorem upTo_upd (i : Nat) (f g : Nat → By) : updB (upTo i f g) i (f i) = upTo (i + 1) f g := by
  funext j
  unfold updB upTo
  by_cases h : j = i
  · subst h; simp
  · have e : j < i + 1 ↔ j < i := by omega
    simp [h, e]
theorem upTo_all (n : Nat) (f g : Nat → By) : ba n (upTo n f g) = ba n f := ba_congr fun i hi => by simp [upTo, hi]

set_option maxRecDepth 100000 in
theorem xored_any (a b : Nat → By) (w : World) : Calls Tryz.prog 76 #[.agg (ba 16 a), .agg (ba 16 b)] w fun r w' => r = .returned (.agg (ba 16 (xr a b))) ∧ Chg w w' := by
  have hsA := ba_size 16 a
  have hsB := ba_size 16 b
  obtain ⟨A, hA⟩ : ∃ A, A = ba 16 a := ⟨_, rfl⟩
  obtain ⟨B, hB⟩ : ∃ B, B = ba 16 b := ⟨_, rfl⟩
  have HAB : Hid (A = ba 16 a ∧ B = ba 16 b) := ⟨hA, hB⟩
  rw [← hA] at hsA ⊢
  rw [← hB] at hsB ⊢
  clear hA hB
  have hz := zero32.1
  go_enter Tryz.func76, Tryz.ntmps76
  go_wp2_with fail
  obtain ⟨w3, hw3⟩ : ∃ w3, w3 = ((w.alloc (.cells A 62)).alloc (.cells B 62)).alloc (.cells (ba 16 zB) 62) := ⟨_, rfl⟩
  rw [← hw3]
  have z0 : Hid (Chg w w3 ∧ Ar w3 w.heap.size A ∧ Ar w3 (w.heap.size + 1) B ∧ Ar w3 (w.heap.size + 1 + 1) (ba 16 zB)) := by
    rw [hw3]
    exact ⟨(((Chg.refl w).alloc _).alloc _).alloc _, ((Ar.new w _ _).alloc _).alloc _, (Ar.new1 w _ _ _).alloc _, Ar.new2 w _ _ _ _⟩
  clear hw3
  go_loopw [6] (fun v wr => ∃ (i : Nat), v = .int .i64 i ∧ i ≤ 16 ∧ Chg w wr ∧ Ar wr w.heap.size (ba 16 (upTo i (xr a b) a)) ∧ Ar wr (w.heap.size + 1) (ba 16 b) ∧ Ar wr (w.heap.size + 1 + 1) (ba 16 zB)) (fun v wr => 16 - (intOf v).toNat)
  case atStart =>
    obtain ⟨z1, z2, z3, z4⟩ := z0.out
    rw [HAB.out.1] at z2
    rw [HAB.out.2] at z3
    exact ⟨0, rfl, by omega, z1, by rw [upTo_zero]; exact z2, z3, z4⟩
  case round =>
    clear z0 hsA hsB hz
    obtain ⟨i, rfl, hi, hch, h1, h2, h3⟩ := hrel
    have H : Hid (Chg w wr ∧ Ar wr w.heap.size (ba 16 (upTo i (xr a b) a)) ∧ Ar wr (w.heap.size + 1) (ba 16 b) ∧ Ar wr (w.heap.size + 1 + 1) (ba 16 zB)) := ⟨hch, h1, h2, h3⟩
    by_cases h16 : i < 16
    · have hd : decide ((i : Int) < 16) = true := by simp; omega
      have li : (i : Int) < 16 := by omega
      have c1 := (h1.cell i).trans (ba_get 16 _ h16)
      have c2 := (h2.cell i).trans (ba_get 16 _ h16)
      have f1 := h1.frozen i
      have e0 : upTo i (xr a b) a i = a i := by simp [upTo]
      rw [e0] at c1
      obtain ⟨x, hx⟩ : ∃ x, x = a i := ⟨_, rfl⟩
      obtain ⟨y, hy⟩ : ∃ y, y = b i := ⟨_, rfl⟩
      rw [← hx] at c1
      rw [← hy] at c2
      have HX : Hid (xr a b i = x ^^^ y) := by show xr a b i = _; rw [hx, hy, xr]
      clear hx hy hch h1 h2 h3 e0
      go_wp2_with fail
      go_region_with (fail)
      all_goals go_wp2
      all_goals
        go_roundw
        case rel =>
          obtain ⟨k0, k1, k2, k3⟩ := H.out
          refine ⟨i + 1, by go_num, by omega, (k0.setCell (by dsimp only; omega) _).drew, ?_, (k2.other (by dsimp only; omega) _).drew, (k3.other (by dsimp only; omega) _).drew⟩
          have hh := k1.set i (.int .u8 (Go.bits .xor .u8 (x.toNat : Int) (y.toNat : Int)))
          rw [xorB, ba_set, ← HX.out, upTo_upd] at hh
          rw [xorB, ← HX.out]
          exact hh.drew
        case measure => simp [intOf]; omega
    · have : i = 16 := by omega
      subst this
      obtain ⟨k0, k1, k2, k3⟩ := H.out
      rw [upTo_all] at k1
      obtain ⟨t1, g1⟩ := k1
      obtain ⟨t3, g3⟩ := k3
      have hsz := szB (xr a b) zero32.2
      have hlen := lenB 16 zB (xr a b)
      have hone := ba_one 16 (xr a b)
      clear hch h1 h2 h3 k2
      go_wp2_with (first | refine wpList_load_row rfl 62 _ rfl _ rfl _ _ _ _ g1 und32 rfl hsz ?_ | refine wpList_store_row rfl 62 _ _ rfl _ _ rfl rfl _ _ g3 hsz hlen hone ?_)
      refine bp_c (n := 16) (c := ba 16 (xr a b)) Tryz.results76 rfl rfl ?_ und32 i32 (ba_size _ _) ⟨rfl, ?_⟩
      · exact H.out.2.2.2.row _
      · exact H.out.1.setRow (by omega) _
end Go.Proofs.YtobglgddbhddnaaGreat

namespace Go.Proofs.YtobglgddbhddnaaGreat
open Go.RowKit
set_option linter.unusedVariables false

/-- The boxes of all bytes. -/
def sbF : Nat → By := fun i => sb (BitVec.ofNat 8 i)
theorem sbF_at (x : By) : sbF x.toNat = sb x := by simp [sbF]
theorem box_cell {w : World} {P : Nat} (h : Ar w P (ba 256 sbF)) (x : By) : w.cell? ⟨P, x.toNat, none⟩ = some (.int .u8 ((sb x).toNat : Int)) := by
  rw [h.cell, ba_get 256 _ x.isLt, sbF_at]

set_option maxRecDepth 100000 in
theorem boxed_any (P : Nat) (f : Nat → By) (w : World) (hP : Ar w P (ba 256 sbF)) : Calls Tryz.prog 73 #[.pointer (some ⟨P, 0, none⟩), .agg (ba 4 f)] w fun r w' => r = .returned (.agg (ba 4 fun i => sb (f i))) ∧ Chg w w' := by
  have hsA := ba_size 4 f
  obtain ⟨A, hA⟩ : ∃ A, A = ba 4 f := ⟨_, rfl⟩
  have HA : Hid (A = ba 4 f) := hA
  have HP : Hid (Ar w P (ba 256 sbF)) := hP
  have hPl := hP.lt
  rw [← hA] at hsA ⊢
  clear hA hP
  have hz := zero46.1
  go_enter Tryz.func73, Tryz.ntmps73
  go_wp2_with fail
  obtain ⟨w3, hw3⟩ : ∃ w3, w3 = (w.alloc (.cells A 70)).alloc (.cells (ba 4 zB) 70) := ⟨_, rfl⟩
  rw [← hw3]
  have z0 : Hid (Chg w w3 ∧ Ar w3 w.heap.size A ∧ Ar w3 (w.heap.size + 1) (ba 4 zB)) := by
    rw [hw3]
    exact ⟨((Chg.refl w).alloc _).alloc _, (Ar.new w _ _).alloc _, Ar.new1 w _ _ _⟩
  clear hw3
  go_loopw [6] (fun v wr => ∃ (i : Nat), v = .int .i64 i ∧ i ≤ 4 ∧ Chg w wr ∧ Ar wr w.heap.size (ba 4 (upTo i (fun i => sb (f i)) f)) ∧ Ar wr (w.heap.size + 1) (ba 4 zB)) (fun v wr => 4 - (intOf v).toNat)
  case atStart =>
    obtain ⟨z1, z2, z3⟩ := z0.out
    rw [HA.out] at z2
    exact ⟨0, rfl, by omega, z1, by rw [upTo_zero]; exact z2, z3⟩
  case round =>
    clear z0 hsA hz
    obtain ⟨i, rfl, hi, hch, h1, h2⟩ := hrel
    have H : Hid (Chg w wr ∧ Ar wr w.heap.size (ba 4 (upTo i (fun i => sb (f i)) f)) ∧ Ar wr (w.heap.size + 1) (ba 4 zB)) := ⟨hch, h1, h2⟩
    by_cases h4 : i < 4
    · have hd : decide ((i : Int) < 4) = true := by simp; omega
      have li : (i : Int) < 4 := by omega
      have c1 := (h1.cell i).trans (ba_get 4 _ h4)
      have f1 := h1.frozen i
      have e0 : upTo i (fun i => sb (f i)) f i = f i := by simp [upTo]
      rw [e0] at c1
      have c2 := box_cell (HP.out.chg hch) (f i)
      obtain ⟨y, hy⟩ : ∃ y, y = sb (f i) := ⟨_, rfl⟩
      obtain ⟨X, hX⟩ : ∃ X, X = (f i).toNat := ⟨_, rfl⟩
      have lX : X < 256 := by rw [hX]; exact (f i).isLt
      rw [← hX] at c1 c2
      rw [← hy] at c2
      have lX' : (X : Int) < 256 := by omega
      have HX : Hid (sb (f i) = y) := hy.symm
      clear hX hy hch h1 h2 e0
      go_wp2_with fail
      go_region_with (fail)
      all_goals go_wp2
      all_goals
        go_roundw
        case rel =>
          obtain ⟨k0, k1, k2⟩ := H.out
          refine ⟨i + 1, by go_num, by omega, (k0.setCell (by dsimp only; omega) _).drew, ?_, (k2.other (by dsimp only; omega) _).drew⟩
          have hh := k1.set i (.int .u8 (y.toNat : Int))
          rw [ba_set, ← HX.out, upTo_upd i (fun i => sb (f i)) f] at hh
          rw [← HX.out]
          exact hh.drew
        case measure => simp [intOf]; omega
    · have : i = 4 := by omega
      subst this
      obtain ⟨k0, k1, k3⟩ := H.out
      rw [upTo_all] at k1
      obtain ⟨g, hg⟩ : ∃ g, g = fun i => sb (f i) := ⟨_, rfl⟩
      rw [← hg] at k1
      have HG : Hid (g = fun i => sb (f i)) := hg
      clear hg
      obtain ⟨t1, g1⟩ := k1
      obtain ⟨t3, g3⟩ := k3
      have hsz := szB g zero46.2
      have hlen := lenB 4 zB g
      have hone := ba_one 4 g
      clear hch h1 h2
      go_wp2_with (first | refine wpList_load_row rfl 70 _ rfl _ rfl _ _ _ _ g1 und46 rfl hsz ?_ | refine wpList_store_row rfl 70 _ _ rfl _ _ rfl rfl _ _ g3 hsz hlen hone ?_)
      refine bp_c (n := 4) (c := ba 4 g) Tryz.results73 rfl rfl ?_ und46 i46 (ba_size _ _) ⟨by rw [HG.out], ?_⟩
      · exact H.out.2.2.row _
      · exact H.out.1.setRow (by omega) _
end Go.Proofs.YtobglgddbhddnaaGreat

namespace Go.Proofs.YtobglgddbhddnaaGreat
open Go.RowKit
set_option linter.unusedVariables false

/-- The boxes that stand behind i powers. -/
def bxUp : Nat → Nat → By
  | 0 => updB zB 0 (bo 0#8)
  | i + 1 => updB (bxUp i) (pw i).toNat (bo (pw ((255 - i) % 255)))

theorem bxUp_has : ∀ i, i ≤ 255 → (bxUp i 0 = sb 0#8 ∨ ∃ k, k < i ∧ (pw k).toNat = 0) ∧ ∀ k, k < i → bxUp i (pw k).toNat = sb (pw k)
  | 0, _ => ⟨.inl (by simp only [bxUp, updB, if_true]; exact sb_zero.symm), fun k hk => by omega⟩
  | i + 1, hi => by
    obtain ⟨h0, h1⟩ := bxUp_has i (by omega)
    refine ⟨?_, ?_⟩
    · rcases h0 with h0 | ⟨k, hk, hz⟩
      · by_cases e : (pw i).toNat = 0
        · exact .inr ⟨i, by omega, e⟩
        · left
          have e' : ¬ 0 = (pw i).toNat := fun x => e x.symm
          simp only [bxUp, updB, e', if_false, h0]
      · exact .inr ⟨k, by omega, hz⟩
    · intro k hk
      by_cases e : (pw k).toNat = (pw i).toNat
      · have e2 : pw k = pw i := BitVec.eq_of_toNat_eq e
        rw [e2]
        simp only [bxUp, updB, if_true]
        exact (pw_box i (by omega)).symm
      · have hki : k < i := by
          rcases Nat.lt_or_ge k i with h | h
          · exact h
          · exact absurd (by rw [show k = i by omega]) e
        simp only [bxUp, updB, e, if_false]
        exact h1 k hki

theorem pw_pos : ∀ k, k < 255 → (pw k).toNat ≠ 0 := by decide +kernel

theorem bxUp_all : ∀ j, j < 256 → bxUp 255 j = sbF j := by
  intro j hj
  obtain ⟨h0, h1⟩ := bxUp_has 255 (by omega)
  by_cases e : j = 0
  · subst e
    rcases h0 with h | ⟨k, hk, hz⟩
    · exact h
    · exact absurd hz (pw_pos k hk)
  · obtain ⟨i, hi, he⟩ := pw_all j hj e
    have := h1 i hi
    rw [he] at this
    rw [this, ← he, sbF_at]

theorem agg5 (w : World) : (isAgg 5).run Tryz.prog w = .ok false w := by
  have h : Tryz.prog.underlying 5 = some (.int .u8) := by kernel_rfl
  unfold isAgg
  rw [Sem.run_bind, run_underlying h w]
  rfl
theorem size5 (w : World) : (sizeOf 5).run Tryz.prog w = .ok 1 w := by
  have h : (Tryz.prog.info? 5).map (·.size) = some 1 := by kernel_rfl
  cases hq : Tryz.prog.info? 5 with
  | none => simp [hq] at h
  | some i =>
    rw [hq] at h
    have h : i.size = 1 := Option.some.inj h
    simp [sizeOf, typeInfo, hq, h]
theorem run_idx {t n : Nat} (hu : Tryz.prog.underlying t = some (.array n 5)) (f : Nat → By) {i : Nat} (hi : i < n) (w : World) :
    (Instr.index t (.agg (ba n f)) (.int .i64 i)).run Tryz.prog w = .ok (.int .u8 ((f i).toNat : Int)) w := by
  have h2 : (i : Int) < n := by omega
  have h3 : ¬ n ≤ i := by omega
  simp [Instr.index, asIntOf, run_underlying hu, part, ba_get n f hi, Sem.run_bind, hi]

set_option maxRecDepth 100000 in
set_option maxHeartbeats 4000000 in
theorem boxes_any (w : World) : Calls Tryz.prog 59 #[] w fun r w' => r = .returned (.agg (ba 256 sbF)) ∧ Chg w w' := by
  have hz := zero47.1
  have hz2 := zero57.1
  go_enter Tryz.func59, Tryz.ntmps59
  go_wp2_with fail
  obtain ⟨w3, hw3⟩ : ∃ w3, w3 = (w.alloc (.cells (ba 256 zB) 65)).alloc (.cells (ba 255 zB) 108) := ⟨_, rfl⟩
  rw [← hw3]
  have z0 : Hid (Chg w w3 ∧ Ar w3 w.heap.size (ba 256 zB) ∧ Ar w3 (w.heap.size + 1) (ba 255 zB)) := by
    rw [hw3]
    exact ⟨((Chg.refl w).alloc _).alloc _, (Ar.new w _ _).alloc _, Ar.new1 w _ _ _⟩
  clear hw3
  go_loopw [2, 7] (fun v2 v7 wr => ∃ (i : Nat) (p : By), v7 = .int .i64 i ∧ i ≤ 255 ∧ v2 = .int .u8 (p.toNat : Int) ∧ Hid (i < 255 → p = pw i) ∧ Chg w wr ∧ Ar wr w.heap.size (ba 256 zB) ∧ Ar wr (w.heap.size + 1) (ba 255 (upTo i pw zB))) (fun v2 v7 wr => 255 - (intOf v7).toNat)
  case atStart =>
    obtain ⟨z1, z2, z3⟩ := z0.out
    exact ⟨0, 1#8, rfl, by omega, rfl, fun _ => pw_zero.symm, z1, z2, by rw [upTo_zero]; exact z3⟩
  case round =>
    clear z0
    obtain ⟨i, p, rfl, hi, rfl, hp, hch, h1, h2⟩ := hrel
    have H : Hid (Chg w wr ∧ Ar wr w.heap.size (ba 256 zB) ∧ Ar wr (w.heap.size + 1) (ba 255 (upTo i pw zB))) := ⟨hch, h1, h2⟩
    by_cases h255 : i < 255
    · have hd : decide ((i : Int) < 255) = true := by simp; omega
      have li : (i : Int) < 255 := by omega
      have c1 := (h2.cell i).trans (ba_get 255 _ h255)
      have f1 := h2.frozen i
      obtain ⟨x0, hx0⟩ : ∃ x, x = upTo i pw zB i := ⟨_, rfl⟩
      rw [← hx0] at c1
      clear hch h1 h2 hx0 hz hz2
      go_wp2_with (go_at_call 74; refine (double_any p _).mono ?_; rintro r w1 ⟨rfl, hw1⟩; rw [hw1])
      go_roundw
      case rel =>
        obtain ⟨k0, k1, k2⟩ := H.out
        refine ⟨i + 1, p ^^^ dbl p, by go_num, by omega, by rw [xorB], fun h => ?_, k0.setCell (by dsimp only; omega) _, k1.other (by dsimp only; omega) _, ?_⟩
        · rw [pw_succ i (by omega), hp.out h255]
        · have hh := k2.set i (.int .u8 (p.toNat : Int))
          rw [ba_set, hp.out h255, upTo_upd i pw zB] at hh
          rw [hp.out h255]
          exact hh
      case measure => simp [intOf]; omega
    · have : i = 255 := by omega
      subst this
      clear h2 h1 hch
      obtain ⟨wo, hwo⟩ : ∃ wo, wo = wr := ⟨_, rfl⟩
      rw [← hwo]
      have HO : Hid (Chg w wo ∧ Ar wo w.heap.size (ba 256 zB) ∧ Ar wo (w.heap.size + 1) (ba 255 pw)) := by
        rw [hwo]
        obtain ⟨k0, k1, k2⟩ := H.out
        rw [upTo_all] at k2
        exact ⟨k0, k1, k2⟩
      clear hwo H
      go_wp2_with fail
      go_at_call 75
      refine (boxOf_any 0#8 _).mono ?_
      rintro r w1 ⟨rfl, hw1⟩
      rw [hw1]
      clear hw1 w1
      have g4 := Ar.new wo (ba 256 zB) 95
      have c4 := (g4.cell 0).trans (ba_get 256 _ (by decide))
      have f4 := g4.frozen 0
      obtain ⟨PA, hPA⟩ : ∃ PA, PA = ba 255 pw := ⟨_, rfl⟩
      have HPA : Hid (PA = ba 255 pw) := hPA
      have HA : Hid (Ar (wo.alloc (.cells ((ba 256 zB).setIfInBounds 0 (.int .u8 ((bo 0#8).toNat : Int))) 65)) (w.heap.size + 1) PA) := by
        rw [hPA]
        exact HO.out.2.2.alloc _
      obtain ⟨t1, g1⟩ := HA.out
      have hsz := szB pw zero57.2
      rw [← hPA] at hsz
      clear hPA
      go_wp2_with (first | refine wpList_load_row rfl 108 _ rfl _ rfl _ _ _ _ g1 und57 rfl hsz ?_)
      obtain ⟨B, hB⟩ : ∃ B, B = wo.heap.size := ⟨_, rfl⟩
      obtain ⟨w5, hw5⟩ : ∃ w5, w5 = wo.alloc (.cells ((ba 256 zB).setIfInBounds 0 (.int .u8 ((bo 0#8).toNat : Int))) 65) := ⟨_, rfl⟩
      have HB : Hid (w.heap.size + 1 < B) := by rw [hB]; exact HO.out.2.2.lt
      have H5 : Hid (Chg w w5 ∧ Ar w5 w.heap.size (ba 256 zB) ∧ Ar w5 (w.heap.size + 1) PA ∧ Ar w5 B (ba 256 (bxUp 0))) := by
        have e := ba_set 256 zB 0 (bo 0#8)
        rw [hw5, hB, e, HPA.out]
        exact ⟨HO.out.1.alloc _, HO.out.2.1.alloc _, HO.out.2.2.alloc _, Ar.new wo _ _⟩
      rw [← hw5, ← hB]
      clear hw5 hB g1 g4 c4 f4 HO HA hsz hz hz2 hp
      go_loopw [21] (fun v wr => ∃ (i : Nat), v = .int .i64 i ∧ i ≤ 255 ∧ Chg w wr ∧ Ar wr w.heap.size (ba 256 zB) ∧ Ar wr (w.heap.size + 1) PA ∧ Ar wr B (ba 256 (bxUp i))) (fun v wr => 255 - (intOf v).toNat)
      case atStart => exact ⟨0, rfl, by omega, H5.out⟩
      case round =>
        clear H5
        obtain ⟨i, rfl, hi, hch, h1, h2, h3⟩ := hrel
        have H : Hid (Chg w wr ∧ Ar wr w.heap.size (ba 256 zB) ∧ Ar wr (w.heap.size + 1) PA ∧ Ar wr B (ba 256 (bxUp i))) := ⟨hch, h1, h2, h3⟩
        by_cases h255 : i < 255
        · have hd : decide ((i : Int) < 255) = true := by simp; omega
          have li : (i : Int) < 255 := by omega
          have hidx : ∀ u, (Instr.index 108 (.agg PA) (.int .i64 i)).run Tryz.prog u = .ok (.int .u8 ((pw i).toNat : Int)) u := by
            rw [HPA.out]
            exact run_idx und57 pw h255
          obtain ⟨m, hm⟩ : ∃ m : Nat, (255 : Int) - i = m := ⟨255 - i, by omega⟩
          have wm := wrap_i (x := (m : Int)) (by omega) (by omega)
          obtain ⟨q, hq⟩ : ∃ q : Nat, q = m % 255 := ⟨_, rfl⟩
          have hmod : (m : Int).tmod 255 = q := by rw [Int.tmod_eq_emod_of_nonneg (by omega), hq]; rfl
          have wq := wrap_i (x := (q : Int)) (by omega) (by omega)
          have lq : q < 255 := by omega
          have lq' : (q : Int) < 255 := by omega
          obtain ⟨X, hX⟩ : ∃ X, X = (pw i).toNat := ⟨_, rfl⟩
          rw [← hX] at hidx
          have lX : X < 256 := by rw [hX]; exact (pw i).isLt
          have lX' : (X : Int) < 256 := by omega
          have c1 : wr.cell? ⟨w.heap.size + 1, q, none⟩ = some (.int .u8 ((pw q).toNat : Int)) := by
            rw [h2.cell, HPA.out]
            exact ba_get 255 pw lq
          obtain ⟨y, hy⟩ : ∃ y, y = pw q := ⟨_, rfl⟩
          rw [← hy] at c1
          have c3 := (h3.cell X).trans (ba_get 256 _ lX)
          obtain ⟨x3, hx3⟩ : ∃ x, x = bxUp i X := ⟨_, rfl⟩
          rw [← hx3] at c3
          have f3 := h3.frozen X
          have HX : Hid (X = (pw i).toNat ∧ y = pw ((255 - i) % 255)) := by
            have e : (255 - i) % 255 = q := by omega
            rw [e]
            exact ⟨hX, hy⟩
          clear hch h1 h2 h3 hX hy hx3 hq
          go_wp2_with (first | (go_at_call 75; refine (boxOf_any y _).mono ?_; rintro r w1 ⟨rfl, hw1⟩; rw [hw1]))
          go_roundw
          case rel =>
            obtain ⟨k0, k1, k2, k3⟩ := H.out
            have hB := HB.out
            refine ⟨i + 1, by go_num, by omega, k0.setCell (by dsimp only; omega) _, k1.other (by dsimp only; omega) _, k2.other (by dsimp only; omega) _, ?_⟩
            have hh := k3.set X (.int .u8 ((bo y).toNat : Int))
            rw [ba_set] at hh
            rw [bxUp, ← HX.out.1, ← HX.out.2]
            exact hh
          case measure => simp [intOf]; omega
        · have : i = 255 := by omega
          subst this
          obtain ⟨k0, k1, k2, k3⟩ := H.out
          rw [ba_congr bxUp_all] at k3
          have hB := HB.out
          have K0 : Hid (Chg w wr ∧ Ar wr w.heap.size (ba 256 zB)) := ⟨k0, k1⟩
          obtain ⟨t1, g1⟩ := k3
          obtain ⟨t3, g3⟩ := k1
          have hsz := szB sbF zero47.2
          have hlen := lenB 256 zB sbF
          have hone := ba_one 256 sbF
          clear k0 k2 hch h1 h2 h3 H
          go_wp2_with (first | refine wpList_load_row rfl 65 _ rfl _ rfl _ _ _ _ g1 und47 rfl hsz ?_ | refine wpList_store_row rfl 65 _ _ rfl _ _ rfl rfl _ _ g3 hsz hlen hone ?_)
          refine bp_c (n := 256) (c := ba 256 sbF) Tryz.results59 rfl rfl ?_ und47 i47 (ba_size _ _) ⟨rfl, ?_⟩
          · exact K0.out.2.row _
          · exact K0.out.1.setRow (by omega) _
end Go.Proofs.YtobglgddbhddnaaGreat
