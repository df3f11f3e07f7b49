/-
  Numbers by their digits: plain.
  Arrays of digits as blocks of memory: what a block holds, what a call leaves alone, whole arrays loaded and stored.
-/
import Derived.Test.YtbdgmkejmfjobaaProg
import Derived.WalkKit
import Derived.WalkSpells
import Derived.WalkLawsBesides
import Derived.Laws.Rows
import Derived.Laws.Tables
import Derived.Deep.WholeRow
import Derived.Laws.ResultCell
import Derived.Deep.RegionWith
import Derived.Deep.Cut
import Derived.Deep.CutBlock
import Derived.Deep.QuietTactic
namespace Go.Proofs.Ytbdgmkejmfjobaa
set_option linter.unusedVariables false
def val (B : Int) : Nat → (Nat → Int) → Int
 | 0, _ => 0
 | n + 1, d => val B n d + d n * B ^ n
def W64 (x : Int) : Prop := 0 ≤ x ∧ x < 18446744073709551616
abbrev B64 : Int := 18446744073709551616
theorem val_congr {B : Int} {n : Nat} {d e : Nat → Int} (h : ∀ i, i < n → d i = e i) : val B n d = val B n e := by
 induction n with
 | zero => rfl
 | succ n ih => simp only [val]; rw [ih (fun i hi => h i (by omega)), h n (by omega)]
theorem val_zero {B : Int} (n : Nat) : val B n (fun _ => 0) = 0 := by
 induction n with
 | zero => rfl
 | succ n ih => simp [val, ih]
theorem pow_pos' {B : Int} (hB : 0 < B) (n : Nat) : 0 < B ^ n := Int.pow_pos hB
theorem val_bound {B : Int} (hB : 0 < B) {n : Nat} {d : Nat → Int} (h : ∀ i, i < n → 0 ≤ d i ∧ d i < B) : 0 ≤ val B n d ∧ val B n d < B ^ n := by
 induction n with
 | zero => simp [val]
 | succ n ih =>
  have h1 := ih (fun i hi => h i (by omega))
  have h2 := h n (by omega)
  have hp := pow_pos' hB n
  have h3 : d n * B ^ n ≤ (B - 1) * B ^ n := Int.mul_le_mul_of_nonneg_right (by omega) (by omega)
  have h4 : 0 ≤ d n * B ^ n := Int.mul_nonneg h2.1 (by omega)
  have h5 : (B - 1) * B ^ n = B ^ (n + 1) - B ^ n := by rw [Int.sub_mul, Int.one_mul, Int.pow_succ, Int.mul_comm B]
  simp only [val]
  omega
theorem val_inj {B : Int} (hB : 0 < B) {n : Nat} {d e : Nat → Int} (hd : ∀ i, i < n → 0 ≤ d i ∧ d i < B) (he : ∀ i, i < n → 0 ≤ e i ∧ e i < B) (h : val B n d = val B n e) : ∀ i, i < n → d i = e i := by
 induction n with
 | zero => intro i hi; omega
 | succ n ih =>
  have b1 := val_bound hB (fun i hi => hd i (Nat.lt_succ_of_lt hi)) (n := n)
  have b2 := val_bound hB (fun i hi => he i (Nat.lt_succ_of_lt hi)) (n := n)
  have hp := pow_pos' hB n
  simp only [val] at h
  have hn : d n = e n := by
   rcases Int.lt_trichotomy (d n) (e n) with hlt | heq | hgt
   ·have : (d n + 1) * B ^ n ≤ e n * B ^ n := Int.mul_le_mul_of_nonneg_right (by omega) (by omega)
    rw [Int.add_mul, Int.one_mul] at this
    omega
   ·exact heq
   ·have : (e n + 1) * B ^ n ≤ d n * B ^ n := Int.mul_le_mul_of_nonneg_right (by omega) (by omega)
    rw [Int.add_mul, Int.one_mul] at this
    omega
  intro i hi
  by_cases h' : i = n
  ·rw [h']; exact hn
  ·exact ih (fun i hi => hd i (by omega)) (fun i hi => he i (by omega)) (by rw [hn] at h; omega) i (by omega)
def dg (B : Int) (x : Int) : Nat → Int := fun i => x / B ^ i % B
theorem dg_bound {B : Int} (hB : 0 < B) (x : Int) (i : Nat) : 0 ≤ dg B x i ∧ dg B x i < B :=
 ⟨Int.emod_nonneg _ (by omega), Int.emod_lt_of_pos _ hB⟩
theorem val_dg {B : Int} (hB : 0 < B) (n : Nat) (x : Int) : val B n (dg B x) = x % B ^ n := by
 induction n with
 | zero => simp [val, Int.emod_one]
 | succ n ih =>
  simp only [val]
  rw [ih]
  unfold dg
  have hp := pow_pos' hB n
  have e1 := Int.emod_add_mul_ediv x (B ^ n)
  have e2 := Int.emod_add_mul_ediv (x / B ^ n) B
  have e3 := Int.emod_add_mul_ediv x (B ^ (n + 1))
  have e4 : x / B ^ n / B = x / B ^ (n + 1) := by rw [Int.ediv_ediv_of_nonneg (by omega), Int.pow_succ]
  rw [e4] at e2
  have e5 : B ^ n * (x / B ^ n) = B ^ n * (x / B ^ n % B) + B ^ (n + 1) * (x / B ^ (n + 1)) := by
   have e6 : B ^ n * (x / B ^ n % B + B * (x / B ^ (n + 1))) = B ^ n * (x / B ^ n) := by rw [e2]
   rw [Int.mul_add, ← Int.mul_assoc, ← Int.pow_succ] at e6
   exact e6.symm
  rw [Int.mul_comm (x / B ^ n % B)]
  omega
def upd (d : Nat → Int) (i : Nat) (x : Int) : Nat → Int := fun j => if j = i then x else d j
theorem upd_same (d : Nat → Int) (i : Nat) (x : Int) : upd d i x i = x := by simp [upd]
theorem upd_ne (d : Nat → Int) {i j : Nat} (x : Int) (h : j ≠ i) : upd d i x j = d j := by simp [upd, h]
theorem val_upd {B : Int} {n : Nat} (d : Nat → Int) {i : Nat} (x : Int) (h : n ≤ i) : val B n (upd d i x) = val B n d :=
 val_congr fun j hj => upd_ne d x (by omega)
theorem val_upd_in {B : Int} {n : Nat} (d : Nat → Int) {i : Nat} (x : Int) (h : i < n) : val B n (upd d i x) = val B n d + (x - d i) * B ^ i := by
 induction n with
 | zero => omega
 | succ n ih =>
  simp only [val]
  by_cases hi : i = n
  ·subst hi
   rw [val_upd d x (Nat.le_refl _), upd_same, Int.sub_mul]
   omega
  ·rw [ih (by omega), upd_ne d x (by omega)]
   omega
theorem upd_w {d : Nat → Int} (h : ∀ i, W64 (d i)) (i : Nat) {x : Int} (hx : W64 x) : ∀ j, W64 (upd d i x j) := by
 intro j
 unfold upd
 split
 ·exact hx
 ·exact h j
theorem val1 (B : Int) (n : Nat) (d : Nat → Int) : val B (n + 1) d = val B n d + d n * B ^ n := rfl
theorem val_step {B : Int} {k : Nat} {d e s : Nat → Int} {o lo o' : Int} (h : val B k s + o * B ^ k = val B k d + val B k e) (hx : lo + o' * B = d k + e k + o) :
  val B (k + 1) (upd s k lo) + o' * B ^ (k + 1) = val B (k + 1) d + val B (k + 1) e := by
 simp only [val1]
 rw [val_upd s lo (Nat.le_refl _), upd_same]
 have e1 : lo = d k + e k + o - o' * B := by omega
 have e2 : o' * B ^ (k + 1) = o' * B * B ^ k := by rw [Int.pow_succ, Int.mul_comm (B ^ k), Int.mul_assoc]
 rw [e1, e2, Int.sub_mul, Int.add_mul, Int.add_mul]
 omega
theorem val_step' {B : Int} {k : Nat} {d e s : Nat → Int} {o lo o' : Int} (h : val B k s - o * B ^ k = val B k d - val B k e) (hx : lo - o' * B = d k - e k - o) :
  val B (k + 1) (upd s k lo) - o' * B ^ (k + 1) = val B (k + 1) d - val B (k + 1) e := by
 simp only [val1]
 rw [val_upd s lo (Nat.le_refl _), upd_same]
 have e1 : lo = d k - e k - o + o' * B := by omega
 have e2 : o' * B ^ (k + 1) = o' * B * B ^ k := by rw [Int.pow_succ, Int.mul_comm (B ^ k), Int.mul_assoc]
 rw [e1, e2, Int.add_mul, Int.sub_mul, Int.sub_mul]
 omega
theorem val_lt {B : Int} (hB : 0 < B) {n q : Nat} {d e : Nat → Int} (hd : ∀ i, i < n → 0 ≤ d i ∧ d i < B) (he : ∀ i, i < n → 0 ≤ e i ∧ e i < B) (hq : q < n) (hh : ∀ j, q < j → j < n → d j = e j) (h : d q < e q) : val B n d < val B n e := by
 induction n with
 | zero => omega
 | succ n ih =>
  simp only [val]
  by_cases hn : q = n
  ·subst hn
   have b1 := val_bound hB (fun i hi => hd i (Nat.lt_succ_of_lt hi)) (n := q)
   have b2 := val_bound hB (fun i hi => he i (Nat.lt_succ_of_lt hi)) (n := q)
   have : (d q + 1) * B ^ q ≤ e q * B ^ q := Int.mul_le_mul_of_nonneg_right (by omega) (by have := pow_pos' hB q; omega)
   rw [Int.add_mul, Int.one_mul] at this
   omega
  ·have h1 := ih (fun i hi => hd i (by omega)) (fun i hi => he i (by omega)) (by omega) (fun j h1 h2 => hh j h1 (by omega))
   rw [hh n (by omega) (by omega)]
   omega
theorem val_stepm {B m : Int} {k : Nat} {d e s : Nat → Int} {o lo o' : Int} (h : val B k s + o * B ^ k = val B k d + m * val B k e) (hx : lo + o' * B = e k * m + d k + o) :
  val B (k + 1) (upd s k lo) + o' * B ^ (k + 1) = val B (k + 1) d + m * val B (k + 1) e := by
 simp only [val1]
 rw [val_upd s lo (Nat.le_refl _), upd_same, Int.pow_succ]
 grind
theorem val_stepp {B V x : Int} {n i j : Nat} {e s : Nat → Int} {o lo o' : Int} (hn : i + j < n) (h : val B n s + o * B ^ (i + j) = V + x * val B j e * B ^ i) (hx : lo + o' * B = x * e j + s (i + j) + o) :
  val B n (upd s (i + j) lo) + o' * B ^ (i + j + 1) = V + x * val B (j + 1) e * B ^ i := by
 rw [val_upd_in s lo hn, val1]
 simp only [Int.pow_succ, Int.pow_add] at *
 grind
theorem val_laid {B : Int} {n m : Nat} {s : Nat → Int} {o V : Int} (hm : m < n) (h : val B n s + o * B ^ m = V) (h0 : s m = 0) : val B n (upd s m o) = V := by
 rw [val_upd_in s o hm, h0]
 grind
end Go.Proofs.Ytbdgmkejmfjobaa

namespace Go.Proofs.Ytbdgmkejmfjobaa
set_option maxRecDepth 100000
open Go.RowKit
set_option linter.unusedVariables false
structure Chg (w w' : World) : Prop where
 os : w'.os = w.os
 tape : w'.tape = w.tape
 output : w'.output = w.output
 size : w.heap.size ≤ w'.heap.size
 block : ∀ k, k < w.heap.size → w'.heap[k]? = w.heap[k]?
theorem Chg.refl (w : World) : Chg w w := ⟨rfl, rfl, rfl, Nat.le_refl _, fun _ _ => rfl⟩
theorem Chg.trans {a b c : World} (h : Chg a b) (k : Chg b c) : Chg a c :=
 ⟨k.os.trans h.os, k.tape.trans h.tape, k.output.trans h.output, Nat.le_trans h.size k.size, fun i hi =>
  (k.block i (Nat.lt_of_lt_of_le hi h.size)).trans (h.block i hi)⟩
theorem Chg.drew {a b : World} (h : Chg a b) : Chg a b.drew := ⟨h.os, h.tape, h.output, h.size, h.block⟩
theorem Chg.alloc {a w : World} (h : Chg a w) (o : Obj) : Chg a (w.alloc o) :=
 h.trans ⟨rfl, rfl, rfl, by simp, fun k hk => Below.heap_alloc _ _ _ hk⟩
theorem Chg.setCell {a w : World} (h : Chg a w) {p : Addr} (hp : a.heap.size ≤ p.block) (u : Value) : Chg a (w.setCell p u) :=
 ⟨h.os, h.tape, h.output, by simp [World.setCell]; exact h.size, fun k hk => (Below.heap_setCell _ _ _ _ (by omega)).trans (h.block k hk)⟩
theorem Chg.setRow {a w : World} (h : Chg a w) {b : Nat} (hb : a.heap.size ≤ b) (c : Array Value) : Chg a (w.setRow b c) :=
 ⟨h.os, h.tape, h.output, by simp [World.setRow]; exact h.size, fun k hk => (setRow_other _ _ _ _ (by omega)).trans (h.block k hk)⟩
def Ar (w : World) (b : Nat) (c : Array Value) : Prop := ∃ t, w.heap[b]? = some (.cells c t (0, 0))
theorem Ar.lt {w : World} {b : Nat} {c : Array Value} (h : Ar w b c) : b < w.heap.size := by
 obtain ⟨t, h⟩ := h
 exact (Array.getElem?_eq_some_iff.1 h).1
theorem Ar.cell {w : World} {b : Nat} {c : Array Value} (h : Ar w b c) (i : Nat) : w.cell? ⟨b, i, none⟩ = c[i]? := by
 obtain ⟨t, h⟩ := h
 exact cell_of_row w b i c t (0, 0) h
theorem Ar.frozen {w : World} {b : Nat} {c : Array Value} (h : Ar w b c) (i : Nat) : w.frozen? ⟨b, i, none⟩ = false := by
 obtain ⟨t, h⟩ := h
 simp [World.frozen?, h]
theorem Ar.chg {w w' : World} {b : Nat} {c : Array Value} (h : Ar w b c) (k : Chg w w') : Ar w' b c := by
 have hl := h.lt
 obtain ⟨t, h⟩ := h
 exact ⟨t, (k.block b hl).trans h⟩
theorem Ar.new (w : World) (c : Array Value) (t : TypeId) : Ar (w.alloc (.cells c t)) w.heap.size c := ⟨t, heap_alloc_last w _⟩
theorem Ar.alloc {w : World} {b : Nat} {c : Array Value} (h : Ar w b c) (o : Obj) : Ar (w.alloc o) b c := h.chg ((Chg.refl w).alloc o)
theorem Ar.drew {w : World} {b : Nat} {c : Array Value} (h : Ar w b c) : Ar w.drew b c := h
theorem Ar.set {w : World} {b : Nat} {c : Array Value} (h : Ar w b c) (i : Nat) (v : Value) : Ar (w.setCell ⟨b, i, none⟩ v) b (c.setIfInBounds i v) := by
 obtain ⟨t, h⟩ := h
 refine ⟨t, ?_⟩
 rw [setCell_eq_setRow w b i c t (0, 0) v h, setRow_heap _ _ _ _ _ _ h]
theorem Ar.other {w : World} {b : Nat} {c : Array Value} (h : Ar w b c) {p : Addr} (hp : b ≠ p.block) (v : Value) : Ar (w.setCell p v) b c := by
 obtain ⟨t, h⟩ := h
 exact ⟨t, (Below.heap_setCell _ _ _ _ hp).trans h⟩
theorem Ar.row {w : World} {b : Nat} {c : Array Value} (h : Ar w b c) (c' : Array Value) : Ar (w.setRow b c') b c' := by
 obtain ⟨t, h⟩ := h
 exact ⟨t, setRow_heap _ _ _ _ _ _ h⟩
theorem Ar.rowOther {w : World} {b b' : Nat} {c : Array Value} (h : Ar w b c) (hb : b ≠ b') (c' : Array Value) : Ar (w.setRow b' c') b c := by
 obtain ⟨t, h⟩ := h
 exact ⟨t, (setRow_other _ _ _ _ hb).trans h⟩
theorem Ar.load {w : World} {b : Nat} {c : Array Value} (h : Ar w b c) {n : Nat} (hn : c.size = n) :
  (loadCellsFrom ⟨b, 0, none⟩ 0 n #[]).run Try.prog w = .ok c w := by
 subst hn
 have := run_loadCells_list (P := Try.prog) w ⟨b, 0, none⟩ c.toList (fun j v hv => by
  have hadd : (⟨b, 0, none⟩ : Addr).add j = ⟨b, j, none⟩ := by unfold Addr.add; split <;> simp_all
  rw [hadd, h.cell]
  simpa using hv)
 simpa [loadCells] using this
def arr (κ : IntKind) (n : Nat) (d : Nat → Int) : Array Value := ((List.range n).map fun i => Value.int κ (d i)).toArray
theorem arr_size (κ : IntKind) (n : Nat) (d : Nat → Int) : (arr κ n d).size = n := by simp [arr]
theorem arr_get (κ : IntKind) (n : Nat) (d : Nat → Int) {i : Nat} (h : i < n) : (arr κ n d)[i]? = some (.int κ (d i)) := by
 simp [arr, h]
theorem arr_set (κ : IntKind) (n : Nat) (d : Nat → Int) (i : Nat) (x : Int) : (arr κ n d).setIfInBounds i (.int κ x) = arr κ n (upd d i x) := by
 apply Array.ext_getElem?
 intro j
 rw [Array.getElem?_setIfInBounds]
 by_cases h : i = j
 ·subst h
  by_cases hn : i < n
  ·rw [arr_get _ _ (upd d i x) hn, upd_same]
   simp [arr_size, hn]
  ·simp [hn, arr]
 ·by_cases hn : j < n
  ·have h' : ¬ j = i := fun e => h e.symm
   simp [h, hn, arr_get, upd, h']
  ·have h' : ¬ j = i := fun e => h e.symm
   simp [h, arr, hn]
theorem Ar.four {w : World} {b : Nat} {d : Nat → Int} (h : Ar w b (arr .u64 4 d)) : w.cell? ⟨b, 0, none⟩ = some (.int .u64 (d 0)) ∧ w.cell? ⟨b, 1, none⟩ = some (.int .u64 (d 1)) ∧ w.cell? ⟨b, 2, none⟩ = some (.int .u64 (d 2)) ∧ w.cell? ⟨b, 3, none⟩ = some (.int .u64 (d 3)) :=
 ⟨h.cell 0, h.cell 1, h.cell 2, h.cell 3⟩
theorem Ar.free4 {w : World} {b : Nat} {c : Array Value} (h : Ar w b c) : w.frozen? ⟨b, 0, none⟩ = false ∧ w.frozen? ⟨b, 1, none⟩ = false ∧ w.frozen? ⟨b, 2, none⟩ = false ∧ w.frozen? ⟨b, 3, none⟩ = false :=
 ⟨h.frozen 0, h.frozen 1, h.frozen 2, h.frozen 3⟩
theorem arr_one (κ : IntKind) (n : Nat) (d : Nat → Int) : (arr κ n d).all (·.oneCell') = true := by
 rw [Array.all_eq_true_iff_forall_mem]
 intro v hv
 simp [arr] at hv
 obtain ⟨i, _, rfl⟩ := hv
 rfl
theorem Ar.store {w : World} {b : Nat} {κ : IntKind} {n : Nat} {c : Array Value} (h : Ar w b c) (d : Nat → Int) (hn : c.size = n) :
  (storeCells ⟨b, 0, none⟩ (arr κ n d).toList 0).run Try.prog w = .ok () (w.setRow b (arr κ n d)) := by
 obtain ⟨t, h⟩ := h
 have := run_storeCells_from (P := Try.prog) b t (arr κ n d).toList 0 c w h (by simp [arr_size, hn]) (fun v hv => (Array.all_eq_true_iff_forall_mem.1 (arr_one κ n d)) v (by simpa using hv))
 refine this.trans ?_
 simp
theorem run_add64 (x y c : Int) (hx : 0 ≤ x) (hy : 0 ≤ y) (hc0 : 0 ≤ c) (hc : c ≤ 1) (w : World) : (callFunc 95 #[.int .u64 x, .int .u64 y, .int .u64 c]).run Try.prog w =
  .ok (.value (.tuple #[.int .u64 ((x + y + c) % 18446744073709551616), .int .u64 ((x + y + c) / 18446744073709551616)])) w := by
 obtain ⟨x, rfl⟩ := Int.eq_ofNat_of_zero_le hx
 obtain ⟨y, rfl⟩ := Int.eq_ofNat_of_zero_le hy
 obtain ⟨c, rfl⟩ := Int.eq_ofNat_of_zero_le hc0
 have : c = 0 ∨ c = 1 := by omega
 rcases this with rfl | rfl <;> rfl
def bor (x y : Int) : Int := if x < y then 1 else 0
theorem bor_le (x y : Int) : 0 ≤ bor x y ∧ bor x y ≤ 1 := by unfold bor; split <;> decide
theorem run_sub64 (x y b : Int) (hx : 0 ≤ x) (hy : 0 ≤ y) (hy' : y < 18446744073709551616) (hb0 : 0 ≤ b) (hb : b ≤ 1) (w : World) : (callFunc 87 #[.int .u64 x, .int .u64 y, .int .u64 b]).run Try.prog w =
  .ok (.value (.tuple #[.int .u64 ((x - y - b) % 18446744073709551616), .int .u64 (bor x (y + b))])) w := by
 obtain ⟨x, rfl⟩ := Int.eq_ofNat_of_zero_le hx
 obtain ⟨y, rfl⟩ := Int.eq_ofNat_of_zero_le hy
 obtain ⟨b, rfl⟩ := Int.eq_ofNat_of_zero_le hb0
 have e1 : (((x + 18446744073709551616 - y - b) % 18446744073709551616 : Nat) : Int) = ((x : Int) - y - b) % 18446744073709551616 := by omega
 have e2 : ((if x < y + b then 1 else 0 : Nat) : Int) = bor x (y + b) := by unfold bor; split <;> split <;> omega
 rw [← e1, ← e2]
 have : b = 0 ∨ b = 1 := by omega
 rcases this with rfl | rfl <;> rfl
theorem Ar.loadVar {w : World} {b : Nat} {c : Array Value} (h : Ar w b c) (ty : TypeId) {n : Nat} {e : TypeId} (hu : Try.prog.underlying ty = some (.array n e)) (hi : (Try.prog.info? ty).map (·.size) = some n) (hc : c.size = n) :
  (Go.loadVar ty ⟨b, 0, none⟩).run Try.prog w = .ok (.agg c) w := by
 obtain ⟨t, h⟩ := h
 exact run_loadVar_row w b t ty c (0, 0) _ h hu rfl (by rw [hi, hc])
theorem bp_c {fn : Func} {R : Ending → World → Prop} {a : Act} {w : World} {p b n : Nat} {ty e : TypeId} {c : Array Value} (h : fn.results = #[.cell p ty]) (hd : a.defers = []) (hp : a.tmps.getD p undef = .pointer (some ⟨b, 0, none⟩)) (ha : Ar w b c)
  (hu : Try.prog.underlying ty = some (.array n e)) (hi : (Try.prog.info? ty).map (·.size) = some n) (hc : c.size = n) (hR : R (.returned (.agg c)) w) : bodyPost Try.prog fn R .ret a w := by
 refine bodyPost_ret (v := .agg c) ?_ hd hR
 rw [Array.getD_eq_getD_getElem?] at hp
 simp only [results, h]
 simp [hp, asAddr, ha.loadVar ty hu hi hc]
theorem bp_ct {fn : Func} {R : Ending → World → Prop} {a : Act} {w : World} {p u b n : Nat} {ty e : TypeId} {c : Array Value} {x : Value} (h : fn.results = #[.cell p ty, .tmp u]) (hd : a.defers = []) (hp : a.tmps.getD p undef = .pointer (some ⟨b, 0, none⟩)) (hx : a.tmps.getD u undef = x) (ha : Ar w b c)
  (hu : Try.prog.underlying ty = some (.array n e)) (hi : (Try.prog.info? ty).map (·.size) = some n) (hc : c.size = n) (hR : R (.returned (.tuple #[.agg c, x])) w) : bodyPost Try.prog fn R .ret a w := by
 refine bodyPost_ret (v := .tuple #[.agg c, x]) ?_ hd hR
 rw [results_cell_tmp h]
 simp [Result.andThen, hp, hx, asAddr, ha.loadVar ty hu hi hc]
theorem u25 : Try.prog.underlying 24 = some (.array 4 22) := by kernel_rfl
theorem undNum : Try.prog.underlying 24 = some (.array 4 22) := u25
theorem i25 : (Try.prog.info? 24).map (·.size) = some 4 := by kernel_rfl
theorem Ar.put4 {w : World} {b : Nat} {d : Nat → Int} (h : Ar w b (arr .u64 4 d)) (x0 x1 x2 x3 : Int) (s : Nat → Int) (h0 : s 0 = x0) (h1 : s 1 = x1) (h2 : s 2 = x2) (h3 : s 3 = x3) :
  Ar ((((w.setCell ⟨b, 0, none⟩ (.int .u64 x0)).setCell ⟨b, 1, none⟩ (.int .u64 x1)).setCell ⟨b, 2, none⟩ (.int .u64 x2)).setCell ⟨b, 3, none⟩ (.int .u64 x3)) b (arr .u64 4 s) := by
 subst h0 h1 h2 h3
 exact (((h.set 0 _).set 1 _).set 2 _).set 3 _
end Go.Proofs.Ytbdgmkejmfjobaa
