/-
  Arrays of digits as blocks of memory: what a block holds, what a call leaves alone, whole arrays loaded and stored.
  Words turned and shifted: what the functions turn, turnTwice, turnThrice of both kinds of words answer.
-/
import Derived.Test.YtjfidbifjagnpaaDoorProg
import Derived.WalkKit
import Derived.WalkSpells
import Derived.WalkLawsBesides
import Derived.Laws.Rows
import Derived.Laws.Tables
import Derived.Deep.WholeRow
import Derived.Laws.ResultCell
import Derived.Deep.RegionWith
import Derived.Deep.Cut
import Derived.Deep.CutBlock
import Derived.Deep.QuietTactic
import Derived.Laws.BitsLemmas
namespace Go.Proofs.YtjfidbifjagnpaaDoor.Sha
open Go.RowKit
set_option linter.unusedVariables false
set_option maxRecDepth 100000
structure Chg (w w' : World) : Prop where
 os : w'.os = w.os
 tape : w'.tape = w.tape
 output : w'.output = w.output
 size : w.heap.size ≤ w'.heap.size
 block : ∀ k, k < w.heap.size → w'.heap[k]? = w.heap[k]?
theorem Chg.refl (w : World) : Chg w w := ⟨rfl, rfl, rfl, Nat.le_refl _, fun _ _ => rfl⟩
theorem Chg.trans {a b c : World} (h : Chg a b) (k : Chg b c) : Chg a c :=
 ⟨k.os.trans h.os, k.tape.trans h.tape, k.output.trans h.output, Nat.le_trans h.size k.size, fun i hi =>
  (k.block i (Nat.lt_of_lt_of_le hi h.size)).trans (h.block i hi)⟩
theorem Chg.drew {a b : World} (h : Chg a b) : Chg a b.drew := ⟨h.os, h.tape, h.output, h.size, h.block⟩
theorem Chg.alloc {a w : World} (h : Chg a w) (o : Obj) : Chg a (w.alloc o) :=
 h.trans ⟨rfl, rfl, rfl, by simp, fun k hk => Below.heap_alloc _ _ _ hk⟩
theorem Chg.setCell {a w : World} (h : Chg a w) {p : Addr} (hp : a.heap.size ≤ p.block) (u : Value) : Chg a (w.setCell p u) :=
 ⟨h.os, h.tape, h.output, by simp [World.setCell]; exact h.size, fun k hk => (Below.heap_setCell _ _ _ _ (by omega)).trans (h.block k hk)⟩
theorem Chg.setRow {a w : World} (h : Chg a w) {b : Nat} (hb : a.heap.size ≤ b) (c : Array Value) : Chg a (w.setRow b c) :=
 ⟨h.os, h.tape, h.output, by simp [World.setRow]; exact h.size, fun k hk => (setRow_other _ _ _ _ (by omega)).trans (h.block k hk)⟩
def Ar (w : World) (b : Nat) (c : Array Value) : Prop := ∃ t, w.heap[b]? = some (.cells c t (0, 0))
theorem Ar.lt {w : World} {b : Nat} {c : Array Value} (h : Ar w b c) : b < w.heap.size := by
 obtain ⟨t, h⟩ := h
 exact (Array.getElem?_eq_some_iff.1 h).1
theorem Ar.cell {w : World} {b : Nat} {c : Array Value} (h : Ar w b c) (i : Nat) : w.cell? ⟨b, i, none⟩ = c[i]? := by
 obtain ⟨t, h⟩ := h
 exact cell_of_row w b i c t (0, 0) h
theorem Ar.frozen {w : World} {b : Nat} {c : Array Value} (h : Ar w b c) (i : Nat) : w.frozen? ⟨b, i, none⟩ = false := by
 obtain ⟨t, h⟩ := h
 simp [World.frozen?, h]
theorem Ar.chg {w w' : World} {b : Nat} {c : Array Value} (h : Ar w b c) (k : Chg w w') : Ar w' b c := by
 have hl := h.lt
 obtain ⟨t, h⟩ := h
 exact ⟨t, (k.block b hl).trans h⟩
theorem Ar.new (w : World) (c : Array Value) (t : TypeId) : Ar (w.alloc (.cells c t)) w.heap.size c := ⟨t, heap_alloc_last w _⟩
theorem Ar.alloc {w : World} {b : Nat} {c : Array Value} (h : Ar w b c) (o : Obj) : Ar (w.alloc o) b c := h.chg ((Chg.refl w).alloc o)
theorem Ar.drew {w : World} {b : Nat} {c : Array Value} (h : Ar w b c) : Ar w.drew b c := h
theorem Ar.set {w : World} {b : Nat} {c : Array Value} (h : Ar w b c) (i : Nat) (v : Value) : Ar (w.setCell ⟨b, i, none⟩ v) b (c.setIfInBounds i v) := by
 obtain ⟨t, h⟩ := h
 refine ⟨t, ?_⟩
 rw [setCell_eq_setRow w b i c t (0, 0) v h, setRow_heap _ _ _ _ _ _ h]
theorem Ar.other {w : World} {b : Nat} {c : Array Value} (h : Ar w b c) {p : Addr} (hp : b ≠ p.block) (v : Value) : Ar (w.setCell p v) b c := by
 obtain ⟨t, h⟩ := h
 exact ⟨t, (Below.heap_setCell _ _ _ _ hp).trans h⟩
theorem Ar.row {w : World} {b : Nat} {c : Array Value} (h : Ar w b c) (c' : Array Value) : Ar (w.setRow b c') b c' := by
 obtain ⟨t, h⟩ := h
 exact ⟨t, setRow_heap _ _ _ _ _ _ h⟩
theorem Ar.rowOther {w : World} {b b' : Nat} {c : Array Value} (h : Ar w b c) (hb : b ≠ b') (c' : Array Value) : Ar (w.setRow b' c') b c := by
 obtain ⟨t, h⟩ := h
 exact ⟨t, (setRow_other _ _ _ _ hb).trans h⟩
def upd (d : Nat → Int) (i : Nat) (x : Int) : Nat → Int := fun j => if j = i then x else d j
theorem upd_same (d : Nat → Int) (i : Nat) (x : Int) : upd d i x i = x := by simp [upd]
theorem upd_ne (d : Nat → Int) {i j : Nat} (x : Int) (h : j ≠ i) : upd d i x j = d j := by simp [upd, h]
def arr (κ : IntKind) (n : Nat) (d : Nat → Int) : Array Value := ((List.range n).map fun i => Value.int κ (d i)).toArray
theorem arr_size (κ : IntKind) (n : Nat) (d : Nat → Int) : (arr κ n d).size = n := by simp [arr]
theorem arr_get (κ : IntKind) (n : Nat) (d : Nat → Int) {i : Nat} (h : i < n) : (arr κ n d)[i]? = some (.int κ (d i)) := by
 simp [arr, h]
theorem arr_set (κ : IntKind) (n : Nat) (d : Nat → Int) (i : Nat) (x : Int) : (arr κ n d).setIfInBounds i (.int κ x) = arr κ n (upd d i x) := by
 apply Array.ext_getElem?
 intro j
 rw [Array.getElem?_setIfInBounds]
 by_cases h : i = j
 ·subst h
  by_cases hn : i < n
  ·rw [arr_get _ _ (upd d i x) hn, upd_same]
   simp [arr_size, hn]
  ·simp [hn, arr]
 ·by_cases hn : j < n
  ·have h' : ¬ j = i := fun e => h e.symm
   simp [h, hn, arr_get, upd, h']
  ·have h' : ¬ j = i := fun e => h e.symm
   simp [h, arr, hn]
theorem arr_one (κ : IntKind) (n : Nat) (d : Nat → Int) : (arr κ n d).all (·.oneCell') = true := by
 rw [Array.all_eq_true_iff_forall_mem]
 intro v hv
 simp [arr] at hv
 obtain ⟨i, _, rfl⟩ := hv
 rfl
theorem Ar.loadVar {w : World} {b : Nat} {c : Array Value} (h : Ar w b c) (ty : TypeId) {n : Nat} {e : TypeId} (hu : Tryd.prog.underlying ty = some (.array n e)) (hi : (Tryd.prog.info? ty).map (·.size) = some n) (hc : c.size = n) :
  (Go.loadVar ty ⟨b, 0, none⟩).run Tryd.prog w = .ok (.agg c) w := by
 obtain ⟨t, h⟩ := h
 exact run_loadVar_row w b t ty c (0, 0) _ h hu rfl (by rw [hi, hc])
theorem bp_c {fn : Func} {R : Ending → World → Prop} {a : Act} {w : World} {p b n : Nat} {ty e : TypeId} {c : Array Value} (h : fn.results = #[.cell p ty]) (hd : a.defers = []) (hp : a.tmps.getD p undef = .pointer (some ⟨b, 0, none⟩)) (ha : Ar w b c)
  (hu : Tryd.prog.underlying ty = some (.array n e)) (hi : (Tryd.prog.info? ty).map (·.size) = some n) (hc : c.size = n) (hR : R (.returned (.agg c)) w) : bodyPost Tryd.prog fn R .ret a w := by
 refine bodyPost_ret (v := .agg c) ?_ hd hR
 rw [Array.getD_eq_getD_getElem?] at hp
 simp only [results, h]
 simp [hp, asAddr, ha.loadVar ty hu hi hc]
theorem bp_ct {fn : Func} {R : Ending → World → Prop} {a : Act} {w : World} {p u b n : Nat} {ty e : TypeId} {c : Array Value} {x : Value} (h : fn.results = #[.cell p ty, .tmp u]) (hd : a.defers = []) (hp : a.tmps.getD p undef = .pointer (some ⟨b, 0, none⟩)) (hx : a.tmps.getD u undef = x) (ha : Ar w b c)
  (hu : Tryd.prog.underlying ty = some (.array n e)) (hi : (Tryd.prog.info? ty).map (·.size) = some n) (hc : c.size = n) (hR : R (.returned (.tuple #[.agg c, x])) w) : bodyPost Tryd.prog fn R .ret a w := by
 refine bodyPost_ret (v := .tuple #[.agg c, x]) ?_ hd hR
 rw [results_cell_tmp h]
 simp [Result.andThen, hp, hx, asAddr, ha.loadVar ty hu hi hc]
end Go.Proofs.YtjfidbifjagnpaaDoor.Sha
namespace Go.Proofs.YtjfidbifjagnpaaDoor.Sha
open Go.RowKit
set_option linter.unusedVariables false
set_option maxRecDepth 100000
theorem wrap_i {x : Int} (h0 : -9223372036854775808 ≤ x) (h1 : x < 9223372036854775808) : IntKind.i64.wrap x = x := by rw [IntKind.wrap_i64]; omega
theorem and63 {n : Nat} (h : n < 64) : Go.bits .and .i64 (n : Int) 63 = n := by
 have := bits_mask .i64 63 (by decide) (fun n h0 h1 => wrap_i (by omega) (by omega)) 6 (by decide) n (by omega) (by omega)
 rw [show ((2:Int)^6 - 1) = 63 from rfl] at this
 rw [this]
 omega
theorem Chg.drewN {a b : World} (h : Chg a b) (n : Nat) : Chg a (b.drewN n) := ⟨h.os, h.tape, h.output, h.size, h.block⟩
def rot (κ : IntKind) (n : Nat) (x : Int) : Int := Go.bits .or κ (x / 2 ^ n) (κ.wrap (x * 2 ^ (κ.bits - n)))
def turn2 (κ : IntKind) (a b c : Nat) (x : Int) : Int := Go.bits .xor κ (Go.bits .xor κ (rot κ a x) (rot κ b x)) (x / 2 ^ c)
def turn3 (κ : IntKind) (a b c : Nat) (x : Int) : Int := Go.bits .xor κ (Go.bits .xor κ (rot κ a x) (rot κ b x)) (rot κ c x)
theorem turn32_any (x : Int) (n : Nat) (w : World) (h0 : 0 < n) (h : n < 32) :
  Calls Tryd.prog 98 #[.int .u32 x, .int .i64 n, .int .i64 32] w fun r w' => r = .returned (.int .u32 (rot .u32 n x)) ∧ ∃ m, w' = w.drewN m := by
 obtain ⟨q, hq⟩ : ∃ q : Nat, (32 : Int) - n = q := ⟨32 - n, by omega⟩
 have e1 := and63 (n := n) (by omega)
 have e2 := and63 (n := q) (by omega)
 have e3 := wrap_i (x := q) (by omega) (by omega)
 have l1 : (n : Int) ≤ 32 := by omega
 have l2 : (q : Int) ≤ 32 := by omega
 have HR : Hid (rot .u32 n x = Go.bits .or .u32 (x / 2 ^ n) (IntKind.u32.wrap (x * 2 ^ q))) := by
  show rot .u32 n x = _
  have : IntKind.u32.bits - n = q := by simp only [IntKind.bits]; omega
  rw [rot, this]
 clear h0 h
 go_enter Tryd.func98, Tryd.ntmps98
 go_wp2_with fail
 go_quiet (fail)
 all_goals go_wp2
 all_goals
  go_ret
  refine ⟨?_, nq, rfl⟩
  rw [HR.out]
  rfl
theorem turnTwice32_any (x : Int) (a b c : Nat) (w : World) (ha : 0 < a ∧ a < 32) (hb : 0 < b ∧ b < 32) (hc : c < 32) :
  Calls Tryd.prog 97 #[.int .u32 x, .agg #[.int .i64 a, .int .i64 b, .int .i64 c], .int .i64 32] w fun r w' => r = .returned (.int .u32 (turn2 .u32 a b c x)) ∧ Chg w w' := by
 have e1 := and63 (n := c) (by omega)
 have l1 : (c : Int) ≤ 32 := by omega
 have HR : Hid (turn2 .u32 a b c x = Go.bits .xor .u32 (Go.bits .xor .u32 (rot .u32 a x) (rot .u32 b x)) (x / 2 ^ c)) := by
  show turn2 _ _ _ _ _ = _
  rw [turn2]
 have HA : Hid (∀ w, Calls Tryd.prog 98 #[.int .u32 x, .int .i64 a, .int .i64 32] w fun r w' => r = .returned (.int .u32 (rot .u32 a x)) ∧ ∃ m, w' = w.drewN m) := fun w => turn32_any x a w ha.1 ha.2
 have HB : Hid (∀ w, Calls Tryd.prog 98 #[.int .u32 x, .int .i64 b, .int .i64 32] w fun r w' => r = .returned (.int .u32 (rot .u32 b x)) ∧ ∃ m, w' = w.drewN m) := fun w => turn32_any x b w hb.1 hb.2
 clear ha hb hc
 go_enter Tryd.func97, Tryd.ntmps97
 go_wp2_with fail
 go_quiet (first | (go_at_call_of 98 (Value.int .i64 a); exact Calls.quiet_of (HA.out _)) | (go_at_call 98; exact Calls.quiet_of (HB.out _)))
 all_goals go_wp2
 all_goals
  go_ret
  refine ⟨?_, ((Chg.refl w).alloc _).drewN nq⟩
  rw [HR.out]
  rfl
theorem turnThrice32_any (x : Int) (a b c : Nat) (w : World) (ha : 0 < a ∧ a < 32) (hb : 0 < b ∧ b < 32) (hc : 0 < c ∧ c < 32) :
  Calls Tryd.prog 94 #[.int .u32 x, .agg #[.int .i64 a, .int .i64 b, .int .i64 c], .int .i64 32] w fun r w' => r = .returned (.int .u32 (turn3 .u32 a b c x)) ∧ Chg w w' := by
 have HR : Hid (turn3 .u32 a b c x = Go.bits .xor .u32 (Go.bits .xor .u32 (rot .u32 a x) (rot .u32 b x)) (rot .u32 c x)) := by
  show turn3 _ _ _ _ _ = _
  rw [turn3]
 have HA : Hid (∀ w, Calls Tryd.prog 98 #[.int .u32 x, .int .i64 a, .int .i64 32] w fun r w' => r = .returned (.int .u32 (rot .u32 a x)) ∧ ∃ m, w' = w.drewN m) := fun w => turn32_any x a w ha.1 ha.2
 have HB : Hid (∀ w, Calls Tryd.prog 98 #[.int .u32 x, .int .i64 b, .int .i64 32] w fun r w' => r = .returned (.int .u32 (rot .u32 b x)) ∧ ∃ m, w' = w.drewN m) := fun w => turn32_any x b w hb.1 hb.2
 have HC : Hid (∀ w, Calls Tryd.prog 98 #[.int .u32 x, .int .i64 c, .int .i64 32] w fun r w' => r = .returned (.int .u32 (rot .u32 c x)) ∧ ∃ m, w' = w.drewN m) := fun w => turn32_any x c w hc.1 hc.2
 clear ha hb hc
 go_enter Tryd.func94, Tryd.ntmps94
 go_wp2_with fail
 go_quiet (first | (go_at_call_of 98 (Value.int .i64 a); exact Calls.quiet_of (HA.out _)) | (go_at_call_of 98 (Value.int .i64 b); exact Calls.quiet_of (HB.out _)) | (go_at_call 98; exact Calls.quiet_of (HC.out _)))
 all_goals go_wp2
 all_goals
  go_ret
  refine ⟨?_, ((Chg.refl w).alloc _).drewN nq⟩
  rw [HR.out]
  rfl
theorem turn64_any (x : Int) (n : Nat) (w : World) (h0 : 0 < n) (h : n < 64) :
  Calls Tryd.prog 100 #[.int .u64 x, .int .i64 n, .int .i64 64] w fun r w' => r = .returned (.int .u64 (rot .u64 n x)) ∧ ∃ m, w' = w.drewN m := by
 obtain ⟨q, hq⟩ : ∃ q : Nat, (64 : Int) - n = q := ⟨64 - n, by omega⟩
 have e1 := and63 (n := n) (by omega)
 have e2 := and63 (n := q) (by omega)
 have e3 := wrap_i (x := q) (by omega) (by omega)
 have l1 : (n : Int) ≤ 64 := by omega
 have l2 : (q : Int) ≤ 64 := by omega
 have HR : Hid (rot .u64 n x = Go.bits .or .u64 (x / 2 ^ n) (IntKind.u64.wrap (x * 2 ^ q))) := by
  show rot .u64 n x = _
  have : IntKind.u64.bits - n = q := by simp only [IntKind.bits]; omega
  rw [rot, this]
 clear h0 h
 go_enter Tryd.func100, Tryd.ntmps100
 go_wp2_with fail
 go_quiet (fail)
 all_goals go_wp2
 all_goals
  go_ret
  refine ⟨?_, nq, rfl⟩
  rw [HR.out]
  rfl
theorem turnTwice64_any (x : Int) (a b c : Nat) (w : World) (ha : 0 < a ∧ a < 64) (hb : 0 < b ∧ b < 64) (hc : c < 64) :
  Calls Tryd.prog 99 #[.int .u64 x, .agg #[.int .i64 a, .int .i64 b, .int .i64 c], .int .i64 64] w fun r w' => r = .returned (.int .u64 (turn2 .u64 a b c x)) ∧ Chg w w' := by
 have e1 := and63 (n := c) (by omega)
 have l1 : (c : Int) ≤ 64 := by omega
 have HR : Hid (turn2 .u64 a b c x = Go.bits .xor .u64 (Go.bits .xor .u64 (rot .u64 a x) (rot .u64 b x)) (x / 2 ^ c)) := by
  show turn2 _ _ _ _ _ = _
  rw [turn2]
 have HA : Hid (∀ w, Calls Tryd.prog 100 #[.int .u64 x, .int .i64 a, .int .i64 64] w fun r w' => r = .returned (.int .u64 (rot .u64 a x)) ∧ ∃ m, w' = w.drewN m) := fun w => turn64_any x a w ha.1 ha.2
 have HB : Hid (∀ w, Calls Tryd.prog 100 #[.int .u64 x, .int .i64 b, .int .i64 64] w fun r w' => r = .returned (.int .u64 (rot .u64 b x)) ∧ ∃ m, w' = w.drewN m) := fun w => turn64_any x b w hb.1 hb.2
 clear ha hb hc
 go_enter Tryd.func99, Tryd.ntmps99
 go_wp2_with fail
 go_quiet (first | (go_at_call_of 100 (Value.int .i64 a); exact Calls.quiet_of (HA.out _)) | (go_at_call 100; exact Calls.quiet_of (HB.out _)))
 all_goals go_wp2
 all_goals
  go_ret
  refine ⟨?_, ((Chg.refl w).alloc _).drewN nq⟩
  rw [HR.out]
  rfl
theorem turnThrice64_any (x : Int) (a b c : Nat) (w : World) (ha : 0 < a ∧ a < 64) (hb : 0 < b ∧ b < 64) (hc : 0 < c ∧ c < 64) :
  Calls Tryd.prog 96 #[.int .u64 x, .agg #[.int .i64 a, .int .i64 b, .int .i64 c], .int .i64 64] w fun r w' => r = .returned (.int .u64 (turn3 .u64 a b c x)) ∧ Chg w w' := by
 have HR : Hid (turn3 .u64 a b c x = Go.bits .xor .u64 (Go.bits .xor .u64 (rot .u64 a x) (rot .u64 b x)) (rot .u64 c x)) := by
  show turn3 _ _ _ _ _ = _
  rw [turn3]
 have HA : Hid (∀ w, Calls Tryd.prog 100 #[.int .u64 x, .int .i64 a, .int .i64 64] w fun r w' => r = .returned (.int .u64 (rot .u64 a x)) ∧ ∃ m, w' = w.drewN m) := fun w => turn64_any x a w ha.1 ha.2
 have HB : Hid (∀ w, Calls Tryd.prog 100 #[.int .u64 x, .int .i64 b, .int .i64 64] w fun r w' => r = .returned (.int .u64 (rot .u64 b x)) ∧ ∃ m, w' = w.drewN m) := fun w => turn64_any x b w hb.1 hb.2
 have HC : Hid (∀ w, Calls Tryd.prog 100 #[.int .u64 x, .int .i64 c, .int .i64 64] w fun r w' => r = .returned (.int .u64 (rot .u64 c x)) ∧ ∃ m, w' = w.drewN m) := fun w => turn64_any x c w hc.1 hc.2
 clear ha hb hc
 go_enter Tryd.func96, Tryd.ntmps96
 go_wp2_with fail
 go_quiet (first | (go_at_call_of 100 (Value.int .i64 a); exact Calls.quiet_of (HA.out _)) | (go_at_call_of 100 (Value.int .i64 b); exact Calls.quiet_of (HB.out _)) | (go_at_call 100; exact Calls.quiet_of (HC.out _)))
 all_goals go_wp2
 all_goals
  go_ret
  refine ⟨?_, ((Chg.refl w).alloc _).drewN nq⟩
  rw [HR.out]
  rfl
end Go.Proofs.YtjfidbifjagnpaaDoor.Sha
