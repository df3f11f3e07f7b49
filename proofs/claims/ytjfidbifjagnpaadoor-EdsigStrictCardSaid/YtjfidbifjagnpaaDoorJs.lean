/-
  Bytes compared; the ways back.
  Slices of bytes: what Wide makes of them.
-/
import Derived.Test.YtjfidbifjagnpaaDoorJq
import Derived.Test.YtjfidbifjagnpaaDoorJr
namespace Go.Proofs.YtjfidbifjagnpaaDoor
open Go.RowKit
set_option linter.unusedVariables false
set_option maxRecDepth 100000
theorem sizeB5 (w : World) : (sizeOf 5).run Tryd.prog w = .ok 1 w := by
 have h : (Tryd.prog.info? 5).map (·.size) = some 1 := by kernel_rfl
 cases hq : Tryd.prog.info? 5 with
 | none => simp [hq] at h
 | some i =>
  rw [hq] at h
  have h : i.size = 1 := Option.some.inj h
  simp [sizeOf, typeInfo, hq, h]
theorem undB5 : Tryd.prog.underlying 5 = some (.int .u8) := by kernel_rfl
theorem run_partB5 (n : Nat) (f : Nat → Int) {i : Nat} (hi : i < n) (w : World) : (part 5 (arr .u8 n f) i).run Tryd.prog w = .ok (.int .u8 (f i)) w := by
 simp [part, arr_get .u8 n f hi, Sem.run_bind]
theorem run_eqB {t n : Nat} (hu : Tryd.prog.underlying t = some (.array n 5)) (hl : List.range' [0:n].start [0:n].size [0:n].step = List.range n) (f g : Nat → Int) (d : Nat) (w : World) : (Op.equalIn (d + 2) t (.agg (arr .u8 n f)) (.agg (arr .u8 n g))).run Tryd.prog w = .ok ((List.range n).all fun i => f i == g i) w := by
 unfold Op.equalIn
 simp only [Sem.run_bind, run_underlying hu, Result.andThen_ok, sizeB5, Nat.mul_one]
 rw [Std.Legacy.Range.forIn_eq_forIn_range', hl]
 have hm : ∀ i ∈ List.range n, i < n := fun i hi => List.mem_range.1 hi
 generalize List.range n = l at hm
 clear hl
 induction l generalizing w with
 | nil => simp
 | cons i l ih =>
  have hi := hm i (by simp)
  simp only [List.forIn_cons, Sem.run_bind, run_partB5 n f hi, run_partB5 n g hi, Result.andThen_ok, run_equalIn_int _ d 5 .u8 .u8 _ _ undB5]
  cases hc : (f i == g i) with
  | true =>
   simp only [List.all_cons, hc, Bool.true_and, Bool.not_true, Bool.false_eq_true, if_false, Sem.run_pure, Result.andThen_ok]
   exact ih w (fun j hj => hm j (by simp [hj]))
  | false =>
   simp only [List.all_cons, hc, Bool.false_and, Bool.not_false, if_true, Sem.run_pure, Result.andThen_ok]
theorem eqB_self (d : Nat → Int) (w : World) : (Op.equalIn 10000 22 (.agg (byt d)) (.agg (byt d))).run Tryd.prog w = .ok true w := by
 have := run_eqB (t := 22) (n := 32) (by kernel_rfl) (by decide) d d 9998 w
 rw [show ((List.range 32).all fun i => d i == d i) = true by rw [List.all_eq_true]; exact fun i _ => beq_self_eq_true _] at this
 exact this
theorem dg_val {d : Nat → Int} (hd : ∀ i, B8 (d i)) {n i : Nat} (hi : i < n) : dg 256 (val 256 n d) i = d i := by
 obtain ⟨h0, h1⟩ := val_b hd n
 have e : val 256 n (dg 256 (val 256 n d)) = val 256 n d := by rw [val_dg (by decide), Int.emod_eq_of_lt h0 h1]
 exact val_inj (B := 256) (by decide) (fun i _ => dg_bound (by decide) _ i) (fun i _ => hd i) e i hi
theorem byt_back {d : Nat → Int} (hd : ∀ i, B8 (d i)) : byt (dg 256 (val 256 32 d)) = byt d := arr_congr fun i hi => dg_val hd hi
end Go.Proofs.YtjfidbifjagnpaaDoor
namespace Go.Proofs.YtjfidbifjagnpaaDoor
open Go.RowKit
set_option linter.unusedVariables false
set_option maxRecDepth 100000
theorem Chg.ap {w0 w w' : World} {S : Nat → Prop} (h : Chg w0 w) (k : Ap.Chg S w w') (hS : ∀ i, S i → w0.heap.size ≤ i) : Chg w0 w' :=
 ⟨k.os.trans h.os, k.tape.trans h.tape, k.output.trans h.output, Nat.le_trans h.size k.size, fun i hi =>
  (k.block i (Nat.lt_of_lt_of_le hi h.size) (fun e => by have := hS i e; omega)).trans (h.block i hi)⟩
theorem Ar.ap {w w' : World} {b : Nat} {c : Array Value} {S : Nat → Prop} (h : Ar w b c) (k : Ap.Chg S w w') (hn : ¬ S b) : Ar w' b c := by
 have hl := h.lt
 obtain ⟨t, h⟩ := h
 exact ⟨t, (k.block b hl hn).trans h⟩
theorem spot_none {w : World} {a : Addr} {v : Value} (h : w.cell? a = some v) : a.spot = none := by
 unfold World.cell? at h
 cases hs : a.spot with
 | none => rfl
 | some s =>
  exfalso
  revert h
  split
  ·simp [hs]
  ·simp
theorem Rd.chg {w w' : World} {v : Value} {xs : List Int} (h : Ap.Rd w v xs) (k : Chg w w') : Ap.Rd w' v xs := h.keep (fun i _ hi => k.block i hi)
theorem OwnV.chg {w w' : World} {v : Value} {xs : List Int} (h : Ap.OwnV w v xs) (k : Chg w w') : Ap.OwnV w' v xs := h.keep (fun i e => k.block i (h.lt i e))
structure OwnN (w : World) (w' : World) (v : Value) (xs : List Int) : Prop where
 own : Ap.OwnV w' v xs
 new : ∀ k, v.ownBlock = some k → w.heap.size ≤ k
 chg : Chg w w'
theorem OwnN.more {w u u' : World} {v v' : Value} {xs ys : List Int} (h : OwnN w u v xs) (h1 : Ap.OwnV u' v' ys) (h2 : Ap.Chg (fun k => v.ownBlock = some k) u u') (h3 : v'.ownBlock = v.ownBlock ∨ v'.ownBlock = some u.heap.size) : OwnN w u' v' ys := by
 refine ⟨h1, fun k e => ?_, h.chg.ap h2 h.new⟩
 rcases h3 with h3 | h3
 ·rw [h3] at e
  exact h.new k e
 ·rw [h3] at e
  injection e with e
  rw [← e]
  exact h.chg.size
theorem OwnN.alloc {w u : World} {v : Value} {xs : List Int} (h : OwnN w u v xs) (o : Obj) : OwnN w (u.alloc o) v xs :=
 ⟨h.own.keep (fun k e => Below.heap_alloc _ _ _ (h.own.lt k e)), h.new, h.chg.alloc o⟩
end Go.Proofs.YtjfidbifjagnpaaDoor
