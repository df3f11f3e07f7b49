/-
  Numbers compared; what may be a root modulo 2^255 - 19.
  Bytes compared; the ways back.
-/
import Derived.Test.YtbdgmkejmfjobaaJi
import Derived.Test.YtbdgmkejmfjobaaJh
namespace Go.Proofs.Ytbdgmkejmfjobaa
set_option maxRecDepth 100000
open Go.RowKit
set_option linter.unusedVariables false
theorem size23 (w : World) : (sizeOf 22).run Try.prog w = .ok 1 w := by
 have h : (Try.prog.info? 22).map (·.size) = some 1 := by kernel_rfl
 cases hq : Try.prog.info? 22 with
 | none => simp [hq] at h
 | some i =>
  rw [hq] at h
  have h : i.size = 1 := Option.some.inj h
  simp [sizeOf, typeInfo, hq, h]
theorem und23 : Try.prog.underlying 22 = some (.int .u64) := by kernel_rfl
theorem run_part23 (n : Nat) (f : Nat → Int) {i : Nat} (hi : i < n) (w : World) : (part 22 (arr .u64 n f) i).run Try.prog w = .ok (.int .u64 (f i)) w := by
 simp [part, arr_get .u64 n f hi, Sem.run_bind]
theorem run_eqW {t n : Nat} (hu : Try.prog.underlying t = some (.array n 22)) (hl : List.range' [0:n].start [0:n].size [0:n].step = List.range n) (f g : Nat → Int) (d : Nat) (w : World) : (Op.equalIn (d + 2) t (.agg (arr .u64 n f)) (.agg (arr .u64 n g))).run Try.prog w = .ok ((List.range n).all fun i => f i == g i) w := by
 unfold Op.equalIn
 simp only [Sem.run_bind, run_underlying hu, Result.andThen_ok, size23, Nat.mul_one]
 rw [Std.Legacy.Range.forIn_eq_forIn_range', hl]
 have hm : ∀ i ∈ List.range n, i < n := fun i hi => List.mem_range.1 hi
 generalize List.range n = l at hm
 clear hl
 induction l generalizing w with
 | nil => simp
 | cons i l ih =>
  have hi := hm i (by simp)
  simp only [List.forIn_cons, Sem.run_bind, run_part23 n f hi, run_part23 n g hi, Result.andThen_ok, run_equalIn_int _ d 22 .u64 .u64 _ _ und23]
  cases hc : (f i == g i) with
  | true =>
   simp only [List.all_cons, hc, Bool.true_and, Bool.not_true, Bool.false_eq_true, if_false, Sem.run_pure, Result.andThen_ok]
   exact ih w (fun j hj => hm j (by simp [hj]))
  | false =>
   simp only [List.all_cons, hc, Bool.false_and, Bool.not_false, if_true, Sem.run_pure, Result.andThen_ok]
theorem num_same {x y : Int} (hx : N256 x) (hy : N256 y) : ((List.range 4).all fun i => dg B64 x i == dg B64 y i) = decide (x = y) := by
 rw [Bool.eq_iff_iff, List.all_eq_true, decide_eq_true_eq]
 constructor
 ·intro h
  rw [← val4 x hx.1 hx.2, ← val4 y hy.1 hy.2]
  exact val_congr fun i hi => by simpa using h i (List.mem_range.2 hi)
 ·rintro rfl i _
  exact beq_self_eq_true _
theorem run_eqNum {x y : Int} (hx : N256 x) (hy : N256 y) (w : World) : (Op.equalIn 10000 24 (.agg (num x)) (.agg (num y))).run Try.prog w = .ok (decide (x = y)) w := by
 have := run_eqW (t := 24) (n := 4) (by kernel_rfl) (by decide) (dg B64 x) (dg B64 y) 9998 w
 rw [num_same hx hy] at this
 exact this
theorem op_eqNum {o : Oper} {a : Act} {w : World} {K : Act → World → Prop} {Q : Exit → Act → World → Prop} (x y : Operand) (s t : Int) (b : Bool) (ho : o.op = .binOp .eql 24 x y 24) (hs : N256 s) (ht : N256 t) (hx : a.eval x = .agg (num s)) (hy : a.eval y = .agg (num t)) (hb : decide (s = t) = b) (hK : K (a.put o.dst (.bool b)) w) : o.wp Try.prog a w K Q := by
 refine op_val1 (v := .bool b) ?_ hK
 revert hx hy
 generalize a.eval = ρ
 intro hx hy
 simp [go_sem, execOp, ho, hx, hy, run_eqNum hs ht, hb]
theorem op_neqNum {o : Oper} {a : Act} {w : World} {K : Act → World → Prop} {Q : Exit → Act → World → Prop} (x y : Operand) (s t : Int) (b : Bool) (ho : o.op = .binOp .neq 24 x y 24) (hs : N256 s) (ht : N256 t) (hx : a.eval x = .agg (num s)) (hy : a.eval y = .agg (num t)) (hb : decide (s = t) = b) (hK : K (a.put o.dst (.bool (!b))) w) : o.wp Try.prog a w K Q := by
 refine op_val1 (v := .bool (!b)) ?_ hK
 revert hx hy
 generalize a.eval = ρ
 intro hx hy
 simp [go_sem, execOp, ho, hx, hy, run_eqNum hs ht, hb]
end Go.Proofs.Ytbdgmkejmfjobaa

namespace Go.Proofs.Ytbdgmkejmfjobaa
set_option maxRecDepth 100000
open Go.RowKit
set_option linter.unusedVariables false
theorem sizeB5 (w : World) : (sizeOf 5).run Try.prog w = .ok 1 w := by
 have h : (Try.prog.info? 5).map (·.size) = some 1 := by kernel_rfl
 cases hq : Try.prog.info? 5 with
 | none => simp [hq] at h
 | some i =>
  rw [hq] at h
  have h : i.size = 1 := Option.some.inj h
  simp [sizeOf, typeInfo, hq, h]
theorem undB5 : Try.prog.underlying 5 = some (.int .u8) := by kernel_rfl
theorem run_partB5 (n : Nat) (f : Nat → Int) {i : Nat} (hi : i < n) (w : World) : (part 5 (arr .u8 n f) i).run Try.prog w = .ok (.int .u8 (f i)) w := by
 simp [part, arr_get .u8 n f hi, Sem.run_bind]
theorem run_eqB {t n : Nat} (hu : Try.prog.underlying t = some (.array n 5)) (hl : List.range' [0:n].start [0:n].size [0:n].step = List.range n) (f g : Nat → Int) (d : Nat) (w : World) : (Op.equalIn (d + 2) t (.agg (arr .u8 n f)) (.agg (arr .u8 n g))).run Try.prog w = .ok ((List.range n).all fun i => f i == g i) w := by
 unfold Op.equalIn
 simp only [Sem.run_bind, run_underlying hu, Result.andThen_ok, sizeB5, Nat.mul_one]
 rw [Std.Legacy.Range.forIn_eq_forIn_range', hl]
 have hm : ∀ i ∈ List.range n, i < n := fun i hi => List.mem_range.1 hi
 generalize List.range n = l at hm
 clear hl
 induction l generalizing w with
 | nil => simp
 | cons i l ih =>
  have hi := hm i (by simp)
  simp only [List.forIn_cons, Sem.run_bind, run_partB5 n f hi, run_partB5 n g hi, Result.andThen_ok, run_equalIn_int _ d 5 .u8 .u8 _ _ undB5]
  cases hc : (f i == g i) with
  | true =>
   simp only [List.all_cons, hc, Bool.true_and, Bool.not_true, Bool.false_eq_true, if_false, Sem.run_pure, Result.andThen_ok]
   exact ih w (fun j hj => hm j (by simp [hj]))
  | false =>
   simp only [List.all_cons, hc, Bool.false_and, Bool.not_false, if_true, Sem.run_pure, Result.andThen_ok]
theorem eqB_self (d : Nat → Int) (w : World) : (Op.equalIn 10000 40 (.agg (byt d)) (.agg (byt d))).run Try.prog w = .ok true w := by
 have := run_eqB (t := 40) (n := 32) (by kernel_rfl) (by decide) d d 9998 w
 rw [show ((List.range 32).all fun i => d i == d i) = true by rw [List.all_eq_true]; exact fun i _ => beq_self_eq_true _] at this
 exact this
theorem dg_val {d : Nat → Int} (hd : ∀ i, B8 (d i)) {n i : Nat} (hi : i < n) : dg 256 (val 256 n d) i = d i := by
 obtain ⟨h0, h1⟩ := val_b hd n
 have e : val 256 n (dg 256 (val 256 n d)) = val 256 n d := by rw [val_dg (by decide), Int.emod_eq_of_lt h0 h1]
 exact val_inj (B := 256) (by decide) (fun i _ => dg_bound (by decide) _ i) (fun i _ => hd i) e i hi
theorem byt_back {d : Nat → Int} (hd : ∀ i, B8 (d i)) : byt (dg 256 (val 256 32 d)) = byt d := arr_congr fun i hi => dg_val hd hi
theorem byt_tu {d e : Nat → Int} (h : byt d = byt e) : byt (tu d) = byt (tu e) := arr_congr fun i hi => by
 have h1 := arr_get .u8 32 d (show 31 - i < 32 by omega)
 have h2 := arr_get .u8 32 e (show 31 - i < 32 by omega)
 rw [show arr .u8 32 d = arr .u8 32 e from h, h2] at h1
 have h3 := Option.some.inj h1
 injection h3 with _ h4
 exact h4.symm
theorem be_back {d : Nat → Int} (hd : ∀ i, B8 (d i)) : byt (tu (dg 256 (val 256 32 (tu d)))) = byt d := by
 rw [byt_tu (byt_back (d := tu d) fun i => hd _)]
 exact tu_tu d
end Go.Proofs.Ytbdgmkejmfjobaa
