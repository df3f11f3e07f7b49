/-
What a slice of bytes holds, what a call may have changed, and the one law on append by which all walks of this seat go.
-/
import Derived.Test.YtjfidbifjagnpaaGreatDoorProg
import Derived.WalkKit
import Derived.WalkSpells
import Derived.WalkLawsBesides
import Derived.Test.YtjfidbifjagnpaaGreatDoorJh
import Derived.Test.YtjfidbifjagnpaaGreatDoorJl
import Derived.Test.YtjfidbifjagnpaaGreatDoorJj
import Derived.Test.YtjfidbifjagnpaaGreatDoorJc
import Derived.Test.YtjfidbifjagnpaaGreatDoorJn
namespace Go.Proofs.YtjfidbifjagnpaaGreatDoor.Ap
open Go.RowKit
set_option maxRecDepth 100000
structure Chg (S : Nat → Prop) (w w' : World) : Prop where
 os : w'.os = w.os
 tape : w'.tape = w.tape
 output : w'.output = w.output
 size : w.heap.size ≤ w'.heap.size
 block : ∀ k, k < w.heap.size → ¬ S k → w'.heap[k]? = w.heap[k]?
def Non : Nat → Prop := fun _ => False
def One (r : Nat) : Nat → Prop := fun k => k = r
theorem Chg.refl (S : Nat → Prop) (w : World) : Chg S w w := ⟨rfl, rfl, rfl, Nat.le_refl _, fun _ _ _ => rfl⟩
theorem Chg.trans {S S' : Nat → Prop} {a b c : World} (h : Chg S a b) (k : Chg S' b c) (hS : ∀ i, i < a.heap.size → S' i → S i) : Chg S a c :=
 ⟨k.os.trans h.os, k.tape.trans h.tape, k.output.trans h.output, Nat.le_trans h.size k.size, fun i hi hn =>
  (k.block i (Nat.lt_of_lt_of_le hi h.size) (fun x => hn (hS i hi x))).trans (h.block i hi hn)⟩
theorem Chg.mono {S S' : Nat → Prop} {a b : World} (h : Chg S a b) (hS : ∀ i, i < a.heap.size → S i → S' i) : Chg S' a b :=
 ⟨h.os, h.tape, h.output, h.size, fun i hi hn => h.block i hi (fun x => hn (hS i hi x))⟩
theorem Chg.drew {S : Nat → Prop} {a b : World} (h : Chg S a b) : Chg S a b.drew := ⟨h.os, h.tape, h.output, h.size, h.block⟩
theorem Chg.alloc {S : Nat → Prop} {a w : World} (h : Chg S a w) (o : Obj) : Chg S a (w.alloc o) :=
 h.trans (S' := Non) ⟨rfl, rfl, rfl, by simp, fun k hk _ => Below.heap_alloc _ _ _ hk⟩ (fun _ _ x => x.elim)
theorem Chg.setCell {S : Nat → Prop} {a w : World} (h : Chg S a w) {p : Addr} (hp : p.block < a.heap.size → S p.block) (u : Value) : Chg S a (w.setCell p u) :=
 h.trans (S' := One p.block) ⟨rfl, rfl, rfl, by simp [World.setCell], fun k _ hn => Below.heap_setCell _ _ _ _ hn⟩ (fun _ hi x => by cases x; exact hp hi)
theorem Chg.below {S : Nat → Prop} {B : Nat} {a w : World} (h : Chg S a w) (hB : B ≤ a.heap.size) (hS : ∀ k, S k → B ≤ k) : Below B a w :=
 ⟨h.os, h.tape, h.output, h.size, fun k hk => h.block k (by omega) (fun x => by have := hS k x; omega)⟩
def Rd (w : World) (v : Value) (xs : List Int) : Prop :=
 ∃ ao n c, v = .slice ao n c ∧ n = xs.length ∧ n ≤ c ∧ c ≤ maxLen ∧ (ao = none → c = 0) ∧ ∀ x, ao = some x → ∀ j u, xs[j]? = some u → w.cell? (x.add j) = some (.int .u8 u)
theorem Rd.keep {w w' : World} {v : Value} {xs : List Int} (h : Rd w v xs) (hk : ∀ k, v.ownBlock = some k → k < w.heap.size → w'.heap[k]? = w.heap[k]?) : Rd w' v xs := by
 obtain ⟨ao, n, c, rfl, hn, hc, hmx, h0, hx⟩ := h
 refine ⟨ao, n, c, rfl, hn, hc, hmx, h0, fun x e j u hj => ?_⟩
 subst e
 have h1 := hx x rfl j u hj
 have hb : (x.add j).block = x.block := by unfold Addr.add; split <;> rfl
 rw [← h1]
 apply World.cell?_of_block
 rw [hb]
 exact hk _ rfl (by have := World.block_lt_of_cell? w _ h1; rwa [hb] at this)
theorem Rd.nil (w : World) : Rd w (.slice none 0 0) [] := ⟨none, 0, 0, rfl, rfl, Nat.le_refl _, by decide, fun _ => rfl, fun _ h => by cases h⟩
def Tight (w : World) (v : Value) (xs : List Int) : Prop :=
 (v = .slice none 0 0 ∧ xs = []) ∨
 ∃ x n, v = .slice (some x) n n ∧ n = xs.length ∧ 0 < n ∧ n ≤ maxLen ∧ ∀ j u, xs[j]? = some u → w.cell? (x.add j) = some (.int .u8 u)
theorem Tight.rd {w : World} {v : Value} {xs : List Int} (h : Tight w v xs) : Rd w v xs := by
 rcases h with ⟨rfl, rfl⟩ | ⟨x, n, rfl, hn, h0, hmx, hx⟩
 ·exact Rd.nil w
 ·exact ⟨some x, n, n, rfl, hn, Nat.le_refl _, hmx, fun e => by (cases e), fun y e => by cases e; exact hx⟩
theorem Tight.lt {w : World} {v : Value} {xs : List Int} (h : Tight w v xs) : ∀ k, v.ownBlock = some k → k < w.heap.size := by
 intro k hk
 rcases h with ⟨rfl, rfl⟩ | ⟨x, n, rfl, hn, h0, hmx, hx⟩
 ·simp [Value.ownBlock] at hk
 ·simp [Value.ownBlock] at hk
  subst hk
  have h1 := hx 0 (xs[0]'(by omega)) (by simp)
  have hb : (x.add 0).block = x.block := by unfold Addr.add; split <;> rfl
  have := World.block_lt_of_cell? w _ h1
  rwa [hb] at this
theorem Tight.keep {w w' : World} {v : Value} {xs : List Int} (h : Tight w v xs) (hk : ∀ k, v.ownBlock = some k → w'.heap[k]? = w.heap[k]?) : Tight w' v xs := by
 have hr := (h.rd.keep (w' := w') (fun k e _ => hk k e))
 rcases h with h | ⟨x, n, rfl, hn, h0, hmx, hx⟩
 ·exact .inl h
 ·obtain ⟨ao, n', c, e, hn', hc, _, _, hx'⟩ := hr
  cases e
  exact .inr ⟨x, n, rfl, hn, h0, hmx, hx' x rfl⟩
structure Own (w : World) (g off n cap : Nat) (xs : List Int) : Prop where
 len : xs.length = n
 le : n ≤ cap
 mx : cap ≤ maxLen
 blk : ∃ cur : Array Value, w.heap[g]? = some (.cells cur 5 (0, 0)) ∧ off + cap ≤ cur.size ∧ (cur.toList.drop off).take n = xs.map (Value.int .u8)
def OwnV (w : World) (v : Value) (xs : List Int) : Prop :=
 (v = .slice none 0 0 ∧ xs = []) ∨ ∃ g off n cap, v = .slice (some ⟨g, off, none⟩) n cap ∧ Own w g off n cap xs
theorem Own.lt {w : World} {g off n cap : Nat} {xs : List Int} (h : Own w g off n cap xs) : g < w.heap.size := by
 obtain ⟨cur, hg, _⟩ := h.blk
 exact (Array.getElem?_eq_some_iff.1 hg).1
theorem Own.cell {w : World} {g off n cap : Nat} {xs : List Int} (h : Own w g off n cap xs) : ∀ j u, xs[j]? = some u → w.cell? ⟨g, off + j, none⟩ = some (.int .u8 u) := by
 intro j u hj
 obtain ⟨cur, hg, hs, ht⟩ := h.blk
 have hlt := (List.getElem?_eq_some_iff.1 hj).1
 have e : ((cur.toList.drop off).take n)[j]? = (xs.map (Value.int .u8))[j]? := by rw [ht]
 rw [List.getElem?_take, if_pos (by have := h.len; omega), List.getElem?_drop, List.getElem?_map, hj] at e
 rw [cell_of_row w g (off + j) cur 5 (0, 0) hg]
 simpa using e
theorem Own.rd {w : World} {g off n cap : Nat} {xs : List Int} (h : Own w g off n cap xs) : Rd w (.slice (some ⟨g, off, none⟩) n cap) xs :=
 ⟨_, _, _, rfl, h.len.symm, h.le, h.mx, fun e => by (cases e), fun x e j u hj => by cases e; rw [Addr.add_lit]; exact h.cell j u hj⟩
theorem OwnV.rd {w : World} {v : Value} {xs : List Int} (h : OwnV w v xs) : Rd w v xs := by
 rcases h with ⟨rfl, rfl⟩ | ⟨g, off, n, cap, rfl, h⟩
 ·exact Rd.nil w
 ·exact h.rd
theorem OwnV.lt {w : World} {v : Value} {xs : List Int} (h : OwnV w v xs) : ∀ k, v.ownBlock = some k → k < w.heap.size := by
 intro k hk
 rcases h with ⟨rfl, rfl⟩ | ⟨g, off, n, cap, rfl, h⟩
 ·simp [Value.ownBlock] at hk
 ·simp [Value.ownBlock] at hk
  subst hk
  exact h.lt
theorem Own.keep {w w' : World} {g off n cap : Nat} {xs : List Int} (h : Own w g off n cap xs) (hk : w'.heap[g]? = w.heap[g]?) : Own w' g off n cap xs :=
 ⟨h.len, h.le, h.mx, by rw [hk]; exact h.blk⟩
theorem OwnV.keep {w w' : World} {v : Value} {xs : List Int} (h : OwnV w v xs) (hk : ∀ k, v.ownBlock = some k → w'.heap[k]? = w.heap[k]?) : OwnV w' v xs := by
 rcases h with h | ⟨g, off, n, cap, rfl, h⟩
 ·exact .inl h
 ·exact .inr ⟨g, off, n, cap, rfl, h.keep (hk _ rfl)⟩
theorem Rd.drew {w : World} {v : Value} {xs : List Int} (h : Rd w v xs) : Rd w.drew v xs := h.keep (fun _ _ _ => rfl)
theorem Rd.one (w : World) (b : Int) : Rd (w.alloc (.cells #[.int .u8 b] 5)) (.slice (some ⟨w.heap.size, 0, none⟩) 1 1) [b] := by
 refine ⟨_, _, _, rfl, rfl, Nat.le_refl _, by decide, fun e => by (cases e), fun x e j u hj => ?_⟩
 cases e
 match j, hj with
 | 0, hj =>
  simp at hj
  subst hj
  simp [Addr.add]
end Go.Proofs.YtjfidbifjagnpaaGreatDoor.Ap
namespace Go.Proofs.YtjfidbifjagnpaaGreatDoor
open Go.RowKit
set_option linter.unusedVariables false
set_option maxRecDepth 100000
def Bz (w : World) (b o n : Nat) (e : Nat → Int) : Prop := ∀ j, j < n → w.cell? ⟨b, o + j, none⟩ = some (.int .u8 (e j))
theorem Bz.chg {w w' : World} {b o n : Nat} {e : Nat → Int} (h : Bz w b o n e) (k : Chg w w') : Bz w' b o n e := fun j hj => by
 have h1 := h j hj
 have hb := World.block_lt_of_cell? w _ h1
 have h2 := k.block b hb
 unfold World.cell? at h1 ⊢
 dsimp only at h1 ⊢
 rw [h2]
 exact h1
structure WS (w wr : World) (b6 : Nat) (x : Int) : Prop where
 chg : Chg w wr
 r4 : Ar wr w.heap.size (num 0)
 r6 : Ar wr b6 (num x)
 l6 : w.heap.size < b6
theorem WS.to {w wr u : World} {b6 : Nat} {x : Int} (h : WS w wr b6 x) (k : Chg wr u) : WS w u b6 x := ⟨h.chg.trans k, h.r4.chg k, h.r6.chg k, h.l6⟩
theorem WS.row {w wr : World} {b6 : Nat} {x : Int} (h : WS w wr b6 x) (y : Int) : WS w (wr.setRow b6 (num y)) b6 y := by
 obtain ⟨q0, q1, q2, l⟩ := h
 exact ⟨q0.setRow (by omega) _, q1.rowOther (by omega) _, q2.row _, l⟩
theorem un36 : Tryz.prog.underlying 23 = some (.slice 5) := by kernel_rfl
theorem i5y : (Tryz.prog.info? 5).map (·.size) = some 1 := by kernel_rfl
def ovr (o n : Nat) (x f : Nat → Int) : Nat → Int := fun j => if o ≤ j ∧ j < o + n then x (j - o) else f j
theorem ay_over (N o n : Nat) (x f : Nat → Int) (h : o + n ≤ N) :
  ((arr .u8 N f).toList.take o ++ (arr .u8 n x).toList ++ (arr .u8 N f).toList.drop (o + (arr .u8 n x).toList.length)).toArray = arr .u8 N (ovr o n x f) := by
 have hl : (arr .u8 N f).toList.length = N := by rw [Array.length_toList, arr_size]
 have hx : (arr .u8 n x).toList.length = n := by rw [Array.length_toList, arr_size]
 rw [hx]
 apply Array.ext_getElem?
 intro j
 rw [List.getElem?_toArray]
 by_cases hN : j < N
 ·rw [arr_get .u8 N _ hN]
  by_cases h1 : j < o
  ·rw [List.append_assoc, List.getElem?_append_left (by rw [List.length_take, hl]; omega), List.getElem?_take, if_pos h1, Array.getElem?_toList, arr_get .u8 N f hN]
   have : ¬ (o ≤ j ∧ j < o + n) := by omega
   simp [ovr, this]
  ·by_cases h2 : j < o + n
   ·rw [List.getElem?_append_left (by rw [List.length_append, List.length_take, hl, hx]; omega), List.getElem?_append_right (by rw [List.length_take, hl]; omega), List.length_take, hl, Nat.min_eq_left (by omega), Array.getElem?_toList, arr_get .u8 n x (by omega)]
    have : o ≤ j ∧ j < o + n := by omega
    simp [ovr, this]
   ·rw [List.getElem?_append_right (by rw [List.length_append, List.length_take, hl, hx]; omega), List.length_append, List.length_take, hl, hx, Nat.min_eq_left (by omega), List.getElem?_drop, Array.getElem?_toList]
    have e : o + n + (j - (o + n)) = j := by omega
    rw [e, arr_get .u8 N f hN]
    have : ¬ (o ≤ j ∧ j < o + n) := by omega
    simp [ovr, this]
 ·rw [List.getElem?_eq_none (by simp only [List.length_append, List.length_take, List.length_drop, hl, hx]; omega)]
  simp [arr, hN]
theorem run_cpY (w : World) (g N o dl dc b s sl sc n : Nat) (f x : Nat → Int) (hd : Ar w g (arr .u8 N f)) (hs : Bz w b s n x) (hn : n = Nat.min sl dl) (hr : o + n ≤ N) :
  (Builtin.copy_ #[23, 23] 3 #[.slice (some ⟨g, o, none⟩) dl dc, .slice (some ⟨b, s, none⟩) sl sc]).run Tryz.prog w = .ok (.int .i64 n) (w.setRow g (arr .u8 N (ovr o n x f))) := by
 obtain ⟨t, hg⟩ := hd
 have hl : (arr .u8 n x).toList.length = n := by rw [Array.length_toList, arr_size]
 have := run_copy_row (P := Tryz.prog) w 23 23 3 5 g o dl dc ⟨b, s, none⟩ sl sc _ t (arr .u8 n x).toList un36 i5y hg (by rw [hl, hn]) (fun j v hv => ?_) (by rw [hl, arr_size]; omega) (fun v hv => (Array.all_eq_true_iff_forall_mem.1 (arr_one .u8 n x)) v (by simpa using hv))
 ·rw [this, ay_over N o n x f hr, hl]
  rfl
 ·have hadd : (⟨b, s, none⟩ : Addr).add j = ⟨b, s + j, none⟩ := by unfold Addr.add; split <;> simp_all
  have hj : j < n := by
   have := (List.getElem?_eq_some_iff.1 hv).1
   omega
  rw [Array.getElem?_toList, arr_get .u8 n x hj] at hv
  rw [hadd, hs j hj, hv]
theorem up32 (V : Int) (k : Nat) : V / 256 ^ (32 * k) = V / 256 ^ (32 * k) % R256 + R256 * (V / 256 ^ (32 * (k + 1))) := by
 have hp : (0 : Int) < 256 ^ (32 * k) := Int.pow_pos (by decide)
 rw [show 32 * (k + 1) = 32 * k + 32 by omega, Int.pow_add, ← Int.ediv_ediv_of_nonneg (by omega), show (256 : Int) ^ 32 = R256 from by decide +kernel]
 generalize V / 256 ^ (32 * k) = y
 have := Int.emod_add_mul_ediv y R256
 omega
theorem addr_addY (b o p : Nat) : (⟨b, o, none⟩ : Addr).add p = ⟨b, o + p, none⟩ := by unfold Addr.add; split <;> simp_all
theorem run_sliceArrY {t n : Nat} (hu : Tryz.prog.underlying t = some (.array n 5)) (hn : 0 < n) (b : Nat) (w : World) : (Instr.sliceAt t (.pointer (some ⟨b, 0, none⟩)) none none none).run Tryz.prog w = .ok (.slice (some ⟨b, 0, none⟩) n n) w := by
 have h6 : ¬ n = 0 := by omega
 simp [go_sem, Instr.sliceAt, Instr.sliceBounds, run_underlying hu, Sem.run_bind]
theorem sizeB5 (w : World) : (sizeOf 5).run Tryz.prog w = .ok 1 w := by
 have h : (Tryz.prog.info? 5).map (·.size) = some 1 := by kernel_rfl
 cases hq : Tryz.prog.info? 5 with
 | none => simp [hq] at h
 | some i =>
  rw [hq] at h
  have h : i.size = 1 := Option.some.inj h
  simp [sizeOf, typeInfo, hq, h]
theorem undB5 : Tryz.prog.underlying 5 = some (.int .u8) := by kernel_rfl
theorem run_partB5 (n : Nat) (f : Nat → Int) {i : Nat} (hi : i < n) (w : World) : (part 5 (arr .u8 n f) i).run Tryz.prog w = .ok (.int .u8 (f i)) w := by
 simp [part, arr_get .u8 n f hi, Sem.run_bind]
theorem run_eqB {t n : Nat} (hu : Tryz.prog.underlying t = some (.array n 5)) (hl : List.range' [0:n].start [0:n].size [0:n].step = List.range n) (f g : Nat → Int) (d : Nat) (w : World) : (Op.equalIn (d + 2) t (.agg (arr .u8 n f)) (.agg (arr .u8 n g))).run Tryz.prog w = .ok ((List.range n).all fun i => f i == g i) w := by
 unfold Op.equalIn
 simp only [Sem.run_bind, run_underlying hu, Result.andThen_ok, sizeB5, Nat.mul_one]
 rw [Std.Legacy.Range.forIn_eq_forIn_range', hl]
 have hm : ∀ i ∈ List.range n, i < n := fun i hi => List.mem_range.1 hi
 generalize List.range n = l at hm
 clear hl
 induction l generalizing w with
 | nil => simp
 | cons i l ih =>
  have hi := hm i (by simp)
  simp only [List.forIn_cons, Sem.run_bind, run_partB5 n f hi, run_partB5 n g hi, Result.andThen_ok, run_equalIn_int _ d 5 .u8 .u8 _ _ undB5]
  cases hc : (f i == g i) with
  | true =>
   simp only [List.all_cons, hc, Bool.true_and, Bool.not_true, Bool.false_eq_true, if_false, Sem.run_pure, Result.andThen_ok]
   exact ih w (fun j hj => hm j (by simp [hj]))
  | false =>
   simp only [List.all_cons, hc, Bool.false_and, Bool.not_false, if_true, Sem.run_pure, Result.andThen_ok]
theorem eqB_self (d : Nat → Int) (w : World) : (Op.equalIn 10000 22 (.agg (byt d)) (.agg (byt d))).run Tryz.prog w = .ok true w := by
 have := run_eqB (t := 22) (n := 32) (by kernel_rfl) (by decide) d d 9998 w
 rw [show ((List.range 32).all fun i => d i == d i) = true by rw [List.all_eq_true]; exact fun i _ => beq_self_eq_true _] at this
 exact this
theorem dg_val {d : Nat → Int} (hd : ∀ i, B8 (d i)) {n i : Nat} (hi : i < n) : dg 256 (val 256 n d) i = d i := by
 obtain ⟨h0, h1⟩ := val_b hd n
 have e : val 256 n (dg 256 (val 256 n d)) = val 256 n d := by rw [val_dg (by decide), Int.emod_eq_of_lt h0 h1]
 exact val_inj (B := 256) (by decide) (fun i _ => dg_bound (by decide) _ i) (fun i _ => hd i) e i hi
theorem byt_back {d : Nat → Int} (hd : ∀ i, B8 (d i)) : byt (dg 256 (val 256 32 d)) = byt d := arr_congr fun i hi => dg_val hd hi
theorem Chg.ap {w0 w w' : World} {S : Nat → Prop} (h : Chg w0 w) (k : Ap.Chg S w w') (hS : ∀ i, S i → w0.heap.size ≤ i) : Chg w0 w' :=
 ⟨k.os.trans h.os, k.tape.trans h.tape, k.output.trans h.output, Nat.le_trans h.size k.size, fun i hi =>
  (k.block i (Nat.lt_of_lt_of_le hi h.size) (fun e => by have := hS i e; omega)).trans (h.block i hi)⟩
theorem Ar.ap {w w' : World} {b : Nat} {c : Array Value} {S : Nat → Prop} (h : Ar w b c) (k : Ap.Chg S w w') (hn : ¬ S b) : Ar w' b c := by
 have hl := h.lt
 obtain ⟨t, h⟩ := h
 exact ⟨t, (k.block b hl hn).trans h⟩
theorem spot_none {w : World} {a : Addr} {v : Value} (h : w.cell? a = some v) : a.spot = none := by
 unfold World.cell? at h
 cases hs : a.spot with
 | none => rfl
 | some s =>
  exfalso
  revert h
  split
  ·simp [hs]
  ·simp
theorem Rd.chg {w w' : World} {v : Value} {xs : List Int} (h : Ap.Rd w v xs) (k : Chg w w') : Ap.Rd w' v xs := h.keep (fun i _ hi => k.block i hi)
theorem OwnV.chg {w w' : World} {v : Value} {xs : List Int} (h : Ap.OwnV w v xs) (k : Chg w w') : Ap.OwnV w' v xs := h.keep (fun i e => k.block i (h.lt i e))
structure OwnN (w : World) (w' : World) (v : Value) (xs : List Int) : Prop where
 own : Ap.OwnV w' v xs
 new : ∀ k, v.ownBlock = some k → w.heap.size ≤ k
 chg : Chg w w'
theorem OwnN.more {w u u' : World} {v v' : Value} {xs ys : List Int} (h : OwnN w u v xs) (h1 : Ap.OwnV u' v' ys) (h2 : Ap.Chg (fun k => v.ownBlock = some k) u u') (h3 : v'.ownBlock = v.ownBlock ∨ v'.ownBlock = some u.heap.size) : OwnN w u' v' ys := by
 refine ⟨h1, fun k e => ?_, h.chg.ap h2 h.new⟩
 rcases h3 with h3 | h3
 ·rw [h3] at e
  exact h.new k e
 ·rw [h3] at e
  injection e with e
  rw [← e]
  exact h.chg.size
theorem OwnN.alloc {w u : World} {v : Value} {xs : List Int} (h : OwnN w u v xs) (o : Obj) : OwnN w (u.alloc o) v xs :=
 ⟨h.own.keep (fun k e => Below.heap_alloc _ _ _ (h.own.lt k e)), h.new, h.chg.alloc o⟩
def bl (n : Nat) (V : Int) : List Int := (List.range n).map (dg 256 V)
theorem bl_get {n j : Nat} (V : Int) (h : j < n) : (bl n V)[j]? = some (dg 256 V j) := by simp [bl, h]
theorem Rd.bz {w : World} {ao : Option Addr} {n c : Nat} {V : Int} (h : Ap.Rd w (.slice ao n c) (bl n V)) (hn : 0 < n) : n ≤ c ∧ c ≤ 9223372036854775807 ∧ ∃ b o, ao = some ⟨b, o, none⟩ ∧ Bz w b o n (dg 256 V) := by
 obtain ⟨ao', n', c', e, hl, hc, hmx, h0, hx⟩ := h
 injection e with e1 e2 e3
 subst e1 e2 e3
 refine ⟨hc, hmx, ?_⟩
 cases ao with
 | none => have := h0 rfl; omega
 | some x =>
  have h1 := hx x rfl 0 _ (bl_get V hn)
  have hs := spot_none h1
  have hs' : x.spot = none := by
   clear h1 hx h0 hmx hc hl hn
   unfold Addr.add at hs
   split at hs
   ·assumption
   ·simp_all
  obtain ⟨b, o, sp⟩ := x
  dsimp only at hs'
  subst hs'
  refine ⟨b, o, rfl, fun j hj => ?_⟩
  have h2 := hx _ rfl j _ (bl_get V hj)
  rw [addr_addY] at h2
  exact h2
end Go.Proofs.YtjfidbifjagnpaaGreatDoor
