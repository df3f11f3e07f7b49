/-
  What a slice of bytes holds, what a call may have changed, and the one law on append by which all walks of this seat go.
  Whatever many bytes as a number, the document's way.
  Whatever many bytes as a number, the program's way.
  Whatever many bytes as a number, the program's way: the walk.
  No bytes as a number.
-/
import Derived.Test.YtjfidbifjagnpaaDoorProg
import Derived.WalkKit
import Derived.WalkSpells
import Derived.WalkLawsBesides
import Derived.Test.YtjfidbifjagnpaaDoorJh
import Derived.Test.YtjfidbifjagnpaaDoorJj
import Derived.Test.YtjfidbifjagnpaaDoorJc
import Derived.Test.YtjfidbifjagnpaaDoorJn
namespace Go.Proofs.YtjfidbifjagnpaaDoor.Ap
open Go.RowKit
set_option maxRecDepth 100000
structure Chg (S : Nat → Prop) (w w' : World) : Prop where
 os : w'.os = w.os
 tape : w'.tape = w.tape
 output : w'.output = w.output
 size : w.heap.size ≤ w'.heap.size
 block : ∀ k, k < w.heap.size → ¬ S k → w'.heap[k]? = w.heap[k]?
def Non : Nat → Prop := fun _ => False
def One (r : Nat) : Nat → Prop := fun k => k = r
theorem Chg.refl (S : Nat → Prop) (w : World) : Chg S w w := ⟨rfl, rfl, rfl, Nat.le_refl _, fun _ _ _ => rfl⟩
theorem Chg.trans {S S' : Nat → Prop} {a b c : World} (h : Chg S a b) (k : Chg S' b c) (hS : ∀ i, i < a.heap.size → S' i → S i) : Chg S a c :=
 ⟨k.os.trans h.os, k.tape.trans h.tape, k.output.trans h.output, Nat.le_trans h.size k.size, fun i hi hn =>
  (k.block i (Nat.lt_of_lt_of_le hi h.size) (fun x => hn (hS i hi x))).trans (h.block i hi hn)⟩
theorem Chg.mono {S S' : Nat → Prop} {a b : World} (h : Chg S a b) (hS : ∀ i, i < a.heap.size → S i → S' i) : Chg S' a b :=
 ⟨h.os, h.tape, h.output, h.size, fun i hi hn => h.block i hi (fun x => hn (hS i hi x))⟩
theorem Chg.drew {S : Nat → Prop} {a b : World} (h : Chg S a b) : Chg S a b.drew := ⟨h.os, h.tape, h.output, h.size, h.block⟩
theorem Chg.alloc {S : Nat → Prop} {a w : World} (h : Chg S a w) (o : Obj) : Chg S a (w.alloc o) :=
 h.trans (S' := Non) ⟨rfl, rfl, rfl, by simp, fun k hk _ => Below.heap_alloc _ _ _ hk⟩ (fun _ _ x => x.elim)
theorem Chg.setCell {S : Nat → Prop} {a w : World} (h : Chg S a w) {p : Addr} (hp : p.block < a.heap.size → S p.block) (u : Value) : Chg S a (w.setCell p u) :=
 h.trans (S' := One p.block) ⟨rfl, rfl, rfl, by simp [World.setCell], fun k _ hn => Below.heap_setCell _ _ _ _ hn⟩ (fun _ hi x => by cases x; exact hp hi)
theorem Chg.below {S : Nat → Prop} {B : Nat} {a w : World} (h : Chg S a w) (hB : B ≤ a.heap.size) (hS : ∀ k, S k → B ≤ k) : Below B a w :=
 ⟨h.os, h.tape, h.output, h.size, fun k hk => h.block k (by omega) (fun x => by have := hS k x; omega)⟩
def Rd (w : World) (v : Value) (xs : List Int) : Prop :=
 ∃ ao n c, v = .slice ao n c ∧ n = xs.length ∧ n ≤ c ∧ c ≤ maxLen ∧ (ao = none → c = 0) ∧ ∀ x, ao = some x → ∀ j u, xs[j]? = some u → w.cell? (x.add j) = some (.int .u8 u)
theorem Rd.keep {w w' : World} {v : Value} {xs : List Int} (h : Rd w v xs) (hk : ∀ k, v.ownBlock = some k → k < w.heap.size → w'.heap[k]? = w.heap[k]?) : Rd w' v xs := by
 obtain ⟨ao, n, c, rfl, hn, hc, hmx, h0, hx⟩ := h
 refine ⟨ao, n, c, rfl, hn, hc, hmx, h0, fun x e j u hj => ?_⟩
 subst e
 have h1 := hx x rfl j u hj
 have hb : (x.add j).block = x.block := by unfold Addr.add; split <;> rfl
 rw [← h1]
 apply World.cell?_of_block
 rw [hb]
 exact hk _ rfl (by have := World.block_lt_of_cell? w _ h1; rwa [hb] at this)
theorem Rd.nil (w : World) : Rd w (.slice none 0 0) [] := ⟨none, 0, 0, rfl, rfl, Nat.le_refl _, by decide, fun _ => rfl, fun _ h => by cases h⟩
def Tight (w : World) (v : Value) (xs : List Int) : Prop :=
 (v = .slice none 0 0 ∧ xs = []) ∨
 ∃ x n, v = .slice (some x) n n ∧ n = xs.length ∧ 0 < n ∧ n ≤ maxLen ∧ ∀ j u, xs[j]? = some u → w.cell? (x.add j) = some (.int .u8 u)
theorem Tight.rd {w : World} {v : Value} {xs : List Int} (h : Tight w v xs) : Rd w v xs := by
 rcases h with ⟨rfl, rfl⟩ | ⟨x, n, rfl, hn, h0, hmx, hx⟩
 ·exact Rd.nil w
 ·exact ⟨some x, n, n, rfl, hn, Nat.le_refl _, hmx, fun e => by (cases e), fun y e => by cases e; exact hx⟩
theorem Tight.lt {w : World} {v : Value} {xs : List Int} (h : Tight w v xs) : ∀ k, v.ownBlock = some k → k < w.heap.size := by
 intro k hk
 rcases h with ⟨rfl, rfl⟩ | ⟨x, n, rfl, hn, h0, hmx, hx⟩
 ·simp [Value.ownBlock] at hk
 ·simp [Value.ownBlock] at hk
  subst hk
  have h1 := hx 0 (xs[0]'(by omega)) (by simp)
  have hb : (x.add 0).block = x.block := by unfold Addr.add; split <;> rfl
  have := World.block_lt_of_cell? w _ h1
  rwa [hb] at this
theorem Tight.keep {w w' : World} {v : Value} {xs : List Int} (h : Tight w v xs) (hk : ∀ k, v.ownBlock = some k → w'.heap[k]? = w.heap[k]?) : Tight w' v xs := by
 have hr := (h.rd.keep (w' := w') (fun k e _ => hk k e))
 rcases h with h | ⟨x, n, rfl, hn, h0, hmx, hx⟩
 ·exact .inl h
 ·obtain ⟨ao, n', c, e, hn', hc, _, _, hx'⟩ := hr
  cases e
  exact .inr ⟨x, n, rfl, hn, h0, hmx, hx' x rfl⟩
structure Own (w : World) (g off n cap : Nat) (xs : List Int) : Prop where
 len : xs.length = n
 le : n ≤ cap
 mx : cap ≤ maxLen
 blk : ∃ cur : Array Value, w.heap[g]? = some (.cells cur 5 (0, 0)) ∧ off + cap ≤ cur.size ∧ (cur.toList.drop off).take n = xs.map (Value.int .u8)
def OwnV (w : World) (v : Value) (xs : List Int) : Prop :=
 (v = .slice none 0 0 ∧ xs = []) ∨ ∃ g off n cap, v = .slice (some ⟨g, off, none⟩) n cap ∧ Own w g off n cap xs
theorem Own.lt {w : World} {g off n cap : Nat} {xs : List Int} (h : Own w g off n cap xs) : g < w.heap.size := by
 obtain ⟨cur, hg, _⟩ := h.blk
 exact (Array.getElem?_eq_some_iff.1 hg).1
theorem Own.cell {w : World} {g off n cap : Nat} {xs : List Int} (h : Own w g off n cap xs) : ∀ j u, xs[j]? = some u → w.cell? ⟨g, off + j, none⟩ = some (.int .u8 u) := by
 intro j u hj
 obtain ⟨cur, hg, hs, ht⟩ := h.blk
 have hlt := (List.getElem?_eq_some_iff.1 hj).1
 have e : ((cur.toList.drop off).take n)[j]? = (xs.map (Value.int .u8))[j]? := by rw [ht]
 rw [List.getElem?_take, if_pos (by have := h.len; omega), List.getElem?_drop, List.getElem?_map, hj] at e
 rw [cell_of_row w g (off + j) cur 5 (0, 0) hg]
 simpa using e
theorem Own.rd {w : World} {g off n cap : Nat} {xs : List Int} (h : Own w g off n cap xs) : Rd w (.slice (some ⟨g, off, none⟩) n cap) xs :=
 ⟨_, _, _, rfl, h.len.symm, h.le, h.mx, fun e => by (cases e), fun x e j u hj => by cases e; rw [Addr.add_lit]; exact h.cell j u hj⟩
theorem OwnV.rd {w : World} {v : Value} {xs : List Int} (h : OwnV w v xs) : Rd w v xs := by
 rcases h with ⟨rfl, rfl⟩ | ⟨g, off, n, cap, rfl, h⟩
 ·exact Rd.nil w
 ·exact h.rd
theorem OwnV.lt {w : World} {v : Value} {xs : List Int} (h : OwnV w v xs) : ∀ k, v.ownBlock = some k → k < w.heap.size := by
 intro k hk
 rcases h with ⟨rfl, rfl⟩ | ⟨g, off, n, cap, rfl, h⟩
 ·simp [Value.ownBlock] at hk
 ·simp [Value.ownBlock] at hk
  subst hk
  exact h.lt
theorem Own.keep {w w' : World} {g off n cap : Nat} {xs : List Int} (h : Own w g off n cap xs) (hk : w'.heap[g]? = w.heap[g]?) : Own w' g off n cap xs :=
 ⟨h.len, h.le, h.mx, by rw [hk]; exact h.blk⟩
theorem OwnV.keep {w w' : World} {v : Value} {xs : List Int} (h : OwnV w v xs) (hk : ∀ k, v.ownBlock = some k → w'.heap[k]? = w.heap[k]?) : OwnV w' v xs := by
 rcases h with h | ⟨g, off, n, cap, rfl, h⟩
 ·exact .inl h
 ·exact .inr ⟨g, off, n, cap, rfl, h.keep (hk _ rfl)⟩
theorem Rd.drew {w : World} {v : Value} {xs : List Int} (h : Rd w v xs) : Rd w.drew v xs := h.keep (fun _ _ _ => rfl)
theorem Rd.one (w : World) (b : Int) : Rd (w.alloc (.cells #[.int .u8 b] 5)) (.slice (some ⟨w.heap.size, 0, none⟩) 1 1) [b] := by
 refine ⟨_, _, _, rfl, rfl, Nat.le_refl _, by decide, fun e => by (cases e), fun x e j u hj => ?_⟩
 cases e
 match j, hj with
 | 0, hj =>
  simp at hj
  subst hj
  simp [Addr.add]
end Go.Proofs.YtjfidbifjagnpaaDoor.Ap
namespace Go.Proofs.YtjfidbifjagnpaaDoor
open Go.RowKit
set_option linter.unusedVariables false
set_option maxRecDepth 100000
def Bz (w : World) (b o n : Nat) (e : Nat → Int) : Prop := ∀ j, j < n → w.cell? ⟨b, o + j, none⟩ = some (.int .u8 (e j))
theorem Bz.chg {w w' : World} {b o n : Nat} {e : Nat → Int} (h : Bz w b o n e) (k : Chg w w') : Bz w' b o n e := fun j hj => by
 have h1 := h j hj
 have hb := World.block_lt_of_cell? w _ h1
 have h2 := k.block b hb
 unfold World.cell? at h1 ⊢
 dsimp only at h1 ⊢
 rw [h2]
 exact h1
structure WS (w wr : World) (b6 : Nat) (x : Int) : Prop where
 chg : Chg w wr
 r4 : Ar wr w.heap.size (num 0)
 r6 : Ar wr b6 (num x)
 l6 : w.heap.size < b6
theorem WS.to {w wr u : World} {b6 : Nat} {x : Int} (h : WS w wr b6 x) (k : Chg wr u) : WS w u b6 x := ⟨h.chg.trans k, h.r4.chg k, h.r6.chg k, h.l6⟩
theorem WS.row {w wr : World} {b6 : Nat} {x : Int} (h : WS w wr b6 x) (y : Int) : WS w (wr.setRow b6 (num y)) b6 y := by
 obtain ⟨q0, q1, q2, l⟩ := h
 exact ⟨q0.setRow (by omega) _, q1.rowOther (by omega) _, q2.row _, l⟩
end Go.Proofs.YtjfidbifjagnpaaDoor
namespace Go.Proofs.YtjfidbifjagnpaaDoor
open Go.RowKit
set_option linter.unusedVariables false
set_option maxRecDepth 100000
theorem un36 : Tryd.prog.underlying 23 = some (.slice 5) := by kernel_rfl
theorem i5y : (Tryd.prog.info? 5).map (·.size) = some 1 := by kernel_rfl
def ovr (o n : Nat) (x f : Nat → Int) : Nat → Int := fun j => if o ≤ j ∧ j < o + n then x (j - o) else f j
theorem ay_over (N o n : Nat) (x f : Nat → Int) (h : o + n ≤ N) :
  ((arr .u8 N f).toList.take o ++ (arr .u8 n x).toList ++ (arr .u8 N f).toList.drop (o + (arr .u8 n x).toList.length)).toArray = arr .u8 N (ovr o n x f) := by
 have hl : (arr .u8 N f).toList.length = N := by rw [Array.length_toList, arr_size]
 have hx : (arr .u8 n x).toList.length = n := by rw [Array.length_toList, arr_size]
 rw [hx]
 apply Array.ext_getElem?
 intro j
 rw [List.getElem?_toArray]
 by_cases hN : j < N
 ·rw [arr_get .u8 N _ hN]
  by_cases h1 : j < o
  ·rw [List.append_assoc, List.getElem?_append_left (by rw [List.length_take, hl]; omega), List.getElem?_take, if_pos h1, Array.getElem?_toList, arr_get .u8 N f hN]
   have : ¬ (o ≤ j ∧ j < o + n) := by omega
   simp [ovr, this]
  ·by_cases h2 : j < o + n
   ·rw [List.getElem?_append_left (by rw [List.length_append, List.length_take, hl, hx]; omega), List.getElem?_append_right (by rw [List.length_take, hl]; omega), List.length_take, hl, Nat.min_eq_left (by omega), Array.getElem?_toList, arr_get .u8 n x (by omega)]
    have : o ≤ j ∧ j < o + n := by omega
    simp [ovr, this]
   ·rw [List.getElem?_append_right (by rw [List.length_append, List.length_take, hl, hx]; omega), List.length_append, List.length_take, hl, hx, Nat.min_eq_left (by omega), List.getElem?_drop, Array.getElem?_toList]
    have e : o + n + (j - (o + n)) = j := by omega
    rw [e, arr_get .u8 N f hN]
    have : ¬ (o ≤ j ∧ j < o + n) := by omega
    simp [ovr, this]
 ·rw [List.getElem?_eq_none (by simp only [List.length_append, List.length_take, List.length_drop, hl, hx]; omega)]
  simp [arr, hN]
theorem run_cpY (w : World) (g N o dl dc b s sl sc n : Nat) (f x : Nat → Int) (hd : Ar w g (arr .u8 N f)) (hs : Bz w b s n x) (hn : n = Nat.min sl dl) (hr : o + n ≤ N) :
  (Builtin.copy_ #[23, 23] 3 #[.slice (some ⟨g, o, none⟩) dl dc, .slice (some ⟨b, s, none⟩) sl sc]).run Tryd.prog w = .ok (.int .i64 n) (w.setRow g (arr .u8 N (ovr o n x f))) := by
 obtain ⟨t, hg⟩ := hd
 have hl : (arr .u8 n x).toList.length = n := by rw [Array.length_toList, arr_size]
 have := run_copy_row (P := Tryd.prog) w 23 23 3 5 g o dl dc ⟨b, s, none⟩ sl sc _ t (arr .u8 n x).toList un36 i5y hg (by rw [hl, hn]) (fun j v hv => ?_) (by rw [hl, arr_size]; omega) (fun v hv => (Array.all_eq_true_iff_forall_mem.1 (arr_one .u8 n x)) v (by simpa using hv))
 ·rw [this, ay_over N o n x f hr, hl]
  rfl
 ·have hadd : (⟨b, s, none⟩ : Addr).add j = ⟨b, s + j, none⟩ := by unfold Addr.add; split <;> simp_all
  have hj : j < n := by
   have := (List.getElem?_eq_some_iff.1 hv).1
   omega
  rw [Array.getElem?_toList, arr_get .u8 n x hj] at hv
  rw [hadd, hs j hj, hv]
theorem piece {V : Int} {n at' l : Nat} (hV : 0 ≤ V ∧ V < 256 ^ n) (hl : l = Nat.min (n - at') 32) (ha : at' ≤ n) : byt (ovr 0 l (fun j => dg 256 V (at' + j)) zD) = byt (dg 256 (V / 256 ^ at')) := arr_congr fun j hj => by
 have hp : (0 : Int) < 256 ^ at' := Int.pow_pos (by decide)
 have e : dg 256 V (at' + j) = dg 256 (V / 256 ^ at') j := by
  unfold dg
  rw [Int.pow_add, Int.ediv_ediv_of_nonneg (by omega)]
 unfold ovr
 by_cases h : j < l
 ·rw [if_pos (by omega), Nat.sub_zero]
  exact e
 ·rw [if_neg (by omega), ← e]
  unfold dg
  have hn : n ≤ at' + j := by
   have : l = min (n - at') 32 := hl
   omega
  obtain ⟨k, hk⟩ : ∃ k, at' + j = n + k := ⟨at' + j - n, by omega⟩
  have h1 : (1 : Int) ≤ 256 ^ k := Int.pow_pos (by decide)
  have h2 : (256 : Int) ^ n * 1 ≤ 256 ^ n * 256 ^ k := Int.mul_le_mul_of_nonneg_left h1 (Int.le_of_lt (Int.pow_pos (by decide)))
  rw [hk, Int.pow_add, Int.ediv_eq_zero_of_lt hV.1 (by omega)]
  rfl
theorem low32b (x : Int) : val 256 32 (dg 256 x) = x % R256 := by
 rw [val_dg (by decide), show (256 : Int) ^ 32 = R256 from by decide +kernel]
theorem up32 (V : Int) (k : Nat) : V / 256 ^ (32 * k) = V / 256 ^ (32 * k) % R256 + R256 * (V / 256 ^ (32 * (k + 1))) := by
 have hp : (0 : Int) < 256 ^ (32 * k) := Int.pow_pos (by decide)
 rw [show 32 * (k + 1) = 32 * k + 32 by omega, Int.pow_add, ← Int.ediv_ediv_of_nonneg (by omega), show (256 : Int) ^ 32 = R256 from by decide +kernel]
 generalize V / 256 ^ (32 * k) = y
 have := Int.emod_add_mul_ediv y R256
 omega
theorem md_join (f x y : Int) : md f (x + R256 * md f y) = md f (x + R256 * y) := by
 by_cases hf : f = 1 ∨ f = 2 ∨ f = 3 ∨ f = 4
 ·rw [md_in hf, md_in hf, md_in hf, Int.add_emod, Int.mul_emod, Int.emod_emod_of_dvd _ (Int.dvd_refl _), ← Int.mul_emod, ← Int.add_emod]
 ·rw [md_out hf, md_out hf]
end Go.Proofs.YtjfidbifjagnpaaDoor
namespace Go.Proofs.YtjfidbifjagnpaaDoor
open Go.RowKit
set_option linter.unusedVariables false
set_option maxRecDepth 100000
theorem join_N512 {a b : Int} (ha : N256 a) (hb : N256 b) : N512 (a + R256 * b) := by
 have hb2 := hb.2
 have h : R256 * b ≤ R256 * (R256 - 1) := Int.mul_le_mul_of_nonneg_left (by omega) (by decide)
 have e : R256 * (R256 - 1) + R256 ≤ R512 := by decide +kernel
 have h0 : 0 ≤ R256 * b := Int.mul_nonneg (by decide) hb.1
 have a0 := ha.1
 have a1 := ha.2
 exact ⟨by omega, by omega⟩
theorem addr_addY (b o p : Nat) : (⟨b, o, none⟩ : Addr).add p = ⟨b, o + p, none⟩ := by unfold Addr.add; split <;> simp_all
theorem run_sliceArrY {t n : Nat} (hu : Tryd.prog.underlying t = some (.array n 5)) (hn : 0 < n) (b : Nat) (w : World) : (Instr.sliceAt t (.pointer (some ⟨b, 0, none⟩)) none none none).run Tryd.prog w = .ok (.slice (some ⟨b, 0, none⟩) n n) w := by
 have h6 : ¬ n = 0 := by omega
 simp [go_sem, Instr.sliceAt, Instr.sliceBounds, run_underlying hu, Sem.run_bind]
theorem run_sliceLoY (b o n cap p : Nat) (hp : p ≤ n) (hn : n ≤ cap) (hc : cap ≤ 9223372036854775807) (hne : ¬ cap = p) (w : World) : (Instr.sliceAt 23 (.slice (some ⟨b, o, none⟩) n cap) (some (.int .i64 (p : Int))) none none).run Tryd.prog w = .ok (.slice (some ⟨b, o + p, none⟩) (n - p) (cap - p)) w := by
 have h1 : (p : Int) ≤ n := by omega
 refine (run_sliceAt_slice w 23 _ _ _ _ (by kernel_rfl)).trans ?_
 simp [Instr.slice, Instr.sliceBounds, Instr.sliceBound, run_underlying un36, asIntOf, Sem.run_bind, hp, hne, addr_addY]
set_option maxHeartbeats 16000000 in
theorem wide_any (f V : Int) (b o n c : Nat) (hV : 0 ≤ V ∧ V < 256 ^ n) (hn : n ≤ 140737488355328) (hnc : n ≤ c) (hc9 : c ≤ 9223372036854775807) (w : World) (hz0 : Bz w b o n (dg 256 V)) : Calls Tryd.prog 34 #[.int .i64 f, .slice (some ⟨b, o, none⟩) n c] w fun r w' => r = .returned (.agg (num (md f V))) ∧ Chg w w' := by
 have HV : Hid ((0 ≤ V ∧ V < 256 ^ n) ∧ Bz w b o n (dg 256 V) ∧ n ≤ c ∧ c ≤ 9223372036854775807) := ⟨hV, hz0, hnc, hc9⟩
 have hz := zero25.1
 have hzY := zero37.1
 obtain ⟨s, hs⟩ : ∃ s : Int, (n : Int) + 31 = s := ⟨_, rfl⟩
 have ws := wrap_i (x := s) (by omega) (by omega)
 obtain ⟨N, hN⟩ : ∃ N : Nat, s.tdiv 32 = N := ⟨(n + 31) / 32, by rw [Int.tdiv_eq_ediv_of_nonneg (by omega)]; omega⟩
 have hN' : N = (n + 31) / 32 := by rw [Int.tdiv_eq_ediv_of_nonneg (by omega)] at hN; omega
 have wN := wrap_i (x := (N : Int)) (by omega) (by omega)
 have HN : Hid (N = (n + 31) / 32) := hN'
 have HnB : Hid (n ≤ 140737488355328) := hn
 clear hV hz0 hnc hc9 hN'
 go_enter Tryd.func34, Tryd.ntmps34
 go_wp2_with fail
 obtain ⟨w2, hw2⟩ : ∃ w2, w2 = (w.alloc (.cells (num 0) 32)).alloc (.cells (num 0) 32) := ⟨_, rfl⟩
 have Z2 : Hid (Chg w w2 ∧ Ar w2 w.heap.size (num 0) ∧ Ar w2 (w.heap.size + 1) (num (md f (V / 256 ^ (32 * (N - 0)))))) := by
  have e : md f (V / 256 ^ (32 * (N - 0))) = 0 := by
   obtain ⟨k, hk⟩ : ∃ k, 32 * (N - 0) = n + k := ⟨32 * N - n, by have := HN.out; omega⟩
   have h1 : (1 : Int) ≤ 256 ^ k := Int.pow_pos (by decide)
   have h2 : (256 : Int) ^ n * 1 ≤ 256 ^ n * 256 ^ k := Int.mul_le_mul_of_nonneg_left h1 (Int.le_of_lt (Int.pow_pos (by decide)))
   have h3 := HV.out.1.2
   rw [hk, Int.pow_add, Int.ediv_eq_zero_of_lt HV.out.1.1 (by omega)]
   by_cases hf : f = 1 ∨ f = 2 ∨ f = 3 ∨ f = 4
   ·rw [md_in hf]
    exact Int.zero_emod _
   ·exact md_out hf _
  rw [e, hw2]
  exact ⟨((Chg.refl w).alloc _).alloc _, (Ar.new w _ _).alloc _, Ar.new1 w _ _ _⟩
 rw [← hw2]
 clear hw2 hs ws wN hN hn
 go_loopw [15] (fun v wr => ∃ (i : Nat), v = .int .i64 i ∧ i ≤ N ∧ Chg w wr ∧ Ar wr w.heap.size (num 0) ∧ Ar wr (w.heap.size + 1) (num (md f (V / 256 ^ (32 * (N - i)))))) (fun v wr => N - (intOf v).toNat)
 case atStart => exact ⟨0, rfl, by omega, Z2.out⟩
 case round =>
  clear Z2
  obtain ⟨i, rfl, hi, hch, h1, h2⟩ := hrel
  have Z : Hid (Chg w wr ∧ Ar wr w.heap.size (num 0) ∧ Ar wr (w.heap.size + 1) (num (md f (V / 256 ^ (32 * (N - i)))))) := ⟨hch, h1, h2⟩
  clear hch h1 h2
  by_cases hlt : i < N
  ·have hN2 := HN.out
   have hnB := HnB.out
   have hNB : N ≤ 140737488355328 := by omega
   have hd : decide ((i : Int) < N) = true := by simp; omega
   have li : (i : Int) < N := by omega
   obtain ⟨n1, hn1⟩ : ∃ n1 : Nat, (N : Int) - 1 = n1 := ⟨N - 1, by omega⟩
   have wn1 := wrap_i (x := (n1 : Int)) (by omega) (by omega)
   obtain ⟨k, hk⟩ : ∃ k : Nat, (n1 : Int) - i = k := ⟨n1 - i, by omega⟩
   have wk := wrap_i (x := (k : Int)) (by omega) (by omega)
   obtain ⟨p, hp⟩ : ∃ p : Nat, 32 * (k : Int) = p := ⟨32 * k, by omega⟩
   have wp' := wrap_i (x := (p : Int)) (by omega) (by omega)
   have hpn : p < n := by omega
   have hp2 : p = 32 * k := by omega
   have hki : N - i = k + 1 := by omega
   have hki2 : N - (i + 1) = k := by omega
   obtain ⟨l, hl⟩ : ∃ l, l = Nat.min (n - p) 32 := ⟨_, rfl⟩
   have hl2 : l ≤ 32 := by rw [hl]; exact Nat.min_le_right _ _
   obtain ⟨x, hx⟩ : ∃ x, x = V / 256 ^ p := ⟨_, rfl⟩
   obtain ⟨h, hh⟩ : ∃ h, h = md f (V / 256 ^ (32 * (k + 1))) := ⟨_, rfl⟩
   have hhN : N256 h := by rw [hh]; exact md_N f _
   rw [hki, ← hh] at Z
   have HX : Hid (md f (x % R256 + R256 * h) = md f (V / 256 ^ (32 * k))) := by
    show md f (x % R256 + R256 * h) = _
    rw [hh, md_join, hx, hp2, ← up32]
   have hlN : N256 (x % R256) := ⟨Int.emod_nonneg _ (by decide), Int.emod_lt_of_pos _ (by decide)⟩
   obtain ⟨PT, hPT⟩ : ∃ A, A = byt (dg 256 x) := ⟨_, rfl⟩
   obtain ⟨LO, hLO⟩ : ∃ A, A = num (x % R256) := ⟨_, rfl⟩
   obtain ⟨HI, hHI⟩ : ∃ A, A = num h := ⟨_, rfl⟩
   obtain ⟨WD, hWD⟩ : ∃ A, A = wid (x % R256 + R256 * h) := ⟨_, rfl⟩
   obtain ⟨X, hX⟩ : ∃ A, A = num (md f (x % R256 + R256 * h)) := ⟨_, rfl⟩
   have HK : Hid ((∀ u, Calls Tryd.prog 16 #[.agg PT] u fun r w' => r = .returned (.agg LO) ∧ Chg u w') ∧ (∀ u, Calls Tryd.prog 56 #[.agg LO, .agg HI] u fun r w' => r = .returned (.agg WD) ∧ Chg u w') ∧ (∀ u, Calls Tryd.prog 48 #[.int .i64 f, .agg WD] u fun r w' => r = .returned (.agg X) ∧ Chg u w')) := by
    rw [hPT, hLO, hHI, hWD, hX]
    refine ⟨fun u => ?_, fun u => join_num _ _ hlN hhN u, fun u => reduceM_any f _ (join_N512 hlN hhN) u⟩
    rw [← low32b]
    exact fromLE_any _ (fun i => dg_bound (by decide) x i) u
   have HPc : Hid (byt (ovr 0 l (fun j => dg 256 V (p + j)) zD) = PT) := by
    show byt _ = PT
    rw [hPT, hx]
    exact piece HV.out.1 hl (by omega)
   have iPT : (Tryd.prog.info? 22).map (·.size) = some PT.toList.length := by rw [hPT]; exact infoY _
   have iHI : (Tryd.prog.info? 32).map (·.size) = some HI.toList.length := by rw [hHI]; exact infoN _
   have HSX : Hid (((Tryd.prog.info? 32).map (·.size) = some X.size ∧ X.all (·.oneCell') = true) ∧ X = num (md f (V / 256 ^ (32 * k))) ∧ HI = num h) := ⟨⟨by rw [hX]; exact szN _, by rw [hX]; exact num_one _⟩, by rw [hX, HX.out], hHI⟩
   rw [← hHI] at Z
   have HJ : Hid (N - (i + 1) = k ∧ l ≤ 32 ∧ l = Nat.min (n - p) 32 ∧ p < n) := ⟨hki2, hl2, hl, hpn⟩
   clear hPT hLO hHI hWD hX hlN hhN hx hh hki hki2 hp2 hl hl2 hN2 hnB hpn
   go_upto_region 8 with fail
   obtain ⟨b9, hb9⟩ : ∃ b, b = wr.heap.size := ⟨_, rfl⟩
   obtain ⟨w6, hw6⟩ : ∃ v, v = wr.alloc (.cells (byt zD) 22) := ⟨_, rfl⟩
   have Z6 : Hid ((Chg w w6 ∧ Ar w6 w.heap.size (num 0) ∧ Ar w6 (w.heap.size + 1) HI) ∧ Ar w6 b9 (byt zD) ∧ w.heap.size + 1 < b9) := by
    have l1 := Z.out.2.2.lt
    rw [hw6, hb9]
    exact ⟨⟨Z.out.1.alloc _, Z.out.2.1.alloc _, Z.out.2.2.alloc _⟩, Ar.new wr _ _, l1⟩
   rw [← hw6, ← hb9]
   clear hw6 hb9 Z
   have hs1 : ∀ u, (Instr.sliceAt 22 (.pointer (some ⟨b9, 0, none⟩)) none none none).run Tryd.prog u = .ok (.slice (some ⟨b9, 0, none⟩) 32 32) u := run_sliceArrY un37 (by decide) _
   have hs2 : ∀ u, (Instr.sliceAt 23 (.slice (some ⟨b, o, none⟩) n c) (some (.int .i64 (p : Int))) none none).run Tryd.prog u = .ok (.slice (some ⟨b, o + p, none⟩) (n - p) (c - p)) u := run_sliceLoY b o n c p (by have := HJ.out.2.2.2; omega) HV.out.2.2.1 HV.out.2.2.2 (by have := HJ.out.2.2.2; have := HV.out.2.2.1; omega)
   have hcp := run_cpY w6.drew b9 32 0 32 32 b (o + p) (n - p) (c - p) l zD (fun j => dg 256 V (p + j)) Z6.out.2.1.drew (fun j hj => by
    have h3 := (HV.out.2.1.chg Z6.out.1.1) (p + j) (by
     have h1 : l = min (n - p) 32 := HJ.out.2.2.1
     omega)
    rw [← Nat.add_assoc] at h3
    exact h3) HJ.out.2.2.1 (by have := HJ.out.2.1; omega)
   rw [show arr .u8 32 (ovr 0 l (fun j => dg 256 V (p + j)) zD) = PT from HPc.out] at hcp
   go_cut [27] from 23 to 27 (fun v wc => (Chg w wc ∧ Ar wc w.heap.size (num 0) ∧ Ar wc (w.heap.size + 1) HI) ∧ Ar wc b9 PT)
   case first =>
    go_region_with (fail)
    all_goals go_wp2
    all_goals
     go_meet
     obtain ⟨⟨k0, k1, k2⟩, k3, k4⟩ := Z6.out
     exact ⟨⟨k0.drew.setRow (by omega) _, k1.drew.rowOther (by omega) _, k2.drew.rowOther (by omega) _⟩, k3.drew.row _⟩
   obtain ⟨w7, hw7⟩ : ∃ v, v = wc := ⟨_, rfl⟩
   have Z7 : Hid ((Chg w w7 ∧ Ar w7 w.heap.size (num 0) ∧ Ar w7 (w.heap.size + 1) HI) ∧ Ar w7 b9 PT) := by rw [hw7]; exact hcut
   rw [← hw7]
   clear hw7 hcut Z6 hs1 hs2 hcp
   go_upto_region 9 with fail
   refine wp_region_good 6 (fun j v wg => match j with
    | 0 => v = .int .i64 f
    | 1 => v = .agg PT
    | 2 => v = .agg LO
    | 3 => v = .agg HI
    | 4 => v = .agg WD
    | 5 => v = .agg X
    | _ => True) (by kernel_rfl) (by kernel_rfl) (by kernel_rfl) (by kernel_rfl) (by kernel_rfl) ?_ ?_ ?_
   ·intro j v u1 u2 h hc
    match j, h with
    | 0, h => exact h
    | 1, h => exact h
    | 2, h => exact h
    | 3, h => exact h
    | 4, h => exact h
    | 5, h => exact h
    | _ + 6, h => exact trivial
   ·intro i o ac u hi ho hsz hf hg hc
    have hcs : i = 0 ∨ i = 1 ∨ i = 2 ∨ i = 3 ∨ i = 4 ∨ i = 5 := by omega
    rcases hcs with rfl | rfl | rfl | rfl | rfl | rfl
    ·injection ho with ho
     subst ho
     refine .inl ⟨wanted_none rfl, ?_⟩
     have e1 : ac.eval (.tmp 0) = .int .i64 f := hf 0 (by kernel_rfl)
     exact opG_val (by simp [execOp, e1]) rfl (Chg.refl _)
    ·injection ho with ho
     subst ho
     refine .inl ⟨wanted_none rfl, ?_⟩
     have e1 : ac.eval (.tmp 9) = .pointer (some ⟨b9, 0, none⟩) := hf 9 (by kernel_rfl)
     exact wp_load_mid 22 (.tmp 9) rfl _ _ e1 (PT.toList) _ (rangeA (Ar.chg (w := w7.drew) Z7.out.2 hc)) un37 rfl iPT ⟨_, rfl, rfl, Chg.refl _⟩
    ·injection ho with ho
     subst ho
     refine .inl ⟨wanted_none rfl, ?_⟩
     have e1 : ac.eval (.tmp 29) = .agg PT := hg 1 (by kernel_rfl) (by decide)
     refine opG_go 16 Tryd.f16 #[.tmp 29] #[22] rfl Tryd.func16 (by kernel_rfl) (by kernel_rfl) (by simp [e1]) (Calls.mono (HK.out.1 _) ?_)
     rintro e u2 ⟨rfl, hc2⟩
     exact ⟨_, rfl, rfl, hc2⟩
    ·injection ho with ho
     subst ho
     refine .inl ⟨wanted_none rfl, ?_⟩
     have e1 : ac.eval (.tmp 5) = .pointer (some ⟨w.heap.size + 1, 0, none⟩) := hf 5 (by kernel_rfl)
     exact wp_load_mid 32 (.tmp 5) rfl _ _ e1 (HI.toList) _ (rangeA (Ar.chg (w := w7.drew) Z7.out.1.2.2 hc)) undNum rfl iHI ⟨_, rfl, rfl, Chg.refl _⟩
    ·injection ho with ho
     subst ho
     refine .inl ⟨wanted_none rfl, ?_⟩
     have e1 : ac.eval (.tmp 30) = .agg LO := hg 2 (by kernel_rfl) (by decide)
     have e2 : ac.eval (.tmp 31) = .agg HI := hg 3 (by kernel_rfl) (by decide)
     refine opG_go 56 Tryd.f56 #[.tmp 30, .tmp 31] #[32, 32] rfl Tryd.func56 (by kernel_rfl) (by kernel_rfl) (by simp [e1, e2]) (Calls.mono (HK.out.2.1 _) ?_)
     rintro e u2 ⟨rfl, hc2⟩
     exact ⟨_, rfl, rfl, hc2⟩
    ·injection ho with ho
     subst ho
     refine .inl ⟨wanted_none rfl, ?_⟩
     have e1 : ac.eval (.tmp 28) = .int .i64 f := hg 0 (by kernel_rfl) (by decide)
     have e2 : ac.eval (.tmp 32) = .agg WD := hg 4 (by kernel_rfl) (by decide)
     refine opG_go 48 Tryd.f48 #[.tmp 28, .tmp 32] #[37, 75] rfl Tryd.func48 (by kernel_rfl) (by kernel_rfl) (by simp [e1, e2]) (Calls.mono (HK.out.2.2 _) ?_)
     rintro e u2 ⟨rfl, hc2⟩
     exact ⟨_, rfl, rfl, hc2⟩
   ·intro o u V ho hV hc
    injection ho with ho
    subst ho
    refine ⟨rfl, ?_⟩
    have q28 : V 0 = .int .i64 f := hV 0 (by decide)
    have q29 : V 1 = .agg PT := hV 1 (by decide)
    have q30 : V 2 = .agg LO := hV 2 (by decide)
    have q31 : V 3 = .agg HI := hV 3 (by decide)
    have q32 : V 4 = .agg WD := hV 4 (by decide)
    have q33 : V 5 = .agg X := hV 5 (by decide)
    have hres := Ar.chg (w := w7.drew) Z7.out.1.2.2 hc
    rw [HSX.out.2.2] at hres
    refine wp_store_mid 32 (.tmp 5) (.tmp 33) rfl (w.heap.size + 1) 0 X (by rfl) (Eq.trans (by rfl) q33) (by rw [HSX.out.2.1, num_size]; exact thereN hres) HSX.out.1.1 HSX.out.1.2 ?_
    rw [show u.setCells (w.heap.size + 1) 0 X.toList = u.setRow (w.heap.size + 1) X by rw [HSX.out.2.1]; exact setRowN hres _]
    obtain ⟨w8, hw8⟩ : ∃ v, v = u.setRow (w.heap.size + 1) X := ⟨_, rfl⟩
    have Z8 : Hid (Chg w w8 ∧ Ar w8 w.heap.size (num 0) ∧ Ar w8 (w.heap.size + 1) X) := by
     rw [hw8]
     exact ⟨(Z7.out.1.1.drew.trans hc).setRow (by omega) _, (Ar.chg (w := w7.drew) Z7.out.1.2.1 hc).rowOther (by omega) _, hres.row _⟩
    rw [← hw8]
    clear hw8 hres Z7 hc
    change Exit.inBlock 1 _ Exit.normal (Act.mk #[.int .i64 f, .slice (some ⟨b, o, none⟩) n c, undef, undef, .pointer (some ⟨w.heap.size, 0, none⟩), .pointer (some ⟨w.heap.size + 1, 0, none⟩), .int .i64 N, .int .i64 i, .int .i64 p, .pointer (some ⟨b9, 0, none⟩), .slice (some ⟨b, o, none⟩) n c, .int .i64 n, .int .i64 s, .int .i64 N, .int .i64 N, .int .i64 i, .bool true, .int .i64 i, .int .i64 N, .int .i64 n1, .int .i64 i, .int .i64 k, .int .i64 p, u23, u24, u25, u26, u27, V 0, V 1, V 2, V 3, V 4, V 5, u34, undef] []) w8
    clear q28 q29 q30 q31 q32 q33 hV
    generalize V 0 = y0
    generalize V 1 = y1
    generalize V 2 = y2
    generalize V 3 = y3
    generalize V 4 = y4
    generalize V 5 = y5
    clear V
    go_wp2_with fail
    go_roundw
    case rel =>
     refine ⟨i + 1, by go_num, by omega, Z8.out.1, Z8.out.2.1, ?_⟩
     rw [HJ.out.1, ← HSX.out.2.1]
     exact Z8.out.2.2
    case measure => simp [intOf]; omega
  ·have : i = N := by omega
   subst this
   rw [Nat.sub_self, Nat.mul_zero, Int.pow_zero, Int.ediv_one] at Z
   have r6 := rangeN Z.out.2.2
   have i6 := infoN (md f V)
   obtain ⟨t4, g4⟩ := Z.out.2.1
   have sX := szN (md f V)
   have lX := lenN 0 (md f V)
   have oX := num_one (md f V)
   obtain ⟨Q, hQ⟩ : ∃ P, P = num (md f V) := ⟨_, rfl⟩
   have HQ : Hid (Q = num (md f V)) := hQ
   rw [← hQ] at r6 i6 sX lX oX
   clear hQ
   go_wp2_with (first
    | refine wpList_load_mid rfl 32 (.tmp 5) rfl _ _ rfl (Q.toList) _ r6 undNum rfl i6 ?_
    | refine wpList_store_row rfl 32 _ _ rfl _ _ rfl rfl _ _ g4 sX lX oX ?_)
   rw [HQ.out]
   refine bp_n (x := md f V) Tryd.results34 rfl rfl ?_ ⟨rfl, Z.out.1.setRow (by omega) _⟩
   exact Z.out.2.1.row _
end Go.Proofs.YtjfidbifjagnpaaDoor
namespace Go.Proofs.YtjfidbifjagnpaaDoor
open Go.RowKit
set_option linter.unusedVariables false
set_option maxRecDepth 100000
end Go.Proofs.YtjfidbifjagnpaaDoor
