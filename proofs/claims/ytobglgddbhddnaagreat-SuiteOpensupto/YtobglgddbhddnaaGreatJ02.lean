/-
  Slices of bytes that are read, words that are made, bytes that are copied.
  Append among the walks of this seat; bytes that a slice shows, by their numbers.
  A region that draws its order and whose last operation waits for all the others: whatever the order, each operation yields one value, and the last one comes last.
-/
import Derived.Test.YtobglgddbhddnaaGreatJ01
import Derived.Deep.MidRow
import Derived.Laws.MakeOwn
import Derived.Laws.CopyOwn
import Derived.Test.YtobglgddbhddnaaGreatJ00
namespace Go.Proofs.YtobglgddbhddnaaGreat
open Go.RowKit
set_option linter.unusedVariables false

theorem u22 : Tryz.prog.underlying 24 = some (.slice 5) := by kernel_rfl
theorem u44 : Tryz.prog.underlying 97 = some (.slice 70) := by kernel_rfl
theorem i5 : (Tryz.prog.info? 5).map (·.size) = some 1 := by kernel_rfl

/-- Bytes that lie in a row. -/
def Bs (w : World) (b o n : Nat) (f : Nat → By) : Prop := ∀ j, j < n → w.cell? ⟨b, o + j, none⟩ = some (.int .u8 ((f j).toNat : Int))
theorem block_lt_of_cell {w : World} {b o : Nat} {v : Value} (h : w.cell? ⟨b, o, none⟩ = some v) : b < w.heap.size := World.block_lt_of_cell? w _ h
theorem Bs.chg {w w' : World} {b o n : Nat} {f : Nat → By} (h : Bs w b o n f) (k : Chg w w') : Bs w' b o n f := fun j hj => by
  rw [← h j hj]
  exact World.cell?_of_block (k.block b (block_lt_of_cell (h j hj)))

theorem mk44 (n : Nat) (hn : n ≤ 1000) (w : World) : (Instr.makeSlice 97 (.int .i64 n) (.int .i64 n)).run Tryz.prog w = .ok (.slice (some ⟨w.heap.size, 0, none⟩) n n) (w.alloc (.cells (ba (4 * n) zB) 70)) := by
  have hi : (Tryz.prog.info? 70).map (fun i => (i.zero, i.size, i.bytes)) = some (some (.agg (ba 4 zB)), 4, 4) := by kernel_rfl
  cases hq : Tryz.prog.info? 70 with
  | none => rw [hq] at hi; cases hi
  | some i =>
    rw [hq] at hi
    have hi := Option.some.inj hi
    have h1 : i.zero = some (.agg (ba 4 zB)) := congrArg (·.1) hi
    have h2 : i.size = 4 := congrArg (·.2.1) hi
    have h3 : i.bytes = 4 := congrArg (·.2.2) hi
    have := run_make (P := Tryz.prog) w 97 70 i _ u44 hq h1 .i64 .i64 n n (by omega) (by omega) (by rw [h3]; omega) (by omega)
    rw [this, h2]
    have e : madeCells (Value.agg (ba 4 zB)).cells ((n : Int).toNat * 4) = ba (4 * n) zB := by
      apply Array.ext_getElem?
      intro j
      have hz : (Value.agg (ba 4 zB)).cells = ba 4 zB := rfl
      rw [hz]
      by_cases hj : j < 4 * n
      · rw [ba_get _ _ hj]
        have hj' : j < n * 4 := by omega
        simp only [madeCells, Int.toNat_natCast, ba_size]
        simp [hj', ba, arr, zB, Nat.mod_lt]
      · have hj' : ¬ j < n * 4 := by omega
        simp [madeCells, ba, arr, hj, hj']
    rw [e]
    simp
theorem mk22 (n : Nat) (hn : n ≤ 140737488351232) (w : World) : (Instr.makeSlice 24 (.int .i64 n) (.int .i64 n)).run Tryz.prog w = .ok (.slice (some ⟨w.heap.size, 0, none⟩) n n) (w.alloc (.cells (ba n zB) 5)) := by
  have hi : (Tryz.prog.info? 5).map (fun i => (i.zero, i.size, i.bytes)) = some (some (.int .u8 0), 1, 1) := by kernel_rfl
  cases hq : Tryz.prog.info? 5 with
  | none => rw [hq] at hi; cases hi
  | some i =>
    rw [hq] at hi
    have hi := Option.some.inj hi
    have h1 : i.zero = some (.int .u8 0) := congrArg (·.1) hi
    have h2 : i.size = 1 := congrArg (·.2.1) hi
    have h3 : i.bytes = 1 := congrArg (·.2.2) hi
    have := run_make (P := Tryz.prog) w 24 5 i _ u22 hq h1 .i64 .i64 n n (by omega) (by omega) (by rw [h3]; omega) (by omega)
    rw [this, h2]
    have e : madeCells (Value.int .u8 0).cells ((n : Int).toNat * 1) = ba n zB := by
      apply Array.ext_getElem?
      intro j
      by_cases hj : j < n
      · simp [madeCells, ba, arr, zB, Value.cells, hj, Nat.mod_one]
      · simp [madeCells, ba, arr, zB, Value.cells, hj]
    rw [e]
    simp

/-- Bytes laid over others. -/
def over (o n : Nat) (x f : Nat → By) : Nat → By := fun j => if o ≤ j ∧ j < o + n then x (j - o) else f j
theorem ba_over (N o n : Nat) (x f : Nat → By) (h : o + n ≤ N) :
    ((ba N f).toList.take o ++ (ba n x).toList ++ (ba N f).toList.drop (o + (ba n x).toList.length)).toArray = ba N (over o n x f) := by
  have hl : (ba N f).toList.length = N := by rw [Array.length_toList, ba_size]
  have hx : (ba n x).toList.length = n := by rw [Array.length_toList, ba_size]
  rw [hx]
  apply Array.ext_getElem?
  intro j
  rw [List.getElem?_toArray]
  by_cases hN : j < N
  · rw [ba_get N _ hN]
    by_cases h1 : j < o
    · rw [List.append_assoc, List.getElem?_append_left (by rw [List.length_take, hl]; omega), List.getElem?_take, if_pos h1, Array.getElem?_toList, ba_get N f hN]
      have : ¬ (o ≤ j ∧ j < o + n) := by omega
      simp [over, this]
    · by_cases h2 : j < o + n
      · rw [List.getElem?_append_left (by rw [List.length_append, List.length_take, hl, hx]; omega), List.getElem?_append_right (by rw [List.length_take, hl]; omega), List.length_take, hl, Nat.min_eq_left (by omega), Array.getElem?_toList, ba_get n x (by omega)]
        have : o ≤ j ∧ j < o + n := by omega
        simp [over, this]
      · rw [List.getElem?_append_right (by rw [List.length_append, List.length_take, hl, hx]; omega), List.length_append, List.length_take, hl, hx, Nat.min_eq_left (by omega), List.getElem?_drop, Array.getElem?_toList]
        have e : o + n + (j - (o + n)) = j := by omega
        rw [e, ba_get N f hN]
        have : ¬ (o ≤ j ∧ j < o + n) := by omega
        simp [over, this]
  · rw [List.getElem?_eq_none (by simp only [List.length_append, List.length_take, List.length_drop, hl, hx]; omega)]
    simp [ba, arr, hN]

/-- copy, into a row of bytes. -/
theorem run_cp (w : World) (g N o dl dc b s sl sc n : Nat) (f x : Nat → By) (hd : Ar w g (ba N f)) (hs : Bs w b s n x) (hn : n = Nat.min sl dl) (hr : o + n ≤ N) :
    (Builtin.copy_ #[24, 24] 3 #[.slice (some ⟨g, o, none⟩) dl dc, .slice (some ⟨b, s, none⟩) sl sc]).run Tryz.prog w = .ok (.int .i64 n) (w.setRow g (ba N (over o n x f))) := by
  obtain ⟨t, hg⟩ := hd
  have hl : (ba n x).toList.length = n := by rw [Array.length_toList, ba_size]
  have := run_copy_row (P := Tryz.prog) w 24 24 3 5 g o dl dc ⟨b, s, none⟩ sl sc _ t (ba n x).toList u22 i5 hg (by rw [hl, hn]) (fun j v hv => ?_) (by rw [hl, ba_size]; omega) (fun v hv => (Array.all_eq_true_iff_forall_mem.1 (ba_one n x)) v (by simpa using hv))
  · rw [this, ba_over N o n x f hr, hl]
    rfl
  · have hadd : (⟨b, s, none⟩ : Addr).add j = ⟨b, s + j, none⟩ := by unfold Addr.add; split <;> simp_all
    have hj : j < n := by
      have := (List.getElem?_eq_some_iff.1 hv).1
      omega
    rw [Array.getElem?_toList, ba_get n x hj] at hv
    rw [hadd, hs j hj, hv]
end Go.Proofs.YtobglgddbhddnaaGreat

namespace Go.Proofs.YtobglgddbhddnaaGreat
open Go.RowKit
set_option linter.unusedVariables false

theorem Chg.ap {w0 w w' : World} {S : Nat → Prop} (h : Chg w0 w) (k : Ap.Chg S w w') (hS : ∀ i, S i → w0.heap.size ≤ i) : Chg w0 w' :=
  ⟨k.os.trans h.os, k.tape.trans h.tape, k.output.trans h.output, Nat.le_trans h.size k.size, fun i hi =>
    (k.block i (Nat.lt_of_lt_of_le hi h.size) (fun e => by have := hS i e; omega)).trans (h.block i hi)⟩
theorem Ar.ap {w w' : World} {b : Nat} {c : Array Value} {S : Nat → Prop} (h : Ar w b c) (k : Ap.Chg S w w') (hn : ¬ S b) : Ar w' b c := by
  have hl := h.lt
  obtain ⟨t, h⟩ := h
  exact ⟨t, (k.block b hl hn).trans h⟩
theorem Chg.non {w w' : World} (h : Ap.Chg Ap.Non w w') : Chg w w' := (Chg.refl w).ap h (fun i e => e.elim)

theorem spot_none {w : World} {a : Addr} {v : Value} (h : w.cell? a = some v) : a.spot = none := by
  unfold World.cell? at h
  cases hs : a.spot with
  | none => rfl
  | some s =>
    exfalso
    revert h
    split
    · simp [hs]
    · simp

theorem Rd.chg {w w' : World} {v : Value} {xs : List Int} (h : Ap.Rd w v xs) (k : Chg w w') : Ap.Rd w' v xs := h.keep (fun i _ hi => k.block i hi)
theorem OwnV.chg {w w' : World} {v : Value} {xs : List Int} (h : Ap.OwnV w v xs) (k : Chg w w') : Ap.OwnV w' v xs := h.keep (fun i e => k.block i (h.lt i e))
theorem OwnV.empty (u : World) : Ap.OwnV (u.alloc (.cells #[] 5)) (.slice (some ⟨u.heap.size, 0, none⟩) 0 0) [] :=
  .inr ⟨_, _, _, _, rfl, rfl, Nat.le_refl _, by decide, #[], heap_alloc_last u _, by simp, by simp⟩

structure OwnN (w : World) (w' : World) (v : Value) (xs : List Int) : Prop where
  own : Ap.OwnV w' v xs
  new : ∀ k, v.ownBlock = some k → w.heap.size ≤ k
  chg : Chg w w'
theorem OwnN.more {w u u' : World} {v v' : Value} {xs ys : List Int} (h : OwnN w u v xs) (h1 : Ap.OwnV u' v' ys) (h2 : Ap.Chg (fun k => v.ownBlock = some k) u u') (h3 : v'.ownBlock = v.ownBlock ∨ v'.ownBlock = some u.heap.size) : OwnN w u' v' ys := by
  refine ⟨h1, fun k e => ?_, h.chg.ap h2 h.new⟩
  rcases h3 with h3 | h3
  · rw [h3] at e
    exact h.new k e
  · rw [h3] at e
    injection e with e
    rw [← e]
    exact h.chg.size
theorem OwnN.alloc {w u : World} {v : Value} {xs : List Int} (h : OwnN w u v xs) (o : Obj) : OwnN w (u.alloc o) v xs :=
  ⟨h.own.keep (fun k e => Below.heap_alloc _ _ _ (h.own.lt k e)), h.new, h.chg.alloc o⟩

/-- Bytes as numbers. -/
def nums (n : Nat) (f : Nat → By) : List Int := (List.range n).map fun i => ((f i).toNat : Int)
theorem nums_len (n : Nat) (f : Nat → By) : (nums n f).length = n := by simp [nums]
theorem nums_get (n : Nat) (f : Nat → By) {j : Nat} (h : j < n) : (nums n f)[j]? = some ((f j).toNat : Int) := by simp [nums, h]
theorem nums_succ (n : Nat) (f : Nat → By) : nums (n + 1) f = nums n f ++ [((f n).toNat : Int)] := by simp [nums, List.range_succ]
theorem nums_congr {n : Nat} {f g : Nat → By} (h : ∀ i, i < n → f i = g i) : nums n f = nums n g := by
  unfold nums
  refine List.map_congr_left fun i hi => ?_
  rw [h i (List.mem_range.1 hi)]

/-- A slice that can be read shows bytes in a row. -/
theorem Rd.bs {w : World} {v : Value} {n : Nat} {f : Nat → By} (h : Ap.Rd w v (nums n f)) (hn : 0 < n) : ∃ b o c, v = .slice (some ⟨b, o, none⟩) n c ∧ n ≤ c ∧ c ≤ 9223372036854775807 ∧ Bs w b o n f := by
  obtain ⟨ao, m, c, rfl, hm, hc, hmx, h0, hx⟩ := h
  rw [nums_len] at hm
  subst hm
  have hm : c ≤ 9223372036854775807 := by simpa [maxLen] using hmx
  cases ao with
  | none => have := h0 rfl; omega
  | some x =>
    have h1 := hx x rfl 0 _ (nums_get m f hn)
    have hs := spot_none h1
    have hs' : x.spot = none := by
      unfold Addr.add at hs
      split at hs
      · assumption
      · simp_all
    obtain ⟨b, o, sp⟩ := x
    dsimp only at hs'
    subst hs'
    refine ⟨b, o, c, rfl, hc, hm, fun j hj => ?_⟩
    have := hx _ rfl j _ (nums_get m f hj)
    have hadd : (⟨b, o, none⟩ : Addr).add j = ⟨b, o + j, none⟩ := by unfold Addr.add; split <;> simp_all
    rwa [hadd] at this
/-- Bytes in a row can be read. -/
theorem Bs.rd {w : World} {b o n c : Nat} {f : Nat → By} (h : Bs w b o n f) (hc : n ≤ c) (hm : c ≤ 9223372036854775807) : Ap.Rd w (.slice (some ⟨b, o, none⟩) n c) (nums n f) := by
  refine ⟨_, n, c, rfl, (nums_len n f).symm, hc, by simpa [maxLen] using hm, (fun e => by cases e), fun x e j u hj => ?_⟩
  injection e with e
  subst e
  have hj' : j < n := by
    have := (List.getElem?_eq_some_iff.1 hj).1
    rwa [nums_len] at this
  rw [nums_get n f hj'] at hj
  injection hj with hj
  have hadd : (⟨b, o, none⟩ : Addr).add j = ⟨b, o + j, none⟩ := by unfold Addr.add; split <;> simp_all
  rw [hadd, h j hj', ← hj]
theorem Ar.bs {w : World} {b n : Nat} {f : Nat → By} (h : Ar w b (ba n f)) : Bs w b 0 n f := fun j hj => by rw [Nat.zero_add]; exact (h.cell j).trans (ba_get n f hj)
end Go.Proofs.YtobglgddbhddnaaGreat

namespace Go.Proofs.YtobglgddbhddnaaGreat
open Go.RowKit
set_option linter.unusedVariables false

def cntF (l : Array Bool) : Nat := (l.toList.filter (fun b => !b)).length
theorem cntF_set (l : List Bool) (i : Nat) (h : l[i]? = some false) : ((l.set i true).filter (fun b => !b)).length < (l.filter (fun b => !b)).length := by
  induction l generalizing i with
  | nil => simp at h
  | cons b l ih =>
    cases i with
    | zero =>
      simp at h
      subst h
      simp
    | succ i =>
      simp at h
      have := ih i h
      cases b <;> simp <;> omega
theorem cntF_zero (l : List Bool) (h : (l.filter (fun b => !b)).length = 0) : ∀ i, i < l.length → l[i]? = some true := by
  intro i hi
  rw [List.length_eq_zero_iff, List.filter_eq_nil_iff] at h
  have := h l[i] (List.getElem_mem hi)
  rw [List.getElem?_eq_getElem hi]
  simpa using this
/-- Does an operation wait for another? -/
def depB (ops : Array Oper) (i j : Nat) : Bool := ((ops[i]?).map fun o => o.after.any fun e => Region.binds .any e && e.on == j).getD false
/-- No operation waits for a later one. -/
def dagB (ops : Array Oper) : Bool := (List.range ops.size).all fun i => ((ops[i]?).map fun o => o.after.all fun e => decide (e.on < i)).getD true

theorem ready_mem {ops : Array Oper} {l : Array Bool} {i : Nat} (h : i ∈ Region.ready .any ops l) : i < ops.size ∧ l.getD i true = false ∧ ∀ j, depB ops i j = true → l.getD j false = true := by
  unfold Region.ready at h
  rw [List.mem_filter, List.mem_range, Bool.and_eq_true] at h
  obtain ⟨h1, h2, h3⟩ := h
  refine ⟨h1, by simpa using h2, fun j hj => ?_⟩
  unfold depB at hj
  cases ho : ops[i]? with
  | none => rw [ho] at hj; cases hj
  | some o =>
    rw [ho] at hj h3
    simp only [Option.map_some, Option.getD_some] at hj h3
    rw [Array.any_eq_true] at hj
    obtain ⟨k, hk, hj⟩ := hj
    rw [Array.all_eq_true] at h3
    have h4 := h3 k hk
    simp only [Bool.and_eq_true, beq_iff_eq] at hj
    rw [hj.1] at h4
    simp only [Bool.not_true, Bool.false_or] at h4
    rw [← hj.2]
    exact h4
theorem ready_nil {ops : Array Oper} {l : Array Bool} (hd : dagB ops = true) (hs : l.size = ops.size) (h : Region.ready .any ops l = []) : ∀ i, i < ops.size → l.getD i false = true := by
  intro i
  induction i using Nat.strongRecOn with
  | ind i ih =>
    intro hi
    unfold Region.ready at h
    rw [List.filter_eq_nil_iff] at h
    have h1 := h i (List.mem_range.2 hi)
    unfold dagB at hd
    rw [List.all_eq_true] at hd
    have h2 := hd i (List.mem_range.2 hi)
    have hil : i < l.size := by omega
    by_cases hb : l[i] = true
    · simp [Array.getD, hil, hb]
    · exfalso
      apply h1
      rw [Bool.and_eq_true]
      refine ⟨by simp [Array.getD, hil, hb], ?_⟩
      rw [Array.getElem?_eq_getElem hi] at h2 ⊢
      simp only [Option.map_some, Option.getD_some] at h2 ⊢
      rw [Array.all_eq_true] at h2 ⊢
      intro k hk
      have h3 := h2 k hk
      rw [decide_eq_true_eq] at h3
      rw [ih _ h3 (by omega)]
      simp

theorem cntF_start (n : Nat) : cntF (Array.replicate n false) ≤ n := by
  unfold cntF
  simp
theorem wpAny_inv2 {P : Program} {ops : Array Oper} {Q : Exit → Act → World → Prop} (I : Array Bool → Act → World → Prop) (hd : dagB ops = true)
    (step : ∀ l a w i, I l a w → i < ops.size → l.size = ops.size → l.getD i false = false → (∀ j, depB ops i j = true → l.getD j false = true) → wpOp P ops Q i (fun a' w' => I (l.setIfInBounds i true) a' w') a w)
    (done : ∀ l a w, I l a w → (∀ i, i < ops.size → l.getD i false = true) → Q .normal a w) :
    ∀ (fuel : Nat) (l : Array Bool) (a : Act) (w : World), l.size = ops.size → cntF l ≤ fuel → I l a w → wpAny P .any ops Q fuel l a w := by
  intro fuel
  induction fuel with
  | zero =>
    intro l a w hs hc hI
    have hz := cntF_zero l.toList (by unfold cntF at hc; omega)
    have hr : Region.ready .any ops l = [] := by
      unfold Region.ready
      rw [List.filter_eq_nil_iff]
      intro i hi
      have hi' := List.mem_range.1 hi
      have := hz i (by simp; omega)
      have hil : i < l.size := by omega
      rw [Array.getElem?_toList, Array.getElem?_eq_getElem hil] at this
      injection this with this
      simp [Array.getD, hil, this]
    exact ⟨hr, done l a w hI (ready_nil hd hs hr)⟩
  | succ fuel ih =>
    intro l a w hs hc hI
    refine ⟨fun hr => done l a w hI (ready_nil hd hs hr), fun i hi => ?_⟩
    obtain ⟨h1, h2, h3⟩ := ready_mem hi
    have hil : i < l.size := by omega
    have h2' : l.getD i false = false := by
      simp only [Array.getD, hil, dif_pos] at h2 ⊢
      exact h2
    refine wpOp_mono (fun a' w' hI' => ih _ a' w' (by rw [Array.size_setIfInBounds]; exact hs) ?_ hI') (step l a w i hI h1 hs h2' h3)
    have hli : l.toList[i]? = some false := by
      rw [Array.getElem?_toList, Array.getElem?_eq_getElem hil]
      simpa [Array.getD, hil] using h2
    have := cntF_set l.toList i hli
    unfold cntF at hc ⊢
    rw [Array.toList_setIfInBounds]
    omega
theorem wp_region_inv2 {P : Program} {id : Nat} {ops : Array Oper} {Q : Exit → Act → World → Prop} {a : Act} {w : World} (hm : P.follows .mixedOrders = true) (I : Array Bool → Act → World → Prop) (hd : dagB ops = true)
    (step : ∀ l a w i, I l a w → i < ops.size → l.size = ops.size → l.getD i false = false → (∀ j, depB ops i j = true → l.getD j false = true) → wpOp P ops Q i (fun a' w' => I (l.setIfInBounds i true) a' w') a w)
    (done : ∀ l a w, I l a w → (∀ i, i < ops.size → l.getD i false = true) → Q .normal a w) (start : I (Array.replicate ops.size false) a w.drew) : (Code.region id ops true).wp P Q a w :=
  wp_region_any hm (wpAny_inv2 I hd step done ops.size _ a _ (by simp) (cntF_start _) start)
theorem getD_set (A : Array Value) (d k : Nat) (v : Value) (h : d < A.size) : (A.setIfInBounds d v).getD k undef = if k = d then v else A.getD k undef := by
  rw [Array.getD_eq_getD_getElem?, Array.getD_eq_getD_getElem?]
  by_cases e : k = d
  · subst e
    rw [if_pos rfl, Array.getElem?_setIfInBounds_self_of_lt h]
    rfl
  · rw [if_neg e, Array.getElem?_setIfInBounds_ne (fun x => e x.symm)]
theorem getB_set (A : Array Bool) (d k : Nat) (v : Bool) (hk : k ≠ d) : (A.setIfInBounds d v).getD k false = A.getD k false := by
  rw [Array.getD_eq_getD_getElem?, Array.getD_eq_getD_getElem?, Array.getElem?_setIfInBounds_ne (fun x => hk x.symm)]
theorem wanted_none {o : Oper} {y : Nat → Option Bool} (h : o.guard = none) : Region.wanted o y = true := by
  unfold Region.wanted
  rw [h]

/-- Each operation but the last has one behind it that waits for it. -/
def succB (ops : Array Oper) (n : Nat) : Bool := (List.range n).all fun i => (List.range (n + 1)).any fun j => decide (i < j) && depB ops j i
def freeB (ops : Array Oper) : Bool := (List.range ops.size).all fun i => ((ops[i]?).map fun o => o.guard.isNone).getD true

theorem all_up {ops : Array Oper} {n : Nat} {l : Array Bool} (hs : succB ops n = true) (hc : ∀ i j, l.getD i false = true → depB ops i j = true → l.getD j false = true) (hl : ∀ j, depB ops n j = true → l.getD j false = true) : ∀ i, i < n → l.getD i false = true := by
  have key : ∀ m i, i < n → n - i ≤ m → l.getD i false = true := by
    intro m
    induction m with
    | zero => intro i hi hm; omega
    | succ m ih =>
      intro i hi hm
      unfold succB at hs
      rw [List.all_eq_true] at hs
      have h1 := hs i (List.mem_range.2 hi)
      rw [List.any_eq_true] at h1
      obtain ⟨j, hj, h2⟩ := h1
      rw [Bool.and_eq_true, decide_eq_true_eq] at h2
      have hj' := List.mem_range.1 hj
      by_cases e : j = n
      · subst e
        exact hl i h2.2
      · exact hc j i (ih j (by omega) (by omega)) h2.2
  exact fun i hi => key n i hi (by omega)

theorem free_of {ops : Array Oper} (h : freeB ops = true) {i : Nat} {o : Oper} (ho : ops[i]? = some o) : o.guard = none := by
  unfold freeB at h
  rw [List.all_eq_true] at h
  have hi : i < ops.size := (Array.getElem?_eq_some_iff.1 ho).1
  have := h i (List.mem_range.2 hi)
  rw [ho] at this
  simpa using this

theorem wp_region_last {P : Program} {id : Nat} {ops : Array Oper} {Q : Exit → Act → World → Prop} {a0 : Act} {w0 : World} (n : Nat) (hm : P.follows .mixedOrders = true) (hn : ops.size = n + 1) (hd : dagB ops = true) (hs : succB ops n = true) (hg : freeB ops = true)
    (I : Array Bool → Act → World → Prop)
    (step : ∀ l a w i o, I l a w → i < n → l.size = n + 1 → (∀ j, depB ops i j = true → l.getD j false = true) → ops[i]? = some o → o.wp P a w (fun a' w' => I (l.setIfInBounds i true) a' w') Q)
    (last : ∀ l a w o, I l a w → (∀ i, i < n → l.getD i false = true) → ops[n]? = some o → o.wp P a w (fun a' w' => Q .normal a' w') Q)
    (start : I (Array.replicate ops.size false) a0 w0.drew) : (Code.region id ops true).wp P Q a0 w0 := by
  refine wp_region_inv2 hm (fun l a w => (∀ i j, l.getD i false = true → depB ops i j = true → l.getD j false = true) ∧ (l.getD n false = true → (∀ i, i < n → l.getD i false = true) ∧ Q .normal a w) ∧ (l.getD n false = false → I l a w)) hd ?_ ?_ ?_
  · intro l a w i ⟨h1, h2, h3⟩ hi hls hli hdep
    have hcl : ∀ a b, (l.setIfInBounds i true).getD a false = true → depB ops a b = true → (l.setIfInBounds i true).getD b false = true := by
      intro p q hp hq
      by_cases ep : p = i
      · subst ep
        by_cases eq : q = p
        · subst eq; exact hp
        · rw [getB_set _ _ _ _ eq]; exact hdep q hq
      · rw [getB_set _ _ _ _ ep] at hp
        by_cases eq : q = i
        · subst eq
          have hx := h1 p q hp hq
          rw [hx] at hli
          cases hli
        · rw [getB_set _ _ _ _ eq]; exact h1 p q hp hq
    have ho : ∃ o, ops[i]? = some o := ⟨ops[i], Array.getElem?_eq_getElem hi⟩
    obtain ⟨o, ho⟩ := ho
    unfold wpOp
    rw [ho]
    simp only [wanted_none (free_of hg ho), if_true]
    refine .inl ?_
    by_cases hnl : l.getD n false = true
    · exfalso
      have := h2 hnl
      by_cases e : i = n
      · subst e; rw [hnl] at hli; cases hli
      · rw [this.1 i (by omega)] at hli; cases hli
    · have hnf : l.getD n false = false := by simpa using hnl
      by_cases e : i = n
      · subst e
        have hall := all_up hs h1 hdep
        refine Oper.wp_mono ?_ (last l a w o (h3 hnf) hall ho)
        intro a' w' hq
        refine ⟨hcl, fun _ => ⟨fun k hk => ?_, hq⟩, fun hx => ?_⟩
        · rw [getB_set _ _ _ _ (by omega)]; exact hall k hk
        · exfalso
          have : (l.setIfInBounds i true).getD i false = true := by
            rw [Array.getD_eq_getD_getElem?, Array.getElem?_setIfInBounds_self_of_lt (by omega)]
            rfl
          rw [this] at hx
          cases hx
      · refine Oper.wp_mono ?_ (step l a w i o (h3 hnf) (by omega) (by omega) hdep ho)
        intro a' w' hI
        refine ⟨hcl, fun hx => ?_, fun _ => hI⟩
        rw [getB_set _ _ _ _ (fun x => e x.symm), hnf] at hx
        cases hx
  · intro l a w ⟨_, h2, _⟩ hall
    exact (h2 (hall n (by omega))).2
  · refine ⟨fun i j hi => ?_, fun h => ?_, fun _ => start⟩
    · exfalso
      rw [Array.getD_eq_getD_getElem?] at hi
      by_cases e : i < ops.size
      · simp [e] at hi
      · simp [e] at hi
    · exfalso
      rw [Array.getD_eq_getD_getElem?] at h
      by_cases e : n < ops.size
      · simp [e] at h
      · simp [e] at h

/-! One value for each slot. -/
def dstOf (ops : Array Oper) (j : Nat) : Nat := ((ops[j]?).bind (·.dst)).getD 0
def slotsB (ops : Array Oper) (n size : Nat) : Bool := (List.range n).all fun i => ((ops[i]?).bind (·.dst)).isSome && decide (dstOf ops i < size) && (List.range n).all fun j => i == j || dstOf ops i != dstOf ops j
def freeSlot (ops : Array Oper) (n k : Nat) : Bool := (List.range n).all fun j => dstOf ops j != k
/-- The frame behind them all. -/
def finF (ops : Array Oper) (n : Nat) (V : Nat → Value) (T : Array Value) : Array Value := ((List.range T.size).map fun k => ((List.range n).find? fun j => dstOf ops j == k).elim (T.getD k undef) V).toArray

structure RV (ops : Array Oper) (n : Nat) (V : Nat → Value) (w0 : World) (a0 : Act) (l : Array Bool) (a : Act) (w : World) : Prop where
  chg : Chg w0 w
  defers : a.defers = a0.defers
  size : a.tmps.size = a0.tmps.size
  frame : ∀ k, freeSlot ops n k = true → a.tmps.getD k undef = a0.tmps.getD k undef
  good : ∀ j, j < n → l.getD j false = true → a.tmps.getD (dstOf ops j) undef = V j

theorem dst_some {ops : Array Oper} {n size i : Nat} {o : Oper} (h : slotsB ops n size = true) (hi : i < n) (ho : ops[i]? = some o) : o.dst = some (dstOf ops i) ∧ dstOf ops i < size ∧ ∀ j, j < n → dstOf ops j = dstOf ops i → j = i := by
  unfold slotsB at h
  rw [List.all_eq_true] at h
  have h1 := h i (List.mem_range.2 hi)
  rw [Bool.and_eq_true, Bool.and_eq_true, decide_eq_true_eq, List.all_eq_true] at h1
  obtain ⟨⟨h2, h3⟩, h4⟩ := h1
  refine ⟨?_, h3, fun j hj e => ?_⟩
  · rw [ho] at h2
    simp only [Option.bind_some] at h2
    cases hd : o.dst with
    | none => rw [hd] at h2; cases h2
    | some d => simp [dstOf, ho, hd]
  · have h5 := h4 j (List.mem_range.2 hj)
    rw [Bool.or_eq_true, beq_iff_eq] at h5
    rcases h5 with h5 | h5
    · exact h5.symm
    · rw [e] at h5; simp at h5

theorem RV.put {ops : Array Oper} {n : Nat} {V : Nat → Value} {w0 : World} {a0 : Act} {l : Array Bool} {a : Act} {w w' : World} (hsl : slotsB ops n a0.tmps.size = true) (h : RV ops n V w0 a0 l a w) {i : Nat} {o : Oper} (hi : i < n) (ho : ops[i]? = some o) (k : Chg w w') : RV ops n V w0 a0 (l.setIfInBounds i true) (a.put o.dst (V i)) w' := by
  obtain ⟨hd, hlt, hinj⟩ := dst_some hsl hi ho
  rw [hd]
  refine ⟨h.chg.trans k, h.defers, by simp [Act.put, h.size], fun m hm => ?_, fun j hj hl => ?_⟩
  · show (a.tmps.setIfInBounds (dstOf ops i) (V i)).getD m undef = _
    have hne : m ≠ dstOf ops i := by
      unfold freeSlot at hm
      rw [List.all_eq_true] at hm
      have := hm i (List.mem_range.2 hi)
      intro e
      rw [e] at this
      simp at this
    rw [getD_set _ _ _ _ (by rw [h.size]; exact hlt), if_neg hne]
    exact h.frame m hm
  · show (a.tmps.setIfInBounds (dstOf ops i) (V i)).getD (dstOf ops j) undef = _
    rw [getD_set _ _ _ _ (by rw [h.size]; exact hlt)]
    by_cases e : j = i
    · subst e; rw [if_pos rfl]
    · rw [if_neg (fun x => e (hinj j hj x))]
      rw [getB_set _ _ _ _ e] at hl
      exact h.good j hj hl

theorem wp_region_vals {P : Program} {id : Nat} {ops : Array Oper} {Q : Exit → Act → World → Prop} {a0 : Act} {w0 : World} (n : Nat) (V : Nat → Value) (hm : P.follows .mixedOrders = true) (hn : ops.size = n + 1) (hd : dagB ops = true) (hs : succB ops n = true) (hg : freeB ops = true) (hsl : slotsB ops n a0.tmps.size = true)
    (step : ∀ i o a w, i < n → ops[i]? = some o → (∀ k, freeSlot ops n k = true → a.tmps.getD k undef = a0.tmps.getD k undef) → (∀ j, depB ops i j = true → j < n → a.tmps.getD (dstOf ops j) undef = V j) → Chg w0.drew w → o.wp P a w (fun a' w' => a' = a.put o.dst (V i) ∧ Chg w w') Q)
    (last : ∀ o w, ops[n]? = some o → Chg w0.drew w → o.wp P ⟨finF ops n V a0.tmps, a0.defers⟩ w (fun a' w' => Q .normal a' w') Q) : (Code.region id ops true).wp P Q a0 w0 := by
  refine wp_region_last n hm hn hd hs hg (RV ops n V w0.drew a0) ?_ ?_ ⟨Chg.refl _, rfl, rfl, fun _ _ => rfl, fun j hj hl => ?_⟩
  · intro l a w i o hI hi hls hdep ho
    refine Oper.wp_mono ?_ (step i o a w hi ho hI.frame (fun j hj hjn => hI.good j hjn (hdep j hj)) hI.chg)
    rintro a' w' ⟨rfl, hc⟩
    exact hI.put hsl hi ho hc
  · intro l a w o hI hall ho
    have e : a = ⟨finF ops n V a0.tmps, a0.defers⟩ := by
      obtain ⟨A, d⟩ := a
      have hdf : d = a0.defers := hI.defers
      subst hdf
      congr 1
      refine Array.ext (by simp [finF]; exact hI.size) ?_
      intro k h1 h2
      have h3 : A[k] = A.getD k undef := by simp [h1]
      rw [h3]
      simp only [finF, List.getElem_toArray, List.getElem_map, List.getElem_range]
      cases hf : (List.range n).find? fun j => dstOf ops j == k with
      | none =>
        refine hI.frame k ?_
        unfold freeSlot
        rw [List.all_eq_true]
        intro j hj
        have := (List.find?_eq_none.1 hf) j hj
        simpa using this
      | some j =>
        have h4 := List.find?_some hf
        have h5 := List.mem_range.1 (List.mem_of_find?_eq_some hf)
        have h6 : dstOf ops j = k := by simpa using h4
        rw [← h6]
        exact hI.good j h5 (hall j h5)
    rw [e]
    exact last o w ho hI.chg
  · exfalso
    rw [Array.getD_eq_getD_getElem?] at hl
    by_cases e : j < ops.size
    · simp [e] at hl
    · simp [e] at hl

theorem op_val {P : Program} {o : Oper} {a : Act} {w w' : World} {v : Value} {Q : Exit → Act → World → Prop} (h : (execOp a.eval o).run P w = .ok (.value v) w') (hc : Chg w w') : o.wp P a w (fun a' u => a' = a.put o.dst v ∧ Chg w u) Q := by
  unfold Oper.wp
  rw [h, Oper.upon_value]
  exact ⟨rfl, hc⟩
theorem op_val1 {P : Program} {o : Oper} {a : Act} {w w' : World} {v : Value} {K : Act → World → Prop} {Q : Exit → Act → World → Prop} (h : (execOp a.eval o).run P w = .ok (.value v) w') (hc : K (a.put o.dst v) w') : o.wp P a w K Q := by
  unfold Oper.wp
  rw [h, Oper.upon_value]
  exact hc
theorem op_call {P : Program} {o : Oper} {a : Act} {w : World} {f : Nat} {vs : Array Value} {v : Value} {Q : Exit → Act → World → Prop} (h : (execOp a.eval o).run P w = .ok (.enter f vs) w) (hc : Calls P f vs w fun e w' => e = .returned v ∧ Chg w w') : o.wp P a w (fun a' u => a' = a.put o.dst v ∧ Chg w u) Q := by
  unfold Oper.wp
  rw [h]
  show Calls P f vs w _
  refine hc.mono ?_
  rintro e w' ⟨rfl, hc'⟩
  exact ⟨rfl, hc'⟩
theorem run_go (a : Act) (o : Oper) (f : Nat) (fn : Func) (xs : Array Operand) (ts : Array TypeId) (w : World) (hf : Tryz.prog.funcs[f]? = some fn) (hn : (fn.name == "runtime.NumGoroutine") = false) (hb : fn.body.isNone = false) (h : o.op = .call { callee := .value (.func f), args := xs, argTypes := ts }) : (execOp a.eval o).run Tryz.prog w = .ok (.enter f (xs.map a.eval)) w := by
  have he : a.eval (.func f) = .func (.func f) #[] #[] := rfl
  have hn' : ¬ fn.name = "runtime.NumGoroutine" := by simpa using hn
  have hb' : ¬ fn.body = none := fun e => by rw [e] at hb; cases hb
  simp [execOp, h, resolve, invoke, he, Deferred.ofValue, callFunc, hf, hn', hb']
theorem op_go {o : Oper} {a : Act} {w : World} {v : Value} {vs : Array Value} {Q : Exit → Act → World → Prop} (f : Nat) (fn : Func) (xs : Array Operand) (ts : Array TypeId) (h : o.op = .call { callee := .value (.func f), args := xs, argTypes := ts }) (hf : Tryz.prog.funcs[f]? = some fn) (hn : (fn.name == "runtime.NumGoroutine") = false) (hb : fn.body.isNone = false) (hv : xs.map a.eval = vs) (hc : Calls Tryz.prog f vs w fun e w' => e = .returned v ∧ Chg w w') : o.wp Tryz.prog a w (fun a' u => a' = a.put o.dst v ∧ Chg w u) Q := by
  have := run_go a o f fn xs ts w hf hn hb h
  rw [hv] at this
  exact op_call this hc
end Go.Proofs.YtobglgddbhddnaaGreat
