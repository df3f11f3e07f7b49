/-
  A region that draws its order and whose last operation waits for all the others: whatever the order, each operation yields one value, and the last one comes last.
  A region that draws its order, with guards, and whose last operation waits for all the others: what each operation's value means.
  A region that draws its order and whose last two operations come last, in their order; new blocks are apart.
  Regions, drawn or plain, whose last operation is a store or the like: what each operation's value means. One form for both kinds.
  Plain regions: the first operations by their meaning, the others one by one.
  A region that draws its order and whose last operations come last, in their order; new blocks are apart.
  A drawn region of which one operation writes, and is not the last.
-/
import Derived.Test.YtbdgmkejmfjobaaJv
namespace Go.Proofs.Ytbdgmkejmfjobaa
open Go.RowKit
set_option linter.unusedVariables false
def cntF (l : Array Bool) : Nat := (l.toList.filter (fun b => !b)).length
theorem cntF_set (l : List Bool) (i : Nat) (h : l[i]? = some false) : ((l.set i true).filter (fun b => !b)).length < (l.filter (fun b => !b)).length := by
 induction l generalizing i with
 | nil => simp at h
 | cons b l ih =>
  cases i with
  | zero =>
   simp at h
   subst h
   simp
  | succ i =>
   simp at h
   have := ih i h
   cases b <;> simp <;> omega
theorem cntF_zero (l : List Bool) (h : (l.filter (fun b => !b)).length = 0) : ∀ i, i < l.length → l[i]? = some true := by
 intro i hi
 rw [List.length_eq_zero_iff, List.filter_eq_nil_iff] at h
 have := h l[i] (List.getElem_mem hi)
 rw [List.getElem?_eq_getElem hi]
 simpa using this
def depB (ops : Array Oper) (i j : Nat) : Bool := ((ops[i]?).map fun o => o.after.any fun e => Region.binds .any e && e.on == j).getD false
def dagB (ops : Array Oper) : Bool := (List.range ops.size).all fun i => ((ops[i]?).map fun o => o.after.all fun e => decide (e.on < i)).getD true
theorem ready_mem {ops : Array Oper} {l : Array Bool} {i : Nat} (h : i ∈ Region.ready .any ops l) : i < ops.size ∧ l.getD i true = false ∧ ∀ j, depB ops i j = true → l.getD j false = true := by
 unfold Region.ready at h
 rw [List.mem_filter, List.mem_range, Bool.and_eq_true] at h
 obtain ⟨h1, h2, h3⟩ := h
 refine ⟨h1, by simpa using h2, fun j hj => ?_⟩
 unfold depB at hj
 cases ho : ops[i]? with
 | none => rw [ho] at hj; cases hj
 | some o =>
  rw [ho] at hj h3
  simp only [Option.map_some, Option.getD_some] at hj h3
  rw [Array.any_eq_true] at hj
  obtain ⟨k, hk, hj⟩ := hj
  rw [Array.all_eq_true] at h3
  have h4 := h3 k hk
  simp only [Bool.and_eq_true, beq_iff_eq] at hj
  rw [hj.1] at h4
  simp only [Bool.not_true, Bool.false_or] at h4
  rw [← hj.2]
  exact h4
theorem ready_nil {ops : Array Oper} {l : Array Bool} (hd : dagB ops = true) (hs : l.size = ops.size) (h : Region.ready .any ops l = []) : ∀ i, i < ops.size → l.getD i false = true := by
 intro i
 induction i using Nat.strongRecOn with
 | ind i ih =>
  intro hi
  unfold Region.ready at h
  rw [List.filter_eq_nil_iff] at h
  have h1 := h i (List.mem_range.2 hi)
  unfold dagB at hd
  rw [List.all_eq_true] at hd
  have h2 := hd i (List.mem_range.2 hi)
  have hil : i < l.size := by omega
  by_cases hb : l[i] = true
  ·simp [Array.getD, hil, hb]
  ·exfalso
   apply h1
   rw [Bool.and_eq_true]
   refine ⟨by simp [Array.getD, hil, hb], ?_⟩
   rw [Array.getElem?_eq_getElem hi] at h2 ⊢
   simp only [Option.map_some, Option.getD_some] at h2 ⊢
   rw [Array.all_eq_true] at h2 ⊢
   intro k hk
   have h3 := h2 k hk
   rw [decide_eq_true_eq] at h3
   rw [ih _ h3 (by omega)]
   simp
theorem cntF_start (n : Nat) : cntF (Array.replicate n false) ≤ n := by
 unfold cntF
 simp
theorem wpAny_inv2 {P : Program} {ops : Array Oper} {Q : Exit → Act → World → Prop} (I : Array Bool → Act → World → Prop) (hd : dagB ops = true)
  (step : ∀ l a w i, I l a w → i < ops.size → l.size = ops.size → l.getD i false = false → (∀ j, depB ops i j = true → l.getD j false = true) → wpOp P ops Q i (fun a' w' => I (l.setIfInBounds i true) a' w') a w)
  (done : ∀ l a w, I l a w → (∀ i, i < ops.size → l.getD i false = true) → Q .normal a w) :
  ∀ (fuel : Nat) (l : Array Bool) (a : Act) (w : World), l.size = ops.size → cntF l ≤ fuel → I l a w → wpAny P .any ops Q fuel l a w := by
 intro fuel
 induction fuel with
 | zero =>
  intro l a w hs hc hI
  have hz := cntF_zero l.toList (by unfold cntF at hc; omega)
  have hr : Region.ready .any ops l = [] := by
   unfold Region.ready
   rw [List.filter_eq_nil_iff]
   intro i hi
   have hi' := List.mem_range.1 hi
   have := hz i (by simp; omega)
   have hil : i < l.size := by omega
   rw [Array.getElem?_toList, Array.getElem?_eq_getElem hil] at this
   injection this with this
   simp [Array.getD, hil, this]
  exact ⟨hr, done l a w hI (ready_nil hd hs hr)⟩
 | succ fuel ih =>
  intro l a w hs hc hI
  refine ⟨fun hr => done l a w hI (ready_nil hd hs hr), fun i hi => ?_⟩
  obtain ⟨h1, h2, h3⟩ := ready_mem hi
  have hil : i < l.size := by omega
  have h2' : l.getD i false = false := by
   simp only [Array.getD, hil, dif_pos] at h2 ⊢
   exact h2
  refine wpOp_mono (fun a' w' hI' => ih _ a' w' (by rw [Array.size_setIfInBounds]; exact hs) ?_ hI') (step l a w i hI h1 hs h2' h3)
  have hli : l.toList[i]? = some false := by
   rw [Array.getElem?_toList, Array.getElem?_eq_getElem hil]
   simpa [Array.getD, hil] using h2
  have := cntF_set l.toList i hli
  unfold cntF at hc ⊢
  rw [Array.toList_setIfInBounds]
  omega
theorem wp_region_inv2 {P : Program} {id : Nat} {ops : Array Oper} {Q : Exit → Act → World → Prop} {a : Act} {w : World} (hm : P.follows .mixedOrders = true) (I : Array Bool → Act → World → Prop) (hd : dagB ops = true)
  (step : ∀ l a w i, I l a w → i < ops.size → l.size = ops.size → l.getD i false = false → (∀ j, depB ops i j = true → l.getD j false = true) → wpOp P ops Q i (fun a' w' => I (l.setIfInBounds i true) a' w') a w)
  (done : ∀ l a w, I l a w → (∀ i, i < ops.size → l.getD i false = true) → Q .normal a w) (start : I (Array.replicate ops.size false) a w.drew) : (Code.region id ops true).wp P Q a w :=
 wp_region_any hm (wpAny_inv2 I hd step done ops.size _ a _ (by simp) (cntF_start _) start)
theorem getD_set (A : Array Value) (d k : Nat) (v : Value) (h : d < A.size) : (A.setIfInBounds d v).getD k undef = if k = d then v else A.getD k undef := by
 rw [Array.getD_eq_getD_getElem?, Array.getD_eq_getD_getElem?]
 by_cases e : k = d
 ·subst e
  rw [if_pos rfl, Array.getElem?_setIfInBounds_self_of_lt h]
  rfl
 ·rw [if_neg e, Array.getElem?_setIfInBounds_ne (fun x => e x.symm)]
theorem getB_set (A : Array Bool) (d k : Nat) (v : Bool) (hk : k ≠ d) : (A.setIfInBounds d v).getD k false = A.getD k false := by
 rw [Array.getD_eq_getD_getElem?, Array.getD_eq_getD_getElem?, Array.getElem?_setIfInBounds_ne (fun x => hk x.symm)]
theorem wanted_none {o : Oper} {y : Nat → Option Bool} (h : o.guard = none) : Region.wanted o y = true := by
 unfold Region.wanted
 rw [h]
def succB (ops : Array Oper) (n : Nat) : Bool := (List.range n).all fun i => (List.range (n + 1)).any fun j => decide (i < j) && depB ops j i
def freeB (ops : Array Oper) : Bool := (List.range ops.size).all fun i => ((ops[i]?).map fun o => o.guard.isNone).getD true
theorem all_up {ops : Array Oper} {n : Nat} {l : Array Bool} (hs : succB ops n = true) (hc : ∀ i j, l.getD i false = true → depB ops i j = true → l.getD j false = true) (hl : ∀ j, depB ops n j = true → l.getD j false = true) : ∀ i, i < n → l.getD i false = true := by
 have key : ∀ m i, i < n → n - i ≤ m → l.getD i false = true := by
  intro m
  induction m with
  | zero => intro i hi hm; omega
  | succ m ih =>
   intro i hi hm
   unfold succB at hs
   rw [List.all_eq_true] at hs
   have h1 := hs i (List.mem_range.2 hi)
   rw [List.any_eq_true] at h1
   obtain ⟨j, hj, h2⟩ := h1
   rw [Bool.and_eq_true, decide_eq_true_eq] at h2
   have hj' := List.mem_range.1 hj
   by_cases e : j = n
   ·subst e
    exact hl i h2.2
   ·exact hc j i (ih j (by omega) (by omega)) h2.2
 exact fun i hi => key n i hi (by omega)
theorem free_of {ops : Array Oper} (h : freeB ops = true) {i : Nat} {o : Oper} (ho : ops[i]? = some o) : o.guard = none := by
 unfold freeB at h
 rw [List.all_eq_true] at h
 have hi : i < ops.size := (Array.getElem?_eq_some_iff.1 ho).1
 have := h i (List.mem_range.2 hi)
 rw [ho] at this
 simpa using this
def dstOf (ops : Array Oper) (j : Nat) : Nat := ((ops[j]?).bind (·.dst)).getD 0
def slotsB (ops : Array Oper) (n size : Nat) : Bool := (List.range n).all fun i => ((ops[i]?).bind (·.dst)).isSome && decide (dstOf ops i < size) && (List.range n).all fun j => i == j || dstOf ops i != dstOf ops j
def freeSlot (ops : Array Oper) (n k : Nat) : Bool := (List.range n).all fun j => dstOf ops j != k
def finF (ops : Array Oper) (n : Nat) (V : Nat → Value) (T : Array Value) : Array Value := ((List.range T.size).map fun k => ((List.range n).find? fun j => dstOf ops j == k).elim (T.getD k undef) V).toArray
structure RV (ops : Array Oper) (n : Nat) (V : Nat → Value) (w0 : World) (a0 : Act) (l : Array Bool) (a : Act) (w : World) : Prop where
 chg : Chg w0 w
 defers : a.defers = a0.defers
 size : a.tmps.size = a0.tmps.size
 frame : ∀ k, freeSlot ops n k = true → a.tmps.getD k undef = a0.tmps.getD k undef
 good : ∀ j, j < n → l.getD j false = true → a.tmps.getD (dstOf ops j) undef = V j
theorem dst_some {ops : Array Oper} {n size i : Nat} {o : Oper} (h : slotsB ops n size = true) (hi : i < n) (ho : ops[i]? = some o) : o.dst = some (dstOf ops i) ∧ dstOf ops i < size ∧ ∀ j, j < n → dstOf ops j = dstOf ops i → j = i := by
 unfold slotsB at h
 rw [List.all_eq_true] at h
 have h1 := h i (List.mem_range.2 hi)
 rw [Bool.and_eq_true, Bool.and_eq_true, decide_eq_true_eq, List.all_eq_true] at h1
 obtain ⟨⟨h2, h3⟩, h4⟩ := h1
 refine ⟨?_, h3, fun j hj e => ?_⟩
 ·rw [ho] at h2
  simp only [Option.bind_some] at h2
  cases hd : o.dst with
  | none => rw [hd] at h2; cases h2
  | some d => simp [dstOf, ho, hd]
 ·have h5 := h4 j (List.mem_range.2 hj)
  rw [Bool.or_eq_true, beq_iff_eq] at h5
  rcases h5 with h5 | h5
  ·exact h5.symm
  ·rw [e] at h5; simp at h5
theorem RV.put {ops : Array Oper} {n : Nat} {V : Nat → Value} {w0 : World} {a0 : Act} {l : Array Bool} {a : Act} {w w' : World} (hsl : slotsB ops n a0.tmps.size = true) (h : RV ops n V w0 a0 l a w) {i : Nat} {o : Oper} (hi : i < n) (ho : ops[i]? = some o) (k : Chg w w') : RV ops n V w0 a0 (l.setIfInBounds i true) (a.put o.dst (V i)) w' := by
 obtain ⟨hd, hlt, hinj⟩ := dst_some hsl hi ho
 rw [hd]
 refine ⟨h.chg.trans k, h.defers, by simp [Act.put, h.size], fun m hm => ?_, fun j hj hl => ?_⟩
 ·show (a.tmps.setIfInBounds (dstOf ops i) (V i)).getD m undef = _
  have hne : m ≠ dstOf ops i := by
   unfold freeSlot at hm
   rw [List.all_eq_true] at hm
   have := hm i (List.mem_range.2 hi)
   intro e
   rw [e] at this
   simp at this
  rw [getD_set _ _ _ _ (by rw [h.size]; exact hlt), if_neg hne]
  exact h.frame m hm
 ·show (a.tmps.setIfInBounds (dstOf ops i) (V i)).getD (dstOf ops j) undef = _
  rw [getD_set _ _ _ _ (by rw [h.size]; exact hlt)]
  by_cases e : j = i
  ·subst e; rw [if_pos rfl]
  ·rw [if_neg (fun x => e (hinj j hj x))]
   rw [getB_set _ _ _ _ e] at hl
   exact h.good j hj hl
theorem op_val1 {P : Program} {o : Oper} {a : Act} {w w' : World} {v : Value} {K : Act → World → Prop} {Q : Exit → Act → World → Prop} (h : (execOp a.eval o).run P w = .ok (.value v) w') (hc : K (a.put o.dst v) w') : o.wp P a w K Q := by
 unfold Oper.wp
 rw [h, Oper.upon_value]
 exact hc
theorem run_go (a : Act) (o : Oper) (f : Nat) (fn : Func) (xs : Array Operand) (ts : Array TypeId) (w : World) (hf : Try.prog.funcs[f]? = some fn) (hn : (fn.name == "runtime.NumGoroutine") = false) (hb : fn.body.isNone = false) (h : o.op = .call { callee := .value (.func f), args := xs, argTypes := ts }) : (execOp a.eval o).run Try.prog w = .ok (.enter f (xs.map a.eval)) w := by
 have he : a.eval (.func f) = .func (.func f) #[] #[] := rfl
 have hn' : ¬ fn.name = "runtime.NumGoroutine" := by simpa using hn
 have hb' : ¬ fn.body = none := fun e => by rw [e] at hb; cases hb
 simp [execOp, h, resolve, invoke, he, Deferred.ofValue, callFunc, hf, hn', hb']
end Go.Proofs.Ytbdgmkejmfjobaa

namespace Go.Proofs.Ytbdgmkejmfjobaa
open Go.RowKit
set_option linter.unusedVariables false
theorem wp_region_lastW {P : Program} {id : Nat} {ops : Array Oper} {Q : Exit → Act → World → Prop} {a0 : Act} {w0 : World} (n : Nat) (hm : P.follows .mixedOrders = true) (hn : ops.size = n + 1) (hd : dagB ops = true) (hs : succB ops n = true)
  (I : Array Bool → Act → World → Prop)
  (step : ∀ l a w i o, I l a w → i < n → l.size = n + 1 → (∀ j, depB ops i j = true → l.getD j false = true) → ops[i]? = some o → (Region.wanted o (yielded ops a.tmps) = true ∧ o.wp P a w (fun a' w' => I (l.setIfInBounds i true) a' w') Q) ∨ (Region.wanted o (yielded ops a.tmps) = false ∧ I (l.setIfInBounds i true) (a.put o.dst undef) w))
  (last : ∀ l a w o, I l a w → (∀ i, i < n → l.getD i false = true) → ops[n]? = some o → Region.wanted o (yielded ops a.tmps) = true ∧ o.wp P a w (fun a' w' => Q .normal a' w') Q)
  (start : I (Array.replicate ops.size false) a0 w0.drew) : (Code.region id ops true).wp P Q a0 w0 := by
 refine wp_region_inv2 hm (fun l a w => (∀ i j, l.getD i false = true → depB ops i j = true → l.getD j false = true) ∧ (l.getD n false = true → (∀ i, i < n → l.getD i false = true) ∧ Q .normal a w) ∧ (l.getD n false = false → I l a w)) hd ?_ ?_ ?_
 ·intro l a w i ⟨h1, h2, h3⟩ hi hls hli hdep
  have hcl : ∀ a b, (l.setIfInBounds i true).getD a false = true → depB ops a b = true → (l.setIfInBounds i true).getD b false = true := by
   intro p q hp hq
   by_cases ep : p = i
   ·subst ep
    by_cases eq : q = p
    ·subst eq; exact hp
    ·rw [getB_set _ _ _ _ eq]; exact hdep q hq
   ·rw [getB_set _ _ _ _ ep] at hp
    by_cases eq : q = i
    ·subst eq
     have hx := h1 p q hp hq
     rw [hx] at hli
     cases hli
    ·rw [getB_set _ _ _ _ eq]; exact h1 p q hp hq
  have ho : ∃ o, ops[i]? = some o := ⟨ops[i], Array.getElem?_eq_getElem hi⟩
  obtain ⟨o, ho⟩ := ho
  unfold wpOp
  rw [ho]
  dsimp only
  by_cases hnl : l.getD n false = true
  ·exfalso
   have := h2 hnl
   by_cases e : i = n
   ·subst e; rw [hnl] at hli; cases hli
   ·rw [this.1 i (by omega)] at hli; cases hli
  ·have hnf : l.getD n false = false := by simpa using hnl
   by_cases e : i = n
   ·subst e
    have hall := all_up hs h1 hdep
    obtain ⟨hw, hl⟩ := last l a w o (h3 hnf) hall ho
    rw [hw, if_pos rfl]
    refine .inl (Oper.wp_mono ?_ hl)
    intro a' w' hq
    refine ⟨hcl, fun _ => ⟨fun k hk => ?_, hq⟩, fun hx => ?_⟩
    ·rw [getB_set _ _ _ _ (by omega)]; exact hall k hk
    ·exfalso
     have : (l.setIfInBounds i true).getD i false = true := by
      rw [Array.getD_eq_getD_getElem?, Array.getElem?_setIfInBounds_self_of_lt (by omega)]
      rfl
     rw [this] at hx
     cases hx
   ·rcases step l a w i o (h3 hnf) (by omega) (by omega) hdep ho with ⟨hw, hst⟩ | ⟨hw, hI⟩
    ·rw [hw, if_pos rfl]
     refine .inl (Oper.wp_mono ?_ hst)
     intro a' w' hI
     refine ⟨hcl, fun hx => ?_, fun _ => hI⟩
     rw [getB_set _ _ _ _ (fun x => e x.symm), hnf] at hx
     cases hx
    ·rw [hw, if_neg (by decide)]
     refine ⟨hcl, fun hx => ?_, fun _ => hI⟩
     rw [getB_set _ _ _ _ (fun x => e x.symm), hnf] at hx
     cases hx
 ·intro l a w ⟨_, h2, _⟩ hall
  exact (h2 (hall n (by omega))).2
 ·refine ⟨fun i j hi => ?_, fun h => ?_, fun _ => start⟩
  ·exfalso
   rw [Array.getD_eq_getD_getElem?] at hi
   by_cases e : i < ops.size
   ·simp [e] at hi
   ·simp [e] at hi
  ·exfalso
   rw [Array.getD_eq_getD_getElem?] at h
   by_cases e : n < ops.size
   ·simp [e] at h
   ·simp [e] at h
structure RG (ops : Array Oper) (n : Nat) (G : Nat → Value → World → Prop) (w0 : World) (a0 : Act) (l : Array Bool) (a : Act) (w : World) : Prop where
 chg : Chg w0 w
 defers : a.defers = a0.defers
 size : a.tmps.size = a0.tmps.size
 frame : ∀ k, freeSlot ops n k = true → a.tmps.getD k undef = a0.tmps.getD k undef
 good : ∀ j, j < n → l.getD j false = true → G j (a.tmps.getD (dstOf ops j) undef) w
theorem RG.put {ops : Array Oper} {n : Nat} {G : Nat → Value → World → Prop} {w0 : World} {a0 : Act} {l : Array Bool} {a : Act} {w w' : World} {v : Value} (hsl : slotsB ops n a0.tmps.size = true) (mono : ∀ j v u u', G j v u → Chg u u' → G j v u') (h : RG ops n G w0 a0 l a w) {i : Nat} {o : Oper} (hi : i < n) (ho : ops[i]? = some o) (k : Chg w w') (hv : G i v w') : RG ops n G w0 a0 (l.setIfInBounds i true) (a.put o.dst v) w' := by
 obtain ⟨hd, hlt, hinj⟩ := dst_some hsl hi ho
 rw [hd]
 refine ⟨h.chg.trans k, h.defers, by simp [Act.put, h.size], fun m hm => ?_, fun j hj hl => ?_⟩
 ·show (a.tmps.setIfInBounds (dstOf ops i) v).getD m undef = _
  have hne : m ≠ dstOf ops i := by
   unfold freeSlot at hm
   rw [List.all_eq_true] at hm
   have := hm i (List.mem_range.2 hi)
   intro e
   rw [e] at this
   simp at this
  rw [getD_set _ _ _ _ (by rw [h.size]; exact hlt), if_neg hne]
  exact h.frame m hm
 ·show G j ((a.tmps.setIfInBounds (dstOf ops i) v).getD (dstOf ops j) undef) w'
  rw [getD_set _ _ _ _ (by rw [h.size]; exact hlt)]
  by_cases e : j = i
  ·subst e; rw [if_pos rfl]; exact hv
  ·rw [if_neg (fun x => e (hinj j hj x))]
   rw [getB_set _ _ _ _ e] at hl
   exact mono j _ w w' (h.good j hj hl) k
theorem wanted_by {ops : Array Oper} {n : Nat} {T A : Array Value} {o oj : Oper} {j : Nat} {b : Bool} (hsl : slotsB ops n T.size = true) (hsz : A.size = T.size) (hg : o.guard = some (j, b)) (hj : j < n) (hoj : ops[j]? = some oj) (hv : A.getD (dstOf ops j) undef = .bool b) : Region.wanted o (yielded ops A) = true := by
 obtain ⟨hd, hlt, _⟩ := dst_some hsl hj hoj
 unfold Region.wanted
 rw [hg]
 show (yielded ops A j == some b) = true
 unfold yielded
 rw [hoj]
 simp only [Option.bind_some, hd]
 have hs : dstOf ops j < A.size := by rw [hsz]; exact hlt
 have : A[dstOf ops j]? = some (.bool b) := by
  rw [Array.getElem?_eq_getElem hs]
  simp only [Array.getD, hs, dif_pos] at hv
  rw [← hv]
  rfl
 rw [this]
 simp
theorem wanted_not {ops : Array Oper} {n : Nat} {T A : Array Value} {o oj : Oper} {j : Nat} {b c : Bool} (hsl : slotsB ops n T.size = true) (hsz : A.size = T.size) (hg : o.guard = some (j, b)) (hj : j < n) (hoj : ops[j]? = some oj) (hbc : (c == b) = false) (hv : A.getD (dstOf ops j) undef = .bool c) : Region.wanted o (yielded ops A) = false := by
 obtain ⟨hd, hlt, _⟩ := dst_some hsl hj hoj
 unfold Region.wanted
 rw [hg]
 show (yielded ops A j == some b) = false
 unfold yielded
 rw [hoj]
 simp only [Option.bind_some, hd]
 have hs : dstOf ops j < A.size := by rw [hsz]; exact hlt
 have : A[dstOf ops j]? = some (.bool c) := by
  rw [Array.getElem?_eq_getElem hs]
  simp only [Array.getD, hs, dif_pos] at hv
  rw [← hv]
  rfl
 rw [this]
 simpa using hbc
theorem wp_region_good {P : Program} {id : Nat} {ops : Array Oper} {Q : Exit → Act → World → Prop} {a0 : Act} {w0 : World} (n : Nat) (G : Nat → Value → World → Prop) (hm : P.follows .mixedOrders = true) (hn : ops.size = n + 1) (hd : dagB ops = true) (hs : succB ops n = true) (hsl : slotsB ops n a0.tmps.size = true)
  (mono : ∀ j v u u', G j v u → Chg u u' → G j v u')
  (step : ∀ i o a w, i < n → ops[i]? = some o → a.tmps.size = a0.tmps.size → (∀ k, freeSlot ops n k = true → a.tmps.getD k undef = a0.tmps.getD k undef) → (∀ j, depB ops i j = true → j < n → G j (a.tmps.getD (dstOf ops j) undef) w) → Chg w0.drew w → (Region.wanted o (yielded ops a.tmps) = true ∧ o.wp P a w (fun a' w' => ∃ v, a' = a.put o.dst v ∧ G i v w' ∧ Chg w w') Q) ∨ (Region.wanted o (yielded ops a.tmps) = false ∧ G i undef w))
  (last : ∀ o w (V : Nat → Value), ops[n]? = some o → (∀ j, j < n → G j (V j) w) → Chg w0.drew w → o.guard = none ∧ o.wp P ⟨finF ops n V a0.tmps, a0.defers⟩ w (fun a' w' => Q .normal a' w') Q) : (Code.region id ops true).wp P Q a0 w0 := by
 refine wp_region_lastW n hm hn hd hs (RG ops n G w0.drew a0) ?_ ?_ ⟨Chg.refl _, rfl, rfl, fun _ _ => rfl, fun j hj hl => ?_⟩
 ·intro l a w i o hI hi hls hdep ho
  rcases step i o a w hi ho hI.size hI.frame (fun j hj hjn => hI.good j hjn (hdep j hj)) hI.chg with ⟨h1, h2⟩ | ⟨h1, h2⟩
  ·refine .inl ⟨h1, Oper.wp_mono ?_ h2⟩
   rintro a' w' ⟨v, rfl, hv, hc⟩
   exact hI.put hsl mono hi ho hc hv
  ·exact .inr ⟨h1, hI.put hsl mono hi ho (Chg.refl _) h2⟩
 ·intro l a w o hI hall ho
  have e : a = ⟨finF ops n (fun j => a.tmps.getD (dstOf ops j) undef) a0.tmps, a0.defers⟩ := by
   obtain ⟨A, d⟩ := a
   have hdf : d = a0.defers := hI.defers
   subst hdf
   congr 1
   refine Array.ext (by simp [finF]; exact hI.size) ?_
   intro k h1 h2
   have h3 : A[k] = A.getD k undef := by simp [h1]
   rw [h3]
   simp only [finF, List.getElem_toArray, List.getElem_map, List.getElem_range]
   cases hf : (List.range n).find? fun j => dstOf ops j == k with
   | none =>
    refine hI.frame k ?_
    unfold freeSlot
    rw [List.all_eq_true]
    intro j hj
    have := (List.find?_eq_none.1 hf) j hj
    simpa using this
   | some j =>
    have h4 := List.find?_some hf
    have h6 : dstOf ops j = k := by simpa using h4
    rw [← h6]
    rfl
  obtain ⟨h1, h2⟩ := last o w (fun j => a.tmps.getD (dstOf ops j) undef) ho (fun j hj => hI.good j hj (hall j hj)) hI.chg
  refine ⟨wanted_none h1, ?_⟩
  rw [← e] at h2
  exact h2
 ·exfalso
  rw [Array.getD_eq_getD_getElem?] at hl
  by_cases e : j < ops.size
  ·simp [e] at hl
  ·simp [e] at hl
theorem opG_val {P : Program} {o : Oper} {a : Act} {w w' : World} {v : Value} {G : Value → World → Prop} {Q : Exit → Act → World → Prop} (h : (execOp a.eval o).run P w = .ok (.value v) w') (hv : G v w') (hc : Chg w w') : o.wp P a w (fun a' u => ∃ v, a' = a.put o.dst v ∧ G v u ∧ Chg w u) Q := by
 unfold Oper.wp
 rw [h, Oper.upon_value]
 exact ⟨v, rfl, hv, hc⟩
theorem opG_go {o : Oper} {a : Act} {w : World} {vs : Array Value} {G : Value → World → Prop} {Q : Exit → Act → World → Prop} (f : Nat) (fn : Func) (xs : Array Operand) (ts : Array TypeId) (h : o.op = .call { callee := .value (.func f), args := xs, argTypes := ts }) (hf : Try.prog.funcs[f]? = some fn) (hn : (fn.name == "runtime.NumGoroutine") = false) (hb : fn.body.isNone = false) (hv : xs.map a.eval = vs) (hc : Calls Try.prog f vs w fun e w' => ∃ v, e = .returned v ∧ G v w' ∧ Chg w w') : o.wp Try.prog a w (fun a' u => ∃ v, a' = a.put o.dst v ∧ G v u ∧ Chg w u) Q := by
 have hr := run_go a o f fn xs ts w hf hn hb h
 rw [hv] at hr
 unfold Oper.wp
 rw [hr]
 show Calls Try.prog f vs w _
 refine hc.mono ?_
 rintro e w' ⟨v, rfl, h1, h2⟩
 exact ⟨v, rfl, h1, h2⟩
end Go.Proofs.Ytbdgmkejmfjobaa

namespace Go.Proofs.Ytbdgmkejmfjobaa
open Go.RowKit
set_option linter.unusedVariables false
structure RTw (ops : Array Oper) (n : Nat) (al : Nat → Bool) (G : Nat → Value → World → Prop) (w0 : World) (a0 : Act) (l : Array Bool) (a : Act) (w : World) : Prop where
 base : RG ops n G w0 a0 l a w
 apart : ∀ i j, i < n → j < n → al i = true → al j = true → i ≠ j → l.getD i false = true → l.getD j false = true → a.tmps.getD (dstOf ops i) undef ≠ a.tmps.getD (dstOf ops j) undef
end Go.Proofs.Ytbdgmkejmfjobaa

namespace Go.Proofs.Ytbdgmkejmfjobaa
open Go.RowKit
set_option linter.unusedVariables false
set_option maxRecDepth 100000
theorem fin_of {ops : Array Oper} {n : Nat} {G : Nat → Value → World → Prop} {w0 w : World} {a0 a : Act} {l : Array Bool} (hI : RG ops n G w0 a0 l a w) : a = ⟨finF ops n (fun j => a.tmps.getD (dstOf ops j) undef) a0.tmps, a0.defers⟩ := by
 obtain ⟨A, d⟩ := a
 have hdf : d = a0.defers := hI.defers
 subst hdf
 congr 1
 refine Array.ext (by simp [finF]; exact hI.size) ?_
 intro k h1 h2
 have h3 : A[k] = A.getD k undef := by simp [h1]
 rw [h3]
 simp only [finF, List.getElem_toArray, List.getElem_map, List.getElem_range]
 cases hf : (List.range n).find? fun j => dstOf ops j == k with
 | none =>
  refine hI.frame k ?_
  unfold freeSlot
  rw [List.all_eq_true]
  intro j hj
  have := (List.find?_eq_none.1 hf) j hj
  simpa using this
 | some j =>
  have h4 := List.find?_some hf
  have h6 : dstOf ops j = k := by simpa using h4
  rw [← h6]
  rfl
end Go.Proofs.Ytbdgmkejmfjobaa

namespace Go.Proofs.Ytbdgmkejmfjobaa
open Go.RowKit
set_option linter.unusedVariables false
set_option maxRecDepth 100000
end Go.Proofs.Ytbdgmkejmfjobaa

namespace Go.Proofs.Ytbdgmkejmfjobaa
open Go.RowKit
set_option linter.unusedVariables false
def tailwp (P : Program) (Q : Exit → Act → World → Prop) : List Oper → Act → World → Prop
 | [], a, w => Q .normal a w
 | o :: r, a, w => o.guard = none ∧ o.wp P a w (fun a' w' => tailwp P Q r a' w') Q
theorem tail_cons {P : Program} {Q : Exit → Act → World → Prop} {l r : List Oper} {o : Oper} {a : Act} {w : World} (e : l = o :: r) (hg : o.guard = none) (hw : o.wp P a w (fun a' w' => tailwp P Q r a' w') Q) : tailwp P Q l a w := by
 rw [e]
 exact ⟨hg, hw⟩
theorem tail_nil {P : Program} {Q : Exit → Act → World → Prop} {l : List Oper} {a : Act} {w : World} (e : l = []) (h : Q .normal a w) : tailwp P Q l a w := by
 rw [e]
 exact h
def tailB (ops : Array Oper) (n : Nat) : Bool := (List.range ops.size).all fun k => decide (k < n) || decide (ops.size ≤ k + 1) || depB ops (k + 1) k
theorem tailB_at {ops : Array Oper} {n k : Nat} (h : tailB ops n = true) (h1 : n ≤ k) (h2 : k + 1 < ops.size) : depB ops (k + 1) k = true := by
 unfold tailB at h
 rw [List.all_eq_true] at h
 have := h k (List.mem_range.2 (by omega))
 simp only [Bool.or_eq_true, decide_eq_true_eq] at this
 rcases this with (h | h) | h
 ·omega
 ·omega
 ·exact h
def TI (P : Program) (ops : Array Oper) (Q : Exit → Act → World → Prop) (n : Nat) (I : Array Bool → Act → World → Prop) (l : Array Bool) (a : Act) (w : World) : Prop :=
 (∀ i j, l.getD i false = true → depB ops i j = true → l.getD j false = true) ∧ ((∀ i, n ≤ i → i < ops.size → l.getD i false = false) ∧ I l a w ∨ ∃ t, n < t ∧ t ≤ ops.size ∧ (∀ i, i < t → l.getD i false = true) ∧ (∀ i, t ≤ i → i < ops.size → l.getD i false = false) ∧ tailwp P Q (ops.toList.drop t) a w)
theorem wp_region_tail {P : Program} {id : Nat} {ops : Array Oper} {Q : Exit → Act → World → Prop} {a0 : Act} {w0 : World} (n : Nat) (hm : P.follows .mixedOrders = true) (hn : n < ops.size) (hd : dagB ops = true) (hs : succB ops n = true) (hp : tailB ops n = true)
  (I : Array Bool → Act → World → Prop)
  (step : ∀ l a w i o, I l a w → i < n → l.size = ops.size → (∀ j, depB ops i j = true → l.getD j false = true) → l.getD i false = false → ops[i]? = some o → (Region.wanted o (yielded ops a.tmps) = true ∧ o.wp P a w (fun a' w' => I (l.setIfInBounds i true) a' w') Q) ∨ (Region.wanted o (yielded ops a.tmps) = false ∧ I (l.setIfInBounds i true) (a.put o.dst undef) w))
  (last : ∀ l a w, I l a w → (∀ i, i < n → l.getD i false = true) → tailwp P Q (ops.toList.drop n) a w)
  (start : I (Array.replicate ops.size false) a0 w0.drew) : (Code.region id ops true).wp P Q a0 w0 := by
 have dropk : ∀ k (hk : k < ops.size), ops.toList.drop k = ops[k] :: ops.toList.drop (k + 1) := fun k hk => by
  rw [List.drop_eq_getElem_cons (by simpa using hk)]
  simp
 refine wp_region_inv2 hm (TI P ops Q n I) hd ?_ ?_ ?_
 ·intro l a w i ⟨h1, h2⟩ hi hls hli hdep
  have hcl : ∀ a b, (l.setIfInBounds i true).getD a false = true → depB ops a b = true → (l.setIfInBounds i true).getD b false = true := by
   intro p q hp hq
   by_cases ep : p = i
   ·subst ep
    by_cases eq : q = p
    ·subst eq; exact hp
    ·rw [getB_set _ _ _ _ eq]; exact hdep q hq
   ·rw [getB_set _ _ _ _ ep] at hp
    by_cases eq : q = i
    ·subst eq
     have hx := h1 p q hp hq
     rw [hx] at hli
     cases hli
    ·rw [getB_set _ _ _ _ eq]; exact h1 p q hp hq
  have hup : (l.setIfInBounds i true).getD i false = true := by
   rw [Array.getD_eq_getD_getElem?, Array.getElem?_setIfInBounds_self_of_lt (by omega)]
   rfl
  have ho : ops[i]? = some ops[i] := Array.getElem?_eq_getElem hi
  -- one operation of the tail
  have one : tailwp P Q (ops.toList.drop i) a w → (∀ j, j < i → l.getD j false = true) → n ≤ i → (∀ j, i < j → j < ops.size → l.getD j false = false) → wpOp P ops Q i (fun a' w' => TI P ops Q n I (l.setIfInBounds i true) a' w') a w := by
   intro ht hb hni ha
   rw [dropk i hi] at ht
   obtain ⟨hg, hw⟩ := ht
   unfold wpOp
   rw [ho]
   dsimp only
   rw [wanted_none hg, if_pos rfl]
   refine .inl (Oper.wp_mono ?_ hw)
   intro a' w' hq
   refine ⟨hcl, .inr ⟨i + 1, by omega, by omega, fun j hj => ?_, fun j hj hj2 => ?_, hq⟩⟩
   ·by_cases e : j = i
    ·subst e; exact hup
    ·rw [getB_set _ _ _ _ e]; exact hb j (by omega)
   ·rw [getB_set _ _ _ _ (by omega)]; exact ha j (by omega) hj2
  rcases h2 with ⟨hno, hI⟩ | ⟨t, hnt, hts, hb, ha, ht⟩
  ·by_cases e : i < n
   ·unfold wpOp
    rw [ho]
    dsimp only
    have hno' : ∀ k, n ≤ k → k < ops.size → (l.setIfInBounds i true).getD k false = false := fun k hk hk2 => by rw [getB_set _ _ _ _ (by omega)]; exact hno k hk hk2
    rcases step l a w i ops[i] hI e (by omega) hdep hli ho with ⟨hw, hst⟩ | ⟨hw, hI⟩
    ·rw [hw, if_pos rfl]
     exact .inl (Oper.wp_mono (fun a' w' h => ⟨hcl, .inl ⟨hno', h⟩⟩) hst)
    ·rw [hw, if_neg (by decide)]
     exact ⟨hcl, .inl ⟨hno', hI⟩⟩
   ·have ein : i = n := by
     by_cases e2 : i = n
     ·exact e2
     ·exfalso
      have hk := hdep (i - 1) (by have := tailB_at (k := i - 1) hp (by omega) (by omega); rwa [show i - 1 + 1 = i by omega] at this)
      rw [hno (i - 1) (by omega) (by omega)] at hk
      cases hk
    subst ein
    have hall := all_up hs h1 hdep
    exact one (last l a w hI hall) hall (Nat.le_refl _) (fun j hj hj2 => hno j (by omega) hj2)
  ·have eit : i = t := by
    by_cases e : i < t
    ·rw [hb i e] at hli; cases hli
    ·by_cases e2 : i = t
     ·exact e2
     ·exfalso
      have hk := hdep (i - 1) (by have := tailB_at (k := i - 1) hp (by omega) (by omega); rwa [show i - 1 + 1 = i by omega] at this)
      rw [ha (i - 1) (by omega) (by omega)] at hk
      cases hk
   subst eit
   exact one ht hb (by omega) (fun j hj hj2 => ha j (by omega) hj2)
 ·intro l a w ⟨_, h2⟩ hall
  rcases h2 with ⟨hno, _⟩ | ⟨t, hnt, hts, hb, ha, ht⟩
  ·have := hall n hn
   rw [hno n (Nat.le_refl _) hn] at this
   cases this
  ·by_cases e : t < ops.size
   ·have := hall t e
    rw [ha t (Nat.le_refl _) e] at this
    cases this
   ·rw [List.drop_of_length_le (by simp; omega)] at ht
    exact ht
 ·have hrep : ∀ i, (Array.replicate ops.size false).getD i false = false := fun i => by
   rw [Array.getD_eq_getD_getElem?]
   by_cases e : i < ops.size
   ·simp [e]
   ·simp [e]
  exact ⟨(fun i j hi => by rw [hrep] at hi; cases hi), .inl ⟨fun i _ _ => hrep i, start⟩⟩
theorem regM {P : Program} {id : Nat} {ops : Array Oper} {Q : Exit → Act → World → Prop} {a0 : Act} {w0 : World} (n : Nat) (al : Nat → Bool) (G : Nat → Value → World → Prop) (hm : P.follows .mixedOrders = true) (hn : n < ops.size) (hd : dagB ops = true) (hs : succB ops n = true) (hp : tailB ops n = true) (hsl : slotsB ops n a0.tmps.size = true)
  (mono : ∀ j v u u', G j v u → Chg u u' → G j v u')
  (new : ∀ j v u, j < n → al j = true → G j v u → ∃ b, v = .pointer (some ⟨b, 0, none⟩) ∧ b < u.heap.size)
  (step : ∀ i o a w, i < n → ops[i]? = some o → a.tmps.size = a0.tmps.size → (∀ k, freeSlot ops n k = true → a.tmps.getD k undef = a0.tmps.getD k undef) → (∀ j, depB ops i j = true → j < n → G j (a.tmps.getD (dstOf ops j) undef) w) → Chg w0 w → Region.wanted o (yielded ops a.tmps) = true ∧ o.wp P a w (fun a' w' => ∃ v, a' = a.put o.dst v ∧ (G i v w' ∧ (al i = true → v = .pointer (some ⟨w.heap.size, 0, none⟩))) ∧ Chg w w') Q)
  (last : ∀ w (V : Nat → Value), (∀ j, j < n → G j (V j) w) → (∀ i j, i < n → j < n → al i = true → al j = true → i ≠ j → V i ≠ V j) → Chg w0 w → tailwp P Q (ops.toList.drop n) ⟨finF ops n V a0.tmps, a0.defers⟩ w) : (Code.region id ops true).wp P Q a0 w0 := by
 have hrep : ∀ i, (Array.replicate ops.size false).getD i false = false := fun i => by
  rw [Array.getD_eq_getD_getElem?]
  by_cases e : i < ops.size
  ·simp [e]
  ·simp [e]
 refine wp_region_tail n hm hn hd hs hp (RTw ops n al G w0.drew a0) ?_ ?_ ⟨⟨Chg.refl _, rfl, rfl, fun _ _ => rfl, fun j hj hl => by rw [hrep] at hl; cases hl⟩, fun i j _ _ _ _ _ hl => by rw [hrep] at hl; cases hl⟩
 ·intro l a w i o hI hi hls hdep hli ho
  obtain ⟨h1, h2⟩ := step i o a w hi ho hI.base.size hI.base.frame (fun j hj hjn => hI.base.good j hjn (hdep j hj)) ((Chg.refl w0).drew.trans hI.base.chg)
  refine .inl ⟨h1, Oper.wp_mono ?_ h2⟩
  rintro a' w' ⟨v, rfl, ⟨hv, hnew⟩, hc⟩
  refine ⟨hI.base.put hsl mono hi ho hc hv, ?_⟩
  obtain ⟨hd', hlt, hinj⟩ := dst_some hsl hi ho
  intro x y hx hy ax ay hne lx ly
  rw [hd']
  have g : ∀ k, (a.put (some (dstOf ops i)) v).tmps.getD k undef = if k = dstOf ops i then v else a.tmps.getD k undef := fun k => getD_set _ _ _ _ (by rw [hI.base.size]; exact hlt)
  rw [g, g]
  have clash : ∀ z, z < n → al z = true → l.getD z false = true → (.pointer (some ⟨w.heap.size, 0, none⟩) : Value) ≠ a.tmps.getD (dstOf ops z) undef := by
   intro z hz az lz
   obtain ⟨b, hb, hlt'⟩ := new z _ _ hz az (hI.base.good z hz lz)
   rw [hb]
   intro e
   injection e with e
   injection e with e
   injection e with e
   omega
  by_cases ex : x = i
  ·subst ex
   rw [if_pos rfl, if_neg (fun e => hne (hinj y hy e).symm), hnew ax]
   rw [getB_set _ _ _ _ (fun e => hne e.symm)] at ly
   exact clash y hy ay ly
  ·rw [if_neg (fun e => ex (hinj x hx e))]
   rw [getB_set _ _ _ _ ex] at lx
   by_cases ey : y = i
   ·subst ey
    rw [if_pos rfl, hnew ay]
    exact (clash x hx ax lx).symm
   ·rw [if_neg (fun e => ey (hinj y hy e))]
    rw [getB_set _ _ _ _ ey] at ly
    exact hI.apart x y hx hy ax ay hne lx ly
 ·intro l a w hI hall
  have h2 := last w (fun j => a.tmps.getD (dstOf ops j) undef) (fun j hj => hI.base.good j hj (hall j hj)) (fun i j hi hj ai aj hne => hI.apart i j hi hj ai aj hne (hall i hi) (hall j hj)) ((Chg.refl w0).drew.trans hI.base.chg)
  rw [← fin_of hI.base] at h2
  exact h2
theorem regN {P : Program} {id : Nat} {ops : Array Oper} {Q : Exit → Act → World → Prop} {a0 : Act} {w0 : World} (n : Nat) (G : Nat → Value → World → Prop) (hm : P.follows .mixedOrders = true) (hn : ops.size = n) (hd : dagB ops = true) (hsl : slotsB ops n a0.tmps.size = true)
  (mono : ∀ j v u u', G j v u → Chg u u' → G j v u')
  (step : ∀ i o a w, i < n → ops[i]? = some o → a.tmps.size = a0.tmps.size → (∀ k, freeSlot ops n k = true → a.tmps.getD k undef = a0.tmps.getD k undef) → (∀ j, depB ops i j = true → j < n → G j (a.tmps.getD (dstOf ops j) undef) w) → Chg w0 w → (Region.wanted o (yielded ops a.tmps) = true ∧ o.wp P a w (fun a' w' => ∃ v, a' = a.put o.dst v ∧ G i v w' ∧ Chg w w') Q) ∨ (Region.wanted o (yielded ops a.tmps) = false ∧ G i undef w))
  (last : ∀ w (V : Nat → Value), (∀ j, j < n → G j (V j) w) → Chg w0 w → Q .normal ⟨finF ops n V a0.tmps, a0.defers⟩ w) : (Code.region id ops true).wp P Q a0 w0 := by
 have hrep : ∀ i, (Array.replicate ops.size false).getD i false = false := fun i => by
  rw [Array.getD_eq_getD_getElem?]
  by_cases e : i < ops.size
  ·simp [e]
  ·simp [e]
 refine wp_region_inv2 hm (RG ops n G w0.drew a0) hd ?_ ?_ ⟨Chg.refl _, rfl, rfl, fun _ _ => rfl, fun j hj hl => by rw [hrep] at hl; cases hl⟩
 ·intro l a w i hI hi hls hli hdep
  have hin : i < n := by omega
  have ho : ops[i]? = some ops[i] := Array.getElem?_eq_getElem hi
  unfold wpOp
  rw [ho]
  dsimp only
  rcases step i ops[i] a w hin ho hI.size hI.frame (fun j hj hjn => hI.good j hjn (hdep j hj)) ((Chg.refl w0).drew.trans hI.chg) with ⟨h1, h2⟩ | ⟨h1, h2⟩
  ·rw [h1, if_pos rfl]
   refine .inl (Oper.wp_mono ?_ h2)
   rintro a' w' ⟨v, rfl, hv, hc⟩
   exact hI.put hsl mono hin ho hc hv
  ·rw [h1, if_neg (by decide)]
   exact hI.put hsl mono hin ho (Chg.refl _) h2
 ·intro l a w hI hall
  have h2 := last w (fun j => a.tmps.getD (dstOf ops j) undef) (fun j hj => hI.good j hj (hall j (by omega))) ((Chg.refl w0).drew.trans hI.chg)
  rw [← fin_of hI] at h2
  exact h2
theorem regP {P : Program} {id : Nat} {ops : Array Oper} {Q : Exit → Act → World → Prop} {a0 : Act} {w0 : World} (n : Nat) (G : Nat → Value → World → Prop) (hn : n ≤ ops.size) (hsl : slotsB ops n a0.tmps.size = true)
  (mono : ∀ j v u u', G j v u → Chg u u' → G j v u')
  (step : ∀ i o a w, i < n → ops[i]? = some o → a.tmps.size = a0.tmps.size → (∀ k, freeSlot ops n k = true → a.tmps.getD k undef = a0.tmps.getD k undef) → (∀ j, j < i → j < n → G j (a.tmps.getD (dstOf ops j) undef) w) → Chg w0 w → (Region.wanted o (yielded ops a.tmps) = true ∧ o.wp P a w (fun a' w' => ∃ v, a' = a.put o.dst v ∧ G i v w' ∧ Chg w w') Q) ∨ (Region.wanted o (yielded ops a.tmps) = false ∧ G i undef w))
  (last : ∀ w (V : Nat → Value), (∀ j, j < n → G j (V j) w) → Chg w0 w → wpList P ops Q (ops.toList.drop n) ⟨finF ops n V a0.tmps, a0.defers⟩ w) : (Code.region id ops false).wp P Q a0 w0 := by
 refine wp_region_list ?_
 have key : ∀ m k, k + m = n → ∀ l a w, l.size = n + 1 → (∀ j, j < n + 1 → (l.getD j false = true ↔ j < k)) → RG ops n G w0 a0 l a w → wpList P ops Q (ops.toList.drop k) a w := by
  intro m
  induction m with
  | zero =>
   intro k hk l a w hls hl hI
   have hk' : k = n := by omega
   subst hk'
   have h2 := last w (fun j => a.tmps.getD (dstOf ops j) undef) (fun j hj => hI.good j hj ((hl j (by omega)).2 hj)) hI.chg
   rw [← fin_of hI] at h2
   exact h2
  | succ m ih =>
   intro k hk l a w hls hl hI
   have hlt : k < ops.toList.length := by simp; omega
   have hlt' : k < n := by omega
   rw [List.drop_eq_getElem_cons hlt]
   have ho : ops[k]? = some (ops.toList[k]) := by rw [← Array.getElem?_toList, List.getElem?_eq_getElem hlt]
   have hl' : ∀ j, j < n + 1 → ((l.setIfInBounds k true).getD j false = true ↔ j < k + 1) := by
    intro j hj
    by_cases e : j = k
    ·subst e
     rw [Array.getD_eq_getD_getElem?, Array.getElem?_setIfInBounds_self_of_lt (by omega)]
     simp
    ·rw [getB_set _ _ _ _ e, hl j hj]
     omega
   unfold wpList
   rcases step k _ a w hlt' ho hI.size hI.frame (fun j hj hjn => hI.good j hjn ((hl j (by omega)).2 hj)) hI.chg with ⟨h1, h2⟩ | ⟨h1, h2⟩
   ·rw [if_pos h1]
    refine .inl (Oper.wp_mono ?_ h2)
    rintro a' w' ⟨v, rfl, hv, hc⟩
    exact ih (k + 1) (by omega) _ _ w' (by simp [hls]) hl' (hI.put hsl mono hlt' ho hc hv)
   ·rw [if_neg (by rw [h1]; decide)]
    exact ih (k + 1) (by omega) _ _ w (by simp [hls]) hl' (hI.put hsl mono hlt' ho (Chg.refl _) h2)
 have h0 := key n 0 (by omega) (Array.replicate (n + 1) false) a0 w0 (by simp) (fun j hj => by
  rw [Array.getD_eq_getD_getElem?]
  simp [hj]) ⟨Chg.refl _, rfl, rfl, fun _ _ => rfl, fun j hj hl => by
   exfalso
   rw [Array.getD_eq_getD_getElem?] at hl
   have : j < n + 1 := by omega
   simp [this] at hl⟩
 simpa using h0
end Go.Proofs.Ytbdgmkejmfjobaa

namespace Go.Proofs.Ytbdgmkejmfjobaa
open Go.RowKit
set_option linter.unusedVariables false
def dagC (ops : Array Oper) : Bool := (List.range ops.size).all fun i => ((ops[i]?).map fun o => o.after.all fun e => !(Region.binds .any e) || decide (e.on < i)).getD true
theorem ready_nilC {ops : Array Oper} {l : Array Bool} (hd : dagC ops = true) (hs : l.size = ops.size) (h : Region.ready .any ops l = []) : ∀ i, i < ops.size → l.getD i false = true := by
 intro i
 induction i using Nat.strongRecOn with
 | ind i ih =>
  intro hi
  unfold Region.ready at h
  rw [List.filter_eq_nil_iff] at h
  have h1 := h i (List.mem_range.2 hi)
  unfold dagC at hd
  rw [List.all_eq_true] at hd
  have h2 := hd i (List.mem_range.2 hi)
  have hil : i < l.size := by omega
  by_cases hb : l[i] = true
  ·simp [Array.getD, hil, hb]
  ·exfalso
   apply h1
   rw [Bool.and_eq_true]
   refine ⟨by simp [Array.getD, hil, hb], ?_⟩
   rw [Array.getElem?_eq_getElem hi] at h2 ⊢
   simp only [Option.map_some, Option.getD_some] at h2 ⊢
   rw [Array.all_eq_true] at h2 ⊢
   intro k hk
   have h3 := h2 k hk
   rw [Bool.or_eq_true, decide_eq_true_eq] at h3
   rcases h3 with h3 | h3
   ·rw [h3]
    simp
   ·rw [ih _ h3 (by omega)]
    simp
theorem wpAny_invC {P : Program} {ops : Array Oper} {Q : Exit → Act → World → Prop} (I : Array Bool → Act → World → Prop) (hd : dagC ops = true)
  (step : ∀ l a w i, I l a w → i < ops.size → l.size = ops.size → l.getD i false = false → (∀ j, depB ops i j = true → l.getD j false = true) → wpOp P ops Q i (fun a' w' => I (l.setIfInBounds i true) a' w') a w)
  (done : ∀ l a w, I l a w → (∀ i, i < ops.size → l.getD i false = true) → Q .normal a w) :
  ∀ (fuel : Nat) (l : Array Bool) (a : Act) (w : World), l.size = ops.size → cntF l ≤ fuel → I l a w → wpAny P .any ops Q fuel l a w := by
 intro fuel
 induction fuel with
 | zero =>
  intro l a w hs hc hI
  have hz := cntF_zero l.toList (by unfold cntF at hc; omega)
  have hr : Region.ready .any ops l = [] := by
   unfold Region.ready
   rw [List.filter_eq_nil_iff]
   intro i hi
   have hi' := List.mem_range.1 hi
   have := hz i (by simp; omega)
   have hil : i < l.size := by omega
   rw [Array.getElem?_toList, Array.getElem?_eq_getElem hil] at this
   injection this with this
   simp [Array.getD, hil, this]
  exact ⟨hr, done l a w hI (ready_nilC hd hs hr)⟩
 | succ fuel ih =>
  intro l a w hs hc hI
  refine ⟨fun hr => done l a w hI (ready_nilC hd hs hr), fun i hi => ?_⟩
  obtain ⟨h1, h2, h3⟩ := ready_mem hi
  have hil : i < l.size := by omega
  have h2' : l.getD i false = false := by
   simp only [Array.getD, hil, dif_pos] at h2 ⊢
   exact h2
  refine wpOp_mono (fun a' w' hI' => ih _ a' w' (by rw [Array.size_setIfInBounds]; exact hs) ?_ hI') (step l a w i hI h1 hs h2' h3)
  have hli : l.toList[i]? = some false := by
   rw [Array.getElem?_toList, Array.getElem?_eq_getElem hil]
   simpa [Array.getD, hil] using h2
  have := cntF_set l.toList i hli
  unfold cntF at hc ⊢
  rw [Array.toList_setIfInBounds]
  omega
theorem wp_region_invC {P : Program} {id : Nat} {ops : Array Oper} {Q : Exit → Act → World → Prop} {a : Act} {w : World} (hm : P.follows .mixedOrders = true) (I : Array Bool → Act → World → Prop) (hd : dagC ops = true)
  (step : ∀ l a w i, I l a w → i < ops.size → l.size = ops.size → l.getD i false = false → (∀ j, depB ops i j = true → l.getD j false = true) → wpOp P ops Q i (fun a' w' => I (l.setIfInBounds i true) a' w') a w)
  (done : ∀ l a w, I l a w → (∀ i, i < ops.size → l.getD i false = true) → Q .normal a w) (start : I (Array.replicate ops.size false) a w.drew) : (Code.region id ops true).wp P Q a w :=
 wp_region_any hm (wpAny_invC I hd step done ops.size _ a _ (by simp) (cntF_start _) start)
def slotsS (ops : Array Oper) (s size : Nat) : Bool := (List.range ops.size).all fun i => i == s || (((ops[i]?).bind (·.dst)).isSome && decide (dstOf ops i < size) && (List.range ops.size).all fun j => j == s || i == j || dstOf ops i != dstOf ops j)
def freeS (ops : Array Oper) (s k : Nat) : Bool := (List.range ops.size).all fun j => j == s || dstOf ops j != k
def finS (ops : Array Oper) (s : Nat) (V : Nat → Value) (T : Array Value) : Array Value := ((List.range T.size).map fun k => ((List.range ops.size).find? fun j => j != s && dstOf ops j == k).elim (T.getD k undef) V).toArray
theorem dst_someS {ops : Array Oper} {s size i : Nat} {o : Oper} (h : slotsS ops s size = true) (hi : i < ops.size) (his : i ≠ s) (ho : ops[i]? = some o) : o.dst = some (dstOf ops i) ∧ dstOf ops i < size ∧ ∀ j, j < ops.size → j ≠ s → dstOf ops j = dstOf ops i → j = i := by
 unfold slotsS at h
 rw [List.all_eq_true] at h
 have h1 := h i (List.mem_range.2 hi)
 rw [Bool.or_eq_true, beq_iff_eq] at h1
 rcases h1 with h1 | h1
 ·exact absurd h1 his
 rw [Bool.and_eq_true, Bool.and_eq_true, decide_eq_true_eq, List.all_eq_true] at h1
 obtain ⟨⟨h2, h3⟩, h4⟩ := h1
 refine ⟨?_, h3, fun j hj hjs e => ?_⟩
 ·rw [ho] at h2
  simp only [Option.bind_some] at h2
  cases hd : o.dst with
  | none => rw [hd] at h2; cases h2
  | some d => simp [dstOf, ho, hd]
 ·have h5 := h4 j (List.mem_range.2 hj)
  rw [Bool.or_eq_true, Bool.or_eq_true, beq_iff_eq, beq_iff_eq] at h5
  rcases h5 with (h5 | h5) | h5
  ·exact absurd h5 hjs
  ·exact h5.symm
  ·rw [e] at h5; simp at h5
structure RS (ops : Array Oper) (s : Nat) (G : Nat → Value → Bool → World → Prop) (B : Bool → World → Prop) (a0 : Act) (l : Array Bool) (a : Act) (w : World) : Prop where
 base : B (l.getD s false) w
 closed : l.getD s false = true → ∀ j, depB ops s j = true → l.getD j false = true
 defers : a.defers = a0.defers
 size : a.tmps.size = a0.tmps.size
 frame : ∀ k, freeS ops s k = true → a.tmps.getD k undef = a0.tmps.getD k undef
 good : ∀ j, j < ops.size → j ≠ s → l.getD j false = true → G j (a.tmps.getD (dstOf ops j) undef) (l.getD s false) w
theorem RS.put {ops : Array Oper} {s : Nat} {G : Nat → Value → Bool → World → Prop} {B : Bool → World → Prop} {a0 : Act} {l : Array Bool} {a : Act} {w w' : World} {v : Value} (hsl : slotsS ops s a0.tmps.size = true) (mono : ∀ j v f u u', G j v f u → Chg u u' → G j v f u') (monoB : ∀ f u u', B f u → Chg u u' → B f u') (h : RS ops s G B a0 l a w) {i : Nat} {o : Oper} (hi : i < ops.size) (his : i ≠ s) (ho : ops[i]? = some o) (k : Chg w w') (hv : G i v (l.getD s false) w') : RS ops s G B a0 (l.setIfInBounds i true) (a.put o.dst v) w' := by
 obtain ⟨hd, hlt, hinj⟩ := dst_someS hsl hi his ho
 rw [hd]
 have es : (l.setIfInBounds i true).getD s false = l.getD s false := getB_set _ _ _ _ (fun e => his e.symm)
 refine ⟨by rw [es]; exact monoB _ _ _ h.base k, fun hl j hj => ?_, h.defers, by simp [Act.put, h.size], fun m hm => ?_, fun j hj hjs hl => ?_⟩
 ·rw [es] at hl
  by_cases e : j = i
  ·subst e
   by_cases hj2 : j < l.size
   ·rw [Array.getD_eq_getD_getElem?, Array.getElem?_setIfInBounds_self_of_lt hj2]
    rfl
   ·have := h.closed hl j hj
    rw [Array.getD_eq_getD_getElem?] at this
    simp [hj2] at this
  ·rw [getB_set _ _ _ _ e]
   exact h.closed hl j hj
 ·show (a.tmps.setIfInBounds (dstOf ops i) v).getD m undef = _
  have hne : m ≠ dstOf ops i := by
   unfold freeS at hm
   rw [List.all_eq_true] at hm
   have := hm i (List.mem_range.2 hi)
   rw [Bool.or_eq_true, beq_iff_eq] at this
   intro e
   rw [e] at this
   rcases this with this | this
   ·exact his this
   ·simp at this
  rw [getD_set _ _ _ _ (by rw [h.size]; exact hlt), if_neg hne]
  exact h.frame m hm
 ·show G j ((a.tmps.setIfInBounds (dstOf ops i) v).getD (dstOf ops j) undef) _ w'
  rw [es, getD_set _ _ _ _ (by rw [h.size]; exact hlt)]
  by_cases e : j = i
  ·subst e; rw [if_pos rfl]; exact hv
  ·rw [if_neg (fun x => e (hinj j hj hjs x))]
   rw [getB_set _ _ _ _ e] at hl
   exact mono j _ _ w w' (h.good j hj hjs hl) k
theorem wp_region_store {P : Program} {id : Nat} {ops : Array Oper} {Q : Exit → Act → World → Prop} {a0 : Act} {w0 : World} (s : Nat) (G : Nat → Value → Bool → World → Prop) (B : Bool → World → Prop) (hm : P.follows .mixedOrders = true) (hs : s < ops.size) (hd : dagC ops = true) (hg : freeB ops = true) (hsl : slotsS ops s a0.tmps.size = true)
  (mono : ∀ j v f u u', G j v f u → Chg u u' → G j v f u') (monoB : ∀ f u u', B f u → Chg u u' → B f u')
  (step : ∀ i o a w f, i < ops.size → i ≠ s → ops[i]? = some o → (depB ops s i = true → f = false) → (∀ k, freeS ops s k = true → a.tmps.getD k undef = a0.tmps.getD k undef) → (∀ j, depB ops i j = true → j < ops.size → j ≠ s → G j (a.tmps.getD (dstOf ops j) undef) f w) → B f w → o.wp P a w (fun a' w' => ∃ v, a' = a.put o.dst v ∧ G i v f w' ∧ Chg w w') Q)
  (stor : ∀ o a w, ops[s]? = some o → (∀ k, freeS ops s k = true → a.tmps.getD k undef = a0.tmps.getD k undef) → (∀ j, depB ops s j = true → j < ops.size → j ≠ s → G j (a.tmps.getD (dstOf ops j) undef) false w) → B false w → o.wp P a w (fun a' w' => a' = a ∧ B true w' ∧ ∀ j, j < ops.size → j ≠ s → G j (a.tmps.getD (dstOf ops j) undef) false w → G j (a.tmps.getD (dstOf ops j) undef) true w') Q)
  (start : B false w0.drew)
  (done : ∀ w (V : Nat → Value), (∀ j, j < ops.size → j ≠ s → G j (V j) true w) → B true w → Q .normal ⟨finS ops s V a0.tmps, a0.defers⟩ w) : (Code.region id ops true).wp P Q a0 w0 := by
 have hrep : ∀ i, (Array.replicate ops.size false).getD i false = false := fun i => by
  rw [Array.getD_eq_getD_getElem?]
  by_cases e : i < ops.size
  ·simp [e]
  ·simp [e]
 refine wp_region_invC hm (RS ops s G B a0) hd ?_ ?_ ⟨by rw [hrep]; exact start, fun h => absurd h (by rw [hrep]; decide), rfl, rfl, fun _ _ => rfl, fun j hj hjs hl => ?_⟩
 ·intro l a w i hI hi hls hli hdep
  obtain ⟨o, ho⟩ : ∃ o, ops[i]? = some o := ⟨ops[i], Array.getElem?_eq_getElem hi⟩
  unfold wpOp
  rw [ho]
  simp only [wanted_none (free_of hg ho), if_true]
  refine .inl ?_
  by_cases e : i = s
  ·subst e
   have hb := hI.base
   rw [hli] at hb
   refine Oper.wp_mono ?_ (stor o a w ho hI.frame (fun j hj hjn hjs => by have := hI.good j hjn hjs (hdep j hj); rw [hli] at this; exact this) hb)
   rintro a' w' ⟨rfl, h1, h2⟩
   have es : (l.setIfInBounds i true).getD i false = true := by
    rw [Array.getD_eq_getD_getElem?, Array.getElem?_setIfInBounds_self_of_lt (by omega)]
    rfl
   refine ⟨by rw [es]; exact h1, fun _ j hj => ?_, hI.defers, hI.size, hI.frame, fun j hj hjs hl => ?_⟩
   ·by_cases e : j = i
    ·subst e; exact es
    ·rw [getB_set _ _ _ _ e]; exact hdep j hj
   rw [es]
   rw [getB_set _ _ _ _ hjs] at hl
   have := hI.good j hj hjs hl
   rw [hli] at this
   exact h2 j hj hjs this
  ·refine Oper.wp_mono ?_ (step i o a w _ hi e ho (fun hd' => ?_) hI.frame (fun j hj hjn hjs => hI.good j hjn hjs (hdep j hj)) hI.base)
   ·rintro a' w' ⟨v, rfl, hv, hc⟩
    exact hI.put hsl mono monoB hi e ho hc hv
   ·cases hx : l.getD s false with
    | false => rfl
    | true =>
     have := hI.closed hx i hd'
     rw [hli] at this
     cases this
 ·intro l a w hI hall
  have hls := hall s hs
  have e : a = ⟨finS ops s (fun j => a.tmps.getD (dstOf ops j) undef) a0.tmps, a0.defers⟩ := by
   obtain ⟨A, d⟩ := a
   have hdf : d = a0.defers := hI.defers
   subst hdf
   congr 1
   refine Array.ext (by simp [finS]; exact hI.size) ?_
   intro k h1 h2
   have h3 : A[k] = A.getD k undef := by simp [h1]
   rw [h3]
   simp only [finS, List.getElem_toArray, List.getElem_map, List.getElem_range]
   cases hf : (List.range ops.size).find? fun j => j != s && dstOf ops j == k with
   | none =>
    refine hI.frame k ?_
    unfold freeS
    rw [List.all_eq_true]
    intro j hj
    have := (List.find?_eq_none.1 hf) j hj
    by_cases ej : j = s
    ·simp [ej]
    ·simp [ej] at this
     simp [this]
   | some j =>
    have h4 := List.find?_some hf
    have h6 : dstOf ops j = k := by
     rw [Bool.and_eq_true, beq_iff_eq] at h4
     exact h4.2
    rw [← h6]
    rfl
  rw [e]
  have hb := hI.base
  rw [hls] at hb
  refine done w _ (fun j hj hjs => ?_) hb
  have := hI.good j hj hjs (hall j hj)
  rw [hls] at this
  exact this
 ·rw [hrep] at hl
  cases hl
end Go.Proofs.Ytbdgmkejmfjobaa
