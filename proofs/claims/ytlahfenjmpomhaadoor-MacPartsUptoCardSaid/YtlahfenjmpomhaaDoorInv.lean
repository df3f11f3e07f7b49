/-
  A region that draws its order, walked operation by operation: what holds behind each, whatever came up before. No order is tried by itself.
-/
import Derived.Test.YtlahfenjmpomhaaDoorHlp
namespace Go.Proofs.YtlahfenjmpomhaaDoor
open Go.RowKit
set_option linter.unusedVariables false

def cntF (l : Array Bool) : Nat := (l.toList.filter (fun b => !b)).length
theorem cntF_set (l : List Bool) (i : Nat) (h : l[i]? = some false) : ((l.set i true).filter (fun b => !b)).length < (l.filter (fun b => !b)).length := by
  induction l generalizing i with
  | nil => simp at h
  | cons b l ih =>
    cases i with
    | zero =>
      simp at h
      subst h
      simp
    | succ i =>
      simp at h
      have := ih i h
      cases b <;> simp <;> omega
theorem cntF_zero (l : List Bool) (h : (l.filter (fun b => !b)).length = 0) : ∀ i, i < l.length → l[i]? = some true := by
  intro i hi
  rw [List.length_eq_zero_iff, List.filter_eq_nil_iff] at h
  have := h l[i] (List.getElem_mem hi)
  rw [List.getElem?_eq_getElem hi]
  simpa using this
/-- Does an operation wait for another? -/
def depB (ops : Array Oper) (i j : Nat) : Bool := ((ops[i]?).map fun o => o.after.any fun e => Region.binds .any e && e.on == j).getD false
/-- No operation waits for a later one. -/
def dagB (ops : Array Oper) : Bool := (List.range ops.size).all fun i => ((ops[i]?).map fun o => o.after.all fun e => decide (e.on < i)).getD true

theorem ready_mem {ops : Array Oper} {l : Array Bool} {i : Nat} (h : i ∈ Region.ready .any ops l) : i < ops.size ∧ l.getD i true = false ∧ ∀ j, depB ops i j = true → l.getD j false = true := by
  unfold Region.ready at h
  rw [List.mem_filter, List.mem_range, Bool.and_eq_true] at h
  obtain ⟨h1, h2, h3⟩ := h
  refine ⟨h1, by simpa using h2, fun j hj => ?_⟩
  unfold depB at hj
  cases ho : ops[i]? with
  | none => rw [ho] at hj; cases hj
  | some o =>
    rw [ho] at hj h3
    simp only [Option.map_some, Option.getD_some] at hj h3
    rw [Array.any_eq_true] at hj
    obtain ⟨k, hk, hj⟩ := hj
    rw [Array.all_eq_true] at h3
    have h4 := h3 k hk
    simp only [Bool.and_eq_true, beq_iff_eq] at hj
    rw [hj.1] at h4
    simp only [Bool.not_true, Bool.false_or] at h4
    rw [← hj.2]
    exact h4
theorem ready_nil {ops : Array Oper} {l : Array Bool} (hd : dagB ops = true) (hs : l.size = ops.size) (h : Region.ready .any ops l = []) : ∀ i, i < ops.size → l.getD i false = true := by
  intro i
  induction i using Nat.strongRecOn with
  | ind i ih =>
    intro hi
    unfold Region.ready at h
    rw [List.filter_eq_nil_iff] at h
    have h1 := h i (List.mem_range.2 hi)
    unfold dagB at hd
    rw [List.all_eq_true] at hd
    have h2 := hd i (List.mem_range.2 hi)
    have hil : i < l.size := by omega
    by_cases hb : l[i] = true
    · simp [Array.getD, hil, hb]
    · exfalso
      apply h1
      rw [Bool.and_eq_true]
      refine ⟨by simp [Array.getD, hil, hb], ?_⟩
      rw [Array.getElem?_eq_getElem hi] at h2 ⊢
      simp only [Option.map_some, Option.getD_some] at h2 ⊢
      rw [Array.all_eq_true] at h2 ⊢
      intro k hk
      have h3 := h2 k hk
      rw [decide_eq_true_eq] at h3
      rw [ih _ h3 (by omega)]
      simp

theorem wpAny_inv {P : Program} {ops : Array Oper} {Q : Exit → Act → World → Prop} (I : Array Bool → Act → World → Prop) (hd : dagB ops = true)
    (step : ∀ l a w i, I l a w → i < ops.size → (∀ j, depB ops i j = true → l.getD j false = true) → wpOp P ops Q i (fun a' w' => I (l.setIfInBounds i true) a' w') a w)
    (done : ∀ l a w, I l a w → (∀ i, i < ops.size → l.getD i false = true) → Q .normal a w) :
    ∀ (fuel : Nat) (l : Array Bool) (a : Act) (w : World), l.size = ops.size → cntF l ≤ fuel → I l a w → wpAny P .any ops Q fuel l a w := by
  intro fuel
  induction fuel with
  | zero =>
    intro l a w hs hc hI
    have hz := cntF_zero l.toList (by unfold cntF at hc; omega)
    have hr : Region.ready .any ops l = [] := by
      unfold Region.ready
      rw [List.filter_eq_nil_iff]
      intro i hi
      have hi' := List.mem_range.1 hi
      have := hz i (by simp; omega)
      have hil : i < l.size := by omega
      rw [Array.getElem?_toList, Array.getElem?_eq_getElem hil] at this
      injection this with this
      simp [Array.getD, hil, this]
    exact ⟨hr, done l a w hI (ready_nil hd hs hr)⟩
  | succ fuel ih =>
    intro l a w hs hc hI
    refine ⟨fun hr => done l a w hI (ready_nil hd hs hr), fun i hi => ?_⟩
    obtain ⟨h1, h2, h3⟩ := ready_mem hi
    refine wpOp_mono (fun a' w' hI' => ih _ a' w' (by rw [Array.size_setIfInBounds]; exact hs) ?_ hI') (step l a w i hI h1 h3)
    have hil : i < l.size := by omega
    have hli : l.toList[i]? = some false := by
      rw [Array.getElem?_toList, Array.getElem?_eq_getElem hil]
      simpa [Array.getD, hil] using h2
    have := cntF_set l.toList i hli
    unfold cntF at hc ⊢
    rw [Array.toList_setIfInBounds]
    omega
theorem cntF_start (n : Nat) : cntF (Array.replicate n false) ≤ n := by
  unfold cntF
  simp
/-- The region as a whole. -/
theorem wp_region_inv {P : Program} {id : Nat} {ops : Array Oper} {Q : Exit → Act → World → Prop} {a : Act} {w : World} (hm : P.follows .mixedOrders = true) (I : Array Bool → Act → World → Prop) (hd : dagB ops = true)
    (step : ∀ l a w i, I l a w → i < ops.size → (∀ j, depB ops i j = true → l.getD j false = true) → wpOp P ops Q i (fun a' w' => I (l.setIfInBounds i true) a' w') a w)
    (done : ∀ l a w, I l a w → (∀ i, i < ops.size → l.getD i false = true) → Q .normal a w) (start : I (Array.replicate ops.size false) a w.drew) : (Code.region id ops true).wp P Q a w :=
  wp_region_any hm (wpAny_inv I hd step done ops.size _ a _ (by simp) (cntF_start _) start)
def regOf (n : Nat) : Code → Option Code
  | .region i ops b => if i = n then some (.region i ops b) else none
  | .block _ b => regOf n b
  | .seq a b => match regOf n a with
    | some c => some c
    | none => regOf n b
  | .cond _ a b => match regOf n a with
    | some c => some c
    | none => regOf n b
  | .loop b => regOf n b
  | _ => none
def reg (f : Func) (n : Nat) : Code := match f.body with
  | some c => (regOf n c).getD .skip
  | none => .skip
def opsOf : Code → Array Oper
  | .region _ ops _ => ops
  | _ => #[]
theorem op_of {ops : Array Oper} {i : Nat} {d : Option Tmp} {x : Op} {g : Option (Nat × Bool)} (h : (ops[i]?).map (fun o => (o.dst, o.op, o.guard)) = some (d, x, g)) : ∃ o, ops[i]? = some o ∧ o.dst = d ∧ o.op = x ∧ o.guard = g := by
  cases ho : ops[i]? with
  | none => rw [ho] at h; cases h
  | some o =>
    rw [ho] at h
    simp only [Option.map_some, Option.some.injEq, Prod.mk.injEq] at h
    exact ⟨o, rfl, h.1, h.2.1, h.2.2⟩
theorem step_val {P : Program} {ops : Array Oper} {Q : Exit → Act → World → Prop} {K : Act → World → Prop} {a : Act} {w w' : World} {i d : Nat} {o : Oper} {v : Value} (ho : ops[i]? = some o) (hw : Region.wanted o (yielded ops a.tmps) = true) (hd : o.dst = some d) (hrun : (execOp a.eval o).run P w = .ok (.value v) w') (hK : K (a.put (some d) v) w') : wpOp P ops Q i K a w := by
  unfold wpOp
  rw [ho]
  simp only [hw, if_true]
  refine .inl ?_
  unfold Oper.wp
  rw [hrun, Oper.upon_value, hd]
  exact hK
theorem step_call {P : Program} {ops : Array Oper} {Q : Exit → Act → World → Prop} {K : Act → World → Prop} {a : Act} {w : World} {i d f : Nat} {o : Oper} {vs : Array Value} (ho : ops[i]? = some o) (hw : Region.wanted o (yielded ops a.tmps) = true) (hd : o.dst = some d) (hrun : (execOp a.eval o).run P w = .ok (.enter f vs) w) (hc : Calls P f vs w fun e w' => ∃ v, e = .returned v ∧ K (a.put (some d) v) w') : wpOp P ops Q i K a w := by
  unfold wpOp
  rw [ho]
  simp only [hw, if_true]
  refine .inl ?_
  unfold Oper.wp
  rw [hrun]
  show Calls P f vs w _
  refine hc.mono ?_
  rintro e w' ⟨v, rfl, h⟩
  rw [hd]
  exact h
theorem wanted_none {o : Oper} {y : Nat → Option Bool} (h : o.guard = none) : Region.wanted o y = true := by
  unfold Region.wanted
  rw [h]
theorem wanted_some {o oj : Oper} {ops : Array Oper} {A : Array Value} {j d : Nat} (h : o.guard = some (j, true)) (hj : ops[j]? = some oj) (hd : oj.dst = some d) (hs : d < A.size) (hv : A.getD d undef = .bool true) : Region.wanted o (yielded ops A) = true := by
  unfold Region.wanted
  rw [h]
  show (yielded ops A j == some true) = true
  unfold yielded
  rw [hj]
  simp only [Option.bind_some, hd]
  have : A[d]? = some (.bool true) := by
    rw [Array.getElem?_eq_getElem hs]
    simp only [Array.getD, hs, dif_pos] at hv
    rw [← hv]
    rfl
  rw [this]
  rfl

theorem run_go (a : Act) (o : Oper) (f : Nat) (fn : Func) (xs : Array Operand) (ts : Array TypeId) (w : World) (hf : Tryd.prog.funcs[f]? = some fn) (hn : (fn.name == "runtime.NumGoroutine") = false) (hb : fn.body.isNone = false) (h : o.op = .call { callee := .value (.func f), args := xs, argTypes := ts }) : (execOp a.eval o).run Tryd.prog w = .ok (.enter f (xs.map a.eval)) w := by
  have he : a.eval (.func f) = .func (.func f) #[] #[] := rfl
  have hn' : ¬ fn.name = "runtime.NumGoroutine" := by simpa using hn
  have hb' : ¬ fn.body = none := fun e => by rw [e] at hb; cases hb
  simp [execOp, h, resolve, invoke, he, Deferred.ofValue, callFunc, hf, hn', hb']
theorem getD_set (A : Array Value) (d k : Nat) (v : Value) (h : d < A.size) : (A.setIfInBounds d v).getD k undef = if k = d then v else A.getD k undef := by
  rw [Array.getD_eq_getD_getElem?, Array.getD_eq_getD_getElem?]
  by_cases e : k = d
  · subst e
    rw [if_pos rfl, Array.getElem?_setIfInBounds_self_of_lt h]
    rfl
  · rw [if_neg e, Array.getElem?_setIfInBounds_ne (fun x => e x.symm)]
theorem getB_set (A : Array Bool) (d k : Nat) (v : Bool) (hk : k ≠ d) : (A.setIfInBounds d v).getD k false = A.getD k false := by
  rw [Array.getD_eq_getD_getElem?, Array.getD_eq_getD_getElem?, Array.getElem?_setIfInBounds_ne (fun x => hk x.symm)]
/-- What holds whatever has come up: n operations, each with its slot and what its value means. -/
structure RI (n size : Nat) (dst : Nat → Nat) (G : Nat → Value → World → Prop) (w0 : World) (T : Array Value) (l : Array Bool) (a : Act) (w : World) : Prop where
  chg : Chg w0 w
  defers : a.defers = []
  size : a.tmps.size = size
  ls : l.size = n
  frame : ∀ k, (∀ j, j < n → dst j ≠ k) → a.tmps.getD k undef = T.getD k undef
  good : ∀ j, j < n → l.getD j false = true → G j (a.tmps.getD (dst j) undef) w
theorem RI.put {n size : Nat} {dst : Nat → Nat} {G : Nat → Value → World → Prop} {w0 : World} {T : Array Value} {l : Array Bool} {a : Act} {w w' : World} (hinj : ∀ j k, j < n → k < n → dst j = dst k → j = k) (hdst : ∀ j, j < n → dst j < size) (hmono : ∀ j v u u', G j v u → Chg u u' → G j v u') (h : RI n size dst G w0 T l a w) (i : Nat) (hi : i < n) (v : Value) (k : Chg w w') (hg : G i v w') : RI n size dst G w0 T (l.setIfInBounds i true) (a.put (some (dst i)) v) w' := by
  refine ⟨h.chg.trans k, h.defers, ?_, ?_, fun m hm => ?_, fun j hj hl => ?_⟩
  · simp [Act.put, h.size]
  · rw [Array.size_setIfInBounds]; exact h.ls
  · show (a.tmps.setIfInBounds (dst i) v).getD m undef = _
    rw [getD_set _ _ _ _ (by rw [h.size]; exact hdst i hi), if_neg (fun e => hm i hi e.symm)]
    exact h.frame m hm
  · show G j ((a.tmps.setIfInBounds (dst i) v).getD (dst j) undef) w'
    rw [getD_set _ _ _ _ (by rw [h.size]; exact hdst i hi)]
    by_cases e : j = i
    · subst e
      rw [if_pos rfl]
      exact hg
    · rw [if_neg (fun x => e (hinj j i hj hi x))]
      rw [getB_set _ _ _ _ e] at hl
      exact hmono j _ w w' (h.good j hj hl) k
end Go.Proofs.YtlahfenjmpomhaaDoor
