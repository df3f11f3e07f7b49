/-
  A region that draws its order, walked operation by operation: what holds behind each, whatever came up before. No order is tried by itself.
-/
import Derived.Test.YtbnonbhlfiadaaaDoorJn
import Derived.Test.YtbnonbhlfiadaaaDoorEndsW
namespace Go.Proofs.YtbnonbhlfiadaaaDoor
open Go.RowKit
set_option linter.unusedVariables false

def cntF (l : Array Bool) : Nat := (l.toList.filter (fun b => !b)).length
theorem cntF_set (l : List Bool) (i : Nat) (h : l[i]? = some false) : ((l.set i true).filter (fun b => !b)).length < (l.filter (fun b => !b)).length := by
  induction l generalizing i with
  | nil => simp at h
  | cons b l ih =>
    cases i with
    | zero =>
      simp at h
      subst h
      simp
    | succ i =>
      simp at h
      have := ih i h
      cases b <;> simp <;> omega
theorem cntF_zero (l : List Bool) (h : (l.filter (fun b => !b)).length = 0) : ∀ i, i < l.length → l[i]? = some true := by
  intro i hi
  rw [List.length_eq_zero_iff, List.filter_eq_nil_iff] at h
  have := h l[i] (List.getElem_mem hi)
  rw [List.getElem?_eq_getElem hi]
  simpa using this
/-- Does an operation wait for another? -/
def depB (ops : Array Oper) (i j : Nat) : Bool := ((ops[i]?).map fun o => o.after.any fun e => Region.binds .any e && e.on == j).getD false
/-- No operation waits for a later one. -/
def dagB (ops : Array Oper) : Bool := (List.range ops.size).all fun i => ((ops[i]?).map fun o => o.after.all fun e => decide (e.on < i)).getD true

theorem ready_mem {ops : Array Oper} {l : Array Bool} {i : Nat} (h : i ∈ Region.ready .any ops l) : i < ops.size ∧ l.getD i true = false ∧ ∀ j, depB ops i j = true → l.getD j false = true := by
  unfold Region.ready at h
  rw [List.mem_filter, List.mem_range, Bool.and_eq_true] at h
  obtain ⟨h1, h2, h3⟩ := h
  refine ⟨h1, by simpa using h2, fun j hj => ?_⟩
  unfold depB at hj
  cases ho : ops[i]? with
  | none => rw [ho] at hj; cases hj
  | some o =>
    rw [ho] at hj h3
    simp only [Option.map_some, Option.getD_some] at hj h3
    rw [Array.any_eq_true] at hj
    obtain ⟨k, hk, hj⟩ := hj
    rw [Array.all_eq_true] at h3
    have h4 := h3 k hk
    simp only [Bool.and_eq_true, beq_iff_eq] at hj
    rw [hj.1] at h4
    simp only [Bool.not_true, Bool.false_or] at h4
    rw [← hj.2]
    exact h4
theorem ready_nil {ops : Array Oper} {l : Array Bool} (hd : dagB ops = true) (hs : l.size = ops.size) (h : Region.ready .any ops l = []) : ∀ i, i < ops.size → l.getD i false = true := by
  intro i
  induction i using Nat.strongRecOn with
  | ind i ih =>
    intro hi
    unfold Region.ready at h
    rw [List.filter_eq_nil_iff] at h
    have h1 := h i (List.mem_range.2 hi)
    unfold dagB at hd
    rw [List.all_eq_true] at hd
    have h2 := hd i (List.mem_range.2 hi)
    have hil : i < l.size := by omega
    by_cases hb : l[i] = true
    · simp [Array.getD, hil, hb]
    · exfalso
      apply h1
      rw [Bool.and_eq_true]
      refine ⟨by simp [Array.getD, hil, hb], ?_⟩
      rw [Array.getElem?_eq_getElem hi] at h2 ⊢
      simp only [Option.map_some, Option.getD_some] at h2 ⊢
      rw [Array.all_eq_true] at h2 ⊢
      intro k hk
      have h3 := h2 k hk
      rw [decide_eq_true_eq] at h3
      rw [ih _ h3 (by omega)]
      simp

theorem wpAny_inv {P : Program} {ops : Array Oper} {Q : Exit → Act → World → Prop} (I : Array Bool → Act → World → Prop) (hd : dagB ops = true)
    (step : ∀ l a w i, I l a w → i < ops.size → (∀ j, depB ops i j = true → l.getD j false = true) → wpOp P ops Q i (fun a' w' => I (l.setIfInBounds i true) a' w') a w)
    (done : ∀ l a w, I l a w → (∀ i, i < ops.size → l.getD i false = true) → Q .normal a w) :
    ∀ (fuel : Nat) (l : Array Bool) (a : Act) (w : World), l.size = ops.size → cntF l ≤ fuel → I l a w → wpAny P .any ops Q fuel l a w := by
  intro fuel
  induction fuel with
  | zero =>
    intro l a w hs hc hI
    have hz := cntF_zero l.toList (by unfold cntF at hc; omega)
    have hr : Region.ready .any ops l = [] := by
      unfold Region.ready
      rw [List.filter_eq_nil_iff]
      intro i hi
      have hi' := List.mem_range.1 hi
      have := hz i (by simp; omega)
      have hil : i < l.size := by omega
      rw [Array.getElem?_toList, Array.getElem?_eq_getElem hil] at this
      injection this with this
      simp [Array.getD, hil, this]
    exact ⟨hr, done l a w hI (ready_nil hd hs hr)⟩
  | succ fuel ih =>
    intro l a w hs hc hI
    refine ⟨fun hr => done l a w hI (ready_nil hd hs hr), fun i hi => ?_⟩
    obtain ⟨h1, h2, h3⟩ := ready_mem hi
    refine wpOp_mono (fun a' w' hI' => ih _ a' w' (by rw [Array.size_setIfInBounds]; exact hs) ?_ hI') (step l a w i hI h1 h3)
    have hil : i < l.size := by omega
    have hli : l.toList[i]? = some false := by
      rw [Array.getElem?_toList, Array.getElem?_eq_getElem hil]
      simpa [Array.getD, hil] using h2
    have := cntF_set l.toList i hli
    unfold cntF at hc ⊢
    rw [Array.toList_setIfInBounds]
    omega
theorem cntF_start (n : Nat) : cntF (Array.replicate n false) ≤ n := by
  unfold cntF
  simp
/-- The region as a whole. -/
theorem wp_region_inv {P : Program} {id : Nat} {ops : Array Oper} {Q : Exit → Act → World → Prop} {a : Act} {w : World} (hm : P.follows .mixedOrders = true) (I : Array Bool → Act → World → Prop) (hd : dagB ops = true)
    (step : ∀ l a w i, I l a w → i < ops.size → (∀ j, depB ops i j = true → l.getD j false = true) → wpOp P ops Q i (fun a' w' => I (l.setIfInBounds i true) a' w') a w)
    (done : ∀ l a w, I l a w → (∀ i, i < ops.size → l.getD i false = true) → Q .normal a w) (start : I (Array.replicate ops.size false) a w.drew) : (Code.region id ops true).wp P Q a w :=
  wp_region_any hm (wpAny_inv I hd step done ops.size _ a _ (by simp) (cntF_start _) start)
end Go.Proofs.YtbnonbhlfiadaaaDoor
