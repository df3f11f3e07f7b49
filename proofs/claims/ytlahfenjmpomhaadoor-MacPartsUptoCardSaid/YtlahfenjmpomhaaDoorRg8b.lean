/-
  A key that is filled up with noughts: the region's invariant with its frame, and the steps over it.
-/
import Derived.Test.YtlahfenjmpomhaaDoorRg8a
namespace Go.Proofs.YtlahfenjmpomhaaDoor
open Go.RowKit
set_option linter.unusedVariables false

theorem wpAny_inv2 {P : Program} {ops : Array Oper} {Q : Exit → Act → World → Prop} (I : Array Bool → Act → World → Prop) (hd : dagB ops = true)
    (step : ∀ l a w i, I l a w → i < ops.size → l.size = ops.size → l.getD i false = false → (∀ j, depB ops i j = true → l.getD j false = true) → wpOp P ops Q i (fun a' w' => I (l.setIfInBounds i true) a' w') a w)
    (done : ∀ l a w, I l a w → (∀ i, i < ops.size → l.getD i false = true) → Q .normal a w) :
    ∀ (fuel : Nat) (l : Array Bool) (a : Act) (w : World), l.size = ops.size → cntF l ≤ fuel → I l a w → wpAny P .any ops Q fuel l a w := by
  intro fuel
  induction fuel with
  | zero =>
    intro l a w hs hc hI
    have hz := cntF_zero l.toList (by unfold cntF at hc; omega)
    have hr : Region.ready .any ops l = [] := by
      unfold Region.ready
      rw [List.filter_eq_nil_iff]
      intro i hi
      have hi' := List.mem_range.1 hi
      have := hz i (by simp; omega)
      have hil : i < l.size := by omega
      rw [Array.getElem?_toList, Array.getElem?_eq_getElem hil] at this
      injection this with this
      simp [Array.getD, hil, this]
    exact ⟨hr, done l a w hI (ready_nil hd hs hr)⟩
  | succ fuel ih =>
    intro l a w hs hc hI
    refine ⟨fun hr => done l a w hI (ready_nil hd hs hr), fun i hi => ?_⟩
    obtain ⟨h1, h2, h3⟩ := ready_mem hi
    have hil : i < l.size := by omega
    have h2' : l.getD i false = false := by
      simp only [Array.getD, hil, dif_pos] at h2 ⊢
      exact h2
    refine wpOp_mono (fun a' w' hI' => ih _ a' w' (by rw [Array.size_setIfInBounds]; exact hs) ?_ hI') (step l a w i hI h1 hs h2' h3)
    have hli : l.toList[i]? = some false := by
      rw [Array.getElem?_toList, Array.getElem?_eq_getElem hil]
      simpa [Array.getD, hil] using h2
    have := cntF_set l.toList i hli
    unfold cntF at hc ⊢
    rw [Array.toList_setIfInBounds]
    omega
theorem wp_region_inv2 {P : Program} {id : Nat} {ops : Array Oper} {Q : Exit → Act → World → Prop} {a : Act} {w : World} (hm : P.follows .mixedOrders = true) (I : Array Bool → Act → World → Prop) (hd : dagB ops = true)
    (step : ∀ l a w i, I l a w → i < ops.size → l.size = ops.size → l.getD i false = false → (∀ j, depB ops i j = true → l.getD j false = true) → wpOp P ops Q i (fun a' w' => I (l.setIfInBounds i true) a' w') a w)
    (done : ∀ l a w, I l a w → (∀ i, i < ops.size → l.getD i false = true) → Q .normal a w) (start : I (Array.replicate ops.size false) a w.drew) : (Code.region id ops true).wp P Q a w :=
  wp_region_any hm (wpAny_inv2 I hd step done ops.size _ a _ (by simp) (cntF_start _) start)
theorem step_unw {P : Program} {ops : Array Oper} {Q : Exit → Act → World → Prop} {K : Act → World → Prop} {a : Act} {w : World} {i : Nat} {o : Oper} {d : Nat} (ho : ops[i]? = some o) (hd : o.dst = some d) (hw : Region.wanted o (yielded ops a.tmps) = false) (hK : K (a.put (some d) undef) w) : wpOp P ops Q i K a w := by
  refine wpOp_step ho fun K' h => ?_
  rw [hw, if_neg (by decide), hd]
  exact h _ _ hK
theorem wanted_of {o oj : Oper} {ops : Array Oper} {A : Array Value} {j d : Nat} {b : Bool} (h : o.guard = some (j, false)) (hj : ops[j]? = some oj) (hd : oj.dst = some d) (hs : d < A.size) (hv : A.getD d undef = .bool b) : Region.wanted o (yielded ops A) = !b := by
  unfold Region.wanted
  rw [h]
  show (yielded ops A j == some false) = _
  unfold yielded
  rw [hj]
  simp only [Option.bind_some, hd]
  have : A[d]? = some (.bool b) := by
    rw [Array.getElem?_eq_getElem hs]
    simp only [Array.getD, hs, dif_pos] at hv
    rw [← hv]
    rfl
  rw [this]
  cases b <;> rfl
structure RF (c : K8) (w0 : World) (T : Array Value) (l : Array Bool) (a : Act) (w : World) : Prop where
  chg : Chg w0 w
  defers : a.defers = []
  size : a.tmps.size = 118
  ls : l.size = 27
  frame : ∀ k, (∀ j, j < 27 → r8S j ≠ k) → a.tmps.getD k undef = T.getD k undef
  abs : A8 c w0.heap.size (fun j => l.getD j false) (fun j => a.tmps.getD (r8S j) undef) w
theorem RF.put {c : K8} {w0 : World} {T : Array Value} {l : Array Bool} {a : Act} {w w' : World} (h : RF c w0 T l a w) (i : Nat) (hi : i < 27) (v : Value) (k : Chg w0 w') (ha : A8 c w0.heap.size (up (fun j => l.getD j false) i true) (up (fun j => a.tmps.getD (r8S j) undef) i v) w') : RF c w0 T (l.setIfInBounds i true) (a.put (some (r8S i)) v) w' := by
  have hd : r8S i < a.tmps.size := by rw [h.size]; exact r8L i hi
  refine ⟨k, h.defers, ?_, ?_, fun m hm => ?_, ?_⟩
  · simp [Act.put, h.size]
  · rw [Array.size_setIfInBounds]; exact h.ls
  · show (a.tmps.setIfInBounds (r8S i) v).getD m undef = _
    rw [getD_set _ _ _ _ hd, if_neg (fun e => hm i hi e.symm)]
    exact h.frame m hm
  · have e1 : (fun j => (l.setIfInBounds i true).getD j false) = up (fun j => l.getD j false) i true := by
      funext j
      unfold up
      by_cases e : j = i
      · subst e
        rw [if_pos rfl, Array.getD_eq_getD_getElem?, Array.getElem?_setIfInBounds_self_of_lt (by rw [h.ls]; exact hi)]
        rfl
      · rw [if_neg e]
        exact getB_set _ _ _ _ e
    have e2 : (fun j => (a.put (some (r8S i)) v).tmps.getD (r8S j) undef) = up (fun j => a.tmps.getD (r8S j) undef) i v := by
      funext j
      show (a.tmps.setIfInBounds (r8S i) v).getD (r8S j) undef = _
      rw [getD_set _ _ _ _ hd]
      unfold up
      by_cases e : j = i
      · subst e
        rw [if_pos rfl, if_pos rfl]
      · rw [if_neg (fun x => e (r8I j i hi x)), if_neg e]
    rw [e1, e2]
    exact ha
theorem RF.norm {c : K8} {w0 : World} {T : Array Value} {l : Array Bool} {a : Act} {w w' : World} (h : RF c w0 T l a w) (i : Nat) (hi : i < 27) (v : Value) (k : Chg w w') (hg : G8 c w0.heap.size i v w') (h22 : i = 22 → l.getD 19 false = true) (n12 : i ≠ 12) (n14 : i ≠ 14) (n19 : i ≠ 19) (hf : E3 i → ∀ b, v.ownBlock = some b → w.heap.size ≤ b) : RF c w0 T (l.setIfInBounds i true) (a.put (some (r8S i)) v) w' :=
  h.put i hi v (h.chg.trans k) (h.abs.norm i v k hg h22 n12 n14 n19 hf)
/-- An operation that makes no block: its value is what it should be. -/
theorem RF.val {c : K8} {w0 : World} {T : Array Value} {l : Array Bool} {a : Act} {w : World} (h : RF c w0 T l a w) (i : Nat) (hi : i < 27) (v : Value) (hg : G8 c w0.heap.size i v w) (n : i ≠ 8 ∧ i ≠ 9 ∧ i ≠ 12 ∧ i ≠ 14 ∧ i ≠ 19 ∧ i ≠ 21 ∧ i ≠ 22) : RF c w0 T (l.setIfInBounds i true) (a.put (some (r8S i)) v) w :=
  h.norm i hi v (Chg.refl w) hg (fun e => absurd e n.2.2.2.2.2.2) n.2.2.1 n.2.2.2.1 n.2.2.2.2.1 (fun e => by rcases e with e | e | e <;> omega)
theorem RF.skip {c : K8} {w0 : World} {T : Array Value} {l : Array Bool} {a : Act} {w : World} (h : RF c w0 T l a w) (e : c.lg = true) (i : Nat) (hi : i < 27) (h5 : 5 ≤ i) (h24 : i ≤ 24) (h22 : i = 22 → l.getD 19 false = true) (h19 : i = 19 → l.getD 14 false = true) : RF c w0 T (l.setIfInBounds i true) (a.put (some (r8S i)) undef) w := by
  refine h.put i hi undef h.chg (h.abs.skip e i ?_ h22 h19)
  have hcs : i = 5 ∨ i = 6 ∨ i = 7 ∨ i = 8 ∨ i = 9 ∨ i = 10 ∨ i = 11 ∨ i = 12 ∨ i = 13 ∨ i = 14 ∨ i = 15 ∨ i = 16 ∨ i = 17 ∨ i = 18 ∨ i = 19 ∨ i = 20 ∨ i = 21 ∨ i = 22 ∨ i = 23 ∨ i = 24 := by omega
  rcases hcs with rfl | rfl | rfl | rfl | rfl | rfl | rfl | rfl | rfl | rfl | rfl | rfl | rfl | rfl | rfl | rfl | rfl | rfl | rfl | rfl <;> first | exact trivial | (intro x; rw [e] at x; cases x)
theorem RF.good {c : K8} {w0 : World} {T : Array Value} {l : Array Bool} {a : Act} {w : World} (h : RF c w0 T l a w) (j : Nat) (hj : j < 27) (hl : l.getD j false = true) : G8 c w0.heap.size j (a.tmps.getD (r8S j) undef) w := h.abs.good j hj hl
/-- An operation behind the guard: skipped where the key is longer than a block. -/
theorem step_g8 {Q : Exit → Act → World → Prop} {c : K8} {w0 : World} {T : Array Value} {l : Array Bool} {a : Act} {w : World} (hI : RF c w0 T l a w) (i : Nat) {o : Oper} (hg : o.guard = some (4, false)) (ho : (opsOf (reg Tryd.f7 8))[i]? = some o) (hd : o.dst = some (r8S i)) (h4 : l.getD 4 false = true) (h5 : 5 ≤ i) (h24 : i ≤ 24) (h22 : i = 22 → l.getD 19 false = true) (h19 : i = 19 → l.getD 14 false = true)
    (hy : c.lg = false → Region.wanted o (yielded (opsOf (reg Tryd.f7 8)) a.tmps) = true → wpOp Tryd.prog (opsOf (reg Tryd.f7 8)) Q i (fun a' w' => RF c w0 T (l.setIfInBounds i true) a' w') a w) : wpOp Tryd.prog (opsOf (reg Tryd.f7 8)) Q i (fun a' w' => RF c w0 T (l.setIfInBounds i true) a' w') a w := by
  obtain ⟨o4, ho4, hd4, _, _⟩ := op_of r8A4
  have hw := wanted_of (A := a.tmps) (b := c.lg) hg ho4 hd4 (by rw [hI.size]; decide) (hI.good 4 (by decide) h4)
  cases e : c.lg with
  | true =>
    rw [e] at hw
    exact step_unw ho hd hw (hI.skip e i (by omega) h5 h24 h22 h19)
  | false =>
    rw [e] at hw
    exact hy e hw
theorem Pt.cell1 {w : World} {b : Nat} {v : Value} {xs : List Int} (h : w.cell? ⟨b, 0, none⟩ = some v) (hs : SlA w v xs) : Pt w (.slice (some ⟨b, 0, none⟩) 1 1) [xs] := by
  refine .inr (.inr ⟨b, 0, 1, rfl, by simp, fun j ys hj => ?_⟩)
  match j, hj with
  | 0, hj =>
    simp at hj
    subst hj
    exact ⟨v, h, hs⟩
theorem gd_zeros (xs : List Int) (n j : Nat) : gd (xs ++ List.replicate n 0) j = gd xs j := by
  unfold gd
  rw [List.getD_eq_getElem?_getD, List.getD_eq_getElem?_getD]
  by_cases h : j < xs.length
  · rw [List.getElem?_append_left h]
  · rw [List.getElem?_append_right (by omega), List.getElem?_eq_none (by omega : xs.length ≤ j), List.getElem?_replicate]
    split <;> rfl
theorem mac_filled (q : Int) (xk xa : List Int) (n : Nat) (h : xk.length + n ≤ blockOf q) : macL q (xk ++ List.replicate n 0) xa = macL q xk xa := by
  have e1 : keyOf q xk = xk := by rw [keyOf, if_neg (by omega)]
  have e2 : keyOf q (xk ++ List.replicate n 0) = xk ++ List.replicate n 0 := by rw [keyOf, if_neg (by simp; omega)]
  have e3 : ∀ y, blkK q (xk ++ List.replicate n 0) y = blkK q xk y := by
    intro y
    unfold blkK
    refine List.map_congr_left fun j _ => ?_
    unfold blkF
    rw [e1, e2, gd_zeros]
  rw [macL, macL, e3, e3]
end Go.Proofs.YtlahfenjmpomhaaDoor
