/-
  A drawn region of which one operation writes, and is not the last.
-/
import Derived.Test.YtnahkcapbbjfdaaRgo
namespace Go.Proofs.Ytnahkcapbbjfdaa
open Go.RowKit
set_option linter.unusedVariables false

/-- No operation waits for a later one, of what binds. -/
def dagC (ops : Array Oper) : Bool := (List.range ops.size).all fun i => ((ops[i]?).map fun o => o.after.all fun e => !(Region.binds .any e) || decide (e.on < i)).getD true
theorem ready_nilC {ops : Array Oper} {l : Array Bool} (hd : dagC ops = true) (hs : l.size = ops.size) (h : Region.ready .any ops l = []) : ∀ i, i < ops.size → l.getD i false = true := by
  intro i
  induction i using Nat.strongRecOn with
  | ind i ih =>
    intro hi
    unfold Region.ready at h
    rw [List.filter_eq_nil_iff] at h
    have h1 := h i (List.mem_range.2 hi)
    unfold dagC at hd
    rw [List.all_eq_true] at hd
    have h2 := hd i (List.mem_range.2 hi)
    have hil : i < l.size := by omega
    by_cases hb : l[i] = true
    · simp [Array.getD, hil, hb]
    · exfalso
      apply h1
      rw [Bool.and_eq_true]
      refine ⟨by simp [Array.getD, hil, hb], ?_⟩
      rw [Array.getElem?_eq_getElem hi] at h2 ⊢
      simp only [Option.map_some, Option.getD_some] at h2 ⊢
      rw [Array.all_eq_true] at h2 ⊢
      intro k hk
      have h3 := h2 k hk
      rw [Bool.or_eq_true, decide_eq_true_eq] at h3
      rcases h3 with h3 | h3
      · rw [h3]
        simp
      · rw [ih _ h3 (by omega)]
        simp

theorem wpAny_invC {P : Program} {ops : Array Oper} {Q : Exit → Act → World → Prop} (I : Array Bool → Act → World → Prop) (hd : dagC ops = true)
    (step : ∀ l a w i, I l a w → i < ops.size → l.size = ops.size → l.getD i false = false → (∀ j, depB ops i j = true → l.getD j false = true) → wpOp P ops Q i (fun a' w' => I (l.setIfInBounds i true) a' w') a w)
    (done : ∀ l a w, I l a w → (∀ i, i < ops.size → l.getD i false = true) → Q .normal a w) :
    ∀ (fuel : Nat) (l : Array Bool) (a : Act) (w : World), l.size = ops.size → cntF l ≤ fuel → I l a w → wpAny P .any ops Q fuel l a w := by
  intro fuel
  induction fuel with
  | zero =>
    intro l a w hs hc hI
    have hz := cntF_zero l.toList (by unfold cntF at hc; omega)
    have hr : Region.ready .any ops l = [] := by
      unfold Region.ready
      rw [List.filter_eq_nil_iff]
      intro i hi
      have hi' := List.mem_range.1 hi
      have := hz i (by simp; omega)
      have hil : i < l.size := by omega
      rw [Array.getElem?_toList, Array.getElem?_eq_getElem hil] at this
      injection this with this
      simp [Array.getD, hil, this]
    exact ⟨hr, done l a w hI (ready_nilC hd hs hr)⟩
  | succ fuel ih =>
    intro l a w hs hc hI
    refine ⟨fun hr => done l a w hI (ready_nilC hd hs hr), fun i hi => ?_⟩
    obtain ⟨h1, h2, h3⟩ := ready_mem hi
    have hil : i < l.size := by omega
    have h2' : l.getD i false = false := by
      simp only [Array.getD, hil, dif_pos] at h2 ⊢
      exact h2
    refine wpOp_mono (fun a' w' hI' => ih _ a' w' (by rw [Array.size_setIfInBounds]; exact hs) ?_ hI') (step l a w i hI h1 hs h2' h3)
    have hli : l.toList[i]? = some false := by
      rw [Array.getElem?_toList, Array.getElem?_eq_getElem hil]
      simpa [Array.getD, hil] using h2
    have := cntF_set l.toList i hli
    unfold cntF at hc ⊢
    rw [Array.toList_setIfInBounds]
    omega
theorem wp_region_invC {P : Program} {id : Nat} {ops : Array Oper} {Q : Exit → Act → World → Prop} {a : Act} {w : World} (hm : P.follows .mixedOrders = true) (I : Array Bool → Act → World → Prop) (hd : dagC ops = true)
    (step : ∀ l a w i, I l a w → i < ops.size → l.size = ops.size → l.getD i false = false → (∀ j, depB ops i j = true → l.getD j false = true) → wpOp P ops Q i (fun a' w' => I (l.setIfInBounds i true) a' w') a w)
    (done : ∀ l a w, I l a w → (∀ i, i < ops.size → l.getD i false = true) → Q .normal a w) (start : I (Array.replicate ops.size false) a w.drew) : (Code.region id ops true).wp P Q a w :=
  wp_region_any hm (wpAny_invC I hd step done ops.size _ a _ (by simp) (cntF_start _) start)

def slotsS (ops : Array Oper) (s size : Nat) : Bool := (List.range ops.size).all fun i => i == s || (((ops[i]?).bind (·.dst)).isSome && decide (dstOf ops i < size) && (List.range ops.size).all fun j => j == s || i == j || dstOf ops i != dstOf ops j)
def freeS (ops : Array Oper) (s k : Nat) : Bool := (List.range ops.size).all fun j => j == s || dstOf ops j != k
/-- The frame behind them all. -/
def finS (ops : Array Oper) (s : Nat) (V : Nat → Value) (T : Array Value) : Array Value := ((List.range T.size).map fun k => ((List.range ops.size).find? fun j => j != s && dstOf ops j == k).elim (T.getD k undef) V).toArray

theorem dst_someS {ops : Array Oper} {s size i : Nat} {o : Oper} (h : slotsS ops s size = true) (hi : i < ops.size) (his : i ≠ s) (ho : ops[i]? = some o) : o.dst = some (dstOf ops i) ∧ dstOf ops i < size ∧ ∀ j, j < ops.size → j ≠ s → dstOf ops j = dstOf ops i → j = i := by
  unfold slotsS at h
  rw [List.all_eq_true] at h
  have h1 := h i (List.mem_range.2 hi)
  rw [Bool.or_eq_true, beq_iff_eq] at h1
  rcases h1 with h1 | h1
  · exact absurd h1 his
  rw [Bool.and_eq_true, Bool.and_eq_true, decide_eq_true_eq, List.all_eq_true] at h1
  obtain ⟨⟨h2, h3⟩, h4⟩ := h1
  refine ⟨?_, h3, fun j hj hjs e => ?_⟩
  · rw [ho] at h2
    simp only [Option.bind_some] at h2
    cases hd : o.dst with
    | none => rw [hd] at h2; cases h2
    | some d => simp [dstOf, ho, hd]
  · have h5 := h4 j (List.mem_range.2 hj)
    rw [Bool.or_eq_true, Bool.or_eq_true, beq_iff_eq, beq_iff_eq] at h5
    rcases h5 with (h5 | h5) | h5
    · exact absurd h5 hjs
    · exact h5.symm
    · rw [e] at h5; simp at h5

structure RS (ops : Array Oper) (s : Nat) (G : Nat → Value → Bool → World → Prop) (B : Bool → World → Prop) (a0 : Act) (l : Array Bool) (a : Act) (w : World) : Prop where
  base : B (l.getD s false) w
  closed : l.getD s false = true → ∀ j, depB ops s j = true → l.getD j false = true
  defers : a.defers = a0.defers
  size : a.tmps.size = a0.tmps.size
  frame : ∀ k, freeS ops s k = true → a.tmps.getD k undef = a0.tmps.getD k undef
  good : ∀ j, j < ops.size → j ≠ s → l.getD j false = true → G j (a.tmps.getD (dstOf ops j) undef) (l.getD s false) w

theorem RS.put {ops : Array Oper} {s : Nat} {G : Nat → Value → Bool → World → Prop} {B : Bool → World → Prop} {a0 : Act} {l : Array Bool} {a : Act} {w w' : World} {v : Value} (hsl : slotsS ops s a0.tmps.size = true) (mono : ∀ j v f u u', G j v f u → Chg u u' → G j v f u') (monoB : ∀ f u u', B f u → Chg u u' → B f u') (h : RS ops s G B a0 l a w) {i : Nat} {o : Oper} (hi : i < ops.size) (his : i ≠ s) (ho : ops[i]? = some o) (k : Chg w w') (hv : G i v (l.getD s false) w') : RS ops s G B a0 (l.setIfInBounds i true) (a.put o.dst v) w' := by
  obtain ⟨hd, hlt, hinj⟩ := dst_someS hsl hi his ho
  rw [hd]
  have es : (l.setIfInBounds i true).getD s false = l.getD s false := getB_set _ _ _ _ (fun e => his e.symm)
  refine ⟨by rw [es]; exact monoB _ _ _ h.base k, fun hl j hj => ?_, h.defers, by simp [Act.put, h.size], fun m hm => ?_, fun j hj hjs hl => ?_⟩
  · rw [es] at hl
    by_cases e : j = i
    · subst e
      by_cases hj2 : j < l.size
      · rw [Array.getD_eq_getD_getElem?, Array.getElem?_setIfInBounds_self_of_lt hj2]
        rfl
      · have := h.closed hl j hj
        rw [Array.getD_eq_getD_getElem?] at this
        simp [hj2] at this
    · rw [getB_set _ _ _ _ e]
      exact h.closed hl j hj
  · show (a.tmps.setIfInBounds (dstOf ops i) v).getD m undef = _
    have hne : m ≠ dstOf ops i := by
      unfold freeS at hm
      rw [List.all_eq_true] at hm
      have := hm i (List.mem_range.2 hi)
      rw [Bool.or_eq_true, beq_iff_eq] at this
      intro e
      rw [e] at this
      rcases this with this | this
      · exact his this
      · simp at this
    rw [getD_set _ _ _ _ (by rw [h.size]; exact hlt), if_neg hne]
    exact h.frame m hm
  · show G j ((a.tmps.setIfInBounds (dstOf ops i) v).getD (dstOf ops j) undef) _ w'
    rw [es, getD_set _ _ _ _ (by rw [h.size]; exact hlt)]
    by_cases e : j = i
    · subst e; rw [if_pos rfl]; exact hv
    · rw [if_neg (fun x => e (hinj j hj hjs x))]
      rw [getB_set _ _ _ _ e] at hl
      exact mono j _ _ w w' (h.good j hj hjs hl) k

theorem wp_region_store {P : Program} {id : Nat} {ops : Array Oper} {Q : Exit → Act → World → Prop} {a0 : Act} {w0 : World} (s : Nat) (G : Nat → Value → Bool → World → Prop) (B : Bool → World → Prop) (hm : P.follows .mixedOrders = true) (hs : s < ops.size) (hd : dagC ops = true) (hg : freeB ops = true) (hsl : slotsS ops s a0.tmps.size = true)
    (mono : ∀ j v f u u', G j v f u → Chg u u' → G j v f u') (monoB : ∀ f u u', B f u → Chg u u' → B f u')
    (step : ∀ i o a w f, i < ops.size → i ≠ s → ops[i]? = some o → (depB ops s i = true → f = false) → (∀ k, freeS ops s k = true → a.tmps.getD k undef = a0.tmps.getD k undef) → (∀ j, depB ops i j = true → j < ops.size → j ≠ s → G j (a.tmps.getD (dstOf ops j) undef) f w) → B f w → o.wp P a w (fun a' w' => ∃ v, a' = a.put o.dst v ∧ G i v f w' ∧ Chg w w') Q)
    (stor : ∀ o a w, ops[s]? = some o → (∀ k, freeS ops s k = true → a.tmps.getD k undef = a0.tmps.getD k undef) → (∀ j, depB ops s j = true → j < ops.size → j ≠ s → G j (a.tmps.getD (dstOf ops j) undef) false w) → B false w → o.wp P a w (fun a' w' => a' = a ∧ B true w' ∧ ∀ j, j < ops.size → j ≠ s → G j (a.tmps.getD (dstOf ops j) undef) false w → G j (a.tmps.getD (dstOf ops j) undef) true w') Q)
    (start : B false w0.drew)
    (done : ∀ w (V : Nat → Value), (∀ j, j < ops.size → j ≠ s → G j (V j) true w) → B true w → Q .normal ⟨finS ops s V a0.tmps, a0.defers⟩ w) : (Code.region id ops true).wp P Q a0 w0 := by
  have hrep : ∀ i, (Array.replicate ops.size false).getD i false = false := fun i => by
    rw [Array.getD_eq_getD_getElem?]
    by_cases e : i < ops.size
    · simp [e]
    · simp [e]
  refine wp_region_invC hm (RS ops s G B a0) hd ?_ ?_ ⟨by rw [hrep]; exact start, fun h => absurd h (by rw [hrep]; decide), rfl, rfl, fun _ _ => rfl, fun j hj hjs hl => ?_⟩
  · intro l a w i hI hi hls hli hdep
    obtain ⟨o, ho⟩ : ∃ o, ops[i]? = some o := ⟨ops[i], Array.getElem?_eq_getElem hi⟩
    unfold wpOp
    rw [ho]
    simp only [wanted_none (free_of hg ho), if_true]
    refine .inl ?_
    by_cases e : i = s
    · subst e
      have hb := hI.base
      rw [hli] at hb
      refine Oper.wp_mono ?_ (stor o a w ho hI.frame (fun j hj hjn hjs => by have := hI.good j hjn hjs (hdep j hj); rw [hli] at this; exact this) hb)
      rintro a' w' ⟨rfl, h1, h2⟩
      have es : (l.setIfInBounds i true).getD i false = true := by
        rw [Array.getD_eq_getD_getElem?, Array.getElem?_setIfInBounds_self_of_lt (by omega)]
        rfl
      refine ⟨by rw [es]; exact h1, fun _ j hj => ?_, hI.defers, hI.size, hI.frame, fun j hj hjs hl => ?_⟩
      · by_cases e : j = i
        · subst e; exact es
        · rw [getB_set _ _ _ _ e]; exact hdep j hj
      rw [es]
      rw [getB_set _ _ _ _ hjs] at hl
      have := hI.good j hj hjs hl
      rw [hli] at this
      exact h2 j hj hjs this
    · refine Oper.wp_mono ?_ (step i o a w _ hi e ho (fun hd' => ?_) hI.frame (fun j hj hjn hjs => hI.good j hjn hjs (hdep j hj)) hI.base)
      · rintro a' w' ⟨v, rfl, hv, hc⟩
        exact hI.put hsl mono monoB hi e ho hc hv
      · cases hx : l.getD s false with
        | false => rfl
        | true =>
          have := hI.closed hx i hd'
          rw [hli] at this
          cases this
  · intro l a w hI hall
    have hls := hall s hs
    have e : a = ⟨finS ops s (fun j => a.tmps.getD (dstOf ops j) undef) a0.tmps, a0.defers⟩ := by
      obtain ⟨A, d⟩ := a
      have hdf : d = a0.defers := hI.defers
      subst hdf
      congr 1
      refine Array.ext (by simp [finS]; exact hI.size) ?_
      intro k h1 h2
      have h3 : A[k] = A.getD k undef := by simp [h1]
      rw [h3]
      simp only [finS, List.getElem_toArray, List.getElem_map, List.getElem_range]
      cases hf : (List.range ops.size).find? fun j => j != s && dstOf ops j == k with
      | none =>
        refine hI.frame k ?_
        unfold freeS
        rw [List.all_eq_true]
        intro j hj
        have := (List.find?_eq_none.1 hf) j hj
        by_cases ej : j = s
        · simp [ej]
        · simp [ej] at this
          simp [this]
      | some j =>
        have h4 := List.find?_some hf
        have h6 : dstOf ops j = k := by
          rw [Bool.and_eq_true, beq_iff_eq] at h4
          exact h4.2
        rw [← h6]
        rfl
    rw [e]
    have hb := hI.base
    rw [hls] at hb
    refine done w _ (fun j hj hjs => ?_) hb
    have := hI.good j hj hjs (hall j hj)
    rw [hls] at this
    exact this
  · rw [hrep] at hl
    cases hl
end Go.Proofs.Ytnahkcapbbjfdaa
