/-
  A region that draws its order, with guards, and whose last operation waits for all the others: what each operation's value means.
-/
import Derived.Test.YtnahkcapbbjfdaaRgn
namespace Go.Proofs.Ytnahkcapbbjfdaa
open Go.RowKit
set_option linter.unusedVariables false

theorem wp_region_lastW {P : Program} {id : Nat} {ops : Array Oper} {Q : Exit → Act → World → Prop} {a0 : Act} {w0 : World} (n : Nat) (hm : P.follows .mixedOrders = true) (hn : ops.size = n + 1) (hd : dagB ops = true) (hs : succB ops n = true)
    (I : Array Bool → Act → World → Prop)
    (step : ∀ l a w i o, I l a w → i < n → l.size = n + 1 → (∀ j, depB ops i j = true → l.getD j false = true) → ops[i]? = some o → (Region.wanted o (yielded ops a.tmps) = true ∧ o.wp P a w (fun a' w' => I (l.setIfInBounds i true) a' w') Q) ∨ (Region.wanted o (yielded ops a.tmps) = false ∧ I (l.setIfInBounds i true) (a.put o.dst undef) w))
    (last : ∀ l a w o, I l a w → (∀ i, i < n → l.getD i false = true) → ops[n]? = some o → Region.wanted o (yielded ops a.tmps) = true ∧ o.wp P a w (fun a' w' => Q .normal a' w') Q)
    (start : I (Array.replicate ops.size false) a0 w0.drew) : (Code.region id ops true).wp P Q a0 w0 := by
  refine wp_region_inv2 hm (fun l a w => (∀ i j, l.getD i false = true → depB ops i j = true → l.getD j false = true) ∧ (l.getD n false = true → (∀ i, i < n → l.getD i false = true) ∧ Q .normal a w) ∧ (l.getD n false = false → I l a w)) hd ?_ ?_ ?_
  · intro l a w i ⟨h1, h2, h3⟩ hi hls hli hdep
    have hcl : ∀ a b, (l.setIfInBounds i true).getD a false = true → depB ops a b = true → (l.setIfInBounds i true).getD b false = true := by
      intro p q hp hq
      by_cases ep : p = i
      · subst ep
        by_cases eq : q = p
        · subst eq; exact hp
        · rw [getB_set _ _ _ _ eq]; exact hdep q hq
      · rw [getB_set _ _ _ _ ep] at hp
        by_cases eq : q = i
        · subst eq
          have hx := h1 p q hp hq
          rw [hx] at hli
          cases hli
        · rw [getB_set _ _ _ _ eq]; exact h1 p q hp hq
    have ho : ∃ o, ops[i]? = some o := ⟨ops[i], Array.getElem?_eq_getElem hi⟩
    obtain ⟨o, ho⟩ := ho
    unfold wpOp
    rw [ho]
    dsimp only
    by_cases hnl : l.getD n false = true
    · exfalso
      have := h2 hnl
      by_cases e : i = n
      · subst e; rw [hnl] at hli; cases hli
      · rw [this.1 i (by omega)] at hli; cases hli
    · have hnf : l.getD n false = false := by simpa using hnl
      by_cases e : i = n
      · subst e
        have hall := all_up hs h1 hdep
        obtain ⟨hw, hl⟩ := last l a w o (h3 hnf) hall ho
        rw [hw, if_pos rfl]
        refine .inl (Oper.wp_mono ?_ hl)
        intro a' w' hq
        refine ⟨hcl, fun _ => ⟨fun k hk => ?_, hq⟩, fun hx => ?_⟩
        · rw [getB_set _ _ _ _ (by omega)]; exact hall k hk
        · exfalso
          have : (l.setIfInBounds i true).getD i false = true := by
            rw [Array.getD_eq_getD_getElem?, Array.getElem?_setIfInBounds_self_of_lt (by omega)]
            rfl
          rw [this] at hx
          cases hx
      · rcases step l a w i o (h3 hnf) (by omega) (by omega) hdep ho with ⟨hw, hst⟩ | ⟨hw, hI⟩
        · rw [hw, if_pos rfl]
          refine .inl (Oper.wp_mono ?_ hst)
          intro a' w' hI
          refine ⟨hcl, fun hx => ?_, fun _ => hI⟩
          rw [getB_set _ _ _ _ (fun x => e x.symm), hnf] at hx
          cases hx
        · rw [hw, if_neg (by decide)]
          refine ⟨hcl, fun hx => ?_, fun _ => hI⟩
          rw [getB_set _ _ _ _ (fun x => e x.symm), hnf] at hx
          cases hx
  · intro l a w ⟨_, h2, _⟩ hall
    exact (h2 (hall n (by omega))).2
  · refine ⟨fun i j hi => ?_, fun h => ?_, fun _ => start⟩
    · exfalso
      rw [Array.getD_eq_getD_getElem?] at hi
      by_cases e : i < ops.size
      · simp [e] at hi
      · simp [e] at hi
    · exfalso
      rw [Array.getD_eq_getD_getElem?] at h
      by_cases e : n < ops.size
      · simp [e] at h
      · simp [e] at h

/-! What each slot's value means. -/
structure RG (ops : Array Oper) (n : Nat) (G : Nat → Value → World → Prop) (w0 : World) (a0 : Act) (l : Array Bool) (a : Act) (w : World) : Prop where
  chg : Chg w0 w
  defers : a.defers = a0.defers
  size : a.tmps.size = a0.tmps.size
  frame : ∀ k, freeSlot ops n k = true → a.tmps.getD k undef = a0.tmps.getD k undef
  good : ∀ j, j < n → l.getD j false = true → G j (a.tmps.getD (dstOf ops j) undef) w

theorem RG.put {ops : Array Oper} {n : Nat} {G : Nat → Value → World → Prop} {w0 : World} {a0 : Act} {l : Array Bool} {a : Act} {w w' : World} {v : Value} (hsl : slotsB ops n a0.tmps.size = true) (mono : ∀ j v u u', G j v u → Chg u u' → G j v u') (h : RG ops n G w0 a0 l a w) {i : Nat} {o : Oper} (hi : i < n) (ho : ops[i]? = some o) (k : Chg w w') (hv : G i v w') : RG ops n G w0 a0 (l.setIfInBounds i true) (a.put o.dst v) w' := by
  obtain ⟨hd, hlt, hinj⟩ := dst_some hsl hi ho
  rw [hd]
  refine ⟨h.chg.trans k, h.defers, by simp [Act.put, h.size], fun m hm => ?_, fun j hj hl => ?_⟩
  · show (a.tmps.setIfInBounds (dstOf ops i) v).getD m undef = _
    have hne : m ≠ dstOf ops i := by
      unfold freeSlot at hm
      rw [List.all_eq_true] at hm
      have := hm i (List.mem_range.2 hi)
      intro e
      rw [e] at this
      simp at this
    rw [getD_set _ _ _ _ (by rw [h.size]; exact hlt), if_neg hne]
    exact h.frame m hm
  · show G j ((a.tmps.setIfInBounds (dstOf ops i) v).getD (dstOf ops j) undef) w'
    rw [getD_set _ _ _ _ (by rw [h.size]; exact hlt)]
    by_cases e : j = i
    · subst e; rw [if_pos rfl]; exact hv
    · rw [if_neg (fun x => e (hinj j hj x))]
      rw [getB_set _ _ _ _ e] at hl
      exact mono j _ w w' (h.good j hj hl) k

theorem wanted_by {ops : Array Oper} {n : Nat} {T A : Array Value} {o oj : Oper} {j : Nat} {b : Bool} (hsl : slotsB ops n T.size = true) (hsz : A.size = T.size) (hg : o.guard = some (j, b)) (hj : j < n) (hoj : ops[j]? = some oj) (hv : A.getD (dstOf ops j) undef = .bool b) : Region.wanted o (yielded ops A) = true := by
  obtain ⟨hd, hlt, _⟩ := dst_some hsl hj hoj
  unfold Region.wanted
  rw [hg]
  show (yielded ops A j == some b) = true
  unfold yielded
  rw [hoj]
  simp only [Option.bind_some, hd]
  have hs : dstOf ops j < A.size := by rw [hsz]; exact hlt
  have : A[dstOf ops j]? = some (.bool b) := by
    rw [Array.getElem?_eq_getElem hs]
    simp only [Array.getD, hs, dif_pos] at hv
    rw [← hv]
    rfl
  rw [this]
  simp

theorem wanted_not {ops : Array Oper} {n : Nat} {T A : Array Value} {o oj : Oper} {j : Nat} {b c : Bool} (hsl : slotsB ops n T.size = true) (hsz : A.size = T.size) (hg : o.guard = some (j, b)) (hj : j < n) (hoj : ops[j]? = some oj) (hbc : (c == b) = false) (hv : A.getD (dstOf ops j) undef = .bool c) : Region.wanted o (yielded ops A) = false := by
  obtain ⟨hd, hlt, _⟩ := dst_some hsl hj hoj
  unfold Region.wanted
  rw [hg]
  show (yielded ops A j == some b) = false
  unfold yielded
  rw [hoj]
  simp only [Option.bind_some, hd]
  have hs : dstOf ops j < A.size := by rw [hsz]; exact hlt
  have : A[dstOf ops j]? = some (.bool c) := by
    rw [Array.getElem?_eq_getElem hs]
    simp only [Array.getD, hs, dif_pos] at hv
    rw [← hv]
    rfl
  rw [this]
  simpa using hbc

theorem wp_region_good {P : Program} {id : Nat} {ops : Array Oper} {Q : Exit → Act → World → Prop} {a0 : Act} {w0 : World} (n : Nat) (G : Nat → Value → World → Prop) (hm : P.follows .mixedOrders = true) (hn : ops.size = n + 1) (hd : dagB ops = true) (hs : succB ops n = true) (hsl : slotsB ops n a0.tmps.size = true)
    (mono : ∀ j v u u', G j v u → Chg u u' → G j v u')
    (step : ∀ i o a w, i < n → ops[i]? = some o → a.tmps.size = a0.tmps.size → (∀ k, freeSlot ops n k = true → a.tmps.getD k undef = a0.tmps.getD k undef) → (∀ j, depB ops i j = true → j < n → G j (a.tmps.getD (dstOf ops j) undef) w) → Chg w0.drew w → (Region.wanted o (yielded ops a.tmps) = true ∧ o.wp P a w (fun a' w' => ∃ v, a' = a.put o.dst v ∧ G i v w' ∧ Chg w w') Q) ∨ (Region.wanted o (yielded ops a.tmps) = false ∧ G i undef w))
    (last : ∀ o w (V : Nat → Value), ops[n]? = some o → (∀ j, j < n → G j (V j) w) → Chg w0.drew w → o.guard = none ∧ o.wp P ⟨finF ops n V a0.tmps, a0.defers⟩ w (fun a' w' => Q .normal a' w') Q) : (Code.region id ops true).wp P Q a0 w0 := by
  refine wp_region_lastW n hm hn hd hs (RG ops n G w0.drew a0) ?_ ?_ ⟨Chg.refl _, rfl, rfl, fun _ _ => rfl, fun j hj hl => ?_⟩
  · intro l a w i o hI hi hls hdep ho
    rcases step i o a w hi ho hI.size hI.frame (fun j hj hjn => hI.good j hjn (hdep j hj)) hI.chg with ⟨h1, h2⟩ | ⟨h1, h2⟩
    · refine .inl ⟨h1, Oper.wp_mono ?_ h2⟩
      rintro a' w' ⟨v, rfl, hv, hc⟩
      exact hI.put hsl mono hi ho hc hv
    · exact .inr ⟨h1, hI.put hsl mono hi ho (Chg.refl _) h2⟩
  · intro l a w o hI hall ho
    have e : a = ⟨finF ops n (fun j => a.tmps.getD (dstOf ops j) undef) a0.tmps, a0.defers⟩ := by
      obtain ⟨A, d⟩ := a
      have hdf : d = a0.defers := hI.defers
      subst hdf
      congr 1
      refine Array.ext (by simp [finF]; exact hI.size) ?_
      intro k h1 h2
      have h3 : A[k] = A.getD k undef := by simp [h1]
      rw [h3]
      simp only [finF, List.getElem_toArray, List.getElem_map, List.getElem_range]
      cases hf : (List.range n).find? fun j => dstOf ops j == k with
      | none =>
        refine hI.frame k ?_
        unfold freeSlot
        rw [List.all_eq_true]
        intro j hj
        have := (List.find?_eq_none.1 hf) j hj
        simpa using this
      | some j =>
        have h4 := List.find?_some hf
        have h6 : dstOf ops j = k := by simpa using h4
        rw [← h6]
        rfl
    obtain ⟨h1, h2⟩ := last o w (fun j => a.tmps.getD (dstOf ops j) undef) ho (fun j hj => hI.good j hj (hall j hj)) hI.chg
    refine ⟨wanted_none h1, ?_⟩
    rw [← e] at h2
    exact h2
  · exfalso
    rw [Array.getD_eq_getD_getElem?] at hl
    by_cases e : j < ops.size
    · simp [e] at hl
    · simp [e] at hl

theorem opG_val {P : Program} {o : Oper} {a : Act} {w w' : World} {v : Value} {G : Value → World → Prop} {Q : Exit → Act → World → Prop} (h : (execOp a.eval o).run P w = .ok (.value v) w') (hv : G v w') (hc : Chg w w') : o.wp P a w (fun a' u => ∃ v, a' = a.put o.dst v ∧ G v u ∧ Chg w u) Q := by
  unfold Oper.wp
  rw [h, Oper.upon_value]
  exact ⟨v, rfl, hv, hc⟩

theorem opG_go {o : Oper} {a : Act} {w : World} {vs : Array Value} {G : Value → World → Prop} {Q : Exit → Act → World → Prop} (f : Nat) (fn : Func) (xs : Array Operand) (ts : Array TypeId) (h : o.op = .call { callee := .value (.func f), args := xs, argTypes := ts }) (hf : Try.prog.funcs[f]? = some fn) (hn : (fn.name == "runtime.NumGoroutine") = false) (hb : fn.body.isNone = false) (hv : xs.map a.eval = vs) (hc : Calls Try.prog f vs w fun e w' => ∃ v, e = .returned v ∧ G v w' ∧ Chg w w') : o.wp Try.prog a w (fun a' u => ∃ v, a' = a.put o.dst v ∧ G v u ∧ Chg w u) Q := by
  have hr := run_go a o f fn xs ts w hf hn hb h
  rw [hv] at hr
  unfold Oper.wp
  rw [hr]
  show Calls Try.prog f vs w _
  refine hc.mono ?_
  rintro e w' ⟨v, rfl, h1, h2⟩
  exact ⟨v, rfl, h1, h2⟩
end Go.Proofs.Ytnahkcapbbjfdaa
