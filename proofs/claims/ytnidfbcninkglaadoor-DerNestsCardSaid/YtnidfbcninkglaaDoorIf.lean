/-
  A loop over the items of a body, whatever its body is: what the rounds keep, what each is told of the item's memory.
-/
import Derived.Test.YtnidfbcninkglaaDoorId
namespace Go.Proofs.YtnidfbcninkglaaDoor
open Go.RowKit Go.Shelf
set_option linter.unusedVariables false
set_option maxRecDepth 100000

/-- How a round that goes on ends, and how one that returns does. -/
def goesOn (R : World → Prop) : Exit → Act → World → Prop
  | .normal, _, w => R w
  | _, _, _ => False
def goesOut (R : World → Prop) : Exit → Act → World → Prop
  | .ret, _, w => R w
  | _, _, _ => False

set_option maxHeartbeats 4000000 in
theorem range_items {A B : Code} {Q : Exit → Act → World → Prop} {a : Act} {n : Nat} (w5 : World) (Bx : Nat) (v : Value) (xs : List Int) (hb : Byt xs) (hl : xs.length ≤ 140737488355328)
    (hev : a.eval (.tmp 10) = .func (.func 60) #[] #[.pointer (some ⟨Bx, 0, none⟩)])
    (I : List (PI × Value) → Nat → World → Prop) (Ix : Nat → World → Prop)
    (hIA : ∀ pre k W W', I pre k W → Chg Non W W' → I pre k W')
    (hIP : ∀ pre k W r o o', I pre k W → w5.heap.size ≤ r → W.heap[r]? = some o → o.isCells = false → I pre k (W.putObj r o'))
    (hXP : ∀ k W r o o', Ix k W → w5.heap.size ≤ r → W.heap[r]? = some o → o.isCells = false → Ix k (W.putObj r o'))
    (hIR : ∀ pre k W, I pre k W → W.cell? ⟨Bx, 0, none⟩ = some v ∧ Rd W v xs)
    (h0 : I [] 0 w5)
    (hOk : ∀ pre k x v' u W, I pre k u → Chg Non u W → (∃ r, u.heap[w5.heap.size + 1]? = some (.loop r)) → u.heap[w5.heap.size]? = some (.deferred (some [])) → nxI xs k = some x → OwnV W v' x.ys → (∀ i, v'.ownBlock = some i → u.heap.size ≤ i) →
      A.wpIn (Fence.wide.inRound (w5.heap.size + 1)) n Tryd.prog (Exit.then (fun a1 w1 => Chg Non W w1 ∧ ∀ w2, w2.heap.size = w1.heap.size → Chg (One (w5.heap.size + 1)) w1 w2 → (∀ o cu t z, w1.heap[w5.heap.size + 1]? = some o → o ≠ .cells cu t z) →
        B.wpIn (Fence.wide.inRound (w5.heap.size + 1)) n Tryd.prog (goesOn fun w3 => I (pre ++ [(x, v')]) (k + x.l) w3 ∧ w3.heap[w5.heap.size + 1]? = w2.heap[w5.heap.size + 1]? ∧ w3.heap[w5.heap.size]? = w2.heap[w5.heap.size]? ∧ ∀ b, u.heap.size ≤ b → b < w2.heap.size → w3.heap[b]? = w2.heap[b]?) a1 w2) (fun _ _ _ => False))
        { tmps := (a.tmps.setIfInBounds 11 (itemV x.t v' x.k x.l)).setIfInBounds 12 .nilIface, defers := [] } W)
    (hEr : ∀ pre k W, I pre k W → (∃ r, W.heap[w5.heap.size + 1]? = some (.loop r)) → W.heap[w5.heap.size]? = some (.deferred (some [])) → k < xs.length → nxE xs k ≠ 0 →
      A.wpIn (Fence.wide.inRound (w5.heap.size + 1)) n Tryd.prog (Exit.then (fun a1 w1 => Chg Non W w1 ∧ ∀ w2, w2.heap.size = w1.heap.size → Chg (One (w5.heap.size + 1)) w1 w2 → (∀ o cu t z, w1.heap[w5.heap.size + 1]? = some o → o ≠ .cells cu t z) →
        B.wpIn (Fence.wide.inRound (w5.heap.size + 1)) n Tryd.prog (goesOut fun w3 => Ix k w3 ∧ w3.heap[w5.heap.size + 1]? = w2.heap[w5.heap.size + 1]? ∧ w3.heap[w5.heap.size]? = w2.heap[w5.heap.size]?) a1 w2) (fun _ _ _ => False))
        { tmps := (a.tmps.setIfInBounds 11 (itemV 0 (.slice none 0 0) 0 0)).setIfInBounds 12 (faultV (nxE xs k) k), defers := [] } W)
    (hdone : ∀ W pre k, xs.length ≤ k → I pre k W → W.heap[w5.heap.size]? = some (.deferred (some [])) → Q .normal { a with defers := { target := .collected w5.heap.size, args := #[] } :: a.defers } W)
    (hstop : ∀ W k, Ix k W → W.heap[w5.heap.size]? = some (.deferred (some [])) → Code.ret.wpIn Fence.wide (n + 1 + 1) Tryd.prog Q { a with defers := { target := .collected w5.heap.size, args := #[] } :: a.defers } W) :
    (Code.rangeFunc (.tmp 10) #[11, 12] A B).wpIn Fence.wide (n + 1 + 1) Tryd.prog Q a w5 := by
  refine wpIn_rangeFunc ?_
  intro fn hfn
  obtain ⟨rec, hrec⟩ : ∃ rec : LoopState → Option Code → Loop, rec = fun st pe => { state := st, pending := pe, fn, tmps := a.tmps, params := #[11, 12], assign := A, body := B, defers := w5.heap.size } := ⟨_, rfl⟩
  obtain ⟨W1, hW1⟩ : ∃ W1, (w5.alloc (.deferred (some []))).alloc (.loop (rec .ready none)) = W1 := ⟨_, rfl⟩
  have hL1 : W1.heap[w5.heap.size + 1]? = some (.loop (rec .ready none)) := by
    rw [← hW1]; have := World.alloc_heap_new (w5.alloc (.deferred (some []))) (.loop (rec .ready none)); rwa [World.size_alloc] at this
  have hK1 : W1.heap[w5.heap.size]? = some (.deferred (some [])) := by
    rw [← hW1]; exact (Below.heap_alloc _ _ _ (by simp)).trans (World.alloc_heap_new w5 _)
  have hI1 : I [] 0 W1 := by rw [← hW1]; exact hIA _ _ _ _ h0 (((Chg.refl _ _).alloc _).alloc _)
  have hbusy : ∀ st pe, { rec st pe with state := .busy } = rec .busy pe := fun st pe => by rw [hrec]
  have hend : ∀ st pe st' pe', { rec st pe with state := st', pending := pe' } = rec st' pe' := fun st pe st' pe' => by rw [hrec]
  refine ⟨w5.heap.size + 1, [{ target := .collected w5.heap.size, args := #[] }], W1, { target := .fn (.func 60) #[.pointer (some ⟨Bx, 0, none⟩)], args := #[.func (.yield (w5.heap.size + 1)) #[] #[]] }, W1, 60,
    #[.func (.yield (w5.heap.size + 1)) #[] #[]] ++ #[.pointer (some ⟨Bx, 0, none⟩)], W1, ?_, ?_, ?_, ?_, (fun h => by cases h), ?_⟩
  · rw [← hW1, hrec]; exact run_enterLoop_outer _ _ _ _ _
  · simp only [resolve, hev]
    simp [go_sem]
  · intro f' hf'; trivial
  · have eg : ∀ args w, (callFunc 60 args).run Tryd.prog w = .ok (.enter 60 args) w := enters_of Tryd.func60 (by kernel_rfl) rfl
    simp [invoke, go_sem, eg]
  · refine (each1_any (n + 1) (w5.heap.size + 1) Bx v xs hb hl
      (fun pre k W => I pre k W ∧ W.heap[w5.heap.size + 1]? = some (.loop (rec .ready none)) ∧ W.heap[w5.heap.size]? = some (.deferred (some [])))
      (fun k W => Ix k W ∧ W.heap[w5.heap.size + 1]? = some (.loop (rec .done (some .ret))) ∧ W.heap[w5.heap.size]? = some (.deferred (some [])))
      ?_ (fun pre k W h => hIR pre k W h.1) ?_ ?_ W1 ⟨hI1, hL1, hK1⟩).mono ?_
    · rintro pre k W W' ⟨hi, h1, h2⟩ hc
      exact ⟨hIA _ _ _ _ hi hc, (hc.block _ (lt_some h1) (fun x => x)).trans h1, (hc.block _ (lt_some h2) (fun x => x)).trans h2⟩
    · rintro pre k x v' u W ⟨hi, h1, h2⟩ hc hx hov hn
      have hl1 := (hc.block _ (lt_some h1) (fun x => x)).trans h1
      have hl2 := (hc.block _ (lt_some h2) (fun x => x)).trans h2
      have hy : (Instr.yield (w5.heap.size + 1) #[itemV x.t v' x.k x.l, .nilIface]).run Tryd.prog W = .ok (.round (w5.heap.size + 1) fn ((a.tmps.setIfInBounds 11 (itemV x.t v' x.k x.l)).setIfInBounds 12 .nilIface) A B) W := by
        have := run_yield (P := Tryd.prog) (args := #[itemV x.t v' x.k x.l, .nilIface]) hl1 (by rw [hrec]; rfl)
        rw [hrec] at this
        simpa using this
      refine ⟨fn, _, A, B, hy, roundIn_of_wpIn hfn (wpIn_mono (hOk pre k x v' u W hi hc ⟨_, h1⟩ h2 hx hov hn) ?_)⟩
      rintro e a1 w1 hp
      cases e with
      | normal =>
        obtain ⟨hc1, hB⟩ := hp
        have hr1 := (hc1.block _ (lt_some hl1) (fun x => x)).trans hl1
        have hr2 := (hc1.block _ (lt_some hl2) (fun x => x)).trans hl2
        refine ⟨_, run_beginRound hr1 (by rw [hrec]), wpIn_mono (hB _ (by simp) (chg_put hr1) (fun o cu t z e => by rw [hr1] at e; injection e with e; subst e; exact fun q => by cases q)) ?_⟩
        rw [hbusy]
        rintro e a3 w3 hp3
        cases e with
        | normal =>
          obtain ⟨q1, q2, q3, q4⟩ := hp3
          have z1 : w3.heap[w5.heap.size + 1]? = some (.loop (rec .busy none)) := q2.trans (World.putObj_heap_same (lt_some hr1))
          have z2 : w3.heap[w5.heap.size]? = some (.deferred (some [])) := q3.trans ((World.putObj_heap_other (by omega)).trans hr2)
          have ze := run_endRound (P := Tryd.prog) none z1
          rw [hend] at ze
          refine ⟨_, _, ze, rfl, ⟨hIP _ _ _ _ _ _ q1 (by omega) z1 rfl, World.putObj_heap_same (lt_some z1), (World.putObj_heap_other (by omega)).trans z2⟩, fun b b1 b2 => ?_⟩
          have hlt := lt_some h1
          rw [World.putObj_heap_other (by omega), q4 b b1 (by have := hc1.size; simp; omega), World.putObj_heap_other (by omega)]
          exact hc1.block b b2 (fun x => x)
        | _ => exact hp3.elim
      | _ => exact hp.elim
    · rintro pre k W ⟨hi, hl1, hl2⟩ hk he
      have hy : (Instr.yield (w5.heap.size + 1) #[itemV 0 (.slice none 0 0) 0 0, faultV (nxE xs k) k]).run Tryd.prog W = .ok (.round (w5.heap.size + 1) fn ((a.tmps.setIfInBounds 11 (itemV 0 (.slice none 0 0) 0 0)).setIfInBounds 12 (faultV (nxE xs k) k)) A B) W := by
        have := run_yield (P := Tryd.prog) (args := #[itemV 0 (.slice none 0 0) 0 0, faultV (nxE xs k) k]) hl1 (by rw [hrec]; rfl)
        rw [hrec] at this
        simpa using this
      refine ⟨fn, _, A, B, hy, roundIn_of_wpIn hfn (wpIn_mono (hEr pre k W hi ⟨_, hl1⟩ hl2 hk he) ?_)⟩
      rintro e a1 w1 hp
      cases e with
      | normal =>
        obtain ⟨hc1, hB⟩ := hp
        have hr1 := (hc1.block _ (lt_some hl1) (fun x => x)).trans hl1
        have hr2 := (hc1.block _ (lt_some hl2) (fun x => x)).trans hl2
        refine ⟨_, run_beginRound hr1 (by rw [hrec]), wpIn_mono (hB _ (by simp) (chg_put hr1) (fun o cu t z e => by rw [hr1] at e; injection e with e; subst e; exact fun q => by cases q)) ?_⟩
        rw [hbusy]
        rintro e a3 w3 hp3
        cases e with
        | ret =>
          obtain ⟨q1, q2, q3⟩ := hp3
          have z1 : w3.heap[w5.heap.size + 1]? = some (.loop (rec .busy none)) := q2.trans (World.putObj_heap_same (lt_some hr1))
          have z2 : w3.heap[w5.heap.size]? = some (.deferred (some [])) := q3.trans ((World.putObj_heap_other (by omega)).trans hr2)
          have ze := run_endRound (P := Tryd.prog) (some .ret) z1
          rw [hend] at ze
          exact ⟨_, _, ze, rfl, hXP _ _ _ _ _ q1 (by omega) z1 rfl, World.putObj_heap_same (lt_some z1), (World.putObj_heap_other (by omega)).trans z2⟩
        | _ => exact hp3.elim
      | _ => exact hp.elim
    · rintro e W2 ⟨⟨u, rfl⟩, (⟨pre, k, hk, hi, h1, h2⟩ | ⟨k, hi, h1, h2⟩)⟩
      · have ze := run_endLoop (P := Tryd.prog) h1 (by rw [hrec]; simp)
        rw [show (rec .ready none).pending = none by rw [hrec]] at ze
        exact ⟨none, _, ze, hdone _ pre k hk (hIP _ _ _ _ _ _ hi (by omega) h1 rfl) ((World.putObj_heap_other (by omega)).trans h2)⟩
      · have ze := run_endLoop (P := Tryd.prog) h1 (by rw [hrec]; simp)
        rw [show (rec .done (some .ret)).pending = some .ret by rw [hrec]] at ze
        exact ⟨some .ret, _, ze, hstop _ k (hXP _ _ _ _ _ hi (by omega) h1 rfl) ((World.putObj_heap_other (by omega)).trans h2)⟩
end Go.Proofs.YtnidfbcninkglaaDoor
