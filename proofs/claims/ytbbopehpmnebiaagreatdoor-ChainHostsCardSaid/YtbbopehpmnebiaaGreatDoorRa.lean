/-
  A loop over the labels of a name, and how many there are.
-/
import Derived.Test.YtbbopehpmnebiaaGreatDoorIt
namespace Go.Proofs.YtbbopehpmnebiaaGreatDoor
open Go.RowKit Go.Shelf
set_option linter.unusedVariables false
set_option maxRecDepth 100000

theorem lt_some {W : World} {b : Nat} {o : Obj} (h : W.heap[b]? = some o) : b < W.heap.size := (Array.getElem?_eq_some_iff.1 h).1
theorem chg_put {W : World} {l : Nat} {o o' : Obj} (h : W.heap[l]? = some o) : Chg (One l) W (W.putObj l o') :=
  ⟨rfl, rfl, rfl, by simp, fun b _ hn => World.putObj_heap_other (fun e => hn e)⟩
/-- How a round that goes on ends, and how one that returns does. -/
def goesOn (R : World → Prop) : Exit → Act → World → Prop
  | .normal, _, w => R w
  | _, _, _ => False
def goesOut (R : World → Prop) : Exit → Act → World → Prop
  | .ret, _, w => R w
  | _, _, _ => False

set_option maxHeartbeats 4000000 in
theorem range_labels {A B : Code} {Q : Exit → Act → World → Prop} {a : Act} {n : Nat} (w5 : World) (Bx : Nat) (s : List UInt8) (hs : s.length ≤ 253)
    (hev : a.eval (.tmp 9) = .func (.func 43) #[] #[.pointer (some ⟨Bx, 0, none⟩)])
    (I : List (List UInt8) → World → Prop) (Ix : World → Prop)
    (hIA : ∀ d W W', I d W → Chg Non W W' → I d W')
    (hIP : ∀ d W r o o', I d W → w5.heap.size ≤ r → W.heap[r]? = some o → o.isCells = false → I d (W.putObj r o'))
    (hXP : ∀ W r o o', Ix W → w5.heap.size ≤ r → W.heap[r]? = some o → o.isCells = false → Ix (W.putObj r o'))
    (hIR : ∀ d W, I d W → W.cell? ⟨Bx, 0, none⟩ = some (.string ⟨s.toArray⟩))
    (h0 : I [] w5)
    (hOk : ∀ d p t W, I d W → spl s = d ++ p :: t → isLab p = true → (∃ r, W.heap[w5.heap.size + 1]? = some (.loop r)) → W.heap[w5.heap.size]? = some (.deferred (some [])) →
      A.wpIn (Fence.wide.inRound (w5.heap.size + 1)) n Tryz.prog (Exit.then (fun a1 w1 => Chg Non W w1 ∧ ∀ w2, w2.heap.size = w1.heap.size → Chg (One (w5.heap.size + 1)) w1 w2 → (∀ o cu t z, w1.heap[w5.heap.size + 1]? = some o → o ≠ .cells cu t z) →
        B.wpIn (Fence.wide.inRound (w5.heap.size + 1)) n Tryz.prog (goesOn fun w3 => I (d ++ [p]) w3 ∧ w3.heap[w5.heap.size + 1]? = w2.heap[w5.heap.size + 1]? ∧ w3.heap[w5.heap.size]? = w2.heap[w5.heap.size]?) a1 w2) (fun _ _ _ => False))
        { tmps := a.tmps.setIfInBounds 10 (.string ⟨p.toArray⟩), defers := [] } W)
    (hEr : ∀ d p t W, I d W → spl s = d ++ p :: t → isLab p = false → (∃ r, W.heap[w5.heap.size + 1]? = some (.loop r)) → W.heap[w5.heap.size]? = some (.deferred (some [])) →
      A.wpIn (Fence.wide.inRound (w5.heap.size + 1)) n Tryz.prog (Exit.then (fun a1 w1 => Chg Non W w1 ∧ ∀ w2, w2.heap.size = w1.heap.size → Chg (One (w5.heap.size + 1)) w1 w2 → (∀ o cu t z, w1.heap[w5.heap.size + 1]? = some o → o ≠ .cells cu t z) →
        B.wpIn (Fence.wide.inRound (w5.heap.size + 1)) n Tryz.prog (goesOut fun w3 => Ix w3 ∧ w3.heap[w5.heap.size + 1]? = w2.heap[w5.heap.size + 1]? ∧ w3.heap[w5.heap.size]? = w2.heap[w5.heap.size]?) a1 w2) (fun _ _ _ => False))
        { tmps := a.tmps.setIfInBounds 10 (.string ⟨p.toArray⟩), defers := [] } W)
    (hdone : ∀ W, I (spl s) W → W.heap[w5.heap.size]? = some (.deferred (some [])) → Q .normal { a with defers := { target := .collected w5.heap.size, args := #[] } :: a.defers } W)
    (hstop : ∀ W, Ix W → W.heap[w5.heap.size]? = some (.deferred (some [])) → Code.ret.wpIn Fence.wide (n + 1 + 1) Tryz.prog Q { a with defers := { target := .collected w5.heap.size, args := #[] } :: a.defers } W) :
    (Code.rangeFunc (.tmp 9) #[10] A B).wpIn Fence.wide (n + 1 + 1) Tryz.prog Q a w5 := by
  refine wpIn_rangeFunc ?_
  intro fn hfn
  obtain ⟨rec, hrec⟩ : ∃ rec : LoopState → Option Code → Loop, rec = fun st pe => { state := st, pending := pe, fn, tmps := a.tmps, params := #[10], assign := A, body := B, defers := w5.heap.size } := ⟨_, rfl⟩
  obtain ⟨W1, hW1⟩ : ∃ W1, (w5.alloc (.deferred (some []))).alloc (.loop (rec .ready none)) = W1 := ⟨_, rfl⟩
  have hL1 : W1.heap[w5.heap.size + 1]? = some (.loop (rec .ready none)) := by
    rw [← hW1]; have := World.alloc_heap_new (w5.alloc (.deferred (some []))) (.loop (rec .ready none)); rwa [World.size_alloc] at this
  have hK1 : W1.heap[w5.heap.size]? = some (.deferred (some [])) := by
    rw [← hW1]; exact (Below.heap_alloc _ _ _ (by simp)).trans (World.alloc_heap_new w5 _)
  have hI1 : I [] W1 := by rw [← hW1]; exact hIA _ _ _ h0 (((Chg.refl _ _).alloc _).alloc _)
  have hbusy : ∀ st pe, { rec st pe with state := .busy } = rec .busy pe := fun st pe => by rw [hrec]
  have hend : ∀ st pe st' pe', { rec st pe with state := st', pending := pe' } = rec st' pe' := fun st pe st' pe' => by rw [hrec]
  refine ⟨w5.heap.size + 1, [{ target := .collected w5.heap.size, args := #[] }], W1, { target := .fn (.func 43) #[.pointer (some ⟨Bx, 0, none⟩)], args := #[.func (.yield (w5.heap.size + 1)) #[] #[]] }, W1, 43,
    #[.func (.yield (w5.heap.size + 1)) #[] #[]] ++ #[.pointer (some ⟨Bx, 0, none⟩)], W1, ?_, ?_, ?_, ?_, (fun h => by cases h), ?_⟩
  · rw [← hW1, hrec]; exact run_enterLoop_outer _ _ _ _ _
  · simp only [resolve, hev]
    simp [go_sem]
  · intro f' hf'; trivial
  · have eg : ∀ args w, (callFunc 43 args).run Tryz.prog w = .ok (.enter 43 args) w := enters_of Tryz.func43 (by kernel_rfl) rfl
    simp [invoke, go_sem, eg]
  · have hy : ∀ (p : List UInt8) (W : World), W.heap[w5.heap.size + 1]? = some (.loop (rec .ready none)) → (Instr.yield (w5.heap.size + 1) #[.string ⟨p.toArray⟩]).run Tryz.prog W = .ok (.round (w5.heap.size + 1) fn (a.tmps.setIfInBounds 10 (.string ⟨p.toArray⟩)) A B) W := fun p W hl1 => by
      have := run_yield (P := Tryz.prog) (args := #[.string ⟨p.toArray⟩]) hl1 (by rw [hrec]; rfl)
      rw [hrec] at this
      simpa using this
    refine (lab1_any (n + 1) (w5.heap.size + 1) Bx s hs
      (fun d W => I d W ∧ W.heap[w5.heap.size + 1]? = some (.loop (rec .ready none)) ∧ W.heap[w5.heap.size]? = some (.deferred (some [])))
      (fun W => Ix W ∧ W.heap[w5.heap.size + 1]? = some (.loop (rec .done (some .ret))) ∧ W.heap[w5.heap.size]? = some (.deferred (some [])))
      ?_ (fun d W h => hIR d W h.1) ?_ ?_ W1 ⟨hI1, hL1, hK1⟩).mono ?_
    · rintro d W W' ⟨hi, h1, h2⟩ hc
      exact ⟨hIA _ _ _ hi hc, (hc.block _ (lt_some h1) (fun x => x)).trans h1, (hc.block _ (lt_some h2) (fun x => x)).trans h2⟩
    · rintro d p t W ⟨hi, h1, h2⟩ hsp hlb
      refine ⟨fn, _, A, B, hy p W h1, roundIn_of_wpIn hfn (wpIn_mono (hOk d p t W hi hsp hlb ⟨_, h1⟩ h2) ?_)⟩
      rintro e a1 w1 hp
      cases e with
      | normal =>
        obtain ⟨hc1, hB⟩ := hp
        have hr1 := (hc1.block _ (lt_some h1) (fun x => x)).trans h1
        have hr2 := (hc1.block _ (lt_some h2) (fun x => x)).trans h2
        refine ⟨_, run_beginRound hr1 (by rw [hrec]), wpIn_mono (hB _ (by simp) (chg_put hr1) (fun o cu t z e => by rw [hr1] at e; injection e with e; subst e; exact fun q => by cases q)) ?_⟩
        rw [hbusy]
        rintro e a3 w3 hp3
        cases e with
        | normal =>
          obtain ⟨q1, q2, q3⟩ := hp3
          have z1 : w3.heap[w5.heap.size + 1]? = some (.loop (rec .busy none)) := q2.trans (World.putObj_heap_same (lt_some hr1))
          have z2 : w3.heap[w5.heap.size]? = some (.deferred (some [])) := q3.trans ((World.putObj_heap_other (by omega)).trans hr2)
          have ze := run_endRound (P := Tryz.prog) none z1
          rw [hend] at ze
          exact ⟨_, _, ze, rfl, hIP _ _ _ _ _ q1 (by omega) z1 rfl, World.putObj_heap_same (lt_some z1), (World.putObj_heap_other (by omega)).trans z2⟩
        | _ => exact hp3.elim
      | _ => exact hp.elim
    · rintro d p t W ⟨hi, h1, h2⟩ hsp hlb
      refine ⟨fn, _, A, B, hy p W h1, roundIn_of_wpIn hfn (wpIn_mono (hEr d p t W hi hsp hlb ⟨_, h1⟩ h2) ?_)⟩
      rintro e a1 w1 hp
      cases e with
      | normal =>
        obtain ⟨hc1, hB⟩ := hp
        have hr1 := (hc1.block _ (lt_some h1) (fun x => x)).trans h1
        have hr2 := (hc1.block _ (lt_some h2) (fun x => x)).trans h2
        refine ⟨_, run_beginRound hr1 (by rw [hrec]), wpIn_mono (hB _ (by simp) (chg_put hr1) (fun o cu t z e => by rw [hr1] at e; injection e with e; subst e; exact fun q => by cases q)) ?_⟩
        rw [hbusy]
        rintro e a3 w3 hp3
        cases e with
        | ret =>
          obtain ⟨q1, q2, q3⟩ := hp3
          have z1 : w3.heap[w5.heap.size + 1]? = some (.loop (rec .busy none)) := q2.trans (World.putObj_heap_same (lt_some hr1))
          have z2 : w3.heap[w5.heap.size]? = some (.deferred (some [])) := q3.trans ((World.putObj_heap_other (by omega)).trans hr2)
          have ze := run_endRound (P := Tryz.prog) (some .ret) z1
          rw [hend] at ze
          exact ⟨_, _, ze, rfl, hXP _ _ _ _ q1 (by omega) z1 rfl, World.putObj_heap_same (lt_some z1), (World.putObj_heap_other (by omega)).trans z2⟩
        | _ => exact hp3.elim
      | _ => exact hp.elim
    · rintro e W2 ⟨⟨u, rfl⟩, (⟨hi, h1, h2⟩ | ⟨hi, h1, h2⟩)⟩
      · have ze := run_endLoop (P := Tryz.prog) h1 (by rw [hrec]; simp)
        rw [show (rec .ready none).pending = none by rw [hrec]] at ze
        exact ⟨none, _, ze, hdone _ (hIP _ _ _ _ _ hi (by omega) h1 rfl) ((World.putObj_heap_other (by omega)).trans h2)⟩
      · have ze := run_endLoop (P := Tryz.prog) h1 (by rw [hrec]; simp)
        rw [show (rec .done (some .ret)).pending = some .ret by rw [hrec]] at ze
        exact ⟨some .ret, _, ze, hstop _ (hXP _ _ _ _ hi (by omega) h1 rfl) ((World.putObj_heap_other (by omega)).trans h2)⟩
end Go.Proofs.YtbbopehpmnebiaaGreatDoor
