/-
  Transcripts: Add and Retry, of both.
-/
import Derived.Test.YtijpdhjlafihkaaDoorTj48
namespace Go.Proofs.YtijpdhjlafihkaaDoor
open Go.RowKit
set_option linter.unusedVariables false
set_option maxRecDepth 100000

/-- What is added to a transcript: its cell, its row, and new memory alone may have changed. -/
structure AD (P : Nat) (ty : TypeId) (v : Value) (xs : List Int) (w w' : World) (v' : Value) : Prop where
  tc : TC w' P ty v'
  own : Ap.OwnV w' v' xs
  chg : Ap.Chg (fun k => k = P ∨ v.ownBlock = some k) w w'
  row : ∀ k, v'.ownBlock = some k → v.ownBlock = some k ∨ w.heap.size ≤ k
  ne : ¬ v'.ownBlock = some P

theorem tc_ap {w w' : World} {P : Nat} {ty : TypeId} {v : Value} {S : Nat → Prop} (h : TC w P ty v) (k : Ap.Chg S w w') (hn : ¬ S P) : TC w' P ty v := by
  unfold TC at *
  rw [k.block P (lt_blk h) hn]
  exact h
theorem set_ap {w : World} {P : Nat} (u : Value) : Ap.Chg (fun k => k = P) w (w.setCell ⟨P, 0, none⟩ u) :=
  Ap.Chg.setCell (S := fun k => k = P) (Ap.Chg.refl _ w) (fun _ => rfl) u
theorem own_set {w : World} {P : Nat} {v : Value} {xs : List Int} (h : Ap.OwnV w v xs) (hn : ¬ v.ownBlock = some P) (u : Value) : Ap.OwnV (w.setCell ⟨P, 0, none⟩ u) v xs :=
  h.keep (fun k hk => Below.heap_setCell _ _ _ _ (fun e => hn (by rw [hk, e])))

set_option maxHeartbeats 2000000 in
theorem tadd_any (P : Nat) (v vm : Value) (xs ys : List Int) (w : World) (h : TC w P 54 v) (ho : Ap.OwnV w v xs) (hn : ¬ v.ownBlock = some P) (hm : Ap.Rd w vm ys) (hl : xs.length + ys.length ≤ 140737488355328) :
    Calls Tryd.prog 12 #[.pointer (some ⟨P, 0, none⟩), vm] w fun e w' => e = .returned (.tuple #[]) ∧ ∃ v', AD P 54 v (xs ++ ys) w w' v' := by
  obtain ⟨o, m, c, rfl, -⟩ := ho.rd.shape
  obtain ⟨o1, m1, c1, rfl, -⟩ := hm.shape
  have HX : Hid (TC w P 54 (.slice o m c) ∧ Ap.OwnV w (.slice o m c) xs ∧ ¬ (Value.slice o m c).ownBlock = some P ∧ Ap.Rd w (.slice o1 m1 c1) ys ∧ xs.length + ys.length ≤ 140737488355328) := ⟨h, ho, hn, hm, hl⟩
  have c0 := h.cell
  clear h ho hn hm hl
  go_enter Tryd.func12, Tryd.ntmps12
  go_wp2_with (at_builtin; refine Ap.wpList_app _ rfl _ _ rfl (.slice o m c) (.slice o1 m1 c1) xs ys rfl rfl HX.out.2.1 HX.out.2.2.2.1 HX.out.2.2.2.2 ?_)
  intro v1 w1 r1 r2 r3
  obtain ⟨o2, m2, c2, rfl, -⟩ := r1.rd.shape
  have ht := tc_ap HX.out.1 r2 HX.out.2.2.1
  have hP := lt_blk HX.out.1
  have hne : ¬ (Value.slice o2 m2 c2).ownBlock = some P := fun e => by
    rcases r3 with q | q
    · rw [q] at e
      exact HX.out.2.2.1 e
    · rw [q] at e
      injection e with e
      omega
  have H1 : Hid (TC w1 P 54 (.slice o m c) ∧ Ap.OwnV w1 (.slice o2 m2 c2) (xs ++ ys) ∧ Ap.Chg (fun k => (Value.slice o m c).ownBlock = some k) w w1 ∧ ((Value.slice o2 m2 c2).ownBlock = (Value.slice o m c).ownBlock ∨ (Value.slice o2 m2 c2).ownBlock = some w.heap.size) ∧ ¬ (Value.slice o2 m2 c2).ownBlock = some P) := ⟨ht, r1, r2, r3, hne⟩
  have c1 := ht.cell
  have f1 := ht.frozen
  clear ht r1 r2 r3 hne hP c0
  go_wp2
  go_end0
  refine ⟨rfl, .slice o2 m2 c2, H1.out.1.set _, own_set H1.out.2.1 H1.out.2.2.2.2 _, H1.out.2.2.1.mono (fun _ _ e => .inr e) |>.trans (set_ap _) (fun _ _ e => .inl e), fun k e => ?_, H1.out.2.2.2.2⟩
  rcases H1.out.2.2.2.1 with q | q
  · rw [q] at e
    exact .inl e
  · rw [q] at e
    injection e with e
    exact .inr (by omega)

set_option maxHeartbeats 4000000 in
theorem dadd_any (P : Nat) (v vm : Value) (xs ys : List Int) (w : World) (h : TC w P 35 v) (ho : Ap.Rd w v xs) (hm : Ap.Rd w vm ys) (hl : xs.length + ys.length ≤ 140737488355328) :
    Calls Tryd.prog 13 #[.pointer (some ⟨P, 0, none⟩), vm] w fun e w' => e = .returned (.tuple #[]) ∧ ∃ v', AD P 35 (.slice none 0 0) (xs ++ ys) w w' v' := by
  obtain ⟨o, m, c, rfl, -⟩ := ho.shape
  obtain ⟨o1, m1, c1, rfl, -⟩ := hm.shape
  have q1 : Chg w (w.alloc (.cells #[] 5)) := (Chg.refl w).alloc _
  have c1' := cell_at q1 h.cell
  have HX : Hid (TC w P 35 (.slice o m c) ∧ Ap.Rd w (.slice o m c) xs ∧ Ap.Rd w (.slice o1 m1 c1) ys ∧ xs.length + ys.length ≤ 140737488355328) := ⟨h, ho, hm, hl⟩
  have Q : Hid (Chg w (w.alloc (.cells #[] 5))) := q1
  clear h ho hm hl q1
  go_enter Tryd.func13, Tryd.ntmps13
  go_wp2_with (at_builtin; refine Ap.wpList_app _ rfl _ _ rfl (.slice (some ⟨w.heap.size, 0, none⟩) 0 0) (.slice o m c) [] xs rfl rfl (OwnV.empty w) (Rd.chg HX.out.2.1 Q.out) (by have := HX.out.2.2.2; simp only [List.length_nil]; omega) ?_)
  intro v1 w1 r1 r2 r3
  obtain ⟨o2, m2, c2, rfl, -⟩ := r1.rd.shape
  have H1 : Hid (Chg w w1 ∧ Ap.OwnV w1 (.slice o2 m2 c2) ([] ++ xs) ∧ ∀ k, (Value.slice o2 m2 c2).ownBlock = some k → w.heap.size ≤ k) := ⟨Chg.app (Chg.refl w) r2, r1, fun k e => by
    rcases r3 with q | q
    · rw [q] at e
      simp [Value.ownBlock] at e
      omega
    · rw [q] at e
      injection e with e
      have : (w.alloc (.cells #[] 5)).heap.size = w.heap.size + 1 := by simp
      omega⟩
  clear r1 r2 r3 c1'
  go_wp2_with (at_builtin; refine Ap.wpList_app _ rfl _ _ rfl (.slice o2 m2 c2) (.slice o1 m1 c1) ([] ++ xs) ys rfl rfl H1.out.2.1 (Rd.chg HX.out.2.2.1 H1.out.1) (by have := HX.out.2.2.2; simp only [List.nil_append]; omega) ?_)
  intro v3 w3 r1 r2 r3
  obtain ⟨o3, m3, c3, rfl, -⟩ := r1.rd.shape
  have hc3 : Chg w w3 := Chg.ap H1.out.1 r2 (fun i e => H1.out.2.2 i e)
  have ht : TC w3 P 35 (.slice o m c) := by
    unfold TC
    rw [hc3.block P (lt_blk HX.out.1)]
    exact HX.out.1
  have hP := lt_blk HX.out.1
  have hge : ∀ k, (Value.slice o3 m3 c3).ownBlock = some k → w.heap.size ≤ k := fun k e => by
    rcases r3 with q | q
    · rw [q] at e
      exact H1.out.2.2 k e
    · rw [q] at e
      injection e with e
      have := H1.out.1.size
      omega
  have H3 : Hid (Chg w w3 ∧ Ap.OwnV w3 (.slice o3 m3 c3) (xs ++ ys) ∧ TC w3 P 35 (.slice o m c) ∧ (∀ k, (Value.slice o3 m3 c3).ownBlock = some k → w.heap.size ≤ k) ∧ P < w.heap.size) := ⟨hc3, r1, ht, hge, hP⟩
  have c1 := ht.cell
  have f1 := ht.frozen
  clear r1 r2 r3 hc3 ht hge hP
  go_wp2
  go_end0
  have hne : ¬ (Value.slice o3 m3 c3).ownBlock = some P := fun e => by
    have h1 := H3.out.2.2.2.1 P e
    have h2 := H3.out.2.2.2.2
    omega
  exact ⟨rfl, .slice o3 m3 c3, H3.out.2.2.1.set _, own_set H3.out.2.1 hne _, (H3.out.1.toAp.mono (fun _ _ e => e.elim)).trans (set_ap _) (fun _ _ e => .inl e), fun k e => .inr (H3.out.2.2.2.1 k e), hne⟩
end Go.Proofs.YtijpdhjlafihkaaDoor
