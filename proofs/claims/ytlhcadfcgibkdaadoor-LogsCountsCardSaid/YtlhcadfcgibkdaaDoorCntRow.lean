/-
  A row of counters of our own: its cells, and append onto it.
-/
import Derived.Test.YtlhcadfcgibkdaaDoorCntMap
import Derived.Maps.AppendAt
namespace Go.Proofs.YtlhcadfcgibkdaaDoor
open Go.RowKit
set_option linter.unusedVariables false
set_option maxRecDepth 100000

def cntL (e : Ent) : List Value := [.string ⟨e.name.toArray⟩, .int .u64 e.n]
def rowC (R : List Ent) : List Value := R.flatMap cntL

theorem rowC_len : ∀ R : List Ent, (rowC R).length = R.length * 2
  | [] => rfl
  | e :: R => by
    have := rowC_len R
    unfold rowC at this ⊢
    simp only [List.flatMap_cons, List.length_append, this, List.length_cons]
    simp [cntL]
    omega

theorem rowC_get : ∀ (R : List Ent) (i j : Nat) (e : Ent), R[i]? = some e → j < 2 → (rowC R)[i * 2 + j]? = (cntL e)[j]?
  | [], i, j, e, h, _ => by simp at h
  | x :: R, 0, j, e, h, hj => by
    simp at h
    subst h
    unfold rowC
    simp only [List.flatMap_cons]
    rw [List.getElem?_append_left (by simp [cntL]; omega)]
    simp
  | x :: R, i + 1, j, e, h, hj => by
    have := rowC_get R i j e (by simpa using h) hj
    unfold rowC at this ⊢
    simp only [List.flatMap_cons]
    rw [List.getElem?_append_right (by simp [cntL]; omega), ← this]
    congr 1
    simp [cntL]
    omega

theorem rowC_app (A B : List Ent) : rowC (A ++ B) = rowC A ++ rowC B := by unfold rowC; simp
theorem rowC_one (R : List Ent) : ∀ u ∈ rowC R, u.oneCell' = true := by
  intro u hu
  obtain ⟨p, _, hu⟩ := List.mem_flatMap.1 hu
  simp only [cntL, List.mem_cons, List.not_mem_nil, or_false] at hu
  rcases hu with rfl | rfl <;> rfl

theorem Tryd.info56 : (Tryd.prog.info? 56).map (fun i => (i.zero, i.size, i.bytes)) = some (some (.agg #[.string ⟨#[]⟩, .int .u64 0]), 2, 24) := by kernel_rfl

/-- A list of counters in a row of our own. -/
def COwn (w : World) (v : Value) (R : List Ent) : Prop := w.ownsRow 0 56 2 v R.length (rowC R)

theorem COwn.shape {w : World} {v : Value} {R : List Ent} (h : COwn w v R) : ∃ ao c, v = .slice ao R.length c ∧ R.length ≤ c ∧ c ≤ maxLen ∧ (ao = none → R = [] ∧ c = 0) ∧ ∀ x, ao = some x → ∃ g, x = ⟨g, 0, none⟩ := by
  rcases h.2 with ⟨rfl, h0⟩ | ⟨g, cap, cur, rfl, _, _, h1, h2, _⟩
  · have : R = [] := List.eq_nil_of_length_eq_zero h0
    subst this
    exact ⟨none, 0, rfl, Nat.le_refl _, by decide, fun _ => ⟨rfl, rfl⟩, fun x e => by cases e⟩
  · exact ⟨_, cap, rfl, h1, h2, fun e => (by cases e), fun x e => by cases e; exact ⟨g, rfl⟩⟩

theorem COwn.cell {w : World} {g n cap : Nat} {R : List Ent} (h : COwn w (.slice (some ⟨g, 0, none⟩) n cap) R) {i : Nat} {e : Ent} (hi : R[i]? = some e) (j : Nat) (hj : j < 2) : w.cell? ⟨g, i * 2 + j, none⟩ = (cntL e)[j]? := by
  rcases h.2 with ⟨e', _⟩ | ⟨g', cap', cur, e', hbg, hg, hnc, hcm, hcs, htake⟩
  · cases e'
  · cases e'
    have hlt := (List.getElem?_eq_some_iff.1 hi).1
    rw [← rowC_get _ i j e hi hj, ← htake, List.getElem?_take, if_pos (by omega), cell_of_row w g (i * 2 + j) cur 56 (0, 0) hg]
    simp

theorem COwn.lt {w : World} {v : Value} {R : List Ent} (h : COwn w v R) : ∀ k, v.ownBlock = some k → k < w.heap.size := by
  intro k e
  rcases h.2 with ⟨rfl, _⟩ | ⟨g, cap, cur, rfl, _, hg, _⟩
  · simp [Value.ownBlock] at e
  · simp [Value.ownBlock] at e
    subst e
    exact (Array.getElem?_eq_some_iff.1 hg).1

theorem COwn.keep {w w' : World} {v : Value} {R : List Ent} (h : COwn w v R) (hk : ∀ k, v.ownBlock = some k → w'.heap[k]? = w.heap[k]?) : COwn w' v R := by
  refine ⟨h.1, ?_⟩
  rcases h.2 with x | ⟨g, cap, cur, rfl, hb, hg, r⟩
  · exact .inl x
  · exact .inr ⟨g, cap, cur, rfl, hb, by rw [hk g rfl]; exact hg, r⟩

theorem COwn.nil (w : World) : COwn w (.slice none 0 0) [] := World.ownsRow_nil _ _ _ _

/-- append of one counter. -/
theorem run_appC (ty : TypeId) (w : World) (v : Value) (R : List Ent) (x : Ent) (hv : COwn (w.alloc (.cells #[.string ⟨x.name.toArray⟩, .int .u64 x.n] 56)) v R) (hb : (R.length + 1) * 24 ≤ 140737488355328) :
    ∃ v' w', (Builtin.append_ #[49, 49] ty #[v, .slice (some ⟨w.heap.size, 0, none⟩) 1 1]).run Tryd.prog (w.alloc (.cells #[.string ⟨x.name.toArray⟩, .int .u64 x.n] 56)) = .ok v' w' ∧ COwn w' v' (R ++ [x]) ∧ Chg (fun k => v.ownBlock = some k) w w' ∧ (v'.ownBlock = v.ownBlock ∨ ∃ n, v'.ownBlock = some n ∧ w.heap.size ≤ n) := by
  obtain ⟨i, hi, hz, hsz, hby⟩ := info_parts Tryd.info56
  have hms : maxLen = 9223372036854775807 := rfl
  obtain ⟨v', w', hrun, h2, h3, -, h5⟩ := run_append_own_at (P := Tryd.prog) _ 0 49 ty 56 i _ 2 24 Tryd.underlying49 hi hz hsz hby rfl (by decide) v R.length (rowC R) hv ⟨w.heap.size, 0, none⟩ 1 1 (cntL x) rfl (fun j u hj => by
    rw [Addr.add_lit, cell_of_row _ w.heap.size (0 + j) _ 56 _ (heap_alloc_new w _)]
    simp [cntL] at hj ⊢
    match j, hj with
    | 0, hj => simpa using hj
    | 1, hj => simpa using hj) (fun u hu => rowC_one [x] u (by simpa [rowC] using hu)) (by omega) hb (Nat.zero_le _)
  refine ⟨v', w', hrun, ?_, ((Chg.refl _ w).alloc _).trans (Chg.of_grown h3) (fun _ _ e => e), h5.imp id (fun e => ⟨_, e, by simp⟩)⟩
  unfold COwn
  rw [rowC_app, List.length_append]
  simpa [rowC] using h2

theorem wpList_appC (w : World) {ops : Array Oper} {rest : List Oper} {o : Oper} {a : Act} {Q : Exit → Act → World → Prop}
    (hg : o.guard = none) (s x : Operand) (hop : o.op = Op.call { callee := Callee.builtin Builtin.append, args := #[s, x], argTypes := #[49, 49] })
    (v : Value) (R : List Ent) (c : Ent) (hs : a.eval s = v) (hx : a.eval x = .slice (some ⟨w.heap.size, 0, none⟩) 1 1) (hv : COwn w v R) (hb : (R.length + 1) * 24 ≤ 140737488355328)
    (hK : ∀ v' w', COwn w' v' (R ++ [c]) → Chg (fun k => v.ownBlock = some k) w w' → (v'.ownBlock = v.ownBlock ∨ ∃ n, v'.ownBlock = some n ∧ w.heap.size ≤ n) → wpList Tryd.prog ops Q rest (a.put o.dst v') w') :
    wpList Tryd.prog ops Q (o :: rest) a (w.alloc (.cells #[.string ⟨c.name.toArray⟩, .int .u64 c.n] 56)) := by
  refine wpList_plain hg fun K hK' => ?_
  obtain ⟨v', w', hrun, r1, r2, r3⟩ := run_appC o.type w v R c (hv.keep (fun k e => Below.heap_alloc _ _ _ (hv.lt k e))) hb
  unfold Oper.wp
  simp [execOp, hop, resolve, invoke, builtin, hs, hx, hrun, Result.andThen]
  exact hK' _ _ (hK v' w' r1 r2 r3)
end Go.Proofs.YtlhcadfcgibkdaaDoor
