/-
  A list of pairs in a row of our own: append of one; it can be read.
-/
import Derived.Test.YtlhcadfcgibkdaaDoorRow
namespace Go.Proofs.YtlhcadfcgibkdaaDoor
open Go.RowKit
set_option linter.unusedVariables false
set_option maxRecDepth 100000

def POwn (w : World) (v : Value) (R : List PairD) : Prop := w.ownsRow 0 28 4 v R.length (rowP R)

theorem POwn.shape {w : World} {v : Value} {R : List PairD} (h : POwn w v R) : ∃ ao c, v = .slice ao R.length c ∧ R.length ≤ c ∧ c ≤ maxLen ∧ (ao = none → R = [] ∧ c = 0) ∧ ∀ x, ao = some x → ∃ g, x = ⟨g, 0, none⟩ := by
  rcases h.2 with ⟨rfl, h0⟩ | ⟨g, cap, cur, rfl, _, _, h1, h2, _⟩
  · have : R = [] := List.eq_nil_of_length_eq_zero h0
    subst this
    exact ⟨none, 0, rfl, Nat.le_refl _, by decide, fun _ => ⟨rfl, rfl⟩, fun x e => by cases e⟩
  · exact ⟨_, cap, rfl, h1, h2, fun e => (by cases e), fun x e => by cases e; exact ⟨g, rfl⟩⟩

theorem POwn.blk {w : World} {v : Value} {R : List PairD} (h : POwn w v R) : ∀ k, v.ownBlock = some k → ∃ c, w.heap[k]? = some (.cells c 28 (0, 0)) := by
  intro k e
  rcases h.2 with ⟨rfl, _⟩ | ⟨g, cap, cur, rfl, _, hg, _⟩
  · simp [Value.ownBlock] at e
  · simp [Value.ownBlock] at e
    subst e
    exact ⟨_, hg⟩
theorem POwn.lt {w : World} {v : Value} {R : List PairD} (h : POwn w v R) : ∀ k, v.ownBlock = some k → k < w.heap.size := by
  intro k e
  obtain ⟨c, hc⟩ := h.blk k e
  exact (Array.getElem?_eq_some_iff.1 hc).1

theorem POwn.keep {w w' : World} {v : Value} {R : List PairD} (h : POwn w v R) (hk : ∀ k, v.ownBlock = some k → w'.heap[k]? = w.heap[k]?) : POwn w' v R := by
  refine ⟨h.1, ?_⟩
  rcases h.2 with x | ⟨g, cap, cur, rfl, hb, hg, r⟩
  · exact .inl x
  · exact .inr ⟨g, cap, cur, rfl, hb, by rw [hk g rfl]; exact hg, r⟩

theorem POwn.nil (w : World) : POwn w (.slice none 0 0) [] := World.ownsRow_nil _ _ _ _

theorem POwn.prd {w : World} {v : Value} {R : List PairD} (h : POwn w v R) (hok : ∀ p ∈ R, p.Ok) : PRd w v R := by
  obtain ⟨ao, c, rfl, h1, h2, h3, h4⟩ := h.shape
  cases ao with
  | none =>
    obtain ⟨rfl, rfl⟩ := h3 rfl
    exact ⟨none, 0, 0, rfl, rfl, Nat.le_refl _, by decide, fun i p hp => by simp at hp⟩
  | some x =>
    obtain ⟨g, rfl⟩ := h4 x rfl
    have h5 : w.ownsRow 0 28 4 (.slice (some ⟨g, 0, none⟩) R.length c) R.length (rowP R) := h
    have := PRd.of_row (w := w) (g := g) (cap := c) (ps := R) (qs := []) (by simpa using h5) hok
    exact this

/-- append of one pair. -/
theorem run_appP (ty : TypeId) (w : World) (v : Value) (R : List PairD) (x : PairD) (hv : POwn (w.alloc (.cells #[.string x.key, .bool x.isNum, .int .u64 x.num, .string x.text] 28)) v R) (hb : (R.length + 1) * 48 ≤ 140737488355328) :
    ∃ v' w', (Builtin.append_ #[23, 23] ty #[v, .slice (some ⟨w.heap.size, 0, none⟩) 1 1]).run Tryd.prog (w.alloc (.cells #[.string x.key, .bool x.isNum, .int .u64 x.num, .string x.text] 28)) = .ok v' w' ∧ POwn w' v' (R ++ [x]) ∧ Chg (fun k => v.ownBlock = some k) w w' ∧ (v'.ownBlock = v.ownBlock ∨ ∃ n, v'.ownBlock = some n ∧ w.heap.size ≤ n) := by
  obtain ⟨i, hi, hz, hsz, hby⟩ := info_parts Tryd.info28
  have hms : maxLen = 9223372036854775807 := rfl
  obtain ⟨v', w', hrun, h2, h3, -, h5⟩ := run_append_own_at (P := Tryd.prog) _ 0 23 ty 28 i _ 4 48 Tryd.underlying23 hi hz hsz hby rfl (by decide) v R.length (rowP R) hv ⟨w.heap.size, 0, none⟩ 1 1 (pairL x) rfl (fun j u hj => by
    rw [Addr.add_lit, cell_of_row _ w.heap.size (0 + j) _ 28 _ (heap_alloc_new w _)]
    simp [pairL] at hj ⊢
    match j, hj with
    | 0, hj => simpa using hj
    | 1, hj => simpa using hj
    | 2, hj => simpa using hj
    | 3, hj => simpa using hj) (fun u hu => rowP_one [x] u (by simpa [rowP] using hu)) (by omega) hb (Nat.zero_le _)
  refine ⟨v', w', hrun, ?_, ((Chg.refl _ w).alloc _).trans (Chg.of_grown h3) (fun _ _ e => e), h5.imp id (fun e => ⟨_, e, by simp⟩)⟩
  unfold POwn
  rw [rowP_app, List.length_append]
  simpa [rowP] using h2

theorem wpList_appP (w : World) {ops : Array Oper} {rest : List Oper} {o : Oper} {a : Act} {Q : Exit → Act → World → Prop}
    (hg : o.guard = none) (s x : Operand) (hop : o.op = Op.call { callee := Callee.builtin Builtin.append, args := #[s, x], argTypes := #[23, 23] })
    (v : Value) (R : List PairD) (c : PairD) (hs : a.eval s = v) (hx : a.eval x = .slice (some ⟨w.heap.size, 0, none⟩) 1 1) (hv : POwn w v R) (hb : (R.length + 1) * 48 ≤ 140737488355328)
    (hK : ∀ v' w', POwn w' v' (R ++ [c]) → Chg (fun k => v.ownBlock = some k) w w' → (v'.ownBlock = v.ownBlock ∨ ∃ n, v'.ownBlock = some n ∧ w.heap.size ≤ n) → wpList Tryd.prog ops Q rest (a.put o.dst v') w') :
    wpList Tryd.prog ops Q (o :: rest) a (w.alloc (.cells #[.string c.key, .bool c.isNum, .int .u64 c.num, .string c.text] 28)) := by
  refine wpList_plain hg fun K hK' => ?_
  obtain ⟨v', w', hrun, r1, r2, r3⟩ := run_appP o.type w v R c (hv.keep (fun k e => Below.heap_alloc _ _ _ (hv.lt k e))) hb
  unfold Oper.wp
  simp [execOp, hop, resolve, invoke, builtin, hs, hx, hrun, Result.andThen]
  exact hK' _ _ (hK v' w' r1 r2 r3)
end Go.Proofs.YtlhcadfcgibkdaaDoor
