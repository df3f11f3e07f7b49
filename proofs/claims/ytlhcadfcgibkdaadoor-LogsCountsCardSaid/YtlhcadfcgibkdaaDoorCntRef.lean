/-
  What the document's Count answers, as a list; append of one counter onto a list of our own.
-/
import Derived.Test.YtlhcadfcgibkdaaDoorCntRow
import Derived.Test.YtlhcadfcgibkdaaDoorWord2
namespace Go.Proofs.YtlhcadfcgibkdaaDoor
open Go.RowKit
set_option linter.unusedVariables false
set_option maxRecDepth 100000

def sumU (a b : Nat) : Nat := if 18446744073709551615 - b < a then 18446744073709551615 else a + b
def gtB (nm c : List UInt8) : Bool := !(c == nm) && !Op.bytesLess c nm
def goR (nm : List UInt8) (n : Nat) : Bool → List Ent → List Ent
  | d, [] => if d then [] else [⟨nm, n⟩]
  | d, c :: r => (if !d && gtB nm c.name then [⟨nm, n⟩] else []) ++ ((if c.name == nm then ⟨nm, sumU c.n n⟩ else c) :: goR nm n (d || gtB nm c.name || c.name == nm) r)

theorem goR_cons (nm : List UInt8) (n : Nat) (d : Bool) (c : Ent) (r : List Ent) : goR nm n d (c :: r) = (if !d && gtB nm c.name then [⟨nm, n⟩] else []) ++ ((if c.name == nm then ⟨nm, sumU c.n n⟩ else c) :: goR nm n (d || gtB nm c.name || c.name == nm) r) := rfl

theorem goR_done (nm : List UInt8) (n : Nat) : ∀ R : List Ent, (goR nm n true R).length = R.length
  | [] => by simp [goR]
  | c :: r => by
    have := goR_done nm n r
    unfold goR
    simp [this]

theorem goR_len (nm : List UInt8) (n : Nat) : ∀ (d : Bool) (R : List Ent), (goR nm n d R).length ≤ R.length + 1
  | true, R => by rw [goR_done]; omega
  | false, [] => by simp [goR]
  | false, c :: r => by
    have h1 := goR_len nm n false r
    have h2 := goR_done nm n r
    unfold goR
    cases h : gtB nm c.name
    · cases h3 : (c.name == nm)
      · simp
        omega
      · simp [h2]
    · simp [h2]

theorem ret_cnt {v : Value} {a b : Int} (h : a = b) : Ending.returned (.tuple #[v, .int .i64 a]) = .returned (.tuple #[v, .int .i64 b]) := by rw [h]

/-- What the document's Count leaves. -/
structure RefP (w w' : World) (v : Value) (R : List Ent) : Prop where
  own : COwn w' v R
  chg : Chg Non w w'
  new : ∀ k, v.ownBlock = some k → w.heap.size ≤ k

theorem RefP.app {w w1 w2 : World} {v v2 : Value} {R R' : List Ent} (h : RefP w w1 v R) (ho : COwn w2 v2 R') (hc : Chg (fun k => v.ownBlock = some k) w1 w2) (hk : v2.ownBlock = v.ownBlock ∨ ∃ n, v2.ownBlock = some n ∧ w1.heap.size ≤ n) : RefP w w2 v2 R' := by
  refine ⟨ho, h.chg.trans hc (fun i hi e => ?_), fun k e => ?_⟩
  · have := h.new i e
    show False
    omega
  · rcases hk with x | ⟨n, x, hn⟩
    · exact h.new k (x ▸ e)
    · rw [x] at e
      cases e
      have := h.chg.size
      omega

theorem wpList_appD (w : World) {ops : Array Oper} {rest : List Oper} {o : Oper} {a : Act} {Q : Exit → Act → World → Prop}
    (hg : o.guard = none) (s x : Operand) (hop : o.op = Op.call { callee := Callee.builtin Builtin.append, args := #[s, x], argTypes := #[49, 49] })
    (v : Value) (R : List Ent) (cs : ByteArray) (m : Int) (c : Ent) (hcs : cs = ⟨c.name.toArray⟩) (hm : m = (c.n : Int)) (hs : a.eval s = v) (hx : a.eval x = .slice (some ⟨w.heap.size, 0, none⟩) 1 1) (hv : COwn w v R) (hb : (R.length + 1) * 24 ≤ 140737488355328)
    (hK : ∀ v' w', COwn w' v' (R ++ [c]) → Chg (fun k => v.ownBlock = some k) w w' → (v'.ownBlock = v.ownBlock ∨ ∃ n, v'.ownBlock = some n ∧ w.heap.size ≤ n) → wpList Tryd.prog ops Q rest (a.put o.dst v') w') :
    wpList Tryd.prog ops Q (o :: rest) a (w.alloc (.cells #[.string cs, .int .u64 m] 56)) := by
  subst hcs
  subst hm
  exact wpList_appC w hg s x hop v R c hs hx hv hb hK

theorem shapeC {w : World} {v : Value} {R : List Ent} (h : COwn w v R) : ∃ ao n c, v = .slice ao n c := by
  obtain ⟨ao, c, e, _⟩ := h.shape
  exact ⟨_, _, _, e⟩

theorem str_eta (s : ByteArray) : s = ⟨s.data.toList.toArray⟩ := rfl
theorem less_irrefl : ∀ a : List UInt8, Op.bytesLess a a = false
  | [] => rfl
  | a :: r => by
    have := less_irrefl r
    unfold Op.bytesLess
    simp [this]

theorem RefP.boxed {w w1 : World} {v : Value} {R : List Ent} (h : RefP w w1 v R) (o : Obj) : RefP w (w1.alloc o) v R := ⟨h.own.keep (fun k e => Below.heap_alloc _ _ _ (h.own.lt k e)), h.chg.alloc o, h.new⟩

theorem RefP.box {w w1 : World} {v : Value} {R : List Ent} (h : RefP w w1 v R) {g : Nat} (hg : w.heap.size ≤ g) (hn : v.ownBlock ≠ some g) (j : Nat) (u : Value) : RefP w (w1.setCell ⟨g, j, none⟩ u) v R :=
  ⟨h.own.keep (fun k e => Below.heap_setCell _ _ _ _ (fun x => hn (by rw [e, x]))), h.chg.setCell (p := ⟨g, j, none⟩) (fun x => by show False; simp at x; omega) u, h.new⟩

end Go.Proofs.YtlhcadfcgibkdaaDoor
