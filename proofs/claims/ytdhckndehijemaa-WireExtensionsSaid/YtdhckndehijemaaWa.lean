/-
  A writer in memory, and its small methods.
-/
import Derived.Test.YtdhckndehijemaaSb
import Derived.Deep.RegionHeld3
import Derived.Deep.RegionLaw
import Derived.Deep.QuietTactic
namespace Go.Proofs.Ytdhckndehijemaa
open Go.RowKit
set_option linter.unusedVariables false
set_option maxRecDepth 100000

theorem step_app {ops : Array Oper} {o : Oper} {a : Act} {w : World} {K : Act → World → Prop} {Q : Exit → Act → World → Prop} {E : Prop}
    (hg : o.guard = none) (s x : Operand) (hop : o.op = Op.call { callee := Callee.builtin Builtin.append, args := #[s, x], argTypes := #[23, 23] })
    (v sv : Value) (xs ys : List Int) (hs : a.eval s = v) (hx : a.eval x = sv) (hv : OwnV w v xs) (hr : Rd w sv ys) (hb : xs.length + ys.length ≤ 140737488355328)
    (hK : ∀ v' w', OwnV w' v' (xs ++ ys) → Chg (fun k => v.ownBlock = some k) w w' → (v'.ownBlock = v.ownBlock ∨ v'.ownBlock = some w.heap.size) → K (a.put o.dst v') w') :
    if Region.wanted o (yielded ops a.tmps) = true then Oper.wp Try.prog o a w K Q else E := by
  have hw : Region.wanted o (yielded ops a.tmps) = true := by simp [Region.wanted, hg]
  rw [if_pos hw]
  obtain ⟨v', w', hrun, r1, r2, r3⟩ := run_app o.type w v sv xs ys hv hr hb
  unfold Oper.wp
  simp [execOp, hop, resolve, invoke, builtin, hs, hx, hrun, Result.andThen]
  exact hK v' w' r1 r2 r3

/-- A writer: its bytes, whether something is wrong. -/
structure WM (w : World) (r : Nat) (v : Value) (no : Bool) (xs : List Int) : Prop where
  blk : w.heap[r]? = some (.cells #[v, .bool no] 242)
  own : OwnV w v xs
  new : ∀ k, v.ownBlock = some k → r < k
  byt : Byt xs

theorem WM.lt {w : World} {r : Nat} {v : Value} {no : Bool} {xs : List Int} (h : WM w r v no xs) : r < w.heap.size := (Array.getElem?_eq_some_iff.1 h.blk).1
theorem WM.facts {w : World} {r : Nat} {v : Value} {no : Bool} {xs : List Int} (h : WM w r v no xs) : w.cell? ⟨r, 0, none⟩ = some v ∧ w.cell? ⟨r, 1, none⟩ = some (.bool no) ∧ w.frozen? ⟨r, 0, none⟩ = false ∧ w.frozen? ⟨r, 1, none⟩ = false :=
  ⟨(cell2 h.blk).1, (cell2 h.blk).2, frozen_of_row w r 0 _ _ h.blk, frozen_of_row w r 1 _ _ h.blk⟩
theorem WM.keep {S : Nat → Prop} {w w' : World} {r : Nat} {v : Value} {no : Bool} {xs : List Int} (h : WM w r v no xs) (c : Chg S w w') (hr : ¬ S r) (hS : ∀ k, v.ownBlock = some k → ¬ S k) : WM w' r v no xs :=
  ⟨by rw [c.block r h.lt hr]; exact h.blk, h.own.keep (fun k e => c.block k (h.own.lt k e) (hS k e)), h.new, h.byt⟩
theorem WM.non {w w' : World} {r : Nat} {v : Value} {no : Bool} {xs : List Int} (h : WM w r v no xs) (c : Chg Non w w') : WM w' r v no xs := h.keep c (fun s => s) (fun k e s => s)

/-- What a writer's methods may change: itself, its own row. -/
def Wr (r : Nat) (v : Value) : Nat → Prop := fun k => k = r ∨ v.ownBlock = some k
/-- Where a writer's bytes may lie. -/
def Gr (r : Nat) (v v' : Value) (n : Nat) : Prop := v'.ownBlock = v.ownBlock ∨ ∃ g, v'.ownBlock = some g ∧ n ≤ g

structure WP (r : Nat) (v : Value) (w w' : World) (v' : Value) (no : Bool) (xs : List Int) : Prop where
  wm : WM w' r v' no xs
  chg : Chg (Wr r v) w w'
  gr : Gr r v v' w.heap.size

theorem WP.refl {w : World} {r : Nat} {v : Value} {no : Bool} {xs : List Int} (h : WM w r v no xs) : WP r v w w v no xs := ⟨h, Chg.refl _ _, .inl rfl⟩
theorem WP.trans {r : Nat} {v v1 v2 : Value} {a b c : World} {no no' : Bool} {xs ys : List Int} (h : WP r v a b v1 no xs) (k : WP r v1 b c v2 no' ys) : WP r v a c v2 no' ys := by
  refine ⟨k.wm, h.chg.trans k.chg (fun i hi q => ?_), ?_⟩
  · rcases q with q | q
    · exact .inl q
    · rcases h.gr with g | ⟨g, g1, g2⟩
      · rw [g] at q; exact .inr q
      · rw [g1] at q; injection q with q; omega
  · rcases k.gr with g | ⟨g, g1, g2⟩
    · rcases h.gr with g' | ⟨g', g1', g2'⟩
      · exact .inl (g.trans g')
      · exact .inr ⟨g', g.trans g1', g2'⟩
    · exact .inr ⟨g, g1, Nat.le_trans h.chg.size g2⟩
theorem WP.ahead {r : Nat} {v v1 : Value} {a b c : World} {no : Bool} {xs : List Int} (h : WP r v b c v1 no xs) (k : Chg Non a b) : WP r v a c v1 no xs :=
  ⟨h.wm, (k.non _).trans h.chg (fun _ _ q => q), by rcases h.gr with g | ⟨g, g1, g2⟩; exact .inl g; exact .inr ⟨g, g1, Nat.le_trans k.size g2⟩⟩
theorem WP.after {r : Nat} {v v1 : Value} {a b c : World} {no : Bool} {xs : List Int} (h : WP r v a b v1 no xs) (k : Chg Non b c) : WP r v a c v1 no xs :=
  ⟨h.wm.non k, h.chg.trans k (fun _ _ q => q.elim), h.gr⟩

theorem WM.bad {w : World} {r : Nat} {v : Value} {no : Bool} {xs : List Int} (h : WM w r v no xs) : WP r v w (w.setCell ⟨r, 1, none⟩ (.bool true)) v true xs := by
  have c := chg_rest w r 1 (.bool true)
  exact ⟨⟨set_two1 _ h.blk, h.own.keep (fun k e => c.block k (h.own.lt k e) (fun s => by have s' : k = r := s; have := h.new k e; omega)), h.new, h.byt⟩, c.mono (fun _ _ q => .inl q), .inl rfl⟩

set_option maxHeartbeats 400000 in
theorem unless_any (r : Nat) (b : Bool) (v : Value) (no : Bool) (xs : List Int) (w : World) (h : WM w r v no xs) :
    Calls Try.prog 195 #[.pointer (some ⟨r, 0, none⟩), .bool b] w fun e w' => e = .returned (.tuple #[]) ∧ WP r v w w' v (no || !b) xs := by
  obtain ⟨h0, h1, f0, f1⟩ := h.facts
  have H : Hid (WM w r v no xs) := h
  clear h
  cases b with
  | true =>
    go_enter Try.func195, Try.ntmps195
    go_wp2
    go_end0
    have := WP.refl H.out
    exact ⟨rfl, by cases no <;> exact this⟩
  | false =>
    go_enter Try.func195, Try.ntmps195
    go_wp2
    go_end0
    have := H.out.bad
    exact ⟨rfl, by cases no <;> exact this⟩

/-- A number's bytes, its highest one first. -/
def putD : Nat → Int → List Int
  | 0, _ => []
  | n + 1, v => (v / 256 ^ n % 256) :: putD n v
theorem putD_len (n : Nat) (v : Int) : (putD n v).length = n := by
  induction n with
  | zero => rfl
  | succ n ih => simp [putD, ih]
theorem putD_byt (n : Nat) (v : Int) : Byt (putD n v) := by
  induction n with
  | zero => exact Byt.nil
  | succ n ih => exact Byt.cons (Int.emod_nonneg _ (by decide)) (Int.emod_lt_of_pos _ (by decide)) ih
theorem putD_get (n : Nat) (v : Int) : ∀ m, m < n → (putD n v)[m]? = some (v / 256 ^ (n - 1 - m) % 256) := by
  induction n with
  | zero => intro m h; omega
  | succ n ih =>
    intro m h
    cases m with
    | zero => simp [putD]
    | succ m =>
      have := ih m (by omega)
      simp only [putD, List.getElem?_cons_succ]
      rw [this, show n + 1 - 1 - (m + 1) = n - 1 - m by omega]

/-- A byte more. -/
theorem WM.app {w w2 : World} {r : Nat} {v v2 : Value} {no : Bool} {xs ys : List Int} {o : Obj} (h : WM w r v no xs) (h2 : OwnV w2 v2 (xs ++ ys)) (c : Chg (fun k => v.ownBlock = some k) (w.alloc o) w2) (g : v2.ownBlock = v.ownBlock ∨ v2.ownBlock = some (w.heap.size + 1)) (hb : Byt ys) :
    WP r v w (w2.setCell ⟨r, 0, none⟩ v2) v2 no (xs ++ ys) ∧ w2.heap[r]? = some (.cells #[v, .bool no] 242) := by
  have c1 : Chg (fun k => v.ownBlock = some k) w w2 := ((Chg.refl _ _).alloc o).trans c (fun _ _ q => q)
  have hr := h.lt
  have hne : ¬ v.ownBlock = some r := fun e => by have := h.new r e; omega
  have hb2 : w2.heap[r]? = some (.cells #[v, .bool no] 242) := by rw [c1.block r hr hne]; exact h.blk
  have cs := chg_rest w2 r 0 v2
  have hnew : ∀ k, v2.ownBlock = some k → r < k := fun k e => by
    rcases g with g | g
    · rw [g] at e; exact h.new k e
    · rw [g] at e; injection e with e; omega
  refine ⟨⟨⟨set_two0 _ hb2, h2.keep (fun k e => cs.block k (h2.lt k e) (fun s => by have s' : k = r := s; have := hnew k e; omega)), hnew, h.byt.append hb⟩, ?_, ?_⟩, hb2⟩
  · exact (c1.mono (fun _ _ q => .inr q)).trans cs (fun i hi q => .inl q)
  · rcases g with g | g
    · exact .inl g
    · exact .inr ⟨_, g, by omega⟩
end Go.Proofs.Ytdhckndehijemaa
