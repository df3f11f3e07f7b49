/-
  A writer in memory, and its small methods.
-/
import Derived.Test.YtdhckndehijemaaSb
import Derived.Deep.RegionHeld3
import Derived.Deep.RegionLaw
import Derived.Deep.QuietTactic
namespace Go.Proofs.Ytdhckndehijemaa
open Go.RowKit
set_option linter.unusedVariables false
set_option maxRecDepth 100000

theorem step_app {ops : Array Oper} {o : Oper} {a : Act} {w : World} {K : Act → World → Prop} {Q : Exit → Act → World → Prop} {E : Prop}
    (hg : o.guard = none) (s x : Operand) (hop : o.op = Op.call { callee := Callee.builtin Builtin.append, args := #[s, x], argTypes := #[23, 23] })
    (v sv : Value) (xs ys : List Int) (hs : a.eval s = v) (hx : a.eval x = sv) (hv : OwnV w v xs) (hr : Rd w sv ys) (hb : xs.length + ys.length ≤ 140737488355328)
    (hK : ∀ v' w', OwnV w' v' (xs ++ ys) → Chg (fun k => v.ownBlock = some k) w w' → (v'.ownBlock = v.ownBlock ∨ v'.ownBlock = some w.heap.size) → K (a.put o.dst v') w') :
    if Region.wanted o (yielded ops a.tmps) = true then Oper.wp Try.prog o a w K Q else E := by
  have hw : Region.wanted o (yielded ops a.tmps) = true := by simp [Region.wanted, hg]
  rw [if_pos hw]
  obtain ⟨v', w', hrun, r1, r2, r3⟩ := run_app o.type w v sv xs ys hv hr hb
  unfold Oper.wp
  simp [execOp, hop, resolve, invoke, builtin, hs, hx, hrun, Result.andThen]
  exact hK v' w' r1 r2 r3

/-- A writer: its bytes, whether something is wrong. -/
structure WM (w : World) (r : Nat) (v : Value) (no : Bool) (xs : List Int) : Prop where
  blk : w.heap[r]? = some (.cells #[v, .bool no] 242)
  own : OwnV w v xs
  new : ∀ k, v.ownBlock = some k → r < k
  byt : Byt xs

theorem WM.lt {w : World} {r : Nat} {v : Value} {no : Bool} {xs : List Int} (h : WM w r v no xs) : r < w.heap.size := (Array.getElem?_eq_some_iff.1 h.blk).1
theorem WM.facts {w : World} {r : Nat} {v : Value} {no : Bool} {xs : List Int} (h : WM w r v no xs) : w.cell? ⟨r, 0, none⟩ = some v ∧ w.cell? ⟨r, 1, none⟩ = some (.bool no) ∧ w.frozen? ⟨r, 0, none⟩ = false ∧ w.frozen? ⟨r, 1, none⟩ = false :=
  ⟨(cell2 h.blk).1, (cell2 h.blk).2, frozen_of_row w r 0 _ _ h.blk, frozen_of_row w r 1 _ _ h.blk⟩
theorem WM.keep {S : Nat → Prop} {w w' : World} {r : Nat} {v : Value} {no : Bool} {xs : List Int} (h : WM w r v no xs) (c : Chg S w w') (hr : ¬ S r) (hS : ∀ k, v.ownBlock = some k → ¬ S k) : WM w' r v no xs :=
  ⟨by rw [c.block r h.lt hr]; exact h.blk, h.own.keep (fun k e => c.block k (h.own.lt k e) (hS k e)), h.new, h.byt⟩
theorem WM.non {w w' : World} {r : Nat} {v : Value} {no : Bool} {xs : List Int} (h : WM w r v no xs) (c : Chg Non w w') : WM w' r v no xs := h.keep c (fun s => s) (fun k e s => s)

/-- What a writer's methods may change: itself, its own row. -/
def Wr (r : Nat) (v : Value) : Nat → Prop := fun k => k = r ∨ v.ownBlock = some k
/-- Where a writer's bytes may lie. -/
def Gr (r : Nat) (v v' : Value) (n : Nat) : Prop := v'.ownBlock = v.ownBlock ∨ ∃ g, v'.ownBlock = some g ∧ n ≤ g

structure WP (r : Nat) (v : Value) (w w' : World) (v' : Value) (no : Bool) (xs : List Int) : Prop where
  wm : WM w' r v' no xs
  chg : Chg (Wr r v) w w'
  gr : Gr r v v' w.heap.size

theorem WP.refl {w : World} {r : Nat} {v : Value} {no : Bool} {xs : List Int} (h : WM w r v no xs) : WP r v w w v no xs := ⟨h, Chg.refl _ _, .inl rfl⟩
theorem WP.trans {r : Nat} {v v1 v2 : Value} {a b c : World} {no no' : Bool} {xs ys : List Int} (h : WP r v a b v1 no xs) (k : WP r v1 b c v2 no' ys) : WP r v a c v2 no' ys := by
  refine ⟨k.wm, h.chg.trans k.chg (fun i hi q => ?_), ?_⟩
  · rcases q with q | q
    · exact .inl q
    · rcases h.gr with g | ⟨g, g1, g2⟩
      · rw [g] at q; exact .inr q
      · rw [g1] at q; injection q with q; omega
  · rcases k.gr with g | ⟨g, g1, g2⟩
    · rcases h.gr with g' | ⟨g', g1', g2'⟩
      · exact .inl (g.trans g')
      · exact .inr ⟨g', g.trans g1', g2'⟩
    · exact .inr ⟨g, g1, Nat.le_trans h.chg.size g2⟩
theorem WP.ahead {r : Nat} {v v1 : Value} {a b c : World} {no : Bool} {xs : List Int} (h : WP r v b c v1 no xs) (k : Chg Non a b) : WP r v a c v1 no xs :=
  ⟨h.wm, (k.non _).trans h.chg (fun _ _ q => q), by rcases h.gr with g | ⟨g, g1, g2⟩; exact .inl g; exact .inr ⟨g, g1, Nat.le_trans k.size g2⟩⟩
theorem WP.after {r : Nat} {v v1 : Value} {a b c : World} {no : Bool} {xs : List Int} (h : WP r v a b v1 no xs) (k : Chg Non b c) : WP r v a c v1 no xs :=
  ⟨h.wm.non k, h.chg.trans k (fun _ _ q => q.elim), h.gr⟩

theorem WM.bad {w : World} {r : Nat} {v : Value} {no : Bool} {xs : List Int} (h : WM w r v no xs) : WP r v w (w.setCell ⟨r, 1, none⟩ (.bool true)) v true xs := by
  have c := chg_rest w r 1 (.bool true)
  exact ⟨⟨set_two1 _ h.blk, h.own.keep (fun k e => c.block k (h.own.lt k e) (fun s => by have s' : k = r := s; have := h.new k e; omega)), h.new, h.byt⟩, c.mono (fun _ _ q => .inl q), .inl rfl⟩

set_option maxHeartbeats 400000 in
theorem unless_any (r : Nat) (b : Bool) (v : Value) (no : Bool) (xs : List Int) (w : World) (h : WM w r v no xs) :
    Calls Try.prog 195 #[.pointer (some ⟨r, 0, none⟩), .bool b] w fun e w' => e = .returned (.tuple #[]) ∧ WP r v w w' v (no || !b) xs := by
  obtain ⟨h0, h1, f0, f1⟩ := h.facts
  have H : Hid (WM w r v no xs) := h
  clear h
  cases b with
  | true =>
    go_enter Try.func195, Try.ntmps195
    go_wp2
    go_end0
    have := WP.refl H.out
    exact ⟨rfl, by cases no <;> exact this⟩
  | false =>
    go_enter Try.func195, Try.ntmps195
    go_wp2
    go_end0
    have := H.out.bad
    exact ⟨rfl, by cases no <;> exact this⟩

/-- A number's bytes, its highest one first. -/
def putD : Nat → Int → List Int
  | 0, _ => []
  | n + 1, v => (v / 256 ^ n % 256) :: putD n v
theorem putD_len (n : Nat) (v : Int) : (putD n v).length = n := by
  induction n with
  | zero => rfl
  | succ n ih => simp [putD, ih]
theorem putD_byt (n : Nat) (v : Int) : Byt (putD n v) := by
  induction n with
  | zero => exact Byt.nil
  | succ n ih => exact Byt.cons (Int.emod_nonneg _ (by decide)) (Int.emod_lt_of_pos _ (by decide)) ih
theorem putD_get (n : Nat) (v : Int) : ∀ m, m < n → (putD n v)[m]? = some (v / 256 ^ (n - 1 - m) % 256) := by
  induction n with
  | zero => intro m h; omega
  | succ n ih =>
    intro m h
    cases m with
    | zero => simp [putD]
    | succ m =>
      have := ih m (by omega)
      simp only [putD, List.getElem?_cons_succ]
      rw [this, show n + 1 - 1 - (m + 1) = n - 1 - m by omega]

/-- A byte more. -/
theorem WM.app {w w2 : World} {r : Nat} {v v2 : Value} {no : Bool} {xs ys : List Int} {o : Obj} (h : WM w r v no xs) (h2 : OwnV w2 v2 (xs ++ ys)) (c : Chg (fun k => v.ownBlock = some k) (w.alloc o) w2) (g : v2.ownBlock = v.ownBlock ∨ v2.ownBlock = some (w.heap.size + 1)) (hb : Byt ys) :
    WP r v w (w2.setCell ⟨r, 0, none⟩ v2) v2 no (xs ++ ys) ∧ w2.heap[r]? = some (.cells #[v, .bool no] 242) := by
  have c1 : Chg (fun k => v.ownBlock = some k) w w2 := ((Chg.refl _ _).alloc o).trans c (fun _ _ q => q)
  have hr := h.lt
  have hne : ¬ v.ownBlock = some r := fun e => by have := h.new r e; omega
  have hb2 : w2.heap[r]? = some (.cells #[v, .bool no] 242) := by rw [c1.block r hr hne]; exact h.blk
  have cs := chg_rest w2 r 0 v2
  have hnew : ∀ k, v2.ownBlock = some k → r < k := fun k e => by
    rcases g with g | g
    · rw [g] at e; exact h.new k e
    · rw [g] at e; injection e with e; omega
  refine ⟨⟨⟨set_two0 _ hb2, h2.keep (fun k e => cs.block k (h2.lt k e) (fun s => by have s' : k = r := s; have := hnew k e; omega)), hnew, h.byt.append hb⟩, ?_, ?_⟩, hb2⟩
  · exact (c1.mono (fun _ _ q => .inr q)).trans cs (fun i hi q => .inl q)
  · rcases g with g | g
    · exact .inl g
    · exact .inr ⟨_, g, by omega⟩
end Go.Proofs.Ytdhckndehijemaa
namespace Go.Proofs.Ytdhckndehijemaa
open Go.RowKit
set_option linter.unusedVariables false
set_option maxRecDepth 100000

theorem row_one (w : World) (b : Int) : Rd (w.alloc (.cells #[.int .u8 b] 5)) (.slice (some ⟨w.heap.size, 0, none⟩) 1 1) [b] := Rd.one w b

set_option maxHeartbeats 6400000 in
theorem wdigits_any (r n : Nat) (x : Int) (hn : n ≤ 4) (hx0 : 0 ≤ x) (hx1 : x < 4294967296) (v : Value) (no : Bool) (xs : List Int) (w : World) (h : WM w r v no xs) (hl : xs.length ≤ 1000000000000) :
    Calls Try.prog 227 #[.pointer (some ⟨r, 0, none⟩), .int .i64 n, .int .u32 x] w fun e w' => ∃ v', e = .returned (.tuple #[]) ∧ WP r v w w' v' no (xs ++ putD n x) := by
  have H : Hid (WM w r v no xs) := h
  have HL : Hid (xs.length ≤ 1000000000000 ∧ (putD n x).length = n) := ⟨hl, putD_len n x⟩
  have HD : Hid (∀ m, m < n → (putD n x)[m]? = some (x / 256 ^ (n - 1 - m) % 256)) := putD_get n x
  have HB : Hid (Byt (putD n x)) := putD_byt n x
  obtain ⟨D, hD⟩ : ∃ D, D = putD n x := ⟨_, rfl⟩
  rw [← hD] at HD HB HL ⊢
  clear h hl hD
  go_enter Try.func227, Try.ntmps227
  go_wp2
  go_loopw [6] (fun i wr => ∃ (m : Nat) (vr : Value), m ≤ n ∧ i = .int .i64 ((n : Int) - 1 - (m : Int)) ∧ Hid (WP r v w wr vr no (xs ++ D.take m))) (fun i _ => (intOf i + 1).toNat)
  case atStart => exact ⟨0, v, Nat.zero_le _, by simp, by show WP _ _ _ _ _ _ _; simpa using WP.refl H.out⟩
  case round =>
    obtain ⟨m, vr, hm, rfl, hP⟩ := hrel
    by_cases hlt : m < n
    · obtain ⟨i, hi⟩ : ∃ i, i = n - 1 - m := ⟨_, rfl⟩
      have hi' : (n : Int) - 1 - (m : Int) = (i : Int) := by omega
      have hd := HD.out m hlt
      rw [← hi] at hd
      have HN : Hid (D.take (m + 1) = D.take m ++ [x / 256 ^ i % 256]) := take_snoc hd
      have HLE : Hid ((xs ++ D.take m).length + 1 ≤ 140737488355328) := by
        show _ ≤ _
        rw [List.length_append, List.length_take]
        have := HL.out
        omega
      have hi4 : i ≤ 3 := by omega
      have HI : Hid (i = n - 1 - m ∧ m < n) := ⟨hi, hlt⟩
      obtain ⟨z0, z1, f0, f1⟩ := hP.out.wm.facts
      have hb0 : 0 ≤ x / 256 ^ i % 256 := Int.emod_nonneg _ (by decide)
      have hb1 : x / 256 ^ i % 256 < 256 := Int.emod_lt_of_pos _ (by decide)
      have HBY : Hid (Byt [x / 256 ^ i % 256]) := Byt.cons hb0 hb1 Byt.nil
      obtain ⟨B, hB⟩ : ∃ B, B = x / 256 ^ i % 256 := ⟨_, rfl⟩
      rw [← hB] at HN HBY
      obtain ⟨aor, nr, cr, rfl, -, -, -⟩ := hP.out.wm.own.rd.shape
      have hrl : r < wr.heap.size := hP.out.wm.lt
      have HR1 := row_one wr B
      have HR2 : Hid (Rd (wr.alloc (.cells #[.int .u8 B] 5)) (.slice (some ⟨wr.heap.size, 0, none⟩) 1 1) [B]) := HR1
      have HO : Hid (OwnV (wr.alloc (.cells #[.int .u8 B] 5)) (.slice aor nr cr) (xs ++ D.take m)) := hP.out.wm.own.chg ((Chg.refl _ _).alloc _)
      clear hd hi hb0 hb1 hlt HR1
      have h4 : i = 0 ∨ i = 1 ∨ i = 2 ∨ i = 3 := by omega
      rcases h4 with h4 | h4 | h4 | h4
      · have e4 : (n : Int) - 1 - (m : Int) = 0 := by omega
        have hq : IntKind.u8.wrap (x) = B := by rw [IntKind.wrap_u8, hB, h4]; first | rfl | simp
        have w8 : IntKind.i64.wrap 0 = 0 := by decide
        have HI4 : Hid (n - 1 - m = 0) := by show _ = _; omega
        rw [e4]
        clear hB e4 hi'
        go_wp2_with fail
        go_region_law (refine step_app rfl (.tmp 17) (.tmp 23) rfl _ _ (xs ++ D.take m) [B] rfl rfl ?_ ?_ ?_ ?_; (exact HO.out.keep (fun _ _ => rfl)); (exact HR2.out.keep (fun _ _ _ => rfl)); (exact HLE.out); intro v2 w2 ho2 hc2 hk2; obtain ⟨ao2, n2, cc2, rfl, -, -, -⟩ := ho2.rd.shape; obtain ⟨k1, k2⟩ := WM.app hP.out.wm ho2 ⟨hc2.os, hc2.tape, hc2.output, hc2.size, hc2.block⟩ (by first | exact hk2 | exact hk2.imp id (fun e => e.trans (congrArg some (World.size_alloc _ _)))) HBY.out; have k3 := frozen_of_row w2 r 0 _ _ k2; have k4 := (cell2 k2).1; have K1 : Hid (WP r (.slice aor nr cr) wr (w2.setCell ⟨r, 0, none⟩ (.slice ao2 n2 cc2)) (.slice ao2 n2 cc2) no ((xs ++ D.take m) ++ [B])) := k1; clear ho2 hc2 hk2 k1 k2)
        all_goals
          go_wp2
          go_roundw
          case rel => exact ⟨m + 1, .slice ao2 n2 cc2, by have := HI.out.2; omega, by have := HI4.out; have := HI.out.2; go_num, by show WP _ _ _ _ _ _ _; rw [HN.out, ← List.append_assoc]; exact hP.out.trans K1.out⟩
          case measure => simp [intOf]
      · have e4 : (n : Int) - 1 - (m : Int) = 1 := by omega
        have hq : IntKind.u8.wrap (x / 256) = B := by rw [IntKind.wrap_u8, hB, h4]; first | rfl | simp
        have w8 : IntKind.i64.wrap 8 = 8 := by decide
        have HI4 : Hid (n - 1 - m = 1) := by show _ = _; omega
        rw [e4]
        clear hB e4 hi'
        go_wp2_with fail
        go_region_law (refine step_app rfl (.tmp 17) (.tmp 23) rfl _ _ (xs ++ D.take m) [B] rfl rfl ?_ ?_ ?_ ?_; (exact HO.out.keep (fun _ _ => rfl)); (exact HR2.out.keep (fun _ _ _ => rfl)); (exact HLE.out); intro v2 w2 ho2 hc2 hk2; obtain ⟨ao2, n2, cc2, rfl, -, -, -⟩ := ho2.rd.shape; obtain ⟨k1, k2⟩ := WM.app hP.out.wm ho2 ⟨hc2.os, hc2.tape, hc2.output, hc2.size, hc2.block⟩ (by first | exact hk2 | exact hk2.imp id (fun e => e.trans (congrArg some (World.size_alloc _ _)))) HBY.out; have k3 := frozen_of_row w2 r 0 _ _ k2; have k4 := (cell2 k2).1; have K1 : Hid (WP r (.slice aor nr cr) wr (w2.setCell ⟨r, 0, none⟩ (.slice ao2 n2 cc2)) (.slice ao2 n2 cc2) no ((xs ++ D.take m) ++ [B])) := k1; clear ho2 hc2 hk2 k1 k2)
        all_goals
          go_wp2
          go_roundw
          case rel => exact ⟨m + 1, .slice ao2 n2 cc2, by have := HI.out.2; omega, by have := HI4.out; have := HI.out.2; go_num, by show WP _ _ _ _ _ _ _; rw [HN.out, ← List.append_assoc]; exact hP.out.trans K1.out⟩
          case measure => simp [intOf]
      · have e4 : (n : Int) - 1 - (m : Int) = 2 := by omega
        have hq : IntKind.u8.wrap (x / 65536) = B := by rw [IntKind.wrap_u8, hB, h4]; first | rfl | simp
        have w8 : IntKind.i64.wrap 16 = 16 := by decide
        have HI4 : Hid (n - 1 - m = 2) := by show _ = _; omega
        rw [e4]
        clear hB e4 hi'
        go_wp2_with fail
        go_region_law (refine step_app rfl (.tmp 17) (.tmp 23) rfl _ _ (xs ++ D.take m) [B] rfl rfl ?_ ?_ ?_ ?_; (exact HO.out.keep (fun _ _ => rfl)); (exact HR2.out.keep (fun _ _ _ => rfl)); (exact HLE.out); intro v2 w2 ho2 hc2 hk2; obtain ⟨ao2, n2, cc2, rfl, -, -, -⟩ := ho2.rd.shape; obtain ⟨k1, k2⟩ := WM.app hP.out.wm ho2 ⟨hc2.os, hc2.tape, hc2.output, hc2.size, hc2.block⟩ (by first | exact hk2 | exact hk2.imp id (fun e => e.trans (congrArg some (World.size_alloc _ _)))) HBY.out; have k3 := frozen_of_row w2 r 0 _ _ k2; have k4 := (cell2 k2).1; have K1 : Hid (WP r (.slice aor nr cr) wr (w2.setCell ⟨r, 0, none⟩ (.slice ao2 n2 cc2)) (.slice ao2 n2 cc2) no ((xs ++ D.take m) ++ [B])) := k1; clear ho2 hc2 hk2 k1 k2)
        all_goals
          go_wp2
          go_roundw
          case rel => exact ⟨m + 1, .slice ao2 n2 cc2, by have := HI.out.2; omega, by have := HI4.out; have := HI.out.2; go_num, by show WP _ _ _ _ _ _ _; rw [HN.out, ← List.append_assoc]; exact hP.out.trans K1.out⟩
          case measure => simp [intOf]
      · have e4 : (n : Int) - 1 - (m : Int) = 3 := by omega
        have hq : IntKind.u8.wrap (x / 16777216) = B := by rw [IntKind.wrap_u8, hB, h4]; first | rfl | simp
        have w8 : IntKind.i64.wrap 24 = 24 := by decide
        have HI4 : Hid (n - 1 - m = 3) := by show _ = _; omega
        rw [e4]
        clear hB e4 hi'
        go_wp2_with fail
        go_region_law (refine step_app rfl (.tmp 17) (.tmp 23) rfl _ _ (xs ++ D.take m) [B] rfl rfl ?_ ?_ ?_ ?_; (exact HO.out.keep (fun _ _ => rfl)); (exact HR2.out.keep (fun _ _ _ => rfl)); (exact HLE.out); intro v2 w2 ho2 hc2 hk2; obtain ⟨ao2, n2, cc2, rfl, -, -, -⟩ := ho2.rd.shape; obtain ⟨k1, k2⟩ := WM.app hP.out.wm ho2 ⟨hc2.os, hc2.tape, hc2.output, hc2.size, hc2.block⟩ (by first | exact hk2 | exact hk2.imp id (fun e => e.trans (congrArg some (World.size_alloc _ _)))) HBY.out; have k3 := frozen_of_row w2 r 0 _ _ k2; have k4 := (cell2 k2).1; have K1 : Hid (WP r (.slice aor nr cr) wr (w2.setCell ⟨r, 0, none⟩ (.slice ao2 n2 cc2)) (.slice ao2 n2 cc2) no ((xs ++ D.take m) ++ [B])) := k1; clear ho2 hc2 hk2 k1 k2)
        all_goals
          go_wp2
          go_roundw
          case rel => exact ⟨m + 1, .slice ao2 n2 cc2, by have := HI.out.2; omega, by have := HI4.out; have := HI.out.2; go_num, by show WP _ _ _ _ _ _ _; rw [HN.out, ← List.append_assoc]; exact hP.out.trans K1.out⟩
          case measure => simp [intOf]
    · have hmn : m = n := by omega
      subst hmn
      go_wp2
      go_end0
      have := hP.out
      rw [List.take_of_length_le (by rw [HL.out.2]; exact Nat.le_refl _)] at this
      exact ⟨vr, rfl, this⟩
end Go.Proofs.Ytdhckndehijemaa
