/-
  Eight digits as twice four.
-/
import Derived.Test.YtnahkcapbbjfdaaJoin
namespace Go.Proofs.Ytnahkcapbbjfdaa
open Go.RowKit
set_option linter.unusedVariables false

theorem val_split {B : Int} (n m : Nat) (d : Nat → Int) : val B (n + m) d = val B n d + B ^ n * val B m (fun i => d (n + i)) := by
  induction m with
  | zero => simp [val]
  | succ m ih =>
    rw [← Nat.add_assoc, val1, ih, val1, Int.pow_add]
    grind

theorem bp_cc {fn : Func} {R : Ending → World → Prop} {a : Act} {w : World} {p q b b' n n' : Nat} {ty e ty' e' : TypeId} {c c' : Array Value} (h : fn.results = #[.cell p ty, .cell q ty']) (hd : a.defers = []) (hp : a.tmps.getD p undef = .pointer (some ⟨b, 0, none⟩)) (hq : a.tmps.getD q undef = .pointer (some ⟨b', 0, none⟩)) (ha : Ar w b c) (ha' : Ar w b' c')
    (hu : Try.prog.underlying ty = some (.array n e)) (hi : (Try.prog.info? ty).map (·.size) = some n) (hc : c.size = n) (hu' : Try.prog.underlying ty' = some (.array n' e')) (hi' : (Try.prog.info? ty').map (·.size) = some n') (hc' : c'.size = n') (hR : R (.returned (.tuple #[.agg c, .agg c'])) w) : bodyPost Try.prog fn R .ret a w := by
  refine bodyPost_ret (v := .tuple #[.agg c, .agg c']) ?_ hd hR
  rw [Array.getD_eq_getD_getElem?] at hp hq
  simp only [results, h]
  simp [Sem.run_bind, Result.andThen, hp, hq, asAddr, ha.loadVar ty hu hi hc, ha'.loadVar ty' hu' hi' hc']

theorem join_num (a b : Int) (ha : N256 a) (hb : N256 b) (w : World) :
    Calls Try.prog 60 #[.agg (num a), .agg (num b)] w fun r w' => r = .returned (.agg (wid (a + R256 * b))) ∧ Chg w w' := by
  refine (join_any (dg B64 a) (dg B64 b) w).mono ?_
  rintro r w' ⟨rfl, hc⟩
  have hw : ∀ i, W64 ((fun i => if i < 4 then dg B64 a i else dg B64 b (i - 4)) i) := by
    intro i
    dsimp only
    split
    · exact dg_w a i
    · exact dg_w b _
  rw [arr_wid hw]
  have e1 := val_split (B := B64) 4 4 (fun i => if i < 4 then dg B64 a i else dg B64 b (i - 4))
  have e2 : val B64 4 (fun i => if i < 4 then dg B64 a i else dg B64 b (i - 4)) = val B64 4 (dg B64 a) := val_congr fun i hi => by simp [hi]
  have e3 : val B64 4 (fun i => (fun i => if i < 4 then dg B64 a i else dg B64 b (i - 4)) (4 + i)) = val B64 4 (dg B64 b) := val_congr fun i hi => by
    have : ¬ 4 + i < 4 := by omega
    have e : 4 + i - 4 = i := by omega
    simp [this, e]
  rw [e2, e3, val4 a ha.1 ha.2, val4 b hb.1 hb.2, p4] at e1
  rw [show (8 : Nat) = 4 + 4 from rfl, e1]
  exact ⟨rfl, hc⟩

set_option maxHeartbeats 1000000 in
theorem halves_any (d : Nat → Int) (w : World) :
    Calls Try.prog 76 #[.agg (arr .u64 8 d)] w fun r w' => r = .returned (.tuple #[.agg (arr .u64 4 d), .agg (arr .u64 4 fun i => d (4 + i))]) ∧ Chg w w' := by
  obtain ⟨W, hW⟩ : ∃ W, W = ((w.alloc (.cells (arr .u64 8 d) 55)).alloc (.cells #[.int .u64 0, .int .u64 0, .int .u64 0, .int .u64 0] 25)).alloc (.cells #[.int .u64 0, .int .u64 0, .int .u64 0, .int .u64 0] 25) := ⟨_, rfl⟩
  have a1 : Ar W w.heap.size (arr .u64 8 d) := by rw [hW]; exact ((Ar.new _ _ _).alloc _).alloc _
  have a2 : Ar W (w.heap.size + 1) (arr .u64 4 fun _ => 0) := by rw [hW]; exact (Ar.new1 _ _ _ _).alloc _
  have a3 : Ar W (w.heap.size + 1 + 1) (arr .u64 4 fun _ => 0) := by rw [hW]; exact Ar.new2 _ _ _ _ _
  have hc : Chg w W := by rw [hW]; exact (((Chg.refl w).alloc _).alloc _).alloc _
  have HW : Hid (W = ((w.alloc (.cells (arr .u64 8 d) 55)).alloc (.cells #[.int .u64 0, .int .u64 0, .int .u64 0, .int .u64 0] 25)).alloc (.cells #[.int .u64 0, .int .u64 0, .int .u64 0, .int .u64 0] 25)) := hW
  clear hW
  have k1 := run_cp W.drew (w.heap.size + 1) 0 4 4 w.heap.size 0 4 8 4 (arr .u64 4 fun _ => 0) (arr .u64 8 d) a2.drew a1.drew rfl (by simp [arr_size]) (by simp [arr_size]) (arr_one _ _ _) (arr .u64 4 d) rfl
  obtain ⟨W2, hW2⟩ : ∃ W2, W2 = W.drew.setRow (w.heap.size + 1) (arr .u64 4 d) := ⟨_, rfl⟩
  have b1 : Ar W2 w.heap.size (arr .u64 8 d) := by rw [hW2]; exact a1.drew.rowOther (by omega) _
  have b2 : Ar W2 (w.heap.size + 1) (arr .u64 4 d) := by rw [hW2]; exact a2.drew.row _
  have b3 : Ar W2 (w.heap.size + 1 + 1) (arr .u64 4 fun _ => 0) := by rw [hW2]; exact a3.drew.rowOther (by omega) _
  have hc2 : Chg w W2 := by rw [hW2]; exact hc.drew.setRow (by omega) _
  have k2 := run_cp W2.drew (w.heap.size + 1 + 1) 0 4 4 w.heap.size 4 4 4 4 (arr .u64 4 fun _ => 0) (arr .u64 8 d) b3.drew b1.drew rfl (by simp [arr_size]) (by simp [arr_size]) (arr_one _ _ _) (arr .u64 4 fun i => d (4 + i)) rfl
  obtain ⟨W3, hW3⟩ : ∃ W3, W3 = W2.drew.setRow (w.heap.size + 1 + 1) (arr .u64 4 fun i => d (4 + i)) := ⟨_, rfl⟩
  have c2 : Ar W3 (w.heap.size + 1) (arr .u64 4 d) := by rw [hW3]; exact b2.drew.rowOther (by omega) _
  have c3 : Ar W3 (w.heap.size + 1 + 1) (arr .u64 4 fun i => d (4 + i)) := by rw [hW3]; exact b3.drew.row _
  have hc3 : Chg w W3 := by rw [hW3]; exact hc2.drew.setRow (by omega) _
  rw [← hW2] at k1
  rw [← hW3] at k2
  obtain ⟨x0, x1, x2, x3⟩ := c2.four
  obtain ⟨y0, y1, y2, y3⟩ := c3.four
  obtain ⟨f0, f1, f2, f3⟩ := c2.free4
  obtain ⟨g0, g1, g2, g3⟩ := c3.free4
  have C2 : Hid (Ar W3 (w.heap.size + 1) (arr .u64 4 d)) := c2
  have C3 : Hid (Ar W3 (w.heap.size + 1 + 1) (arr .u64 4 fun i => d (4 + i))) := c3
  have HC : Hid (Chg w W3) := hc3
  clear a1 a2 a3 b1 b2 b3 c2 c3 hc hc2 hc3 hW2 hW3
  go_enter Try.func76, Try.ntmps76
  go_wp2_with fail
  rw [← HW.out]
  clear HW
  go_region_with (fail)
  all_goals go_wp2_with fail
  all_goals go_region_with (fail)
  all_goals go_wp2
  all_goals
    refine bp_cc (n := 4) (n' := 4) (c := arr .u64 4 d) (c' := arr .u64 4 fun i => d (4 + i)) Try.results76 rfl rfl rfl ?_ ?_ u25 i25 (arr_size _ _ _) u25 i25 (arr_size _ _ _) ⟨rfl, ?_⟩
    · exact ((((((((C2.out.set 0 _).set 1 _).set 2 _).set 3 _).other (by dsimp only; omega) _).other (by dsimp only; omega) _).other (by dsimp only; omega) _).other (by dsimp only; omega) _)
    · exact ((((((((C3.out.other (by dsimp only; omega) _).other (by dsimp only; omega) _).other (by dsimp only; omega) _).other (by dsimp only; omega) _).set 0 _).set 1 _).set 2 _).set 3 _)
    · exact (((((((HC.out.setCell (by dsimp only; omega) _).setCell (by dsimp only; omega) _).setCell (by dsimp only; omega) _).setCell (by dsimp only; omega) _).setCell (by dsimp only; omega) _).setCell (by dsimp only; omega) _).setCell (by dsimp only; omega) _).setCell (by dsimp only; omega) _

theorem halves_num (x : Int) (hx : N512 x) (w : World) :
    Calls Try.prog 76 #[.agg (wid x)] w fun r w' => r = .returned (.tuple #[.agg (num (x % R256)), .agg (num (x / R256))]) ∧ Chg w w' := by
  refine (halves_any (dg B64 x) w).mono ?_
  rintro r w' ⟨rfl, hc⟩
  have hw : ∀ i, W64 ((fun i => dg B64 x (4 + i)) i) := fun i => dg_w x _
  have e1 := val_split (B := B64) 4 4 (dg B64 x)
  rw [show 4 + 4 = 8 from rfl, val8 x hx.1 hx.2, val_dg B64_pos, p4] at e1
  rw [arr_num (dg_w x), arr_num hw, val_dg B64_pos, p4]
  have e2 : val B64 4 (fun i => dg B64 x (4 + i)) = x / R256 := by
    unfold R256 at *
    omega
  rw [e2]
  exact ⟨rfl, hc⟩
end Go.Proofs.Ytnahkcapbbjfdaa
