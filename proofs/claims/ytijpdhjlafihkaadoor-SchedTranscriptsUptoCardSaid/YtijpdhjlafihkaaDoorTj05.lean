/-
  The kinds of words, mixInto, begin, New, Clone, Hash.
-/
import Derived.Test.YtijpdhjlafihkaaDoorTj04
namespace Go.Proofs.YtijpdhjlafihkaaDoor
open Go.RowKit
set_option linter.unusedVariables false
set_option maxRecDepth 100000

def isStr : TypeDesc → Bool
  | .struct _ => true
  | _ => false
theorem str_of {ty : TypeId} (h : (Tryd.prog.underlying ty).map isStr = some true) : ∃ f, Tryd.prog.underlying ty = some (.struct f) := by
  cases hq : Tryd.prog.underlying ty with
  | none => rw [hq] at h; cases h
  | some d =>
    rw [hq] at h
    have h := Option.some.inj h
    cases d <;> first | exact ⟨_, rfl⟩ | (exact absurd h (by simp [isStr]))
theorem str64 : ∃ f, Tryd.prog.underlying 99 = some (.struct f) := str_of (by kernel_rfl)
theorem str44 : ∃ f, Tryd.prog.underlying 59 = some (.struct f) := str_of (by kernel_rfl)
theorem bp_s {fn : Func} {R : Ending → World → Prop} {a : Act} {w : World} {p b : Nat} {ty : TypeId} {c : Array Value} (h : fn.results = #[.cell p ty]) (hd : a.defers = []) (hp : a.tmps.getD p undef = .pointer (some ⟨b, 0, none⟩)) (ha : Ar w b c)
    (hu : ∃ f, Tryd.prog.underlying ty = some (.struct f)) (hi : (Tryd.prog.info? ty).map (·.size) = some c.size) (hR : R (.returned (.agg c)) w) : bodyPost Tryd.prog fn R .ret a w := by
  obtain ⟨t, ha⟩ := ha
  obtain ⟨f, hu⟩ := hu
  refine bodyPost_ret (v := .agg c) ?_ hd hR
  exact results_cell_row h _ w b t c (0, 0) _ hp ha hu rfl hi
theorem size64 : (Tryd.prog.info? 99).map (·.size) = some 14 := by kernel_rfl

set_option maxRecDepth 100000 in
theorem short_any (w : World) : Calls Tryd.prog 67 #[] w fun r w' => r = .returned (.agg kind32) ∧ Chg w w' := by
  go_enter Tryd.func67, Tryd.ntmps67
  go_wp2
  refine bp_s (c := kind32) Tryd.results67 rfl rfl ?_ str64 size64 ⟨rfl, ?_⟩
  · exact Ar.new _ _ _
  · exact (Chg.refl w).alloc _

set_option maxRecDepth 100000 in
theorem long_any (w : World) : Calls Tryd.prog 69 #[] w fun r w' => r = .returned (.agg kind64) ∧ Chg w w' := by
  go_enter Tryd.func69, Tryd.ntmps69
  go_wp2
  refine bp_s (c := kind64) Tryd.results69 rfl rfl ?_ str64 size64 ⟨rfl, ?_⟩
  · exact Ar.new _ _ _
  · exact (Chg.refl w).alloc _

theorem Cb.of_low {b : Nat} {a w w' : World} (h : Chg a w) (k : Cb b w w') : Cb b a w' := (h.cb b).trans k

set_option maxRecDepth 100000 in
theorem mixInto_any (h : Int) (n sb so b o cap : Nat) (c : Array Value) (st d : Nat → Int) (w : World) (hn : n = blockOf h) (hv : h = 1 ∨ h = 2 ∨ h = 3) (ht : Tabs w) (hsb : 2 ≤ sb) (hs : Ar w sb c) (hc : so + 8 ≤ c.size) (hst : ∀ i, i < 8 → c[so + i]? = some (.int .u64 (st i)))
    (hb : Bs w b o n d) (hcap : n ≤ cap) (hcap' : cap < 9223372036854775808) :
    Calls Tryd.prog 51 #[.int .i64 h, .pointer (some ⟨sb, so, none⟩), .slice (some ⟨b, o, none⟩) n cap] w fun r w' => r = .returned (.tuple #[]) ∧ Cb sb w w' ∧ Ar w' sb (lay .u64 c so (mixH h st d) 8) := by
  by_cases h1 : h = 1
  · subst h1
    have hn' : n = 64 := hn
    subst hn'
    have HK : Hid (∀ u, Chg w u → Calls Tryd.prog 66 #[.agg kind32, .pointer (some ⟨sb, so, none⟩), .slice (some ⟨b, o, none⟩) 64 cap] u fun r w' => r = .returned (.tuple #[]) ∧ Cb sb w w' ∧ Ar w' sb (lay .u64 c so (mixH 1 st d) 8)) := by
      intro u hu
      refine (mix32_any sb so b o cap c st d u (ht.chg hu) hsb (hs.chg hu) hc hst (hb.chg hu) hcap hcap').mono ?_
      rintro r w' ⟨rfl, k1, k2⟩
      exact ⟨rfl, Cb.of_low hu k1, k2⟩
    clear hv ht hsb hs hc hst hb hcap hcap' hn
    go_enter Tryd.func51, Tryd.ntmps51
    go_wp2_with (first | (go_at_call 67; (refine (short_any _).mono ?_; rintro r w1 ⟨rfl, hc1⟩)) | (go_at_call 66; (refine (HK.out _ hc1).mono ?_; rintro r w2 ⟨rfl, hc2, ha2⟩)))
    exact bodyPost_ret (v := .tuple #[]) (results_none Tryd.results51 _ _ _) rfl ⟨rfl, hc2, ha2⟩
  · have hn' : n = 128 := by
      rw [hn, blockOf, if_neg h1]
      rcases hv with e | e | e
      · exact absurd e h1
      · rw [if_pos e]
      · rw [if_neg (by omega), if_pos e]
    subst hn'
    have HK : Hid (∀ u, Chg w u → Calls Tryd.prog 68 #[.agg kind64, .pointer (some ⟨sb, so, none⟩), .slice (some ⟨b, o, none⟩) 128 cap] u fun r w' => r = .returned (.tuple #[]) ∧ Cb sb w w' ∧ Ar w' sb (lay .u64 c so (mixH h st d) 8)) := by
      intro u hu
      refine (mix64_any sb so b o cap c st d u (ht.chg hu) hsb (hs.chg hu) hc hst (hb.chg hu) hcap hcap').mono ?_
      rintro r w' ⟨rfl, k1, k2⟩
      rw [mixH, if_neg h1]
      exact ⟨rfl, Cb.of_low hu k1, k2⟩
    clear hv ht hsb hs hc hst hb hcap hcap' hn
    go_enter Tryd.func51, Tryd.ntmps51
    go_wp2_with (first | (go_at_call 69; (refine (long_any _).mono ?_; rintro r w1 ⟨rfl, hc1⟩)) | (go_at_call 68; (refine (HK.out _ hc1).mono ?_; rintro r w2 ⟨rfl, hc2, ha2⟩)))
    go_end0
    exact ⟨rfl, hc2, ha2⟩

theorem dig_setHash (h : Int) (st rest : Nat → Int) (held count x : Int) : (dig h st rest held count).setIfInBounds 0 (.int .i64 x) = dig x st rest held count := by
  refine dig_eq (by simp [dig_size]) fun j hj => ?_
  by_cases e : j = 0
  · subst e
    rw [Array.getElem?_setIfInBounds_self_of_lt (by rw [dig_size]; omega)]
    rfl
  · rw [Array.getElem?_setIfInBounds_ne (by omega), dig_get _ _ _ _ _ hj]
    simp [digF, e]

def startUp (h : Int) (i : Nat) : Nat → Int := fun j => if j < i then startOf h j else 0

set_option maxRecDepth 100000 in
set_option maxHeartbeats 4000000 in
theorem begin_any (q : Int) (w : World) (ht : Tabs w) : Calls Tryd.prog 36 #[.int .i64 q] w fun r w' => r = .returned (.agg (dig q (startOf q) (fun _ => 0) 0 0)) ∧ Chg w w' := by
  have HT : Hid (Tabs w) := ht
  clear ht
  have hz := zero44.1
  have hbt := dig_setHash 0 (fun _ => 0) (fun _ => 0) 0 0 q
  have hz' : (Tryd.prog.info? 59).map (·.size) = some (dig q (fun _ => 0) (fun _ => 0) 0 0).size := by rw [dig_size]; exact zero44.2
  have hl' : (dig 0 (fun _ => 0) (fun _ => 0) 0 0).size = (dig q (fun _ => 0) (fun _ => 0) 0 0).size := by rw [dig_size, dig_size]
  have ho' := dig_one q (fun _ => 0) (fun _ => 0) 0 0
  have HG : Hid (((w.alloc (.cells (dig 0 (fun _ => 0) (fun _ => 0) 0 0) 59)).alloc (.cells (dig 0 (fun _ => 0) (fun _ => 0) 0 0) 59)).heap[w.heap.size + 1]? = some (.cells (dig 0 (fun _ => 0) (fun _ => 0) 0 0) 59)) := heap_alloc2_new w _ _
  go_enter Tryd.func36, Tryd.ntmps36
  go_wp2_with (first | refine wpList_store_row rfl 59 _ _ rfl _ _ rfl rfl _ _ HG.out hz' hl' ho' ?_)
  obtain ⟨w1, hw1⟩ : ∃ w1, w1 = ((w.alloc (.cells (dig 0 (fun _ => 0) (fun _ => 0) 0 0) 59)).alloc (.cells (dig 0 (fun _ => 0) (fun _ => 0) 0 0) 59)).setRow (w.heap.size + 1) (dig q (fun _ => 0) (fun _ => 0) 0 0) := ⟨_, rfl⟩
  rw [← hw1]
  have z0 : Hid (Chg w w1 ∧ Ar w1 w.heap.size (dig 0 (fun _ => 0) (fun _ => 0) 0 0) ∧ Ar w1 (w.heap.size + 1) (dig q (startUp q 0) (fun _ => 0) 0 0)) := by
    rw [hw1]
    refine ⟨(((Chg.refl w).alloc _).alloc _).setRow (by omega) _, ((Ar.new w _ _).alloc _).rowOther (by omega) _, ?_⟩
    exact (Ar.new1 w _ _ _).row _
  clear hz hbt hz' hl' ho' HG hw1
  go_loopw [7] (fun v wr => ∃ (i : Nat), v = .int .i64 i ∧ i ≤ 8 ∧ Chg w wr ∧ Ar wr w.heap.size (dig 0 (fun _ => 0) (fun _ => 0) 0 0) ∧ Ar wr (w.heap.size + 1) (dig q (startUp q i) (fun _ => 0) 0 0)) (fun v wr => 8 - (intOf v).toNat)
  case atStart => exact ⟨0, rfl, by omega, z0.out.1, z0.out.2.1, z0.out.2.2⟩
  case round =>
    clear z0
    obtain ⟨i, rfl, hi, hch, h1, h2⟩ := hrel
    have HC : Hid (Chg w wr) := hch
    have H1 : Hid (Ar wr w.heap.size (dig 0 (fun _ => 0) (fun _ => 0) 0 0)) := h1
    have H2 : Hid (Ar wr (w.heap.size + 1) (dig q (startUp q i) (fun _ => 0) 0 0)) := h2
    by_cases hi8 : i < 8
    · have hid : decide ((i : Int) < 8) = true := by simp; omega
      have hl8 : (i : Int) < 8 := by omega
      have c0 := (h2.cell (1 + i)).trans (dig_st q (startUp q i) (fun _ => 0) 0 0 hi8)
      have f0 := h2.frozen (1 + i)
      obtain ⟨x0, hx0⟩ : ∃ x, x = startUp q i i := ⟨_, rfl⟩
      rw [← hx0] at c0
      obtain ⟨x, hx⟩ : ∃ x, x = startOf q i := ⟨_, rfl⟩
      have HX : Hid (x = startOf q i) := hx
      have HS : Hid (Calls Tryd.prog 49 #[.int .i64 q, .int .i64 i] wr fun r w' => r = .returned (.int .u64 x) ∧ w' = wr) := by
        rw [hx]
        exact start_any q i wr (HT.out.chg hch) hi8
      clear hx0 hx hch h1 h2
      go_wp2_with (first | (go_at_call 49; (refine HS.out.mono ?_; rintro r w2 ⟨rfl, rfl⟩)))
      go_roundw
      case rel =>
        refine ⟨i + 1, by go_num, by omega, HC.out.setCell (by dsimp only; omega) _, H1.out.other (by dsimp only; omega) _, ?_⟩
        have hh := H2.out.set (1 + i) (.int .u64 x)
        rw [dig_setSt _ _ _ _ _ _ hi8] at hh
        have e : upd (startUp q i) i x = startUp q (i + 1) := by
          funext j
          unfold upd startUp
          by_cases hj : j = i
          · subst hj; simp [HX.out]
          · have e : (j < i + 1) ↔ j < i := by omega
            simp [hj, e]
        rw [e] at hh
        exact hh
      case measure => simp [intOf]; omega
    · have hid : decide ((i : Int) < 8) = false := by simp; omega
      have hi8' : i = 8 := by omega
      have e : dig q (startUp q i) (fun _ => 0) 0 0 = dig q (startOf q) (fun _ => 0) 0 0 := dig_congr (fun j hj => by unfold startUp; rw [if_pos (by omega)]) (fun _ _ => rfl)
      have H2' : Hid (Ar wr (w.heap.size + 1) (dig q (startOf q) (fun _ => 0) 0 0)) := by
        show Ar _ _ _
        rw [← e]
        exact h2
      obtain ⟨f, hf⟩ := str44
      obtain ⟨t1, hg1⟩ := h1
      obtain ⟨t2, hg2⟩ := h2
      rw [e] at hg2
      have hz' : (Tryd.prog.info? 59).map (·.size) = some (dig q (startOf q) (fun _ => 0) 0 0).size := by rw [dig_size]; exact zero44.2
      have hl' : (dig 0 (fun _ => 0) (fun _ => 0) 0 0).size = (dig q (startOf q) (fun _ => 0) 0 0).size := by rw [dig_size, dig_size]
      have ho' := dig_one q (startOf q) (fun _ => 0) 0 0
      clear hch e hi8' H2
      go_wp2_with (first | refine wpList_load_row rfl 59 _ rfl _ rfl _ _ _ _ hg2 hf rfl hz' ?_ | refine wpList_store_row rfl 59 _ _ rfl _ _ rfl rfl _ _ hg1 hz' hl' ho' ?_)
      refine bp_s (c := dig q (startOf q) (fun _ => 0) 0 0) Tryd.results36 rfl rfl ?_ str44 hz' ⟨rfl, ?_⟩
      · exact H1.out.row _
      · exact HC.out.setRow (by omega) _
end Go.Proofs.YtijpdhjlafihkaaDoor
