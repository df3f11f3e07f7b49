/-
  How a suite locks up and opens: the lock's own, and through its face.
-/
import Derived.Test.YtobglgddbhddnaaGreatJ35
import Derived.Test.YtobglgddbhddnaaGreatJ03
namespace Go.Proofs.YtobglgddbhddnaaGreat
open Go.RowKit
set_option linter.unusedVariables false

theorem op_asg {o : Oper} {a : Act} {w : World} {K : Act → World → Prop} {Q : Exit → Act → World → Prop} (x : Operand) (v : Value) (ho : o.op = .assign x) (hx : a.eval x = v) (hK : K (a.put o.dst v) w) : o.wp Tryz.prog a w K Q := by
  refine op_val1 (v := v) ?_ hK
  simp [execOp, ho, hx]
theorem bp_ttS {fn : Func} {R : Ending → World → Prop} {a : Act} {w : World} {p u : Nat} {x y : Value} (h : fn.results = #[.tmp p, .tmp u]) (hd : a.defers = []) (hx : a.tmps.getD p undef = x) (hy : a.tmps.getD u undef = y) (hR : R (.returned (.tuple #[x, y])) w) : bodyPost Tryz.prog fn R .ret a w := by
  refine bodyPost_ret (v := .tuple #[x, y]) ?_ hd hR
  rw [Array.getD_eq_getD_getElem?] at hx hy
  simp only [results, h]
  simp [hx, hy]
theorem run_dyn (a : Act) (o : Oper) (f : Nat) (fn : Func) (c : Operand) (xs : Array Operand) (ts : Array TypeId) (w : World) (hf : Tryz.prog.funcs[f]? = some fn) (hn : (fn.name == "runtime.NumGoroutine") = false) (hb : fn.body.isNone = false) (h : o.op = .call { callee := .value c, args := xs, argTypes := ts }) (he : a.eval c = .func (.func f) #[] #[]) : (execOp a.eval o).run Tryz.prog w = .ok (.enter f (xs.map a.eval)) w := by
  have hn' : ¬ fn.name = "runtime.NumGoroutine" := by simpa using hn
  have hb' : ¬ fn.body = none := fun e => by rw [e] at hb; cases hb
  simp [execOp, h, resolve, invoke, he, Deferred.ofValue, callFunc, hf, hn', hb']
theorem opG_dyn {o : Oper} {a : Act} {w : World} {vs : Array Value} {G : Value → World → Prop} {Q : Exit → Act → World → Prop} (f : Nat) (fn : Func) (c : Operand) (xs : Array Operand) (ts : Array TypeId) (h : o.op = .call { callee := .value c, args := xs, argTypes := ts }) (he : a.eval c = .func (.func f) #[] #[]) (hf : Tryz.prog.funcs[f]? = some fn) (hn : (fn.name == "runtime.NumGoroutine") = false) (hb : fn.body.isNone = false) (hv : xs.map a.eval = vs) (hc : Calls Tryz.prog f vs w fun e w' => ∃ v, e = .returned v ∧ G v w' ∧ Chg w w') : o.wp Tryz.prog a w (fun a' u => ∃ v, a' = a.put o.dst v ∧ G v u ∧ Chg w u) Q := by
  have hr := run_dyn a o f fn c xs ts w hf hn hb h he
  rw [hv] at hr
  unfold Oper.wp
  rw [hr]
  show Calls Tryz.prog f vs w _
  refine hc.mono ?_
  rintro e w' ⟨v, rfl, h1, h2⟩
  exact ⟨v, rfl, h1, h2⟩
set_option maxRecDepth 100000 in
set_option maxHeartbeats 8000000 in
theorem sealG_fwd (h n : Int) (ao : Option Addr) (L cap : Nat) (nc : Nat → By) (va vx : Value) (w : World) (P : Value → World → Prop) (hP : ∀ v u u', P v u → Chg u u' → P v u') (e : Int) (hL : (L : Int) = n)
    (HS : ∀ u, Chg w u → Calls Tryz.prog 27 #[.slice ao L cap, .agg (ba 12 nc), va, vx] u fun r w' => ∃ v, r = .returned (.tuple #[v, .int .i64 e]) ∧ P v w' ∧ Chg u w') :
    Calls Tryz.prog 120 #[.agg (lkG h n), .slice ao L cap, .agg (ba 12 nc), va, vx] w fun r w' => ∃ v, r = .returned (.tuple #[v, .int .i64 e]) ∧ P v w' ∧ Chg w w' := by
  have HS : Hid (∀ u, Chg w u → Calls Tryz.prog 27 #[.slice ao L cap, .agg (ba 12 nc), va, vx] u fun r w' => ∃ v, r = .returned (.tuple #[v, .int .i64 e]) ∧ P v w' ∧ Chg u w') := HS
  have hd : ((L : Int) != n) = false := by simp [hL]
  clear hL
  have hsA := ba_size 12 nc
  obtain ⟨A, hA⟩ : ∃ A, A = ba 12 nc := ⟨_, rfl⟩
  have HA : Hid (A = ba 12 nc) := hA
  rw [← hA] at hsA ⊢
  obtain ⟨F, hF⟩ : ∃ F, F = lkG h n := ⟨_, rfl⟩
  have HF : Hid (F = lkG h n) := hF
  have hsF : F.size = 6 := by rw [hF]; rfl
  rw [← hF]
  clear hF hA
  go_enter Tryz.func120, Tryz.ntmps120
  go_upto_region 1 with fail
  obtain ⟨w2, hw2⟩ : ∃ w2, w2 = (w.alloc (.cells F 48)).alloc (.cells A 25) := ⟨_, rfl⟩
  have Z2 : Hid (Chg w w2 ∧ Ar w2 w.heap.size (lkG h n) ∧ Ar w2 (w.heap.size + 1) (ba 12 nc)) := by
    rw [hw2, HF.out, HA.out]
    exact ⟨((Chg.refl w).alloc _).alloc _, (Ar.new w _ _).alloc _, Ar.new1 w _ _ _⟩
  rw [← hw2]
  have c1 : w2.cell? ⟨w.heap.size, 1, none⟩ = some (.int .i64 n) := Z2.out.2.1.cell 1
  clear hw2 hsF hsA HF HA
  go_upto_region 3 with fail
  clear c1
  refine wp_region_good 13 (fun j v wg => match j with
    | 0 => v = .pointer (some ⟨w.heap.size, 4, none⟩)
    | 1 => v = .func (.func 27) #[] #[]
    | 2 => v = .pointer (some ⟨w.heap.size, 3, none⟩)
    | 3 => v = .func (.func 26) #[] #[]
    | 4 => v = .slice ao L cap
    | 5 => v = .slice ao L cap
    | 6 => v = .agg (ba 12 nc)
    | 7 => v = va
    | 8 => v = vx
    | 9 => ∃ x1, v = .tuple #[x1, .int .i64 e] ∧ P x1 wg
    | 10 => ∃ x2, v = x2 ∧ P x2 wg
    | 11 => v = .int .i64 e
    | 12 => ∃ x3, v = x3 ∧ P x3 wg
    | _ => True) (by kernel_rfl) (by kernel_rfl) (by kernel_rfl) (by kernel_rfl) (by kernel_rfl) ?_ ?_ ?_
  · intro j v u1 u2 h hc
    match j, h with
    | 0, h => exact h
    | 1, h => exact h
    | 2, h => exact h
    | 3, h => exact h
    | 4, h => exact h
    | 5, h => exact h
    | 6, h => exact h
    | 7, h => exact h
    | 8, h => exact h
    | 9, h => (obtain ⟨x1, h1, h2⟩ := h; exact ⟨x1, h1, hP _ _ _ h2 hc⟩)
    | 10, h => (obtain ⟨x2, h1, h2⟩ := h; exact ⟨x2, h1, hP _ _ _ h2 hc⟩)
    | 11, h => exact h
    | 12, h => (obtain ⟨x3, h1, h2⟩ := h; exact ⟨x3, h1, hP _ _ _ h2 hc⟩)
    | _ + 13, h => exact trivial
  · intro i o ac u hi ho hsz hf hg hc
    have hcs : i = 0 ∨ i = 1 ∨ i = 2 ∨ i = 3 ∨ i = 4 ∨ i = 5 ∨ i = 6 ∨ i = 7 ∨ i = 8 ∨ i = 9 ∨ i = 10 ∨ i = 11 ∨ i = 12 := by omega
    rcases hcs with rfl | rfl | rfl | rfl | rfl | rfl | rfl | rfl | rfl | rfl | rfl | rfl | rfl
    · injection ho with ho
      subst ho
      refine .inl ⟨wanted_none rfl, ?_⟩
      have e1 : ac.eval (.tmp 5) = .pointer (some ⟨w.heap.size, 0, none⟩) := hf 5 (by kernel_rfl)
      exact opG_val (by revert e1; generalize ac.eval = ρ; intro e1; simp [go_sem, execOp, e1]) rfl (Chg.refl _)
    · injection ho with ho
      subst ho
      have hcl := ((Ar.chg (w := w2.drew) Z2.out.2.1 hc).cell 4)
      rw [show (lkG h n)[4]? = some (.func (.func 27) #[] #[]) from rfl] at hcl
      refine .inl ⟨wanted_none rfl, ?_⟩
      have e1 : ac.eval (.tmp 17) = .pointer (some ⟨w.heap.size, 4, none⟩) := hg 0 (by kernel_rfl) (by decide)
      exact opG_val (by revert e1; generalize ac.eval = ρ; intro e1; simp [go_sem, execOp, e1, hcl]) rfl (Chg.refl _)
    · injection ho with ho
      subst ho
      refine .inl ⟨wanted_none rfl, ?_⟩
      have e1 : ac.eval (.tmp 5) = .pointer (some ⟨w.heap.size, 0, none⟩) := hf 5 (by kernel_rfl)
      exact opG_val (by revert e1; generalize ac.eval = ρ; intro e1; simp [go_sem, execOp, e1]) rfl (Chg.refl _)
    · injection ho with ho
      subst ho
      have hcl := ((Ar.chg (w := w2.drew) Z2.out.2.1 hc).cell 3)
      rw [show (lkG h n)[3]? = some (.func (.func 26) #[] #[]) from rfl] at hcl
      refine .inl ⟨wanted_none rfl, ?_⟩
      have e1 : ac.eval (.tmp 19) = .pointer (some ⟨w.heap.size, 3, none⟩) := hg 2 (by kernel_rfl) (by decide)
      exact opG_val (by revert e1; generalize ac.eval = ρ; intro e1; simp [go_sem, execOp, e1, hcl]) rfl (Chg.refl _)
    · injection ho with ho
      subst ho
      refine .inl ⟨wanted_none rfl, ?_⟩
      have e1 : ac.eval (.tmp 1) = .slice ao L cap := hf 1 (by kernel_rfl)
      exact opG_val (by simp [execOp, e1]) rfl (Chg.refl _)
    · injection ho with ho
      subst ho
      refine .inl ⟨wanted_none rfl, ?_⟩
      have e0 : ac.eval (.tmp 20) = .func (.func 26) #[] #[] := hg 3 (by kernel_rfl) (by decide)
      have e1 : ac.eval (.tmp 21) = .slice ao L cap := hg 4 (by kernel_rfl) (by decide)
      refine opG_dyn 26 Tryz.f26 (.tmp 20) #[.tmp 21] #[24] rfl e0 Tryz.func26 (by kernel_rfl) (by kernel_rfl) (by simp [e1]) (Calls.mono (same1_any (.slice ao L cap) _) ?_)
      rintro r u2 ⟨rfl, hw⟩
      rw [hw]
      exact ⟨_, rfl, rfl, Chg.refl _⟩
    · injection ho with ho
      subst ho
      refine .inl ⟨wanted_none rfl, ?_⟩
      have e1 : ac.eval (.tmp 7) = .pointer (some ⟨w.heap.size + 1, 0, none⟩) := hf 7 (by kernel_rfl)
      exact wp_load_mid 25 (.tmp 7) rfl _ _ e1 ((ba 12 nc).toList) _ (range12S (Ar.chg (w := w2.drew) Z2.out.2.2 hc)) und38 rfl (info12S _) ⟨_, rfl, rfl, Chg.refl _⟩
    · injection ho with ho
      subst ho
      refine .inl ⟨wanted_none rfl, ?_⟩
      have e1 : ac.eval (.tmp 3) = va := hf 3 (by kernel_rfl)
      exact opG_val (by simp [execOp, e1]) rfl (Chg.refl _)
    · injection ho with ho
      subst ho
      refine .inl ⟨wanted_none rfl, ?_⟩
      have e1 : ac.eval (.tmp 4) = vx := hf 4 (by kernel_rfl)
      exact opG_val (by simp [execOp, e1]) rfl (Chg.refl _)
    · injection ho with ho
      subst ho
      refine .inl ⟨wanted_none rfl, ?_⟩
      have e0 : ac.eval (.tmp 18) = .func (.func 27) #[] #[] := hg 1 (by kernel_rfl) (by decide)
      have e1 : ac.eval (.tmp 22) = .slice ao L cap := hg 5 (by kernel_rfl) (by decide)
      have e2 : ac.eval (.tmp 23) = .agg (ba 12 nc) := hg 6 (by kernel_rfl) (by decide)
      have e3 : ac.eval (.tmp 24) = va := hg 7 (by kernel_rfl) (by decide)
      have e4 : ac.eval (.tmp 25) = vx := hg 8 (by kernel_rfl) (by decide)
      refine opG_dyn 27 Tryz.f27 (.tmp 18) #[.tmp 22, .tmp 23, .tmp 24, .tmp 25] #[24, 25, 24, 24] rfl e0 Tryz.func27 (by kernel_rfl) (by kernel_rfl) (by simp [e1, e2, e3, e4]) (Calls.mono (HS.out _ (Z2.out.1.drew.trans hc)) ?_)
      rintro r u2 ⟨x, rfl, hx, hw⟩
      exact ⟨_, rfl, ⟨x, rfl, hx⟩, hw⟩
    · injection ho with ho
      subst ho
      refine .inl ⟨wanted_none rfl, ?_⟩
      obtain ⟨x1, e10, hx1⟩ := hg 9 (by kernel_rfl) (by decide)
      have e1 : ac.eval (.tmp 26) = .tuple #[x1, .int .i64 e] := e10
      exact opG_val (by revert e1; generalize ac.eval = ρ; intro e1; simp [go_sem, execOp, e1]) ⟨_, rfl, hx1⟩ (Chg.refl _)
    · injection ho with ho
      subst ho
      refine .inl ⟨wanted_none rfl, ?_⟩
      obtain ⟨x1, e10, hx1⟩ := hg 9 (by kernel_rfl) (by decide)
      have e1 : ac.eval (.tmp 26) = .tuple #[x1, .int .i64 e] := e10
      exact opG_val (by revert e1; generalize ac.eval = ρ; intro e1; simp [go_sem, execOp, e1]) rfl (Chg.refl _)
    · injection ho with ho
      subst ho
      refine .inl ⟨wanted_none rfl, ?_⟩
      obtain ⟨x2, e10, hx2⟩ := hg 10 (by kernel_rfl) (by decide)
      have e1 : ac.eval (.tmp 27) = x2 := e10
      exact opG_val (by simp [execOp, e1]) ⟨_, rfl, hx2⟩ (Chg.refl _)
  · intro o u V ho hV hc
    injection ho with ho
    subst ho
    refine ⟨rfl, ?_⟩
    have q17 : V 0 = .pointer (some ⟨w.heap.size, 4, none⟩) := hV 0 (by decide)
    have q18 : V 1 = .func (.func 27) #[] #[] := hV 1 (by decide)
    have q19 : V 2 = .pointer (some ⟨w.heap.size, 3, none⟩) := hV 2 (by decide)
    have q20 : V 3 = .func (.func 26) #[] #[] := hV 3 (by decide)
    have q21 : V 4 = .slice ao L cap := hV 4 (by decide)
    have q22 : V 5 = .slice ao L cap := hV 5 (by decide)
    have q23 : V 6 = .agg (ba 12 nc) := hV 6 (by decide)
    have q24 : V 7 = va := hV 7 (by decide)
    have q25 : V 8 = vx := hV 8 (by decide)
    obtain ⟨x1, q26, hx1⟩ := hV 9 (by decide)
    obtain ⟨x2, q27, hx2⟩ := hV 10 (by decide)
    have q28 : V 11 = .int .i64 e := hV 11 (by decide)
    obtain ⟨x3, q10, hx3⟩ := hV 12 (by decide)
    refine op_asg (.tmp 28) (.int .i64 e) rfl (Eq.trans (by rfl) q28) ?_
    go_wp2_with fail
    exact bp_ttS Tryz.results120 rfl (Eq.trans (by rfl) q10) (by rfl) ⟨_, rfl, hx3, Z2.out.1.drew.trans hc⟩
set_option maxRecDepth 100000 in
set_option maxHeartbeats 8000000 in
theorem openG_fwd (h n : Int) (ao : Option Addr) (L cap : Nat) (nc : Nat → By) (va vx : Value) (w : World) (P : Value → World → Prop) (hP : ∀ v u u', P v u → Chg u u' → P v u') (e : Int) (hL : (L : Int) = n)
    (e2 : Int) (P2 : Value → World → Prop) (HQ : (e = 0 ∧ e2 = 0 ∧ ∀ v u, P v u → P2 v u) ∨ (e ≠ 0 ∧ e2 = 103 ∧ ∀ u, P2 (.slice none 0 0) u))
    (HS : ∀ u, Chg w u → Calls Tryz.prog 28 #[.slice ao L cap, .agg (ba 12 nc), va, vx] u fun r w' => ∃ v, r = .returned (.tuple #[v, .int .i64 e]) ∧ P v w' ∧ Chg u w') :
    Calls Tryz.prog 119 #[.agg (lkG h n), .slice ao L cap, .agg (ba 12 nc), va, vx] w fun r w' => ∃ v, r = .returned (.tuple #[v, .int .i64 e2]) ∧ P2 v w' ∧ Chg w w' := by
  have HS : Hid (∀ u, Chg w u → Calls Tryz.prog 28 #[.slice ao L cap, .agg (ba 12 nc), va, vx] u fun r w' => ∃ v, r = .returned (.tuple #[v, .int .i64 e]) ∧ P v w' ∧ Chg u w') := HS
  have HQ : Hid ((e = 0 ∧ e2 = 0 ∧ ∀ v u, P v u → P2 v u) ∨ (e ≠ 0 ∧ e2 = 103 ∧ ∀ u, P2 (.slice none 0 0) u)) := HQ
  have hd : ((L : Int) != n) = false := by simp [hL]
  clear hL
  have hsA := ba_size 12 nc
  obtain ⟨A, hA⟩ : ∃ A, A = ba 12 nc := ⟨_, rfl⟩
  have HA : Hid (A = ba 12 nc) := hA
  rw [← hA] at hsA ⊢
  obtain ⟨F, hF⟩ : ∃ F, F = lkG h n := ⟨_, rfl⟩
  have HF : Hid (F = lkG h n) := hF
  have hsF : F.size = 6 := by rw [hF]; rfl
  rw [← hF]
  clear hF hA
  go_enter Tryz.func119, Tryz.ntmps119
  go_upto_region 1 with fail
  obtain ⟨w2, hw2⟩ : ∃ w2, w2 = (w.alloc (.cells F 48)).alloc (.cells A 25) := ⟨_, rfl⟩
  have Z2 : Hid (Chg w w2 ∧ Ar w2 w.heap.size (lkG h n) ∧ Ar w2 (w.heap.size + 1) (ba 12 nc)) := by
    rw [hw2, HF.out, HA.out]
    exact ⟨((Chg.refl w).alloc _).alloc _, (Ar.new w _ _).alloc _, Ar.new1 w _ _ _⟩
  rw [← hw2]
  have c1 : w2.cell? ⟨w.heap.size, 1, none⟩ = some (.int .i64 n) := Z2.out.2.1.cell 1
  clear hw2 hsF hsA HF HA
  go_upto_region 3 with fail
  clear c1
  go_cut [12, 13] from 19 to 32 (fun v v13 wc => v13 = .int .i64 e ∧ P v wc ∧ Chg w2 wc)
  case first =>
    refine wp_region_goodC 14 (fun j v wg => match j with
      | 0 => v = .pointer (some ⟨w.heap.size, 5, none⟩)
      | 1 => v = .func (.func 28) #[] #[]
      | 2 => v = .pointer (some ⟨w.heap.size, 3, none⟩)
      | 3 => v = .func (.func 26) #[] #[]
      | 4 => v = .slice ao L cap
      | 5 => v = .slice ao L cap
      | 6 => v = .agg (ba 12 nc)
      | 7 => v = va
      | 8 => v = vx
      | 9 => ∃ x1, v = .tuple #[x1, .int .i64 e] ∧ P x1 wg
      | 10 => ∃ x0, v = .tuple #[x0, .int .i64 e] ∧ P x0 wg
      | 11 => ∃ x2, v = x2 ∧ P x2 wg
      | 12 => v = .int .i64 e
      | 13 => ∃ x3, v = x3 ∧ P x3 wg
      | _ => True) (by kernel_rfl) (by kernel_rfl) (by kernel_rfl) (by kernel_rfl) (by kernel_rfl) ?_ ?_ ?_
    · intro j v u1 u2 h hc
      match j, h with
      | 0, h => exact h
      | 1, h => exact h
      | 2, h => exact h
      | 3, h => exact h
      | 4, h => exact h
      | 5, h => exact h
      | 6, h => exact h
      | 7, h => exact h
      | 8, h => exact h
      | 9, h => (obtain ⟨x1, h1, h2⟩ := h; exact ⟨x1, h1, hP _ _ _ h2 hc⟩)
      | 10, h => (obtain ⟨x0, h1, h2⟩ := h; exact ⟨x0, h1, hP _ _ _ h2 hc⟩)
      | 11, h => (obtain ⟨x2, h1, h2⟩ := h; exact ⟨x2, h1, hP _ _ _ h2 hc⟩)
      | 12, h => exact h
      | 13, h => (obtain ⟨x3, h1, h2⟩ := h; exact ⟨x3, h1, hP _ _ _ h2 hc⟩)
      | _ + 14, h => exact trivial
    · intro i o ac u hi ho hsz hf hg hc
      have hcs : i = 0 ∨ i = 1 ∨ i = 2 ∨ i = 3 ∨ i = 4 ∨ i = 5 ∨ i = 6 ∨ i = 7 ∨ i = 8 ∨ i = 9 ∨ i = 10 ∨ i = 11 ∨ i = 12 ∨ i = 13 := by omega
      rcases hcs with rfl | rfl | rfl | rfl | rfl | rfl | rfl | rfl | rfl | rfl | rfl | rfl | rfl | rfl
      · injection ho with ho
        subst ho
        refine .inl ⟨wanted_none rfl, ?_⟩
        have e1 : ac.eval (.tmp 5) = .pointer (some ⟨w.heap.size, 0, none⟩) := hf 5 (by kernel_rfl)
        exact opG_val (by revert e1; generalize ac.eval = ρ; intro e1; simp [go_sem, execOp, e1]) rfl (Chg.refl _)
      · injection ho with ho
        subst ho
        have hcl := ((Ar.chg (w := w2.drew) Z2.out.2.1 hc).cell 5)
        rw [show (lkG h n)[5]? = some (.func (.func 28) #[] #[]) from rfl] at hcl
        refine .inl ⟨wanted_none rfl, ?_⟩
        have e1 : ac.eval (.tmp 20) = .pointer (some ⟨w.heap.size, 5, none⟩) := hg 0 (by kernel_rfl) (by decide)
        exact opG_val (by revert e1; generalize ac.eval = ρ; intro e1; simp [go_sem, execOp, e1, hcl]) rfl (Chg.refl _)
      · injection ho with ho
        subst ho
        refine .inl ⟨wanted_none rfl, ?_⟩
        have e1 : ac.eval (.tmp 5) = .pointer (some ⟨w.heap.size, 0, none⟩) := hf 5 (by kernel_rfl)
        exact opG_val (by revert e1; generalize ac.eval = ρ; intro e1; simp [go_sem, execOp, e1]) rfl (Chg.refl _)
      · injection ho with ho
        subst ho
        have hcl := ((Ar.chg (w := w2.drew) Z2.out.2.1 hc).cell 3)
        rw [show (lkG h n)[3]? = some (.func (.func 26) #[] #[]) from rfl] at hcl
        refine .inl ⟨wanted_none rfl, ?_⟩
        have e1 : ac.eval (.tmp 22) = .pointer (some ⟨w.heap.size, 3, none⟩) := hg 2 (by kernel_rfl) (by decide)
        exact opG_val (by revert e1; generalize ac.eval = ρ; intro e1; simp [go_sem, execOp, e1, hcl]) rfl (Chg.refl _)
      · injection ho with ho
        subst ho
        refine .inl ⟨wanted_none rfl, ?_⟩
        have e1 : ac.eval (.tmp 1) = .slice ao L cap := hf 1 (by kernel_rfl)
        exact opG_val (by simp [execOp, e1]) rfl (Chg.refl _)
      · injection ho with ho
        subst ho
        refine .inl ⟨wanted_none rfl, ?_⟩
        have e0 : ac.eval (.tmp 23) = .func (.func 26) #[] #[] := hg 3 (by kernel_rfl) (by decide)
        have e1 : ac.eval (.tmp 24) = .slice ao L cap := hg 4 (by kernel_rfl) (by decide)
        refine opG_dyn 26 Tryz.f26 (.tmp 23) #[.tmp 24] #[24] rfl e0 Tryz.func26 (by kernel_rfl) (by kernel_rfl) (by simp [e1]) (Calls.mono (same1_any (.slice ao L cap) _) ?_)
        rintro r u2 ⟨rfl, hw⟩
        rw [hw]
        exact ⟨_, rfl, rfl, Chg.refl _⟩
      · injection ho with ho
        subst ho
        refine .inl ⟨wanted_none rfl, ?_⟩
        have e1 : ac.eval (.tmp 7) = .pointer (some ⟨w.heap.size + 1, 0, none⟩) := hf 7 (by kernel_rfl)
        exact wp_load_mid 25 (.tmp 7) rfl _ _ e1 ((ba 12 nc).toList) _ (range12S (Ar.chg (w := w2.drew) Z2.out.2.2 hc)) und38 rfl (info12S _) ⟨_, rfl, rfl, Chg.refl _⟩
      · injection ho with ho
        subst ho
        refine .inl ⟨wanted_none rfl, ?_⟩
        have e1 : ac.eval (.tmp 3) = va := hf 3 (by kernel_rfl)
        exact opG_val (by simp [execOp, e1]) rfl (Chg.refl _)
      · injection ho with ho
        subst ho
        refine .inl ⟨wanted_none rfl, ?_⟩
        have e1 : ac.eval (.tmp 4) = vx := hf 4 (by kernel_rfl)
        exact opG_val (by simp [execOp, e1]) rfl (Chg.refl _)
      · injection ho with ho
        subst ho
        refine .inl ⟨wanted_none rfl, ?_⟩
        have e0 : ac.eval (.tmp 21) = .func (.func 28) #[] #[] := hg 1 (by kernel_rfl) (by decide)
        have e1 : ac.eval (.tmp 25) = .slice ao L cap := hg 5 (by kernel_rfl) (by decide)
        have e2 : ac.eval (.tmp 26) = .agg (ba 12 nc) := hg 6 (by kernel_rfl) (by decide)
        have e3 : ac.eval (.tmp 27) = va := hg 7 (by kernel_rfl) (by decide)
        have e4 : ac.eval (.tmp 28) = vx := hg 8 (by kernel_rfl) (by decide)
        refine opG_dyn 28 Tryz.f28 (.tmp 21) #[.tmp 25, .tmp 26, .tmp 27, .tmp 28] #[24, 25, 24, 24] rfl e0 Tryz.func28 (by kernel_rfl) (by kernel_rfl) (by simp [e1, e2, e3, e4]) (Calls.mono (HS.out _ (Z2.out.1.drew.trans hc)) ?_)
        rintro r u2 ⟨x, rfl, hx, hw⟩
        exact ⟨_, rfl, ⟨x, rfl, hx⟩, hw⟩
      · injection ho with ho
        subst ho
        refine .inl ⟨wanted_none rfl, ?_⟩
        obtain ⟨x1, e10, hx1⟩ := hg 9 (by kernel_rfl) (by decide)
        have e1 : ac.eval (.tmp 29) = .tuple #[x1, .int .i64 e] := e10
        exact opG_val (by simp [execOp, e1]) ⟨_, rfl, hx1⟩ (Chg.refl _)
      · injection ho with ho
        subst ho
        refine .inl ⟨wanted_none rfl, ?_⟩
        obtain ⟨x0, e10, hx0⟩ := hg 10 (by kernel_rfl) (by decide)
        have e1 : ac.eval (.tmp 19) = .tuple #[x0, .int .i64 e] := e10
        exact opG_val (by revert e1; generalize ac.eval = ρ; intro e1; simp [go_sem, execOp, e1]) ⟨_, rfl, hx0⟩ (Chg.refl _)
      · injection ho with ho
        subst ho
        refine .inl ⟨wanted_none rfl, ?_⟩
        obtain ⟨x0, e10, hx0⟩ := hg 10 (by kernel_rfl) (by decide)
        have e1 : ac.eval (.tmp 19) = .tuple #[x0, .int .i64 e] := e10
        exact opG_val (by revert e1; generalize ac.eval = ρ; intro e1; simp [go_sem, execOp, e1]) rfl (Chg.refl _)
      · injection ho with ho
        subst ho
        refine .inl ⟨wanted_none rfl, ?_⟩
        obtain ⟨x2, e10, hx2⟩ := hg 11 (by kernel_rfl) (by decide)
        have e1 : ac.eval (.tmp 30) = x2 := e10
        exact opG_val (by simp [execOp, e1]) ⟨_, rfl, hx2⟩ (Chg.refl _)
    · intro o u V ho hV hc
      injection ho with ho
      subst ho
      refine ⟨rfl, ?_⟩
      have q20 : V 0 = .pointer (some ⟨w.heap.size, 5, none⟩) := hV 0 (by decide)
      have q21 : V 1 = .func (.func 28) #[] #[] := hV 1 (by decide)
      have q22 : V 2 = .pointer (some ⟨w.heap.size, 3, none⟩) := hV 2 (by decide)
      have q23 : V 3 = .func (.func 26) #[] #[] := hV 3 (by decide)
      have q24 : V 4 = .slice ao L cap := hV 4 (by decide)
      have q25 : V 5 = .slice ao L cap := hV 5 (by decide)
      have q26 : V 6 = .agg (ba 12 nc) := hV 6 (by decide)
      have q27 : V 7 = va := hV 7 (by decide)
      have q28 : V 8 = vx := hV 8 (by decide)
      obtain ⟨x1, q29, hx1⟩ := hV 9 (by decide)
      obtain ⟨x0, q19, hx0⟩ := hV 10 (by decide)
      obtain ⟨x2, q30, hx2⟩ := hV 11 (by decide)
      have q31 : V 12 = .int .i64 e := hV 12 (by decide)
      obtain ⟨x3, q12, hx3⟩ := hV 13 (by decide)
      refine op_asg (.tmp 31) (.int .i64 e) rfl (Eq.trans (by rfl) q31) ?_
      go_wp2_with fail
      go_meet
      refine ⟨rfl, ?_, (Chg.refl w2).drew.trans hc⟩
      subst q12
      exact hx3
  case rest =>
    obtain ⟨rfl, h1, h2⟩ := hcut
    have ZP : Hid (P u12 wc ∧ Chg w wc) := ⟨h1, Z2.out.1.trans h2⟩
    clear h1 h2
    rcases HQ.out with ⟨he, he', hp⟩ | ⟨he, he', hp⟩
    · subst he he'
      clear HQ
      go_wp2_with fail
      go_ret2
      exact ⟨_, rfl, hp _ _ ZP.out.1, ZP.out.2⟩
    · have hne : (e != 0) = true := by simp [he]
      subst he'
      clear HQ he
      go_wp2_with fail
      go_ret2
      exact ⟨_, rfl, hp _, ZP.out.2⟩

set_option maxRecDepth 100000 in
set_option maxHeartbeats 8000000 in
theorem sealC_fwd (ao : Option Addr) (L cap : Nat) (key : Nat → By) (nc : Nat → By) (va vx : Value) (w : World) (P : Value → World → Prop) (hP : ∀ v u u', P v u → Chg u u' → P v u') (e : Int) (hL : L = 32)
    (HK : ∀ u, Chg w u → Calls Tryz.prog 29 #[.slice ao L cap] u fun r w' => r = .returned (.agg (ba 32 key)) ∧ Chg u w')
    (HS : ∀ u, Chg w u → Calls Tryz.prog 30 #[.agg (ba 32 key), .agg (ba 12 nc), va, vx] u fun r w' => ∃ v, r = .returned (.tuple #[v, .int .i64 e]) ∧ P v w' ∧ Chg u w') :
    Calls Tryz.prog 125 #[.agg (lkC), .slice ao L cap, .agg (ba 12 nc), va, vx] w fun r w' => ∃ v, r = .returned (.tuple #[v, .int .i64 e]) ∧ P v w' ∧ Chg w w' := by
  have HS : Hid (∀ u, Chg w u → Calls Tryz.prog 30 #[.agg (ba 32 key), .agg (ba 12 nc), va, vx] u fun r w' => ∃ v, r = .returned (.tuple #[v, .int .i64 e]) ∧ P v w' ∧ Chg u w') := HS
  have HK : Hid (∀ u, Chg w u → Calls Tryz.prog 29 #[.slice ao L cap] u fun r w' => r = .returned (.agg (ba 32 key)) ∧ Chg u w') := HK
  have hd : ((L : Int) != 32) = false := by simp [hL]
  clear hL
  have hsA := ba_size 12 nc
  obtain ⟨A, hA⟩ : ∃ A, A = ba 12 nc := ⟨_, rfl⟩
  have HA : Hid (A = ba 12 nc) := hA
  rw [← hA] at hsA ⊢
  obtain ⟨F, hF⟩ : ∃ F, F = lkC := ⟨_, rfl⟩
  have HF : Hid (F = lkC) := hF
  have hsF : F.size = 6 := by rw [hF]; rfl
  rw [← hF]
  clear hF hA
  go_enter Tryz.func125, Tryz.ntmps125
  go_upto_region 1 with fail
  obtain ⟨w2, hw2⟩ : ∃ w2, w2 = (w.alloc (.cells F 51)).alloc (.cells A 25) := ⟨_, rfl⟩
  have Z2 : Hid (Chg w w2 ∧ Ar w2 w.heap.size (lkC) ∧ Ar w2 (w.heap.size + 1) (ba 12 nc)) := by
    rw [hw2, HF.out, HA.out]
    exact ⟨((Chg.refl w).alloc _).alloc _, (Ar.new w _ _).alloc _, Ar.new1 w _ _ _⟩
  rw [← hw2]
  have c1 : w2.cell? ⟨w.heap.size, 1, none⟩ = some (.int .i64 32) := Z2.out.2.1.cell 1
  clear hw2 hsF hsA HF HA
  go_upto_region 3 with fail
  clear c1
  refine wp_region_good 13 (fun j v wg => match j with
    | 0 => v = .pointer (some ⟨w.heap.size, 4, none⟩)
    | 1 => v = .func (.func 30) #[] #[]
    | 2 => v = .pointer (some ⟨w.heap.size, 3, none⟩)
    | 3 => v = .func (.func 29) #[] #[]
    | 4 => v = .slice ao L cap
    | 5 => v = .agg (ba 32 key)
    | 6 => v = .agg (ba 12 nc)
    | 7 => v = va
    | 8 => v = vx
    | 9 => ∃ x1, v = .tuple #[x1, .int .i64 e] ∧ P x1 wg
    | 10 => ∃ x2, v = x2 ∧ P x2 wg
    | 11 => v = .int .i64 e
    | 12 => ∃ x3, v = x3 ∧ P x3 wg
    | _ => True) (by kernel_rfl) (by kernel_rfl) (by kernel_rfl) (by kernel_rfl) (by kernel_rfl) ?_ ?_ ?_
  · intro j v u1 u2 h hc
    match j, h with
    | 0, h => exact h
    | 1, h => exact h
    | 2, h => exact h
    | 3, h => exact h
    | 4, h => exact h
    | 5, h => exact h
    | 6, h => exact h
    | 7, h => exact h
    | 8, h => exact h
    | 9, h => (obtain ⟨x1, h1, h2⟩ := h; exact ⟨x1, h1, hP _ _ _ h2 hc⟩)
    | 10, h => (obtain ⟨x2, h1, h2⟩ := h; exact ⟨x2, h1, hP _ _ _ h2 hc⟩)
    | 11, h => exact h
    | 12, h => (obtain ⟨x3, h1, h2⟩ := h; exact ⟨x3, h1, hP _ _ _ h2 hc⟩)
    | _ + 13, h => exact trivial
  · intro i o ac u hi ho hsz hf hg hc
    have hcs : i = 0 ∨ i = 1 ∨ i = 2 ∨ i = 3 ∨ i = 4 ∨ i = 5 ∨ i = 6 ∨ i = 7 ∨ i = 8 ∨ i = 9 ∨ i = 10 ∨ i = 11 ∨ i = 12 := by omega
    rcases hcs with rfl | rfl | rfl | rfl | rfl | rfl | rfl | rfl | rfl | rfl | rfl | rfl | rfl
    · injection ho with ho
      subst ho
      refine .inl ⟨wanted_none rfl, ?_⟩
      have e1 : ac.eval (.tmp 5) = .pointer (some ⟨w.heap.size, 0, none⟩) := hf 5 (by kernel_rfl)
      exact opG_val (by revert e1; generalize ac.eval = ρ; intro e1; simp [go_sem, execOp, e1]) rfl (Chg.refl _)
    · injection ho with ho
      subst ho
      have hcl := ((Ar.chg (w := w2.drew) Z2.out.2.1 hc).cell 4)
      rw [show (lkC)[4]? = some (.func (.func 30) #[] #[]) from rfl] at hcl
      refine .inl ⟨wanted_none rfl, ?_⟩
      have e1 : ac.eval (.tmp 17) = .pointer (some ⟨w.heap.size, 4, none⟩) := hg 0 (by kernel_rfl) (by decide)
      exact opG_val (by revert e1; generalize ac.eval = ρ; intro e1; simp [go_sem, execOp, e1, hcl]) rfl (Chg.refl _)
    · injection ho with ho
      subst ho
      refine .inl ⟨wanted_none rfl, ?_⟩
      have e1 : ac.eval (.tmp 5) = .pointer (some ⟨w.heap.size, 0, none⟩) := hf 5 (by kernel_rfl)
      exact opG_val (by revert e1; generalize ac.eval = ρ; intro e1; simp [go_sem, execOp, e1]) rfl (Chg.refl _)
    · injection ho with ho
      subst ho
      have hcl := ((Ar.chg (w := w2.drew) Z2.out.2.1 hc).cell 3)
      rw [show (lkC)[3]? = some (.func (.func 29) #[] #[]) from rfl] at hcl
      refine .inl ⟨wanted_none rfl, ?_⟩
      have e1 : ac.eval (.tmp 19) = .pointer (some ⟨w.heap.size, 3, none⟩) := hg 2 (by kernel_rfl) (by decide)
      exact opG_val (by revert e1; generalize ac.eval = ρ; intro e1; simp [go_sem, execOp, e1, hcl]) rfl (Chg.refl _)
    · injection ho with ho
      subst ho
      refine .inl ⟨wanted_none rfl, ?_⟩
      have e1 : ac.eval (.tmp 1) = .slice ao L cap := hf 1 (by kernel_rfl)
      exact opG_val (by simp [execOp, e1]) rfl (Chg.refl _)
    · injection ho with ho
      subst ho
      refine .inl ⟨wanted_none rfl, ?_⟩
      have e0 : ac.eval (.tmp 20) = .func (.func 29) #[] #[] := hg 3 (by kernel_rfl) (by decide)
      have e1 : ac.eval (.tmp 21) = .slice ao L cap := hg 4 (by kernel_rfl) (by decide)
      refine opG_dyn 29 Tryz.f29 (.tmp 20) #[.tmp 21] #[24] rfl e0 Tryz.func29 (by kernel_rfl) (by kernel_rfl) (by simp [e1]) (Calls.mono (HK.out _ (Z2.out.1.drew.trans hc)) ?_)
      rintro r u2 ⟨rfl, hw⟩
      exact ⟨_, rfl, rfl, hw⟩
    · injection ho with ho
      subst ho
      refine .inl ⟨wanted_none rfl, ?_⟩
      have e1 : ac.eval (.tmp 7) = .pointer (some ⟨w.heap.size + 1, 0, none⟩) := hf 7 (by kernel_rfl)
      exact wp_load_mid 25 (.tmp 7) rfl _ _ e1 ((ba 12 nc).toList) _ (range12S (Ar.chg (w := w2.drew) Z2.out.2.2 hc)) und38 rfl (info12S _) ⟨_, rfl, rfl, Chg.refl _⟩
    · injection ho with ho
      subst ho
      refine .inl ⟨wanted_none rfl, ?_⟩
      have e1 : ac.eval (.tmp 3) = va := hf 3 (by kernel_rfl)
      exact opG_val (by simp [execOp, e1]) rfl (Chg.refl _)
    · injection ho with ho
      subst ho
      refine .inl ⟨wanted_none rfl, ?_⟩
      have e1 : ac.eval (.tmp 4) = vx := hf 4 (by kernel_rfl)
      exact opG_val (by simp [execOp, e1]) rfl (Chg.refl _)
    · injection ho with ho
      subst ho
      refine .inl ⟨wanted_none rfl, ?_⟩
      have e0 : ac.eval (.tmp 18) = .func (.func 30) #[] #[] := hg 1 (by kernel_rfl) (by decide)
      have e1 : ac.eval (.tmp 22) = .agg (ba 32 key) := hg 5 (by kernel_rfl) (by decide)
      have e2 : ac.eval (.tmp 23) = .agg (ba 12 nc) := hg 6 (by kernel_rfl) (by decide)
      have e3 : ac.eval (.tmp 24) = va := hg 7 (by kernel_rfl) (by decide)
      have e4 : ac.eval (.tmp 25) = vx := hg 8 (by kernel_rfl) (by decide)
      refine opG_dyn 30 Tryz.f30 (.tmp 18) #[.tmp 22, .tmp 23, .tmp 24, .tmp 25] #[40, 25, 24, 24] rfl e0 Tryz.func30 (by kernel_rfl) (by kernel_rfl) (by simp [e1, e2, e3, e4]) (Calls.mono (HS.out _ (Z2.out.1.drew.trans hc)) ?_)
      rintro r u2 ⟨x, rfl, hx, hw⟩
      exact ⟨_, rfl, ⟨x, rfl, hx⟩, hw⟩
    · injection ho with ho
      subst ho
      refine .inl ⟨wanted_none rfl, ?_⟩
      obtain ⟨x1, e10, hx1⟩ := hg 9 (by kernel_rfl) (by decide)
      have e1 : ac.eval (.tmp 26) = .tuple #[x1, .int .i64 e] := e10
      exact opG_val (by revert e1; generalize ac.eval = ρ; intro e1; simp [go_sem, execOp, e1]) ⟨_, rfl, hx1⟩ (Chg.refl _)
    · injection ho with ho
      subst ho
      refine .inl ⟨wanted_none rfl, ?_⟩
      obtain ⟨x1, e10, hx1⟩ := hg 9 (by kernel_rfl) (by decide)
      have e1 : ac.eval (.tmp 26) = .tuple #[x1, .int .i64 e] := e10
      exact opG_val (by revert e1; generalize ac.eval = ρ; intro e1; simp [go_sem, execOp, e1]) rfl (Chg.refl _)
    · injection ho with ho
      subst ho
      refine .inl ⟨wanted_none rfl, ?_⟩
      obtain ⟨x2, e10, hx2⟩ := hg 10 (by kernel_rfl) (by decide)
      have e1 : ac.eval (.tmp 27) = x2 := e10
      exact opG_val (by simp [execOp, e1]) ⟨_, rfl, hx2⟩ (Chg.refl _)
  · intro o u V ho hV hc
    injection ho with ho
    subst ho
    refine ⟨rfl, ?_⟩
    have q17 : V 0 = .pointer (some ⟨w.heap.size, 4, none⟩) := hV 0 (by decide)
    have q18 : V 1 = .func (.func 30) #[] #[] := hV 1 (by decide)
    have q19 : V 2 = .pointer (some ⟨w.heap.size, 3, none⟩) := hV 2 (by decide)
    have q20 : V 3 = .func (.func 29) #[] #[] := hV 3 (by decide)
    have q21 : V 4 = .slice ao L cap := hV 4 (by decide)
    have q22 : V 5 = .agg (ba 32 key) := hV 5 (by decide)
    have q23 : V 6 = .agg (ba 12 nc) := hV 6 (by decide)
    have q24 : V 7 = va := hV 7 (by decide)
    have q25 : V 8 = vx := hV 8 (by decide)
    obtain ⟨x1, q26, hx1⟩ := hV 9 (by decide)
    obtain ⟨x2, q27, hx2⟩ := hV 10 (by decide)
    have q28 : V 11 = .int .i64 e := hV 11 (by decide)
    obtain ⟨x3, q10, hx3⟩ := hV 12 (by decide)
    refine op_asg (.tmp 28) (.int .i64 e) rfl (Eq.trans (by rfl) q28) ?_
    go_wp2_with fail
    exact bp_ttS Tryz.results125 rfl (Eq.trans (by rfl) q10) (by rfl) ⟨_, rfl, hx3, Z2.out.1.drew.trans hc⟩
set_option maxRecDepth 100000 in
set_option maxHeartbeats 8000000 in
theorem openC_fwd (ao : Option Addr) (L cap : Nat) (key : Nat → By) (nc : Nat → By) (va vx : Value) (w : World) (P : Value → World → Prop) (hP : ∀ v u u', P v u → Chg u u' → P v u') (e : Int) (hL : L = 32)
    (HK : ∀ u, Chg w u → Calls Tryz.prog 29 #[.slice ao L cap] u fun r w' => r = .returned (.agg (ba 32 key)) ∧ Chg u w')
    (e2 : Int) (P2 : Value → World → Prop) (HQ : (e = 0 ∧ e2 = 0 ∧ ∀ v u, P v u → P2 v u) ∨ (e ≠ 0 ∧ e2 = 103 ∧ ∀ u, P2 (.slice none 0 0) u))
    (HS : ∀ u, Chg w u → Calls Tryz.prog 31 #[.agg (ba 32 key), .agg (ba 12 nc), va, vx] u fun r w' => ∃ v, r = .returned (.tuple #[v, .int .i64 e]) ∧ P v w' ∧ Chg u w') :
    Calls Tryz.prog 124 #[.agg (lkC), .slice ao L cap, .agg (ba 12 nc), va, vx] w fun r w' => ∃ v, r = .returned (.tuple #[v, .int .i64 e2]) ∧ P2 v w' ∧ Chg w w' := by
  have HS : Hid (∀ u, Chg w u → Calls Tryz.prog 31 #[.agg (ba 32 key), .agg (ba 12 nc), va, vx] u fun r w' => ∃ v, r = .returned (.tuple #[v, .int .i64 e]) ∧ P v w' ∧ Chg u w') := HS
  have HK : Hid (∀ u, Chg w u → Calls Tryz.prog 29 #[.slice ao L cap] u fun r w' => r = .returned (.agg (ba 32 key)) ∧ Chg u w') := HK
  have HQ : Hid ((e = 0 ∧ e2 = 0 ∧ ∀ v u, P v u → P2 v u) ∨ (e ≠ 0 ∧ e2 = 103 ∧ ∀ u, P2 (.slice none 0 0) u)) := HQ
  have hd : ((L : Int) != 32) = false := by simp [hL]
  clear hL
  have hsA := ba_size 12 nc
  obtain ⟨A, hA⟩ : ∃ A, A = ba 12 nc := ⟨_, rfl⟩
  have HA : Hid (A = ba 12 nc) := hA
  rw [← hA] at hsA ⊢
  obtain ⟨F, hF⟩ : ∃ F, F = lkC := ⟨_, rfl⟩
  have HF : Hid (F = lkC) := hF
  have hsF : F.size = 6 := by rw [hF]; rfl
  rw [← hF]
  clear hF hA
  go_enter Tryz.func124, Tryz.ntmps124
  go_upto_region 1 with fail
  obtain ⟨w2, hw2⟩ : ∃ w2, w2 = (w.alloc (.cells F 51)).alloc (.cells A 25) := ⟨_, rfl⟩
  have Z2 : Hid (Chg w w2 ∧ Ar w2 w.heap.size (lkC) ∧ Ar w2 (w.heap.size + 1) (ba 12 nc)) := by
    rw [hw2, HF.out, HA.out]
    exact ⟨((Chg.refl w).alloc _).alloc _, (Ar.new w _ _).alloc _, Ar.new1 w _ _ _⟩
  rw [← hw2]
  have c1 : w2.cell? ⟨w.heap.size, 1, none⟩ = some (.int .i64 32) := Z2.out.2.1.cell 1
  clear hw2 hsF hsA HF HA
  go_upto_region 3 with fail
  clear c1
  go_cut [12, 13] from 19 to 32 (fun v v13 wc => v13 = .int .i64 e ∧ P v wc ∧ Chg w2 wc)
  case first =>
    refine wp_region_goodC 14 (fun j v wg => match j with
      | 0 => v = .pointer (some ⟨w.heap.size, 5, none⟩)
      | 1 => v = .func (.func 31) #[] #[]
      | 2 => v = .pointer (some ⟨w.heap.size, 3, none⟩)
      | 3 => v = .func (.func 29) #[] #[]
      | 4 => v = .slice ao L cap
      | 5 => v = .agg (ba 32 key)
      | 6 => v = .agg (ba 12 nc)
      | 7 => v = va
      | 8 => v = vx
      | 9 => ∃ x1, v = .tuple #[x1, .int .i64 e] ∧ P x1 wg
      | 10 => ∃ x0, v = .tuple #[x0, .int .i64 e] ∧ P x0 wg
      | 11 => ∃ x2, v = x2 ∧ P x2 wg
      | 12 => v = .int .i64 e
      | 13 => ∃ x3, v = x3 ∧ P x3 wg
      | _ => True) (by kernel_rfl) (by kernel_rfl) (by kernel_rfl) (by kernel_rfl) (by kernel_rfl) ?_ ?_ ?_
    · intro j v u1 u2 h hc
      match j, h with
      | 0, h => exact h
      | 1, h => exact h
      | 2, h => exact h
      | 3, h => exact h
      | 4, h => exact h
      | 5, h => exact h
      | 6, h => exact h
      | 7, h => exact h
      | 8, h => exact h
      | 9, h => (obtain ⟨x1, h1, h2⟩ := h; exact ⟨x1, h1, hP _ _ _ h2 hc⟩)
      | 10, h => (obtain ⟨x0, h1, h2⟩ := h; exact ⟨x0, h1, hP _ _ _ h2 hc⟩)
      | 11, h => (obtain ⟨x2, h1, h2⟩ := h; exact ⟨x2, h1, hP _ _ _ h2 hc⟩)
      | 12, h => exact h
      | 13, h => (obtain ⟨x3, h1, h2⟩ := h; exact ⟨x3, h1, hP _ _ _ h2 hc⟩)
      | _ + 14, h => exact trivial
    · intro i o ac u hi ho hsz hf hg hc
      have hcs : i = 0 ∨ i = 1 ∨ i = 2 ∨ i = 3 ∨ i = 4 ∨ i = 5 ∨ i = 6 ∨ i = 7 ∨ i = 8 ∨ i = 9 ∨ i = 10 ∨ i = 11 ∨ i = 12 ∨ i = 13 := by omega
      rcases hcs with rfl | rfl | rfl | rfl | rfl | rfl | rfl | rfl | rfl | rfl | rfl | rfl | rfl | rfl
      · injection ho with ho
        subst ho
        refine .inl ⟨wanted_none rfl, ?_⟩
        have e1 : ac.eval (.tmp 5) = .pointer (some ⟨w.heap.size, 0, none⟩) := hf 5 (by kernel_rfl)
        exact opG_val (by revert e1; generalize ac.eval = ρ; intro e1; simp [go_sem, execOp, e1]) rfl (Chg.refl _)
      · injection ho with ho
        subst ho
        have hcl := ((Ar.chg (w := w2.drew) Z2.out.2.1 hc).cell 5)
        rw [show (lkC)[5]? = some (.func (.func 31) #[] #[]) from rfl] at hcl
        refine .inl ⟨wanted_none rfl, ?_⟩
        have e1 : ac.eval (.tmp 20) = .pointer (some ⟨w.heap.size, 5, none⟩) := hg 0 (by kernel_rfl) (by decide)
        exact opG_val (by revert e1; generalize ac.eval = ρ; intro e1; simp [go_sem, execOp, e1, hcl]) rfl (Chg.refl _)
      · injection ho with ho
        subst ho
        refine .inl ⟨wanted_none rfl, ?_⟩
        have e1 : ac.eval (.tmp 5) = .pointer (some ⟨w.heap.size, 0, none⟩) := hf 5 (by kernel_rfl)
        exact opG_val (by revert e1; generalize ac.eval = ρ; intro e1; simp [go_sem, execOp, e1]) rfl (Chg.refl _)
      · injection ho with ho
        subst ho
        have hcl := ((Ar.chg (w := w2.drew) Z2.out.2.1 hc).cell 3)
        rw [show (lkC)[3]? = some (.func (.func 29) #[] #[]) from rfl] at hcl
        refine .inl ⟨wanted_none rfl, ?_⟩
        have e1 : ac.eval (.tmp 22) = .pointer (some ⟨w.heap.size, 3, none⟩) := hg 2 (by kernel_rfl) (by decide)
        exact opG_val (by revert e1; generalize ac.eval = ρ; intro e1; simp [go_sem, execOp, e1, hcl]) rfl (Chg.refl _)
      · injection ho with ho
        subst ho
        refine .inl ⟨wanted_none rfl, ?_⟩
        have e1 : ac.eval (.tmp 1) = .slice ao L cap := hf 1 (by kernel_rfl)
        exact opG_val (by simp [execOp, e1]) rfl (Chg.refl _)
      · injection ho with ho
        subst ho
        refine .inl ⟨wanted_none rfl, ?_⟩
        have e0 : ac.eval (.tmp 23) = .func (.func 29) #[] #[] := hg 3 (by kernel_rfl) (by decide)
        have e1 : ac.eval (.tmp 24) = .slice ao L cap := hg 4 (by kernel_rfl) (by decide)
        refine opG_dyn 29 Tryz.f29 (.tmp 23) #[.tmp 24] #[24] rfl e0 Tryz.func29 (by kernel_rfl) (by kernel_rfl) (by simp [e1]) (Calls.mono (HK.out _ (Z2.out.1.drew.trans hc)) ?_)
        rintro r u2 ⟨rfl, hw⟩
        exact ⟨_, rfl, rfl, hw⟩
      · injection ho with ho
        subst ho
        refine .inl ⟨wanted_none rfl, ?_⟩
        have e1 : ac.eval (.tmp 7) = .pointer (some ⟨w.heap.size + 1, 0, none⟩) := hf 7 (by kernel_rfl)
        exact wp_load_mid 25 (.tmp 7) rfl _ _ e1 ((ba 12 nc).toList) _ (range12S (Ar.chg (w := w2.drew) Z2.out.2.2 hc)) und38 rfl (info12S _) ⟨_, rfl, rfl, Chg.refl _⟩
      · injection ho with ho
        subst ho
        refine .inl ⟨wanted_none rfl, ?_⟩
        have e1 : ac.eval (.tmp 3) = va := hf 3 (by kernel_rfl)
        exact opG_val (by simp [execOp, e1]) rfl (Chg.refl _)
      · injection ho with ho
        subst ho
        refine .inl ⟨wanted_none rfl, ?_⟩
        have e1 : ac.eval (.tmp 4) = vx := hf 4 (by kernel_rfl)
        exact opG_val (by simp [execOp, e1]) rfl (Chg.refl _)
      · injection ho with ho
        subst ho
        refine .inl ⟨wanted_none rfl, ?_⟩
        have e0 : ac.eval (.tmp 21) = .func (.func 31) #[] #[] := hg 1 (by kernel_rfl) (by decide)
        have e1 : ac.eval (.tmp 25) = .agg (ba 32 key) := hg 5 (by kernel_rfl) (by decide)
        have e2 : ac.eval (.tmp 26) = .agg (ba 12 nc) := hg 6 (by kernel_rfl) (by decide)
        have e3 : ac.eval (.tmp 27) = va := hg 7 (by kernel_rfl) (by decide)
        have e4 : ac.eval (.tmp 28) = vx := hg 8 (by kernel_rfl) (by decide)
        refine opG_dyn 31 Tryz.f31 (.tmp 21) #[.tmp 25, .tmp 26, .tmp 27, .tmp 28] #[40, 25, 24, 24] rfl e0 Tryz.func31 (by kernel_rfl) (by kernel_rfl) (by simp [e1, e2, e3, e4]) (Calls.mono (HS.out _ (Z2.out.1.drew.trans hc)) ?_)
        rintro r u2 ⟨x, rfl, hx, hw⟩
        exact ⟨_, rfl, ⟨x, rfl, hx⟩, hw⟩
      · injection ho with ho
        subst ho
        refine .inl ⟨wanted_none rfl, ?_⟩
        obtain ⟨x1, e10, hx1⟩ := hg 9 (by kernel_rfl) (by decide)
        have e1 : ac.eval (.tmp 29) = .tuple #[x1, .int .i64 e] := e10
        exact opG_val (by simp [execOp, e1]) ⟨_, rfl, hx1⟩ (Chg.refl _)
      · injection ho with ho
        subst ho
        refine .inl ⟨wanted_none rfl, ?_⟩
        obtain ⟨x0, e10, hx0⟩ := hg 10 (by kernel_rfl) (by decide)
        have e1 : ac.eval (.tmp 19) = .tuple #[x0, .int .i64 e] := e10
        exact opG_val (by revert e1; generalize ac.eval = ρ; intro e1; simp [go_sem, execOp, e1]) ⟨_, rfl, hx0⟩ (Chg.refl _)
      · injection ho with ho
        subst ho
        refine .inl ⟨wanted_none rfl, ?_⟩
        obtain ⟨x0, e10, hx0⟩ := hg 10 (by kernel_rfl) (by decide)
        have e1 : ac.eval (.tmp 19) = .tuple #[x0, .int .i64 e] := e10
        exact opG_val (by revert e1; generalize ac.eval = ρ; intro e1; simp [go_sem, execOp, e1]) rfl (Chg.refl _)
      · injection ho with ho
        subst ho
        refine .inl ⟨wanted_none rfl, ?_⟩
        obtain ⟨x2, e10, hx2⟩ := hg 11 (by kernel_rfl) (by decide)
        have e1 : ac.eval (.tmp 30) = x2 := e10
        exact opG_val (by simp [execOp, e1]) ⟨_, rfl, hx2⟩ (Chg.refl _)
    · intro o u V ho hV hc
      injection ho with ho
      subst ho
      refine ⟨rfl, ?_⟩
      have q20 : V 0 = .pointer (some ⟨w.heap.size, 5, none⟩) := hV 0 (by decide)
      have q21 : V 1 = .func (.func 31) #[] #[] := hV 1 (by decide)
      have q22 : V 2 = .pointer (some ⟨w.heap.size, 3, none⟩) := hV 2 (by decide)
      have q23 : V 3 = .func (.func 29) #[] #[] := hV 3 (by decide)
      have q24 : V 4 = .slice ao L cap := hV 4 (by decide)
      have q25 : V 5 = .agg (ba 32 key) := hV 5 (by decide)
      have q26 : V 6 = .agg (ba 12 nc) := hV 6 (by decide)
      have q27 : V 7 = va := hV 7 (by decide)
      have q28 : V 8 = vx := hV 8 (by decide)
      obtain ⟨x1, q29, hx1⟩ := hV 9 (by decide)
      obtain ⟨x0, q19, hx0⟩ := hV 10 (by decide)
      obtain ⟨x2, q30, hx2⟩ := hV 11 (by decide)
      have q31 : V 12 = .int .i64 e := hV 12 (by decide)
      obtain ⟨x3, q12, hx3⟩ := hV 13 (by decide)
      refine op_asg (.tmp 31) (.int .i64 e) rfl (Eq.trans (by rfl) q31) ?_
      go_wp2_with fail
      go_meet
      refine ⟨rfl, ?_, (Chg.refl w2).drew.trans hc⟩
      subst q12
      exact hx3
  case rest =>
    obtain ⟨rfl, h1, h2⟩ := hcut
    have ZP : Hid (P u12 wc ∧ Chg w wc) := ⟨h1, Z2.out.1.trans h2⟩
    clear h1 h2
    rcases HQ.out with ⟨he, he', hp⟩ | ⟨he, he', hp⟩
    · subst he he'
      clear HQ
      go_wp2_with fail
      go_ret2
      exact ⟨_, rfl, hp _ _ ZP.out.1, ZP.out.2⟩
    · have hne : (e != 0) = true := by simp [he]
      subst he'
      clear HQ he
      go_wp2_with fail
      go_ret2
      exact ⟨_, rfl, hp _, ZP.out.2⟩

end Go.Proofs.YtobglgddbhddnaaGreat
