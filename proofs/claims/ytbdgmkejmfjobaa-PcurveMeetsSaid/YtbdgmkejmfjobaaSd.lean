/-
  The secret of a number and a point: the program, the document.
-/
import Derived.Test.YtbdgmkejmfjobaaGp
namespace Go.Proofs.Ytbdgmkejmfjobaa
open Go.RowKit
set_option linter.unusedVariables false
set_option maxRecDepth 100000
def shB (d : Int) (z : Bool) (x y : Int) : Nat → Int := if cnt d && tell z x y then tu (dg 256 (xP (mulR d z x y))) else zD
def shE (d : Int) (z : Bool) (x y : Int) : Int := if cnt d then (if tell z x y then 0 else 131) else 132
theorem run_fieldX (z : Bool) (x y : Int) (w : World) : (Instr.field 26 (.agg (pt z x y)) 1).run Try.prog w = .ok (.agg (num x)) w := by
 simp [Instr.field, Sem.run_bind, run_underlying Try.underlying26, go_sem, asAgg, pt_cutX]
theorem bp_yt {fn : Func} {R : Ending → World → Prop} {a : Act} {w : World} {p u b : Nat} {f : Nat → Int} {x : Value} (h : fn.results = #[.cell p 40, .tmp u]) (hd : a.defers = []) (hp : a.tmps.getD p undef = .pointer (some ⟨b, 0, none⟩)) (hx : a.tmps.getD u undef = x) (ha : Ar w b (byt f)) (hR : R (.returned (.tuple #[.agg (byt f), x])) w) : bodyPost Try.prog fn R .ret a w :=
 bp_ct (n := 32) h hd hp hx ha un37 zero37.2 (byt_size _) hR
set_option maxHeartbeats 16000000 in
theorem shQ_1 (d : Int) (z : Bool) (x y : Int) (hd : N256 d) (hx : N256 x) (hy : N256 y) (h1 : cnt d = false) (w : World) : Calls Try.prog 21 #[.agg (num d), .agg (pt z x y)] w fun r w' => r = .returned (.tuple #[.agg (byt zD), .int .i64 132]) ∧ Chg w w' := by
 have HN : Hid (N256 d ∧ N256 x ∧ N256 y) := ⟨hd, hx, hy⟩
 clear hd hx hy
 have H1 : Hid (cnt d = false) := h1
 clear h1
 have hz0 := zero37.1
 have hsA0 := num_size d
 obtain ⟨A0, hA0⟩ : ∃ zz0, zz0 = num d := ⟨_, rfl⟩
 have HA0 : Hid (A0 = num d) := hA0
 have hsA1 := pt_size z x y
 obtain ⟨A1, hA1⟩ : ∃ zz0, zz0 = pt z x y := ⟨_, rfl⟩
 have HA1 : Hid (A1 = pt z x y) := hA1
 rw [← hA0] at hsA0 ⊢
 rw [← hA1] at hsA1 ⊢
 clear hA0 hA1
 go_enter Try.func21, Try.ntmps21
 go_upto_region 1 with fail
 obtain ⟨w1, hw1⟩ : ∃ w1, w1 = ((w.alloc (.cells A0 24)).alloc (.cells A1 26)).alloc (.cells (byt zD) 40) := ⟨_, rfl⟩
 have Z1 : Hid (Chg w w1 ∧ Ar w1 w.heap.size (num d) ∧ Ar w1 (w.heap.size + 1) (pt z x y) ∧ Ar w1 (w.heap.size + 1 + 1) (byt zD)) := by
  have hnew0 := Ar.new w (num d) 24
  have hnew1 := Ar.new (w.alloc (.cells (num d) 24)) (pt z x y) 26
  rw [World.size_alloc] at hnew1
  have hnew2 := Ar.new ((w.alloc (.cells (num d) 24)).alloc (.cells (pt z x y) 26)) (byt zD) 40
  rw [World.size_alloc, World.size_alloc] at hnew2
  rw [hw1, HA0.out, HA1.out]
  exact ⟨((((Chg.refl w).alloc _).alloc _).alloc _), (((hnew0).alloc _).alloc _), ((hnew1).alloc _), (hnew2)⟩
 rw [← hw1]
 clear hw1 hz0 hsA0 hsA1 HA0 HA1
 go_cut [8] from 6 to 8 (fun v8 wc => v8 = .bool true ∧ Chg w wc ∧ Ar wc (w.heap.size + 1 + 1) (byt zD))
 case first =>
  refine regP 3 (fun j v wg => match j with
   | 0 => v = .agg (num d)
   | 1 => v = .bool false
   | 2 => v = .bool true
   | _ => True) (by decide) (by kernel_rfl) ?_ ?_ ?_
  ·intro j v u1 u2 h hc; exact h
  ·intro i o ac u hi ho hsz hf hg hc
   have hcs : i = 0 ∨ i = 1 ∨ i = 2 := by omega
   rcases hcs with rfl | rfl | rfl <;> (injection ho with ho; subst ho; refine .inl ⟨wanted_none rfl, ?_⟩)
   ·exact ldN rfl (hf 2 (by kernel_rfl)) (rangeAp (Z1.out.2.1.chg hc)) rfl
   ·have e1 : ac.eval (.tmp 6) = .agg (num d) := hg 0 (by decide) (by decide)
    refine opG_go 45 Try.f45 #[.tmp 6] #[24] rfl Try.func45 (by kernel_rfl) (by kernel_rfl) (by simp [e1]) (Calls.mono (cntQ_any HN.out.1 H1.out _) ?_)
    rintro r u2 ⟨rfl, hc2⟩
    exact ⟨_, rfl, rfl, hc2⟩
   ·have e1 : ac.eval (.tmp 7) = .bool false := hg 1 (by decide) (by decide)
    exact opG_val (by revert e1; generalize ac.eval = ρ; intro e1; simp [go_sem, execOp, e1]) rfl (Chg.refl _)
  ·intro u V hV hc
   have q8 : V 2 = .bool true := hV 2 (by decide)
   go_wp2_with fail
   go_meet
   exact ⟨q8, (Z1.out.1.trans hc), (Z1.out.2.2.2.chg hc)⟩
 obtain ⟨rfl, hz⟩ := hcut
 obtain ⟨w2, hw2⟩ : ∃ zz0, zz0 = wc := ⟨_, rfl⟩
 rw [← hw2] at hz ⊢
 have Z2 : Hid _ := hz
 clear hw2 hz Z1
 go_upto_region 2 with fail
 go_cut [5] from 5 to 9 (fun v5 wc => v5 = .int .i64 132 ∧ Chg w wc ∧ Ar wc (w.heap.size + 1 + 1) (byt zD))
 case first =>
  refine regP 1 (fun j v wg => match j with
   | 0 => v = .agg (byt zD)
   | _ => True) (by decide) (by kernel_rfl) ?_ ?_ ?_
  ·intro j v u1 u2 h hc; exact h
  ·intro i o ac u hi ho hsz hf hg hc
   have hcs : i = 0 := by omega
   rcases hcs with rfl <;> (injection ho with ho; subst ho; refine .inl ⟨wanted_none rfl, ?_⟩)
   ·exact opG_built _ [] rfl (by kernel_rfl) (by kernel_rfl) rfl
  ·intro u V hV hc
   have q9 : V 0 = .agg (byt zD) := hV 0 (by decide)
   have hres0 := (Z2.out.2.chg hc)
   refine wpList_store_mid rfl 40 (.tmp 4) (.tmp 9) rfl (w.heap.size + 1 + 1) 0 (byt zD) (by rfl) (Eq.trans (by rfl) q9) (by rw [byt_size]; exact thereY hres0) (szY _) (oneY _) ?_
   rw [setRowY hres0 _]
   have k0_c : Chg w (u.setRow (w.heap.size + 1 + 1) (byt zD)) := ((Z2.out.1.trans hc).setRow (by omega) _)
   have k0_B4 := hres0.row (byt zD)
   generalize (u.setRow (w.heap.size + 1 + 1) (byt zD)) = u10 at k0_c k0_B4 ⊢
   go_wp2_with fail
   go_meet
   exact ⟨rfl, k0_c, k0_B4⟩
 obtain ⟨rfl, hz⟩ := hcut
 obtain ⟨w3, hw3⟩ : ∃ zz0, zz0 = wc := ⟨_, rfl⟩
 rw [← hw3] at hz ⊢
 have Z3 : Hid _ := hz
 clear hw3 hz Z2
 go_wp2_with fail
 exact bp_yt Try.results21 rfl rfl rfl Z3.out.2 ⟨rfl, Z3.out.1⟩
set_option maxHeartbeats 16000000 in
theorem shQ_2 (d : Int) (z : Bool) (x y : Int) (hd : N256 d) (hx : N256 x) (hy : N256 y) (h1 : cnt d = true) (h2 : tell z x y = false) (w : World) : Calls Try.prog 21 #[.agg (num d), .agg (pt z x y)] w fun r w' => r = .returned (.tuple #[.agg (byt zD), .int .i64 131]) ∧ Chg w w' := by
 have HN : Hid (N256 d ∧ N256 x ∧ N256 y) := ⟨hd, hx, hy⟩
 clear hd hx hy
 have H1 : Hid (cnt d = true) := h1
 clear h1
 have H2 : Hid (tell z x y = false) := h2
 clear h2
 have hz0 := zero37.1
 have hsA0 := num_size d
 obtain ⟨A0, hA0⟩ : ∃ zz0, zz0 = num d := ⟨_, rfl⟩
 have HA0 : Hid (A0 = num d) := hA0
 have hsA1 := pt_size z x y
 obtain ⟨A1, hA1⟩ : ∃ zz0, zz0 = pt z x y := ⟨_, rfl⟩
 have HA1 : Hid (A1 = pt z x y) := hA1
 rw [← hA0] at hsA0 ⊢
 rw [← hA1] at hsA1 ⊢
 clear hA0 hA1
 go_enter Try.func21, Try.ntmps21
 go_upto_region 1 with fail
 obtain ⟨w1, hw1⟩ : ∃ w1, w1 = ((w.alloc (.cells A0 24)).alloc (.cells A1 26)).alloc (.cells (byt zD) 40) := ⟨_, rfl⟩
 have Z1 : Hid (Chg w w1 ∧ Ar w1 w.heap.size (num d) ∧ Ar w1 (w.heap.size + 1) (pt z x y) ∧ Ar w1 (w.heap.size + 1 + 1) (byt zD)) := by
  have hnew0 := Ar.new w (num d) 24
  have hnew1 := Ar.new (w.alloc (.cells (num d) 24)) (pt z x y) 26
  rw [World.size_alloc] at hnew1
  have hnew2 := Ar.new ((w.alloc (.cells (num d) 24)).alloc (.cells (pt z x y) 26)) (byt zD) 40
  rw [World.size_alloc, World.size_alloc] at hnew2
  rw [hw1, HA0.out, HA1.out]
  exact ⟨((((Chg.refl w).alloc _).alloc _).alloc _), (((hnew0).alloc _).alloc _), ((hnew1).alloc _), (hnew2)⟩
 rw [← hw1]
 clear hw1 hz0 hsA0 hsA1 HA0 HA1
 go_cut [8] from 6 to 8 (fun v8 wc => v8 = .bool false ∧ Chg w wc ∧ Ar wc (w.heap.size + 1) (pt z x y) ∧ Ar wc (w.heap.size + 1 + 1) (byt zD))
 case first =>
  refine regP 3 (fun j v wg => match j with
   | 0 => v = .agg (num d)
   | 1 => v = .bool true
   | 2 => v = .bool false
   | _ => True) (by decide) (by kernel_rfl) ?_ ?_ ?_
  ·intro j v u1 u2 h hc; exact h
  ·intro i o ac u hi ho hsz hf hg hc
   have hcs : i = 0 ∨ i = 1 ∨ i = 2 := by omega
   rcases hcs with rfl | rfl | rfl <;> (injection ho with ho; subst ho; refine .inl ⟨wanted_none rfl, ?_⟩)
   ·exact ldN rfl (hf 2 (by kernel_rfl)) (rangeAp (Z1.out.2.1.chg hc)) rfl
   ·have e1 : ac.eval (.tmp 6) = .agg (num d) := hg 0 (by decide) (by decide)
    refine opG_go 45 Try.f45 #[.tmp 6] #[24] rfl Try.func45 (by kernel_rfl) (by kernel_rfl) (by simp [e1]) (Calls.mono (cntQ_any HN.out.1 H1.out _) ?_)
    rintro r u2 ⟨rfl, hc2⟩
    exact ⟨_, rfl, rfl, hc2⟩
   ·have e1 : ac.eval (.tmp 7) = .bool true := hg 1 (by decide) (by decide)
    exact opG_val (by revert e1; generalize ac.eval = ρ; intro e1; simp [go_sem, execOp, e1]) rfl (Chg.refl _)
  ·intro u V hV hc
   have q8 : V 2 = .bool false := hV 2 (by decide)
   go_wp2_with fail
   go_meet
   exact ⟨q8, (Z1.out.1.trans hc), (Z1.out.2.2.1.chg hc), (Z1.out.2.2.2.chg hc)⟩
 obtain ⟨rfl, hz⟩ := hcut
 obtain ⟨w2, hw2⟩ : ∃ zz0, zz0 = wc := ⟨_, rfl⟩
 rw [← hw2] at hz ⊢
 have Z2 : Hid _ := hz
 clear hw2 hz Z1
 go_upto_region 3 with fail
 go_cut [12] from 10 to 12 (fun v12 wc => v12 = .bool true ∧ Chg w wc ∧ Ar wc (w.heap.size + 1 + 1) (byt zD))
 case first =>
  refine regP 3 (fun j v wg => match j with
   | 0 => v = .agg (pt z x y)
   | 1 => v = .bool false
   | 2 => v = .bool true
   | _ => True) (by decide) (by kernel_rfl) ?_ ?_ ?_
  ·intro j v u1 u2 h hc; exact h
  ·intro i o ac u hi ho hsz hf hg hc
   have hcs : i = 0 ∨ i = 1 ∨ i = 2 := by omega
   rcases hcs with rfl | rfl | rfl <;> (injection ho with ho; subst ho; refine .inl ⟨wanted_none rfl, ?_⟩)
   ·have e1 : ac.eval (.tmp 3) = .pointer (some ⟨w.heap.size + 1, 0, none⟩) := hf 3 (by kernel_rfl)
    exact wp_load_mid 26 (.tmp 3) rfl _ _ e1 ((pt z x y).toList) _ (rangeAp (Z2.out.2.1.chg hc)) Try.underlying26 rfl (infoPt _ _ _) ⟨_, rfl, rfl, Chg.refl _⟩
   ·have e1 : ac.eval (.tmp 10) = .agg (pt z x y) := hg 0 (by decide) (by decide)
    refine opG_go 46 Try.f46 #[.tmp 10] #[26] rfl Try.func46 (by kernel_rfl) (by kernel_rfl) (by simp [e1]) (Calls.mono (tellQ_any HN.out.2.1 HN.out.2.2 H2.out _) ?_)
    rintro r u2 ⟨rfl, hc2⟩
    exact ⟨_, rfl, rfl, hc2⟩
   ·have e1 : ac.eval (.tmp 11) = .bool false := hg 1 (by decide) (by decide)
    exact opG_val (by revert e1; generalize ac.eval = ρ; intro e1; simp [go_sem, execOp, e1]) rfl (Chg.refl _)
  ·intro u V hV hc
   have q12 : V 2 = .bool true := hV 2 (by decide)
   go_wp2_with fail
   go_meet
   exact ⟨q12, (Z2.out.1.trans hc), (Z2.out.2.2.chg hc)⟩
 obtain ⟨rfl, hz⟩ := hcut
 obtain ⟨w3, hw3⟩ : ∃ zz0, zz0 = wc := ⟨_, rfl⟩
 rw [← hw3] at hz ⊢
 have Z3 : Hid _ := hz
 clear hw3 hz Z2
 go_upto_region 4 with fail
 go_cut [5] from 5 to 13 (fun v5 wc => v5 = .int .i64 131 ∧ Chg w wc ∧ Ar wc (w.heap.size + 1 + 1) (byt zD))
 case first =>
  refine regP 1 (fun j v wg => match j with
   | 0 => v = .agg (byt zD)
   | _ => True) (by decide) (by kernel_rfl) ?_ ?_ ?_
  ·intro j v u1 u2 h hc; exact h
  ·intro i o ac u hi ho hsz hf hg hc
   have hcs : i = 0 := by omega
   rcases hcs with rfl <;> (injection ho with ho; subst ho; refine .inl ⟨wanted_none rfl, ?_⟩)
   ·exact opG_built _ [] rfl (by kernel_rfl) (by kernel_rfl) rfl
  ·intro u V hV hc
   have q13 : V 0 = .agg (byt zD) := hV 0 (by decide)
   have hres0 := (Z3.out.2.chg hc)
   refine wpList_store_mid rfl 40 (.tmp 4) (.tmp 13) rfl (w.heap.size + 1 + 1) 0 (byt zD) (by rfl) (Eq.trans (by rfl) q13) (by rw [byt_size]; exact thereY hres0) (szY _) (oneY _) ?_
   rw [setRowY hres0 _]
   have k0_c : Chg w (u.setRow (w.heap.size + 1 + 1) (byt zD)) := ((Z3.out.1.trans hc).setRow (by omega) _)
   have k0_B4 := hres0.row (byt zD)
   generalize (u.setRow (w.heap.size + 1 + 1) (byt zD)) = u10 at k0_c k0_B4 ⊢
   go_wp2_with fail
   go_meet
   exact ⟨rfl, k0_c, k0_B4⟩
 obtain ⟨rfl, hz⟩ := hcut
 obtain ⟨w4, hw4⟩ : ∃ zz0, zz0 = wc := ⟨_, rfl⟩
 rw [← hw4] at hz ⊢
 have Z4 : Hid _ := hz
 clear hw4 hz Z3
 go_wp2_with fail
 exact bp_yt Try.results21 rfl rfl rfl Z4.out.2 ⟨rfl, Z4.out.1⟩
set_option maxHeartbeats 16000000 in
theorem shQ_3 (d : Int) (z : Bool) (x y : Int) (hd : N256 d) (hx : N256 x) (hy : N256 y) (h1 : cnt d = true) (h2 : tell z x y = true) (S : PQt) (hs : mulR d z x y = S) (w : World) : Calls Try.prog 21 #[.agg (num d), .agg (pt z x y)] w fun r w' => r = .returned (.tuple #[.agg (byt (tu (dg 256 (xP S)))), .int .i64 0]) ∧ Chg w w' := by
 have HN : Hid (N256 d ∧ N256 x ∧ N256 y) := ⟨hd, hx, hy⟩
 clear hd hx hy
 have H1 : Hid (cnt d = true) := h1
 clear h1
 have H2 : Hid (tell z x y = true) := h2
 clear h2
 have HS : Hid (mulR d z x y = S) := hs
 clear hs
 have hz0 := zero37.1
 have hsA0 := num_size d
 obtain ⟨A0, hA0⟩ : ∃ zz0, zz0 = num d := ⟨_, rfl⟩
 have HA0 : Hid (A0 = num d) := hA0
 have hsA1 := pt_size z x y
 obtain ⟨A1, hA1⟩ : ∃ zz0, zz0 = pt z x y := ⟨_, rfl⟩
 have HA1 : Hid (A1 = pt z x y) := hA1
 rw [← hA0] at hsA0 ⊢
 rw [← hA1] at hsA1 ⊢
 clear hA0 hA1
 go_enter Try.func21, Try.ntmps21
 go_upto_region 1 with fail
 obtain ⟨w1, hw1⟩ : ∃ w1, w1 = ((w.alloc (.cells A0 24)).alloc (.cells A1 26)).alloc (.cells (byt zD) 40) := ⟨_, rfl⟩
 have Z1 : Hid (Chg w w1 ∧ Ar w1 w.heap.size (num d) ∧ Ar w1 (w.heap.size + 1) (pt z x y) ∧ Ar w1 (w.heap.size + 1 + 1) (byt zD)) := by
  have hnew0 := Ar.new w (num d) 24
  have hnew1 := Ar.new (w.alloc (.cells (num d) 24)) (pt z x y) 26
  rw [World.size_alloc] at hnew1
  have hnew2 := Ar.new ((w.alloc (.cells (num d) 24)).alloc (.cells (pt z x y) 26)) (byt zD) 40
  rw [World.size_alloc, World.size_alloc] at hnew2
  rw [hw1, HA0.out, HA1.out]
  exact ⟨((((Chg.refl w).alloc _).alloc _).alloc _), (((hnew0).alloc _).alloc _), ((hnew1).alloc _), (hnew2)⟩
 rw [← hw1]
 clear hw1 hz0 hsA0 hsA1 HA0 HA1
 go_cut [8] from 6 to 8 (fun v8 wc => v8 = .bool false ∧ Chg w wc ∧ Ar wc w.heap.size (num d) ∧ Ar wc (w.heap.size + 1) (pt z x y) ∧ Ar wc (w.heap.size + 1 + 1) (byt zD))
 case first =>
  refine regP 3 (fun j v wg => match j with
   | 0 => v = .agg (num d)
   | 1 => v = .bool true
   | 2 => v = .bool false
   | _ => True) (by decide) (by kernel_rfl) ?_ ?_ ?_
  ·intro j v u1 u2 h hc; exact h
  ·intro i o ac u hi ho hsz hf hg hc
   have hcs : i = 0 ∨ i = 1 ∨ i = 2 := by omega
   rcases hcs with rfl | rfl | rfl <;> (injection ho with ho; subst ho; refine .inl ⟨wanted_none rfl, ?_⟩)
   ·exact ldN rfl (hf 2 (by kernel_rfl)) (rangeAp (Z1.out.2.1.chg hc)) rfl
   ·have e1 : ac.eval (.tmp 6) = .agg (num d) := hg 0 (by decide) (by decide)
    refine opG_go 45 Try.f45 #[.tmp 6] #[24] rfl Try.func45 (by kernel_rfl) (by kernel_rfl) (by simp [e1]) (Calls.mono (cntQ_any HN.out.1 H1.out _) ?_)
    rintro r u2 ⟨rfl, hc2⟩
    exact ⟨_, rfl, rfl, hc2⟩
   ·have e1 : ac.eval (.tmp 7) = .bool true := hg 1 (by decide) (by decide)
    exact opG_val (by revert e1; generalize ac.eval = ρ; intro e1; simp [go_sem, execOp, e1]) rfl (Chg.refl _)
  ·intro u V hV hc
   have q8 : V 2 = .bool false := hV 2 (by decide)
   go_wp2_with fail
   go_meet
   exact ⟨q8, (Z1.out.1.trans hc), (Z1.out.2.1.chg hc), (Z1.out.2.2.1.chg hc), (Z1.out.2.2.2.chg hc)⟩
 obtain ⟨rfl, hz⟩ := hcut
 obtain ⟨w2, hw2⟩ : ∃ zz0, zz0 = wc := ⟨_, rfl⟩
 rw [← hw2] at hz ⊢
 have Z2 : Hid _ := hz
 clear hw2 hz Z1
 go_upto_region 3 with fail
 go_cut [12] from 10 to 12 (fun v12 wc => v12 = .bool false ∧ Chg w wc ∧ Ar wc w.heap.size (num d) ∧ Ar wc (w.heap.size + 1) (pt z x y) ∧ Ar wc (w.heap.size + 1 + 1) (byt zD))
 case first =>
  refine regP 3 (fun j v wg => match j with
   | 0 => v = .agg (pt z x y)
   | 1 => v = .bool true
   | 2 => v = .bool false
   | _ => True) (by decide) (by kernel_rfl) ?_ ?_ ?_
  ·intro j v u1 u2 h hc; exact h
  ·intro i o ac u hi ho hsz hf hg hc
   have hcs : i = 0 ∨ i = 1 ∨ i = 2 := by omega
   rcases hcs with rfl | rfl | rfl <;> (injection ho with ho; subst ho; refine .inl ⟨wanted_none rfl, ?_⟩)
   ·have e1 : ac.eval (.tmp 3) = .pointer (some ⟨w.heap.size + 1, 0, none⟩) := hf 3 (by kernel_rfl)
    exact wp_load_mid 26 (.tmp 3) rfl _ _ e1 ((pt z x y).toList) _ (rangeAp (Z2.out.2.2.1.chg hc)) Try.underlying26 rfl (infoPt _ _ _) ⟨_, rfl, rfl, Chg.refl _⟩
   ·have e1 : ac.eval (.tmp 10) = .agg (pt z x y) := hg 0 (by decide) (by decide)
    refine opG_go 46 Try.f46 #[.tmp 10] #[26] rfl Try.func46 (by kernel_rfl) (by kernel_rfl) (by simp [e1]) (Calls.mono (tellQ_any HN.out.2.1 HN.out.2.2 H2.out _) ?_)
    rintro r u2 ⟨rfl, hc2⟩
    exact ⟨_, rfl, rfl, hc2⟩
   ·have e1 : ac.eval (.tmp 11) = .bool true := hg 1 (by decide) (by decide)
    exact opG_val (by revert e1; generalize ac.eval = ρ; intro e1; simp [go_sem, execOp, e1]) rfl (Chg.refl _)
  ·intro u V hV hc
   have q12 : V 2 = .bool false := hV 2 (by decide)
   go_wp2_with fail
   go_meet
   exact ⟨q12, (Z2.out.1.trans hc), (Z2.out.2.1.chg hc), (Z2.out.2.2.1.chg hc), (Z2.out.2.2.2.chg hc)⟩
 obtain ⟨rfl, hz⟩ := hcut
 obtain ⟨w3, hw3⟩ : ∃ zz0, zz0 = wc := ⟨_, rfl⟩
 rw [← hw3] at hz ⊢
 have Z3 : Hid _ := hz
 clear hw3 hz Z2
 go_upto_region 5 with fail
 go_cut [5] from 5 to 18 (fun v5 wc => v5 = .int .i64 0 ∧ Chg w wc ∧ Ar wc (w.heap.size + 1 + 1) (byt (tu (dg 256 (xP S)))))
 case first =>
  refine regP 5 (fun j v wg => match j with
   | 0 => v = .agg (num d)
   | 1 => v = .agg (pt z x y)
   | 2 => v = .agg (pt (zP S) (xP S) (yP S))
   | 3 => v = .agg (num (xP S))
   | 4 => v = .agg (byt (tu (dg 256 (xP S))))
   | _ => True) (by decide) (by kernel_rfl) ?_ ?_ ?_
  ·intro j v u1 u2 h hc; exact h
  ·intro i o ac u hi ho hsz hf hg hc
   have hcs : i = 0 ∨ i = 1 ∨ i = 2 ∨ i = 3 ∨ i = 4 := by omega
   rcases hcs with rfl | rfl | rfl | rfl | rfl <;> (injection ho with ho; subst ho; refine .inl ⟨wanted_none rfl, ?_⟩)
   ·exact ldN rfl (hf 2 (by kernel_rfl)) (rangeAp (Z3.out.2.1.chg hc)) rfl
   ·have e1 : ac.eval (.tmp 3) = .pointer (some ⟨w.heap.size + 1, 0, none⟩) := hf 3 (by kernel_rfl)
    exact wp_load_mid 26 (.tmp 3) rfl _ _ e1 ((pt z x y).toList) _ (rangeAp (Z3.out.2.2.1.chg hc)) Try.underlying26 rfl (infoPt _ _ _) ⟨_, rfl, rfl, Chg.refl _⟩
   ·have e1 : ac.eval (.tmp 14) = .agg (num d) := hg 0 (by decide) (by decide)
    have e2 : ac.eval (.tmp 15) = .agg (pt z x y) := hg 1 (by decide) (by decide)
    refine opG_go 11 Try.f11 #[.tmp 14, .tmp 15] #[24, 26] rfl Try.func11 (by kernel_rfl) (by kernel_rfl) (by simp [e1, e2]) (Calls.mono (multQ_any _ _ _ _ HN.out.1 HN.out.2.1 HN.out.2.2 S HS.out _) ?_)
    rintro r u2 ⟨rfl, hc2⟩
    exact ⟨_, rfl, rfl, hc2⟩
   ·have e1 : ac.eval (.tmp 16) = .agg (pt (zP S) (xP S) (yP S)) := hg 2 (by decide) (by decide)
    exact opG_val (by revert e1; generalize ac.eval = ρ; intro e1; simp [go_sem, execOp, e1, run_fieldX]) rfl (Chg.refl _)
   ·have e1 : ac.eval (.tmp 17) = .agg (num (xP S)) := hg 3 (by decide) (by decide)
    refine opG_go 47 Try.f47 #[.tmp 17] #[24] rfl Try.func47 (by kernel_rfl) (by kernel_rfl) (by simp [e1]) (Calls.mono (toBE_any (xP S) _) ?_)
    rintro r u2 ⟨rfl, hc2⟩
    exact ⟨_, rfl, rfl, hc2⟩
  ·intro u V hV hc
   have q18 : V 4 = .agg (byt (tu (dg 256 (xP S)))) := hV 4 (by decide)
   have hres0 := (Z3.out.2.2.2.chg hc)
   refine wpList_store_mid rfl 40 (.tmp 4) (.tmp 18) rfl (w.heap.size + 1 + 1) 0 (byt (tu (dg 256 (xP S)))) (by rfl) (Eq.trans (by rfl) q18) (by rw [byt_size]; exact thereY hres0) (szY _) (oneY _) ?_
   rw [setRowY hres0 _]
   have k0_c : Chg w (u.setRow (w.heap.size + 1 + 1) (byt (tu (dg 256 (xP S))))) := ((Z3.out.1.trans hc).setRow (by omega) _)
   have k0_B4 := hres0.row (byt (tu (dg 256 (xP S))))
   generalize (u.setRow (w.heap.size + 1 + 1) (byt (tu (dg 256 (xP S))))) = u10 at k0_c k0_B4 ⊢
   go_wp2_with fail
   go_meet
   exact ⟨rfl, k0_c, k0_B4⟩
 obtain ⟨rfl, hz⟩ := hcut
 obtain ⟨w4, hw4⟩ : ∃ zz0, zz0 = wc := ⟨_, rfl⟩
 rw [← hw4] at hz ⊢
 have Z4 : Hid _ := hz
 clear hw4 hz Z3
 go_wp2_with fail
 exact bp_yt Try.results21 rfl rfl rfl Z4.out.2 ⟨rfl, Z4.out.1⟩
theorem shQ_any {d : Int} {z : Bool} {x y : Int} (hd : N256 d) (hx : N256 x) (hy : N256 y) {f : Nat → Int} {e : Int} (hf : shB d z x y = f) (he : shE d z x y = e) (w : World) : Calls Try.prog 21 #[.agg (num d), .agg (pt z x y)] w fun r w' => r = .returned (.tuple #[.agg (byt f), .int .i64 e]) ∧ Chg w w' := by
 rw [← hf, ← he]
 unfold shB shE
 cases h1 : cnt d with
 | false => exact shQ_1 d z x y hd hx hy h1 w
 | true =>
  cases h2 : tell z x y with
  | false => exact shQ_2 d z x y hd hx hy h1 h2 w
  | true => exact shQ_3 d z x y hd hx hy h1 h2 _ rfl w
set_option maxHeartbeats 16000000 in
theorem shS_1 (d : Int) (z : Bool) (x y : Int) (hd : N256 d) (hx : N256 x) (hy : N256 y) {b : Bool} (h1 : cnt d = false) (h2 : onR z x y = b) (w : World) : Calls Try.prog 22 #[.agg (num d), .agg (pt z x y)] w fun r w' => r = .returned (.tuple #[.agg (byt zD), .int .i64 132]) ∧ Chg w w' := by
 have HN : Hid (N256 d ∧ N256 x ∧ N256 y) := ⟨hd, hx, hy⟩
 clear hd hx hy
 have H1 : Hid (cnt d = false) := h1
 clear h1
 have H2 : Hid (onR z x y = b) := h2
 clear h2
 have hz0 := zero37.1
 have hsA0 := num_size d
 obtain ⟨A0, hA0⟩ : ∃ zz0, zz0 = num d := ⟨_, rfl⟩
 have HA0 : Hid (A0 = num d) := hA0
 have hsA1 := pt_size z x y
 obtain ⟨A1, hA1⟩ : ∃ zz0, zz0 = pt z x y := ⟨_, rfl⟩
 have HA1 : Hid (A1 = pt z x y) := hA1
 rw [← hA0] at hsA0 ⊢
 rw [← hA1] at hsA1 ⊢
 clear hA0 hA1
 go_enter Try.func22, Try.ntmps22
 go_upto_region 1 with fail
 obtain ⟨w1, hw1⟩ : ∃ w1, w1 = ((w.alloc (.cells A0 24)).alloc (.cells A1 26)).alloc (.cells (byt zD) 40) := ⟨_, rfl⟩
 have Z1 : Hid (Chg w w1 ∧ Ar w1 w.heap.size (num d) ∧ Ar w1 (w.heap.size + 1) (pt z x y) ∧ Ar w1 (w.heap.size + 1 + 1) (byt zD)) := by
  have hnew0 := Ar.new w (num d) 24
  have hnew1 := Ar.new (w.alloc (.cells (num d) 24)) (pt z x y) 26
  rw [World.size_alloc] at hnew1
  have hnew2 := Ar.new ((w.alloc (.cells (num d) 24)).alloc (.cells (pt z x y) 26)) (byt zD) 40
  rw [World.size_alloc, World.size_alloc] at hnew2
  rw [hw1, HA0.out, HA1.out]
  exact ⟨((((Chg.refl w).alloc _).alloc _).alloc _), (((hnew0).alloc _).alloc _), ((hnew1).alloc _), (hnew2)⟩
 rw [← hw1]
 clear hw1 hz0 hsA0 hsA1 HA0 HA1
 go_cut [6] from 6 to 9 (fun v6 wc => v6 = .bool false ∧ Chg w wc ∧ Ar wc (w.heap.size + 1) (pt z x y) ∧ Ar wc (w.heap.size + 1 + 1) (byt zD))
 case first =>
  refine regP 3 (fun j v wg => match j with
   | 0 => v = .agg (num d)
   | 1 => v = .bool false
   | 2 => v = .bool false
   | _ => True) (by decide) (by kernel_rfl) ?_ ?_ ?_
  ·intro j v u1 u2 h hc; exact h
  ·intro i o ac u hi ho hsz hf hg hc
   have hcs : i = 0 ∨ i = 1 ∨ i = 2 := by omega
   rcases hcs with rfl | rfl | rfl <;> (injection ho with ho; subst ho; refine .inl ⟨wanted_none rfl, ?_⟩)
   ·exact ldN rfl (hf 2 (by kernel_rfl)) (rangeAp (Z1.out.2.1.chg hc)) rfl
   ·have e1 : ac.eval (.tmp 8) = .agg (num d) := hg 0 (by decide) (by decide)
    refine opG_go 48 Try.f48 #[.tmp 8] #[24] rfl Try.func48 (by kernel_rfl) (by kernel_rfl) (by simp [e1]) (Calls.mono (cntS_any HN.out.1 H1.out _) ?_)
    rintro r u2 ⟨rfl, hc2⟩
    exact ⟨_, rfl, rfl, hc2⟩
   ·have e1 : ac.eval (.tmp 9) = .bool false := hg 1 (by decide) (by decide)
    exact opG_val (by simp [execOp, e1]) rfl (Chg.refl _)
  ·intro u V hV hc
   have q6 : V 2 = .bool false := hV 2 (by decide)
   go_wp2_with fail
   go_meet
   exact ⟨q6, (Z1.out.1.trans hc), (Z1.out.2.2.1.chg hc), (Z1.out.2.2.2.chg hc)⟩
 obtain ⟨rfl, hz⟩ := hcut
 obtain ⟨w2, hw2⟩ : ∃ zz0, zz0 = wc := ⟨_, rfl⟩
 rw [← hw2] at hz ⊢
 have Z2 : Hid _ := hz
 clear hw2 hz Z1
 go_upto_region 2 with fail
 go_cut [7] from 7 to 11 (fun v7 wc => v7 = .bool b ∧ Chg w wc ∧ Ar wc (w.heap.size + 1 + 1) (byt zD))
 case first =>
  refine regP 3 (fun j v wg => match j with
   | 0 => v = .agg (pt z x y)
   | 1 => v = .bool b
   | 2 => v = .bool b
   | _ => True) (by decide) (by kernel_rfl) ?_ ?_ ?_
  ·intro j v u1 u2 h hc; exact h
  ·intro i o ac u hi ho hsz hf hg hc
   have hcs : i = 0 ∨ i = 1 ∨ i = 2 := by omega
   rcases hcs with rfl | rfl | rfl <;> (injection ho with ho; subst ho; refine .inl ⟨wanted_none rfl, ?_⟩)
   ·have e1 : ac.eval (.tmp 3) = .pointer (some ⟨w.heap.size + 1, 0, none⟩) := hf 3 (by kernel_rfl)
    exact wp_load_mid 26 (.tmp 3) rfl _ _ e1 ((pt z x y).toList) _ (rangeAp (Z2.out.2.1.chg hc)) Try.underlying26 rfl (infoPt _ _ _) ⟨_, rfl, rfl, Chg.refl _⟩
   ·have e1 : ac.eval (.tmp 10) = .agg (pt z x y) := hg 0 (by decide) (by decide)
    refine opG_go 14 Try.f14 #[.tmp 10] #[26] rfl Try.func14 (by kernel_rfl) (by kernel_rfl) (by simp [e1]) (Calls.mono (onSL_any HN.out.2.1 HN.out.2.2 H2.out _) ?_)
    rintro r u2 ⟨rfl, hc2⟩
    exact ⟨_, rfl, rfl, hc2⟩
   ·have e1 : ac.eval (.tmp 11) = .bool b := hg 1 (by decide) (by decide)
    exact opG_val (by simp [execOp, e1]) rfl (Chg.refl _)
  ·intro u V hV hc
   have q7 : V 2 = .bool b := hV 2 (by decide)
   go_wp2_with fail
   go_meet
   exact ⟨q7, (Z2.out.1.trans hc), (Z2.out.2.2.chg hc)⟩
 obtain ⟨rfl, hz⟩ := hcut
 obtain ⟨w3, hw3⟩ : ∃ zz0, zz0 = wc := ⟨_, rfl⟩
 rw [← hw3] at hz ⊢
 have Z3 : Hid _ := hz
 clear hw3 hz Z2
 go_upto_region 3 with fail
 go_cut [13] from 12 to 13 (fun v13 wc => v13 = .bool true ∧ Chg w wc ∧ Ar wc (w.heap.size + 1 + 1) (byt zD))
 case first =>
  refine regP 2 (fun j v wg => match j with
   | 0 => v = .bool false
   | 1 => v = .bool true
   | _ => True) (by decide) (by kernel_rfl) ?_ ?_ ?_
  ·intro j v u1 u2 h hc; exact h
  ·intro i o ac u hi ho hsz hf hg hc
   have hcs : i = 0 ∨ i = 1 := by omega
   rcases hcs with rfl | rfl <;> (injection ho with ho; subst ho; refine .inl ⟨wanted_none rfl, ?_⟩)
   ·have e1 : ac.eval (.tmp 6) = .bool false := hf 6 (by kernel_rfl)
    exact opG_val (by simp [execOp, e1]) rfl (Chg.refl _)
   ·have e1 : ac.eval (.tmp 12) = .bool false := hg 0 (by decide) (by decide)
    exact opG_val (by revert e1; generalize ac.eval = ρ; intro e1; simp [go_sem, execOp, e1]) rfl (Chg.refl _)
  ·intro u V hV hc
   have q13 : V 1 = .bool true := hV 1 (by decide)
   go_wp2_with fail
   go_meet
   exact ⟨q13, (Z3.out.1.trans hc), (Z3.out.2.chg hc)⟩
 obtain ⟨rfl, hz⟩ := hcut
 obtain ⟨w4, hw4⟩ : ∃ zz0, zz0 = wc := ⟨_, rfl⟩
 rw [← hw4] at hz ⊢
 have Z4 : Hid _ := hz
 clear hw4 hz Z3
 go_upto_region 4 with fail
 go_cut [5] from 5 to 14 (fun v5 wc => v5 = .int .i64 132 ∧ Chg w wc ∧ Ar wc (w.heap.size + 1 + 1) (byt zD))
 case first =>
  refine regP 1 (fun j v wg => match j with
   | 0 => v = .agg (byt zD)
   | _ => True) (by decide) (by kernel_rfl) ?_ ?_ ?_
  ·intro j v u1 u2 h hc; exact h
  ·intro i o ac u hi ho hsz hf hg hc
   have hcs : i = 0 := by omega
   rcases hcs with rfl <;> (injection ho with ho; subst ho; refine .inl ⟨wanted_none rfl, ?_⟩)
   ·exact opG_built _ [] rfl (by kernel_rfl) (by kernel_rfl) rfl
  ·intro u V hV hc
   have q14 : V 0 = .agg (byt zD) := hV 0 (by decide)
   have hres0 := (Z4.out.2.chg hc)
   refine wpList_store_mid rfl 40 (.tmp 4) (.tmp 14) rfl (w.heap.size + 1 + 1) 0 (byt zD) (by rfl) (Eq.trans (by rfl) q14) (by rw [byt_size]; exact thereY hres0) (szY _) (oneY _) ?_
   rw [setRowY hres0 _]
   have k0_c : Chg w (u.setRow (w.heap.size + 1 + 1) (byt zD)) := ((Z4.out.1.trans hc).setRow (by omega) _)
   have k0_B4 := hres0.row (byt zD)
   generalize (u.setRow (w.heap.size + 1 + 1) (byt zD)) = u10 at k0_c k0_B4 ⊢
   go_wp2_with fail
   go_meet
   exact ⟨rfl, k0_c, k0_B4⟩
 obtain ⟨rfl, hz⟩ := hcut
 obtain ⟨w5, hw5⟩ : ∃ zz0, zz0 = wc := ⟨_, rfl⟩
 rw [← hw5] at hz ⊢
 have Z5 : Hid _ := hz
 clear hw5 hz Z4
 go_wp2_with fail
 exact bp_yt Try.results22 rfl rfl rfl Z5.out.2 ⟨rfl, Z5.out.1⟩
set_option maxHeartbeats 16000000 in
theorem shS_2 (d : Int) (z : Bool) (x y : Int) (hd : N256 d) (hx : N256 x) (hy : N256 y) (h1 : cnt d = true) (h2 : onR z x y = false) (w : World) : Calls Try.prog 22 #[.agg (num d), .agg (pt z x y)] w fun r w' => r = .returned (.tuple #[.agg (byt zD), .int .i64 131]) ∧ Chg w w' := by
 have HN : Hid (N256 d ∧ N256 x ∧ N256 y) := ⟨hd, hx, hy⟩
 clear hd hx hy
 have H1 : Hid (cnt d = true) := h1
 clear h1
 have H2 : Hid (onR z x y = false) := h2
 clear h2
 have hz0 := zero37.1
 have hsA0 := num_size d
 obtain ⟨A0, hA0⟩ : ∃ zz0, zz0 = num d := ⟨_, rfl⟩
 have HA0 : Hid (A0 = num d) := hA0
 have hsA1 := pt_size z x y
 obtain ⟨A1, hA1⟩ : ∃ zz0, zz0 = pt z x y := ⟨_, rfl⟩
 have HA1 : Hid (A1 = pt z x y) := hA1
 rw [← hA0] at hsA0 ⊢
 rw [← hA1] at hsA1 ⊢
 clear hA0 hA1
 go_enter Try.func22, Try.ntmps22
 go_upto_region 1 with fail
 obtain ⟨w1, hw1⟩ : ∃ w1, w1 = ((w.alloc (.cells A0 24)).alloc (.cells A1 26)).alloc (.cells (byt zD) 40) := ⟨_, rfl⟩
 have Z1 : Hid (Chg w w1 ∧ Ar w1 w.heap.size (num d) ∧ Ar w1 (w.heap.size + 1) (pt z x y) ∧ Ar w1 (w.heap.size + 1 + 1) (byt zD)) := by
  have hnew0 := Ar.new w (num d) 24
  have hnew1 := Ar.new (w.alloc (.cells (num d) 24)) (pt z x y) 26
  rw [World.size_alloc] at hnew1
  have hnew2 := Ar.new ((w.alloc (.cells (num d) 24)).alloc (.cells (pt z x y) 26)) (byt zD) 40
  rw [World.size_alloc, World.size_alloc] at hnew2
  rw [hw1, HA0.out, HA1.out]
  exact ⟨((((Chg.refl w).alloc _).alloc _).alloc _), (((hnew0).alloc _).alloc _), ((hnew1).alloc _), (hnew2)⟩
 rw [← hw1]
 clear hw1 hz0 hsA0 hsA1 HA0 HA1
 go_cut [6] from 6 to 9 (fun v6 wc => v6 = .bool true ∧ Chg w wc ∧ Ar wc (w.heap.size + 1) (pt z x y) ∧ Ar wc (w.heap.size + 1 + 1) (byt zD))
 case first =>
  refine regP 3 (fun j v wg => match j with
   | 0 => v = .agg (num d)
   | 1 => v = .bool true
   | 2 => v = .bool true
   | _ => True) (by decide) (by kernel_rfl) ?_ ?_ ?_
  ·intro j v u1 u2 h hc; exact h
  ·intro i o ac u hi ho hsz hf hg hc
   have hcs : i = 0 ∨ i = 1 ∨ i = 2 := by omega
   rcases hcs with rfl | rfl | rfl <;> (injection ho with ho; subst ho; refine .inl ⟨wanted_none rfl, ?_⟩)
   ·exact ldN rfl (hf 2 (by kernel_rfl)) (rangeAp (Z1.out.2.1.chg hc)) rfl
   ·have e1 : ac.eval (.tmp 8) = .agg (num d) := hg 0 (by decide) (by decide)
    refine opG_go 48 Try.f48 #[.tmp 8] #[24] rfl Try.func48 (by kernel_rfl) (by kernel_rfl) (by simp [e1]) (Calls.mono (cntS_any HN.out.1 H1.out _) ?_)
    rintro r u2 ⟨rfl, hc2⟩
    exact ⟨_, rfl, rfl, hc2⟩
   ·have e1 : ac.eval (.tmp 9) = .bool true := hg 1 (by decide) (by decide)
    exact opG_val (by simp [execOp, e1]) rfl (Chg.refl _)
  ·intro u V hV hc
   have q6 : V 2 = .bool true := hV 2 (by decide)
   go_wp2_with fail
   go_meet
   exact ⟨q6, (Z1.out.1.trans hc), (Z1.out.2.2.1.chg hc), (Z1.out.2.2.2.chg hc)⟩
 obtain ⟨rfl, hz⟩ := hcut
 obtain ⟨w2, hw2⟩ : ∃ zz0, zz0 = wc := ⟨_, rfl⟩
 rw [← hw2] at hz ⊢
 have Z2 : Hid _ := hz
 clear hw2 hz Z1
 go_upto_region 2 with fail
 go_cut [7] from 7 to 11 (fun v7 wc => v7 = .bool false ∧ Chg w wc ∧ Ar wc (w.heap.size + 1) (pt z x y) ∧ Ar wc (w.heap.size + 1 + 1) (byt zD))
 case first =>
  refine regP 3 (fun j v wg => match j with
   | 0 => v = .agg (pt z x y)
   | 1 => v = .bool false
   | 2 => v = .bool false
   | _ => True) (by decide) (by kernel_rfl) ?_ ?_ ?_
  ·intro j v u1 u2 h hc; exact h
  ·intro i o ac u hi ho hsz hf hg hc
   have hcs : i = 0 ∨ i = 1 ∨ i = 2 := by omega
   rcases hcs with rfl | rfl | rfl <;> (injection ho with ho; subst ho; refine .inl ⟨wanted_none rfl, ?_⟩)
   ·have e1 : ac.eval (.tmp 3) = .pointer (some ⟨w.heap.size + 1, 0, none⟩) := hf 3 (by kernel_rfl)
    exact wp_load_mid 26 (.tmp 3) rfl _ _ e1 ((pt z x y).toList) _ (rangeAp (Z2.out.2.1.chg hc)) Try.underlying26 rfl (infoPt _ _ _) ⟨_, rfl, rfl, Chg.refl _⟩
   ·have e1 : ac.eval (.tmp 10) = .agg (pt z x y) := hg 0 (by decide) (by decide)
    refine opG_go 14 Try.f14 #[.tmp 10] #[26] rfl Try.func14 (by kernel_rfl) (by kernel_rfl) (by simp [e1]) (Calls.mono (onSL_any HN.out.2.1 HN.out.2.2 H2.out _) ?_)
    rintro r u2 ⟨rfl, hc2⟩
    exact ⟨_, rfl, rfl, hc2⟩
   ·have e1 : ac.eval (.tmp 11) = .bool false := hg 1 (by decide) (by decide)
    exact opG_val (by simp [execOp, e1]) rfl (Chg.refl _)
  ·intro u V hV hc
   have q7 : V 2 = .bool false := hV 2 (by decide)
   go_wp2_with fail
   go_meet
   exact ⟨q7, (Z2.out.1.trans hc), (Z2.out.2.1.chg hc), (Z2.out.2.2.chg hc)⟩
 obtain ⟨rfl, hz⟩ := hcut
 obtain ⟨w3, hw3⟩ : ∃ zz0, zz0 = wc := ⟨_, rfl⟩
 rw [← hw3] at hz ⊢
 have Z3 : Hid _ := hz
 clear hw3 hz Z2
 go_upto_region 3 with fail
 go_cut [13] from 12 to 13 (fun v13 wc => v13 = .bool false ∧ Chg w wc ∧ Ar wc (w.heap.size + 1) (pt z x y) ∧ Ar wc (w.heap.size + 1 + 1) (byt zD))
 case first =>
  refine regP 2 (fun j v wg => match j with
   | 0 => v = .bool true
   | 1 => v = .bool false
   | _ => True) (by decide) (by kernel_rfl) ?_ ?_ ?_
  ·intro j v u1 u2 h hc; exact h
  ·intro i o ac u hi ho hsz hf hg hc
   have hcs : i = 0 ∨ i = 1 := by omega
   rcases hcs with rfl | rfl <;> (injection ho with ho; subst ho; refine .inl ⟨wanted_none rfl, ?_⟩)
   ·have e1 : ac.eval (.tmp 6) = .bool true := hf 6 (by kernel_rfl)
    exact opG_val (by simp [execOp, e1]) rfl (Chg.refl _)
   ·have e1 : ac.eval (.tmp 12) = .bool true := hg 0 (by decide) (by decide)
    exact opG_val (by revert e1; generalize ac.eval = ρ; intro e1; simp [go_sem, execOp, e1]) rfl (Chg.refl _)
  ·intro u V hV hc
   have q13 : V 1 = .bool false := hV 1 (by decide)
   go_wp2_with fail
   go_meet
   exact ⟨q13, (Z3.out.1.trans hc), (Z3.out.2.1.chg hc), (Z3.out.2.2.chg hc)⟩
 obtain ⟨rfl, hz⟩ := hcut
 obtain ⟨w4, hw4⟩ : ∃ zz0, zz0 = wc := ⟨_, rfl⟩
 rw [← hw4] at hz ⊢
 have Z4 : Hid _ := hz
 clear hw4 hz Z3
 go_upto_region 5 with fail
 go_cut [20] from 15 to 20 (fun v20 wc => v20 = .bool true ∧ Chg w wc ∧ Ar wc (w.heap.size + 1 + 1) (byt zD))
 case first =>
  refine regP 6 (fun j v wg => match j with
   | 0 => v = .bool false
   | 1 => v = .bool true
   | 2 => v = .bool true
   | 3 => v = undef
   | 4 => v = undef
   | 5 => v = .bool true
   | _ => True) (by decide) (by kernel_rfl) ?_ ?_ ?_
  ·intro j v u1 u2 h hc; exact h
  ·intro i o ac u hi ho hsz hf hg hc
   have hcs : i = 0 ∨ i = 1 ∨ i = 2 ∨ i = 3 ∨ i = 4 ∨ i = 5 := by omega
   rcases hcs with rfl | rfl | rfl | rfl | rfl | rfl <;> (injection ho with ho; subst ho)
   ·refine .inl ⟨wanted_none rfl, ?_⟩
    have e1 : ac.eval (.tmp 7) = .bool false := hf 7 (by kernel_rfl)
    exact opG_val (by simp [execOp, e1]) rfl (Chg.refl _)
   ·refine .inl ⟨wanted_none rfl, ?_⟩
    have e1 : ac.eval (.tmp 15) = .bool false := hg 0 (by decide) (by decide)
    exact opG_val (by revert e1; generalize ac.eval = ρ; intro e1; simp [go_sem, execOp, e1]) rfl (Chg.refl _)
   ·refine .inl ⟨wanted_none rfl, ?_⟩
    have e1 : ac.eval (.tmp 16) = .bool true := hg 1 (by decide) (by decide)
    exact opG_val (by simp [execOp, e1]) rfl (Chg.refl _)
   ·exact .inr ⟨wanted_not (T := _) (by kernel_rfl) hsz rfl (by decide : 2 < 6) rfl rfl (hg 2 (by decide) (by decide)), rfl⟩
   ·exact .inr ⟨wanted_not (T := _) (by kernel_rfl) hsz rfl (by decide : 2 < 6) rfl rfl (hg 2 (by decide) (by decide)), rfl⟩
   ·refine .inl ⟨wanted_none rfl, ?_⟩
    have e1 : ac.eval (.tmp 17) = .bool true := hg 2 (by decide) (by decide)
    have e2 : ac.eval (.const (.bool true)) = .bool true := rfl
    have e3 : ac.eval (.tmp 19) = undef := hg 4 (by decide) (by decide)
    exact opG_val (by revert e1 e2 e3; generalize ac.eval = ρ; intro e1 e2 e3; simp [go_sem, execOp, e1, e2, e3]) rfl (Chg.refl _)
  ·intro u V hV hc
   have q20 : V 5 = .bool true := hV 5 (by decide)
   go_wp2_with fail
   go_meet
   exact ⟨q20, (Z4.out.1.trans hc), (Z4.out.2.2.chg hc)⟩
 obtain ⟨rfl, hz⟩ := hcut
 obtain ⟨w5, hw5⟩ : ∃ zz0, zz0 = wc := ⟨_, rfl⟩
 rw [← hw5] at hz ⊢
 have Z5 : Hid _ := hz
 clear hw5 hz Z4
 go_upto_region 6 with fail
 go_cut [5] from 5 to 21 (fun v5 wc => v5 = .int .i64 131 ∧ Chg w wc ∧ Ar wc (w.heap.size + 1 + 1) (byt zD))
 case first =>
  refine regP 1 (fun j v wg => match j with
   | 0 => v = .agg (byt zD)
   | _ => True) (by decide) (by kernel_rfl) ?_ ?_ ?_
  ·intro j v u1 u2 h hc; exact h
  ·intro i o ac u hi ho hsz hf hg hc
   have hcs : i = 0 := by omega
   rcases hcs with rfl <;> (injection ho with ho; subst ho; refine .inl ⟨wanted_none rfl, ?_⟩)
   ·exact opG_built _ [] rfl (by kernel_rfl) (by kernel_rfl) rfl
  ·intro u V hV hc
   have q21 : V 0 = .agg (byt zD) := hV 0 (by decide)
   have hres0 := (Z5.out.2.chg hc)
   refine wpList_store_mid rfl 40 (.tmp 4) (.tmp 21) rfl (w.heap.size + 1 + 1) 0 (byt zD) (by rfl) (Eq.trans (by rfl) q21) (by rw [byt_size]; exact thereY hres0) (szY _) (oneY _) ?_
   rw [setRowY hres0 _]
   have k0_c : Chg w (u.setRow (w.heap.size + 1 + 1) (byt zD)) := ((Z5.out.1.trans hc).setRow (by omega) _)
   have k0_B4 := hres0.row (byt zD)
   generalize (u.setRow (w.heap.size + 1 + 1) (byt zD)) = u10 at k0_c k0_B4 ⊢
   go_wp2_with fail
   go_meet
   exact ⟨rfl, k0_c, k0_B4⟩
 obtain ⟨rfl, hz⟩ := hcut
 obtain ⟨w6, hw6⟩ : ∃ zz0, zz0 = wc := ⟨_, rfl⟩
 rw [← hw6] at hz ⊢
 have Z6 : Hid _ := hz
 clear hw6 hz Z5
 go_wp2_with fail
 exact bp_yt Try.results22 rfl rfl rfl Z6.out.2 ⟨rfl, Z6.out.1⟩
set_option maxHeartbeats 16000000 in
theorem shS_3 (d : Int) (x y : Int) (hd : N256 d) (hx : N256 x) (hy : N256 y) (h1 : cnt d = true) (h2 : onR true x y = true) (w : World) : Calls Try.prog 22 #[.agg (num d), .agg (pt true x y)] w fun r w' => r = .returned (.tuple #[.agg (byt zD), .int .i64 131]) ∧ Chg w w' := by
 have HN : Hid (N256 d ∧ N256 x ∧ N256 y) := ⟨hd, hx, hy⟩
 clear hd hx hy
 have H1 : Hid (cnt d = true) := h1
 clear h1
 have H2 : Hid (onR true x y = true) := h2
 clear h2
 have hz0 := zero37.1
 have hsA0 := num_size d
 obtain ⟨A0, hA0⟩ : ∃ zz0, zz0 = num d := ⟨_, rfl⟩
 have HA0 : Hid (A0 = num d) := hA0
 have hsA1 := pt_size true x y
 obtain ⟨A1, hA1⟩ : ∃ zz0, zz0 = pt true x y := ⟨_, rfl⟩
 have HA1 : Hid (A1 = pt true x y) := hA1
 rw [← hA0] at hsA0 ⊢
 rw [← hA1] at hsA1 ⊢
 clear hA0 hA1
 go_enter Try.func22, Try.ntmps22
 go_upto_region 1 with fail
 obtain ⟨w1, hw1⟩ : ∃ w1, w1 = ((w.alloc (.cells A0 24)).alloc (.cells A1 26)).alloc (.cells (byt zD) 40) := ⟨_, rfl⟩
 have Z1 : Hid (Chg w w1 ∧ Ar w1 w.heap.size (num d) ∧ Ar w1 (w.heap.size + 1) (pt true x y) ∧ Ar w1 (w.heap.size + 1 + 1) (byt zD)) := by
  have hnew0 := Ar.new w (num d) 24
  have hnew1 := Ar.new (w.alloc (.cells (num d) 24)) (pt true x y) 26
  rw [World.size_alloc] at hnew1
  have hnew2 := Ar.new ((w.alloc (.cells (num d) 24)).alloc (.cells (pt true x y) 26)) (byt zD) 40
  rw [World.size_alloc, World.size_alloc] at hnew2
  rw [hw1, HA0.out, HA1.out]
  exact ⟨((((Chg.refl w).alloc _).alloc _).alloc _), (((hnew0).alloc _).alloc _), ((hnew1).alloc _), (hnew2)⟩
 rw [← hw1]
 clear hw1 hz0 hsA0 hsA1 HA0 HA1
 go_cut [6] from 6 to 9 (fun v6 wc => v6 = .bool true ∧ Chg w wc ∧ Ar wc (w.heap.size + 1) (pt true x y) ∧ Ar wc (w.heap.size + 1 + 1) (byt zD))
 case first =>
  refine regP 3 (fun j v wg => match j with
   | 0 => v = .agg (num d)
   | 1 => v = .bool true
   | 2 => v = .bool true
   | _ => True) (by decide) (by kernel_rfl) ?_ ?_ ?_
  ·intro j v u1 u2 h hc; exact h
  ·intro i o ac u hi ho hsz hf hg hc
   have hcs : i = 0 ∨ i = 1 ∨ i = 2 := by omega
   rcases hcs with rfl | rfl | rfl <;> (injection ho with ho; subst ho; refine .inl ⟨wanted_none rfl, ?_⟩)
   ·exact ldN rfl (hf 2 (by kernel_rfl)) (rangeAp (Z1.out.2.1.chg hc)) rfl
   ·have e1 : ac.eval (.tmp 8) = .agg (num d) := hg 0 (by decide) (by decide)
    refine opG_go 48 Try.f48 #[.tmp 8] #[24] rfl Try.func48 (by kernel_rfl) (by kernel_rfl) (by simp [e1]) (Calls.mono (cntS_any HN.out.1 H1.out _) ?_)
    rintro r u2 ⟨rfl, hc2⟩
    exact ⟨_, rfl, rfl, hc2⟩
   ·have e1 : ac.eval (.tmp 9) = .bool true := hg 1 (by decide) (by decide)
    exact opG_val (by simp [execOp, e1]) rfl (Chg.refl _)
  ·intro u V hV hc
   have q6 : V 2 = .bool true := hV 2 (by decide)
   go_wp2_with fail
   go_meet
   exact ⟨q6, (Z1.out.1.trans hc), (Z1.out.2.2.1.chg hc), (Z1.out.2.2.2.chg hc)⟩
 obtain ⟨rfl, hz⟩ := hcut
 obtain ⟨w2, hw2⟩ : ∃ zz0, zz0 = wc := ⟨_, rfl⟩
 rw [← hw2] at hz ⊢
 have Z2 : Hid _ := hz
 clear hw2 hz Z1
 go_upto_region 2 with fail
 go_cut [7] from 7 to 11 (fun v7 wc => v7 = .bool true ∧ Chg w wc ∧ Ar wc (w.heap.size + 1) (pt true x y) ∧ Ar wc (w.heap.size + 1 + 1) (byt zD))
 case first =>
  refine regP 3 (fun j v wg => match j with
   | 0 => v = .agg (pt true x y)
   | 1 => v = .bool true
   | 2 => v = .bool true
   | _ => True) (by decide) (by kernel_rfl) ?_ ?_ ?_
  ·intro j v u1 u2 h hc; exact h
  ·intro i o ac u hi ho hsz hf hg hc
   have hcs : i = 0 ∨ i = 1 ∨ i = 2 := by omega
   rcases hcs with rfl | rfl | rfl <;> (injection ho with ho; subst ho; refine .inl ⟨wanted_none rfl, ?_⟩)
   ·have e1 : ac.eval (.tmp 3) = .pointer (some ⟨w.heap.size + 1, 0, none⟩) := hf 3 (by kernel_rfl)
    exact wp_load_mid 26 (.tmp 3) rfl _ _ e1 ((pt true x y).toList) _ (rangeAp (Z2.out.2.1.chg hc)) Try.underlying26 rfl (infoPt _ _ _) ⟨_, rfl, rfl, Chg.refl _⟩
   ·have e1 : ac.eval (.tmp 10) = .agg (pt true x y) := hg 0 (by decide) (by decide)
    refine opG_go 14 Try.f14 #[.tmp 10] #[26] rfl Try.func14 (by kernel_rfl) (by kernel_rfl) (by simp [e1]) (Calls.mono (onSL_any HN.out.2.1 HN.out.2.2 H2.out _) ?_)
    rintro r u2 ⟨rfl, hc2⟩
    exact ⟨_, rfl, rfl, hc2⟩
   ·have e1 : ac.eval (.tmp 11) = .bool true := hg 1 (by decide) (by decide)
    exact opG_val (by simp [execOp, e1]) rfl (Chg.refl _)
  ·intro u V hV hc
   have q7 : V 2 = .bool true := hV 2 (by decide)
   go_wp2_with fail
   go_meet
   exact ⟨q7, (Z2.out.1.trans hc), (Z2.out.2.1.chg hc), (Z2.out.2.2.chg hc)⟩
 obtain ⟨rfl, hz⟩ := hcut
 obtain ⟨w3, hw3⟩ : ∃ zz0, zz0 = wc := ⟨_, rfl⟩
 rw [← hw3] at hz ⊢
 have Z3 : Hid _ := hz
 clear hw3 hz Z2
 go_upto_region 3 with fail
 go_cut [13] from 12 to 13 (fun v13 wc => v13 = .bool false ∧ Chg w wc ∧ Ar wc (w.heap.size + 1) (pt true x y) ∧ Ar wc (w.heap.size + 1 + 1) (byt zD))
 case first =>
  refine regP 2 (fun j v wg => match j with
   | 0 => v = .bool true
   | 1 => v = .bool false
   | _ => True) (by decide) (by kernel_rfl) ?_ ?_ ?_
  ·intro j v u1 u2 h hc; exact h
  ·intro i o ac u hi ho hsz hf hg hc
   have hcs : i = 0 ∨ i = 1 := by omega
   rcases hcs with rfl | rfl <;> (injection ho with ho; subst ho; refine .inl ⟨wanted_none rfl, ?_⟩)
   ·have e1 : ac.eval (.tmp 6) = .bool true := hf 6 (by kernel_rfl)
    exact opG_val (by simp [execOp, e1]) rfl (Chg.refl _)
   ·have e1 : ac.eval (.tmp 12) = .bool true := hg 0 (by decide) (by decide)
    exact opG_val (by revert e1; generalize ac.eval = ρ; intro e1; simp [go_sem, execOp, e1]) rfl (Chg.refl _)
  ·intro u V hV hc
   have q13 : V 1 = .bool false := hV 1 (by decide)
   go_wp2_with fail
   go_meet
   exact ⟨q13, (Z3.out.1.trans hc), (Z3.out.2.1.chg hc), (Z3.out.2.2.chg hc)⟩
 obtain ⟨rfl, hz⟩ := hcut
 obtain ⟨w4, hw4⟩ : ∃ zz0, zz0 = wc := ⟨_, rfl⟩
 rw [← hw4] at hz ⊢
 have Z4 : Hid _ := hz
 clear hw4 hz Z3
 go_upto_region 5 with fail
 go_cut [20] from 15 to 20 (fun v20 wc => v20 = .bool true ∧ Chg w wc ∧ Ar wc (w.heap.size + 1 + 1) (byt zD))
 case first =>
  refine regP 6 (fun j v wg => match j with
   | 0 => v = .bool true
   | 1 => v = .bool false
   | 2 => v = .bool false
   | 3 => v = .pointer (some ⟨w.heap.size + 1, 0, none⟩)
   | 4 => v = .bool true
   | 5 => v = .bool true
   | _ => True) (by decide) (by kernel_rfl) ?_ ?_ ?_
  ·intro j v u1 u2 h hc; exact h
  ·intro i o ac u hi ho hsz hf hg hc
   have hcs : i = 0 ∨ i = 1 ∨ i = 2 ∨ i = 3 ∨ i = 4 ∨ i = 5 := by omega
   rcases hcs with rfl | rfl | rfl | rfl | rfl | rfl <;> (injection ho with ho; subst ho)
   ·refine .inl ⟨wanted_none rfl, ?_⟩
    have e1 : ac.eval (.tmp 7) = .bool true := hf 7 (by kernel_rfl)
    exact opG_val (by simp [execOp, e1]) rfl (Chg.refl _)
   ·refine .inl ⟨wanted_none rfl, ?_⟩
    have e1 : ac.eval (.tmp 15) = .bool true := hg 0 (by decide) (by decide)
    exact opG_val (by revert e1; generalize ac.eval = ρ; intro e1; simp [go_sem, execOp, e1]) rfl (Chg.refl _)
   ·refine .inl ⟨wanted_none rfl, ?_⟩
    have e1 : ac.eval (.tmp 16) = .bool false := hg 1 (by decide) (by decide)
    exact opG_val (by simp [execOp, e1]) rfl (Chg.refl _)
   ·refine .inl ⟨wanted_by (T := _) (by kernel_rfl) hsz rfl (by decide : 2 < 6) rfl (hg 2 (by decide) (by decide)), ?_⟩
    have e1 : ac.eval (.tmp 3) = .pointer (some ⟨w.heap.size + 1, 0, none⟩) := hf 3 (by kernel_rfl)
    exact opG_val (by revert e1; generalize ac.eval = ρ; intro e1; simp [go_sem, execOp, e1]) rfl (Chg.refl _)
   ·refine .inl ⟨wanted_by (T := _) (by kernel_rfl) hsz rfl (by decide : 2 < 6) rfl (hg 2 (by decide) (by decide)), ?_⟩
    have c1 := cellPtZ (Z4.out.2.1.chg hc)
    have e1 : ac.eval (.tmp 18) = .pointer (some ⟨w.heap.size + 1, 0, none⟩) := hg 3 (by decide) (by decide)
    exact opG_val (by revert e1; generalize ac.eval = ρ; intro e1; simp [go_sem, execOp, e1, c1]) rfl (Chg.refl _)
   ·refine .inl ⟨wanted_none rfl, ?_⟩
    have e1 : ac.eval (.tmp 17) = .bool false := hg 2 (by decide) (by decide)
    have e2 : ac.eval (.const (.bool true)) = .bool true := rfl
    have e3 : ac.eval (.tmp 19) = .bool true := hg 4 (by decide) (by decide)
    exact opG_val (by revert e1 e2 e3; generalize ac.eval = ρ; intro e1 e2 e3; simp [go_sem, execOp, e1, e2, e3]) rfl (Chg.refl _)
  ·intro u V hV hc
   have q20 : V 5 = .bool true := hV 5 (by decide)
   go_wp2_with fail
   go_meet
   exact ⟨q20, (Z4.out.1.trans hc), (Z4.out.2.2.chg hc)⟩
 obtain ⟨rfl, hz⟩ := hcut
 obtain ⟨w5, hw5⟩ : ∃ zz0, zz0 = wc := ⟨_, rfl⟩
 rw [← hw5] at hz ⊢
 have Z5 : Hid _ := hz
 clear hw5 hz Z4
 go_upto_region 6 with fail
 go_cut [5] from 5 to 21 (fun v5 wc => v5 = .int .i64 131 ∧ Chg w wc ∧ Ar wc (w.heap.size + 1 + 1) (byt zD))
 case first =>
  refine regP 1 (fun j v wg => match j with
   | 0 => v = .agg (byt zD)
   | _ => True) (by decide) (by kernel_rfl) ?_ ?_ ?_
  ·intro j v u1 u2 h hc; exact h
  ·intro i o ac u hi ho hsz hf hg hc
   have hcs : i = 0 := by omega
   rcases hcs with rfl <;> (injection ho with ho; subst ho; refine .inl ⟨wanted_none rfl, ?_⟩)
   ·exact opG_built _ [] rfl (by kernel_rfl) (by kernel_rfl) rfl
  ·intro u V hV hc
   have q21 : V 0 = .agg (byt zD) := hV 0 (by decide)
   have hres0 := (Z5.out.2.chg hc)
   refine wpList_store_mid rfl 40 (.tmp 4) (.tmp 21) rfl (w.heap.size + 1 + 1) 0 (byt zD) (by rfl) (Eq.trans (by rfl) q21) (by rw [byt_size]; exact thereY hres0) (szY _) (oneY _) ?_
   rw [setRowY hres0 _]
   have k0_c : Chg w (u.setRow (w.heap.size + 1 + 1) (byt zD)) := ((Z5.out.1.trans hc).setRow (by omega) _)
   have k0_B4 := hres0.row (byt zD)
   generalize (u.setRow (w.heap.size + 1 + 1) (byt zD)) = u10 at k0_c k0_B4 ⊢
   go_wp2_with fail
   go_meet
   exact ⟨rfl, k0_c, k0_B4⟩
 obtain ⟨rfl, hz⟩ := hcut
 obtain ⟨w6, hw6⟩ : ∃ zz0, zz0 = wc := ⟨_, rfl⟩
 rw [← hw6] at hz ⊢
 have Z6 : Hid _ := hz
 clear hw6 hz Z5
 go_wp2_with fail
 exact bp_yt Try.results22 rfl rfl rfl Z6.out.2 ⟨rfl, Z6.out.1⟩
set_option maxHeartbeats 16000000 in
theorem shS_4 (d : Int) (x y : Int) (hd : N256 d) (hx : N256 x) (hy : N256 y) (h1 : cnt d = true) (h2 : onR false x y = true) (S : PQt) (hs : mulR d false x y = S) (w : World) : Calls Try.prog 22 #[.agg (num d), .agg (pt false x y)] w fun r w' => r = .returned (.tuple #[.agg (byt (tu (dg 256 (xP S)))), .int .i64 0]) ∧ Chg w w' := by
 have HN : Hid (N256 d ∧ N256 x ∧ N256 y) := ⟨hd, hx, hy⟩
 clear hd hx hy
 have H1 : Hid (cnt d = true) := h1
 clear h1
 have H2 : Hid (onR false x y = true) := h2
 clear h2
 have HS : Hid (mulR d false x y = S) := hs
 clear hs
 have hz0 := zero37.1
 have hsA0 := num_size d
 obtain ⟨A0, hA0⟩ : ∃ zz0, zz0 = num d := ⟨_, rfl⟩
 have HA0 : Hid (A0 = num d) := hA0
 have hsA1 := pt_size false x y
 obtain ⟨A1, hA1⟩ : ∃ zz0, zz0 = pt false x y := ⟨_, rfl⟩
 have HA1 : Hid (A1 = pt false x y) := hA1
 rw [← hA0] at hsA0 ⊢
 rw [← hA1] at hsA1 ⊢
 clear hA0 hA1
 go_enter Try.func22, Try.ntmps22
 go_upto_region 1 with fail
 obtain ⟨w1, hw1⟩ : ∃ w1, w1 = ((w.alloc (.cells A0 24)).alloc (.cells A1 26)).alloc (.cells (byt zD) 40) := ⟨_, rfl⟩
 have Z1 : Hid (Chg w w1 ∧ Ar w1 w.heap.size (num d) ∧ Ar w1 (w.heap.size + 1) (pt false x y) ∧ Ar w1 (w.heap.size + 1 + 1) (byt zD)) := by
  have hnew0 := Ar.new w (num d) 24
  have hnew1 := Ar.new (w.alloc (.cells (num d) 24)) (pt false x y) 26
  rw [World.size_alloc] at hnew1
  have hnew2 := Ar.new ((w.alloc (.cells (num d) 24)).alloc (.cells (pt false x y) 26)) (byt zD) 40
  rw [World.size_alloc, World.size_alloc] at hnew2
  rw [hw1, HA0.out, HA1.out]
  exact ⟨((((Chg.refl w).alloc _).alloc _).alloc _), (((hnew0).alloc _).alloc _), ((hnew1).alloc _), (hnew2)⟩
 rw [← hw1]
 clear hw1 hz0 hsA0 hsA1 HA0 HA1
 go_cut [6] from 6 to 9 (fun v6 wc => v6 = .bool true ∧ Chg w wc ∧ Ar wc w.heap.size (num d) ∧ Ar wc (w.heap.size + 1) (pt false x y) ∧ Ar wc (w.heap.size + 1 + 1) (byt zD))
 case first =>
  refine regP 3 (fun j v wg => match j with
   | 0 => v = .agg (num d)
   | 1 => v = .bool true
   | 2 => v = .bool true
   | _ => True) (by decide) (by kernel_rfl) ?_ ?_ ?_
  ·intro j v u1 u2 h hc; exact h
  ·intro i o ac u hi ho hsz hf hg hc
   have hcs : i = 0 ∨ i = 1 ∨ i = 2 := by omega
   rcases hcs with rfl | rfl | rfl <;> (injection ho with ho; subst ho; refine .inl ⟨wanted_none rfl, ?_⟩)
   ·exact ldN rfl (hf 2 (by kernel_rfl)) (rangeAp (Z1.out.2.1.chg hc)) rfl
   ·have e1 : ac.eval (.tmp 8) = .agg (num d) := hg 0 (by decide) (by decide)
    refine opG_go 48 Try.f48 #[.tmp 8] #[24] rfl Try.func48 (by kernel_rfl) (by kernel_rfl) (by simp [e1]) (Calls.mono (cntS_any HN.out.1 H1.out _) ?_)
    rintro r u2 ⟨rfl, hc2⟩
    exact ⟨_, rfl, rfl, hc2⟩
   ·have e1 : ac.eval (.tmp 9) = .bool true := hg 1 (by decide) (by decide)
    exact opG_val (by simp [execOp, e1]) rfl (Chg.refl _)
  ·intro u V hV hc
   have q6 : V 2 = .bool true := hV 2 (by decide)
   go_wp2_with fail
   go_meet
   exact ⟨q6, (Z1.out.1.trans hc), (Z1.out.2.1.chg hc), (Z1.out.2.2.1.chg hc), (Z1.out.2.2.2.chg hc)⟩
 obtain ⟨rfl, hz⟩ := hcut
 obtain ⟨w2, hw2⟩ : ∃ zz0, zz0 = wc := ⟨_, rfl⟩
 rw [← hw2] at hz ⊢
 have Z2 : Hid _ := hz
 clear hw2 hz Z1
 go_upto_region 2 with fail
 go_cut [7] from 7 to 11 (fun v7 wc => v7 = .bool true ∧ Chg w wc ∧ Ar wc w.heap.size (num d) ∧ Ar wc (w.heap.size + 1) (pt false x y) ∧ Ar wc (w.heap.size + 1 + 1) (byt zD))
 case first =>
  refine regP 3 (fun j v wg => match j with
   | 0 => v = .agg (pt false x y)
   | 1 => v = .bool true
   | 2 => v = .bool true
   | _ => True) (by decide) (by kernel_rfl) ?_ ?_ ?_
  ·intro j v u1 u2 h hc; exact h
  ·intro i o ac u hi ho hsz hf hg hc
   have hcs : i = 0 ∨ i = 1 ∨ i = 2 := by omega
   rcases hcs with rfl | rfl | rfl <;> (injection ho with ho; subst ho; refine .inl ⟨wanted_none rfl, ?_⟩)
   ·have e1 : ac.eval (.tmp 3) = .pointer (some ⟨w.heap.size + 1, 0, none⟩) := hf 3 (by kernel_rfl)
    exact wp_load_mid 26 (.tmp 3) rfl _ _ e1 ((pt false x y).toList) _ (rangeAp (Z2.out.2.2.1.chg hc)) Try.underlying26 rfl (infoPt _ _ _) ⟨_, rfl, rfl, Chg.refl _⟩
   ·have e1 : ac.eval (.tmp 10) = .agg (pt false x y) := hg 0 (by decide) (by decide)
    refine opG_go 14 Try.f14 #[.tmp 10] #[26] rfl Try.func14 (by kernel_rfl) (by kernel_rfl) (by simp [e1]) (Calls.mono (onSL_any HN.out.2.1 HN.out.2.2 H2.out _) ?_)
    rintro r u2 ⟨rfl, hc2⟩
    exact ⟨_, rfl, rfl, hc2⟩
   ·have e1 : ac.eval (.tmp 11) = .bool true := hg 1 (by decide) (by decide)
    exact opG_val (by simp [execOp, e1]) rfl (Chg.refl _)
  ·intro u V hV hc
   have q7 : V 2 = .bool true := hV 2 (by decide)
   go_wp2_with fail
   go_meet
   exact ⟨q7, (Z2.out.1.trans hc), (Z2.out.2.1.chg hc), (Z2.out.2.2.1.chg hc), (Z2.out.2.2.2.chg hc)⟩
 obtain ⟨rfl, hz⟩ := hcut
 obtain ⟨w3, hw3⟩ : ∃ zz0, zz0 = wc := ⟨_, rfl⟩
 rw [← hw3] at hz ⊢
 have Z3 : Hid _ := hz
 clear hw3 hz Z2
 go_upto_region 3 with fail
 go_cut [13] from 12 to 13 (fun v13 wc => v13 = .bool false ∧ Chg w wc ∧ Ar wc w.heap.size (num d) ∧ Ar wc (w.heap.size + 1) (pt false x y) ∧ Ar wc (w.heap.size + 1 + 1) (byt zD))
 case first =>
  refine regP 2 (fun j v wg => match j with
   | 0 => v = .bool true
   | 1 => v = .bool false
   | _ => True) (by decide) (by kernel_rfl) ?_ ?_ ?_
  ·intro j v u1 u2 h hc; exact h
  ·intro i o ac u hi ho hsz hf hg hc
   have hcs : i = 0 ∨ i = 1 := by omega
   rcases hcs with rfl | rfl <;> (injection ho with ho; subst ho; refine .inl ⟨wanted_none rfl, ?_⟩)
   ·have e1 : ac.eval (.tmp 6) = .bool true := hf 6 (by kernel_rfl)
    exact opG_val (by simp [execOp, e1]) rfl (Chg.refl _)
   ·have e1 : ac.eval (.tmp 12) = .bool true := hg 0 (by decide) (by decide)
    exact opG_val (by revert e1; generalize ac.eval = ρ; intro e1; simp [go_sem, execOp, e1]) rfl (Chg.refl _)
  ·intro u V hV hc
   have q13 : V 1 = .bool false := hV 1 (by decide)
   go_wp2_with fail
   go_meet
   exact ⟨q13, (Z3.out.1.trans hc), (Z3.out.2.1.chg hc), (Z3.out.2.2.1.chg hc), (Z3.out.2.2.2.chg hc)⟩
 obtain ⟨rfl, hz⟩ := hcut
 obtain ⟨w4, hw4⟩ : ∃ zz0, zz0 = wc := ⟨_, rfl⟩
 rw [← hw4] at hz ⊢
 have Z4 : Hid _ := hz
 clear hw4 hz Z3
 go_upto_region 5 with fail
 go_cut [20] from 15 to 20 (fun v20 wc => v20 = .bool false ∧ Chg w wc ∧ Ar wc w.heap.size (num d) ∧ Ar wc (w.heap.size + 1) (pt false x y) ∧ Ar wc (w.heap.size + 1 + 1) (byt zD))
 case first =>
  refine regP 6 (fun j v wg => match j with
   | 0 => v = .bool true
   | 1 => v = .bool false
   | 2 => v = .bool false
   | 3 => v = .pointer (some ⟨w.heap.size + 1, 0, none⟩)
   | 4 => v = .bool false
   | 5 => v = .bool false
   | _ => True) (by decide) (by kernel_rfl) ?_ ?_ ?_
  ·intro j v u1 u2 h hc; exact h
  ·intro i o ac u hi ho hsz hf hg hc
   have hcs : i = 0 ∨ i = 1 ∨ i = 2 ∨ i = 3 ∨ i = 4 ∨ i = 5 := by omega
   rcases hcs with rfl | rfl | rfl | rfl | rfl | rfl <;> (injection ho with ho; subst ho)
   ·refine .inl ⟨wanted_none rfl, ?_⟩
    have e1 : ac.eval (.tmp 7) = .bool true := hf 7 (by kernel_rfl)
    exact opG_val (by simp [execOp, e1]) rfl (Chg.refl _)
   ·refine .inl ⟨wanted_none rfl, ?_⟩
    have e1 : ac.eval (.tmp 15) = .bool true := hg 0 (by decide) (by decide)
    exact opG_val (by revert e1; generalize ac.eval = ρ; intro e1; simp [go_sem, execOp, e1]) rfl (Chg.refl _)
   ·refine .inl ⟨wanted_none rfl, ?_⟩
    have e1 : ac.eval (.tmp 16) = .bool false := hg 1 (by decide) (by decide)
    exact opG_val (by simp [execOp, e1]) rfl (Chg.refl _)
   ·refine .inl ⟨wanted_by (T := _) (by kernel_rfl) hsz rfl (by decide : 2 < 6) rfl (hg 2 (by decide) (by decide)), ?_⟩
    have e1 : ac.eval (.tmp 3) = .pointer (some ⟨w.heap.size + 1, 0, none⟩) := hf 3 (by kernel_rfl)
    exact opG_val (by revert e1; generalize ac.eval = ρ; intro e1; simp [go_sem, execOp, e1]) rfl (Chg.refl _)
   ·refine .inl ⟨wanted_by (T := _) (by kernel_rfl) hsz rfl (by decide : 2 < 6) rfl (hg 2 (by decide) (by decide)), ?_⟩
    have c1 := cellPtZ (Z4.out.2.2.1.chg hc)
    have e1 : ac.eval (.tmp 18) = .pointer (some ⟨w.heap.size + 1, 0, none⟩) := hg 3 (by decide) (by decide)
    exact opG_val (by revert e1; generalize ac.eval = ρ; intro e1; simp [go_sem, execOp, e1, c1]) rfl (Chg.refl _)
   ·refine .inl ⟨wanted_none rfl, ?_⟩
    have e1 : ac.eval (.tmp 17) = .bool false := hg 2 (by decide) (by decide)
    have e2 : ac.eval (.const (.bool true)) = .bool true := rfl
    have e3 : ac.eval (.tmp 19) = .bool false := hg 4 (by decide) (by decide)
    exact opG_val (by revert e1 e2 e3; generalize ac.eval = ρ; intro e1 e2 e3; simp [go_sem, execOp, e1, e2, e3]) rfl (Chg.refl _)
  ·intro u V hV hc
   have q20 : V 5 = .bool false := hV 5 (by decide)
   go_wp2_with fail
   go_meet
   exact ⟨q20, (Z4.out.1.trans hc), (Z4.out.2.1.chg hc), (Z4.out.2.2.1.chg hc), (Z4.out.2.2.2.chg hc)⟩
 obtain ⟨rfl, hz⟩ := hcut
 obtain ⟨w5, hw5⟩ : ∃ zz0, zz0 = wc := ⟨_, rfl⟩
 rw [← hw5] at hz ⊢
 have Z5 : Hid _ := hz
 clear hw5 hz Z4
 go_upto_region 7 with fail
 go_cut [5] from 5 to 26 (fun v5 wc => v5 = .int .i64 0 ∧ Chg w wc ∧ Ar wc (w.heap.size + 1 + 1) (byt (tu (dg 256 (xP S)))))
 case first =>
  refine regP 5 (fun j v wg => match j with
   | 0 => v = .agg (num d)
   | 1 => v = .agg (pt false x y)
   | 2 => v = .agg (pt (zP S) (xP S) (yP S))
   | 3 => v = .agg (num (xP S))
   | 4 => v = .agg (byt (tu (dg 256 (xP S))))
   | _ => True) (by decide) (by kernel_rfl) ?_ ?_ ?_
  ·intro j v u1 u2 h hc; exact h
  ·intro i o ac u hi ho hsz hf hg hc
   have hcs : i = 0 ∨ i = 1 ∨ i = 2 ∨ i = 3 ∨ i = 4 := by omega
   rcases hcs with rfl | rfl | rfl | rfl | rfl <;> (injection ho with ho; subst ho; refine .inl ⟨wanted_none rfl, ?_⟩)
   ·exact ldN rfl (hf 2 (by kernel_rfl)) (rangeAp (Z5.out.2.1.chg hc)) rfl
   ·have e1 : ac.eval (.tmp 3) = .pointer (some ⟨w.heap.size + 1, 0, none⟩) := hf 3 (by kernel_rfl)
    exact wp_load_mid 26 (.tmp 3) rfl _ _ e1 ((pt false x y).toList) _ (rangeAp (Z5.out.2.2.1.chg hc)) Try.underlying26 rfl (infoPt _ _ _) ⟨_, rfl, rfl, Chg.refl _⟩
   ·have e1 : ac.eval (.tmp 22) = .agg (num d) := hg 0 (by decide) (by decide)
    have e2 : ac.eval (.tmp 23) = .agg (pt false x y) := hg 1 (by decide) (by decide)
    refine opG_go 12 Try.f12 #[.tmp 22, .tmp 23] #[24, 26] rfl Try.func12 (by kernel_rfl) (by kernel_rfl) (by simp [e1, e2]) (Calls.mono (multS_any _ _ _ _ HN.out.1 HN.out.2.1 HN.out.2.2 S HS.out _) ?_)
    rintro r u2 ⟨rfl, hc2⟩
    exact ⟨_, rfl, rfl, hc2⟩
   ·have e1 : ac.eval (.tmp 24) = .agg (pt (zP S) (xP S) (yP S)) := hg 2 (by decide) (by decide)
    exact opG_val (by revert e1; generalize ac.eval = ρ; intro e1; simp [go_sem, execOp, e1, run_fieldX]) rfl (Chg.refl _)
   ·have e1 : ac.eval (.tmp 25) = .agg (num (xP S)) := hg 3 (by decide) (by decide)
    refine opG_go 49 Try.f49 #[.tmp 25] #[24] rfl Try.func49 (by kernel_rfl) (by kernel_rfl) (by simp [e1]) (Calls.mono (toBER_any (xP S) _) ?_)
    rintro r u2 ⟨rfl, hc2⟩
    exact ⟨_, rfl, rfl, hc2⟩
  ·intro u V hV hc
   have q26 : V 4 = .agg (byt (tu (dg 256 (xP S)))) := hV 4 (by decide)
   have hres0 := (Z5.out.2.2.2.chg hc)
   refine wpList_store_mid rfl 40 (.tmp 4) (.tmp 26) rfl (w.heap.size + 1 + 1) 0 (byt (tu (dg 256 (xP S)))) (by rfl) (Eq.trans (by rfl) q26) (by rw [byt_size]; exact thereY hres0) (szY _) (oneY _) ?_
   rw [setRowY hres0 _]
   have k0_c : Chg w (u.setRow (w.heap.size + 1 + 1) (byt (tu (dg 256 (xP S))))) := ((Z5.out.1.trans hc).setRow (by omega) _)
   have k0_B4 := hres0.row (byt (tu (dg 256 (xP S))))
   generalize (u.setRow (w.heap.size + 1 + 1) (byt (tu (dg 256 (xP S))))) = u10 at k0_c k0_B4 ⊢
   go_wp2_with fail
   go_meet
   exact ⟨rfl, k0_c, k0_B4⟩
 obtain ⟨rfl, hz⟩ := hcut
 obtain ⟨w6, hw6⟩ : ∃ zz0, zz0 = wc := ⟨_, rfl⟩
 rw [← hw6] at hz ⊢
 have Z6 : Hid _ := hz
 clear hw6 hz Z5
 go_wp2_with fail
 exact bp_yt Try.results22 rfl rfl rfl Z6.out.2 ⟨rfl, Z6.out.1⟩
theorem shS_any {d : Int} {z : Bool} {x y : Int} (hd : N256 d) (hx : N256 x) (hy : N256 y) {f : Nat → Int} {e : Int} (hf : shB d z x y = f) (he : shE d z x y = e) (w : World) : Calls Try.prog 22 #[.agg (num d), .agg (pt z x y)] w fun r w' => r = .returned (.tuple #[.agg (byt f), .int .i64 e]) ∧ Chg w w' := by
 rw [← hf, ← he]
 unfold shB shE
 rw [tell_eq]
 cases h1 : cnt d with
 | false => exact shS_1 d z x y hd hx hy h1 rfl w
 | true =>
  cases h2 : onR z x y with
  | false => exact shS_2 d z x y hd hx hy h1 h2 w
  | true =>
   cases z with
   | true => exact shS_3 d x y hd hx hy h1 h2 w
   | false => exact shS_4 d x y hd hx hy h1 h2 _ rfl w
end Go.Proofs.Ytbdgmkejmfjobaa
