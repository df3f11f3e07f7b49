/-
  The point that bytes tell: the program.
-/
import Derived.Test.YtjfidbifjagnpaaDoorEv
import Derived.Test.YtjfidbifjagnpaaDoorJh
import Derived.Test.YtjfidbifjagnpaaDoorSm
import Derived.Test.YtjfidbifjagnpaaDoorJf
import Derived.Test.YtjfidbifjagnpaaDoorJc
namespace Go.Proofs.YtjfidbifjagnpaaDoor
open Go.RowKit
set_option linter.unusedVariables false
set_option maxRecDepth 100000
theorem bp_4t {fn : Func} {R : Ending → World → Prop} {a : Act} {w : World} {p v b : Nat} {x y z t : Int} {c : Value} (h : fn.results = #[.cell p 44, .tmp v]) (hd : a.defers = []) (hp : a.tmps.getD p undef = .pointer (some ⟨b, 0, none⟩)) (hv : a.tmps.getD v undef = c) (ha : Ar w b (q4 x y z t)) (hR : R (.returned (.tuple #[.agg (q4 x y z t), c])) w) : bodyPost Tryd.prog fn R .ret a w := by
 refine bodyPost_ret (v := .tuple #[.agg (q4 x y z t), c]) ?_ hd hR
 rw [Array.getD_eq_getD_getElem?] at hp hv
 simp only [results, h]
 simp [Result.andThen, hp, hv, asAddr, ha.loadP4]
theorem built_z4 (a : Act) : Tryd.prog.built 44 ((#[] : Array (Nat × Operand)).map fun (p : Nat × Operand) => (p.1, a.eval p.2)).toList = some (q4 0 0 0 0) := by kernel_rfl
theorem opG_agg {o : Oper} {a : Act} {w : World} {c : Array Value} {T : TypeId} {G : Value → World → Prop} {Q : Exit → Act → World → Prop} (l : Array (Nat × Operand)) (ho : o.op = .build T l) (h : Tryd.prog.built T (l.map fun (p : Nat × Operand) => (p.1, a.eval p.2)).toList = some c) (hG : G (.agg c) w) : o.wp Tryd.prog a w (fun a' u => ∃ v, a' = a.put o.dst v ∧ G v u ∧ Chg w u) Q := by
 refine wp_build T _ ho ?_ ?_
 ·show (Tryd.prog.built T (l.map fun (p : Nat × Operand) => (p.1, a.eval p.2)).toList).isSome = true
  rw [h]
  rfl
 ·show ∃ v, a.put o.dst (.agg ((Tryd.prog.built T (l.map fun (p : Nat × Operand) => (p.1, a.eval p.2)).toList).getD #[])) = a.put o.dst v ∧ G v w ∧ Chg w w
  rw [h]
  exact ⟨_, rfl, hG, Chg.refl _⟩
def tx (e : Nat → Int) : Int := if tell e then xOf e else 0
def ty (e : Nat → Int) : Int := if tell e then yOf e else 0
def tz (e : Nat → Int) : Int := if tell e then 1 else 0
def tt (e : Nat → Int) : Int := if tell e then md 1 (xOf e * yOf e) else 0
theorem t_0 {e : Nat → Int} (h : tell e = false) : q4 (tx e) (ty e) (tz e) (tt e) = q4 0 0 0 0 := by unfold tx ty tz tt; rw [h]; rfl
theorem t_1 {e : Nat → Int} (h : tell e = true) : q4 (tx e) (ty e) (tz e) (tt e) = q4 (xOf e) (yOf e) 1 (md 1 (xOf e * yOf e)) := by unfold tx ty tz tt; rw [h]; rfl
theorem tell_pt {e : Nat → Int} (he : ∀ i, B8 (e i)) (h : tell e = true) : PT (tx e) (ty e) (tz e) (tt e) (tP e) := by
 have k := PT.at (xBit_N (yOf e) (od e)) (yOf_N he) (tell_on h)
 unfold tx ty tz tt
 rw [h]
 exact k
theorem op_pick {o : Oper} {a : Act} {w : World} {K : Act → World → Prop} {Q : Exit → Act → World → Prop} (c t f : Operand) (cb : Bool) (v : Value) (ho : o.op = .pick c t f) (hc : a.eval c = .bool cb) (hv : (if cb = true then a.eval t else a.eval f) = v) (hK : K (a.put o.dst v) w) : o.wp Tryd.prog a w K Q := by
 refine op_val1 (v := v) ?_ hK
 revert hc hv
 generalize a.eval = ρ
 intro hc hv
 rw [← hv]
 cases cb <;> simp [go_sem, execOp, ho, hc]
theorem wi_is {y : Int} {o : Bool} (h : isX y = false) : wi y o = false := by unfold wi; rw [h]; rfl
set_option maxHeartbeats 16000000 in
theorem decodeE_any (e : Nat → Int) (he : ∀ i, B8 (e i)) (w : World) : Calls Tryd.prog 15 #[.agg (byt e)] w fun r w' => r = .returned (.tuple #[.agg (q4 (tx e) (ty e) (tz e) (tt e)), .bool (tell e)]) ∧ Chg w w' := by
 have HE : Hid (∀ i, B8 (e i)) := he
 have hz := zeroP4.1
 have hsA := byt_size e
 have hb31 := he 31
 have k1 := b_top hb31
 have k2 := (b_hi hb31).1
 obtain ⟨d, hd⟩ : ∃ zz0, zz0 = e 31 := ⟨_, rfl⟩
 obtain ⟨bo, hbo⟩ : ∃ zz0, zz0 = od e := ⟨_, rfl⟩
 have HO : Hid (od e = bo) := hbo.symm
 rw [← hd] at k1 k2
 have k1' : (!(bits .and .u8 d 128 == 0)) = bo := by rw [k1, hbo, hd]; rfl
 obtain ⟨d7, hd7⟩ : ∃ zz0, zz0 = d % 128 := ⟨_, rfl⟩
 rw [← hd7] at k2
 obtain ⟨q, hq⟩ : ∃ zz0, bits .and .u8 d 128 = zz0 := ⟨_, rfl⟩
 rw [hq] at k1'
 have k3 : (q == 0) = !bo := by rw [← k1', Bool.not_not]
 have k4 : decide (q = 0) = !bo := by rw [← k3]; rfl
 have k5 : (q != 0) = bo := k1'
 have HD : Hid (d = e 31 ∧ d7 = e 31 % 128) := ⟨hd, by rw [hd7, hd]⟩
 obtain ⟨A, hA⟩ : ∃ A, A = byt e := ⟨_, rfl⟩
 have HA : Hid (A = byt e) := hA
 rw [← hA] at hsA ⊢
 clear hA he hb31 k1 k1' hd hd7 hbo
 go_enter Tryd.func15, Tryd.ntmps15
 go_upto_region 1 with fail
 obtain ⟨w1, hw1⟩ : ∃ w1, w1 = (w.alloc (.cells A 22)).alloc (.cells (q4 0 0 0 0) 44) := ⟨_, rfl⟩
 have Z1 : Hid (Chg w w1 ∧ Ar w1 w.heap.size (byt e) ∧ Ar w1 (w.heap.size + 1) (q4 0 0 0 0)) := by
  have hnew0 := Ar.new w (byt e) 22
  have hnew1 := Ar.new (w.alloc (.cells (byt e) 22)) (q4 0 0 0 0) 44
  rw [World.size_alloc] at hnew1
  rw [hw1, HA.out]
  exact ⟨(((Chg.refl w).alloc _).alloc _), ((hnew0).alloc _), (hnew1)⟩
 rw [← hw1]
 clear hw1
 clear hsA hz HA
 have c31 : w1.cell? ⟨w.heap.size, 31, none⟩ = some (.int .u8 d) := by
  rw [HD.out.1]
  exact (Z1.out.2.1.cell 31).trans (arr_get _ _ _ (by decide))
 have f31 := Z1.out.2.1.frozen 31
 go_upto_region 3 with fail
 obtain ⟨w2, hw2⟩ : ∃ zz0, zz0 = w1.setCell ⟨w.heap.size, 31, none⟩ (.int .u8 d7) := ⟨_, rfl⟩
 have Z2 : Hid (Chg w w2 ∧ Ar w2 w.heap.size (byt (cu e)) ∧ Ar w2 (w.heap.size + 1) (q4 0 0 0 0)) := by
  rw [hw2]
  refine ⟨Z1.out.1.setCell (Nat.le_refl _) _, ?_, Z1.out.2.2.other (by show _ ≠ w.heap.size; omega) _⟩
  unfold cu byt
  rw [← HD.out.2, ← arr_set]
  exact Z1.out.2.1.set 31 _
 rw [← hw2]
 clear hw2 c31 f31 Z1 k2 hq
 go_upto_region 3 with fail
 go_cut [5] from 5 to 17 (fun v5 wc => ∃ b5, v5 = .pointer (some ⟨b5, 0, none⟩) ∧ w2.heap.size ≤ b5 ∧ Ar wc b5 (num (yOf e)) ∧ Chg w2 wc)
 case first =>
  refine regS 3 (fun j v wg => match j with
   | 0 => v = .agg (byt (cu e))
   | 1 => v = .agg (num (yOf e))
   | 2 => ∃ b, v = .pointer (some ⟨b, 0, none⟩) ∧ Ar wg b (num 0) ∧ w2.heap.size ≤ b
   | _ => True) (by kernel_rfl) (by kernel_rfl) ?_ ?_ ?_
  ·intro j v u1 u2 h hc
   match j, h with
   | 0, h => exact h
   | 1, h => exact h
   | 2, h => (obtain ⟨b, h1, h2, h3⟩ := h; exact ⟨b, h1, h2.chg hc, h3⟩)
   | _ + 3, h => exact trivial
  ·intro i o ac u hi ho hsz hf hg hc
   have hcs : i = 0 ∨ i = 1 ∨ i = 2 := by omega
   rcases hcs with rfl | rfl | rfl
   ·injection ho with ho
    subst ho
    refine .inl ⟨wanted_none rfl, ?_⟩
    have e1 : ac.eval (.tmp 1) = .pointer (some ⟨w.heap.size, 0, none⟩) := hf 1 (by kernel_rfl)
    exact wp_load_mid 22 (.tmp 1) rfl _ _ e1 ((byt (cu e)).toList) _ (rangeAp (Z2.out.2.1.chg hc)) un37 rfl (infoY _) ⟨_, rfl, rfl, Chg.refl _⟩
   ·injection ho with ho
    subst ho
    refine .inl ⟨wanted_none rfl, ?_⟩
    have e1 : ac.eval (.tmp 16) = .agg (byt (cu e)) := hg 0 (by decide) (by decide)
    refine opG_go 16 Tryd.f16 #[.tmp 16] #[22] rfl Tryd.func16 (by kernel_rfl) (by kernel_rfl) (by simp [e1]) (Calls.mono (fromLE_any (cu e) (cu_8 HE.out) _) ?_)
    rintro r u2 ⟨rfl, hc2⟩
    exact ⟨_, rfl, rfl, hc2⟩
   ·injection ho with ho
    subst ho
    refine .inl ⟨wanted_none rfl, ?_⟩
    exact opG_val (v := .pointer (some ⟨u.heap.size, 0, none⟩)) (w' := u.alloc (.cells (num 0) 32)) (by generalize ac.eval = ρ; simp [go_sem, execOp, zero25.1]) ⟨_, rfl, Ar.new _ _ _, hc.size⟩ ((Chg.refl _).alloc _)
  ·intro o u V ho hV hc
   injection ho with ho
   subst ho
   refine ⟨rfl, ?_⟩
   have q16 : V 0 = .agg (byt (cu e)) := hV 0 (by decide)
   have q17 : V 1 = .agg (num (yOf e)) := hV 1 (by decide)
   obtain ⟨b5, q5, r5, s5⟩ := hV 2 (by decide)
   refine wp_store_mid 32 (.tmp 5) (.tmp 17) rfl b5 0 (num (yOf e)) (Eq.trans (by rfl) q5) (Eq.trans (by rfl) q17) (by rw [num_size]; exact thereN r5) (szN _) (num_one _) ?_
   rw [show u.setCells b5 0 (num (yOf e)).toList = u.setRow b5 (num (yOf e)) from setRowN r5 _]
   go_wp2_with fail
   go_meet
   exact ⟨b5, q5, s5, r5.row _, hc.setRow s5 _⟩
 obtain ⟨b5, rfl, l5, ha5, hcc⟩ := hcut
 obtain ⟨w3, hw3⟩ : ∃ zz0, zz0 = wc := ⟨_, rfl⟩
 rw [← hw3] at hcc ha5 ⊢
 clear hw3
 have O5 : Hid (w.heap.size < b5 ∧ w.heap.size + 1 < b5) := ⟨Nat.lt_of_lt_of_le (Z2.out.2.1.lt) l5, Nat.lt_of_lt_of_le (Z2.out.2.2.lt) l5⟩
 have Z3 : Hid (Chg w w3 ∧ Ar w3 w.heap.size (byt (cu e)) ∧ Ar w3 (w.heap.size + 1) (q4 0 0 0 0) ∧ Ar w3 b5 (num (yOf e))) := ⟨Z2.out.1.trans hcc, Z2.out.2.1.chg hcc, Z2.out.2.2.chg hcc, ha5⟩
 clear hcc ha5 l5 Z2
 obtain ⟨y, hy⟩ : ∃ zz0, zz0 = yOf e := ⟨_, rfl⟩
 have HY : Hid (yOf e = y ∧ N256 y) := ⟨hy.symm, by rw [hy]; exact yOf_N HE.out⟩
 have Zy : Hid (Chg w w3 ∧ Ar w3 w.heap.size (byt (cu e)) ∧ Ar w3 (w.heap.size + 1) (q4 0 0 0 0) ∧ Ar w3 b5 (num y)) := by rw [hy]; exact Z3.out
 clear hy Z3
 obtain ⟨bR, hbR⟩ : ∃ zz0, zz0 = decide (y < mo 1) := ⟨_, rfl⟩
 have HR : Hid (decide (y < mo 1) = bR) := hbR.symm
 have r5 := rangeAp Zy.out.2.2.2
 have i5 := infoN y
 have HC : Hid (∀ W, Calls Tryd.prog 17 #[.int .i64 1, .agg (num y)] W fun r w' => r = .returned (.bool bR) ∧ Chg W w') := fun W => by rw [hbR]; exact right_any 1 y HY.out.2 W
 obtain ⟨X5, hX5⟩ : ∃ zz0, zz0 = num y := ⟨_, rfl⟩
 rw [← hX5] at r5 i5 HC
 clear hbR hX5
 go_upto_if 20 with (first | refine wpList_load_mid rfl 32 (.tmp 5) rfl _ _ rfl (X5.toList) _ r5 undNum rfl i5 ?_ | (go_at_call 17; (refine (HC.out _).mono ?_; rintro r w4 ⟨rfl, hcq⟩)))
 have Z4 : Hid (Chg w w4 ∧ Ar w4 w.heap.size (byt (cu e)) ∧ Ar w4 (w.heap.size + 1) (q4 0 0 0 0) ∧ Ar w4 b5 (num y)) := ⟨Zy.out.1.trans hcq, Zy.out.2.1.chg hcq, Zy.out.2.2.1.chg hcq, Zy.out.2.2.2.chg hcq⟩
 clear Zy hcq r5 i5 HC
 cases bR
 ·have HT : Hid (tell e = false) := by show tell e = false; unfold tell; rw [HY.out.1, HR.out]; rfl
  go_upto_region 5 with fail
  go_cut [3] from 3 to 21 (fun v3 wc => v3 = .bool false ∧ Chg w wc ∧ Ar wc w.heap.size (byt (cu e)) ∧ Ar wc (w.heap.size + 1) (q4 0 0 0 0) ∧ Ar wc b5 (num y))
  case first =>
   refine regL 1 (fun j v wg => match j with
    | 0 => v = .agg (q4 0 0 0 0)
    | _ => True) (by decide) (by kernel_rfl) ?_ ?_ ?_
   ·intro j v u1 u2 h hc
    match j, h with
    | 0, h => exact h
    | _ + 1, h => exact trivial
   ·intro i o ac u hi ho hsz hf hg hc
    have hcs : i = 0 := by omega
    rcases hcs with rfl
    ·injection ho with ho
     subst ho
     refine .inl ⟨wanted_none rfl, ?_⟩
     exact opG_agg _ rfl (built_z4 ac) rfl
   ·intro u V hV hc
    have q21 : V 0 = .agg (q4 0 0 0 0) := hV 0 (by decide)
    have hres := Z4.out.2.2.1.chg hc
    refine wpList_store_mid rfl 44 (.tmp 2) (.tmp 21) rfl (w.heap.size + 1) 0 (q4 0 0 0 0) (by rfl) (Eq.trans (by rfl) q21) (by rw [q4_size]; exact nms_there hres 0 4 (by omega)) (szP4 _ _ _ _) (q4_one _ _ _ _) ?_
    rw [show u.setCells (w.heap.size + 1) 0 (q4 0 0 0 0).toList = u.setRow (w.heap.size + 1) (q4 0 0 0 0) from setRowP4 hres _ _ _ _]
    have ordO5 := O5.out
    have q8 : Hid (Chg w (u.setRow (w.heap.size + 1) (q4 0 0 0 0)) ∧ Ar (u.setRow (w.heap.size + 1) (q4 0 0 0 0)) w.heap.size (byt (cu e)) ∧ Ar (u.setRow (w.heap.size + 1) (q4 0 0 0 0)) (w.heap.size + 1) (q4 0 0 0 0) ∧ Ar (u.setRow (w.heap.size + 1) (q4 0 0 0 0)) b5 (num y)) := ⟨(Z4.out.1.trans hc).setRow (by omega) _, (Z4.out.2.1.chg hc).rowOther (by omega) _, hres.row _, (Z4.out.2.2.2.chg hc).rowOther (by omega) _⟩
    generalize u.setRow (w.heap.size + 1) (q4 0 0 0 0) = uu at *
    go_wp2_with fail
    go_meet
    exact ⟨rfl, q8.out⟩
  obtain ⟨rfl, hcc⟩ := hcut
  obtain ⟨w5, hw5⟩ : ∃ zz0, zz0 = wc := ⟨_, rfl⟩
  rw [← hw5] at hcc ⊢
  have Z5 : Hid (Chg w w5 ∧ Ar w5 w.heap.size (byt (cu e)) ∧ Ar w5 (w.heap.size + 1) (q4 0 0 0 0) ∧ Ar w5 b5 (num y)) := hcc
  clear hw5 hcc Z4
  go_wp2_with fail
  refine bp_4t (c := .bool false) Tryd.results15 rfl rfl rfl Z5.out.2.2.1 ⟨by rw [t_0 HT.out, HT.out], Z5.out.1⟩
 ·have HT : Hid (tell e = wi y bo) := by show tell e = wi y bo; unfold tell; rw [HY.out.1, HR.out, HO.out]; rfl
  go_upto_region 6 with fail
  go_cut [6, 7] from 6 to 26 (fun v6 v7 wc => ∃ b6, v6 = .pointer (some ⟨b6, 0, none⟩) ∧ v7 = .bool (isX y) ∧ w4.heap.size ≤ b6 ∧ Ar wc b6 (num (rX y)) ∧ Chg w4 wc)
  case first =>
   refine regL 6 (fun j v wg => match j with
    | 0 => v = .agg (num y)
    | 1 => v = .tuple #[.agg (num (rX y)), .bool (isX y)]
    | 2 => v = .tuple #[.agg (num (rX y)), .bool (isX y)]
    | 3 => v = .agg (num (rX y))
    | 4 => v = .bool (isX y)
    | 5 => ∃ b, v = .pointer (some ⟨b, 0, none⟩) ∧ Ar wg b (num 0) ∧ w4.heap.size ≤ b
    | _ => True) (by decide) (by kernel_rfl) ?_ ?_ ?_
   ·intro j v u1 u2 h hc
    match j, h with
    | 0, h => exact h
    | 1, h => exact h
    | 2, h => exact h
    | 3, h => exact h
    | 4, h => exact h
    | 5, h => (obtain ⟨b, h1, h2, h3⟩ := h; exact ⟨b, h1, h2.chg hc, h3⟩)
    | _ + 6, h => exact trivial
   ·intro i o ac u hi ho hsz hf hg hc
    have hcs : i = 0 ∨ i = 1 ∨ i = 2 ∨ i = 3 ∨ i = 4 ∨ i = 5 := by omega
    rcases hcs with rfl | rfl | rfl | rfl | rfl | rfl
    ·injection ho with ho
     subst ho
     refine .inl ⟨wanted_none rfl, ?_⟩
     have e1 : ac.eval (.tmp 5) = .pointer (some ⟨b5, 0, none⟩) := hf 5 (by kernel_rfl)
     exact wp_load_mid 32 (.tmp 5) rfl _ _ e1 ((num y).toList) _ (rangeAp (Z4.out.2.2.2.chg hc)) undNum rfl (infoN _) ⟨_, rfl, rfl, Chg.refl _⟩
    ·injection ho with ho
     subst ho
     refine .inl ⟨wanted_none rfl, ?_⟩
     have e1 : ac.eval (.tmp 23) = .agg (num y) := hg 0 (by decide) (by decide)
     refine opG_go 29 Tryd.f29 #[.tmp 23] #[32] rfl Tryd.func29 (by kernel_rfl) (by kernel_rfl) (by simp [e1]) (Calls.mono (evenX_any y HY.out.2 _) ?_)
     rintro r u2 ⟨rfl, hc2⟩
     exact ⟨_, rfl, rfl, hc2⟩
    ·injection ho with ho
     subst ho
     refine .inl ⟨wanted_none rfl, ?_⟩
     have e1 : ac.eval (.tmp 24) = .tuple #[.agg (num (rX y)), .bool (isX y)] := hg 1 (by decide) (by decide)
     exact opG_val (by simp [execOp, e1]) rfl (Chg.refl _)
    ·injection ho with ho
     subst ho
     refine .inl ⟨wanted_none rfl, ?_⟩
     have e1 : ac.eval (.tmp 22) = .tuple #[.agg (num (rX y)), .bool (isX y)] := hg 2 (by decide) (by decide)
     exact opG_val (by revert e1; generalize ac.eval = ρ; intro e1; simp [go_sem, execOp, e1]) rfl (Chg.refl _)
    ·injection ho with ho
     subst ho
     refine .inl ⟨wanted_none rfl, ?_⟩
     have e1 : ac.eval (.tmp 22) = .tuple #[.agg (num (rX y)), .bool (isX y)] := hg 2 (by decide) (by decide)
     exact opG_val (by revert e1; generalize ac.eval = ρ; intro e1; simp [go_sem, execOp, e1]) rfl (Chg.refl _)
    ·injection ho with ho
     subst ho
     refine .inl ⟨wanted_none rfl, ?_⟩
     exact opG_val (v := .pointer (some ⟨u.heap.size, 0, none⟩)) (w' := u.alloc (.cells (num 0) 32)) (by generalize ac.eval = ρ; simp [go_sem, execOp, zero25.1]) ⟨_, rfl, Ar.new _ _ _, hc.size⟩ ((Chg.refl _).alloc _)
   ·intro u V hV hc
    have q23 : V 0 = .agg (num y) := hV 0 (by decide)
    have q24 : V 1 = .tuple #[.agg (num (rX y)), .bool (isX y)] := hV 1 (by decide)
    have q22 : V 2 = .tuple #[.agg (num (rX y)), .bool (isX y)] := hV 2 (by decide)
    have q25 : V 3 = .agg (num (rX y)) := hV 3 (by decide)
    have q26 : V 4 = .bool (isX y) := hV 4 (by decide)
    obtain ⟨b6, q6, r6, s6⟩ := hV 5 (by decide)
    refine wpList_store_mid rfl 32 (.tmp 6) (.tmp 25) rfl b6 0 (num (rX y)) (Eq.trans (by rfl) q6) (Eq.trans (by rfl) q25) (by rw [num_size]; exact thereN r6) (szN _) (num_one _) ?_
    rw [show u.setCells b6 0 (num (rX y)).toList = u.setRow b6 (num (rX y)) from setRowN r6 _]
    go_wp2_with fail
    go_meet
    exact ⟨b6, q6, q26, s6, r6.row _, hc.setRow s6 _⟩
  obtain ⟨b6, rfl, rfl, l6, ha6, hcc⟩ := hcut
  obtain ⟨w5, hw5⟩ : ∃ zz0, zz0 = wc := ⟨_, rfl⟩
  rw [← hw5] at hcc ha6 ⊢
  clear hw5
  have O6 : Hid (w.heap.size < b6 ∧ w.heap.size + 1 < b6 ∧ b5 < b6) := ⟨Nat.lt_of_lt_of_le (Z4.out.2.1.lt) l6, Nat.lt_of_lt_of_le (Z4.out.2.2.1.lt) l6, Nat.lt_of_lt_of_le (Z4.out.2.2.2.lt) l6⟩
  have Z5 : Hid (Chg w w5 ∧ Ar w5 w.heap.size (byt (cu e)) ∧ Ar w5 (w.heap.size + 1) (q4 0 0 0 0) ∧ Ar w5 b5 (num y) ∧ Ar w5 b6 (num (rX y))) := ⟨Z4.out.1.trans hcc, Z4.out.2.1.chg hcc, Z4.out.2.2.1.chg hcc, Z4.out.2.2.2.chg hcc, ha6⟩
  clear hcc ha6 l6 Z4
  obtain ⟨bi, hbi⟩ : ∃ zz0, zz0 = isX y := ⟨_, rfl⟩
  have HI : Hid (isX y = bi) := hbi.symm
  obtain ⟨r, hr⟩ : ∃ zz0, zz0 = rX y := ⟨_, rfl⟩
  have HRx : Hid (rX y = r ∧ N256 r) := ⟨hr.symm, by rw [hr]; exact rX_N y⟩
  rw [← hbi]
  have Zr : Hid (Chg w w5 ∧ Ar w5 w.heap.size (byt (cu e)) ∧ Ar w5 (w.heap.size + 1) (q4 0 0 0 0) ∧ Ar w5 b5 (num y) ∧ Ar w5 b6 (num r)) := by rw [hr]; exact Z5.out
  clear hr hbi Z5
  obtain ⟨bw, hbw⟩ : ∃ zz0, zz0 = wi y bo := ⟨_, rfl⟩
  have HW : Hid (wi y bo = bw) := hbw.symm
  clear hbw
  go_upto_region 7 with fail
  go_cut [36] from 27 to 36 (fun v36 wc => v36 = .bool (!bw) ∧ Chg w5 wc)
  case first =>
   cases bi
   ·have hb : bw = false := by rw [← HW.out]; exact wi_is HI.out
    refine regS 9 (fun j v wg => match j with
     | 0 => v = .bool false
     | 1 => v = .bool true
     | 2 => v = .bool true
     | 3 => v = undef
     | 4 => v = undef
     | 5 => v = undef
     | 6 => v = undef
     | 7 => v = undef
     | 8 => v = undef
     | _ => True) (by kernel_rfl) (by kernel_rfl) ?_ ?_ ?_
    ·intro j v u1 u2 h hc
     match j, h with
     | 0, h => exact h
     | 1, h => exact h
     | 2, h => exact h
     | 3, h => exact h
     | 4, h => exact h
     | 5, h => exact h
     | 6, h => exact h
     | 7, h => exact h
     | 8, h => exact h
     | _ + 9, h => exact trivial
    ·intro i o ac u hi ho hsz hf hg hc
     have hcs : i = 0 ∨ i = 1 ∨ i = 2 ∨ i = 3 ∨ i = 4 ∨ i = 5 ∨ i = 6 ∨ i = 7 ∨ i = 8 := by omega
     rcases hcs with rfl | rfl | rfl | rfl | rfl | rfl | rfl | rfl | rfl
     ·injection ho with ho
      subst ho
      refine .inl ⟨wanted_none rfl, ?_⟩
      have e1 : ac.eval (.tmp 7) = .bool false := hf 7 (by kernel_rfl)
      exact opG_val (by simp [execOp, e1]) rfl (Chg.refl _)
     ·injection ho with ho
      subst ho
      refine .inl ⟨wanted_none rfl, ?_⟩
      have e1 : ac.eval (.tmp 27) = .bool false := hg 0 (by decide) (by decide)
      exact opG_val (by revert e1; generalize ac.eval = ρ; intro e1; simp [go_sem, execOp, e1]) rfl (Chg.refl _)
     ·injection ho with ho
      subst ho
      refine .inl ⟨wanted_none rfl, ?_⟩
      have e1 : ac.eval (.tmp 28) = .bool true := hg 1 (by decide) (by decide)
      exact opG_val (by simp [execOp, e1]) rfl (Chg.refl _)
     ·injection ho with ho
      subst ho
      exact .inr ⟨wanted_not (T := _) (by kernel_rfl) hsz rfl (by decide : 2 < 9) rfl rfl (hg 2 (by decide) (by decide)), rfl⟩
     ·injection ho with ho
      subst ho
      exact .inr ⟨wanted_not (T := _) (by kernel_rfl) hsz rfl (by decide : 2 < 9) rfl rfl (hg 2 (by decide) (by decide)), rfl⟩
     ·injection ho with ho
      subst ho
      exact .inr ⟨wanted_undef (T := _) (by kernel_rfl) hsz rfl (by decide : 4 < 9) rfl (hg 4 (by decide) (by decide)), rfl⟩
     ·injection ho with ho
      subst ho
      exact .inr ⟨wanted_undef (T := _) (by kernel_rfl) hsz rfl (by decide : 4 < 9) rfl (hg 4 (by decide) (by decide)), rfl⟩
     ·injection ho with ho
      subst ho
      exact .inr ⟨wanted_undef (T := _) (by kernel_rfl) hsz rfl (by decide : 4 < 9) rfl (hg 4 (by decide) (by decide)), rfl⟩
     ·injection ho with ho
      subst ho
      exact .inr ⟨wanted_not (T := _) (by kernel_rfl) hsz rfl (by decide : 2 < 9) rfl rfl (hg 2 (by decide) (by decide)), rfl⟩
    ·intro o u V ho hV hc
     injection ho with ho
     subst ho
     refine ⟨rfl, ?_⟩
     have q27 : V 0 = .bool false := hV 0 (by decide)
     have q28 : V 1 = .bool true := hV 1 (by decide)
     have q29 : V 2 = .bool true := hV 2 (by decide)
     have q30 : V 3 = undef := hV 3 (by decide)
     have q31 : V 4 = undef := hV 4 (by decide)
     have q32 : V 5 = undef := hV 5 (by decide)
     have q33 : V 6 = undef := hV 6 (by decide)
     have q34 : V 7 = undef := hV 7 (by decide)
     have q35 : V 8 = undef := hV 8 (by decide)
     refine op_pick (.tmp 29) (.const (.bool true)) (.tmp 35) true (.bool true) rfl (Eq.trans (by rfl) q29) rfl ?_
     go_wp2_with fail
     go_meet
     exact ⟨by rw [hb]; rfl, hc⟩
   ·cases bo
    ·have hb : bw = true := by rw [← HW.out]; unfold wi; rw [HI.out]; rfl
     refine regS 9 (fun j v wg => match j with
      | 0 => v = .bool true
      | 1 => v = .bool false
      | 2 => v = .bool false
      | 3 => v = .bool false
      | 4 => v = .bool false
      | 5 => v = undef
      | 6 => v = undef
      | 7 => v = undef
      | 8 => v = .bool false
      | _ => True) (by kernel_rfl) (by kernel_rfl) ?_ ?_ ?_
     ·intro j v u1 u2 h hc
      match j, h with
      | 0, h => exact h
      | 1, h => exact h
      | 2, h => exact h
      | 3, h => exact h
      | 4, h => exact h
      | 5, h => exact h
      | 6, h => exact h
      | 7, h => exact h
      | 8, h => exact h
      | _ + 9, h => exact trivial
     ·intro i o ac u hi ho hsz hf hg hc
      have hcs : i = 0 ∨ i = 1 ∨ i = 2 ∨ i = 3 ∨ i = 4 ∨ i = 5 ∨ i = 6 ∨ i = 7 ∨ i = 8 := by omega
      rcases hcs with rfl | rfl | rfl | rfl | rfl | rfl | rfl | rfl | rfl
      ·injection ho with ho
       subst ho
       refine .inl ⟨wanted_none rfl, ?_⟩
       have e1 : ac.eval (.tmp 7) = .bool true := hf 7 (by kernel_rfl)
       exact opG_val (by simp [execOp, e1]) rfl (Chg.refl _)
      ·injection ho with ho
       subst ho
       refine .inl ⟨wanted_none rfl, ?_⟩
       have e1 : ac.eval (.tmp 27) = .bool true := hg 0 (by decide) (by decide)
       exact opG_val (by revert e1; generalize ac.eval = ρ; intro e1; simp [go_sem, execOp, e1]) rfl (Chg.refl _)
      ·injection ho with ho
       subst ho
       refine .inl ⟨wanted_none rfl, ?_⟩
       have e1 : ac.eval (.tmp 28) = .bool false := hg 1 (by decide) (by decide)
       exact opG_val (by simp [execOp, e1]) rfl (Chg.refl _)
      ·injection ho with ho
       subst ho
       refine .inl ⟨wanted_by (T := _) (by kernel_rfl) hsz rfl (by decide : 2 < 9) rfl (hg 2 (by decide) (by decide)), ?_⟩
       have e1 : ac.eval (.tmp 4) = .bool false := hf 4 (by kernel_rfl)
       exact opG_val (by simp [execOp, e1]) rfl (Chg.refl _)
      ·injection ho with ho
       subst ho
       refine .inl ⟨wanted_by (T := _) (by kernel_rfl) hsz rfl (by decide : 2 < 9) rfl (hg 2 (by decide) (by decide)), ?_⟩
       have e1 : ac.eval (.tmp 30) = .bool false := hg 3 (by decide) (by decide)
       exact opG_val (by simp [execOp, e1]) rfl (Chg.refl _)
      ·injection ho with ho
       subst ho
       exact .inr ⟨wanted_not (T := _) (by kernel_rfl) hsz rfl (by decide : 4 < 9) rfl rfl (hg 4 (by decide) (by decide)), rfl⟩
      ·injection ho with ho
       subst ho
       exact .inr ⟨wanted_not (T := _) (by kernel_rfl) hsz rfl (by decide : 4 < 9) rfl rfl (hg 4 (by decide) (by decide)), rfl⟩
      ·injection ho with ho
       subst ho
       exact .inr ⟨wanted_not (T := _) (by kernel_rfl) hsz rfl (by decide : 4 < 9) rfl rfl (hg 4 (by decide) (by decide)), rfl⟩
      ·injection ho with ho
       subst ho
       refine .inl ⟨wanted_by (T := _) (by kernel_rfl) hsz rfl (by decide : 2 < 9) rfl (hg 2 (by decide) (by decide)), ?_⟩
       have e1 : ac.eval (.tmp 31) = .bool false := hg 4 (by decide) (by decide)
       have e2 : ac.eval (.tmp 34) = undef := hg 7 (by decide) (by decide)
       have e3 : ac.eval (.const (.bool false)) = .bool false := rfl
       exact opG_val (by revert e1 e2 e3; generalize ac.eval = ρ; intro e1 e2 e3; simp [go_sem, execOp, e1, e2, e3]) rfl (Chg.refl _)
     ·intro o u V ho hV hc
      injection ho with ho
      subst ho
      refine ⟨rfl, ?_⟩
      have q27 : V 0 = .bool true := hV 0 (by decide)
      have q28 : V 1 = .bool false := hV 1 (by decide)
      have q29 : V 2 = .bool false := hV 2 (by decide)
      have q30 : V 3 = .bool false := hV 3 (by decide)
      have q31 : V 4 = .bool false := hV 4 (by decide)
      have q32 : V 5 = undef := hV 5 (by decide)
      have q33 : V 6 = undef := hV 6 (by decide)
      have q34 : V 7 = undef := hV 7 (by decide)
      have q35 : V 8 = .bool false := hV 8 (by decide)
      refine op_pick (.tmp 29) (.const (.bool true)) (.tmp 35) false (.bool false) rfl (Eq.trans (by rfl) q29) (Eq.trans (by rfl) q35) ?_
      go_wp2_with fail
      go_meet
      exact ⟨by rw [hb]; rfl, hc⟩
    ·have hb : decide (r = 0) = !bw := by rw [← HW.out]; unfold wi; rw [HI.out, HRx.out.1]; simp
     refine regS 9 (fun j v wg => match j with
      | 0 => v = .bool true
      | 1 => v = .bool false
      | 2 => v = .bool false
      | 3 => v = .bool true
      | 4 => v = .bool true
      | 5 => v = .agg (num r)
      | 6 => v = .agg (num 0)
      | 7 => v = .bool (decide (r = 0))
      | 8 => v = .bool (decide (r = 0))
      | _ => True) (by kernel_rfl) (by kernel_rfl) ?_ ?_ ?_
     ·intro j v u1 u2 h hc
      match j, h with
      | 0, h => exact h
      | 1, h => exact h
      | 2, h => exact h
      | 3, h => exact h
      | 4, h => exact h
      | 5, h => exact h
      | 6, h => exact h
      | 7, h => exact h
      | 8, h => exact h
      | _ + 9, h => exact trivial
     ·intro i o ac u hi ho hsz hf hg hc
      have hcs : i = 0 ∨ i = 1 ∨ i = 2 ∨ i = 3 ∨ i = 4 ∨ i = 5 ∨ i = 6 ∨ i = 7 ∨ i = 8 := by omega
      rcases hcs with rfl | rfl | rfl | rfl | rfl | rfl | rfl | rfl | rfl
      ·injection ho with ho
       subst ho
       refine .inl ⟨wanted_none rfl, ?_⟩
       have e1 : ac.eval (.tmp 7) = .bool true := hf 7 (by kernel_rfl)
       exact opG_val (by simp [execOp, e1]) rfl (Chg.refl _)
      ·injection ho with ho
       subst ho
       refine .inl ⟨wanted_none rfl, ?_⟩
       have e1 : ac.eval (.tmp 27) = .bool true := hg 0 (by decide) (by decide)
       exact opG_val (by revert e1; generalize ac.eval = ρ; intro e1; simp [go_sem, execOp, e1]) rfl (Chg.refl _)
      ·injection ho with ho
       subst ho
       refine .inl ⟨wanted_none rfl, ?_⟩
       have e1 : ac.eval (.tmp 28) = .bool false := hg 1 (by decide) (by decide)
       exact opG_val (by simp [execOp, e1]) rfl (Chg.refl _)
      ·injection ho with ho
       subst ho
       refine .inl ⟨wanted_by (T := _) (by kernel_rfl) hsz rfl (by decide : 2 < 9) rfl (hg 2 (by decide) (by decide)), ?_⟩
       have e1 : ac.eval (.tmp 4) = .bool true := hf 4 (by kernel_rfl)
       exact opG_val (by simp [execOp, e1]) rfl (Chg.refl _)
      ·injection ho with ho
       subst ho
       refine .inl ⟨wanted_by (T := _) (by kernel_rfl) hsz rfl (by decide : 2 < 9) rfl (hg 2 (by decide) (by decide)), ?_⟩
       have e1 : ac.eval (.tmp 30) = .bool true := hg 3 (by decide) (by decide)
       exact opG_val (by simp [execOp, e1]) rfl (Chg.refl _)
      ·injection ho with ho
       subst ho
       refine .inl ⟨wanted_by (T := _) (by kernel_rfl) hsz rfl (by decide : 4 < 9) rfl (hg 4 (by decide) (by decide)), ?_⟩
       have e1 : ac.eval (.tmp 6) = .pointer (some ⟨b6, 0, none⟩) := hf 6 (by kernel_rfl)
       exact wp_load_mid 32 (.tmp 6) rfl _ _ e1 ((num r).toList) _ (rangeAp (Zr.out.2.2.2.2.chg hc)) undNum rfl (infoN _) ⟨_, rfl, rfl, Chg.refl _⟩
      ·injection ho with ho
       subst ho
       refine .inl ⟨wanted_by (T := _) (by kernel_rfl) hsz rfl (by decide : 4 < 9) rfl (hg 4 (by decide) (by decide)), ?_⟩
       exact opG_lit _ rfl (built_0_op ac) rfl
      ·injection ho with ho
       subst ho
       refine .inl ⟨wanted_by (T := _) (by kernel_rfl) hsz rfl (by decide : 4 < 9) rfl (hg 4 (by decide) (by decide)), ?_⟩
       have e1 : ac.eval (.tmp 32) = .agg (num r) := hg 5 (by decide) (by decide)
       have e2 : ac.eval (.tmp 33) = .agg (num 0) := hg 6 (by decide) (by decide)
       exact opG_val (by revert e1 e2; generalize ac.eval = ρ; intro e1 e2; simp [go_sem, execOp, e1, e2, run_eqNum HRx.out.2 n0E]) rfl (Chg.refl _)
      ·injection ho with ho
       subst ho
       refine .inl ⟨wanted_by (T := _) (by kernel_rfl) hsz rfl (by decide : 2 < 9) rfl (hg 2 (by decide) (by decide)), ?_⟩
       have e1 : ac.eval (.tmp 31) = .bool true := hg 4 (by decide) (by decide)
       have e2 : ac.eval (.tmp 34) = .bool (decide (r = 0)) := hg 7 (by decide) (by decide)
       have e3 : ac.eval (.const (.bool false)) = .bool false := rfl
       exact opG_val (by revert e1 e2 e3; generalize ac.eval = ρ; intro e1 e2 e3; simp [go_sem, execOp, e1, e2, e3]) rfl (Chg.refl _)
     ·intro o u V ho hV hc
      injection ho with ho
      subst ho
      refine ⟨rfl, ?_⟩
      have q27 : V 0 = .bool true := hV 0 (by decide)
      have q28 : V 1 = .bool false := hV 1 (by decide)
      have q29 : V 2 = .bool false := hV 2 (by decide)
      have q30 : V 3 = .bool true := hV 3 (by decide)
      have q31 : V 4 = .bool true := hV 4 (by decide)
      have q32 : V 5 = .agg (num r) := hV 5 (by decide)
      have q33 : V 6 = .agg (num 0) := hV 6 (by decide)
      have q34 : V 7 = .bool (decide (r = 0)) := hV 7 (by decide)
      have q35 : V 8 = .bool (decide (r = 0)) := hV 8 (by decide)
      refine op_pick (.tmp 29) (.const (.bool true)) (.tmp 35) false (.bool (decide (r = 0))) rfl (Eq.trans (by rfl) q29) (Eq.trans (by rfl) q35) ?_
      go_wp2_with fail
      go_meet
      exact ⟨by rw [hb], hc⟩
  obtain ⟨rfl, hcc⟩ := hcut
  obtain ⟨w6, hw6⟩ : ∃ zz0, zz0 = wc := ⟨_, rfl⟩
  rw [← hw6] at hcc ⊢
  have Z6 : Hid (Chg w w6 ∧ Ar w6 w.heap.size (byt (cu e)) ∧ Ar w6 (w.heap.size + 1) (q4 0 0 0 0) ∧ Ar w6 b5 (num y) ∧ Ar w6 b6 (num r)) := ⟨Zr.out.1.trans hcc, Zr.out.2.1.chg hcc, Zr.out.2.2.1.chg hcc, Zr.out.2.2.2.1.chg hcc, Zr.out.2.2.2.2.chg hcc⟩
  clear hw6 hcc Zr
  go_upto_if 36 with fail
  cases bw
  ·have HT2 : Hid (tell e = false) := by show tell e = false; rw [HT.out, HW.out]
   go_upto_region 8 with fail
   go_cut [3] from 3 to 37 (fun v3 wc => v3 = .bool false ∧ Chg w wc ∧ Ar wc w.heap.size (byt (cu e)) ∧ Ar wc (w.heap.size + 1) (q4 0 0 0 0) ∧ Ar wc b5 (num y) ∧ Ar wc b6 (num r))
   case first =>
    refine regL 1 (fun j v wg => match j with
     | 0 => v = .agg (q4 0 0 0 0)
     | _ => True) (by decide) (by kernel_rfl) ?_ ?_ ?_
    ·intro j v u1 u2 h hc
     match j, h with
     | 0, h => exact h
     | _ + 1, h => exact trivial
    ·intro i o ac u hi ho hsz hf hg hc
     have hcs : i = 0 := by omega
     rcases hcs with rfl
     ·injection ho with ho
      subst ho
      refine .inl ⟨wanted_none rfl, ?_⟩
      exact opG_agg _ rfl (built_z4 ac) rfl
    ·intro u V hV hc
     have q37 : V 0 = .agg (q4 0 0 0 0) := hV 0 (by decide)
     have hres := Z6.out.2.2.1.chg hc
     refine wpList_store_mid rfl 44 (.tmp 2) (.tmp 37) rfl (w.heap.size + 1) 0 (q4 0 0 0 0) (by rfl) (Eq.trans (by rfl) q37) (by rw [q4_size]; exact nms_there hres 0 4 (by omega)) (szP4 _ _ _ _) (q4_one _ _ _ _) ?_
     rw [show u.setCells (w.heap.size + 1) 0 (q4 0 0 0 0).toList = u.setRow (w.heap.size + 1) (q4 0 0 0 0) from setRowP4 hres _ _ _ _]
     have ordO5 := O5.out
     have ordO6 := O6.out
     have q8 : Hid (Chg w (u.setRow (w.heap.size + 1) (q4 0 0 0 0)) ∧ Ar (u.setRow (w.heap.size + 1) (q4 0 0 0 0)) w.heap.size (byt (cu e)) ∧ Ar (u.setRow (w.heap.size + 1) (q4 0 0 0 0)) (w.heap.size + 1) (q4 0 0 0 0) ∧ Ar (u.setRow (w.heap.size + 1) (q4 0 0 0 0)) b5 (num y) ∧ Ar (u.setRow (w.heap.size + 1) (q4 0 0 0 0)) b6 (num r)) := ⟨(Z6.out.1.trans hc).setRow (by omega) _, (Z6.out.2.1.chg hc).rowOther (by omega) _, hres.row _, (Z6.out.2.2.2.1.chg hc).rowOther (by omega) _, (Z6.out.2.2.2.2.chg hc).rowOther (by omega) _⟩
     generalize u.setRow (w.heap.size + 1) (q4 0 0 0 0) = uu at *
     go_wp2_with fail
     go_meet
     exact ⟨rfl, q8.out⟩
   obtain ⟨rfl, hcc⟩ := hcut
   obtain ⟨w7, hw7⟩ : ∃ zz0, zz0 = wc := ⟨_, rfl⟩
   rw [← hw7] at hcc ⊢
   have Z7 : Hid (Chg w w7 ∧ Ar w7 w.heap.size (byt (cu e)) ∧ Ar w7 (w.heap.size + 1) (q4 0 0 0 0) ∧ Ar w7 b5 (num y) ∧ Ar w7 b6 (num r)) := hcc
   clear hw7 hcc Z6
   go_wp2_with fail
   refine bp_4t (c := .bool false) Tryd.results15 rfl rfl rfl Z7.out.2.2.1 ⟨by rw [t_0 HT2.out, HT2.out], Z7.out.1⟩
  ·have HT2 : Hid (tell e = true) := by show tell e = true; rw [HT.out, HW.out]
   go_upto_if 38 with fail
   go_cut [] from 39 to 40 (fun wc => Chg w wc ∧ Ar wc w.heap.size (byt (cu e)) ∧ Ar wc (w.heap.size + 1) (q4 0 0 0 0) ∧ Ar wc b5 (num y) ∧ Ar wc b6 (num (xBit y bo)))
   case first =>
    cases bo
    ·go_wp2_with fail
     go_meet
     exact ⟨Z6.out.1, Z6.out.2.1, Z6.out.2.2.1, Z6.out.2.2.2.1, (by show Ar _ _ (num (rX y)); rw [HRx.out.1]; exact Z6.out.2.2.2.2)⟩
    ·go_upto_region 10 with fail
     refine regS 2 (fun j v wg => match j with
      | 0 => v = .agg (num r)
      | 1 => v = .agg (num (md 1 (0 - r)))
      | _ => True) (by kernel_rfl) (by kernel_rfl) ?_ ?_ ?_
     ·intro j v u1 u2 h hc
      match j, h with
      | 0, h => exact h
      | 1, h => exact h
      | _ + 2, h => exact trivial
     ·intro i o ac u hi ho hsz hf hg hc
      have hcs : i = 0 ∨ i = 1 := by omega
      rcases hcs with rfl | rfl
      ·injection ho with ho
       subst ho
       refine .inl ⟨wanted_none rfl, ?_⟩
       have e1 : ac.eval (.tmp 6) = .pointer (some ⟨b6, 0, none⟩) := hf 6 (by kernel_rfl)
       exact wp_load_mid 32 (.tmp 6) rfl _ _ e1 ((num r).toList) _ (rangeAp (Z6.out.2.2.2.2.chg hc)) undNum rfl (infoN _) ⟨_, rfl, rfl, Chg.refl _⟩
      ·injection ho with ho
       subst ho
       refine .inl ⟨wanted_none rfl, ?_⟩
       have e1 : ac.eval (.const (.int .i64 1)) = .int .i64 1 := rfl
       have e2 : ac.eval (.tmp 39) = .agg (num r) := hg 0 (by decide) (by decide)
       refine opG_go 30 Tryd.f30 #[.const (.int .i64 1), .tmp 39] #[37, 32] rfl Tryd.func30 (by kernel_rfl) (by kernel_rfl) (by simp [e1, e2]) (Calls.mono ((neg_any 1 r (.inl rfl) HRx.out.2 _).mono (fun r_ w_ h => by rw [← md_in (.inl rfl)] at h; exact h)) ?_)
       rintro r u2 ⟨rfl, hc2⟩
       exact ⟨_, rfl, rfl, hc2⟩
     ·intro o u V ho hV hc
      injection ho with ho
      subst ho
      refine ⟨rfl, ?_⟩
      have q39 : V 0 = .agg (num r) := hV 0 (by decide)
      have q40 : V 1 = .agg (num (md 1 (0 - r))) := hV 1 (by decide)
      have hres := Z6.out.2.2.2.2.chg hc
      refine wp_store_mid 32 (.tmp 6) (.tmp 40) rfl b6 0 (num (md 1 (0 - r))) (by rfl) (Eq.trans (by rfl) q40) (by rw [num_size]; exact thereN hres) (szN _) (num_one _) ?_
      rw [show u.setCells b6 0 (num (md 1 (0 - r))).toList = u.setRow b6 (num (md 1 (0 - r))) from setRowN hres _]
      have ordO5 := O5.out
      have ordO6 := O6.out
      have q8 : Hid (Chg w (u.setRow b6 (num (md 1 (0 - r)))) ∧ Ar (u.setRow b6 (num (md 1 (0 - r)))) w.heap.size (byt (cu e)) ∧ Ar (u.setRow b6 (num (md 1 (0 - r)))) (w.heap.size + 1) (q4 0 0 0 0) ∧ Ar (u.setRow b6 (num (md 1 (0 - r)))) b5 (num y) ∧ Ar (u.setRow b6 (num (md 1 (0 - r)))) b6 (num (xBit y true))) := ⟨(Z6.out.1.trans hc).setRow (by omega) _, (Z6.out.2.1.chg hc).rowOther (by omega) _, (Z6.out.2.2.1.chg hc).rowOther (by omega) _, (Z6.out.2.2.2.1.chg hc).rowOther (by omega) _, (by show Ar _ _ (num (md 1 (0 - rX y))); rw [HRx.out.1]; exact hres.row _)⟩
      generalize u.setRow b6 (num (md 1 (0 - r))) = uu at *
      go_wp2_with fail
      go_meet
      exact q8.out
   obtain ⟨w7, hw7⟩ : ∃ zz0, zz0 = wc := ⟨_, rfl⟩
   rw [← hw7] at hcut ⊢
   have Z7 : Hid (Chg w w7 ∧ Ar w7 w.heap.size (byt (cu e)) ∧ Ar w7 (w.heap.size + 1) (q4 0 0 0 0) ∧ Ar w7 b5 (num y) ∧ Ar w7 b6 (num (xBit y bo))) := hcut
   clear hw7 hcut Z6
   go_upto_region 11 with fail
   go_cut [3] from 3 to 43 (fun v3 wc => v3 = .bool true ∧ Chg w wc ∧ Ar wc w.heap.size (byt (cu e)) ∧ Ar wc (w.heap.size + 1) (q4 (xBit y bo) y 1 (md 1 ((xBit y bo) * y))) ∧ Ar wc b5 (num y) ∧ Ar wc b6 (num (xBit y bo)))
   case first =>
    refine regL 3 (fun j v wg => match j with
     | 0 => v = .agg (num (xBit y bo))
     | 1 => v = .agg (num y)
     | 2 => v = .agg (q4 (xBit y bo) y 1 (md 1 ((xBit y bo) * y)))
     | _ => True) (by decide) (by kernel_rfl) ?_ ?_ ?_
    ·intro j v u1 u2 h hc
     match j, h with
     | 0, h => exact h
     | 1, h => exact h
     | 2, h => exact h
     | _ + 3, h => exact trivial
    ·intro i o ac u hi ho hsz hf hg hc
     have hcs : i = 0 ∨ i = 1 ∨ i = 2 := by omega
     rcases hcs with rfl | rfl | rfl
     ·injection ho with ho
      subst ho
      refine .inl ⟨wanted_none rfl, ?_⟩
      have e1 : ac.eval (.tmp 6) = .pointer (some ⟨b6, 0, none⟩) := hf 6 (by kernel_rfl)
      exact wp_load_mid 32 (.tmp 6) rfl _ _ e1 ((num (xBit y bo)).toList) _ (rangeAp (Z7.out.2.2.2.2.chg hc)) undNum rfl (infoN _) ⟨_, rfl, rfl, Chg.refl _⟩
     ·injection ho with ho
      subst ho
      refine .inl ⟨wanted_none rfl, ?_⟩
      have e1 : ac.eval (.tmp 5) = .pointer (some ⟨b5, 0, none⟩) := hf 5 (by kernel_rfl)
      exact wp_load_mid 32 (.tmp 5) rfl _ _ e1 ((num y).toList) _ (rangeAp (Z7.out.2.2.2.1.chg hc)) undNum rfl (infoN _) ⟨_, rfl, rfl, Chg.refl _⟩
     ·injection ho with ho
      subst ho
      refine .inl ⟨wanted_none rfl, ?_⟩
      have e1 : ac.eval (.tmp 41) = .agg (num (xBit y bo)) := hg 0 (by decide) (by decide)
      have e2 : ac.eval (.tmp 42) = .agg (num y) := hg 1 (by decide) (by decide)
      refine opG_go 31 Tryd.f31 #[.tmp 41, .tmp 42] #[32, 32] rfl Tryd.func31 (by kernel_rfl) (by kernel_rfl) (by simp [e1, e2]) (Calls.mono (atE_any (xBit y bo) y (xBit_N y bo) (HY.out.2) _) ?_)
      rintro r u2 ⟨rfl, hc2⟩
      exact ⟨_, rfl, rfl, hc2⟩
    ·intro u V hV hc
     have q41 : V 0 = .agg (num (xBit y bo)) := hV 0 (by decide)
     have q42 : V 1 = .agg (num y) := hV 1 (by decide)
     have q43 : V 2 = .agg (q4 (xBit y bo) y 1 (md 1 ((xBit y bo) * y))) := hV 2 (by decide)
     have hres := Z7.out.2.2.1.chg hc
     refine wpList_store_mid rfl 44 (.tmp 2) (.tmp 43) rfl (w.heap.size + 1) 0 (q4 (xBit y bo) y 1 (md 1 ((xBit y bo) * y))) (by rfl) (Eq.trans (by rfl) q43) (by rw [q4_size]; exact nms_there hres 0 4 (by omega)) (szP4 _ _ _ _) (q4_one _ _ _ _) ?_
     rw [show u.setCells (w.heap.size + 1) 0 (q4 (xBit y bo) y 1 (md 1 ((xBit y bo) * y))).toList = u.setRow (w.heap.size + 1) (q4 (xBit y bo) y 1 (md 1 ((xBit y bo) * y))) from setRowP4 hres _ _ _ _]
     have ordO5 := O5.out
     have ordO6 := O6.out
     have q8 : Hid (Chg w (u.setRow (w.heap.size + 1) (q4 (xBit y bo) y 1 (md 1 ((xBit y bo) * y)))) ∧ Ar (u.setRow (w.heap.size + 1) (q4 (xBit y bo) y 1 (md 1 ((xBit y bo) * y)))) w.heap.size (byt (cu e)) ∧ Ar (u.setRow (w.heap.size + 1) (q4 (xBit y bo) y 1 (md 1 ((xBit y bo) * y)))) (w.heap.size + 1) (q4 (xBit y bo) y 1 (md 1 ((xBit y bo) * y))) ∧ Ar (u.setRow (w.heap.size + 1) (q4 (xBit y bo) y 1 (md 1 ((xBit y bo) * y)))) b5 (num y) ∧ Ar (u.setRow (w.heap.size + 1) (q4 (xBit y bo) y 1 (md 1 ((xBit y bo) * y)))) b6 (num (xBit y bo))) := ⟨(Z7.out.1.trans hc).setRow (by omega) _, (Z7.out.2.1.chg hc).rowOther (by omega) _, hres.row _, (Z7.out.2.2.2.1.chg hc).rowOther (by omega) _, (Z7.out.2.2.2.2.chg hc).rowOther (by omega) _⟩
     generalize u.setRow (w.heap.size + 1) (q4 (xBit y bo) y 1 (md 1 ((xBit y bo) * y))) = uu at *
     go_wp2_with fail
     go_meet
     exact ⟨rfl, q8.out⟩
   obtain ⟨rfl, hcc⟩ := hcut
   obtain ⟨w8, hw8⟩ : ∃ zz0, zz0 = wc := ⟨_, rfl⟩
   rw [← hw8] at hcc ⊢
   have Z8 : Hid (Chg w w8 ∧ Ar w8 w.heap.size (byt (cu e)) ∧ Ar w8 (w.heap.size + 1) (q4 (xBit y bo) y 1 (md 1 ((xBit y bo) * y))) ∧ Ar w8 b5 (num y) ∧ Ar w8 b6 (num (xBit y bo))) := hcc
   clear hw8 hcc Z7
   go_wp2_with fail
   refine bp_4t (c := .bool true) Tryd.results15 rfl rfl rfl Z8.out.2.2.1 ⟨?_, Z8.out.1⟩
   rw [t_1 HT2.out, HT2.out]
   unfold xOf
   rw [HY.out.1, HO.out]
end Go.Proofs.YtjfidbifjagnpaaDoor
