/-
  What a number of eight digits leaves modulo an order.
-/
import Derived.Test.YtbdgmkejmfjobaaJo
import Derived.Test.YtbdgmkejmfjobaaRed2
namespace Go.Proofs.Ytbdgmkejmfjobaa
set_option maxRecDepth 100000
open Go.RowKit
set_option linter.unusedVariables false
theorem und73 : Try.prog.underlying 95 = some (.struct #[]) := by kernel_rfl
theorem inf73 : (Try.prog.info? 95).map (·.size) = some ([] : List Value).length := by kernel_rfl
theorem pick_true {a : Act} {o : Oper} {x y z : Operand} {v : Value} (h : o.op = .pick x y z) (hx : a.eval x = .bool true) (hy : a.eval y = v) (w : World) : (execOp a.eval o).run Try.prog w = .ok (.value v) w := by
 revert hx hy
 generalize a.eval = ρ
 intro hx hy
 simp [go_sem, execOp, h, hx, hy]
theorem und55 : Try.prog.underlying 86 = some (.array 8 22) := by kernel_rfl
theorem mo_pos {f : Int} (hf : f = 3 ∨ f = 4) : 0 < mo f ∧ mo f < R256 := by
 rcases hf with rfl | rfl
 ·rw [mo3]; unfold R256; omega
 ·rw [mo4]; unfold R256; omega
theorem ord_start {f x : Int} (hf : f = 3 ∨ f = 4) (hx : N512 x) : N256 (rm f x % R256) ∧ 0 ≤ rm f x / R256 ∧ (rm f x % R256 + R256 * (rm f x / R256)) % mo f = x % mo f ∧ rm f x % R256 + R256 * (rm f x / R256) < 3 * mo f := by
 have hb := rm_bound hf hx
 have e : rm f x % R256 + R256 * (rm f x / R256) = rm f x := by unfold R256; omega
 rw [e]
 refine ⟨N256_mod _, Int.ediv_nonneg hb.1 (by decide), ?_, hb.2⟩
 unfold rm
 rw [Int.sub_emod, Int.mul_emod_left, Int.sub_zero, Int.emod_emod]
theorem ord_end {M L x : Int} (h : N256 L ∧ (0 : Int) ≤ 0 ∧ (L + R256 * 0) % M = x % M ∧ L + R256 * 0 < 3 * M) (hl : L < M) : L = x % M := by
 obtain ⟨⟨h1, _⟩, _, h2, _⟩ := h
 rw [Int.mul_zero, Int.add_zero, Int.emod_eq_of_lt h1 hl] at h2
 exact h2
theorem ord_step {f x L o v c : Int} (hf : f = 3 ∨ f = 4) (h : N256 L ∧ 0 ≤ o ∧ (L + R256 * o) % mo f = x % mo f ∧ L + R256 * o < 3 * mo f) (hg : ¬ (o = 0 ∧ L < mo f)) (hv : v = (L - mo f) % R256) (hc : c = bor L (mo f)) : (N256 v ∧ 0 ≤ o - c ∧ (v + R256 * (o - c)) % mo f = x % mo f ∧ v + R256 * (o - c) < 3 * mo f) ∧ (v + R256 * (o - c)).toNat < (L + R256 * o).toNat ∧ IntKind.u64.wrap (o - c) = o - c := by
 obtain ⟨h1, h2, h3, h4⟩ := h
 obtain ⟨hp, hq⟩ := mo_pos hf
 have hN : N256 v := by rw [hv]; exact N256_mod _
 obtain ⟨h5, h6⟩ := h1
 have e : v + R256 * (o - c) = L + R256 * o - mo f := by
  rw [hv, hc]
  unfold bor R256 at *
  split <;> omega
 have h0 : 0 ≤ o - c := by
  rw [hc]
  unfold bor
  split <;> omega
 have hw : IntKind.u64.wrap (o - c) = o - c := by
  rw [IntKind.wrap_u64]
  have hb : 0 ≤ c := by rw [hc]; exact (bor_le _ _).1
  unfold R256 at *
  omega
 rw [e]
 refine ⟨⟨hN, h0, ?_, by omega⟩, ?_, hw⟩
 ·rw [Int.sub_emod, Int.emod_self, Int.sub_zero, Int.emod_emod, h3]
 ·unfold R256 at *
  have : mo f ≤ L + 115792089237316195423570985008687907853269984665640564039457584007913129639936 * o := by omega
  omega
theorem meth3 (W : World) : Sem.run Try.prog (method 230 83 (.agg #[]) "drawbridge/field.modulus") W = .ok (78, .agg #[]) W := by kernel_rfl
set_option maxHeartbeats 8000000 in
theorem ord3_any (x : Int) (hx : N512 x) (w : World) :
  Calls Try.prog 92 #[.agg #[], .agg (wid x)] w fun r w' => r = .returned (.agg (num (x % mo 3))) ∧ Chg w w' := by
 have HX : Hid (N512 x) := hx
 have hz := zero25.1
 have hsA := wid_size x
 obtain ⟨A, hA⟩ : ∃ A, A = wid x := ⟨_, rfl⟩
 have HA : Hid (A = wid x) := hA
 rw [← hA] at hsA ⊢
 obtain ⟨L, hL⟩ : ∃ L, L = rm 3 x % R256 := ⟨_, rfl⟩
 obtain ⟨o, hoo⟩ : ∃ o, o = rm 3 x / R256 := ⟨_, rfl⟩
 have HL : Hid (L = rm 3 x % R256 ∧ o = rm 3 x / R256) := ⟨hL, hoo⟩
 clear hA hx hL hoo
 go_enter Try.func92, Try.ntmps92
 go_upto_region 2 with fail
 obtain ⟨w1, hw1⟩ : ∃ w1, w1 = (((w.alloc (.cells #[] 95)).alloc (.cells A 86)).alloc (.cells (num 0) 24)).alloc (.cells #[] 83) := ⟨_, rfl⟩
 have Z1 : Hid (Chg w w1 ∧ Ar w1 w.heap.size #[] ∧ Ar w1 (w.heap.size + 1) (wid x) ∧ Ar w1 (w.heap.size + 1 + 1) (num 0) ∧ Ar w1 (w.heap.size + 1 + 1 + 1) #[]) := by
  rw [hw1, HA.out]
  exact ⟨((((Chg.refl w).alloc _).alloc _).alloc _).alloc _, (((Ar.new w _ _).alloc _).alloc _).alloc _, ((Ar.new1 w _ _ _).alloc _).alloc _, (Ar.new2 w _ _ _ _).alloc _, Ar.new3 w _ _ _ _ _⟩
 rw [← hw1]
 clear hw1 hsA hz
 go_cut [6, 7] from 6 to 17 (fun v6 v7 wc => ∃ b, v6 = .pointer (some ⟨b, 0, none⟩) ∧ v7 = .int .u64 o ∧ w1.heap.size ≤ b ∧ Ar wc b (num L) ∧ Chg w1 wc)
 case first =>
  refine wp_region_store 10 (fun j v fl wg => match j with
   | 0 => v = .agg #[]
   | 1 => v = .agg (wid x)
   | 2 => v = .agg #[]
   | 3 => v = .agg (wid x)
   | 4 => v = .agg (fiv (qo 3 x))
   | 5 => v = .tuple #[.agg (num L), .int .u64 o]
   | 6 => v = .tuple #[.agg (num L), .int .u64 o]
   | 7 => v = .agg (num L)
   | 8 => v = .int .u64 o
   | 9 => ∃ b, v = .pointer (some ⟨b, 0, none⟩) ∧ w1.heap.size ≤ b ∧ (fl = true → Ar wg b (num L)) ∧ (fl = false → Ar wg b (num 0))
   | 11 => v = .int .u64 o
   | _ => True) (fun _ u => Chg w1.drew u) (by kernel_rfl) (by decide) (by kernel_rfl) (by kernel_rfl) (by kernel_rfl) ?_ ?_ ?_ ?_ ?_ ?_
  ·intro j v fl u1 u2 h hc
   match j, h with
   | 0, h => exact h
   | 1, h => exact h
   | 2, h => exact h
   | 3, h => exact h
   | 4, h => exact h
   | 5, h => exact h
   | 6, h => exact h
   | 7, h => exact h
   | 8, h => exact h
   | 9, h => (obtain ⟨b, h1, h2, h3, h4⟩ := h; exact ⟨b, h1, h2, fun e => (h3 e).chg hc, fun e => (h4 e).chg hc⟩)
   | 10, h => exact trivial
   | 11, h => exact h
   | _ + 12, h => exact trivial
  ·intro fl u u' h k
   exact h.trans k
  ·intro i o' ac u fl hi his ho hfl hf hg hc
   have hi' : i < 12 := hi
   have hcs : i = 0 ∨ i = 1 ∨ i = 2 ∨ i = 3 ∨ i = 4 ∨ i = 5 ∨ i = 6 ∨ i = 7 ∨ i = 8 ∨ i = 9 ∨ i = 11 := by omega
   rcases hcs with rfl | rfl | rfl | rfl | rfl | rfl | rfl | rfl | rfl | rfl | rfl
   ·injection ho with ho
    subst ho
    have e1 : ac.eval (.tmp 2) = .pointer (some ⟨w.heap.size, 0, none⟩) := hf 2 (by kernel_rfl)
    exact wp_load_mid 95 (.tmp 2) rfl _ _ e1 [] _ (fun j v hv => by simp at hv) und73 rfl inf73 ⟨_, rfl, rfl, Chg.refl _⟩
   ·injection ho with ho
    subst ho
    have e1 : ac.eval (.tmp 3) = .pointer (some ⟨w.heap.size + 1, 0, none⟩) := hf 3 (by kernel_rfl)
    exact wp_load_mid 86 (.tmp 3) rfl _ _ e1 ((wid x).toList) _ (rangeW (Ar.chg (w := w1.drew) Z1.out.2.2.1.drew hc)) und55 rfl (infoW _) ⟨_, rfl, rfl, Chg.refl _⟩
   ·injection ho with ho
    subst ho
    have e1 : ac.eval (.tmp 2) = .pointer (some ⟨w.heap.size, 0, none⟩) := hf 2 (by kernel_rfl)
    exact wp_load_mid 95 (.tmp 2) rfl _ _ e1 [] _ (fun j v hv => by simp at hv) und73 rfl inf73 ⟨_, rfl, rfl, Chg.refl _⟩
   ·injection ho with ho
    subst ho
    have e1 : ac.eval (.tmp 3) = .pointer (some ⟨w.heap.size + 1, 0, none⟩) := hf 3 (by kernel_rfl)
    exact wp_load_mid 86 (.tmp 3) rfl _ _ e1 ((wid x).toList) _ (rangeW (Ar.chg (w := w1.drew) Z1.out.2.2.1.drew hc)) und55 rfl (infoW _) ⟨_, rfl, rfl, Chg.refl _⟩
   ·injection ho with ho
    subst ho
    have e1 : ac.eval (.tmp 12) = .agg #[] := hg 2 (by kernel_rfl) (by decide) (by decide)
    have e2 : ac.eval (.tmp 13) = .agg (wid x) := hg 3 (by kernel_rfl) (by decide) (by decide)
    refine opG_go 104 Try.f104 #[.tmp 12, .tmp 13] #[95, 86] rfl Try.func104 (by kernel_rfl) (by kernel_rfl) (by simp [e1, e2]) (Calls.mono (quot3_num x HX.out _) ?_)
    rintro e u2 ⟨rfl, hc2⟩
    exact ⟨_, rfl, rfl, hc2⟩
   ·injection ho with ho
    subst ho
    have e1 : ac.eval (.tmp 10) = .agg #[] := hg 0 (by kernel_rfl) (by decide) (by decide)
    have e2 : ac.eval (.tmp 11) = .agg (wid x) := hg 1 (by kernel_rfl) (by decide) (by decide)
    have e3 : ac.eval (.tmp 14) = .agg (fiv (qo 3 x)) := hg 4 (by kernel_rfl) (by decide) (by decide)
    refine opG_go 103 Try.f103 #[.tmp 10, .tmp 11, .tmp 14] #[95, 86, 105] rfl Try.func103 (by kernel_rfl) (by kernel_rfl) (by simp [e1, e2, e3]) (Calls.mono (wout3_num x HX.out _) ?_)
    rintro e u2 ⟨rfl, hc2⟩
    exact ⟨_, rfl, by show Value.tuple _ = Value.tuple _; rw [HL.out.1, HL.out.2], hc2⟩
   ·injection ho with ho
    subst ho
    have e1 : ac.eval (.tmp 15) = .tuple #[.agg (num L), .int .u64 o] := hg 5 (by kernel_rfl) (by decide) (by decide)
    exact opG_val (by simp [execOp, e1]) rfl (Chg.refl _)
   ·injection ho with ho
    subst ho
    have e1 : ac.eval (.tmp 9) = .tuple #[.agg (num L), .int .u64 o] := hg 6 (by kernel_rfl) (by decide) (by decide)
    exact opG_val (by revert e1; generalize ac.eval = ρ; intro e1; simp [go_sem, execOp, e1]) rfl (Chg.refl _)
   ·injection ho with ho
    subst ho
    have e1 : ac.eval (.tmp 9) = .tuple #[.agg (num L), .int .u64 o] := hg 6 (by kernel_rfl) (by decide) (by decide)
    exact opG_val (by revert e1; generalize ac.eval = ρ; intro e1; simp [go_sem, execOp, e1]) rfl (Chg.refl _)
   ·injection ho with ho
    subst ho
    refine opG_val (v := .pointer (some ⟨u.heap.size, 0, none⟩)) (w' := u.alloc (.cells (num 0) 24)) (by simp [go_sem, execOp, zero25.1]) ⟨_, rfl, hc.size, ?_, ?_⟩ ((Chg.refl _).alloc _)
    ·intro e
     rw [hfl (by kernel_rfl)] at e
     cases e
    ·intro _; exact Ar.new _ _ _
   ·injection ho with ho
    subst ho
    have e1 : ac.eval (.tmp 17) = .int .u64 o := hg 8 (by kernel_rfl) (by decide) (by decide)
    exact opG_val (by simp [execOp, e1]) rfl (Chg.refl _)
  ·intro o' ac u ho hf hg hc
   injection ho with ho
   subst ho
   obtain ⟨b, e1, h1, h2, h3⟩ := hg 9 (by kernel_rfl) (by decide) (by decide)
   have e2 : ac.eval (.tmp 16) = .agg (num L) := hg 7 (by kernel_rfl) (by decide) (by decide)
   refine wp_store_mid 24 (.tmp 6) (.tmp 16) rfl b 0 (num L) e1 e2 (by rw [num_size]; exact thereN (h3 rfl)) (szN _) (num_one _) ⟨rfl, ?_, ?_⟩
   ·rw [setRowN (h3 rfl)]
    exact Chg.setRow hc h1 _
   ·intro j hj hjs h
    rw [setRowN (h3 rfl)]
    have hj' : j < 12 := hj
    have hcs : j = 0 ∨ j = 1 ∨ j = 2 ∨ j = 3 ∨ j = 4 ∨ j = 5 ∨ j = 6 ∨ j = 7 ∨ j = 8 ∨ j = 9 ∨ j = 11 := by omega
    rcases hcs with rfl | rfl | rfl | rfl | rfl | rfl | rfl | rfl | rfl | rfl | rfl
    ·exact h
    ·exact h
    ·exact h
    ·exact h
    ·exact h
    ·exact h
    ·exact h
    ·exact h
    ·exact h
    ·exact ⟨b, e1, h1, fun _ => (h3 rfl).row _, fun e => nomatch e⟩
    ·exact h
  ·exact Chg.refl _
  ·intro u V hV hB
   obtain ⟨b, q6, h1, h2, h3⟩ := hV 9 (by decide) (by decide)
   have q7 : V 11 = .int .u64 o := hV 11 (by decide) (by decide)
   have q8 : Hid (w1.heap.size ≤ b ∧ Ar u b (num L) ∧ Chg w1 u) := ⟨h1, h2 rfl, (Chg.refl w1).drew.trans hB⟩
   clear h1 h2 h3 hV hB
   go_wp2_with fail
   go_meet
   exact ⟨b, q6, q7, q8.out⟩
 obtain ⟨b, rfl, rfl, hb, ha, hc⟩ := hcut
 have Z2 : Hid (Chg w wc ∧ Ar wc (w.heap.size + 1 + 1) (num 0) ∧ Ar wc (w.heap.size + 1 + 1 + 1) #[] ∧ Ar wc b (num L) ∧ w.heap.size + 1 + 1 + 1 < b) := by
  obtain ⟨q0, q1, q2, q3, q4⟩ := Z1.out
  have := q4.lt
  exact ⟨q0.trans hc, q3.chg hc, q4.chg hc, ha, by omega⟩
 clear hb ha hc Z1
 have Y : Hid (N256 L ∧ 0 ≤ o ∧ (L + R256 * o) % mo 3 = x % mo 3 ∧ L + R256 * o < 3 * mo 3) := by
  rw [HL.out.1, HL.out.2]
  exact ord_start (f := 3) (by decide) HX.out
 clear HL
 go_wp2_with fail
 go_loopg [7] ((L + R256 * o).toNat) (fun m ov wr => ∃ (L o : Int), ov = .int .u64 o ∧ (N256 L ∧ 0 ≤ o ∧ (L + R256 * o) % mo 3 = x % mo 3 ∧ L + R256 * o < 3 * mo 3) ∧ m = (L + R256 * o).toNat ∧ Chg w wr ∧ Ar wr (w.heap.size + 1 + 1) (num 0) ∧ Ar wr (w.heap.size + 1 + 1 + 1) #[] ∧ Ar wr b (num L) ∧ w.heap.size + 1 + 1 + 1 < b)
 case atStart => exact ⟨L, o, rfl, Y.out, rfl, Z2.out⟩
 case round =>
  clear Z2 Y
  obtain ⟨L, o, rfl, hy, hm, hz⟩ := hrel
  obtain ⟨w3, hw3⟩ : ∃ w3, w3 = wr := ⟨_, rfl⟩
  subst hw3
  have Y : Hid ((N256 L ∧ 0 ≤ o ∧ (L + R256 * o) % mo 3 = x % mo 3 ∧ L + R256 * o < 3 * mo 3) ∧ gk = (L + R256 * o).toNat) := ⟨hy, hm⟩
  have Z : Hid (Chg w w3 ∧ Ar w3 (w.heap.size + 1 + 1) (num 0) ∧ Ar w3 (w.heap.size + 1 + 1 + 1) #[] ∧ Ar w3 b (num L) ∧ w.heap.size + 1 + 1 + 1 < b) := hz
  obtain ⟨x0, x1, x2, x3⟩ := Ar.four (d := dg B64 L) hz.2.2.2.1
  have hme := meth3 w3.drew
  clear hy hm hz
  by_cases hs : o = 0 ∧ L < mo 3
  ·obtain ⟨rfl, hlt⟩ := hs
   have hd : decide (L < mo 3) = true := by simp [hlt]
   clear hlt
   go_wp2_with fail
   go_region_with (first
    | (go_at_call 78; refine (order3_any _).mono ?_; rintro r w6 ⟨rfl, hc6⟩; obtain ⟨z0, z1, z2, z3⟩ := Ar.four (d := dg B64 L) (Z.out.2.2.2.1.drew.chg hc6); have HC6 : Hid (Chg w3.drew w6) := hc6; clear hc6)
    | (go_at_call 58; refine (below_num L (mo 3) Y.out.1.1 (mo_N 3) _).mono ?_; rw [hd]; rintro r w7 ⟨rfl, hc7⟩; have HC7 : Hid (Chg w3.drew w7) := HC6.out.trans hc7; clear hc7))
   all_goals
    obtain ⟨y0, y1, y2, y3⟩ := Ar.four (d := dg B64 L) (Z.out.2.2.2.1.drew.chg HC7.out)
    obtain ⟨s0, s1, s2, s3⟩ := Ar.four (d := dg B64 0) (Z.out.2.1.drew.chg HC7.out)
    obtain ⟨t0, t1, t2, t3⟩ := (Z.out.2.1.drew.chg HC7.out).free4
    go_wp2
    have hn := Z.out.2.2.2.2
    have e : L = x % mo 3 := ord_end Y.out.1 (by simpa using hd)
    refine bp_n (x := L) Try.results92 rfl rfl ?_ ⟨by rw [e], ?_⟩
    ·exact (Z.out.2.1.drew.chg HC7.out).nput L
    ·exact (Z.out.1.drew.trans HC7.out).nput (by omega) L
  ·have HG : Hid (¬ (o = 0 ∧ L < mo 3)) := hs
   go_wp2_with fail
   go_cut [27] from 18 to 27 (fun v wc => v = .bool true ∧ Chg w3 wc)
   case first =>
    by_cases h0 : o = 0
    ·subst h0
     have hd : decide (L < mo 3) = false := by simp; simp at hs; omega
     clear hs
     go_region_with (first
      | (go_at_call 78; refine (order3_any _).mono ?_; rintro r w6 ⟨rfl, hc6⟩; obtain ⟨z0, z1, z2, z3⟩ := Ar.four (d := dg B64 L) (Z.out.2.2.2.1.drew.chg hc6); have HC6 : Hid (Chg w3.drew w6) := hc6; clear hc6)
      | (go_at_call 58; refine (below_num L (mo 3) Y.out.1.1 (mo_N 3) _).mono ?_; rw [hd]; rintro r w7 ⟨rfl, hc7⟩; have HC7 : Hid (Chg w3.drew w7) := HC6.out.trans hc7; clear hc7))
     all_goals
      go_wp2_with fail
      go_meet
      exact ⟨by simp, (Chg.refl w3).drew.trans HC7.out⟩
    ·have hd : (o == 0) = false := by simpa using h0
     have hd2 : (o != 0) = true := by simpa using h0
     clear hs
     refine wp_region_good 9 (fun j v wg => match j with
      | 0 => v = .int .u64 o
      | 1 => v = .bool true
      | 2 => v = .bool true
      | _ => True) (by kernel_rfl) (by kernel_rfl) (by kernel_rfl) (by kernel_rfl) (by kernel_rfl) ?_ ?_ ?_
     ·intro j v u1 u2 h hc
      match j, h with
      | 0, h => exact h
      | 1, h => exact h
      | 2, h => exact h
      | _ + 3, h => exact trivial
     ·intro i o' ac u hi ho hsz hf hg hc
      have hcs : i = 0 ∨ i = 1 ∨ i = 2 ∨ i = 3 ∨ i = 4 ∨ i = 5 ∨ i = 6 ∨ i = 7 ∨ i = 8 := by omega
      rcases hcs with rfl | rfl | rfl | rfl | rfl | rfl | rfl | rfl | rfl
      ·injection ho with ho
       subst ho
       refine .inl ⟨wanted_none rfl, ?_⟩
       have e1 : ac.eval (.tmp 7) = .int .u64 o := hf 7 (by kernel_rfl)
       exact opG_val (by simp [execOp, e1]) rfl (Chg.refl _)
      ·injection ho with ho
       subst ho
       refine .inl ⟨wanted_none rfl, ?_⟩
       have e1 : ac.eval (.tmp 18) = .int .u64 o := hg 0 (by kernel_rfl) (by decide)
       have e2 : ac.eval (.const (.int .u64 0)) = .int .u64 0 := rfl
       exact opG_val (v := .bool true) (by revert e1 e2; generalize ac.eval = ρ; intro e1 e2; simp [go_sem, execOp, e1, e2, hd2]) rfl (Chg.refl _)
      ·injection ho with ho
       subst ho
       refine .inl ⟨wanted_none rfl, ?_⟩
       have e1 : ac.eval (.tmp 19) = .bool true := hg 1 (by kernel_rfl) (by decide)
       exact opG_val (by simp [execOp, e1]) rfl (Chg.refl _)
      all_goals
       injection ho with ho
       subst ho
       exact .inr ⟨wanted_not (T := _) (by kernel_rfl) hsz rfl (by decide : 2 < 9) rfl rfl (hg 2 (by kernel_rfl) (by decide)), trivial⟩
     ·intro o' u V ho hV hc
      injection ho with ho
      subst ho
      refine ⟨rfl, ?_⟩
      have q20 : V 2 = .bool true := hV 2 (by decide)
      refine op_val1 (v := .bool true) (w' := u) ?_ ?_
      ·refine pick_true (x := .tmp 20) (y := .const (.bool true)) (z := .tmp 26) rfl ?_ rfl _
       exact q20
      go_wp2_with fail
      go_meet
      exact ⟨rfl, (Chg.refl w3).drew.trans hc⟩
   obtain ⟨rfl, hcc⟩ := hcut
   obtain ⟨w8, hw8⟩ : ∃ w8, w8 = wc := ⟨_, rfl⟩
   subst hw8
   clear x0 x1 x2 x3 hs
   obtain ⟨x0, x1, x2, x3⟩ := Ar.four (d := dg B64 L) (Z.out.2.2.2.1.chg hcc)
   have HC8 : Hid (Chg w3 w8) := hcc
   have hme8 := meth3 w8.drew
   clear hcc hme
   go_wp2_with fail
   obtain ⟨v, hv⟩ : ∃ v, v = (L - mo 3) % R256 := ⟨_, rfl⟩
   obtain ⟨c, hcv⟩ : ∃ c, c = bor L (mo 3) := ⟨_, rfl⟩
   have k := fun W => minus_num L (mo 3) Y.out.1.1 (mo_N 3) W
   rw [← hv, ← hcv, num4 v] at k
   have HK : Hid (∀ W, Calls Try.prog 72 #[.agg (num L), .agg (num (mo 3))] W fun r w' => r = .returned (.tuple #[.agg #[.int .u64 (dg B64 v 0), .int .u64 (dg B64 v 1), .int .u64 (dg B64 v 2), .int .u64 (dg B64 v 3)], .int .u64 c]) ∧ Chg W w') := k
   have hst := ord_step (f := 3) (by decide) Y.out.1 HG.out hv hcv
   have hw : IntKind.u64.wrap (o - c) = o - c := hst.2.2
   have HS : Hid ((N256 v ∧ 0 ≤ o - c ∧ (v + R256 * (o - c)) % mo 3 = x % mo 3 ∧ v + R256 * (o - c) < 3 * mo 3) ∧ (v + R256 * (o - c)).toNat < gk) := ⟨hst.1, by rw [Y.out.2]; exact hst.2.1⟩
   clear k hv hcv hst
   go_cut [8] from 28 to 35 (fun v8 wc => v8 = .int .u64 c ∧ ∃ w9, Chg w8 w9 ∧ wc = nput w9 b v)
   case first =>
    go_region_with (first
     | (go_at_call 78; refine (order3_any _).mono ?_; rintro r w6 ⟨rfl, hc6⟩; obtain ⟨z0, z1, z2, z3⟩ := Ar.four (d := dg B64 L) ((Z.out.2.2.2.1.chg HC8.out).drew.chg hc6); have HC6 : Hid (Chg w8.drew w6) := hc6; clear hc6)
     | (go_at_call 72; refine (HK.out _).mono ?_; rintro r w7 ⟨rfl, hc7⟩; have HC7 : Hid (Chg w8.drew w7) := HC6.out.trans hc7; clear hc7; obtain ⟨y0, y1, y2, y3⟩ := Ar.four (d := dg B64 L) ((Z.out.2.2.2.1.chg HC8.out).drew.chg HC7.out); obtain ⟨g0, g1, g2, g3⟩ := ((Z.out.2.2.2.1.chg HC8.out).drew.chg HC7.out).free4))
    all_goals
     go_wp2_with fail
     go_meet
     exact ⟨rfl, _, (Chg.refl w8).drew.trans HC7.out, rfl⟩
   obtain ⟨rfl, w9, hc9, hwc⟩ := hcut
   have ZZ : Hid (Chg w wc ∧ Ar wc (w.heap.size + 1 + 1) (num 0) ∧ Ar wc (w.heap.size + 1 + 1 + 1) #[] ∧ Ar wc b (num v) ∧ w.heap.size + 1 + 1 + 1 < b) := by
    obtain ⟨q0, q1, q2, q3, q4⟩ := Z.out
    rw [hwc]
    exact ⟨((q0.trans HC8.out).trans hc9).nput (by omega) v, ((q1.chg HC8.out).chg hc9).nput_other (by omega) v, ((q2.chg HC8.out).chg hc9).nput_other (by omega) v, ((q3.chg HC8.out).chg hc9).nput v, q4⟩
   clear hc9 hwc x0 x1 x2 x3
   go_wp2_with fail
   go_roundg ((v + R256 * (o - c)).toNat)
   case measure => exact HS.out.2
   case rel => exact ⟨v, o - c, rfl, HS.out.1, rfl, ZZ.out⟩
end Go.Proofs.Ytbdgmkejmfjobaa
