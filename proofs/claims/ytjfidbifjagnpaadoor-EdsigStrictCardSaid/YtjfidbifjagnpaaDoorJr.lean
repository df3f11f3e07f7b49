/-
  Numbers compared; what may be a root modulo 2^255 - 19.
  Roots.
  The even root of a square, plainly.
  Roots of whatever field, the program's and the document's.
-/
import Derived.Test.YtjfidbifjagnpaaDoorJi
import Derived.Test.YtjfidbifjagnpaaDoorJn
namespace Go.Proofs.YtjfidbifjagnpaaDoor
open Go.RowKit
set_option linter.unusedVariables false
set_option maxRecDepth 100000
theorem size23 (w : World) : (sizeOf 30).run Tryd.prog w = .ok 1 w := by
 have h : (Tryd.prog.info? 30).map (·.size) = some 1 := by kernel_rfl
 cases hq : Tryd.prog.info? 30 with
 | none => simp [hq] at h
 | some i =>
  rw [hq] at h
  have h : i.size = 1 := Option.some.inj h
  simp [sizeOf, typeInfo, hq, h]
theorem und23 : Tryd.prog.underlying 30 = some (.int .u64) := by kernel_rfl
theorem run_part23 (n : Nat) (f : Nat → Int) {i : Nat} (hi : i < n) (w : World) : (part 30 (arr .u64 n f) i).run Tryd.prog w = .ok (.int .u64 (f i)) w := by
 simp [part, arr_get .u64 n f hi, Sem.run_bind]
theorem run_eqW {t n : Nat} (hu : Tryd.prog.underlying t = some (.array n 30)) (hl : List.range' [0:n].start [0:n].size [0:n].step = List.range n) (f g : Nat → Int) (d : Nat) (w : World) : (Op.equalIn (d + 2) t (.agg (arr .u64 n f)) (.agg (arr .u64 n g))).run Tryd.prog w = .ok ((List.range n).all fun i => f i == g i) w := by
 unfold Op.equalIn
 simp only [Sem.run_bind, run_underlying hu, Result.andThen_ok, size23, Nat.mul_one]
 rw [Std.Legacy.Range.forIn_eq_forIn_range', hl]
 have hm : ∀ i ∈ List.range n, i < n := fun i hi => List.mem_range.1 hi
 generalize List.range n = l at hm
 clear hl
 induction l generalizing w with
 | nil => simp
 | cons i l ih =>
  have hi := hm i (by simp)
  simp only [List.forIn_cons, Sem.run_bind, run_part23 n f hi, run_part23 n g hi, Result.andThen_ok, run_equalIn_int _ d 30 .u64 .u64 _ _ und23]
  cases hc : (f i == g i) with
  | true =>
   simp only [List.all_cons, hc, Bool.true_and, Bool.not_true, Bool.false_eq_true, if_false, Sem.run_pure, Result.andThen_ok]
   exact ih w (fun j hj => hm j (by simp [hj]))
  | false =>
   simp only [List.all_cons, hc, Bool.false_and, Bool.not_false, if_true, Sem.run_pure, Result.andThen_ok]
theorem num_same {x y : Int} (hx : N256 x) (hy : N256 y) : ((List.range 4).all fun i => dg B64 x i == dg B64 y i) = decide (x = y) := by
 rw [Bool.eq_iff_iff, List.all_eq_true, decide_eq_true_eq]
 constructor
 ·intro h
  rw [← val4 x hx.1 hx.2, ← val4 y hy.1 hy.2]
  exact val_congr fun i hi => by simpa using h i (List.mem_range.2 hi)
 ·rintro rfl i _
  exact beq_self_eq_true _
theorem run_eqNum {x y : Int} (hx : N256 x) (hy : N256 y) (w : World) : (Op.equalIn 10000 32 (.agg (num x)) (.agg (num y))).run Tryd.prog w = .ok (decide (x = y)) w := by
 have := run_eqW (t := 32) (n := 4) (by kernel_rfl) (by decide) (dg B64 x) (dg B64 y) 9998 w
 rw [num_same hx hy] at this
 exact this
theorem op_eqNum {o : Oper} {a : Act} {w : World} {K : Act → World → Prop} {Q : Exit → Act → World → Prop} (x y : Operand) (s t : Int) (b : Bool) (ho : o.op = .binOp .eql 32 x y 32) (hs : N256 s) (ht : N256 t) (hx : a.eval x = .agg (num s)) (hy : a.eval y = .agg (num t)) (hb : decide (s = t) = b) (hK : K (a.put o.dst (.bool b)) w) : o.wp Tryd.prog a w K Q := by
 refine op_val1 (v := .bool b) ?_ hK
 revert hx hy
 generalize a.eval = ρ
 intro hx hy
 simp [go_sem, execOp, ho, hx, hy, run_eqNum hs ht, hb]
theorem op_neqNum {o : Oper} {a : Act} {w : World} {K : Act → World → Prop} {Q : Exit → Act → World → Prop} (x y : Operand) (s t : Int) (b : Bool) (ho : o.op = .binOp .neq 32 x y 32) (hs : N256 s) (ht : N256 t) (hx : a.eval x = .agg (num s)) (hy : a.eval y = .agg (num t)) (hb : decide (s = t) = b) (hK : K (a.put o.dst (.bool (!b))) w) : o.wp Tryd.prog a w K Q := by
 refine op_val1 (v := .bool (!b)) ?_ hK
 revert hx hy
 generalize a.eval = ρ
 intro hx hy
 simp [go_sem, execOp, ho, hx, hy, run_eqNum hs ht, hb]
def e255 : Int := (mo 1 + 3) / 8
def i255 : Int := 0x2b8324804fc1df0b2b4d00993dfbd7a72f431806ad2fe478c4ee1b274a0ea0b0
def mr1 (a : Int) : Int := if (a ^ e255.toNat % mo 1) * (a ^ e255.toNat % mo 1) % mo 1 = a % mo 1 then a ^ e255.toNat % mo 1 else (a ^ e255.toNat % mo 1) * i255 % mo 1
theorem num_e255 : ((((num 0).setIfInBounds 0 (.int .u64 18446744073709551614)).setIfInBounds 1 (.int .u64 18446744073709551615)).setIfInBounds 2 (.int .u64 18446744073709551615)).setIfInBounds 3 (.int .u64 1152921504606846975) = num e255 := by kernel_rfl
theorem num_i255 : ((((num 0).setIfInBounds 0 (.int .u64 14190309331451158704)).setIfInBounds 1 (.int .u64 3405592160176694392)).setIfInBounds 2 (.int .u64 3120150775007532967)).setIfInBounds 3 (.int .u64 3135389899092516619) = num i255 := by kernel_rfl
theorem N_e255 : N256 e255 := by constructor <;> decide +kernel
theorem N_i255 : N256 i255 := by constructor <;> decide +kernel
theorem mr1_N (a : Int) : N256 (mr1 a) := by
 unfold mr1
 split
 ·exact N_mod (.inl rfl) _
 ·exact N_mod (.inl rfl) _
structure RT (w wr : World) (b3 b4 b5 : Nat) (A L I R : Array Value) : Prop where
 chg : Chg w wr
 r1 : Ar wr w.heap.size A
 r2 : Ar wr (w.heap.size + 1) (num 0)
 r3 : Ar wr b3 L
 r4 : Ar wr b4 I
 r5 : Ar wr b5 R
theorem RT.to {w wr u : World} {b3 b4 b5 : Nat} {A L I R : Array Value} (h : RT w wr b3 b4 b5 A L I R) (k : Chg wr u) : RT w u b3 b4 b5 A L I R := ⟨h.chg.trans k, h.r1.chg k, h.r2.chg k, h.r3.chg k, h.r4.chg k, h.r5.chg k⟩
set_option maxHeartbeats 8000000 in
theorem maybe1_any (a : Int) (ha : N256 a) (w : World) : Calls Tryd.prog 68 #[.agg (num a)] w fun r w' => r = .returned (.agg (num (mr1 a))) ∧ Chg w w' := by
 have hz := zero25.1
 have hsA := num_size a
 obtain ⟨r, hr⟩ : ∃ r, r = a ^ e255.toNat % mo 1 := ⟨_, rfl⟩
 have hrN : N256 r := by rw [hr]; exact N_mod (.inl rfl) _
 obtain ⟨rr, hrr⟩ : ∃ rr, rr = r * r % mo 1 := ⟨_, rfl⟩
 obtain ⟨aa, haa⟩ : ∃ aa, aa = a % mo 1 := ⟨_, rfl⟩
 have HM : Hid (mr1 a = if rr = aa then r else r * i255 % mo 1) := by
  show mr1 a = _
  rw [hrr, haa, hr]
  rfl
 have HNs : Hid (N256 rr ∧ N256 aa) := ⟨by rw [hrr]; exact N_mod (.inl rfl) _, by rw [haa]; exact N_mod (.inl rfl) _⟩
 have k1 := fun W => exp_any 1 a e255 (.inl rfl) ha N_e255 W
 have k2 := fun W => mul_any 1 r r (.inl rfl) hrN hrN W
 have k3 := fun W => rest_any 1 a (.inl rfl) ha W
 have k4 := fun W => mul_any 1 r i255 (.inl rfl) hrN N_i255 W
 rw [← hr] at k1
 rw [← hrr] at k2
 rw [← haa] at k3
 obtain ⟨A, hA⟩ : ∃ A, A = num a := ⟨_, rfl⟩
 obtain ⟨L, hL⟩ : ∃ L, L = num e255 := ⟨_, rfl⟩
 obtain ⟨I, hI⟩ : ∃ I, I = num i255 := ⟨_, rfl⟩
 obtain ⟨R, hR⟩ : ∃ R, R = num r := ⟨_, rfl⟩
 obtain ⟨X, hX⟩ : ∃ X, X = num (r * i255 % mo 1) := ⟨_, rfl⟩
 have HE : Hid (L = num e255 ∧ I = num i255 ∧ R = num r ∧ X = num (r * i255 % mo 1)) := ⟨hL, hI, hR, hX⟩
 have HSz : Hid (((Tryd.prog.info? 32).map (·.size) = some R.size ∧ (num 0).size = R.size ∧ R.all (·.oneCell') = true) ∧ (Tryd.prog.info? 32).map (·.size) = some X.size ∧ (num 0).size = X.size ∧ X.all (·.oneCell') = true) := by
  rw [hR, hX]
  exact ⟨⟨szN _, lenN _ _, num_one _⟩, szN _, lenN _ _, num_one _⟩
 have HI : Hid ((Tryd.prog.info? 32).map (·.size) = some A.toList.length ∧ ((Tryd.prog.info? 32).map (·.size) = some L.toList.length ∧ (Tryd.prog.info? 32).map (·.size) = some I.toList.length) ∧ (Tryd.prog.info? 32).map (·.size) = some R.toList.length) := by
  rw [hA, hL, hI, hR]
  exact ⟨infoN _, ⟨infoN _, infoN _⟩, infoN _⟩
 rw [← hA] at hsA k1 k3 ⊢
 rw [← hL, ← hR] at k1
 rw [← hR] at k2
 rw [← hR, ← hI, ← hX] at k4
 have HK : Hid ((∀ W, Calls Tryd.prog 60 #[.int .i64 1, .agg A, .agg L] W fun r w' => r = .returned (.agg R) ∧ Chg W w') ∧ (∀ W, Calls Tryd.prog 26 #[.int .i64 1, .agg R, .agg R] W fun r w' => r = .returned (.agg (num rr)) ∧ Chg W w') ∧ (∀ W, Calls Tryd.prog 46 #[.int .i64 1, .agg A] W fun r w' => r = .returned (.agg (num aa)) ∧ Chg W w') ∧ (∀ W, Calls Tryd.prog 26 #[.int .i64 1, .agg R, .agg I] W fun r w' => r = .returned (.agg X) ∧ Chg W w')) := ⟨k1, k2, k3, k4⟩
 clear hA hL hI hR hX k1 k2 k3 k4 ha hr hrN hrr haa
 go_enter Tryd.func68, Tryd.ntmps68
 go_upto_region 1 with fail
 obtain ⟨w1, hw1⟩ : ∃ w1, w1 = (w.alloc (.cells A 32)).alloc (.cells (num 0) 32) := ⟨_, rfl⟩
 have Z : Hid (Chg w w1 ∧ Ar w1 w.heap.size A ∧ Ar w1 (w.heap.size + 1) (num 0)) := by
  rw [hw1]
  exact ⟨((Chg.refl w).alloc _).alloc _, (Ar.new w _ _).alloc _, Ar.new1 w _ _ _⟩
 rw [← hw1]
 clear hw1 hsA
 go_upto_region 2 with (first | refine wpList_store_row rfl 32 _ _ rfl _ _ rfl rfl _ _ (heap_alloc_last w1 _) (by rw [num_e255]; exact szN _) (by rw [num_e255]; exact lenN _ _) (by rw [num_e255]; exact num_one _) ?_)
 rw [num_e255, ← HE.out.1]
 obtain ⟨b3, hb3⟩ : ∃ b, b = w1.heap.size := ⟨_, rfl⟩
 obtain ⟨w2, hw2⟩ : ∃ w4, w4 = (w1.alloc (.cells (num 0) 32)).setRow w1.heap.size L := ⟨_, rfl⟩
 have Z2 : Hid ((Chg w w2 ∧ Ar w2 w.heap.size A ∧ Ar w2 (w.heap.size + 1) (num 0)) ∧ Ar w2 b3 L) := by
  have q := Z.out
  have q1 := q.2.2.lt
  rw [hw2, hb3]
  exact ⟨⟨(q.1.alloc _).setRow (by omega) _, (q.2.1.alloc _).rowOther (by omega) _, (q.2.2.alloc _).rowOther (by omega) _⟩, (Ar.new w1 _ _).row _⟩
 rw [← hw2, ← hb3]
 clear hw2 hb3 Z
 go_upto_region 3 with (first | refine wpList_store_row rfl 32 _ _ rfl _ _ rfl rfl _ _ (heap_alloc_last w2 _) (by rw [num_i255]; exact szN _) (by rw [num_i255]; exact lenN _ _) (by rw [num_i255]; exact num_one _) ?_)
 rw [num_i255, ← HE.out.2.1]
 obtain ⟨b4, hb4⟩ : ∃ b, b = w2.heap.size := ⟨_, rfl⟩
 obtain ⟨w3, hw3⟩ : ∃ w4, w4 = (w2.alloc (.cells (num 0) 32)).setRow w2.heap.size I := ⟨_, rfl⟩
 have Z3 : Hid ((Chg w w3 ∧ Ar w3 w.heap.size A ∧ Ar w3 (w.heap.size + 1) (num 0)) ∧ Ar w3 b3 L ∧ Ar w3 b4 I) := by
  obtain ⟨q, q5⟩ := Z2.out
  have q1 := q.2.2.lt
  have q6 := q5.lt
  rw [hw3, hb4]
  exact ⟨⟨(q.1.alloc _).setRow (by omega) _, (q.2.1.alloc _).rowOther (by omega) _, (q.2.2.alloc _).rowOther (by omega) _⟩, (q5.alloc _).rowOther (by omega) _, (Ar.new w2 _ _).row _⟩
 rw [← hw3, ← hb4]
 clear hw3 hb4 Z2
 obtain ⟨iA, ⟨iL, -⟩, -⟩ := HI.out
 have r3 := rangeA Z3.out.1.2.1
 have r5 := rangeA Z3.out.2.1
 obtain ⟨sR, lR, oR⟩ := HSz.out.1
 go_wp2_with (first
  | refine wpList_load_mid rfl 32 (.tmp 1) rfl _ _ rfl (A.toList) _ r3 u25 rfl iA ?_
  | refine wpList_load_mid rfl 32 (.tmp 3) rfl _ _ rfl (L.toList) _ r5 u25 rfl iL ?_)
 go_at_call 60
 refine (HK.out.1 _).mono ?_
 rintro r' w5 ⟨rfl, hc5⟩
 go_upto_region 4 with (first | refine wpList_store_row rfl 32 _ _ rfl _ _ rfl rfl _ _ (heap_alloc_last w5 _) sR lR oR ?_)
 obtain ⟨b5, hb5⟩ : ∃ b, b = w5.heap.size := ⟨_, rfl⟩
 obtain ⟨w6, hw6⟩ : ∃ w4, w4 = (w5.alloc (.cells (num 0) 32)).setRow w5.heap.size R := ⟨_, rfl⟩
 have Z6 : Hid (RT w w6 b3 b4 b5 A L I R) := by
  obtain ⟨q, q3, q4⟩ := Z3.out
  have q1 := (q.2.2.chg hc5).lt
  have q5 := (q3.chg hc5).lt
  have q6 := (q4.chg hc5).lt
  rw [hw6, hb5]
  exact ⟨((q.1.trans hc5).alloc _).setRow (by omega) _, ((q.2.1.chg hc5).alloc _).rowOther (by omega) _, ((q.2.2.chg hc5).alloc _).rowOther (by omega) _, ((q3.chg hc5).alloc _).rowOther (by omega) _, ((q4.chg hc5).alloc _).rowOther (by omega) _, (Ar.new w5 _ _).row _⟩
 rw [← hw6, ← hb5]
 clear hw6 hb5 hc5 Z3 r3 r5 sR lR oR iA iL
 obtain ⟨bb, hbb⟩ : ∃ bb, decide (rr = aa) = bb := ⟨_, rfl⟩
 have HB : Hid (decide (rr = aa) = bb) := hbb
 clear hbb
 try dsimp only [Act.put]
 go_cut [16] from 11 to 16 (fun v wc => v = .bool bb ∧ Chg w6 wc)
 case first =>
  refine wp_region_good 5 (fun j v wg => match j with
   | 0 => v = .agg R
   | 1 => v = .agg R
   | 2 => v = .agg (num rr)
   | 3 => v = .agg A
   | 4 => v = .agg (num aa)
   | _ => True) (by kernel_rfl) (by kernel_rfl) (by kernel_rfl) (by kernel_rfl) (by kernel_rfl) ?_ ?_ ?_
  ·intro j v u1 u2 h hc
   match j, h with
   | 0, h => exact h
   | 1, h => exact h
   | 2, h => exact h
   | 3, h => exact h
   | 4, h => exact h
   | _ + 5, h => exact trivial
  ·intro i o ac u hi ho hsz hf hg hc
   have hcs : i = 0 ∨ i = 1 ∨ i = 2 ∨ i = 3 ∨ i = 4 := by omega
   rcases hcs with rfl | rfl | rfl | rfl | rfl
   ·injection ho with ho
    subst ho
    refine .inl ⟨wanted_none rfl, ?_⟩
    have e1 : ac.eval (.tmp 5) = .pointer (some ⟨b5, 0, none⟩) := hf 5 (by kernel_rfl)
    exact wp_load_mid 32 (.tmp 5) rfl _ _ e1 (R.toList) _ (rangeA (Ar.chg (w := w6.drew) Z6.out.r5 hc)) undNum rfl (HI.out.2.2) ⟨_, rfl, rfl, Chg.refl _⟩
   ·injection ho with ho
    subst ho
    refine .inl ⟨wanted_none rfl, ?_⟩
    have e1 : ac.eval (.tmp 5) = .pointer (some ⟨b5, 0, none⟩) := hf 5 (by kernel_rfl)
    exact wp_load_mid 32 (.tmp 5) rfl _ _ e1 (R.toList) _ (rangeA (Ar.chg (w := w6.drew) Z6.out.r5 hc)) undNum rfl (HI.out.2.2) ⟨_, rfl, rfl, Chg.refl _⟩
   ·injection ho with ho
    subst ho
    refine .inl ⟨wanted_none rfl, ?_⟩
    have e1 : ac.eval (.const (.int .i64 1)) = .int .i64 1 := rfl
    have e2 : ac.eval (.tmp 11) = .agg R := hg 0 (by kernel_rfl) (by decide)
    have e3 : ac.eval (.tmp 12) = .agg R := hg 1 (by kernel_rfl) (by decide)
    refine opG_go 26 Tryd.f26 #[.const (.int .i64 1), .tmp 11, .tmp 12] #[37, 32, 32] rfl Tryd.func26 (by kernel_rfl) (by kernel_rfl) (by simp [e1, e2, e3]) (Calls.mono (HK.out.2.1 _) ?_)
    rintro e u2 ⟨rfl, hc2⟩
    exact ⟨_, rfl, rfl, hc2⟩
   ·injection ho with ho
    subst ho
    refine .inl ⟨wanted_none rfl, ?_⟩
    have e1 : ac.eval (.tmp 1) = .pointer (some ⟨w.heap.size, 0, none⟩) := hf 1 (by kernel_rfl)
    exact wp_load_mid 32 (.tmp 1) rfl _ _ e1 (A.toList) _ (rangeA (Ar.chg (w := w6.drew) Z6.out.r1 hc)) undNum rfl (HI.out.1) ⟨_, rfl, rfl, Chg.refl _⟩
   ·injection ho with ho
    subst ho
    refine .inl ⟨wanted_none rfl, ?_⟩
    have e1 : ac.eval (.const (.int .i64 1)) = .int .i64 1 := rfl
    have e2 : ac.eval (.tmp 14) = .agg A := hg 3 (by kernel_rfl) (by decide)
    refine opG_go 46 Tryd.f46 #[.const (.int .i64 1), .tmp 14] #[37, 32] rfl Tryd.func46 (by kernel_rfl) (by kernel_rfl) (by simp [e1, e2]) (Calls.mono (HK.out.2.2.1 _) ?_)
    rintro e u2 ⟨rfl, hc2⟩
    exact ⟨_, rfl, rfl, hc2⟩
  ·intro o u V ho hV hc
   injection ho with ho
   subst ho
   refine ⟨rfl, ?_⟩
   have q11 : V 0 = .agg R := hV 0 (by decide)
   have q12 : V 1 = .agg R := hV 1 (by decide)
   have q13 : V 2 = .agg (num rr) := hV 2 (by decide)
   have q14 : V 3 = .agg A := hV 3 (by decide)
   have q15 : V 4 = .agg (num aa) := hV 4 (by decide)
   refine op_eqNum (.tmp 13) (.tmp 15) rr aa bb rfl HNs.out.1 HNs.out.2 (Eq.trans (by rfl) q13) (Eq.trans (by rfl) q15) HB.out ?_
   go_wp2_with fail
   go_meet
   exact ⟨rfl, (Chg.refl w6).drew.trans hc⟩
 obtain ⟨rfl, c6⟩ := hcut
 obtain ⟨w7, hw7⟩ : ∃ w7, w7 = wc := ⟨_, rfl⟩
 have Z7 : Hid (RT w w7 b3 b4 b5 A L I R) := by rw [hw7]; exact Z6.out.to c6
 rw [← hw7]
 clear hw7 c6 Z6
 cases bb with
 | true =>
  have r5 := rangeA Z7.out.r5
  obtain ⟨-, -, iR⟩ := HI.out
  obtain ⟨sR, lR, oR⟩ := HSz.out.1
  obtain ⟨t, g⟩ := Z7.out.r2
  go_wp2_with (first
   | refine wpList_load_mid rfl 32 (.tmp 5) rfl _ _ rfl (R.toList) _ r5 undNum rfl iR ?_
   | refine wpList_store_row rfl 32 _ _ rfl _ _ rfl rfl _ _ g sR lR oR ?_)
  have e : R = num (mr1 a) := by rw [HM.out, if_pos (of_decide_eq_true HB.out)]; exact HE.out.2.2.1
  rw [e]
  refine bp_n (x := mr1 a) Tryd.results68 rfl rfl ?_ ⟨rfl, Z7.out.chg.setRow (by omega) _⟩
  exact Z7.out.r2.row _
 | false =>
  have r5 := rangeA Z7.out.r5
  have r4 := rangeA Z7.out.r4
  obtain ⟨-, ⟨-, iI⟩, iR⟩ := HI.out
  go_wp2_with (first
   | refine wpList_load_mid rfl 32 (.tmp 5) rfl _ _ rfl (R.toList) _ r5 undNum rfl iR ?_
   | refine wpList_load_mid rfl 32 (.tmp 4) rfl _ _ rfl (I.toList) _ r4 undNum rfl iI ?_)
  go_at_call 26
  refine (HK.out.2.2.2 _).mono ?_
  rintro r' w8 ⟨rfl, hc8⟩
  have Z8 : Hid (RT w w8 b3 b4 b5 A L I R) := Z7.out.to hc8
  clear hc8 Z7 r5 r4 iI iR
  obtain ⟨sX, lX, oX⟩ := HSz.out.2
  obtain ⟨t, g⟩ := Z8.out.r2
  go_wp2_with (first | refine wpList_store_row rfl 32 _ _ rfl _ _ rfl rfl _ _ g sX lX oX ?_)
  have e : X = num (mr1 a) := by rw [HM.out, if_neg (of_decide_eq_false HB.out)]; exact HE.out.2.2.2
  rw [e]
  refine bp_n (x := mr1 a) Tryd.results68 rfl rfl ?_ ⟨rfl, Z8.out.chg.setRow (by omega) _⟩
  exact Z8.out.r2.row _
end Go.Proofs.YtjfidbifjagnpaaDoor
namespace Go.Proofs.YtjfidbifjagnpaaDoor
open Go.RowKit
set_option linter.unusedVariables false
set_option maxRecDepth 100000
def rootN (f a m : Int) : Int := if m * m % mo f = a % mo f then (if dg 2 m 0 = 1 then (0 - m) % mo f else m) else 0
structure R2 (w wr : World) (A R : Array Value) : Prop where
 chg : Chg w wr
 r1 : Ar wr w.heap.size A
 r2 : Ar wr (w.heap.size + 1) (num 0)
 r3 : Ar wr (w.heap.size + 1 + 1) R
theorem R2.to {w wr u : World} {A R : Array Value} (h : R2 w wr A R) (k : Chg wr u) : R2 w u A R := ⟨h.chg.trans k, h.r1.chg k, h.r2.chg k, h.r3.chg k⟩
set_option maxHeartbeats 8000000 in
theorem root1_any (a : Int) (ha : N256 a) (w : World) : Calls Tryd.prog 50 #[.int .i64 1, .agg (num a)] w fun r w' => r = .returned (.tuple #[.agg (num (rootN 1 a (mr1 a))), .bool (decide ((mr1 a) * (mr1 a) % mo 1 = a % mo 1))]) ∧ Chg w w' := by
 have hz := zero25.1
 have hsA := num_size a
 have k0 := fun W => maybe1_any a ha W
 have hmN : N256 (mr1 a) := mr1_N a
 obtain ⟨m, hm⟩ : ∃ m, m = mr1 a := ⟨_, rfl⟩
 rw [← hm] at k0 hmN ⊢
 clear hm
 obtain ⟨rr, hrr⟩ : ∃ rr, rr = m * m % mo 1 := ⟨_, rfl⟩
 obtain ⟨aa, haa⟩ : ∃ aa, aa = a % mo 1 := ⟨_, rfl⟩
 have HM : Hid (rootN 1 a m = if rr = aa then (if dg 2 m 0 = 1 then (0 - m) % mo 1 else m) else 0) := by
  show rootN 1 a m = _
  rw [hrr, haa]
  rfl
 have HNs : Hid (N256 rr ∧ N256 aa) := ⟨by rw [hrr]; exact N_mod (.inl rfl) _, by rw [haa]; exact N_mod (.inl rfl) _⟩
 have k2 := fun W => mul_any 1 m m (.inl rfl) hmN hmN W
 have k3 := fun W => rest_any 1 a (.inl rfl) ha W
 have k4 := fun W => bit_any m 0 (by decide) W
 have k5 := fun W => neg_any 1 m (.inl rfl) hmN W
 rw [← hrr] at k2 ⊢
 rw [← haa] at k3 ⊢
 obtain ⟨A, hA⟩ : ∃ A, A = num a := ⟨_, rfl⟩
 obtain ⟨R, hR⟩ : ∃ R, R = num m := ⟨_, rfl⟩
 obtain ⟨X, hX⟩ : ∃ X, X = num ((0 - m) % mo 1) := ⟨_, rfl⟩
 obtain ⟨cb, hcb⟩ : ∃ cb, cb = (dg 2 m 0 == 1) := ⟨_, rfl⟩
 have HE : Hid (R = num m ∧ X = num ((0 - m) % mo 1) ∧ cb = (dg 2 m 0 == 1)) := ⟨hR, hX, hcb⟩
 have HSz : Hid (((Tryd.prog.info? 32).map (·.size) = some R.size ∧ (num 0).size = R.size ∧ R.all (·.oneCell') = true) ∧ (Tryd.prog.info? 32).map (·.size) = some X.size ∧ ((num 0).size = X.size ∧ R.size = X.size) ∧ X.all (·.oneCell') = true) := by
  rw [hR, hX]
  exact ⟨⟨szN _, lenN _ _, num_one _⟩, szN _, ⟨lenN _ _, lenN _ _⟩, num_one _⟩
 have HI : Hid ((Tryd.prog.info? 32).map (·.size) = some A.toList.length ∧ (Tryd.prog.info? 32).map (·.size) = some R.toList.length ∧ (Tryd.prog.info? 32).map (·.size) = some X.toList.length) := by
  rw [hA, hR, hX]
  exact ⟨infoN _, infoN _, infoN _⟩
 have HZ : Hid ((Tryd.prog.info? 32).map (·.size) = some (num 0).size ∧ (num 0).size = (num 0).size ∧ (num 0).all (·.oneCell') = true) := ⟨szN _, rfl, num_one _⟩
 rw [← hA] at hsA k0 k3 ⊢
 rw [← hR] at k0 k2 k4 k5
 rw [← hX] at k5
 rw [← hcb] at k4
 have HK : Hid ((∀ W, Calls Tryd.prog 68 #[.agg A] W fun r w' => r = .returned (.agg R) ∧ Chg W w') ∧ (∀ W, Calls Tryd.prog 26 #[.int .i64 1, .agg R, .agg R] W fun r w' => r = .returned (.agg (num rr)) ∧ Chg W w') ∧ (∀ W, Calls Tryd.prog 46 #[.int .i64 1, .agg A] W fun r w' => r = .returned (.agg (num aa)) ∧ Chg W w') ∧ (∀ W, Calls Tryd.prog 70 #[.agg R, .int .i64 0] W fun r w' => r = .returned (.bool cb) ∧ Chg W w') ∧ (∀ W, Calls Tryd.prog 30 #[.int .i64 1, .agg R] W fun r w' => r = .returned (.agg X) ∧ Chg W w')) := ⟨k0, k2, k3, k4, k5⟩
 clear hA hR hX hcb k0 k2 k3 k4 k5 ha hmN hrr haa
 go_enter Tryd.func50, Tryd.ntmps50
 go_upto_region 2 with fail
 obtain ⟨w1, hw1⟩ : ∃ w1, w1 = ((w.alloc (.cells A 32)).alloc (.cells (num 0) 32)).alloc (.cells (num 0) 32) := ⟨_, rfl⟩
 have Z : Hid (Chg w w1 ∧ Ar w1 w.heap.size A ∧ Ar w1 (w.heap.size + 1) (num 0) ∧ Ar w1 (w.heap.size + 1 + 1) (num 0)) := by
  rw [hw1]
  exact ⟨(((Chg.refl w).alloc _).alloc _).alloc _, ((Ar.new w _ _).alloc _).alloc _, (Ar.new1 w _ _ _).alloc _, Ar.new2 w _ _ _ _⟩
 rw [← hw1]
 clear hw1 hsA
 obtain ⟨iA, -, -⟩ := HI.out
 have r3 := rangeA Z.out.2.1
 go_wp2_with (first
  | refine wpList_load_mid rfl 32 (.tmp 3) rfl _ _ rfl (A.toList) _ r3 u25 rfl iA ?_)
 go_at_call 68
 refine (HK.out.1 _).mono ?_
 rintro r' w5 ⟨rfl, hc5⟩
 obtain ⟨sR, lR, oR⟩ := HSz.out.1
 have Z5 : Hid (Chg w w5 ∧ Ar w5 w.heap.size A ∧ Ar w5 (w.heap.size + 1) (num 0) ∧ Ar w5 (w.heap.size + 1 + 1) (num 0)) := ⟨Z.out.1.trans hc5, Z.out.2.1.chg hc5, Z.out.2.2.1.chg hc5, Z.out.2.2.2.chg hc5⟩
 obtain ⟨t6, g6⟩ := Z5.out.2.2.2
 clear hc5 Z r3 iA
 go_upto_region 8 with (first | refine wpList_store_row rfl 32 _ _ rfl _ _ rfl rfl _ _ g6 sR lR oR ?_)
 obtain ⟨w6, hw6⟩ : ∃ w4, w4 = w5.setRow (w.heap.size + 1 + 1) R := ⟨_, rfl⟩
 have Z6 : Hid (R2 w w6 A R) := by
  obtain ⟨q0, q1, q2, q3⟩ := Z5.out
  rw [hw6]
  exact ⟨q0.setRow (by omega) _, q1.rowOther (by omega) _, q2.rowOther (by omega) _, q3.row _⟩
 rw [← hw6]
 clear hw6 Z5 g6 sR lR oR
 obtain ⟨bb, hbb⟩ : ∃ bb, decide (rr = aa) = bb := ⟨_, rfl⟩
 have HB : Hid (decide (rr = aa) = bb) := hbb
 clear hbb
 try dsimp only [Act.put]
 go_cut [24] from 17 to 24 (fun v wc => v = .bool (!bb) ∧ Chg w6 wc)
 case first =>
  refine wp_region_good 7 (fun j v wg => match j with
   | 0 => v = .int .i64 1
   | 1 => v = .agg R
   | 2 => v = .agg R
   | 3 => v = .agg (num rr)
   | 4 => v = .int .i64 1
   | 5 => v = .agg A
   | 6 => v = .agg (num aa)
   | _ => True) (by kernel_rfl) (by kernel_rfl) (by kernel_rfl) (by kernel_rfl) (by kernel_rfl) ?_ ?_ ?_
  ·intro j v u1 u2 h hc
   match j, h with
   | 0, h => exact h
   | 1, h => exact h
   | 2, h => exact h
   | 3, h => exact h
   | 4, h => exact h
   | 5, h => exact h
   | 6, h => exact h
   | _ + 7, h => exact trivial
  ·intro i o ac u hi ho hsz hf hg hc
   have hcs : i = 0 ∨ i = 1 ∨ i = 2 ∨ i = 3 ∨ i = 4 ∨ i = 5 ∨ i = 6 := by omega
   rcases hcs with rfl | rfl | rfl | rfl | rfl | rfl | rfl
   ·injection ho with ho
    subst ho
    refine .inl ⟨wanted_none rfl, ?_⟩
    have e1 : ac.eval (.tmp 0) = .int .i64 1 := hf 0 (by kernel_rfl)
    exact opG_val (by simp [execOp, e1]) rfl (Chg.refl _)
   ·injection ho with ho
    subst ho
    refine .inl ⟨wanted_none rfl, ?_⟩
    have e1 : ac.eval (.tmp 6) = .pointer (some ⟨w.heap.size + 1 + 1, 0, none⟩) := hf 6 (by kernel_rfl)
    exact wp_load_mid 32 (.tmp 6) rfl _ _ e1 (R.toList) _ (rangeA (Ar.chg (w := w6.drew) Z6.out.r3 hc)) undNum rfl (HI.out.2.1) ⟨_, rfl, rfl, Chg.refl _⟩
   ·injection ho with ho
    subst ho
    refine .inl ⟨wanted_none rfl, ?_⟩
    have e1 : ac.eval (.tmp 6) = .pointer (some ⟨w.heap.size + 1 + 1, 0, none⟩) := hf 6 (by kernel_rfl)
    exact wp_load_mid 32 (.tmp 6) rfl _ _ e1 (R.toList) _ (rangeA (Ar.chg (w := w6.drew) Z6.out.r3 hc)) undNum rfl (HI.out.2.1) ⟨_, rfl, rfl, Chg.refl _⟩
   ·injection ho with ho
    subst ho
    refine .inl ⟨wanted_none rfl, ?_⟩
    have e1 : ac.eval (.tmp 17) = .int .i64 1 := hg 0 (by kernel_rfl) (by decide)
    have e2 : ac.eval (.tmp 18) = .agg R := hg 1 (by kernel_rfl) (by decide)
    have e3 : ac.eval (.tmp 19) = .agg R := hg 2 (by kernel_rfl) (by decide)
    refine opG_go 26 Tryd.f26 #[.tmp 17, .tmp 18, .tmp 19] #[37, 32, 32] rfl Tryd.func26 (by kernel_rfl) (by kernel_rfl) (by simp [e1, e2, e3]) (Calls.mono (HK.out.2.1 _) ?_)
    rintro e u2 ⟨rfl, hc2⟩
    exact ⟨_, rfl, rfl, hc2⟩
   ·injection ho with ho
    subst ho
    refine .inl ⟨wanted_none rfl, ?_⟩
    have e1 : ac.eval (.tmp 0) = .int .i64 1 := hf 0 (by kernel_rfl)
    exact opG_val (by simp [execOp, e1]) rfl (Chg.refl _)
   ·injection ho with ho
    subst ho
    refine .inl ⟨wanted_none rfl, ?_⟩
    have e1 : ac.eval (.tmp 3) = .pointer (some ⟨w.heap.size, 0, none⟩) := hf 3 (by kernel_rfl)
    exact wp_load_mid 32 (.tmp 3) rfl _ _ e1 (A.toList) _ (rangeA (Ar.chg (w := w6.drew) Z6.out.r1 hc)) undNum rfl (HI.out.1) ⟨_, rfl, rfl, Chg.refl _⟩
   ·injection ho with ho
    subst ho
    refine .inl ⟨wanted_none rfl, ?_⟩
    have e1 : ac.eval (.tmp 21) = .int .i64 1 := hg 4 (by kernel_rfl) (by decide)
    have e2 : ac.eval (.tmp 22) = .agg A := hg 5 (by kernel_rfl) (by decide)
    refine opG_go 46 Tryd.f46 #[.tmp 21, .tmp 22] #[37, 32] rfl Tryd.func46 (by kernel_rfl) (by kernel_rfl) (by simp [e1, e2]) (Calls.mono (HK.out.2.2.1 _) ?_)
    rintro e u2 ⟨rfl, hc2⟩
    exact ⟨_, rfl, rfl, hc2⟩
  ·intro o u V ho hV hc
   injection ho with ho
   subst ho
   refine ⟨rfl, ?_⟩
   have q17 : V 0 = .int .i64 1 := hV 0 (by decide)
   have q18 : V 1 = .agg R := hV 1 (by decide)
   have q19 : V 2 = .agg R := hV 2 (by decide)
   have q20 : V 3 = .agg (num rr) := hV 3 (by decide)
   have q21 : V 4 = .int .i64 1 := hV 4 (by decide)
   have q22 : V 5 = .agg A := hV 5 (by decide)
   have q23 : V 6 = .agg (num aa) := hV 6 (by decide)
   refine op_neqNum (.tmp 20) (.tmp 23) rr aa bb rfl HNs.out.1 HNs.out.2 (Eq.trans (by rfl) q20) (Eq.trans (by rfl) q23) HB.out ?_
   go_wp2_with fail
   go_meet
   exact ⟨rfl, (Chg.refl w6).drew.trans hc⟩
 obtain ⟨rfl, c6⟩ := hcut
 obtain ⟨w7, hw7⟩ : ∃ w7, w7 = wc := ⟨_, rfl⟩
 have Z7 : Hid (R2 w w7 A R) := by rw [hw7]; exact Z6.out.to c6
 rw [← hw7]
 clear hw7 c6 Z6
 cases bb with
 | false =>
  obtain ⟨sZ, lZ, oZ⟩ := HZ.out
  obtain ⟨t, g⟩ := Z7.out.r2
  go_wp2_with (first
   | refine wpList_store_row rfl 32 _ _ rfl _ _ rfl rfl _ _ g (szN 0) rfl (num_one 0) ?_)
  have e : rootN 1 a m = 0 := by rw [HM.out, if_neg (of_decide_eq_false HB.out)]
  refine bp_ct (n := 4) (c := num 0) (x := .bool false) Tryd.results50 rfl rfl rfl (Z7.out.r2.row _) undNum i25 (num_size 0) ⟨by rw [HB.out, e], Z7.out.chg.setRow (by omega) _⟩
 | true =>
  have r6 := rangeA Z7.out.r3
  obtain ⟨-, iR, -⟩ := HI.out
  go_wp2_with (first
   | refine wpList_load_mid rfl 32 (.tmp 6) rfl _ _ rfl (R.toList) _ r6 undNum rfl iR ?_)
  go_at_call 70
  refine (HK.out.2.2.2.1 _).mono ?_
  rintro r' w8 ⟨rfl, hc8⟩
  have Z8 : Hid (R2 w w8 A R) := Z7.out.to hc8
  clear hc8 Z7 r6
  cases cb with
  | false =>
   have r6 := rangeA Z8.out.r3
   obtain ⟨sR, lR, oR⟩ := HSz.out.1
   obtain ⟨t, g⟩ := Z8.out.r2
   go_wp2_with (first
    | refine wpList_load_mid rfl 32 (.tmp 6) rfl _ _ rfl (R.toList) _ r6 undNum rfl iR ?_
    | refine wpList_store_row rfl 32 _ _ rfl _ _ rfl rfl _ _ g sR lR oR ?_)
   have e1 : ¬ dg 2 m 0 = 1 := by have := HE.out.2.2; simpa using this.symm
   have e : R = num (rootN 1 a m) := by rw [HM.out, if_pos (of_decide_eq_true HB.out), if_neg e1]; exact HE.out.1
   refine bp_ct (n := 4) (c := R) (x := .bool true) Tryd.results50 rfl rfl rfl (Z8.out.r2.row _) undNum i25 (by rw [e]; exact num_size _) ⟨by rw [HB.out, ← e], Z8.out.chg.setRow (by omega) _⟩
  | true =>
   have r6 := rangeA Z8.out.r3
   go_wp2_with (first
    | refine wpList_load_mid rfl 32 (.tmp 6) rfl _ _ rfl (R.toList) _ r6 undNum rfl iR ?_)
   go_at_call 30
   refine (HK.out.2.2.2.2 _).mono ?_
   rintro r' w9 ⟨rfl, hc9⟩
   have Z9 : Hid (R2 w w9 A R) := Z8.out.to hc9
   clear hc9 Z8 r6 iR
   obtain ⟨sX, ⟨lX, lX2⟩, oX⟩ := HSz.out.2
   obtain ⟨t6, g6⟩ := Z9.out.r3
   go_upto_region 12 with (first | refine wpList_store_row rfl 32 _ _ rfl _ _ rfl rfl _ _ g6 sX lX2 oX ?_)
   obtain ⟨w10, hw10⟩ : ∃ w4, w4 = w9.setRow (w.heap.size + 1 + 1) X := ⟨_, rfl⟩
   have Z10 : Hid (R2 w w10 A X) := by
    obtain ⟨q0, q1, q2, q3⟩ := Z9.out
    rw [hw10]
    exact ⟨q0.setRow (by omega) _, q1.rowOther (by omega) _, q2.rowOther (by omega) _, q3.row _⟩
   rw [← hw10]
   clear hw10 Z9 g6
   have r6 := rangeA Z10.out.r3
   obtain ⟨-, -, iX⟩ := HI.out
   obtain ⟨t, g⟩ := Z10.out.r2
   go_wp2_with (first
    | refine wpList_load_mid rfl 32 (.tmp 6) rfl _ _ rfl (X.toList) _ r6 undNum rfl iX ?_
    | refine wpList_store_row rfl 32 _ _ rfl _ _ rfl rfl _ _ g sX lX oX ?_)
   have e1 : dg 2 m 0 = 1 := by have := HE.out.2.2; simpa using this.symm
   have e : X = num (rootN 1 a m) := by rw [HM.out, if_pos (of_decide_eq_true HB.out), if_pos e1]; exact HE.out.2.1
   refine bp_ct (n := 4) (c := X) (x := .bool true) Tryd.results50 rfl rfl rfl (Z10.out.r2.row _) undNum i25 (by rw [e]; exact num_size _) ⟨by rw [HB.out, ← e], Z10.out.chg.setRow (by omega) _⟩
set_option maxHeartbeats 8000000 in
theorem root2_any (a : Int) (ha : N256 a) (w : World) : Calls Tryd.prog 50 #[.int .i64 2, .agg (num a)] w fun r w' => r = .returned (.tuple #[.agg (num (rootN 2 a (a ^ e256.toNat % mo 2))), .bool (decide ((a ^ e256.toNat % mo 2) * (a ^ e256.toNat % mo 2) % mo 2 = a % mo 2))]) ∧ Chg w w' := by
 have hz := zero25.1
 have hsA := num_size a
 have k0 := fun W => maybe2_any a ha W
 have hmN : N256 (a ^ e256.toNat % mo 2) := N_mod (.inr (.inl rfl)) _
 obtain ⟨m, hm⟩ : ∃ m, m = a ^ e256.toNat % mo 2 := ⟨_, rfl⟩
 rw [← hm] at k0 hmN ⊢
 clear hm
 obtain ⟨rr, hrr⟩ : ∃ rr, rr = m * m % mo 2 := ⟨_, rfl⟩
 obtain ⟨aa, haa⟩ : ∃ aa, aa = a % mo 2 := ⟨_, rfl⟩
 have HM : Hid (rootN 2 a m = if rr = aa then (if dg 2 m 0 = 1 then (0 - m) % mo 2 else m) else 0) := by
  show rootN 2 a m = _
  rw [hrr, haa]
  rfl
 have HNs : Hid (N256 rr ∧ N256 aa) := ⟨by rw [hrr]; exact N_mod (.inr (.inl rfl)) _, by rw [haa]; exact N_mod (.inr (.inl rfl)) _⟩
 have k2 := fun W => mul_any 2 m m (.inr (.inl rfl)) hmN hmN W
 have k3 := fun W => rest_any 2 a (.inr (.inl rfl)) ha W
 have k4 := fun W => bit_any m 0 (by decide) W
 have k5 := fun W => neg_any 2 m (.inr (.inl rfl)) hmN W
 rw [← hrr] at k2 ⊢
 rw [← haa] at k3 ⊢
 obtain ⟨A, hA⟩ : ∃ A, A = num a := ⟨_, rfl⟩
 obtain ⟨R, hR⟩ : ∃ R, R = num m := ⟨_, rfl⟩
 obtain ⟨X, hX⟩ : ∃ X, X = num ((0 - m) % mo 2) := ⟨_, rfl⟩
 obtain ⟨cb, hcb⟩ : ∃ cb, cb = (dg 2 m 0 == 1) := ⟨_, rfl⟩
 have HE : Hid (R = num m ∧ X = num ((0 - m) % mo 2) ∧ cb = (dg 2 m 0 == 1)) := ⟨hR, hX, hcb⟩
 have HSz : Hid (((Tryd.prog.info? 32).map (·.size) = some R.size ∧ (num 0).size = R.size ∧ R.all (·.oneCell') = true) ∧ (Tryd.prog.info? 32).map (·.size) = some X.size ∧ ((num 0).size = X.size ∧ R.size = X.size) ∧ X.all (·.oneCell') = true) := by
  rw [hR, hX]
  exact ⟨⟨szN _, lenN _ _, num_one _⟩, szN _, ⟨lenN _ _, lenN _ _⟩, num_one _⟩
 have HI : Hid ((Tryd.prog.info? 32).map (·.size) = some A.toList.length ∧ (Tryd.prog.info? 32).map (·.size) = some R.toList.length ∧ (Tryd.prog.info? 32).map (·.size) = some X.toList.length) := by
  rw [hA, hR, hX]
  exact ⟨infoN _, infoN _, infoN _⟩
 have HZ : Hid ((Tryd.prog.info? 32).map (·.size) = some (num 0).size ∧ (num 0).size = (num 0).size ∧ (num 0).all (·.oneCell') = true) := ⟨szN _, rfl, num_one _⟩
 rw [← hA] at hsA k0 k3 ⊢
 rw [← hR] at k0 k2 k4 k5
 rw [← hX] at k5
 rw [← hcb] at k4
 have HK : Hid ((∀ W, Calls Tryd.prog 69 #[.agg A] W fun r w' => r = .returned (.agg R) ∧ Chg W w') ∧ (∀ W, Calls Tryd.prog 26 #[.int .i64 2, .agg R, .agg R] W fun r w' => r = .returned (.agg (num rr)) ∧ Chg W w') ∧ (∀ W, Calls Tryd.prog 46 #[.int .i64 2, .agg A] W fun r w' => r = .returned (.agg (num aa)) ∧ Chg W w') ∧ (∀ W, Calls Tryd.prog 70 #[.agg R, .int .i64 0] W fun r w' => r = .returned (.bool cb) ∧ Chg W w') ∧ (∀ W, Calls Tryd.prog 30 #[.int .i64 2, .agg R] W fun r w' => r = .returned (.agg X) ∧ Chg W w')) := ⟨k0, k2, k3, k4, k5⟩
 clear hA hR hX hcb k0 k2 k3 k4 k5 ha hmN hrr haa
 go_enter Tryd.func50, Tryd.ntmps50
 go_upto_region 2 with fail
 obtain ⟨w1, hw1⟩ : ∃ w1, w1 = ((w.alloc (.cells A 32)).alloc (.cells (num 0) 32)).alloc (.cells (num 0) 32) := ⟨_, rfl⟩
 have Z : Hid (Chg w w1 ∧ Ar w1 w.heap.size A ∧ Ar w1 (w.heap.size + 1) (num 0) ∧ Ar w1 (w.heap.size + 1 + 1) (num 0)) := by
  rw [hw1]
  exact ⟨(((Chg.refl w).alloc _).alloc _).alloc _, ((Ar.new w _ _).alloc _).alloc _, (Ar.new1 w _ _ _).alloc _, Ar.new2 w _ _ _ _⟩
 rw [← hw1]
 clear hw1 hsA
 obtain ⟨iA, -, -⟩ := HI.out
 have r3 := rangeA Z.out.2.1
 go_wp2_with (first
  | refine wpList_load_mid rfl 32 (.tmp 3) rfl _ _ rfl (A.toList) _ r3 u25 rfl iA ?_)
 go_at_call 69
 refine (HK.out.1 _).mono ?_
 rintro r' w5 ⟨rfl, hc5⟩
 obtain ⟨sR, lR, oR⟩ := HSz.out.1
 have Z5 : Hid (Chg w w5 ∧ Ar w5 w.heap.size A ∧ Ar w5 (w.heap.size + 1) (num 0) ∧ Ar w5 (w.heap.size + 1 + 1) (num 0)) := ⟨Z.out.1.trans hc5, Z.out.2.1.chg hc5, Z.out.2.2.1.chg hc5, Z.out.2.2.2.chg hc5⟩
 obtain ⟨t6, g6⟩ := Z5.out.2.2.2
 clear hc5 Z r3 iA
 go_upto_region 8 with (first | refine wpList_store_row rfl 32 _ _ rfl _ _ rfl rfl _ _ g6 sR lR oR ?_)
 obtain ⟨w6, hw6⟩ : ∃ w4, w4 = w5.setRow (w.heap.size + 1 + 1) R := ⟨_, rfl⟩
 have Z6 : Hid (R2 w w6 A R) := by
  obtain ⟨q0, q1, q2, q3⟩ := Z5.out
  rw [hw6]
  exact ⟨q0.setRow (by omega) _, q1.rowOther (by omega) _, q2.rowOther (by omega) _, q3.row _⟩
 rw [← hw6]
 clear hw6 Z5 g6 sR lR oR
 obtain ⟨bb, hbb⟩ : ∃ bb, decide (rr = aa) = bb := ⟨_, rfl⟩
 have HB : Hid (decide (rr = aa) = bb) := hbb
 clear hbb
 try dsimp only [Act.put]
 go_cut [24] from 17 to 24 (fun v wc => v = .bool (!bb) ∧ Chg w6 wc)
 case first =>
  refine wp_region_good 7 (fun j v wg => match j with
   | 0 => v = .int .i64 2
   | 1 => v = .agg R
   | 2 => v = .agg R
   | 3 => v = .agg (num rr)
   | 4 => v = .int .i64 2
   | 5 => v = .agg A
   | 6 => v = .agg (num aa)
   | _ => True) (by kernel_rfl) (by kernel_rfl) (by kernel_rfl) (by kernel_rfl) (by kernel_rfl) ?_ ?_ ?_
  ·intro j v u1 u2 h hc
   match j, h with
   | 0, h => exact h
   | 1, h => exact h
   | 2, h => exact h
   | 3, h => exact h
   | 4, h => exact h
   | 5, h => exact h
   | 6, h => exact h
   | _ + 7, h => exact trivial
  ·intro i o ac u hi ho hsz hf hg hc
   have hcs : i = 0 ∨ i = 1 ∨ i = 2 ∨ i = 3 ∨ i = 4 ∨ i = 5 ∨ i = 6 := by omega
   rcases hcs with rfl | rfl | rfl | rfl | rfl | rfl | rfl
   ·injection ho with ho
    subst ho
    refine .inl ⟨wanted_none rfl, ?_⟩
    have e1 : ac.eval (.tmp 0) = .int .i64 2 := hf 0 (by kernel_rfl)
    exact opG_val (by simp [execOp, e1]) rfl (Chg.refl _)
   ·injection ho with ho
    subst ho
    refine .inl ⟨wanted_none rfl, ?_⟩
    have e1 : ac.eval (.tmp 6) = .pointer (some ⟨w.heap.size + 1 + 1, 0, none⟩) := hf 6 (by kernel_rfl)
    exact wp_load_mid 32 (.tmp 6) rfl _ _ e1 (R.toList) _ (rangeA (Ar.chg (w := w6.drew) Z6.out.r3 hc)) undNum rfl (HI.out.2.1) ⟨_, rfl, rfl, Chg.refl _⟩
   ·injection ho with ho
    subst ho
    refine .inl ⟨wanted_none rfl, ?_⟩
    have e1 : ac.eval (.tmp 6) = .pointer (some ⟨w.heap.size + 1 + 1, 0, none⟩) := hf 6 (by kernel_rfl)
    exact wp_load_mid 32 (.tmp 6) rfl _ _ e1 (R.toList) _ (rangeA (Ar.chg (w := w6.drew) Z6.out.r3 hc)) undNum rfl (HI.out.2.1) ⟨_, rfl, rfl, Chg.refl _⟩
   ·injection ho with ho
    subst ho
    refine .inl ⟨wanted_none rfl, ?_⟩
    have e1 : ac.eval (.tmp 17) = .int .i64 2 := hg 0 (by kernel_rfl) (by decide)
    have e2 : ac.eval (.tmp 18) = .agg R := hg 1 (by kernel_rfl) (by decide)
    have e3 : ac.eval (.tmp 19) = .agg R := hg 2 (by kernel_rfl) (by decide)
    refine opG_go 26 Tryd.f26 #[.tmp 17, .tmp 18, .tmp 19] #[37, 32, 32] rfl Tryd.func26 (by kernel_rfl) (by kernel_rfl) (by simp [e1, e2, e3]) (Calls.mono (HK.out.2.1 _) ?_)
    rintro e u2 ⟨rfl, hc2⟩
    exact ⟨_, rfl, rfl, hc2⟩
   ·injection ho with ho
    subst ho
    refine .inl ⟨wanted_none rfl, ?_⟩
    have e1 : ac.eval (.tmp 0) = .int .i64 2 := hf 0 (by kernel_rfl)
    exact opG_val (by simp [execOp, e1]) rfl (Chg.refl _)
   ·injection ho with ho
    subst ho
    refine .inl ⟨wanted_none rfl, ?_⟩
    have e1 : ac.eval (.tmp 3) = .pointer (some ⟨w.heap.size, 0, none⟩) := hf 3 (by kernel_rfl)
    exact wp_load_mid 32 (.tmp 3) rfl _ _ e1 (A.toList) _ (rangeA (Ar.chg (w := w6.drew) Z6.out.r1 hc)) undNum rfl (HI.out.1) ⟨_, rfl, rfl, Chg.refl _⟩
   ·injection ho with ho
    subst ho
    refine .inl ⟨wanted_none rfl, ?_⟩
    have e1 : ac.eval (.tmp 21) = .int .i64 2 := hg 4 (by kernel_rfl) (by decide)
    have e2 : ac.eval (.tmp 22) = .agg A := hg 5 (by kernel_rfl) (by decide)
    refine opG_go 46 Tryd.f46 #[.tmp 21, .tmp 22] #[37, 32] rfl Tryd.func46 (by kernel_rfl) (by kernel_rfl) (by simp [e1, e2]) (Calls.mono (HK.out.2.2.1 _) ?_)
    rintro e u2 ⟨rfl, hc2⟩
    exact ⟨_, rfl, rfl, hc2⟩
  ·intro o u V ho hV hc
   injection ho with ho
   subst ho
   refine ⟨rfl, ?_⟩
   have q17 : V 0 = .int .i64 2 := hV 0 (by decide)
   have q18 : V 1 = .agg R := hV 1 (by decide)
   have q19 : V 2 = .agg R := hV 2 (by decide)
   have q20 : V 3 = .agg (num rr) := hV 3 (by decide)
   have q21 : V 4 = .int .i64 2 := hV 4 (by decide)
   have q22 : V 5 = .agg A := hV 5 (by decide)
   have q23 : V 6 = .agg (num aa) := hV 6 (by decide)
   refine op_neqNum (.tmp 20) (.tmp 23) rr aa bb rfl HNs.out.1 HNs.out.2 (Eq.trans (by rfl) q20) (Eq.trans (by rfl) q23) HB.out ?_
   go_wp2_with fail
   go_meet
   exact ⟨rfl, (Chg.refl w6).drew.trans hc⟩
 obtain ⟨rfl, c6⟩ := hcut
 obtain ⟨w7, hw7⟩ : ∃ w7, w7 = wc := ⟨_, rfl⟩
 have Z7 : Hid (R2 w w7 A R) := by rw [hw7]; exact Z6.out.to c6
 rw [← hw7]
 clear hw7 c6 Z6
 cases bb with
 | false =>
  obtain ⟨sZ, lZ, oZ⟩ := HZ.out
  obtain ⟨t, g⟩ := Z7.out.r2
  go_wp2_with (first
   | refine wpList_store_row rfl 32 _ _ rfl _ _ rfl rfl _ _ g (szN 0) rfl (num_one 0) ?_)
  have e : rootN 2 a m = 0 := by rw [HM.out, if_neg (of_decide_eq_false HB.out)]
  refine bp_ct (n := 4) (c := num 0) (x := .bool false) Tryd.results50 rfl rfl rfl (Z7.out.r2.row _) undNum i25 (num_size 0) ⟨by rw [HB.out, e], Z7.out.chg.setRow (by omega) _⟩
 | true =>
  have r6 := rangeA Z7.out.r3
  obtain ⟨-, iR, -⟩ := HI.out
  go_wp2_with (first
   | refine wpList_load_mid rfl 32 (.tmp 6) rfl _ _ rfl (R.toList) _ r6 undNum rfl iR ?_)
  go_at_call 70
  refine (HK.out.2.2.2.1 _).mono ?_
  rintro r' w8 ⟨rfl, hc8⟩
  have Z8 : Hid (R2 w w8 A R) := Z7.out.to hc8
  clear hc8 Z7 r6
  cases cb with
  | false =>
   have r6 := rangeA Z8.out.r3
   obtain ⟨sR, lR, oR⟩ := HSz.out.1
   obtain ⟨t, g⟩ := Z8.out.r2
   go_wp2_with (first
    | refine wpList_load_mid rfl 32 (.tmp 6) rfl _ _ rfl (R.toList) _ r6 undNum rfl iR ?_
    | refine wpList_store_row rfl 32 _ _ rfl _ _ rfl rfl _ _ g sR lR oR ?_)
   have e1 : ¬ dg 2 m 0 = 1 := by have := HE.out.2.2; simpa using this.symm
   have e : R = num (rootN 2 a m) := by rw [HM.out, if_pos (of_decide_eq_true HB.out), if_neg e1]; exact HE.out.1
   refine bp_ct (n := 4) (c := R) (x := .bool true) Tryd.results50 rfl rfl rfl (Z8.out.r2.row _) undNum i25 (by rw [e]; exact num_size _) ⟨by rw [HB.out, ← e], Z8.out.chg.setRow (by omega) _⟩
  | true =>
   have r6 := rangeA Z8.out.r3
   go_wp2_with (first
    | refine wpList_load_mid rfl 32 (.tmp 6) rfl _ _ rfl (R.toList) _ r6 undNum rfl iR ?_)
   go_at_call 30
   refine (HK.out.2.2.2.2 _).mono ?_
   rintro r' w9 ⟨rfl, hc9⟩
   have Z9 : Hid (R2 w w9 A R) := Z8.out.to hc9
   clear hc9 Z8 r6 iR
   obtain ⟨sX, ⟨lX, lX2⟩, oX⟩ := HSz.out.2
   obtain ⟨t6, g6⟩ := Z9.out.r3
   go_upto_region 12 with (first | refine wpList_store_row rfl 32 _ _ rfl _ _ rfl rfl _ _ g6 sX lX2 oX ?_)
   obtain ⟨w10, hw10⟩ : ∃ w4, w4 = w9.setRow (w.heap.size + 1 + 1) X := ⟨_, rfl⟩
   have Z10 : Hid (R2 w w10 A X) := by
    obtain ⟨q0, q1, q2, q3⟩ := Z9.out
    rw [hw10]
    exact ⟨q0.setRow (by omega) _, q1.rowOther (by omega) _, q2.rowOther (by omega) _, q3.row _⟩
   rw [← hw10]
   clear hw10 Z9 g6
   have r6 := rangeA Z10.out.r3
   obtain ⟨-, -, iX⟩ := HI.out
   obtain ⟨t, g⟩ := Z10.out.r2
   go_wp2_with (first
    | refine wpList_load_mid rfl 32 (.tmp 6) rfl _ _ rfl (X.toList) _ r6 undNum rfl iX ?_
    | refine wpList_store_row rfl 32 _ _ rfl _ _ rfl rfl _ _ g sX lX oX ?_)
   have e1 : dg 2 m 0 = 1 := by have := HE.out.2.2; simpa using this.symm
   have e : X = num (rootN 2 a m) := by rw [HM.out, if_pos (of_decide_eq_true HB.out), if_pos e1]; exact HE.out.2.1
   refine bp_ct (n := 4) (c := X) (x := .bool true) Tryd.results50 rfl rfl rfl (Z10.out.r2.row _) undNum i25 (by rw [e]; exact num_size _) ⟨by rw [HB.out, ← e], Z10.out.chg.setRow (by omega) _⟩
end Go.Proofs.YtjfidbifjagnpaaDoor
namespace Go.Proofs.YtjfidbifjagnpaaDoor
open Go.RowKit
set_option linter.unusedVariables false
set_option maxRecDepth 100000
def rtN (f a : Int) : Int := if f = 1 then rootN 1 a (mr1 a) else if f = 2 then rootN 2 a (a ^ e256.toNat % mo 2) else 0
def rtB (f a : Int) : Bool := if f = 1 then decide (mr1 a * mr1 a % mo 1 = a % mo 1) else if f = 2 then decide ((a ^ e256.toNat % mo 2) * (a ^ e256.toNat % mo 2) % mo 2 = a % mo 2) else false
theorem rootN_N {f a m : Int} (hf : f = 1 ∨ f = 2 ∨ f = 3 ∨ f = 4) (hm : N256 m) : N256 (rootN f a m) := by
 unfold rootN
 split
 ·split
  ·exact N_mod hf _
  ·exact hm
 ·exact ⟨by decide, by decide⟩
theorem rtN_N (f a : Int) : N256 (rtN f a) := by
 unfold rtN
 split
 ·exact rootN_N (.inl rfl) (mr1_N a)
 ·split
  ·exact rootN_N (.inr (.inl rfl)) (N_mod (.inr (.inl rfl)) _)
  ·exact ⟨by decide, by decide⟩
theorem sq2_nat {p n : Nat} (hp : Pr p) (hn : 4 * n = p + 1) (a : Nat) : ((a * a % p) ^ n % p) * ((a * a % p) ^ n % p) % p = a * a % p := by
 rw [← Nat.mul_mod, Nat.mul_mod, ← Nat.pow_mod, ← Nat.mul_mod]
 exact hp.root3 hn
theorem sq1_nat {p n i : Nat} (hp : Pr p) (hn : 8 * n = p + 3) (hi : (i * i + 1) % p = 0) (a : Nat) (h : ¬ ((a * a % p) ^ n % p) * ((a * a % p) ^ n % p) % p = a * a % p) : ((a * a % p) ^ n % p * i % p) * ((a * a % p) ^ n % p * i % p) % p = a * a % p := by
 have e : (a * a % p) ^ n % p = (a * a) ^ n % p := (Nat.pow_mod _ _ _).symm
 rw [e] at h ⊢
 rw [← Nat.mul_mod] at h
 rcases hp.root5 (a := a) hn hi with k | k
 ·exact absurd k h
 ·have e2 : (a * a) ^ n % p * i % p = (a * a) ^ n * i % p := by rw [Nat.mul_mod, Nat.mod_mod, ← Nat.mul_mod]
  rw [e2, ← Nat.mul_mod]
  exact k
theorem sq2 {a : Int} (ha : 0 ≤ a) : ((a * a % mo 2) ^ e256.toNat % mo 2) * ((a * a % mo 2) ^ e256.toNat % mo 2) % mo 2 = a * a % mo 2 := by
 obtain ⟨p, e, hp, _⟩ := mo_nat (f := 2) (.inr (.inl rfl))
 obtain ⟨k, rfl⟩ := Int.eq_ofNat_of_zero_le ha
 have h4 : 4 * e256 = mo 2 + 1 := by decide +kernel
 have h0 : 0 ≤ e256 := by decide +kernel
 rw [e] at h4 ⊢
 have h := sq2_nat hp (n := e256.toNat) (by omega) k
 generalize e256.toNat = n at *
 exact_mod_cast h
theorem sq1 {a : Int} (ha : 0 ≤ a) : mr1 (a * a % mo 1) * mr1 (a * a % mo 1) % mo 1 = a * a % mo 1 := by
 obtain ⟨p, e, hp, _⟩ := mo_nat (f := 1) (.inl rfl)
 obtain ⟨k, rfl⟩ := Int.eq_ofNat_of_zero_le ha
 have h8 : 8 * e255 = mo 1 + 3 := by decide +kernel
 have h0 : 0 ≤ e255 := by decide +kernel
 have e2 : mo 1 = ((m25519 : Nat) : Int) := by decide +kernel
 have e3 : i255 = ((i25519 : Nat) : Int) := by decide +kernel
 have hpe : p = m25519 := by rw [e] at e2; exact_mod_cast e2
 have hi : (i25519 * i25519 + 1) % p = 0 := by rw [hpe]; exact i25519_sq
 unfold mr1
 rw [e] at h8 ⊢
 rw [e3]
 have h := fun x => sq1_nat hp (n := e255.toNat) (i := i25519) (by omega) hi k x
 clear e2 e3 hpe hi hp
 generalize e255.toNat = n at *
 generalize i25519 = i at *
 clear h8 e
 rw [Int.emod_emod_of_dvd _ (Int.dvd_refl (p : Int))]
 split
 ·rename_i h1
  exact h1
 ·rename_i h1
  have h2 := h (fun q => h1 (by exact_mod_cast q))
  exact_mod_cast h2
theorem root_good {f m s : Int} (hf : f = 1 ∨ f = 2) (hm : 0 ≤ m ∧ m < mo f) (hs : m * m % mo f = s % mo f) : rootN f s m * rootN f s m % mo f = s % mo f ∧ dg 2 (rootN f s m) 0 = 0 := by
 obtain ⟨p, e, hp, ho⟩ := mo_nat (f := f) (by omega)
 have d0 : ∀ x : Int, dg 2 x 0 = x % 2 := fun x => by unfold dg; rw [Int.pow_zero, Int.ediv_one]
 unfold rootN
 rw [if_pos hs]
 by_cases h1 : dg 2 m 0 = 1
 ·rw [if_pos h1]
  refine ⟨?_, ?_⟩
  ·rw [ml, mr, Int.zero_sub, Int.neg_mul_neg]
   exact hs
  ·rw [d0] at h1 ⊢
   have e1 : (0 - m) % mo f = mo f - m := by
    have : (0 - m) % mo f = (mo f - m) % mo f := by rw [show mo f - m = 0 - m + mo f by omega, Int.add_emod_right]
    rw [this, Int.emod_eq_of_lt (by omega) (by omega)]
   rw [e1, e]
   rw [e] at hm
   omega
 ·rw [if_neg h1]
  refine ⟨hs, ?_⟩
  rw [d0] at h1 ⊢
  omega
theorem rt_good {f a : Int} (hf : f = 1 ∨ f = 2) (ha : 0 ≤ a) : rtB f (a * a % mo f) = true ∧ rtN f (a * a % mo f) * rtN f (a * a % mo f) % mo f = a * a % mo f ∧ dg 2 (rtN f (a * a % mo f)) 0 = 0 := by
 have hp := (mo_pos4 (f := f) (by omega)).1
 have es : a * a % mo f % mo f = a * a % mo f := Int.emod_emod_of_dvd _ (Int.dvd_refl _)
 rcases hf with rfl | rfl
 ·have h := sq1 ha
  unfold rtB rtN
  rw [if_pos rfl, if_pos rfl, es]
  refine ⟨decide_eq_true h, ?_⟩
  have g := root_good (f := 1) (m := mr1 (a * a % mo 1)) (s := a * a % mo 1) (.inl rfl) ?_ (by rw [es]; exact h)
  ·rw [es] at g
   exact g
  ·unfold mr1
   split
   ·exact ⟨Int.emod_nonneg _ (by omega), Int.emod_lt_of_pos _ hp⟩
   ·exact ⟨Int.emod_nonneg _ (by omega), Int.emod_lt_of_pos _ hp⟩
 ·have h := sq2 ha
  unfold rtB rtN
  rw [if_neg (by decide : ¬ (2 : Int) = 1), if_pos rfl, if_neg (by decide : ¬ (2 : Int) = 1), if_pos rfl, es]
  refine ⟨decide_eq_true h, ?_⟩
  have g := root_good (f := 2) (m := (a * a % mo 2) ^ e256.toNat % mo 2) (s := a * a % mo 2) (.inr rfl) ⟨Int.emod_nonneg _ (by omega), Int.emod_lt_of_pos _ hp⟩ (by rw [es]; exact h)
  rw [es] at g
  exact g
end Go.Proofs.YtjfidbifjagnpaaDoor
namespace Go.Proofs.YtjfidbifjagnpaaDoor
open Go.RowKit
set_option linter.unusedVariables false
set_option maxRecDepth 100000
set_option maxHeartbeats 16000000 in
theorem root0_any (f a : Int) (h1 : ¬ f = 1) (h2 : ¬ f = 2) (w : World) : Calls Tryd.prog 50 #[.int .i64 f, .agg (num a)] w fun r w' => r = .returned (.tuple #[.agg (num 0), .bool false]) ∧ Chg w w' := by
 have e1 : (f == 1) = false := by simp [h1]
 have e2 : (f == 2) = false := by simp [h2]
 have hz := zero25.1
 have hsA := num_size a
 obtain ⟨A, hA⟩ : ∃ A, A = num a := ⟨_, rfl⟩
 rw [← hA] at hsA ⊢
 clear hA h1 h2
 go_enter Tryd.func50, Tryd.ntmps50
 go_upto_region 2 with fail
 obtain ⟨w1, hw1⟩ : ∃ w1, w1 = ((w.alloc (.cells A 32)).alloc (.cells (num 0) 32)).alloc (.cells (num 0) 32) := ⟨_, rfl⟩
 have Z : Hid (Chg w w1 ∧ Ar w1 (w.heap.size + 1) (num 0)) := by
  rw [hw1]
  exact ⟨(((Chg.refl w).alloc _).alloc _).alloc _, (Ar.new1 w _ _ _).alloc _⟩
 rw [← hw1]
 clear hw1 hsA
 obtain ⟨t4, g4⟩ := Z.out.2
 go_wp2_with (first | refine wpList_store_row rfl 32 _ _ rfl _ _ rfl rfl _ _ g4 (szN 0) rfl (num_one 0) ?_)
 exact bp_ct (n := 4) (c := num 0) (x := .bool false) Tryd.results50 rfl rfl rfl (Z.out.2.row _) undNum i25 (num_size 0) ⟨rfl, Z.out.1.setRow (by omega) _⟩
theorem rootP_any (f a : Int) (ha : N256 a) (w : World) : Calls Tryd.prog 50 #[.int .i64 f, .agg (num a)] w fun r w' => r = .returned (.tuple #[.agg (num (rtN f a)), .bool (rtB f a)]) ∧ Chg w w' := by
 unfold rtN rtB
 by_cases h1 : f = 1
 ·subst h1
  rw [if_pos rfl, if_pos rfl]
  exact root1_any a ha w
 ·by_cases h2 : f = 2
  ·subst h2
   rw [if_neg h1, if_pos rfl, if_neg h1, if_pos rfl]
   exact root2_any a ha w
  ·rw [if_neg h1, if_neg h2, if_neg h1, if_neg h2]
   exact root0_any f a h1 h2 w
end Go.Proofs.YtjfidbifjagnpaaDoor
