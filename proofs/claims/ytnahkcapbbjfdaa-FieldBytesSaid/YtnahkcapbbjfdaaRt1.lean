/-
  Numbers compared; what may be a root modulo 2^255 - 19.
-/
import Derived.Test.YtnahkcapbbjfdaaInv
namespace Go.Proofs.Ytnahkcapbbjfdaa
open Go.RowKit
set_option linter.unusedVariables false

theorem size23 (w : World) : (sizeOf 23).run Try.prog w = .ok 1 w := by
  have h : (Try.prog.info? 23).map (·.size) = some 1 := by kernel_rfl
  cases hq : Try.prog.info? 23 with
  | none => simp [hq] at h
  | some i =>
    rw [hq] at h
    have h : i.size = 1 := Option.some.inj h
    simp [sizeOf, typeInfo, hq, h]
theorem und23 : Try.prog.underlying 23 = some (.int .u64) := by kernel_rfl
theorem run_part23 (n : Nat) (f : Nat → Int) {i : Nat} (hi : i < n) (w : World) : (part 23 (arr .u64 n f) i).run Try.prog w = .ok (.int .u64 (f i)) w := by
  simp [part, arr_get .u64 n f hi, Sem.run_bind]
theorem run_eqW {t n : Nat} (hu : Try.prog.underlying t = some (.array n 23)) (hl : List.range' [0:n].start [0:n].size [0:n].step = List.range n) (f g : Nat → Int) (d : Nat) (w : World) : (Op.equalIn (d + 2) t (.agg (arr .u64 n f)) (.agg (arr .u64 n g))).run Try.prog w = .ok ((List.range n).all fun i => f i == g i) w := by
  unfold Op.equalIn
  simp only [Sem.run_bind, run_underlying hu, Result.andThen_ok, size23, Nat.mul_one]
  rw [Std.Legacy.Range.forIn_eq_forIn_range', hl]
  have hm : ∀ i ∈ List.range n, i < n := fun i hi => List.mem_range.1 hi
  generalize List.range n = l at hm
  clear hl
  induction l generalizing w with
  | nil => simp
  | cons i l ih =>
    have hi := hm i (by simp)
    simp only [List.forIn_cons, Sem.run_bind, run_part23 n f hi, run_part23 n g hi, Result.andThen_ok, run_equalIn_int _ d 23 .u64 .u64 _ _ und23]
    cases hc : (f i == g i) with
    | true =>
      simp only [List.all_cons, hc, Bool.true_and, Bool.not_true, Bool.false_eq_true, if_false, Sem.run_pure, Result.andThen_ok]
      exact ih w (fun j hj => hm j (by simp [hj]))
    | false =>
      simp only [List.all_cons, hc, Bool.false_and, Bool.not_false, if_true, Sem.run_pure, Result.andThen_ok]
theorem num_same {x y : Int} (hx : N256 x) (hy : N256 y) : ((List.range 4).all fun i => dg B64 x i == dg B64 y i) = decide (x = y) := by
  rw [Bool.eq_iff_iff, List.all_eq_true, decide_eq_true_eq]
  constructor
  · intro h
    rw [← val4 x hx.1 hx.2, ← val4 y hy.1 hy.2]
    exact val_congr fun i hi => by simpa using h i (List.mem_range.2 hi)
  · rintro rfl i _
    exact beq_self_eq_true _
theorem run_eqNum {x y : Int} (hx : N256 x) (hy : N256 y) (w : World) : (Op.equalIn 10000 25 (.agg (num x)) (.agg (num y))).run Try.prog w = .ok (decide (x = y)) w := by
  have := run_eqW (t := 25) (n := 4) (by kernel_rfl) (by decide) (dg B64 x) (dg B64 y) 9998 w
  rw [num_same hx hy] at this
  exact this
theorem op_eqNum {o : Oper} {a : Act} {w : World} {K : Act → World → Prop} {Q : Exit → Act → World → Prop} (x y : Operand) (s t : Int) (b : Bool) (ho : o.op = .binOp .eql 25 x y 25) (hs : N256 s) (ht : N256 t) (hx : a.eval x = .agg (num s)) (hy : a.eval y = .agg (num t)) (hb : decide (s = t) = b) (hK : K (a.put o.dst (.bool b)) w) : o.wp Try.prog a w K Q := by
  refine op_val1 (v := .bool b) ?_ hK
  revert hx hy
  generalize a.eval = ρ
  intro hx hy
  simp [go_sem, execOp, ho, hx, hy, run_eqNum hs ht, hb]
theorem op_neqNum {o : Oper} {a : Act} {w : World} {K : Act → World → Prop} {Q : Exit → Act → World → Prop} (x y : Operand) (s t : Int) (b : Bool) (ho : o.op = .binOp .neq 25 x y 25) (hs : N256 s) (ht : N256 t) (hx : a.eval x = .agg (num s)) (hy : a.eval y = .agg (num t)) (hb : decide (s = t) = b) (hK : K (a.put o.dst (.bool (!b))) w) : o.wp Try.prog a w K Q := by
  refine op_val1 (v := .bool (!b)) ?_ hK
  revert hx hy
  generalize a.eval = ρ
  intro hx hy
  simp [go_sem, execOp, ho, hx, hy, run_eqNum hs ht, hb]

/-- (p + 3) / 8 of 2^255 - 19; a root of -1. -/
def e255 : Int := (mo 1 + 3) / 8
def i255 : Int := 0x2b8324804fc1df0b2b4d00993dfbd7a72f431806ad2fe478c4ee1b274a0ea0b0
def mr1 (a : Int) : Int := if (a ^ e255.toNat % mo 1) * (a ^ e255.toNat % mo 1) % mo 1 = a % mo 1 then a ^ e255.toNat % mo 1 else (a ^ e255.toNat % mo 1) * i255 % mo 1
theorem num_e255 : ((((num 0).setIfInBounds 0 (.int .u64 18446744073709551614)).setIfInBounds 1 (.int .u64 18446744073709551615)).setIfInBounds 2 (.int .u64 18446744073709551615)).setIfInBounds 3 (.int .u64 1152921504606846975) = num e255 := by kernel_rfl
theorem num_i255 : ((((num 0).setIfInBounds 0 (.int .u64 14190309331451158704)).setIfInBounds 1 (.int .u64 3405592160176694392)).setIfInBounds 2 (.int .u64 3120150775007532967)).setIfInBounds 3 (.int .u64 3135389899092516619) = num i255 := by kernel_rfl
theorem N_e255 : N256 e255 := by constructor <;> decide +kernel
theorem N_i255 : N256 i255 := by constructor <;> decide +kernel
theorem mr1_N (a : Int) : N256 (mr1 a) := by
  unfold mr1
  split
  · exact N_mod (.inl rfl) _
  · exact N_mod (.inl rfl) _

/-- What stands while a root is looked for. -/
structure RT (w wr : World) (b3 b4 b5 : Nat) (A L I R : Array Value) : Prop where
  chg : Chg w wr
  r1 : Ar wr w.heap.size A
  r2 : Ar wr (w.heap.size + 1) (num 0)
  r3 : Ar wr b3 L
  r4 : Ar wr b4 I
  r5 : Ar wr b5 R
theorem RT.to {w wr u : World} {b3 b4 b5 : Nat} {A L I R : Array Value} (h : RT w wr b3 b4 b5 A L I R) (k : Chg wr u) : RT w u b3 b4 b5 A L I R := ⟨h.chg.trans k, h.r1.chg k, h.r2.chg k, h.r3.chg k, h.r4.chg k, h.r5.chg k⟩

set_option maxRecDepth 100000 in
set_option maxHeartbeats 8000000 in
theorem maybe1_any (a : Int) (ha : N256 a) (w : World) : Calls Try.prog 57 #[.agg (num a)] w fun r w' => r = .returned (.agg (num (mr1 a))) ∧ Chg w w' := by
  have hz := zero25.1
  have hsA := num_size a
  obtain ⟨r, hr⟩ : ∃ r, r = a ^ e255.toNat % mo 1 := ⟨_, rfl⟩
  have hrN : N256 r := by rw [hr]; exact N_mod (.inl rfl) _
  obtain ⟨rr, hrr⟩ : ∃ rr, rr = r * r % mo 1 := ⟨_, rfl⟩
  obtain ⟨aa, haa⟩ : ∃ aa, aa = a % mo 1 := ⟨_, rfl⟩
  have HM : Hid (mr1 a = if rr = aa then r else r * i255 % mo 1) := by
    show mr1 a = _
    rw [hrr, haa, hr]
    rfl
  have HNs : Hid (N256 rr ∧ N256 aa) := ⟨by rw [hrr]; exact N_mod (.inl rfl) _, by rw [haa]; exact N_mod (.inl rfl) _⟩
  have k1 := fun W => exp_any 1 a e255 (.inl rfl) ha N_e255 W
  have k2 := fun W => mul_any 1 r r (.inl rfl) hrN hrN W
  have k3 := fun W => rest_any 1 a (.inl rfl) ha W
  have k4 := fun W => mul_any 1 r i255 (.inl rfl) hrN N_i255 W
  rw [← hr] at k1
  rw [← hrr] at k2
  rw [← haa] at k3
  obtain ⟨A, hA⟩ : ∃ A, A = num a := ⟨_, rfl⟩
  obtain ⟨L, hL⟩ : ∃ L, L = num e255 := ⟨_, rfl⟩
  obtain ⟨I, hI⟩ : ∃ I, I = num i255 := ⟨_, rfl⟩
  obtain ⟨R, hR⟩ : ∃ R, R = num r := ⟨_, rfl⟩
  obtain ⟨X, hX⟩ : ∃ X, X = num (r * i255 % mo 1) := ⟨_, rfl⟩
  have HE : Hid (L = num e255 ∧ I = num i255 ∧ R = num r ∧ X = num (r * i255 % mo 1)) := ⟨hL, hI, hR, hX⟩
  have HSz : Hid (((Try.prog.info? 25).map (·.size) = some R.size ∧ (num 0).size = R.size ∧ R.all (·.oneCell') = true) ∧ (Try.prog.info? 25).map (·.size) = some X.size ∧ (num 0).size = X.size ∧ X.all (·.oneCell') = true) := by
    rw [hR, hX]
    exact ⟨⟨szN _, lenN _ _, num_one _⟩, szN _, lenN _ _, num_one _⟩
  have HI : Hid ((Try.prog.info? 25).map (·.size) = some A.toList.length ∧ ((Try.prog.info? 25).map (·.size) = some L.toList.length ∧ (Try.prog.info? 25).map (·.size) = some I.toList.length) ∧ (Try.prog.info? 25).map (·.size) = some R.toList.length) := by
    rw [hA, hL, hI, hR]
    exact ⟨infoN _, ⟨infoN _, infoN _⟩, infoN _⟩
  rw [← hA] at hsA k1 k3 ⊢
  rw [← hL, ← hR] at k1
  rw [← hR] at k2
  rw [← hR, ← hI, ← hX] at k4
  have HK : Hid ((∀ W, Calls Try.prog 22 #[.int .i64 1, .agg A, .agg L] W fun r w' => r = .returned (.agg R) ∧ Chg W w') ∧ (∀ W, Calls Try.prog 14 #[.int .i64 1, .agg R, .agg R] W fun r w' => r = .returned (.agg (num rr)) ∧ Chg W w') ∧ (∀ W, Calls Try.prog 41 #[.int .i64 1, .agg A] W fun r w' => r = .returned (.agg (num aa)) ∧ Chg W w') ∧ (∀ W, Calls Try.prog 14 #[.int .i64 1, .agg R, .agg I] W fun r w' => r = .returned (.agg X) ∧ Chg W w')) := ⟨k1, k2, k3, k4⟩
  clear hA hL hI hR hX k1 k2 k3 k4 ha hr hrN hrr haa
  go_enter Try.func57, Try.ntmps57
  go_upto_region 1 with fail
  obtain ⟨w1, hw1⟩ : ∃ w1, w1 = (w.alloc (.cells A 25)).alloc (.cells (num 0) 25) := ⟨_, rfl⟩
  have Z : Hid (Chg w w1 ∧ Ar w1 w.heap.size A ∧ Ar w1 (w.heap.size + 1) (num 0)) := by
    rw [hw1]
    exact ⟨((Chg.refl w).alloc _).alloc _, (Ar.new w _ _).alloc _, Ar.new1 w _ _ _⟩
  rw [← hw1]
  clear hw1 hsA
  go_upto_region 2 with (first | refine wpList_store_row rfl 25 _ _ rfl _ _ rfl rfl _ _ (heap_alloc_last w1 _) (by rw [num_e255]; exact szN _) (by rw [num_e255]; exact lenN _ _) (by rw [num_e255]; exact num_one _) ?_)
  rw [num_e255, ← HE.out.1]
  obtain ⟨b3, hb3⟩ : ∃ b, b = w1.heap.size := ⟨_, rfl⟩
  obtain ⟨w2, hw2⟩ : ∃ w4, w4 = (w1.alloc (.cells (num 0) 25)).setRow w1.heap.size L := ⟨_, rfl⟩
  have Z2 : Hid ((Chg w w2 ∧ Ar w2 w.heap.size A ∧ Ar w2 (w.heap.size + 1) (num 0)) ∧ Ar w2 b3 L) := by
    have q := Z.out
    have q1 := q.2.2.lt
    rw [hw2, hb3]
    exact ⟨⟨(q.1.alloc _).setRow (by omega) _, (q.2.1.alloc _).rowOther (by omega) _, (q.2.2.alloc _).rowOther (by omega) _⟩, (Ar.new w1 _ _).row _⟩
  rw [← hw2, ← hb3]
  clear hw2 hb3 Z
  go_upto_region 3 with (first | refine wpList_store_row rfl 25 _ _ rfl _ _ rfl rfl _ _ (heap_alloc_last w2 _) (by rw [num_i255]; exact szN _) (by rw [num_i255]; exact lenN _ _) (by rw [num_i255]; exact num_one _) ?_)
  rw [num_i255, ← HE.out.2.1]
  obtain ⟨b4, hb4⟩ : ∃ b, b = w2.heap.size := ⟨_, rfl⟩
  obtain ⟨w3, hw3⟩ : ∃ w4, w4 = (w2.alloc (.cells (num 0) 25)).setRow w2.heap.size I := ⟨_, rfl⟩
  have Z3 : Hid ((Chg w w3 ∧ Ar w3 w.heap.size A ∧ Ar w3 (w.heap.size + 1) (num 0)) ∧ Ar w3 b3 L ∧ Ar w3 b4 I) := by
    obtain ⟨q, q5⟩ := Z2.out
    have q1 := q.2.2.lt
    have q6 := q5.lt
    rw [hw3, hb4]
    exact ⟨⟨(q.1.alloc _).setRow (by omega) _, (q.2.1.alloc _).rowOther (by omega) _, (q.2.2.alloc _).rowOther (by omega) _⟩, (q5.alloc _).rowOther (by omega) _, (Ar.new w2 _ _).row _⟩
  rw [← hw3, ← hb4]
  clear hw3 hb4 Z2
  obtain ⟨iA, ⟨iL, -⟩, -⟩ := HI.out
  have r3 := rangeA Z3.out.1.2.1
  have r5 := rangeA Z3.out.2.1
  obtain ⟨sR, lR, oR⟩ := HSz.out.1
  go_wp2_with (first
    | refine wpList_load_mid rfl 25 (.tmp 1) rfl _ _ rfl (A.toList) _ r3 u25 rfl iA ?_
    | refine wpList_load_mid rfl 25 (.tmp 3) rfl _ _ rfl (L.toList) _ r5 u25 rfl iL ?_)
  go_at_call 22
  refine (HK.out.1 _).mono ?_
  rintro r' w5 ⟨rfl, hc5⟩
  go_upto_region 4 with (first | refine wpList_store_row rfl 25 _ _ rfl _ _ rfl rfl _ _ (heap_alloc_last w5 _) sR lR oR ?_)
  obtain ⟨b5, hb5⟩ : ∃ b, b = w5.heap.size := ⟨_, rfl⟩
  obtain ⟨w6, hw6⟩ : ∃ w4, w4 = (w5.alloc (.cells (num 0) 25)).setRow w5.heap.size R := ⟨_, rfl⟩
  have Z6 : Hid (RT w w6 b3 b4 b5 A L I R) := by
    obtain ⟨q, q3, q4⟩ := Z3.out
    have q1 := (q.2.2.chg hc5).lt
    have q5 := (q3.chg hc5).lt
    have q6 := (q4.chg hc5).lt
    rw [hw6, hb5]
    exact ⟨((q.1.trans hc5).alloc _).setRow (by omega) _, ((q.2.1.chg hc5).alloc _).rowOther (by omega) _, ((q.2.2.chg hc5).alloc _).rowOther (by omega) _, ((q3.chg hc5).alloc _).rowOther (by omega) _, ((q4.chg hc5).alloc _).rowOther (by omega) _, (Ar.new w5 _ _).row _⟩
  rw [← hw6, ← hb5]
  clear hw6 hb5 hc5 Z3 r3 r5 sR lR oR iA iL
  obtain ⟨bb, hbb⟩ : ∃ bb, decide (rr = aa) = bb := ⟨_, rfl⟩
  have HB : Hid (decide (rr = aa) = bb) := hbb
  clear hbb
  try dsimp only [Act.put]
  go_cut [16] from 11 to 16 (fun v wc => v = .bool bb ∧ Chg w6 wc)
  case first =>
    refine wp_region_good 5 (fun j v wg => match j with
      | 0 => v = .agg R
      | 1 => v = .agg R
      | 2 => v = .agg (num rr)
      | 3 => v = .agg A
      | 4 => v = .agg (num aa)
      | _ => True) (by kernel_rfl) (by kernel_rfl) (by kernel_rfl) (by kernel_rfl) (by kernel_rfl) ?_ ?_ ?_
    · intro j v u1 u2 h hc
      match j, h with
      | 0, h => exact h
      | 1, h => exact h
      | 2, h => exact h
      | 3, h => exact h
      | 4, h => exact h
      | _ + 5, h => exact trivial
    · intro i o ac u hi ho hsz hf hg hc
      have hcs : i = 0 ∨ i = 1 ∨ i = 2 ∨ i = 3 ∨ i = 4 := by omega
      rcases hcs with rfl | rfl | rfl | rfl | rfl
      · injection ho with ho
        subst ho
        refine .inl ⟨wanted_none rfl, ?_⟩
        have e1 : ac.eval (.tmp 5) = .pointer (some ⟨b5, 0, none⟩) := hf 5 (by kernel_rfl)
        exact wp_load_mid 25 (.tmp 5) rfl _ _ e1 (R.toList) _ (rangeA (Ar.chg (w := w6.drew) Z6.out.r5 hc)) Go.Proofs.Ytnahkcapbbjfdaa.u25 rfl (HI.out.2.2) ⟨_, rfl, rfl, Chg.refl _⟩
      · injection ho with ho
        subst ho
        refine .inl ⟨wanted_none rfl, ?_⟩
        have e1 : ac.eval (.tmp 5) = .pointer (some ⟨b5, 0, none⟩) := hf 5 (by kernel_rfl)
        exact wp_load_mid 25 (.tmp 5) rfl _ _ e1 (R.toList) _ (rangeA (Ar.chg (w := w6.drew) Z6.out.r5 hc)) Go.Proofs.Ytnahkcapbbjfdaa.u25 rfl (HI.out.2.2) ⟨_, rfl, rfl, Chg.refl _⟩
      · injection ho with ho
        subst ho
        refine .inl ⟨wanted_none rfl, ?_⟩
        have e1 : ac.eval (.const (.int .i64 1)) = .int .i64 1 := rfl
        have e2 : ac.eval (.tmp 11) = .agg R := hg 0 (by kernel_rfl) (by decide)
        have e3 : ac.eval (.tmp 12) = .agg R := hg 1 (by kernel_rfl) (by decide)
        refine opG_go 14 Try.f14 #[.const (.int .i64 1), .tmp 11, .tmp 12] #[22, 25, 25] rfl Try.func14 (by kernel_rfl) (by kernel_rfl) (by simp [e1, e2, e3]) (Calls.mono (HK.out.2.1 _) ?_)
        rintro e u2 ⟨rfl, hc2⟩
        exact ⟨_, rfl, rfl, hc2⟩
      · injection ho with ho
        subst ho
        refine .inl ⟨wanted_none rfl, ?_⟩
        have e1 : ac.eval (.tmp 1) = .pointer (some ⟨w.heap.size, 0, none⟩) := hf 1 (by kernel_rfl)
        exact wp_load_mid 25 (.tmp 1) rfl _ _ e1 (A.toList) _ (rangeA (Ar.chg (w := w6.drew) Z6.out.r1 hc)) Go.Proofs.Ytnahkcapbbjfdaa.u25 rfl (HI.out.1) ⟨_, rfl, rfl, Chg.refl _⟩
      · injection ho with ho
        subst ho
        refine .inl ⟨wanted_none rfl, ?_⟩
        have e1 : ac.eval (.const (.int .i64 1)) = .int .i64 1 := rfl
        have e2 : ac.eval (.tmp 14) = .agg A := hg 3 (by kernel_rfl) (by decide)
        refine opG_go 41 Try.f41 #[.const (.int .i64 1), .tmp 14] #[22, 25] rfl Try.func41 (by kernel_rfl) (by kernel_rfl) (by simp [e1, e2]) (Calls.mono (HK.out.2.2.1 _) ?_)
        rintro e u2 ⟨rfl, hc2⟩
        exact ⟨_, rfl, rfl, hc2⟩
    · intro o u V ho hV hc
      injection ho with ho
      subst ho
      refine ⟨rfl, ?_⟩
      have q11 : V 0 = .agg R := hV 0 (by decide)
      have q12 : V 1 = .agg R := hV 1 (by decide)
      have q13 : V 2 = .agg (num rr) := hV 2 (by decide)
      have q14 : V 3 = .agg A := hV 3 (by decide)
      have q15 : V 4 = .agg (num aa) := hV 4 (by decide)
      refine op_eqNum (.tmp 13) (.tmp 15) rr aa bb rfl HNs.out.1 HNs.out.2 (Eq.trans (by rfl) q13) (Eq.trans (by rfl) q15) HB.out ?_
      go_wp2_with fail
      go_meet
      exact ⟨rfl, (Chg.refl w6).drew.trans hc⟩
  case rest =>
    obtain ⟨rfl, c6⟩ := hcut
    obtain ⟨w7, hw7⟩ : ∃ w7, w7 = wc := ⟨_, rfl⟩
    have Z7 : Hid (RT w w7 b3 b4 b5 A L I R) := by rw [hw7]; exact Z6.out.to c6
    rw [← hw7]
    clear hw7 c6 Z6
    cases bb with
    | true =>
      have r5 := rangeA Z7.out.r5
      obtain ⟨-, -, iR⟩ := HI.out
      obtain ⟨sR, lR, oR⟩ := HSz.out.1
      obtain ⟨t, g⟩ := Z7.out.r2
      go_wp2_with (first
        | refine wpList_load_mid rfl 25 (.tmp 5) rfl _ _ rfl (R.toList) _ r5 Go.Proofs.Ytnahkcapbbjfdaa.u25 rfl iR ?_
        | refine wpList_store_row rfl 25 _ _ rfl _ _ rfl rfl _ _ g sR lR oR ?_)
      have e : R = num (mr1 a) := by rw [HM.out, if_pos (of_decide_eq_true HB.out)]; exact HE.out.2.2.1
      rw [e]
      refine bp_n (x := mr1 a) Try.results57 rfl rfl ?_ ⟨rfl, Z7.out.chg.setRow (by omega) _⟩
      exact Z7.out.r2.row _
    | false =>
      have r5 := rangeA Z7.out.r5
      have r4 := rangeA Z7.out.r4
      obtain ⟨-, ⟨-, iI⟩, iR⟩ := HI.out
      go_wp2_with (first
        | refine wpList_load_mid rfl 25 (.tmp 5) rfl _ _ rfl (R.toList) _ r5 Go.Proofs.Ytnahkcapbbjfdaa.u25 rfl iR ?_
        | refine wpList_load_mid rfl 25 (.tmp 4) rfl _ _ rfl (I.toList) _ r4 Go.Proofs.Ytnahkcapbbjfdaa.u25 rfl iI ?_)
      go_at_call 14
      refine (HK.out.2.2.2 _).mono ?_
      rintro r' w8 ⟨rfl, hc8⟩
      have Z8 : Hid (RT w w8 b3 b4 b5 A L I R) := Z7.out.to hc8
      clear hc8 Z7 r5 r4 iI iR
      obtain ⟨sX, lX, oX⟩ := HSz.out.2
      obtain ⟨t, g⟩ := Z8.out.r2
      go_wp2_with (first | refine wpList_store_row rfl 25 _ _ rfl _ _ rfl rfl _ _ g sX lX oX ?_)
      have e : X = num (mr1 a) := by rw [HM.out, if_neg (of_decide_eq_false HB.out)]; exact HE.out.2.2.2
      rw [e]
      refine bp_n (x := mr1 a) Try.results57 rfl rfl ?_ ⟨rfl, Z8.out.chg.setRow (by omega) _⟩
      exact Z8.out.r2.row _
end Go.Proofs.Ytnahkcapbbjfdaa
