/-
A number halved, as the document does it.
-/
import Derived.Test.YtjfidbifjagnpaaGreatDoorJk
import Derived.Test.YtjfidbifjagnpaaGreatDoorJl
import Derived.Test.YtjfidbifjagnpaaGreatDoorJi
import Derived.Test.YtjfidbifjagnpaaGreatDoorJn
namespace Go.Proofs.YtjfidbifjagnpaaGreatDoor
open Go.RowKit
set_option linter.unusedVariables false
set_option maxRecDepth 100000
theorem or_63 {lo hi : Int} (h1 : 0 ≤ lo ∧ lo < 9223372036854775808) (h2 : 0 ≤ hi ∧ hi < 2) : bits .or .u64 lo (hi * 9223372036854775808) = lo + hi * 9223372036854775808 := by
 obtain ⟨a, rfl⟩ := Int.eq_ofNat_of_zero_le h1.1
 obtain ⟨b, rfl⟩ := Int.eq_ofNat_of_zero_le h2.1
 have e : ((b : Int) * 9223372036854775808) = ((b * 9223372036854775808 : Nat) : Int) := by omega
 rw [e, u64_or_nat a (b * 9223372036854775808) (by omega) (by omega)]
 have h3 : b * 9223372036854775808 ||| a = b * 9223372036854775808 + a := by
  have := Nat.shiftLeft_add_eq_or_of_lt (i := 63) (b := a) (by omega) b
  rw [Nat.shiftLeft_eq] at this
  exact this.symm
 rw [Nat.or_comm, h3]
 omega
theorem dg_half64 (x : Int) (i : Nat) : dg B64 (x / 2) i = dg B64 x i / 2 + (dg B64 x (i + 1) % 2) * 9223372036854775808 := by
 unfold dg
 have hp := pow_pos' B64_pos i
 rw [Int.pow_succ, ← Int.ediv_ediv_of_nonneg (Int.le_of_lt hp)]
 have e : x / 2 / B64 ^ i = x / B64 ^ i / 2 := by rw [Int.ediv_ediv_of_nonneg (by decide), Int.mul_comm, ← Int.ediv_ediv_of_nonneg (Int.le_of_lt hp)]
 rw [e]
 generalize x / B64 ^ i = y
 show y / 2 % 18446744073709551616 = y % 18446744073709551616 / 2 + y / 18446744073709551616 % 18446744073709551616 % 2 * 9223372036854775808
 omega
theorem dg_over4 {x : Int} (h : N256 x) : dg B64 x 4 = 0 := by
 unfold dg
 rw [show B64 ^ 4 = R256 from by decide +kernel, Int.ediv_eq_zero_of_lt h.1 h.2]
 rfl
set_option maxHeartbeats 16000000 in
theorem halfR_any (x : Int) (hx : N256 x) (w : World) : Calls Tryz.prog 117 #[.agg (num x)] w fun r w' => r = .returned (.agg (num (x / 2))) ∧ Chg w w' := by
 have HX : Hid (N256 x) := hx
 have hsA := num_size x
 obtain ⟨A, hA⟩ : ∃ A, A = num x := ⟨_, rfl⟩
 have HA : Hid (A = num x) := hA
 obtain ⟨ANS, hANS⟩ : ∃ A, A = num (x / 2) := ⟨_, rfl⟩
 have HANS : Hid (ANS = num (x / 2)) := hANS
 rw [← hA] at hsA ⊢
 rw [← hANS]
 have hz := zero25.1
 clear hA hANS hx
 go_enter Tryz.func117, Tryz.ntmps117
 go_wp2_with fail
 obtain ⟨w2, hw2⟩ : ∃ w2, w2 = (w.alloc (.cells A 35)).alloc (.cells (num 0) 35) := ⟨_, rfl⟩
 have Z2 : Hid (Chg w w2 ∧ Ar w2 w.heap.size (arr .u64 4 (mixD 0 (dg B64 (x / 2)) (dg B64 x))) ∧ Ar w2 (w.heap.size + 1) (num 0)) := by
  rw [hw2, HA.out, mixD_zero]
  exact ⟨((Chg.refl w).alloc _).alloc _, (Ar.new w _ _).alloc _, Ar.new1 w _ _ _⟩
 rw [← hw2]
 clear hw2 hsA hz
 go_loopw [3] (fun v wr => ∃ (i : Nat), v = .int .i64 i ∧ i ≤ 4 ∧ Chg w wr ∧ Ar wr w.heap.size (arr .u64 4 (mixD i (dg B64 (x / 2)) (dg B64 x))) ∧ Ar wr (w.heap.size + 1) (num 0)) (fun v wr => 4 - (intOf v).toNat)
 case atStart => exact ⟨0, rfl, by omega, Z2.out⟩
 case round =>
  clear Z2 HA
  obtain ⟨i, rfl, hi, hch, h1, h2⟩ := hrel
  have H : Hid (Chg w wr ∧ Ar wr w.heap.size (arr .u64 4 (mixD i (dg B64 (x / 2)) (dg B64 x))) ∧ Ar wr (w.heap.size + 1) (num 0)) := ⟨hch, h1, h2⟩
  by_cases h4 : i < 4
  ·have hdi : decide ((i : Int) < 4) = true := by simp; omega
   have li : (i : Int) < 4 := by omega
   have c1 := (h1.cell i).trans (arr_get .u64 4 _ h4)
   rw [mixD_at] at c1
   have f1 := h1.frozen i
   obtain ⟨y, hy⟩ : ∃ y, y = dg B64 x i := ⟨_, rfl⟩
   have by' : 0 ≤ dg B64 x i ∧ dg B64 x i < 18446744073709551616 := dg_bound (B := B64) B64_pos x i
   rw [← hy] at c1 by'
   obtain ⟨y1, hy1⟩ : ∃ y1, y / 2 = y1 := ⟨_, rfl⟩
   by_cases h3 : i < 3
   ·have hd3 : decide ((i : Int) < 3) = true := by simp; omega
    obtain ⟨q, hq⟩ : ∃ q : Nat, (i : Int) + 1 = q := ⟨i + 1, by omega⟩
    have wq := wrap_i (x := (q : Int)) (by omega) (by omega)
    have lq : (q : Int) < 4 := by omega
    have lq0 : (0 : Int) ≤ (q : Int) := by omega
    have c2 := (h1.cell q).trans (arr_get .u64 4 _ (by omega))
    have eq' : q = i + 1 := by omega
    rw [show mixD i (dg B64 (x / 2)) (dg B64 x) q = dg B64 x q by simp [mixD]; omega] at c2
    obtain ⟨n, hn⟩ : ∃ n, n = dg B64 x q := ⟨_, rfl⟩
    have bn : 0 ≤ dg B64 x q ∧ dg B64 x q < 18446744073709551616 := dg_bound (B := B64) B64_pos x q
    rw [← hn] at c2 bn
    obtain ⟨b, hb⟩ : ∃ b, n % 2 = b := ⟨_, rfl⟩
    have wb : IntKind.u64.wrap (n * 9223372036854775808) = b * 9223372036854775808 := by rw [IntKind.wrap_u64]; omega
    have eo := or_63 (lo := y1) (hi := b) (by omega) (by omega)
    obtain ⟨r, hr⟩ : ∃ r, y1 + b * 9223372036854775808 = r := ⟨_, rfl⟩
    rw [hr] at eo
    have HR : Hid (r = dg B64 (x / 2) i) := by
     show r = _
     rw [dg_half64, ← hy, ← eq', ← hn]
     omega
    have niq : ¬ i = q := by omega
    have nqi : ¬ q = i := by omega
    clear hch h1 h2 hy by' hn bn hb hr eq'
    go_wp2_with fail
    go_region_with (fail)
    all_goals go_wp2
    all_goals
     go_roundw
     case rel =>
      obtain ⟨k0, k1, k2⟩ := H.out
      have hh := (k1.set i (.int .u64 y1)).set i (.int .u64 r)
      rw [arr_set, arr_set, show upd (upd (mixD i (dg B64 (x / 2)) (dg B64 x)) i y1) i r = upd (mixD i (dg B64 (x / 2)) (dg B64 x)) i r by funext j; unfold upd; split <;> rfl, mixD_upd] at hh
      have e : upd (dg B64 (x / 2)) i r = dg B64 (x / 2) := by
       funext j
       unfold upd
       by_cases hj : j = i
       ·rw [if_pos hj, hj, HR.out]
       ·rw [if_neg hj]
      rw [e] at hh
      refine ⟨i + 1, by go_num, by omega, ((k0.setCell (by dsimp only; omega) _).drew.setCell (by dsimp only; omega) _), hh.drew, ((k2.other (by dsimp only; omega) _).drew.other (by dsimp only; omega) _)⟩
     case measure => simp [intOf]; omega
   ·have hi3 : i = 3 := by omega
    have hd3 : decide ((i : Int) < 3) = false := by simp; omega
    have HR : Hid (y1 = dg B64 (x / 2) i) := by
     show y1 = _
     rw [dg_half64, ← hy, hi3, dg_over4 HX.out]
     omega
    clear hch h1 h2 hy by' hi3
    go_wp2_with fail
    go_roundw
    case rel =>
     obtain ⟨k0, k1, k2⟩ := H.out
     have hh := (k1.set i (.int .u64 y1))
     rw [arr_set, mixD_upd] at hh
     have e : upd (dg B64 (x / 2)) i y1 = dg B64 (x / 2) := by
      funext j
      unfold upd
      by_cases hj : j = i
      ·rw [if_pos hj, hj, HR.out]
      ·rw [if_neg hj]
     rw [e] at hh
     exact ⟨i + 1, by go_num, by omega, k0.setCell (by dsimp only; omega) _, hh, k2.other (by dsimp only; omega) _⟩
    case measure => simp [intOf]; omega
  ·have : i = 4 := by omega
   subst this
   have hx2 := h1
   rw [mixD_all] at hx2
   have hx3 : Ar wr w.heap.size ANS := by rw [HANS.out]; exact hx2
   obtain ⟨t1, g1⟩ := hx3
   obtain ⟨t3, g3⟩ := h2
   have hsz := szN (x / 2)
   have hlen := lenN 0 (x / 2)
   have hone := num_one (x / 2)
   rw [← HANS.out] at hsz hlen hone
   clear hch h1 hx2
   go_wp2_with (first | refine wpList_load_row rfl 35 _ rfl _ rfl _ _ _ _ g1 undNum rfl hsz ?_ | refine wpList_store_row rfl 35 _ _ rfl _ _ rfl rfl _ _ g3 hsz hlen hone ?_)
   refine bp_c (n := 4) (c := ANS) Tryz.results117 rfl rfl ?_ undNum i25 (by rw [HANS.out]; exact num_size _) ⟨rfl, ?_⟩
   ·exact H.out.2.2.row _
   ·exact H.out.1.setRow (by omega) _
theorem size23 (w : World) : (sizeOf 33).run Tryz.prog w = .ok 1 w := by
 have h : (Tryz.prog.info? 33).map (·.size) = some 1 := by kernel_rfl
 cases hq : Tryz.prog.info? 33 with
 | none => simp [hq] at h
 | some i =>
  rw [hq] at h
  have h : i.size = 1 := Option.some.inj h
  simp [sizeOf, typeInfo, hq, h]
theorem und23 : Tryz.prog.underlying 33 = some (.int .u64) := by kernel_rfl
theorem run_part23 (n : Nat) (f : Nat → Int) {i : Nat} (hi : i < n) (w : World) : (part 33 (arr .u64 n f) i).run Tryz.prog w = .ok (.int .u64 (f i)) w := by
 simp [part, arr_get .u64 n f hi, Sem.run_bind]
theorem run_eqW {t n : Nat} (hu : Tryz.prog.underlying t = some (.array n 33)) (hl : List.range' [0:n].start [0:n].size [0:n].step = List.range n) (f g : Nat → Int) (d : Nat) (w : World) : (Op.equalIn (d + 2) t (.agg (arr .u64 n f)) (.agg (arr .u64 n g))).run Tryz.prog w = .ok ((List.range n).all fun i => f i == g i) w := by
 unfold Op.equalIn
 simp only [Sem.run_bind, run_underlying hu, Result.andThen_ok, size23, Nat.mul_one]
 rw [Std.Legacy.Range.forIn_eq_forIn_range', hl]
 have hm : ∀ i ∈ List.range n, i < n := fun i hi => List.mem_range.1 hi
 generalize List.range n = l at hm
 clear hl
 induction l generalizing w with
 | nil => simp
 | cons i l ih =>
  have hi := hm i (by simp)
  simp only [List.forIn_cons, Sem.run_bind, run_part23 n f hi, run_part23 n g hi, Result.andThen_ok, run_equalIn_int _ d 33 .u64 .u64 _ _ und23]
  cases hc : (f i == g i) with
  | true =>
   simp only [List.all_cons, hc, Bool.true_and, Bool.not_true, Bool.false_eq_true, if_false, Sem.run_pure, Result.andThen_ok]
   exact ih w (fun j hj => hm j (by simp [hj]))
  | false =>
   simp only [List.all_cons, hc, Bool.false_and, Bool.not_false, if_true, Sem.run_pure, Result.andThen_ok]
theorem num_same {x y : Int} (hx : N256 x) (hy : N256 y) : ((List.range 4).all fun i => dg B64 x i == dg B64 y i) = decide (x = y) := by
 rw [Bool.eq_iff_iff, List.all_eq_true, decide_eq_true_eq]
 constructor
 ·intro h
  rw [← val4 x hx.1 hx.2, ← val4 y hy.1 hy.2]
  exact val_congr fun i hi => by simpa using h i (List.mem_range.2 hi)
 ·rintro rfl i _
  exact beq_self_eq_true _
theorem run_eqNum {x y : Int} (hx : N256 x) (hy : N256 y) (w : World) : (Op.equalIn 10000 35 (.agg (num x)) (.agg (num y))).run Tryz.prog w = .ok (decide (x = y)) w := by
 have := run_eqW (t := 35) (n := 4) (by kernel_rfl) (by decide) (dg B64 x) (dg B64 y) 9998 w
 rw [num_same hx hy] at this
 exact this
theorem op_eqNum {o : Oper} {a : Act} {w : World} {K : Act → World → Prop} {Q : Exit → Act → World → Prop} (x y : Operand) (s t : Int) (b : Bool) (ho : o.op = .binOp .eql 35 x y 35) (hs : N256 s) (ht : N256 t) (hx : a.eval x = .agg (num s)) (hy : a.eval y = .agg (num t)) (hb : decide (s = t) = b) (hK : K (a.put o.dst (.bool b)) w) : o.wp Tryz.prog a w K Q := by
 refine op_val1 (v := .bool b) ?_ hK
 revert hx hy
 generalize a.eval = ρ
 intro hx hy
 simp [go_sem, execOp, ho, hx, hy, run_eqNum hs ht, hb]
theorem op_neqNum {o : Oper} {a : Act} {w : World} {K : Act → World → Prop} {Q : Exit → Act → World → Prop} (x y : Operand) (s t : Int) (b : Bool) (ho : o.op = .binOp .neq 35 x y 35) (hs : N256 s) (ht : N256 t) (hx : a.eval x = .agg (num s)) (hy : a.eval y = .agg (num t)) (hb : decide (s = t) = b) (hK : K (a.put o.dst (.bool (!b))) w) : o.wp Tryz.prog a w K Q := by
 refine op_val1 (v := .bool (!b)) ?_ hK
 revert hx hy
 generalize a.eval = ρ
 intro hx hy
 simp [go_sem, execOp, ho, hx, hy, run_eqNum hs ht, hb]
def e255 : Int := (mo 1 + 3) / 8
def i255 : Int := 0x2b8324804fc1df0b2b4d00993dfbd7a72f431806ad2fe478c4ee1b274a0ea0b0
def mr1 (a : Int) : Int := if (a ^ e255.toNat % mo 1) * (a ^ e255.toNat % mo 1) % mo 1 = a % mo 1 then a ^ e255.toNat % mo 1 else (a ^ e255.toNat % mo 1) * i255 % mo 1
theorem num_e255 : ((((num 0).setIfInBounds 0 (.int .u64 18446744073709551614)).setIfInBounds 1 (.int .u64 18446744073709551615)).setIfInBounds 2 (.int .u64 18446744073709551615)).setIfInBounds 3 (.int .u64 1152921504606846975) = num e255 := by kernel_rfl
theorem num_i255 : ((((num 0).setIfInBounds 0 (.int .u64 14190309331451158704)).setIfInBounds 1 (.int .u64 3405592160176694392)).setIfInBounds 2 (.int .u64 3120150775007532967)).setIfInBounds 3 (.int .u64 3135389899092516619) = num i255 := by kernel_rfl
theorem N_e255 : N256 e255 := by constructor <;> decide +kernel
theorem N_i255 : N256 i255 := by constructor <;> decide +kernel
theorem mr1_N (a : Int) : N256 (mr1 a) := by
 unfold mr1
 split
 ·exact N_mod (.inl rfl) _
 ·exact N_mod (.inl rfl) _
structure RT (w wr : World) (b3 b4 b5 : Nat) (A L I R : Array Value) : Prop where
 chg : Chg w wr
 r1 : Ar wr w.heap.size A
 r2 : Ar wr (w.heap.size + 1) (num 0)
 r3 : Ar wr b3 L
 r4 : Ar wr b4 I
 r5 : Ar wr b5 R
theorem RT.to {w wr u : World} {b3 b4 b5 : Nat} {A L I R : Array Value} (h : RT w wr b3 b4 b5 A L I R) (k : Chg wr u) : RT w u b3 b4 b5 A L I R := ⟨h.chg.trans k, h.r1.chg k, h.r2.chg k, h.r3.chg k, h.r4.chg k, h.r5.chg k⟩
set_option maxHeartbeats 8000000 in
theorem maybe1_any (a : Int) (ha : N256 a) (w : World) : Calls Tryz.prog 131 #[.agg (num a)] w fun r w' => r = .returned (.agg (num (mr1 a))) ∧ Chg w w' := by
 have hz := zero25.1
 have hsA := num_size a
 obtain ⟨r, hr⟩ : ∃ r, r = a ^ e255.toNat % mo 1 := ⟨_, rfl⟩
 have hrN : N256 r := by rw [hr]; exact N_mod (.inl rfl) _
 obtain ⟨rr, hrr⟩ : ∃ rr, rr = r * r % mo 1 := ⟨_, rfl⟩
 obtain ⟨aa, haa⟩ : ∃ aa, aa = a % mo 1 := ⟨_, rfl⟩
 have HM : Hid (mr1 a = if rr = aa then r else r * i255 % mo 1) := by
  show mr1 a = _
  rw [hrr, haa, hr]
  rfl
 have HNs : Hid (N256 rr ∧ N256 aa) := ⟨by rw [hrr]; exact N_mod (.inl rfl) _, by rw [haa]; exact N_mod (.inl rfl) _⟩
 have k1 := fun W => exp_any 1 a e255 (.inl rfl) ha N_e255 W
 have k2 := fun W => mul_any 1 r r (.inl rfl) hrN hrN W
 have k3 := fun W => rest_any 1 a (.inl rfl) ha W
 have k4 := fun W => mul_any 1 r i255 (.inl rfl) hrN N_i255 W
 rw [← hr] at k1
 rw [← hrr] at k2
 rw [← haa] at k3
 obtain ⟨A, hA⟩ : ∃ A, A = num a := ⟨_, rfl⟩
 obtain ⟨L, hL⟩ : ∃ L, L = num e255 := ⟨_, rfl⟩
 obtain ⟨I, hI⟩ : ∃ I, I = num i255 := ⟨_, rfl⟩
 obtain ⟨R, hR⟩ : ∃ R, R = num r := ⟨_, rfl⟩
 obtain ⟨X, hX⟩ : ∃ X, X = num (r * i255 % mo 1) := ⟨_, rfl⟩
 have HE : Hid (L = num e255 ∧ I = num i255 ∧ R = num r ∧ X = num (r * i255 % mo 1)) := ⟨hL, hI, hR, hX⟩
 have HSz : Hid (((Tryz.prog.info? 35).map (·.size) = some R.size ∧ (num 0).size = R.size ∧ R.all (·.oneCell') = true) ∧ (Tryz.prog.info? 35).map (·.size) = some X.size ∧ (num 0).size = X.size ∧ X.all (·.oneCell') = true) := by
  rw [hR, hX]
  exact ⟨⟨szN _, lenN _ _, num_one _⟩, szN _, lenN _ _, num_one _⟩
 have HI : Hid ((Tryz.prog.info? 35).map (·.size) = some A.toList.length ∧ ((Tryz.prog.info? 35).map (·.size) = some L.toList.length ∧ (Tryz.prog.info? 35).map (·.size) = some I.toList.length) ∧ (Tryz.prog.info? 35).map (·.size) = some R.toList.length) := by
  rw [hA, hL, hI, hR]
  exact ⟨infoN _, ⟨infoN _, infoN _⟩, infoN _⟩
 rw [← hA] at hsA k1 k3 ⊢
 rw [← hL, ← hR] at k1
 rw [← hR] at k2
 rw [← hR, ← hI, ← hX] at k4
 have HK : Hid ((∀ W, Calls Tryz.prog 81 #[.int .i64 1, .agg A, .agg L] W fun r w' => r = .returned (.agg R) ∧ Chg W w') ∧ (∀ W, Calls Tryz.prog 26 #[.int .i64 1, .agg R, .agg R] W fun r w' => r = .returned (.agg (num rr)) ∧ Chg W w') ∧ (∀ W, Calls Tryz.prog 60 #[.int .i64 1, .agg A] W fun r w' => r = .returned (.agg (num aa)) ∧ Chg W w') ∧ (∀ W, Calls Tryz.prog 26 #[.int .i64 1, .agg R, .agg I] W fun r w' => r = .returned (.agg X) ∧ Chg W w')) := ⟨k1, k2, k3, k4⟩
 clear hA hL hI hR hX k1 k2 k3 k4 ha hr hrN hrr haa
 go_enter Tryz.func131, Tryz.ntmps131
 go_upto_region 1 with fail
 obtain ⟨w1, hw1⟩ : ∃ w1, w1 = (w.alloc (.cells A 35)).alloc (.cells (num 0) 35) := ⟨_, rfl⟩
 have Z : Hid (Chg w w1 ∧ Ar w1 w.heap.size A ∧ Ar w1 (w.heap.size + 1) (num 0)) := by
  rw [hw1]
  exact ⟨((Chg.refl w).alloc _).alloc _, (Ar.new w _ _).alloc _, Ar.new1 w _ _ _⟩
 rw [← hw1]
 clear hw1 hsA
 go_upto_region 2 with (first | refine wpList_store_row rfl 35 _ _ rfl _ _ rfl rfl _ _ (heap_alloc_last w1 _) (by rw [num_e255]; exact szN _) (by rw [num_e255]; exact lenN _ _) (by rw [num_e255]; exact num_one _) ?_)
 rw [num_e255, ← HE.out.1]
 obtain ⟨b3, hb3⟩ : ∃ b, b = w1.heap.size := ⟨_, rfl⟩
 obtain ⟨w2, hw2⟩ : ∃ w4, w4 = (w1.alloc (.cells (num 0) 35)).setRow w1.heap.size L := ⟨_, rfl⟩
 have Z2 : Hid ((Chg w w2 ∧ Ar w2 w.heap.size A ∧ Ar w2 (w.heap.size + 1) (num 0)) ∧ Ar w2 b3 L) := by
  have q := Z.out
  have q1 := q.2.2.lt
  rw [hw2, hb3]
  exact ⟨⟨(q.1.alloc _).setRow (by omega) _, (q.2.1.alloc _).rowOther (by omega) _, (q.2.2.alloc _).rowOther (by omega) _⟩, (Ar.new w1 _ _).row _⟩
 rw [← hw2, ← hb3]
 clear hw2 hb3 Z
 go_upto_region 3 with (first | refine wpList_store_row rfl 35 _ _ rfl _ _ rfl rfl _ _ (heap_alloc_last w2 _) (by rw [num_i255]; exact szN _) (by rw [num_i255]; exact lenN _ _) (by rw [num_i255]; exact num_one _) ?_)
 rw [num_i255, ← HE.out.2.1]
 obtain ⟨b4, hb4⟩ : ∃ b, b = w2.heap.size := ⟨_, rfl⟩
 obtain ⟨w3, hw3⟩ : ∃ w4, w4 = (w2.alloc (.cells (num 0) 35)).setRow w2.heap.size I := ⟨_, rfl⟩
 have Z3 : Hid ((Chg w w3 ∧ Ar w3 w.heap.size A ∧ Ar w3 (w.heap.size + 1) (num 0)) ∧ Ar w3 b3 L ∧ Ar w3 b4 I) := by
  obtain ⟨q, q5⟩ := Z2.out
  have q1 := q.2.2.lt
  have q6 := q5.lt
  rw [hw3, hb4]
  exact ⟨⟨(q.1.alloc _).setRow (by omega) _, (q.2.1.alloc _).rowOther (by omega) _, (q.2.2.alloc _).rowOther (by omega) _⟩, (q5.alloc _).rowOther (by omega) _, (Ar.new w2 _ _).row _⟩
 rw [← hw3, ← hb4]
 clear hw3 hb4 Z2
 obtain ⟨iA, ⟨iL, -⟩, -⟩ := HI.out
 have r3 := rangeA Z3.out.1.2.1
 have r5 := rangeA Z3.out.2.1
 obtain ⟨sR, lR, oR⟩ := HSz.out.1
 go_wp2_with (first
  | refine wpList_load_mid rfl 35 (.tmp 1) rfl _ _ rfl (A.toList) _ r3 u25 rfl iA ?_
  | refine wpList_load_mid rfl 35 (.tmp 3) rfl _ _ rfl (L.toList) _ r5 u25 rfl iL ?_)
 go_at_call 81
 refine (HK.out.1 _).mono ?_
 rintro r' w5 ⟨rfl, hc5⟩
 go_upto_region 4 with (first | refine wpList_store_row rfl 35 _ _ rfl _ _ rfl rfl _ _ (heap_alloc_last w5 _) sR lR oR ?_)
 obtain ⟨b5, hb5⟩ : ∃ b, b = w5.heap.size := ⟨_, rfl⟩
 obtain ⟨w6, hw6⟩ : ∃ w4, w4 = (w5.alloc (.cells (num 0) 35)).setRow w5.heap.size R := ⟨_, rfl⟩
 have Z6 : Hid (RT w w6 b3 b4 b5 A L I R) := by
  obtain ⟨q, q3, q4⟩ := Z3.out
  have q1 := (q.2.2.chg hc5).lt
  have q5 := (q3.chg hc5).lt
  have q6 := (q4.chg hc5).lt
  rw [hw6, hb5]
  exact ⟨((q.1.trans hc5).alloc _).setRow (by omega) _, ((q.2.1.chg hc5).alloc _).rowOther (by omega) _, ((q.2.2.chg hc5).alloc _).rowOther (by omega) _, ((q3.chg hc5).alloc _).rowOther (by omega) _, ((q4.chg hc5).alloc _).rowOther (by omega) _, (Ar.new w5 _ _).row _⟩
 rw [← hw6, ← hb5]
 clear hw6 hb5 hc5 Z3 r3 r5 sR lR oR iA iL
 obtain ⟨bb, hbb⟩ : ∃ bb, decide (rr = aa) = bb := ⟨_, rfl⟩
 have HB : Hid (decide (rr = aa) = bb) := hbb
 clear hbb
 try dsimp only [Act.put]
 go_cut [16] from 11 to 16 (fun v wc => v = .bool bb ∧ Chg w6 wc)
 case first =>
  refine wp_region_good 5 (fun j v wg => match j with
   | 0 => v = .agg R
   | 1 => v = .agg R
   | 2 => v = .agg (num rr)
   | 3 => v = .agg A
   | 4 => v = .agg (num aa)
   | _ => True) (by kernel_rfl) (by kernel_rfl) (by kernel_rfl) (by kernel_rfl) (by kernel_rfl) ?_ ?_ ?_
  ·intro j v u1 u2 h hc
   match j, h with
   | 0, h => exact h
   | 1, h => exact h
   | 2, h => exact h
   | 3, h => exact h
   | 4, h => exact h
   | _ + 5, h => exact trivial
  ·intro i o ac u hi ho hsz hf hg hc
   have hcs : i = 0 ∨ i = 1 ∨ i = 2 ∨ i = 3 ∨ i = 4 := by omega
   rcases hcs with rfl | rfl | rfl | rfl | rfl
   ·injection ho with ho
    subst ho
    refine .inl ⟨wanted_none rfl, ?_⟩
    have e1 : ac.eval (.tmp 5) = .pointer (some ⟨b5, 0, none⟩) := hf 5 (by kernel_rfl)
    exact wp_load_mid 35 (.tmp 5) rfl _ _ e1 (R.toList) _ (rangeA (Ar.chg (w := w6.drew) Z6.out.r5 hc)) undNum rfl (HI.out.2.2) ⟨_, rfl, rfl, Chg.refl _⟩
   ·injection ho with ho
    subst ho
    refine .inl ⟨wanted_none rfl, ?_⟩
    have e1 : ac.eval (.tmp 5) = .pointer (some ⟨b5, 0, none⟩) := hf 5 (by kernel_rfl)
    exact wp_load_mid 35 (.tmp 5) rfl _ _ e1 (R.toList) _ (rangeA (Ar.chg (w := w6.drew) Z6.out.r5 hc)) undNum rfl (HI.out.2.2) ⟨_, rfl, rfl, Chg.refl _⟩
   ·injection ho with ho
    subst ho
    refine .inl ⟨wanted_none rfl, ?_⟩
    have e1 : ac.eval (.const (.int .i64 1)) = .int .i64 1 := rfl
    have e2 : ac.eval (.tmp 11) = .agg R := hg 0 (by kernel_rfl) (by decide)
    have e3 : ac.eval (.tmp 12) = .agg R := hg 1 (by kernel_rfl) (by decide)
    refine opG_go 26 Tryz.f26 #[.const (.int .i64 1), .tmp 11, .tmp 12] #[53, 35, 35] rfl Tryz.func26 (by kernel_rfl) (by kernel_rfl) (by simp [e1, e2, e3]) (Calls.mono (HK.out.2.1 _) ?_)
    rintro e u2 ⟨rfl, hc2⟩
    exact ⟨_, rfl, rfl, hc2⟩
   ·injection ho with ho
    subst ho
    refine .inl ⟨wanted_none rfl, ?_⟩
    have e1 : ac.eval (.tmp 1) = .pointer (some ⟨w.heap.size, 0, none⟩) := hf 1 (by kernel_rfl)
    exact wp_load_mid 35 (.tmp 1) rfl _ _ e1 (A.toList) _ (rangeA (Ar.chg (w := w6.drew) Z6.out.r1 hc)) undNum rfl (HI.out.1) ⟨_, rfl, rfl, Chg.refl _⟩
   ·injection ho with ho
    subst ho
    refine .inl ⟨wanted_none rfl, ?_⟩
    have e1 : ac.eval (.const (.int .i64 1)) = .int .i64 1 := rfl
    have e2 : ac.eval (.tmp 14) = .agg A := hg 3 (by kernel_rfl) (by decide)
    refine opG_go 60 Tryz.f60 #[.const (.int .i64 1), .tmp 14] #[53, 35] rfl Tryz.func60 (by kernel_rfl) (by kernel_rfl) (by simp [e1, e2]) (Calls.mono (HK.out.2.2.1 _) ?_)
    rintro e u2 ⟨rfl, hc2⟩
    exact ⟨_, rfl, rfl, hc2⟩
  ·intro o u V ho hV hc
   injection ho with ho
   subst ho
   refine ⟨rfl, ?_⟩
   have q11 : V 0 = .agg R := hV 0 (by decide)
   have q12 : V 1 = .agg R := hV 1 (by decide)
   have q13 : V 2 = .agg (num rr) := hV 2 (by decide)
   have q14 : V 3 = .agg A := hV 3 (by decide)
   have q15 : V 4 = .agg (num aa) := hV 4 (by decide)
   refine op_eqNum (.tmp 13) (.tmp 15) rr aa bb rfl HNs.out.1 HNs.out.2 (Eq.trans (by rfl) q13) (Eq.trans (by rfl) q15) HB.out ?_
   go_wp2_with fail
   go_meet
   exact ⟨rfl, (Chg.refl w6).drew.trans hc⟩
 obtain ⟨rfl, c6⟩ := hcut
 obtain ⟨w7, hw7⟩ : ∃ w7, w7 = wc := ⟨_, rfl⟩
 have Z7 : Hid (RT w w7 b3 b4 b5 A L I R) := by rw [hw7]; exact Z6.out.to c6
 rw [← hw7]
 clear hw7 c6 Z6
 cases bb with
 | true =>
  have r5 := rangeA Z7.out.r5
  obtain ⟨-, -, iR⟩ := HI.out
  obtain ⟨sR, lR, oR⟩ := HSz.out.1
  obtain ⟨t, g⟩ := Z7.out.r2
  go_wp2_with (first
   | refine wpList_load_mid rfl 35 (.tmp 5) rfl _ _ rfl (R.toList) _ r5 undNum rfl iR ?_
   | refine wpList_store_row rfl 35 _ _ rfl _ _ rfl rfl _ _ g sR lR oR ?_)
  have e : R = num (mr1 a) := by rw [HM.out, if_pos (of_decide_eq_true HB.out)]; exact HE.out.2.2.1
  rw [e]
  refine bp_n (x := mr1 a) Tryz.results131 rfl rfl ?_ ⟨rfl, Z7.out.chg.setRow (by omega) _⟩
  exact Z7.out.r2.row _
 | false =>
  have r5 := rangeA Z7.out.r5
  have r4 := rangeA Z7.out.r4
  obtain ⟨-, ⟨-, iI⟩, iR⟩ := HI.out
  go_wp2_with (first
   | refine wpList_load_mid rfl 35 (.tmp 5) rfl _ _ rfl (R.toList) _ r5 undNum rfl iR ?_
   | refine wpList_load_mid rfl 35 (.tmp 4) rfl _ _ rfl (I.toList) _ r4 undNum rfl iI ?_)
  go_at_call 26
  refine (HK.out.2.2.2 _).mono ?_
  rintro r' w8 ⟨rfl, hc8⟩
  have Z8 : Hid (RT w w8 b3 b4 b5 A L I R) := Z7.out.to hc8
  clear hc8 Z7 r5 r4 iI iR
  obtain ⟨sX, lX, oX⟩ := HSz.out.2
  obtain ⟨t, g⟩ := Z8.out.r2
  go_wp2_with (first | refine wpList_store_row rfl 35 _ _ rfl _ _ rfl rfl _ _ g sX lX oX ?_)
  have e : X = num (mr1 a) := by rw [HM.out, if_neg (of_decide_eq_false HB.out)]; exact HE.out.2.2.2
  rw [e]
  refine bp_n (x := mr1 a) Tryz.results131 rfl rfl ?_ ⟨rfl, Z8.out.chg.setRow (by omega) _⟩
  exact Z8.out.r2.row _
def rootN (f a m : Int) : Int := if m * m % mo f = a % mo f then (if dg 2 m 0 = 1 then (0 - m) % mo f else m) else 0
structure R2 (w wr : World) (A R : Array Value) : Prop where
 chg : Chg w wr
 r1 : Ar wr w.heap.size A
 r2 : Ar wr (w.heap.size + 1) (num 0)
 r3 : Ar wr (w.heap.size + 1 + 1) R
theorem R2.to {w wr u : World} {A R : Array Value} (h : R2 w wr A R) (k : Chg wr u) : R2 w u A R := ⟨h.chg.trans k, h.r1.chg k, h.r2.chg k, h.r3.chg k⟩
set_option maxHeartbeats 8000000 in
theorem root1_any (a : Int) (ha : N256 a) (w : World) : Calls Tryz.prog 103 #[.int .i64 1, .agg (num a)] w fun r w' => r = .returned (.tuple #[.agg (num (rootN 1 a (mr1 a))), .bool (decide ((mr1 a) * (mr1 a) % mo 1 = a % mo 1))]) ∧ Chg w w' := by
 have hz := zero25.1
 have hsA := num_size a
 have k0 := fun W => maybe1_any a ha W
 have hmN : N256 (mr1 a) := mr1_N a
 obtain ⟨m, hm⟩ : ∃ m, m = mr1 a := ⟨_, rfl⟩
 rw [← hm] at k0 hmN ⊢
 clear hm
 obtain ⟨rr, hrr⟩ : ∃ rr, rr = m * m % mo 1 := ⟨_, rfl⟩
 obtain ⟨aa, haa⟩ : ∃ aa, aa = a % mo 1 := ⟨_, rfl⟩
 have HM : Hid (rootN 1 a m = if rr = aa then (if dg 2 m 0 = 1 then (0 - m) % mo 1 else m) else 0) := by
  show rootN 1 a m = _
  rw [hrr, haa]
  rfl
 have HNs : Hid (N256 rr ∧ N256 aa) := ⟨by rw [hrr]; exact N_mod (.inl rfl) _, by rw [haa]; exact N_mod (.inl rfl) _⟩
 have k2 := fun W => mul_any 1 m m (.inl rfl) hmN hmN W
 have k3 := fun W => rest_any 1 a (.inl rfl) ha W
 have k4 := fun W => bit_any m 0 (by decide) W
 have k5 := fun W => neg_any 1 m (.inl rfl) hmN W
 rw [← hrr] at k2 ⊢
 rw [← haa] at k3 ⊢
 obtain ⟨A, hA⟩ : ∃ A, A = num a := ⟨_, rfl⟩
 obtain ⟨R, hR⟩ : ∃ R, R = num m := ⟨_, rfl⟩
 obtain ⟨X, hX⟩ : ∃ X, X = num ((0 - m) % mo 1) := ⟨_, rfl⟩
 obtain ⟨cb, hcb⟩ : ∃ cb, cb = (dg 2 m 0 == 1) := ⟨_, rfl⟩
 have HE : Hid (R = num m ∧ X = num ((0 - m) % mo 1) ∧ cb = (dg 2 m 0 == 1)) := ⟨hR, hX, hcb⟩
 have HSz : Hid (((Tryz.prog.info? 35).map (·.size) = some R.size ∧ (num 0).size = R.size ∧ R.all (·.oneCell') = true) ∧ (Tryz.prog.info? 35).map (·.size) = some X.size ∧ ((num 0).size = X.size ∧ R.size = X.size) ∧ X.all (·.oneCell') = true) := by
  rw [hR, hX]
  exact ⟨⟨szN _, lenN _ _, num_one _⟩, szN _, ⟨lenN _ _, lenN _ _⟩, num_one _⟩
 have HI : Hid ((Tryz.prog.info? 35).map (·.size) = some A.toList.length ∧ (Tryz.prog.info? 35).map (·.size) = some R.toList.length ∧ (Tryz.prog.info? 35).map (·.size) = some X.toList.length) := by
  rw [hA, hR, hX]
  exact ⟨infoN _, infoN _, infoN _⟩
 have HZ : Hid ((Tryz.prog.info? 35).map (·.size) = some (num 0).size ∧ (num 0).size = (num 0).size ∧ (num 0).all (·.oneCell') = true) := ⟨szN _, rfl, num_one _⟩
 rw [← hA] at hsA k0 k3 ⊢
 rw [← hR] at k0 k2 k4 k5
 rw [← hX] at k5
 rw [← hcb] at k4
 have HK : Hid ((∀ W, Calls Tryz.prog 131 #[.agg A] W fun r w' => r = .returned (.agg R) ∧ Chg W w') ∧ (∀ W, Calls Tryz.prog 26 #[.int .i64 1, .agg R, .agg R] W fun r w' => r = .returned (.agg (num rr)) ∧ Chg W w') ∧ (∀ W, Calls Tryz.prog 60 #[.int .i64 1, .agg A] W fun r w' => r = .returned (.agg (num aa)) ∧ Chg W w') ∧ (∀ W, Calls Tryz.prog 112 #[.agg R, .int .i64 0] W fun r w' => r = .returned (.bool cb) ∧ Chg W w') ∧ (∀ W, Calls Tryz.prog 72 #[.int .i64 1, .agg R] W fun r w' => r = .returned (.agg X) ∧ Chg W w')) := ⟨k0, k2, k3, k4, k5⟩
 clear hA hR hX hcb k0 k2 k3 k4 k5 ha hmN hrr haa
 go_enter Tryz.func103, Tryz.ntmps103
 go_upto_region 2 with fail
 obtain ⟨w1, hw1⟩ : ∃ w1, w1 = ((w.alloc (.cells A 35)).alloc (.cells (num 0) 35)).alloc (.cells (num 0) 35) := ⟨_, rfl⟩
 have Z : Hid (Chg w w1 ∧ Ar w1 w.heap.size A ∧ Ar w1 (w.heap.size + 1) (num 0) ∧ Ar w1 (w.heap.size + 1 + 1) (num 0)) := by
  rw [hw1]
  exact ⟨(((Chg.refl w).alloc _).alloc _).alloc _, ((Ar.new w _ _).alloc _).alloc _, (Ar.new1 w _ _ _).alloc _, Ar.new2 w _ _ _ _⟩
 rw [← hw1]
 clear hw1 hsA
 obtain ⟨iA, -, -⟩ := HI.out
 have r3 := rangeA Z.out.2.1
 go_wp2_with (first
  | refine wpList_load_mid rfl 35 (.tmp 3) rfl _ _ rfl (A.toList) _ r3 u25 rfl iA ?_)
 go_at_call 131
 refine (HK.out.1 _).mono ?_
 rintro r' w5 ⟨rfl, hc5⟩
 obtain ⟨sR, lR, oR⟩ := HSz.out.1
 have Z5 : Hid (Chg w w5 ∧ Ar w5 w.heap.size A ∧ Ar w5 (w.heap.size + 1) (num 0) ∧ Ar w5 (w.heap.size + 1 + 1) (num 0)) := ⟨Z.out.1.trans hc5, Z.out.2.1.chg hc5, Z.out.2.2.1.chg hc5, Z.out.2.2.2.chg hc5⟩
 obtain ⟨t6, g6⟩ := Z5.out.2.2.2
 clear hc5 Z r3 iA
 go_upto_region 8 with (first | refine wpList_store_row rfl 35 _ _ rfl _ _ rfl rfl _ _ g6 sR lR oR ?_)
 obtain ⟨w6, hw6⟩ : ∃ w4, w4 = w5.setRow (w.heap.size + 1 + 1) R := ⟨_, rfl⟩
 have Z6 : Hid (R2 w w6 A R) := by
  obtain ⟨q0, q1, q2, q3⟩ := Z5.out
  rw [hw6]
  exact ⟨q0.setRow (by omega) _, q1.rowOther (by omega) _, q2.rowOther (by omega) _, q3.row _⟩
 rw [← hw6]
 clear hw6 Z5 g6 sR lR oR
 obtain ⟨bb, hbb⟩ : ∃ bb, decide (rr = aa) = bb := ⟨_, rfl⟩
 have HB : Hid (decide (rr = aa) = bb) := hbb
 clear hbb
 try dsimp only [Act.put]
 go_cut [24] from 17 to 24 (fun v wc => v = .bool (!bb) ∧ Chg w6 wc)
 case first =>
  refine wp_region_good 7 (fun j v wg => match j with
   | 0 => v = .int .i64 1
   | 1 => v = .agg R
   | 2 => v = .agg R
   | 3 => v = .agg (num rr)
   | 4 => v = .int .i64 1
   | 5 => v = .agg A
   | 6 => v = .agg (num aa)
   | _ => True) (by kernel_rfl) (by kernel_rfl) (by kernel_rfl) (by kernel_rfl) (by kernel_rfl) ?_ ?_ ?_
  ·intro j v u1 u2 h hc
   match j, h with
   | 0, h => exact h
   | 1, h => exact h
   | 2, h => exact h
   | 3, h => exact h
   | 4, h => exact h
   | 5, h => exact h
   | 6, h => exact h
   | _ + 7, h => exact trivial
  ·intro i o ac u hi ho hsz hf hg hc
   have hcs : i = 0 ∨ i = 1 ∨ i = 2 ∨ i = 3 ∨ i = 4 ∨ i = 5 ∨ i = 6 := by omega
   rcases hcs with rfl | rfl | rfl | rfl | rfl | rfl | rfl
   ·injection ho with ho
    subst ho
    refine .inl ⟨wanted_none rfl, ?_⟩
    have e1 : ac.eval (.tmp 0) = .int .i64 1 := hf 0 (by kernel_rfl)
    exact opG_val (by simp [execOp, e1]) rfl (Chg.refl _)
   ·injection ho with ho
    subst ho
    refine .inl ⟨wanted_none rfl, ?_⟩
    have e1 : ac.eval (.tmp 6) = .pointer (some ⟨w.heap.size + 1 + 1, 0, none⟩) := hf 6 (by kernel_rfl)
    exact wp_load_mid 35 (.tmp 6) rfl _ _ e1 (R.toList) _ (rangeA (Ar.chg (w := w6.drew) Z6.out.r3 hc)) undNum rfl (HI.out.2.1) ⟨_, rfl, rfl, Chg.refl _⟩
   ·injection ho with ho
    subst ho
    refine .inl ⟨wanted_none rfl, ?_⟩
    have e1 : ac.eval (.tmp 6) = .pointer (some ⟨w.heap.size + 1 + 1, 0, none⟩) := hf 6 (by kernel_rfl)
    exact wp_load_mid 35 (.tmp 6) rfl _ _ e1 (R.toList) _ (rangeA (Ar.chg (w := w6.drew) Z6.out.r3 hc)) undNum rfl (HI.out.2.1) ⟨_, rfl, rfl, Chg.refl _⟩
   ·injection ho with ho
    subst ho
    refine .inl ⟨wanted_none rfl, ?_⟩
    have e1 : ac.eval (.tmp 17) = .int .i64 1 := hg 0 (by kernel_rfl) (by decide)
    have e2 : ac.eval (.tmp 18) = .agg R := hg 1 (by kernel_rfl) (by decide)
    have e3 : ac.eval (.tmp 19) = .agg R := hg 2 (by kernel_rfl) (by decide)
    refine opG_go 26 Tryz.f26 #[.tmp 17, .tmp 18, .tmp 19] #[53, 35, 35] rfl Tryz.func26 (by kernel_rfl) (by kernel_rfl) (by simp [e1, e2, e3]) (Calls.mono (HK.out.2.1 _) ?_)
    rintro e u2 ⟨rfl, hc2⟩
    exact ⟨_, rfl, rfl, hc2⟩
   ·injection ho with ho
    subst ho
    refine .inl ⟨wanted_none rfl, ?_⟩
    have e1 : ac.eval (.tmp 0) = .int .i64 1 := hf 0 (by kernel_rfl)
    exact opG_val (by simp [execOp, e1]) rfl (Chg.refl _)
   ·injection ho with ho
    subst ho
    refine .inl ⟨wanted_none rfl, ?_⟩
    have e1 : ac.eval (.tmp 3) = .pointer (some ⟨w.heap.size, 0, none⟩) := hf 3 (by kernel_rfl)
    exact wp_load_mid 35 (.tmp 3) rfl _ _ e1 (A.toList) _ (rangeA (Ar.chg (w := w6.drew) Z6.out.r1 hc)) undNum rfl (HI.out.1) ⟨_, rfl, rfl, Chg.refl _⟩
   ·injection ho with ho
    subst ho
    refine .inl ⟨wanted_none rfl, ?_⟩
    have e1 : ac.eval (.tmp 21) = .int .i64 1 := hg 4 (by kernel_rfl) (by decide)
    have e2 : ac.eval (.tmp 22) = .agg A := hg 5 (by kernel_rfl) (by decide)
    refine opG_go 60 Tryz.f60 #[.tmp 21, .tmp 22] #[53, 35] rfl Tryz.func60 (by kernel_rfl) (by kernel_rfl) (by simp [e1, e2]) (Calls.mono (HK.out.2.2.1 _) ?_)
    rintro e u2 ⟨rfl, hc2⟩
    exact ⟨_, rfl, rfl, hc2⟩
  ·intro o u V ho hV hc
   injection ho with ho
   subst ho
   refine ⟨rfl, ?_⟩
   have q17 : V 0 = .int .i64 1 := hV 0 (by decide)
   have q18 : V 1 = .agg R := hV 1 (by decide)
   have q19 : V 2 = .agg R := hV 2 (by decide)
   have q20 : V 3 = .agg (num rr) := hV 3 (by decide)
   have q21 : V 4 = .int .i64 1 := hV 4 (by decide)
   have q22 : V 5 = .agg A := hV 5 (by decide)
   have q23 : V 6 = .agg (num aa) := hV 6 (by decide)
   refine op_neqNum (.tmp 20) (.tmp 23) rr aa bb rfl HNs.out.1 HNs.out.2 (Eq.trans (by rfl) q20) (Eq.trans (by rfl) q23) HB.out ?_
   go_wp2_with fail
   go_meet
   exact ⟨rfl, (Chg.refl w6).drew.trans hc⟩
 obtain ⟨rfl, c6⟩ := hcut
 obtain ⟨w7, hw7⟩ : ∃ w7, w7 = wc := ⟨_, rfl⟩
 have Z7 : Hid (R2 w w7 A R) := by rw [hw7]; exact Z6.out.to c6
 rw [← hw7]
 clear hw7 c6 Z6
 cases bb with
 | false =>
  obtain ⟨sZ, lZ, oZ⟩ := HZ.out
  obtain ⟨t, g⟩ := Z7.out.r2
  go_wp2_with (first
   | refine wpList_store_row rfl 35 _ _ rfl _ _ rfl rfl _ _ g (szN 0) rfl (num_one 0) ?_)
  have e : rootN 1 a m = 0 := by rw [HM.out, if_neg (of_decide_eq_false HB.out)]
  refine bp_ct (n := 4) (c := num 0) (x := .bool false) Tryz.results103 rfl rfl rfl (Z7.out.r2.row _) undNum i25 (num_size 0) ⟨by rw [HB.out, e], Z7.out.chg.setRow (by omega) _⟩
 | true =>
  have r6 := rangeA Z7.out.r3
  obtain ⟨-, iR, -⟩ := HI.out
  go_wp2_with (first
   | refine wpList_load_mid rfl 35 (.tmp 6) rfl _ _ rfl (R.toList) _ r6 undNum rfl iR ?_)
  go_at_call 112
  refine (HK.out.2.2.2.1 _).mono ?_
  rintro r' w8 ⟨rfl, hc8⟩
  have Z8 : Hid (R2 w w8 A R) := Z7.out.to hc8
  clear hc8 Z7 r6
  cases cb with
  | false =>
   have r6 := rangeA Z8.out.r3
   obtain ⟨sR, lR, oR⟩ := HSz.out.1
   obtain ⟨t, g⟩ := Z8.out.r2
   go_wp2_with (first
    | refine wpList_load_mid rfl 35 (.tmp 6) rfl _ _ rfl (R.toList) _ r6 undNum rfl iR ?_
    | refine wpList_store_row rfl 35 _ _ rfl _ _ rfl rfl _ _ g sR lR oR ?_)
   have e1 : ¬ dg 2 m 0 = 1 := by have := HE.out.2.2; simpa using this.symm
   have e : R = num (rootN 1 a m) := by rw [HM.out, if_pos (of_decide_eq_true HB.out), if_neg e1]; exact HE.out.1
   refine bp_ct (n := 4) (c := R) (x := .bool true) Tryz.results103 rfl rfl rfl (Z8.out.r2.row _) undNum i25 (by rw [e]; exact num_size _) ⟨by rw [HB.out, ← e], Z8.out.chg.setRow (by omega) _⟩
  | true =>
   have r6 := rangeA Z8.out.r3
   go_wp2_with (first
    | refine wpList_load_mid rfl 35 (.tmp 6) rfl _ _ rfl (R.toList) _ r6 undNum rfl iR ?_)
   go_at_call 72
   refine (HK.out.2.2.2.2 _).mono ?_
   rintro r' w9 ⟨rfl, hc9⟩
   have Z9 : Hid (R2 w w9 A R) := Z8.out.to hc9
   clear hc9 Z8 r6 iR
   obtain ⟨sX, ⟨lX, lX2⟩, oX⟩ := HSz.out.2
   obtain ⟨t6, g6⟩ := Z9.out.r3
   go_upto_region 12 with (first | refine wpList_store_row rfl 35 _ _ rfl _ _ rfl rfl _ _ g6 sX lX2 oX ?_)
   obtain ⟨w10, hw10⟩ : ∃ w4, w4 = w9.setRow (w.heap.size + 1 + 1) X := ⟨_, rfl⟩
   have Z10 : Hid (R2 w w10 A X) := by
    obtain ⟨q0, q1, q2, q3⟩ := Z9.out
    rw [hw10]
    exact ⟨q0.setRow (by omega) _, q1.rowOther (by omega) _, q2.rowOther (by omega) _, q3.row _⟩
   rw [← hw10]
   clear hw10 Z9 g6
   have r6 := rangeA Z10.out.r3
   obtain ⟨-, -, iX⟩ := HI.out
   obtain ⟨t, g⟩ := Z10.out.r2
   go_wp2_with (first
    | refine wpList_load_mid rfl 35 (.tmp 6) rfl _ _ rfl (X.toList) _ r6 undNum rfl iX ?_
    | refine wpList_store_row rfl 35 _ _ rfl _ _ rfl rfl _ _ g sX lX oX ?_)
   have e1 : dg 2 m 0 = 1 := by have := HE.out.2.2; simpa using this.symm
   have e : X = num (rootN 1 a m) := by rw [HM.out, if_pos (of_decide_eq_true HB.out), if_pos e1]; exact HE.out.2.1
   refine bp_ct (n := 4) (c := X) (x := .bool true) Tryz.results103 rfl rfl rfl (Z10.out.r2.row _) undNum i25 (by rw [e]; exact num_size _) ⟨by rw [HB.out, ← e], Z10.out.chg.setRow (by omega) _⟩
set_option maxHeartbeats 8000000 in
theorem root2_any (a : Int) (ha : N256 a) (w : World) : Calls Tryz.prog 103 #[.int .i64 2, .agg (num a)] w fun r w' => r = .returned (.tuple #[.agg (num (rootN 2 a (a ^ e256.toNat % mo 2))), .bool (decide ((a ^ e256.toNat % mo 2) * (a ^ e256.toNat % mo 2) % mo 2 = a % mo 2))]) ∧ Chg w w' := by
 have hz := zero25.1
 have hsA := num_size a
 have k0 := fun W => maybe2_any a ha W
 have hmN : N256 (a ^ e256.toNat % mo 2) := N_mod (.inr (.inl rfl)) _
 obtain ⟨m, hm⟩ : ∃ m, m = a ^ e256.toNat % mo 2 := ⟨_, rfl⟩
 rw [← hm] at k0 hmN ⊢
 clear hm
 obtain ⟨rr, hrr⟩ : ∃ rr, rr = m * m % mo 2 := ⟨_, rfl⟩
 obtain ⟨aa, haa⟩ : ∃ aa, aa = a % mo 2 := ⟨_, rfl⟩
 have HM : Hid (rootN 2 a m = if rr = aa then (if dg 2 m 0 = 1 then (0 - m) % mo 2 else m) else 0) := by
  show rootN 2 a m = _
  rw [hrr, haa]
  rfl
 have HNs : Hid (N256 rr ∧ N256 aa) := ⟨by rw [hrr]; exact N_mod (.inr (.inl rfl)) _, by rw [haa]; exact N_mod (.inr (.inl rfl)) _⟩
 have k2 := fun W => mul_any 2 m m (.inr (.inl rfl)) hmN hmN W
 have k3 := fun W => rest_any 2 a (.inr (.inl rfl)) ha W
 have k4 := fun W => bit_any m 0 (by decide) W
 have k5 := fun W => neg_any 2 m (.inr (.inl rfl)) hmN W
 rw [← hrr] at k2 ⊢
 rw [← haa] at k3 ⊢
 obtain ⟨A, hA⟩ : ∃ A, A = num a := ⟨_, rfl⟩
 obtain ⟨R, hR⟩ : ∃ R, R = num m := ⟨_, rfl⟩
 obtain ⟨X, hX⟩ : ∃ X, X = num ((0 - m) % mo 2) := ⟨_, rfl⟩
 obtain ⟨cb, hcb⟩ : ∃ cb, cb = (dg 2 m 0 == 1) := ⟨_, rfl⟩
 have HE : Hid (R = num m ∧ X = num ((0 - m) % mo 2) ∧ cb = (dg 2 m 0 == 1)) := ⟨hR, hX, hcb⟩
 have HSz : Hid (((Tryz.prog.info? 35).map (·.size) = some R.size ∧ (num 0).size = R.size ∧ R.all (·.oneCell') = true) ∧ (Tryz.prog.info? 35).map (·.size) = some X.size ∧ ((num 0).size = X.size ∧ R.size = X.size) ∧ X.all (·.oneCell') = true) := by
  rw [hR, hX]
  exact ⟨⟨szN _, lenN _ _, num_one _⟩, szN _, ⟨lenN _ _, lenN _ _⟩, num_one _⟩
 have HI : Hid ((Tryz.prog.info? 35).map (·.size) = some A.toList.length ∧ (Tryz.prog.info? 35).map (·.size) = some R.toList.length ∧ (Tryz.prog.info? 35).map (·.size) = some X.toList.length) := by
  rw [hA, hR, hX]
  exact ⟨infoN _, infoN _, infoN _⟩
 have HZ : Hid ((Tryz.prog.info? 35).map (·.size) = some (num 0).size ∧ (num 0).size = (num 0).size ∧ (num 0).all (·.oneCell') = true) := ⟨szN _, rfl, num_one _⟩
 rw [← hA] at hsA k0 k3 ⊢
 rw [← hR] at k0 k2 k4 k5
 rw [← hX] at k5
 rw [← hcb] at k4
 have HK : Hid ((∀ W, Calls Tryz.prog 132 #[.agg A] W fun r w' => r = .returned (.agg R) ∧ Chg W w') ∧ (∀ W, Calls Tryz.prog 26 #[.int .i64 2, .agg R, .agg R] W fun r w' => r = .returned (.agg (num rr)) ∧ Chg W w') ∧ (∀ W, Calls Tryz.prog 60 #[.int .i64 2, .agg A] W fun r w' => r = .returned (.agg (num aa)) ∧ Chg W w') ∧ (∀ W, Calls Tryz.prog 112 #[.agg R, .int .i64 0] W fun r w' => r = .returned (.bool cb) ∧ Chg W w') ∧ (∀ W, Calls Tryz.prog 72 #[.int .i64 2, .agg R] W fun r w' => r = .returned (.agg X) ∧ Chg W w')) := ⟨k0, k2, k3, k4, k5⟩
 clear hA hR hX hcb k0 k2 k3 k4 k5 ha hmN hrr haa
 go_enter Tryz.func103, Tryz.ntmps103
 go_upto_region 2 with fail
 obtain ⟨w1, hw1⟩ : ∃ w1, w1 = ((w.alloc (.cells A 35)).alloc (.cells (num 0) 35)).alloc (.cells (num 0) 35) := ⟨_, rfl⟩
 have Z : Hid (Chg w w1 ∧ Ar w1 w.heap.size A ∧ Ar w1 (w.heap.size + 1) (num 0) ∧ Ar w1 (w.heap.size + 1 + 1) (num 0)) := by
  rw [hw1]
  exact ⟨(((Chg.refl w).alloc _).alloc _).alloc _, ((Ar.new w _ _).alloc _).alloc _, (Ar.new1 w _ _ _).alloc _, Ar.new2 w _ _ _ _⟩
 rw [← hw1]
 clear hw1 hsA
 obtain ⟨iA, -, -⟩ := HI.out
 have r3 := rangeA Z.out.2.1
 go_wp2_with (first
  | refine wpList_load_mid rfl 35 (.tmp 3) rfl _ _ rfl (A.toList) _ r3 u25 rfl iA ?_)
 go_at_call 132
 refine (HK.out.1 _).mono ?_
 rintro r' w5 ⟨rfl, hc5⟩
 obtain ⟨sR, lR, oR⟩ := HSz.out.1
 have Z5 : Hid (Chg w w5 ∧ Ar w5 w.heap.size A ∧ Ar w5 (w.heap.size + 1) (num 0) ∧ Ar w5 (w.heap.size + 1 + 1) (num 0)) := ⟨Z.out.1.trans hc5, Z.out.2.1.chg hc5, Z.out.2.2.1.chg hc5, Z.out.2.2.2.chg hc5⟩
 obtain ⟨t6, g6⟩ := Z5.out.2.2.2
 clear hc5 Z r3 iA
 go_upto_region 8 with (first | refine wpList_store_row rfl 35 _ _ rfl _ _ rfl rfl _ _ g6 sR lR oR ?_)
 obtain ⟨w6, hw6⟩ : ∃ w4, w4 = w5.setRow (w.heap.size + 1 + 1) R := ⟨_, rfl⟩
 have Z6 : Hid (R2 w w6 A R) := by
  obtain ⟨q0, q1, q2, q3⟩ := Z5.out
  rw [hw6]
  exact ⟨q0.setRow (by omega) _, q1.rowOther (by omega) _, q2.rowOther (by omega) _, q3.row _⟩
 rw [← hw6]
 clear hw6 Z5 g6 sR lR oR
 obtain ⟨bb, hbb⟩ : ∃ bb, decide (rr = aa) = bb := ⟨_, rfl⟩
 have HB : Hid (decide (rr = aa) = bb) := hbb
 clear hbb
 try dsimp only [Act.put]
 go_cut [24] from 17 to 24 (fun v wc => v = .bool (!bb) ∧ Chg w6 wc)
 case first =>
  refine wp_region_good 7 (fun j v wg => match j with
   | 0 => v = .int .i64 2
   | 1 => v = .agg R
   | 2 => v = .agg R
   | 3 => v = .agg (num rr)
   | 4 => v = .int .i64 2
   | 5 => v = .agg A
   | 6 => v = .agg (num aa)
   | _ => True) (by kernel_rfl) (by kernel_rfl) (by kernel_rfl) (by kernel_rfl) (by kernel_rfl) ?_ ?_ ?_
  ·intro j v u1 u2 h hc
   match j, h with
   | 0, h => exact h
   | 1, h => exact h
   | 2, h => exact h
   | 3, h => exact h
   | 4, h => exact h
   | 5, h => exact h
   | 6, h => exact h
   | _ + 7, h => exact trivial
  ·intro i o ac u hi ho hsz hf hg hc
   have hcs : i = 0 ∨ i = 1 ∨ i = 2 ∨ i = 3 ∨ i = 4 ∨ i = 5 ∨ i = 6 := by omega
   rcases hcs with rfl | rfl | rfl | rfl | rfl | rfl | rfl
   ·injection ho with ho
    subst ho
    refine .inl ⟨wanted_none rfl, ?_⟩
    have e1 : ac.eval (.tmp 0) = .int .i64 2 := hf 0 (by kernel_rfl)
    exact opG_val (by simp [execOp, e1]) rfl (Chg.refl _)
   ·injection ho with ho
    subst ho
    refine .inl ⟨wanted_none rfl, ?_⟩
    have e1 : ac.eval (.tmp 6) = .pointer (some ⟨w.heap.size + 1 + 1, 0, none⟩) := hf 6 (by kernel_rfl)
    exact wp_load_mid 35 (.tmp 6) rfl _ _ e1 (R.toList) _ (rangeA (Ar.chg (w := w6.drew) Z6.out.r3 hc)) undNum rfl (HI.out.2.1) ⟨_, rfl, rfl, Chg.refl _⟩
   ·injection ho with ho
    subst ho
    refine .inl ⟨wanted_none rfl, ?_⟩
    have e1 : ac.eval (.tmp 6) = .pointer (some ⟨w.heap.size + 1 + 1, 0, none⟩) := hf 6 (by kernel_rfl)
    exact wp_load_mid 35 (.tmp 6) rfl _ _ e1 (R.toList) _ (rangeA (Ar.chg (w := w6.drew) Z6.out.r3 hc)) undNum rfl (HI.out.2.1) ⟨_, rfl, rfl, Chg.refl _⟩
   ·injection ho with ho
    subst ho
    refine .inl ⟨wanted_none rfl, ?_⟩
    have e1 : ac.eval (.tmp 17) = .int .i64 2 := hg 0 (by kernel_rfl) (by decide)
    have e2 : ac.eval (.tmp 18) = .agg R := hg 1 (by kernel_rfl) (by decide)
    have e3 : ac.eval (.tmp 19) = .agg R := hg 2 (by kernel_rfl) (by decide)
    refine opG_go 26 Tryz.f26 #[.tmp 17, .tmp 18, .tmp 19] #[53, 35, 35] rfl Tryz.func26 (by kernel_rfl) (by kernel_rfl) (by simp [e1, e2, e3]) (Calls.mono (HK.out.2.1 _) ?_)
    rintro e u2 ⟨rfl, hc2⟩
    exact ⟨_, rfl, rfl, hc2⟩
   ·injection ho with ho
    subst ho
    refine .inl ⟨wanted_none rfl, ?_⟩
    have e1 : ac.eval (.tmp 0) = .int .i64 2 := hf 0 (by kernel_rfl)
    exact opG_val (by simp [execOp, e1]) rfl (Chg.refl _)
   ·injection ho with ho
    subst ho
    refine .inl ⟨wanted_none rfl, ?_⟩
    have e1 : ac.eval (.tmp 3) = .pointer (some ⟨w.heap.size, 0, none⟩) := hf 3 (by kernel_rfl)
    exact wp_load_mid 35 (.tmp 3) rfl _ _ e1 (A.toList) _ (rangeA (Ar.chg (w := w6.drew) Z6.out.r1 hc)) undNum rfl (HI.out.1) ⟨_, rfl, rfl, Chg.refl _⟩
   ·injection ho with ho
    subst ho
    refine .inl ⟨wanted_none rfl, ?_⟩
    have e1 : ac.eval (.tmp 21) = .int .i64 2 := hg 4 (by kernel_rfl) (by decide)
    have e2 : ac.eval (.tmp 22) = .agg A := hg 5 (by kernel_rfl) (by decide)
    refine opG_go 60 Tryz.f60 #[.tmp 21, .tmp 22] #[53, 35] rfl Tryz.func60 (by kernel_rfl) (by kernel_rfl) (by simp [e1, e2]) (Calls.mono (HK.out.2.2.1 _) ?_)
    rintro e u2 ⟨rfl, hc2⟩
    exact ⟨_, rfl, rfl, hc2⟩
  ·intro o u V ho hV hc
   injection ho with ho
   subst ho
   refine ⟨rfl, ?_⟩
   have q17 : V 0 = .int .i64 2 := hV 0 (by decide)
   have q18 : V 1 = .agg R := hV 1 (by decide)
   have q19 : V 2 = .agg R := hV 2 (by decide)
   have q20 : V 3 = .agg (num rr) := hV 3 (by decide)
   have q21 : V 4 = .int .i64 2 := hV 4 (by decide)
   have q22 : V 5 = .agg A := hV 5 (by decide)
   have q23 : V 6 = .agg (num aa) := hV 6 (by decide)
   refine op_neqNum (.tmp 20) (.tmp 23) rr aa bb rfl HNs.out.1 HNs.out.2 (Eq.trans (by rfl) q20) (Eq.trans (by rfl) q23) HB.out ?_
   go_wp2_with fail
   go_meet
   exact ⟨rfl, (Chg.refl w6).drew.trans hc⟩
 obtain ⟨rfl, c6⟩ := hcut
 obtain ⟨w7, hw7⟩ : ∃ w7, w7 = wc := ⟨_, rfl⟩
 have Z7 : Hid (R2 w w7 A R) := by rw [hw7]; exact Z6.out.to c6
 rw [← hw7]
 clear hw7 c6 Z6
 cases bb with
 | false =>
  obtain ⟨sZ, lZ, oZ⟩ := HZ.out
  obtain ⟨t, g⟩ := Z7.out.r2
  go_wp2_with (first
   | refine wpList_store_row rfl 35 _ _ rfl _ _ rfl rfl _ _ g (szN 0) rfl (num_one 0) ?_)
  have e : rootN 2 a m = 0 := by rw [HM.out, if_neg (of_decide_eq_false HB.out)]
  refine bp_ct (n := 4) (c := num 0) (x := .bool false) Tryz.results103 rfl rfl rfl (Z7.out.r2.row _) undNum i25 (num_size 0) ⟨by rw [HB.out, e], Z7.out.chg.setRow (by omega) _⟩
 | true =>
  have r6 := rangeA Z7.out.r3
  obtain ⟨-, iR, -⟩ := HI.out
  go_wp2_with (first
   | refine wpList_load_mid rfl 35 (.tmp 6) rfl _ _ rfl (R.toList) _ r6 undNum rfl iR ?_)
  go_at_call 112
  refine (HK.out.2.2.2.1 _).mono ?_
  rintro r' w8 ⟨rfl, hc8⟩
  have Z8 : Hid (R2 w w8 A R) := Z7.out.to hc8
  clear hc8 Z7 r6
  cases cb with
  | false =>
   have r6 := rangeA Z8.out.r3
   obtain ⟨sR, lR, oR⟩ := HSz.out.1
   obtain ⟨t, g⟩ := Z8.out.r2
   go_wp2_with (first
    | refine wpList_load_mid rfl 35 (.tmp 6) rfl _ _ rfl (R.toList) _ r6 undNum rfl iR ?_
    | refine wpList_store_row rfl 35 _ _ rfl _ _ rfl rfl _ _ g sR lR oR ?_)
   have e1 : ¬ dg 2 m 0 = 1 := by have := HE.out.2.2; simpa using this.symm
   have e : R = num (rootN 2 a m) := by rw [HM.out, if_pos (of_decide_eq_true HB.out), if_neg e1]; exact HE.out.1
   refine bp_ct (n := 4) (c := R) (x := .bool true) Tryz.results103 rfl rfl rfl (Z8.out.r2.row _) undNum i25 (by rw [e]; exact num_size _) ⟨by rw [HB.out, ← e], Z8.out.chg.setRow (by omega) _⟩
  | true =>
   have r6 := rangeA Z8.out.r3
   go_wp2_with (first
    | refine wpList_load_mid rfl 35 (.tmp 6) rfl _ _ rfl (R.toList) _ r6 undNum rfl iR ?_)
   go_at_call 72
   refine (HK.out.2.2.2.2 _).mono ?_
   rintro r' w9 ⟨rfl, hc9⟩
   have Z9 : Hid (R2 w w9 A R) := Z8.out.to hc9
   clear hc9 Z8 r6 iR
   obtain ⟨sX, ⟨lX, lX2⟩, oX⟩ := HSz.out.2
   obtain ⟨t6, g6⟩ := Z9.out.r3
   go_upto_region 12 with (first | refine wpList_store_row rfl 35 _ _ rfl _ _ rfl rfl _ _ g6 sX lX2 oX ?_)
   obtain ⟨w10, hw10⟩ : ∃ w4, w4 = w9.setRow (w.heap.size + 1 + 1) X := ⟨_, rfl⟩
   have Z10 : Hid (R2 w w10 A X) := by
    obtain ⟨q0, q1, q2, q3⟩ := Z9.out
    rw [hw10]
    exact ⟨q0.setRow (by omega) _, q1.rowOther (by omega) _, q2.rowOther (by omega) _, q3.row _⟩
   rw [← hw10]
   clear hw10 Z9 g6
   have r6 := rangeA Z10.out.r3
   obtain ⟨-, -, iX⟩ := HI.out
   obtain ⟨t, g⟩ := Z10.out.r2
   go_wp2_with (first
    | refine wpList_load_mid rfl 35 (.tmp 6) rfl _ _ rfl (X.toList) _ r6 undNum rfl iX ?_
    | refine wpList_store_row rfl 35 _ _ rfl _ _ rfl rfl _ _ g sX lX oX ?_)
   have e1 : dg 2 m 0 = 1 := by have := HE.out.2.2; simpa using this.symm
   have e : X = num (rootN 2 a m) := by rw [HM.out, if_pos (of_decide_eq_true HB.out), if_pos e1]; exact HE.out.2.1
   refine bp_ct (n := 4) (c := X) (x := .bool true) Tryz.results103 rfl rfl rfl (Z10.out.r2.row _) undNum i25 (by rw [e]; exact num_size _) ⟨by rw [HB.out, ← e], Z10.out.chg.setRow (by omega) _⟩
structure RR (w wr : World) (b6 b7 b8 : Nat) (A M R S : Array Value) : Prop where
 chg : Chg w wr
 r1 : Ar wr w.heap.size A
 r2 : Ar wr (w.heap.size + 1) (num 0)
 r6 : Ar wr b6 M
 r7 : Ar wr b7 R
 r8 : Ar wr b8 S
 l6 : w.heap.size + 1 < b6
 l7 : b6 < b7
 l8 : b7 < b8
theorem RR.to {w wr u : World} {b6 b7 b8 : Nat} {A M R S : Array Value} (h : RR w wr b6 b7 b8 A M R S) (k : Chg wr u) : RR w u b6 b7 b8 A M R S := ⟨h.chg.trans k, h.r1.chg k, h.r2.chg k, h.r6.chg k, h.r7.chg k, h.r8.chg k, h.l6, h.l7, h.l8⟩
theorem RR.put7 {w wr : World} {b6 b7 b8 : Nat} {A M R S : Array Value} (h : RR w wr b6 b7 b8 A M R S) (Q : Array Value) : RR w (wr.setRow b7 Q) b6 b7 b8 A M Q S := by
 obtain ⟨q0, q1, q2, q3, q4, q5, l6, l7, l8⟩ := h
 exact ⟨q0.setRow (by omega) _, q1.rowOther (by omega) _, q2.rowOther (by omega) _, q3.rowOther (by omega) _, q4.row _, q5.rowOther (by omega) _, l6, l7, l8⟩
theorem RR.new {w wr : World} {b6 b7 b8 : Nat} {A M R S : Array Value} (h : RR w wr b6 b7 b8 A M R S) (X Y : Array Value) (t : TypeId) : RR w ((wr.alloc (.cells X t)).setRow wr.heap.size Y) b6 b7 b8 A M R S ∧ Ar ((wr.alloc (.cells X t)).setRow wr.heap.size Y) wr.heap.size Y := by
 have k : Chg wr ((wr.alloc (.cells X t)).setRow wr.heap.size Y) := ((Chg.refl wr).alloc _).setRow (Nat.le_refl _) _
 exact ⟨h.to k, (Ar.new wr _ _).row _⟩
theorem low_bit (m : Int) : bits .and .u64 (dg B64 m 0) 1 = dg 2 m 0 := by
 rw [low1 (dg_w m 0)]
 have := dg_bit m 0 0 (by decide)
 rw [Int.pow_zero, Int.ediv_one] at this
 exact this
theorem half_e256 : (mo 2 + 1) % R256 / 2 / 2 = e256 := by decide +kernel
theorem half_e255 : (mo 1 + 3) % R256 / 2 / 2 / 2 = e255 := by decide +kernel
theorem num_set3 : (num 0).setIfInBounds 0 (.int .u64 3) = num 3 := by kernel_rfl
theorem N3 : N256 3 := ⟨by decide, by decide⟩
theorem N_half {x : Int} (h : N256 x) : N256 (x / 2) := by
 obtain ⟨h0, h1⟩ := h
 exact ⟨by omega, by omega⟩
theorem cast_pow2 (n p q : Nat) (h : q = 2 ^ n % p) : (2 : Int) ^ n % (p : Int) = (q : Int) := by
 rw [h]
 push_cast
 rfl
theorem i255_pow : md 1 (2 ^ ((mo 1 - 1) % R256 / 2 / 2).toNat) = i255 := by
 rw [md_in (.inl rfl)]
 have e1 : ((mo 1 - 1) % R256 / 2 / 2).toNat = (m25519 - 1) / 4 := by decide +kernel
 have e2 : mo 1 = ((m25519 : Nat) : Int) := by decide +kernel
 have e3 : i255 = ((i25519 : Nat) : Int) := by decide +kernel
 rw [e1, e2, e3]
 exact cast_pow2 _ _ _ i25519_pow
set_option maxHeartbeats 16000000 in
theorem rootR2_any (a : Int) (ha : N256 a) (w : World) : Calls Tryz.prog 86 #[.int .i64 2, .agg (num a)] w fun r w' => r = .returned (.tuple #[.agg (num (rootN 2 a (a ^ e256.toNat % mo 2))), .bool (decide ((a ^ e256.toNat % mo 2) * (a ^ e256.toNat % mo 2) % mo 2 = a % mo 2))]) ∧ Chg w w' := by
 have hmN : N256 (a ^ e256.toNat % mo 2) := N_mod (.inr (.inl rfl)) _
 obtain ⟨m, hm⟩ : ∃ m, m = a ^ e256.toNat % mo 2 := ⟨_, rfl⟩
 rw [← hm] at hmN ⊢
 have hz := zero25.1
 have hsA := num_size a
 obtain ⟨rr, hrr⟩ : ∃ rr, rr = m * m % mo 2 := ⟨_, rfl⟩
 obtain ⟨aa, haa⟩ : ∃ aa, aa = a % mo 2 := ⟨_, rfl⟩
 have HM : Hid (rootN 2 a m = if rr = aa then (if dg 2 m 0 = 1 then (0 - m) % mo 2 else m) else 0) := by
  show rootN 2 a m = _
  rw [hrr, haa]
  rfl
 have hrN : N256 rr := by rw [hrr]; exact N_mod (.inr (.inl rfl)) _
 have haN : N256 aa := by rw [haa]; exact N_mod (.inr (.inl rfl)) _
 obtain ⟨A, hA⟩ : ∃ A, A = num a := ⟨_, rfl⟩
 obtain ⟨M, hMo⟩ : ∃ A, A = num (mo 2) := ⟨_, rfl⟩
 obtain ⟨S, hS⟩ : ∃ A, A = num aa := ⟨_, rfl⟩
 obtain ⟨RM, hR⟩ : ∃ A, A = num m := ⟨_, rfl⟩
 obtain ⟨QQ, hQ⟩ : ∃ A, A = num rr := ⟨_, rfl⟩
 obtain ⟨X, hX⟩ : ∃ A, A = num ((0 - m) % mo 2) := ⟨_, rfl⟩
 obtain ⟨bb, hbb⟩ : ∃ b, decide (rr = aa) = b := ⟨_, rfl⟩
 have HB : Hid (decide (rr = aa) = bb) := hbb
 have HR : Hid (RM = num m) := hR
 have HX : Hid (X = num ((0 - m) % mo 2)) := hX
 have HEQ : Hid (∀ u, (Op.equalIn 10000 35 (.agg QQ) (.agg S)).run Tryz.prog u = .ok bb u) := fun u => by rw [hQ, hS, run_eqNum hrN haN, hbb]
 have HT : Hid ((∀ W, Calls Tryz.prog 32 #[.int .i64 2, .agg RM, .agg RM] W fun r w' => r = .returned (.agg QQ) ∧ Chg W w') ∧ (∀ W, Calls Tryz.prog 118 #[.int .i64 2, .agg RM] W fun r w' => r = .returned (.agg X) ∧ Chg W w')) := by
  rw [hR, hQ, hX, hrr, ← md_in (.inr (.inl rfl)), ← md_in (.inr (.inl rfl))]
  exact ⟨fun W => mulR_any 2 m m hmN hmN W, fun W => negR_any 2 m hmN W⟩
 have HMu : Hid (∀ W, Calls Tryz.prog 32 #[.int .i64 2, .agg A, .agg (num 1)] W fun r w' => r = .returned (.agg S) ∧ Chg W w') := fun W => by
  have h := mulR_any 2 a 1 ha N1 W
  rw [Int.mul_one, md_in (.inr (.inl rfl)), ← haa] at h
  rw [hA, hS]
  exact h
 have HMo : Hid (∀ W, Calls Tryz.prog 42 #[.int .i64 2] W fun r w' => r = .returned (.agg M) ∧ Chg W w') := fun W => by rw [hMo]; exact modulusR_any 2 W
 have HSQ : Hid ((Tryz.prog.info? 35).map (·.size) = some QQ.size ∧ (num 0).size = QQ.size ∧ QQ.all (·.oneCell') = true ∧ (Tryz.prog.info? 35).map (·.size) = some QQ.toList.length) := by rw [hQ]; exact ⟨szN _, lenN _ _, num_one _, infoN _⟩
 have HSX : Hid ((Tryz.prog.info? 35).map (·.size) = some X.size ∧ RM.size = X.size ∧ (num 0).size = X.size ∧ X.all (·.oneCell') = true ∧ (Tryz.prog.info? 35).map (·.size) = some X.toList.length) := by rw [hX, hR]; exact ⟨szN _, lenN _ _, lenN _ _, num_one _, infoN _⟩
 have HSR : Hid ((Tryz.prog.info? 35).map (·.size) = some RM.size ∧ (num 0).size = RM.size ∧ RM.all (·.oneCell') = true) := by rw [hR]; exact ⟨szN _, lenN _ _, num_one _⟩
 have HSM : Hid (((Tryz.prog.info? 35).map (·.size) = some M.size ∧ (num 0).size = M.size ∧ M.all (·.oneCell') = true) ∧ (Tryz.prog.info? 35).map (·.size) = some S.size ∧ (num 0).size = S.size ∧ S.all (·.oneCell') = true) := by rw [hMo, hS]; exact ⟨⟨szN _, lenN _ _, num_one _⟩, szN _, lenN _ _, num_one _⟩
 have HI : Hid ((Tryz.prog.info? 35).map (·.size) = some A.toList.length ∧ (Tryz.prog.info? 35).map (·.size) = some RM.toList.length ∧ (Tryz.prog.info? 35).map (·.size) = some S.toList.length ∧ (Tryz.prog.info? 35).map (·.size) = some M.toList.length) := by rw [hA, hR, hS, hMo]; exact ⟨infoN _, infoN _, infoN _, infoN _⟩
 obtain ⟨PP, hP⟩ : ∃ A, A = num ((mo 2 + 1) % R256) := ⟨_, rfl⟩
 obtain ⟨H1, hH1⟩ : ∃ A, A = num ((mo 2 + 1) % R256 / 2) := ⟨_, rfl⟩
 obtain ⟨H2, hH2⟩ : ∃ A, A = num ((mo 2 + 1) % R256 / 2 / 2) := ⟨_, rfl⟩
 obtain ⟨oo, hoo⟩ : ∃ o, o = (mo 2 + 1) / R256 := ⟨_, rfl⟩
 have HPl : Hid (∀ W, Calls Tryz.prog 67 #[.agg M, .agg (num 1)] W fun r w' => r = .returned (.tuple #[.agg PP, .int .u64 oo]) ∧ Chg W w') := fun W => by rw [hMo, hP, hoo]; exact plusR_any _ _ (mo_N 2) N1 W
 have HH : Hid ((∀ W, Calls Tryz.prog 117 #[.agg PP] W fun r w' => r = .returned (.agg H1) ∧ Chg W w') ∧ (∀ W, Calls Tryz.prog 117 #[.agg H1] W fun r w' => r = .returned (.agg H2) ∧ Chg W w')) := by
  rw [hP, hH1, hH2]
  exact ⟨fun W => halfR_any _ (N_modR _) W, fun W => halfR_any _ (N_half (N_modR _)) W⟩
 have HEx : Hid (∀ W, Calls Tryz.prog 113 #[.int .i64 2, .agg A, .agg H2] W fun r w' => r = .returned (.agg RM) ∧ Chg W w') := fun W => by
  rw [hA, hH2, hR, half_e256, hm, ← md_in (.inr (.inl rfl))]
  exact expR_any 2 a e256 ha N_e256 W
 have HSP : Hid ((Tryz.prog.info? 35).map (·.size) = some PP.size ∧ (num 0).size = PP.size ∧ PP.all (·.oneCell') = true ∧ (Tryz.prog.info? 35).map (·.size) = some PP.toList.length) := by rw [hP]; exact ⟨szN _, lenN _ _, num_one _, infoN _⟩
 have HSRX : Hid ((Tryz.prog.info? 35).map (·.size) = some RM.size ∧ RM.all (·.oneCell') = true) := by rw [hR]; exact ⟨szN _, num_one _⟩
 clear hP hH1 hH2 hoo hm
 rw [← hA] at hsA ⊢
 rw [← hrr, ← haa]
 clear hA hMo hS hR hQ hX hbb hrN haN hrr haa ha hmN
 go_enter Tryz.func86, Tryz.ntmps86
 go_upto_region 1 with fail
 obtain ⟨w1, hw1⟩ : ∃ w1, w1 = (w.alloc (.cells A 35)).alloc (.cells (num 0) 35) := ⟨_, rfl⟩
 have Z1 : Hid (Chg w w1 ∧ Ar w1 w.heap.size A ∧ Ar w1 (w.heap.size + 1) (num 0)) := by
  rw [hw1]
  exact ⟨((Chg.refl w).alloc _).alloc _, (Ar.new w _ _).alloc _, Ar.new1 w _ _ _⟩
 rw [← hw1]
 clear hw1 hsA
 go_wp2_with fail
 go_at_call 42
 refine (HMo.out _).mono ?_
 rintro r' w2 ⟨rfl, hc2⟩
 have Z2 : Hid (Chg w w2 ∧ Ar w2 w.heap.size A ∧ Ar w2 (w.heap.size + 1) (num 0)) := ⟨Z1.out.1.trans hc2, Z1.out.2.1.chg hc2, Z1.out.2.2.chg hc2⟩
 clear hc2 Z1
 obtain ⟨⟨sM, lM, oM⟩, sS, lS, oS⟩ := HSM.out
 go_upto_region 2 with (first | refine wpList_store_row rfl 35 _ _ rfl _ _ rfl rfl _ _ (heap_alloc_last w2 _) sM lM oM ?_)
 obtain ⟨b6, hb6⟩ : ∃ b, b = w2.heap.size := ⟨_, rfl⟩
 obtain ⟨w3, hw3⟩ : ∃ w4, w4 = (w2.alloc (.cells (num 0) 35)).setRow w2.heap.size M := ⟨_, rfl⟩
 have Z3 : Hid (Chg w w3 ∧ Ar w3 w.heap.size A ∧ Ar w3 (w.heap.size + 1) (num 0) ∧ Ar w3 b6 M ∧ w.heap.size + 1 < b6) := by
  have hl := Z2.out.2.2.lt
  have k : Chg w2 ((w2.alloc (.cells (num 0) 35)).setRow w2.heap.size M) := ((Chg.refl w2).alloc _).setRow (Nat.le_refl _) _
  rw [hw3, hb6]
  exact ⟨Z2.out.1.trans k, Z2.out.2.1.chg k, Z2.out.2.2.chg k, (Ar.new w2 _ _).row _, hl⟩
 rw [← hw3, ← hb6]
 clear hw3 hb6 Z2 sM lM oM
 go_upto_region 3 with (first | refine wpList_store_row rfl 35 _ _ rfl _ _ rfl rfl _ _ (heap_alloc_last w3 _) (szN 0) rfl (num_one 0) ?_)
 obtain ⟨b7, hb7⟩ : ∃ b, b = w3.heap.size := ⟨_, rfl⟩
 obtain ⟨w4, hw4⟩ : ∃ w4, w4 = (w3.alloc (.cells (num 0) 35)).setRow w3.heap.size (num 0) := ⟨_, rfl⟩
 have Z4 : Hid (Chg w w4 ∧ Ar w4 w.heap.size A ∧ Ar w4 (w.heap.size + 1) (num 0) ∧ Ar w4 b6 M ∧ Ar w4 b7 (num 0) ∧ w.heap.size + 1 < b6 ∧ b6 < b7) := by
  have hl := Z3.out.2.2.2.1.lt
  have k : Chg w3 ((w3.alloc (.cells (num 0) 35)).setRow w3.heap.size (num 0)) := ((Chg.refl w3).alloc _).setRow (Nat.le_refl _) _
  rw [hw4, hb7]
  exact ⟨Z3.out.1.trans k, Z3.out.2.1.chg k, Z3.out.2.2.1.chg k, Z3.out.2.2.2.1.chg k, (Ar.new w3 _ _).row _, Z3.out.2.2.2.2, hl⟩
 rw [← hw4, ← hb7]
 clear hw4 hb7 Z3
 obtain ⟨iA, iR, iS, iM⟩ := HI.out
 have r3 := rangeA Z4.out.2.1
 go_wp2_with (first
  | refine wpList_load_mid rfl 35 (.tmp 3) rfl _ _ rfl (A.toList) _ r3 undNum rfl iA ?_)
 rw [num_set1]
 go_at_call 32
 refine (HMu.out _).mono ?_
 rintro r' w5 ⟨rfl, hc5⟩
 have Z5 : Hid (Chg w w5 ∧ Ar w5 w.heap.size A ∧ Ar w5 (w.heap.size + 1) (num 0) ∧ Ar w5 b6 M ∧ Ar w5 b7 (num 0) ∧ w.heap.size + 1 < b6 ∧ b6 < b7) := ⟨Z4.out.1.trans hc5, Z4.out.2.1.chg hc5, Z4.out.2.2.1.chg hc5, Z4.out.2.2.2.1.chg hc5, Z4.out.2.2.2.2.1.chg hc5, Z4.out.2.2.2.2.2⟩
 clear hc5 Z4 r3
 go_upto_region 4 with (first | refine wpList_store_row rfl 35 _ _ rfl _ _ rfl rfl _ _ (heap_alloc_last w5 _) sS lS oS ?_)
 obtain ⟨b8, hb8⟩ : ∃ b, b = w5.heap.size := ⟨_, rfl⟩
 obtain ⟨w6, hw6⟩ : ∃ w4, w4 = (w5.alloc (.cells (num 0) 35)).setRow w5.heap.size S := ⟨_, rfl⟩
 have Z6 : Hid (RR w w6 b6 b7 b8 A M (num 0) S) := by
  have hl := Z5.out.2.2.2.2.1.lt
  have k : Chg w5 ((w5.alloc (.cells (num 0) 35)).setRow w5.heap.size S) := ((Chg.refl w5).alloc _).setRow (Nat.le_refl _) _
  obtain ⟨q0, q1, q2, q3, q4, l6, l7⟩ := Z5.out
  rw [hw6, hb8]
  exact ⟨q0.trans k, q1.chg k, q2.chg k, q3.chg k, q4.chg k, (Ar.new w5 _ _).row _, l6, l7, hl⟩
 rw [← hw6, ← hb8]
 clear hw6 hb8 Z5 sS lS oS
 have r6 := rangeA Z6.out.r6
 go_wp2_with (first
  | refine wpList_load_mid rfl 35 (.tmp 6) rfl _ _ rfl (M.toList) _ r6 undNum rfl iM ?_)
 rw [num_set1]
 go_at_call 67
 refine (HPl.out _).mono ?_
 rintro r' w7 ⟨rfl, hc7⟩
 have Z7 : Hid (RR w w7 b6 b7 b8 A M (num 0) S) := Z6.out.to hc7
 clear hc7 Z6 r6
 obtain ⟨sP, lP, oP, iP⟩ := HSP.out
 go_upto_region 8 with (first | refine wpList_store_row rfl 35 _ _ rfl _ _ rfl rfl _ _ (heap_alloc_last w7 _) sP lP oP ?_)
 obtain ⟨b9, hb9⟩ : ∃ b, b = w7.heap.size := ⟨_, rfl⟩
 obtain ⟨w8, hw8⟩ : ∃ w4, w4 = (w7.alloc (.cells (num 0) 35)).setRow w7.heap.size PP := ⟨_, rfl⟩
 have Z8 : Hid (RR w w8 b6 b7 b8 A M (num 0) S ∧ Ar w8 b9 PP) := by
  rw [hw8, hb9]
  exact Z7.out.new _ _ _
 rw [← hw8, ← hb9]
 clear hw8 hb9 Z7 sP lP oP
 try dsimp only [Act.put]
 refine wp_region_good 6 (fun j v wg => match j with
  | 0 => v = .int .i64 2
  | 1 => v = .agg A
  | 2 => v = .agg PP
  | 3 => v = .agg H1
  | 4 => v = .agg H2
  | 5 => v = .agg RM
  | _ => True) (by kernel_rfl) (by kernel_rfl) (by kernel_rfl) (by kernel_rfl) (by kernel_rfl) ?_ ?_ ?_
 ·intro j v u1 u2 h hc
  match j, h with
  | 0, h => exact h
  | 1, h => exact h
  | 2, h => exact h
  | 3, h => exact h
  | 4, h => exact h
  | 5, h => exact h
  | _ + 6, h => exact trivial
 ·intro i o ac u hi ho hsz hf hg hc
  have hcs : i = 0 ∨ i = 1 ∨ i = 2 ∨ i = 3 ∨ i = 4 ∨ i = 5 := by omega
  rcases hcs with rfl | rfl | rfl | rfl | rfl | rfl
  ·injection ho with ho
   subst ho
   refine .inl ⟨wanted_none rfl, ?_⟩
   have e1 : ac.eval (.tmp 0) = .int .i64 2 := hf 0 (by kernel_rfl)
   exact opG_val (by simp [execOp, e1]) rfl (Chg.refl _)
  ·injection ho with ho
   subst ho
   refine .inl ⟨wanted_none rfl, ?_⟩
   have e1 : ac.eval (.tmp 3) = .pointer (some ⟨w.heap.size, 0, none⟩) := hf 3 (by kernel_rfl)
   exact wp_load_mid 35 (.tmp 3) rfl _ _ e1 (A.toList) _ (rangeA (Ar.chg (w := w8.drew) Z8.out.1.r1 hc)) undNum rfl iA ⟨_, rfl, rfl, Chg.refl _⟩
  ·injection ho with ho
   subst ho
   refine .inl ⟨wanted_none rfl, ?_⟩
   have e1 : ac.eval (.tmp 9) = .pointer (some ⟨b9, 0, none⟩) := hf 9 (by kernel_rfl)
   exact wp_load_mid 35 (.tmp 9) rfl _ _ e1 (PP.toList) _ (rangeA (Ar.chg (w := w8.drew) Z8.out.2 hc)) undNum rfl iP ⟨_, rfl, rfl, Chg.refl _⟩
  ·injection ho with ho
   subst ho
   refine .inl ⟨wanted_none rfl, ?_⟩
   have e1 : ac.eval (.tmp 35) = .agg PP := hg 2 (by kernel_rfl) (by decide)
   refine opG_go 117 Tryz.f117 #[.tmp 35] #[35] rfl Tryz.func117 (by kernel_rfl) (by kernel_rfl) (by simp [e1]) (Calls.mono (HH.out.1 _) ?_)
   rintro e u2 ⟨rfl, hc2⟩
   exact ⟨_, rfl, rfl, hc2⟩
  ·injection ho with ho
   subst ho
   refine .inl ⟨wanted_none rfl, ?_⟩
   have e1 : ac.eval (.tmp 36) = .agg H1 := hg 3 (by kernel_rfl) (by decide)
   refine opG_go 117 Tryz.f117 #[.tmp 36] #[35] rfl Tryz.func117 (by kernel_rfl) (by kernel_rfl) (by simp [e1]) (Calls.mono (HH.out.2 _) ?_)
   rintro e u2 ⟨rfl, hc2⟩
   exact ⟨_, rfl, rfl, hc2⟩
  ·injection ho with ho
   subst ho
   refine .inl ⟨wanted_none rfl, ?_⟩
   have e1 : ac.eval (.tmp 33) = .int .i64 2 := hg 0 (by kernel_rfl) (by decide)
   have e2 : ac.eval (.tmp 34) = .agg A := hg 1 (by kernel_rfl) (by decide)
   have e3 : ac.eval (.tmp 37) = .agg H2 := hg 4 (by kernel_rfl) (by decide)
   refine opG_go 113 Tryz.f113 #[.tmp 33, .tmp 34, .tmp 37] #[53, 35, 35] rfl Tryz.func113 (by kernel_rfl) (by kernel_rfl) (by simp [e1, e2, e3]) (Calls.mono (HEx.out _) ?_)
   rintro e u2 ⟨rfl, hc2⟩
   exact ⟨_, rfl, rfl, hc2⟩
 ·intro o u V ho hV hc
  injection ho with ho
  subst ho
  refine ⟨rfl, ?_⟩
  have q33 : V 0 = .int .i64 2 := hV 0 (by decide)
  have q34 : V 1 = .agg A := hV 1 (by decide)
  have q35 : V 2 = .agg PP := hV 2 (by decide)
  have q36 : V 3 = .agg H1 := hV 3 (by decide)
  have q37 : V 4 = .agg H2 := hV 4 (by decide)
  have q38 : V 5 = .agg RM := hV 5 (by decide)
  have hres := Ar.chg (w := w8.drew) Z8.out.1.r7 hc
  refine wp_store_mid 35 (.tmp 7) (.tmp 38) rfl b7 0 RM (by rfl) (Eq.trans (by rfl) q38) (by rw [HR.out, num_size]; exact thereN hres) HSRX.out.1 HSRX.out.2 ?_
  rw [show u.setCells b7 0 RM.toList = u.setRow b7 RM by rw [HR.out]; exact setRowN hres _]
  obtain ⟨w9, hw9⟩ : ∃ w7, w7 = u.setRow b7 RM := ⟨_, rfl⟩
  have Z9 : Hid (RR w w9 b6 b7 b8 A M RM S) := by
   rw [hw9]
   exact (Z8.out.1.to ((Chg.refl w8).drew.trans hc)).put7 RM
  rw [← hw9]
  clear hw9 hres Z8 iP hc
  change Exit.inBlock 0 _ Exit.normal (Act.mk #[.int .i64 2, .agg A, undef, .pointer (some ⟨w.heap.size, 0, none⟩), .pointer (some ⟨w.heap.size + 1, 0, none⟩), .bool false, .pointer (some ⟨b6, 0, none⟩), .pointer (some ⟨b7, 0, none⟩), .pointer (some ⟨b8, 0, none⟩), .pointer (some ⟨b9, 0, none⟩), .int .u64 oo, undef, undef, undef, undef, undef, .int .i64 2, .agg M, .agg (num 0), .int .i64 2, .agg A, .agg (num 1), .agg S, .int .i64 2, undef, .bool true, .bool true, .tuple #[.agg PP, .int .u64 oo], .agg M, .agg (num 1), .tuple #[.agg PP, .int .u64 oo], .agg PP, .int .u64 oo, V 0, V 1, V 2, V 3, V 4, V 5, undef, undef, undef, undef, undef, undef, undef, undef, undef, undef, undef, undef, undef, undef, undef, undef, undef, undef, undef, undef, undef, undef, undef, undef, undef, undef, undef, undef, undef, undef, undef, undef, undef, undef, undef, undef, undef, undef, undef, undef, undef, undef, undef, undef, undef, undef, undef, undef, undef, undef] []) w9
  dsimp only
  clear q33 q34 q35 q36 q37 q38 hV
  generalize V 0 = y0
  generalize V 1 = y1
  generalize V 2 = y2
  generalize V 3 = y3
  generalize V 4 = y4
  generalize V 5 = y5
  clear V
  have r7 := rangeA Z9.out.r7
  obtain ⟨iA, iR, iS, iM⟩ := HI.out
  go_wp2_with (first
   | refine wpList_load_mid rfl 35 (.tmp 7) rfl _ _ rfl (RM.toList) _ r7 undNum rfl iR ?_)
  go_at_call 32
  refine (HT.out.1 _).mono ?_
  rintro r' w20 ⟨rfl, hc20⟩
  have Z20 : Hid (RR w w20 b6 b7 b8 A M RM S) := Z9.out.to hc20
  clear hc20 r7
  obtain ⟨sQ, lQ, oQ, iQ⟩ := HSQ.out
  go_upto_region 17 with (first | refine wpList_store_row rfl 35 _ _ rfl _ _ rfl rfl _ _ (heap_alloc_last w20 _) sQ lQ oQ ?_)
  obtain ⟨b15, hb15⟩ : ∃ b, b = w20.heap.size := ⟨_, rfl⟩
  obtain ⟨w21, hw21⟩ : ∃ w4, w4 = (w20.alloc (.cells (num 0) 35)).setRow w20.heap.size QQ := ⟨_, rfl⟩
  have Z21 : Hid (RR w w21 b6 b7 b8 A M RM S ∧ Ar w21 b15 QQ) := by
   rw [hw21, hb15]
   exact Z20.out.new _ _ _
  rw [← hw21, ← hb15]
  clear hw21 hb15 Z20 sQ lQ oQ
  have r15 := rangeA Z21.out.2
  have r8 := rangeA Z21.out.1.r8
  have hq := HEQ.out
  clear Z9
  cases bb with
  | false =>
   obtain ⟨t4, g4⟩ := Z21.out.1.r2
   go_wp2_with (first
    | refine wpList_load_mid rfl 35 (.tmp 15) rfl _ _ rfl (QQ.toList) _ r15 undNum rfl iQ ?_
    | refine wpList_load_mid rfl 35 (.tmp 8) rfl _ _ rfl (S.toList) _ r8 undNum rfl iS ?_
    | refine wpList_store_row rfl 35 _ _ rfl _ _ rfl rfl _ _ g4 (szN 0) rfl (num_one 0) ?_)
   have e : rootN 2 a m = 0 := by rw [HM.out, if_neg (of_decide_eq_false HB.out)]
   refine bp_ct (n := 4) (c := num 0) (x := .bool false) Tryz.results86 rfl rfl rfl (Z21.out.1.r2.row _) undNum i25 (num_size 0) ⟨by rw [HB.out, e], Z21.out.1.chg.setRow (by omega) _⟩
  | true =>
   have c7 : w21.cell? ⟨b7, 0, none⟩ = some (.int .u64 (dg B64 m 0)) := by
    have h := Z21.out.1.r7
    rw [HR.out] at h
    exact (h.cell 0).trans (arr_get _ _ _ (by decide))
   have em := low_bit m
   obtain ⟨d, hd⟩ : ∃ d, d = dg B64 m 0 := ⟨_, rfl⟩
   obtain ⟨y, hy⟩ : ∃ y, y = dg 2 m 0 := ⟨_, rfl⟩
   rw [← hd] at c7 em
   rw [← hy] at em
   have HY : Hid (dg 2 m 0 = y) := hy.symm
   clear hd hy
   by_cases hy1 : y = 1
   ·have hyb : (y == 1) = true := by simp [hy1]
    have HY1 : Hid (y = 1) := hy1
    clear hy1
    have r7 := rangeA Z21.out.1.r7
    go_wp2_with (first
     | refine wpList_load_mid rfl 35 (.tmp 15) rfl _ _ rfl (QQ.toList) _ r15 undNum rfl iQ ?_
     | refine wpList_load_mid rfl 35 (.tmp 8) rfl _ _ rfl (S.toList) _ r8 undNum rfl iS ?_
     | refine wpList_load_mid rfl 35 (.tmp 7) rfl _ _ rfl (RM.toList) _ r7 undNum rfl iR ?_)
    go_at_call 118
    refine (HT.out.2 _).mono ?_
    rintro r' w22 ⟨rfl, hc22⟩
    have Z22 : Hid (RR w w22 b6 b7 b8 A M RM S) := Z21.out.1.to hc22
    clear hc22 r7 r15 r8 c7 Z21 hq
    obtain ⟨sX, lX, lX0, oX, iX⟩ := HSX.out
    obtain ⟨t7, g7⟩ := Z22.out.r7
    go_upto_region 21 with (first | refine wpList_store_row rfl 35 _ _ rfl _ _ rfl rfl _ _ g7 sX lX oX ?_)
    obtain ⟨w23, hw23⟩ : ∃ w4, w4 = w22.setRow b7 X := ⟨_, rfl⟩
    have Z23 : Hid (RR w w23 b6 b7 b8 A M X S) := by rw [hw23]; exact Z22.out.put7 X
    rw [← hw23]
    clear hw23 Z22 g7
    have r7 := rangeA Z23.out.r7
    obtain ⟨t4, g4⟩ := Z23.out.r2
    go_wp2_with (first
     | refine wpList_load_mid rfl 35 (.tmp 7) rfl _ _ rfl (X.toList) _ r7 undNum rfl iX ?_
     | refine wpList_store_row rfl 35 _ _ rfl _ _ rfl rfl _ _ g4 sX lX0 oX ?_)
    have e : X = num (rootN 2 a m) := by rw [HM.out, if_pos (of_decide_eq_true HB.out), HY.out, if_pos HY1.out]; exact HX.out
    refine bp_ct (n := 4) (c := X) (x := .bool true) Tryz.results86 rfl rfl rfl (Z23.out.r2.row _) undNum i25 (by rw [e]; exact num_size _) ⟨by rw [HB.out, ← e], Z23.out.chg.setRow (by omega) _⟩
   ·have hyb : (y == 1) = false := by simp [hy1]
    have HY1 : Hid (¬ y = 1) := hy1
    clear hy1
    have r7 := rangeA Z21.out.1.r7
    obtain ⟨t4, g4⟩ := Z21.out.1.r2
    obtain ⟨sR, lR, oR⟩ := HSR.out
    go_wp2_with (first
     | refine wpList_load_mid rfl 35 (.tmp 15) rfl _ _ rfl (QQ.toList) _ r15 undNum rfl iQ ?_
     | refine wpList_load_mid rfl 35 (.tmp 8) rfl _ _ rfl (S.toList) _ r8 undNum rfl iS ?_
     | refine wpList_load_mid rfl 35 (.tmp 7) rfl _ _ rfl (RM.toList) _ r7 undNum rfl iR ?_
     | refine wpList_store_row rfl 35 _ _ rfl _ _ rfl rfl _ _ g4 sR lR oR ?_)
    have e : RM = num (rootN 2 a m) := by rw [HM.out, if_pos (of_decide_eq_true HB.out), HY.out, if_neg HY1.out]; exact HR.out
    refine bp_ct (n := 4) (c := RM) (x := .bool true) Tryz.results86 rfl rfl rfl (Z21.out.1.r2.row _) undNum i25 (by rw [e]; exact num_size _) ⟨by rw [HB.out, ← e], Z21.out.1.chg.setRow (by omega) _⟩
set_option maxHeartbeats 16000000 in
theorem rootR1_any (a : Int) (ha : N256 a) (w : World) : Calls Tryz.prog 86 #[.int .i64 1, .agg (num a)] w fun r w' => r = .returned (.tuple #[.agg (num (rootN 1 a (mr1 a))), .bool (decide ((mr1 a) * (mr1 a) % mo 1 = a % mo 1))]) ∧ Chg w w' := by
 have hmN : N256 (mr1 a) := mr1_N a
 obtain ⟨m, hm⟩ : ∃ m, m = mr1 a := ⟨_, rfl⟩
 rw [← hm] at hmN ⊢
 have hz := zero25.1
 have hsA := num_size a
 obtain ⟨rr, hrr⟩ : ∃ rr, rr = m * m % mo 1 := ⟨_, rfl⟩
 obtain ⟨aa, haa⟩ : ∃ aa, aa = a % mo 1 := ⟨_, rfl⟩
 have HM : Hid (rootN 1 a m = if rr = aa then (if dg 2 m 0 = 1 then (0 - m) % mo 1 else m) else 0) := by
  show rootN 1 a m = _
  rw [hrr, haa]
  rfl
 have hrN : N256 rr := by rw [hrr]; exact N_mod (.inl rfl) _
 have haN : N256 aa := by rw [haa]; exact N_mod (.inl rfl) _
 obtain ⟨A, hA⟩ : ∃ A, A = num a := ⟨_, rfl⟩
 obtain ⟨M, hMo⟩ : ∃ A, A = num (mo 1) := ⟨_, rfl⟩
 obtain ⟨S, hS⟩ : ∃ A, A = num aa := ⟨_, rfl⟩
 obtain ⟨RM, hR⟩ : ∃ A, A = num m := ⟨_, rfl⟩
 obtain ⟨QQ, hQ⟩ : ∃ A, A = num rr := ⟨_, rfl⟩
 obtain ⟨X, hX⟩ : ∃ A, A = num ((0 - m) % mo 1) := ⟨_, rfl⟩
 obtain ⟨bb, hbb⟩ : ∃ b, decide (rr = aa) = b := ⟨_, rfl⟩
 have HB : Hid (decide (rr = aa) = bb) := hbb
 have HR : Hid (RM = num m) := hR
 have HX : Hid (X = num ((0 - m) % mo 1)) := hX
 have HEQ : Hid (∀ u, (Op.equalIn 10000 35 (.agg QQ) (.agg S)).run Tryz.prog u = .ok bb u) := fun u => by rw [hQ, hS, run_eqNum hrN haN, hbb]
 have HT : Hid ((∀ W, Calls Tryz.prog 32 #[.int .i64 1, .agg RM, .agg RM] W fun r w' => r = .returned (.agg QQ) ∧ Chg W w') ∧ (∀ W, Calls Tryz.prog 118 #[.int .i64 1, .agg RM] W fun r w' => r = .returned (.agg X) ∧ Chg W w')) := by
  rw [hR, hQ, hX, hrr, ← md_in (.inl rfl), ← md_in (.inl rfl)]
  exact ⟨fun W => mulR_any 1 m m hmN hmN W, fun W => negR_any 1 m hmN W⟩
 have HMu : Hid (∀ W, Calls Tryz.prog 32 #[.int .i64 1, .agg A, .agg (num 1)] W fun r w' => r = .returned (.agg S) ∧ Chg W w') := fun W => by
  have h := mulR_any 1 a 1 ha N1 W
  rw [Int.mul_one, md_in (.inl rfl), ← haa] at h
  rw [hA, hS]
  exact h
 have HMo : Hid (∀ W, Calls Tryz.prog 42 #[.int .i64 1] W fun r w' => r = .returned (.agg M) ∧ Chg W w') := fun W => by rw [hMo]; exact modulusR_any 1 W
 have HSQ : Hid ((Tryz.prog.info? 35).map (·.size) = some QQ.size ∧ (num 0).size = QQ.size ∧ QQ.all (·.oneCell') = true ∧ (Tryz.prog.info? 35).map (·.size) = some QQ.toList.length) := by rw [hQ]; exact ⟨szN _, lenN _ _, num_one _, infoN _⟩
 have HSX : Hid ((Tryz.prog.info? 35).map (·.size) = some X.size ∧ RM.size = X.size ∧ (num 0).size = X.size ∧ X.all (·.oneCell') = true ∧ (Tryz.prog.info? 35).map (·.size) = some X.toList.length) := by rw [hX, hR]; exact ⟨szN _, lenN _ _, lenN _ _, num_one _, infoN _⟩
 have HSR : Hid ((Tryz.prog.info? 35).map (·.size) = some RM.size ∧ (num 0).size = RM.size ∧ RM.all (·.oneCell') = true) := by rw [hR]; exact ⟨szN _, lenN _ _, num_one _⟩
 have HSM : Hid (((Tryz.prog.info? 35).map (·.size) = some M.size ∧ (num 0).size = M.size ∧ M.all (·.oneCell') = true) ∧ (Tryz.prog.info? 35).map (·.size) = some S.size ∧ (num 0).size = S.size ∧ S.all (·.oneCell') = true) := by rw [hMo, hS]; exact ⟨⟨szN _, lenN _ _, num_one _⟩, szN _, lenN _ _, num_one _⟩
 have HI : Hid ((Tryz.prog.info? 35).map (·.size) = some A.toList.length ∧ (Tryz.prog.info? 35).map (·.size) = some RM.toList.length ∧ (Tryz.prog.info? 35).map (·.size) = some S.toList.length ∧ (Tryz.prog.info? 35).map (·.size) = some M.toList.length) := by rw [hA, hR, hS, hMo]; exact ⟨infoN _, infoN _, infoN _, infoN _⟩
 obtain ⟨r, hr⟩ : ∃ r, r = a ^ e255.toNat % mo 1 := ⟨_, rfl⟩
 have hr1N : N256 r := by rw [hr]; exact N_mod (.inl rfl) _
 obtain ⟨rr1, hrr1⟩ : ∃ rr, rr = r * r % mo 1 := ⟨_, rfl⟩
 have hrr1N : N256 rr1 := by rw [hrr1]; exact N_mod (.inl rfl) _
 have hmr : m = if rr1 = aa then r else r * i255 % mo 1 := by
  rw [hm, hrr1, haa, hr]
  rfl
 obtain ⟨PP, hP⟩ : ∃ A, A = num ((mo 1 + 3) % R256) := ⟨_, rfl⟩
 obtain ⟨H1, hH1⟩ : ∃ A, A = num ((mo 1 + 3) % R256 / 2) := ⟨_, rfl⟩
 obtain ⟨H2, hH2⟩ : ∃ A, A = num ((mo 1 + 3) % R256 / 2 / 2) := ⟨_, rfl⟩
 obtain ⟨H3, hH3⟩ : ∃ A, A = num ((mo 1 + 3) % R256 / 2 / 2 / 2) := ⟨_, rfl⟩
 obtain ⟨R1, hR1⟩ : ∃ A, A = num r := ⟨_, rfl⟩
 obtain ⟨Q1, hQ1⟩ : ∃ A, A = num rr1 := ⟨_, rfl⟩
 obtain ⟨D, hD⟩ : ∃ A, A = num ((mo 1 - 1) % R256) := ⟨_, rfl⟩
 obtain ⟨D1, hD1⟩ : ∃ A, A = num ((mo 1 - 1) % R256 / 2) := ⟨_, rfl⟩
 obtain ⟨D2, hD2⟩ : ∃ A, A = num ((mo 1 - 1) % R256 / 2 / 2) := ⟨_, rfl⟩
 obtain ⟨I, hI⟩ : ∃ A, A = num i255 := ⟨_, rfl⟩
 obtain ⟨X1, hX1⟩ : ∃ A, A = num (r * i255 % mo 1) := ⟨_, rfl⟩
 obtain ⟨oo, hoo⟩ : ∃ o, o = (mo 1 + 3) / R256 := ⟨_, rfl⟩
 obtain ⟨bb1, hbb1⟩ : ∃ b, decide (rr1 = aa) = b := ⟨_, rfl⟩
 have HPl : Hid (∀ W, Calls Tryz.prog 67 #[.agg M, .agg (num 3)] W fun r w' => r = .returned (.tuple #[.agg PP, .int .u64 oo]) ∧ Chg W w') := fun W => by rw [hMo, hP, hoo]; exact plusR_any _ _ (mo_N 1) N3 W
 have HH : Hid ((∀ W, Calls Tryz.prog 117 #[.agg PP] W fun r w' => r = .returned (.agg H1) ∧ Chg W w') ∧ (∀ W, Calls Tryz.prog 117 #[.agg H1] W fun r w' => r = .returned (.agg H2) ∧ Chg W w') ∧ (∀ W, Calls Tryz.prog 117 #[.agg H2] W fun r w' => r = .returned (.agg H3) ∧ Chg W w')) := by
  rw [hP, hH1, hH2, hH3]
  exact ⟨fun W => halfR_any _ (N_modR _) W, fun W => halfR_any _ (N_half (N_modR _)) W, fun W => halfR_any _ (N_half (N_half (N_modR _))) W⟩
 have HEx : Hid (∀ W, Calls Tryz.prog 113 #[.int .i64 1, .agg A, .agg H3] W fun r w' => r = .returned (.agg R1) ∧ Chg W w') := fun W => by
  rw [hA, hH3, hR1, half_e255, hr, ← md_in (.inl rfl)]
  exact expR_any 1 a e255 ha N_e255 W
 have HK1 : Hid ((∀ W, Calls Tryz.prog 32 #[.int .i64 1, .agg R1, .agg R1] W fun r w' => r = .returned (.agg Q1) ∧ Chg W w') ∧ (∀ W, Calls Tryz.prog 32 #[.int .i64 1, .agg R1, .agg I] W fun r w' => r = .returned (.agg X1) ∧ Chg W w')) := by
  rw [hR1, hQ1, hI, hX1, hrr1, ← md_in (.inl rfl), ← md_in (.inl rfl)]
  exact ⟨fun W => mulR_any 1 r r hr1N hr1N W, fun W => mulR_any 1 r i255 hr1N N_i255 W⟩
 have HMi : Hid (∀ W, Calls Tryz.prog 102 #[.agg M, .agg (num 1)] W fun r w' => r = .returned (.agg D) ∧ Chg W w') := fun W => by rw [hMo, hD]; exact minusR_any _ _ (mo_N 1) N1 W
 have HH2 : Hid ((∀ W, Calls Tryz.prog 117 #[.agg D] W fun r w' => r = .returned (.agg D1) ∧ Chg W w') ∧ (∀ W, Calls Tryz.prog 117 #[.agg D1] W fun r w' => r = .returned (.agg D2) ∧ Chg W w')) := by
  rw [hD, hD1, hD2]
  exact ⟨fun W => halfR_any _ (N_modR _) W, fun W => halfR_any _ (N_half (N_modR _)) W⟩
 have HE2 : Hid (∀ W, Calls Tryz.prog 113 #[.int .i64 1, .agg (num 2), .agg D2] W fun r w' => r = .returned (.agg I) ∧ Chg W w') := fun W => by
  have h := expR_any 1 2 ((mo 1 - 1) % R256 / 2 / 2) N2 (N_half (N_half (N_modR _))) W
  rw [i255_pow] at h
  rw [hD2, hI]
  exact h
 have HEQ1 : Hid (∀ u, (Op.equalIn 10000 35 (.agg Q1) (.agg S)).run Tryz.prog u = .ok bb1 u) := fun u => by rw [hQ1, hS, run_eqNum hrr1N haN, hbb1]
 have HC : Hid (if bb1 = true then R1 = RM else X1 = RM) := by
  show if bb1 = true then R1 = RM else X1 = RM
  by_cases h : rr1 = aa
  ·rw [← hbb1, decide_eq_true h, if_pos rfl, hR1, hR, hmr, if_pos h]
  ·rw [← hbb1, decide_eq_false h, if_neg (by decide), hX1, hR, hmr, if_neg h]
 have HSP : Hid ((Tryz.prog.info? 35).map (·.size) = some PP.size ∧ (num 0).size = PP.size ∧ PP.all (·.oneCell') = true ∧ (Tryz.prog.info? 35).map (·.size) = some PP.toList.length) := by rw [hP]; exact ⟨szN _, lenN _ _, num_one _, infoN _⟩
 have HSRX : Hid ((Tryz.prog.info? 35).map (·.size) = some R1.size ∧ R1.all (·.oneCell') = true ∧ (Tryz.prog.info? 35).map (·.size) = some R1.toList.length) := by rw [hR1]; exact ⟨szN _, num_one _, infoN _⟩
 have HSQ1 : Hid ((Tryz.prog.info? 35).map (·.size) = some Q1.size ∧ (num 0).size = Q1.size ∧ Q1.all (·.oneCell') = true ∧ (Tryz.prog.info? 35).map (·.size) = some Q1.toList.length) := by rw [hQ1]; exact ⟨szN _, lenN _ _, num_one _, infoN _⟩
 have HSI : Hid ((Tryz.prog.info? 35).map (·.size) = some I.size ∧ (num 0).size = I.size ∧ I.all (·.oneCell') = true ∧ (Tryz.prog.info? 35).map (·.size) = some I.toList.length) := by rw [hI]; exact ⟨szN _, lenN _ _, num_one _, infoN _⟩
 have HSX1 : Hid ((Tryz.prog.info? 35).map (·.size) = some X1.size ∧ R1.size = X1.size ∧ X1.all (·.oneCell') = true) := by rw [hX1, hR1]; exact ⟨szN _, lenN _ _, num_one _⟩
 have HR1 : Hid (R1 = num r) := hR1
 clear hP hH1 hH2 hH3 hR1 hQ1 hD hD1 hD2 hI hX1 hoo hbb1 hm hmr hr hr1N hrr1 hrr1N
 rw [← hA] at hsA ⊢
 rw [← hrr, ← haa]
 clear hA hMo hS hR hQ hX hbb hrN haN hrr haa ha hmN
 go_enter Tryz.func86, Tryz.ntmps86
 go_upto_region 1 with fail
 obtain ⟨w1, hw1⟩ : ∃ w1, w1 = (w.alloc (.cells A 35)).alloc (.cells (num 0) 35) := ⟨_, rfl⟩
 have Z1 : Hid (Chg w w1 ∧ Ar w1 w.heap.size A ∧ Ar w1 (w.heap.size + 1) (num 0)) := by
  rw [hw1]
  exact ⟨((Chg.refl w).alloc _).alloc _, (Ar.new w _ _).alloc _, Ar.new1 w _ _ _⟩
 rw [← hw1]
 clear hw1 hsA
 go_wp2_with fail
 go_at_call 42
 refine (HMo.out _).mono ?_
 rintro r' w2 ⟨rfl, hc2⟩
 have Z2 : Hid (Chg w w2 ∧ Ar w2 w.heap.size A ∧ Ar w2 (w.heap.size + 1) (num 0)) := ⟨Z1.out.1.trans hc2, Z1.out.2.1.chg hc2, Z1.out.2.2.chg hc2⟩
 clear hc2 Z1
 obtain ⟨⟨sM, lM, oM⟩, sS, lS, oS⟩ := HSM.out
 go_upto_region 2 with (first | refine wpList_store_row rfl 35 _ _ rfl _ _ rfl rfl _ _ (heap_alloc_last w2 _) sM lM oM ?_)
 obtain ⟨b6, hb6⟩ : ∃ b, b = w2.heap.size := ⟨_, rfl⟩
 obtain ⟨w3, hw3⟩ : ∃ w4, w4 = (w2.alloc (.cells (num 0) 35)).setRow w2.heap.size M := ⟨_, rfl⟩
 have Z3 : Hid (Chg w w3 ∧ Ar w3 w.heap.size A ∧ Ar w3 (w.heap.size + 1) (num 0) ∧ Ar w3 b6 M ∧ w.heap.size + 1 < b6) := by
  have hl := Z2.out.2.2.lt
  have k : Chg w2 ((w2.alloc (.cells (num 0) 35)).setRow w2.heap.size M) := ((Chg.refl w2).alloc _).setRow (Nat.le_refl _) _
  rw [hw3, hb6]
  exact ⟨Z2.out.1.trans k, Z2.out.2.1.chg k, Z2.out.2.2.chg k, (Ar.new w2 _ _).row _, hl⟩
 rw [← hw3, ← hb6]
 clear hw3 hb6 Z2 sM lM oM
 go_upto_region 3 with (first | refine wpList_store_row rfl 35 _ _ rfl _ _ rfl rfl _ _ (heap_alloc_last w3 _) (szN 0) rfl (num_one 0) ?_)
 obtain ⟨b7, hb7⟩ : ∃ b, b = w3.heap.size := ⟨_, rfl⟩
 obtain ⟨w4, hw4⟩ : ∃ w4, w4 = (w3.alloc (.cells (num 0) 35)).setRow w3.heap.size (num 0) := ⟨_, rfl⟩
 have Z4 : Hid (Chg w w4 ∧ Ar w4 w.heap.size A ∧ Ar w4 (w.heap.size + 1) (num 0) ∧ Ar w4 b6 M ∧ Ar w4 b7 (num 0) ∧ w.heap.size + 1 < b6 ∧ b6 < b7) := by
  have hl := Z3.out.2.2.2.1.lt
  have k : Chg w3 ((w3.alloc (.cells (num 0) 35)).setRow w3.heap.size (num 0)) := ((Chg.refl w3).alloc _).setRow (Nat.le_refl _) _
  rw [hw4, hb7]
  exact ⟨Z3.out.1.trans k, Z3.out.2.1.chg k, Z3.out.2.2.1.chg k, Z3.out.2.2.2.1.chg k, (Ar.new w3 _ _).row _, Z3.out.2.2.2.2, hl⟩
 rw [← hw4, ← hb7]
 clear hw4 hb7 Z3
 obtain ⟨iA, iR, iS, iM⟩ := HI.out
 have r3 := rangeA Z4.out.2.1
 go_wp2_with (first
  | refine wpList_load_mid rfl 35 (.tmp 3) rfl _ _ rfl (A.toList) _ r3 undNum rfl iA ?_)
 rw [num_set1]
 go_at_call 32
 refine (HMu.out _).mono ?_
 rintro r' w5 ⟨rfl, hc5⟩
 have Z5 : Hid (Chg w w5 ∧ Ar w5 w.heap.size A ∧ Ar w5 (w.heap.size + 1) (num 0) ∧ Ar w5 b6 M ∧ Ar w5 b7 (num 0) ∧ w.heap.size + 1 < b6 ∧ b6 < b7) := ⟨Z4.out.1.trans hc5, Z4.out.2.1.chg hc5, Z4.out.2.2.1.chg hc5, Z4.out.2.2.2.1.chg hc5, Z4.out.2.2.2.2.1.chg hc5, Z4.out.2.2.2.2.2⟩
 clear hc5 Z4 r3
 go_upto_region 4 with (first | refine wpList_store_row rfl 35 _ _ rfl _ _ rfl rfl _ _ (heap_alloc_last w5 _) sS lS oS ?_)
 obtain ⟨b8, hb8⟩ : ∃ b, b = w5.heap.size := ⟨_, rfl⟩
 obtain ⟨w6, hw6⟩ : ∃ w4, w4 = (w5.alloc (.cells (num 0) 35)).setRow w5.heap.size S := ⟨_, rfl⟩
 have Z6 : Hid (RR w w6 b6 b7 b8 A M (num 0) S) := by
  have hl := Z5.out.2.2.2.2.1.lt
  have k : Chg w5 ((w5.alloc (.cells (num 0) 35)).setRow w5.heap.size S) := ((Chg.refl w5).alloc _).setRow (Nat.le_refl _) _
  obtain ⟨q0, q1, q2, q3, q4, l6, l7⟩ := Z5.out
  rw [hw6, hb8]
  exact ⟨q0.trans k, q1.chg k, q2.chg k, q3.chg k, q4.chg k, (Ar.new w5 _ _).row _, l6, l7, hl⟩
 rw [← hw6, ← hb8]
 clear hw6 hb8 Z5 sS lS oS
 have r6 := rangeA Z6.out.r6
 go_wp2_with (first
  | refine wpList_load_mid rfl 35 (.tmp 6) rfl _ _ rfl (M.toList) _ r6 undNum rfl iM ?_)
 rw [num_set3]
 go_at_call 67
 refine (HPl.out _).mono ?_
 rintro r' w7 ⟨rfl, hc7⟩
 have Z7 : Hid (RR w w7 b6 b7 b8 A M (num 0) S) := Z6.out.to hc7
 clear hc7 Z6 r6
 obtain ⟨sP, lP, oP, iP⟩ := HSP.out
 go_upto_region 11 with (first | refine wpList_store_row rfl 35 _ _ rfl _ _ rfl rfl _ _ (heap_alloc_last w7 _) sP lP oP ?_)
 obtain ⟨b9, hb9⟩ : ∃ b, b = w7.heap.size := ⟨_, rfl⟩
 obtain ⟨w8, hw8⟩ : ∃ w4, w4 = (w7.alloc (.cells (num 0) 35)).setRow w7.heap.size PP := ⟨_, rfl⟩
 have Z8 : Hid (RR w w8 b6 b7 b8 A M (num 0) S ∧ Ar w8 b9 PP) := by
  rw [hw8, hb9]
  exact Z7.out.new _ _ _
 rw [← hw8, ← hb9]
 clear hw8 hb9 Z7 sP lP oP
 try dsimp only [Act.put]
 go_cut [53] from 47 to 53 (fun v wc => RR w wc b6 b7 b8 A M R1 S)
 case first =>
  refine wp_region_good 7 (fun j v wg => match j with
   | 0 => v = .int .i64 1
   | 1 => v = .agg A
   | 2 => v = .agg PP
   | 3 => v = .agg H1
   | 4 => v = .agg H2
   | 5 => v = .agg H3
   | 6 => v = .agg R1
   | _ => True) (by kernel_rfl) (by kernel_rfl) (by kernel_rfl) (by kernel_rfl) (by kernel_rfl) ?_ ?_ ?_
  ·intro j v u1 u2 h hc
   match j, h with
   | 0, h => exact h
   | 1, h => exact h
   | 2, h => exact h
   | 3, h => exact h
   | 4, h => exact h
   | 5, h => exact h
   | 6, h => exact h
   | _ + 7, h => exact trivial
  ·intro i o ac u hi ho hsz hf hg hc
   have hcs : i = 0 ∨ i = 1 ∨ i = 2 ∨ i = 3 ∨ i = 4 ∨ i = 5 ∨ i = 6 := by omega
   rcases hcs with rfl | rfl | rfl | rfl | rfl | rfl | rfl
   ·injection ho with ho
    subst ho
    refine .inl ⟨wanted_none rfl, ?_⟩
    have e1 : ac.eval (.tmp 0) = .int .i64 1 := hf 0 (by kernel_rfl)
    exact opG_val (by simp [execOp, e1]) rfl (Chg.refl _)
   ·injection ho with ho
    subst ho
    refine .inl ⟨wanted_none rfl, ?_⟩
    have e1 : ac.eval (.tmp 3) = .pointer (some ⟨w.heap.size, 0, none⟩) := hf 3 (by kernel_rfl)
    exact wp_load_mid 35 (.tmp 3) rfl _ _ e1 (A.toList) _ (rangeA (Ar.chg (w := w8.drew) Z8.out.1.r1 hc)) undNum rfl iA ⟨_, rfl, rfl, Chg.refl _⟩
   ·injection ho with ho
    subst ho
    refine .inl ⟨wanted_none rfl, ?_⟩
    have e1 : ac.eval (.tmp 11) = .pointer (some ⟨b9, 0, none⟩) := hf 11 (by kernel_rfl)
    exact wp_load_mid 35 (.tmp 11) rfl _ _ e1 (PP.toList) _ (rangeA (Ar.chg (w := w8.drew) Z8.out.2 hc)) undNum rfl iP ⟨_, rfl, rfl, Chg.refl _⟩
   ·injection ho with ho
    subst ho
    refine .inl ⟨wanted_none rfl, ?_⟩
    have e1 : ac.eval (.tmp 49) = .agg PP := hg 2 (by kernel_rfl) (by decide)
    refine opG_go 117 Tryz.f117 #[.tmp 49] #[35] rfl Tryz.func117 (by kernel_rfl) (by kernel_rfl) (by simp [e1]) (Calls.mono (HH.out.1 _) ?_)
    rintro e u2 ⟨rfl, hc2⟩
    exact ⟨_, rfl, rfl, hc2⟩
   ·injection ho with ho
    subst ho
    refine .inl ⟨wanted_none rfl, ?_⟩
    have e1 : ac.eval (.tmp 50) = .agg H1 := hg 3 (by kernel_rfl) (by decide)
    refine opG_go 117 Tryz.f117 #[.tmp 50] #[35] rfl Tryz.func117 (by kernel_rfl) (by kernel_rfl) (by simp [e1]) (Calls.mono (HH.out.2.1 _) ?_)
    rintro e u2 ⟨rfl, hc2⟩
    exact ⟨_, rfl, rfl, hc2⟩
   ·injection ho with ho
    subst ho
    refine .inl ⟨wanted_none rfl, ?_⟩
    have e1 : ac.eval (.tmp 51) = .agg H2 := hg 4 (by kernel_rfl) (by decide)
    refine opG_go 117 Tryz.f117 #[.tmp 51] #[35] rfl Tryz.func117 (by kernel_rfl) (by kernel_rfl) (by simp [e1]) (Calls.mono (HH.out.2.2 _) ?_)
    rintro e u2 ⟨rfl, hc2⟩
    exact ⟨_, rfl, rfl, hc2⟩
   ·injection ho with ho
    subst ho
    refine .inl ⟨wanted_none rfl, ?_⟩
    have e1 : ac.eval (.tmp 47) = .int .i64 1 := hg 0 (by kernel_rfl) (by decide)
    have e2 : ac.eval (.tmp 48) = .agg A := hg 1 (by kernel_rfl) (by decide)
    have e3 : ac.eval (.tmp 52) = .agg H3 := hg 5 (by kernel_rfl) (by decide)
    refine opG_go 113 Tryz.f113 #[.tmp 47, .tmp 48, .tmp 52] #[53, 35, 35] rfl Tryz.func113 (by kernel_rfl) (by kernel_rfl) (by simp [e1, e2, e3]) (Calls.mono (HEx.out _) ?_)
    rintro e u2 ⟨rfl, hc2⟩
    exact ⟨_, rfl, rfl, hc2⟩
  ·intro o u V ho hV hc
   injection ho with ho
   subst ho
   refine ⟨rfl, ?_⟩
   have q47 : V 0 = .int .i64 1 := hV 0 (by decide)
   have q48 : V 1 = .agg A := hV 1 (by decide)
   have q49 : V 2 = .agg PP := hV 2 (by decide)
   have q50 : V 3 = .agg H1 := hV 3 (by decide)
   have q51 : V 4 = .agg H2 := hV 4 (by decide)
   have q52 : V 5 = .agg H3 := hV 5 (by decide)
   have q53 : V 6 = .agg R1 := hV 6 (by decide)
   have hres := Ar.chg (w := w8.drew) Z8.out.1.r7 hc
   refine wp_store_mid 35 (.tmp 7) (.tmp 53) rfl b7 0 R1 (by rfl) (Eq.trans (by rfl) q53) (by rw [HR1.out, num_size]; exact thereN hres) HSRX.out.1 HSRX.out.2.1 ?_
   rw [show u.setCells b7 0 R1.toList = u.setRow b7 R1 by rw [HR1.out]; exact setRowN hres _]
   go_wp2_with fail
   go_meet
   exact (Z8.out.1.to ((Chg.refl w8).drew.trans hc)).put7 R1
 obtain ⟨w9, hw9⟩ : ∃ w7, w7 = wc := ⟨_, rfl⟩
 have Z9 : Hid (RR w w9 b6 b7 b8 A M R1 S) := by rw [hw9]; exact hcut
 rw [← hw9]
 clear hw9 hcut Z8 iP
 have r7 := rangeA Z9.out.r7
 obtain ⟨-, -, iR1⟩ := HSRX.out
 go_wp2_with (first
  | refine wpList_load_mid rfl 35 (.tmp 7) rfl _ _ rfl (R1.toList) _ r7 undNum rfl iR1 ?_)
 go_at_call 32
 refine (HK1.out.1 _).mono ?_
 rintro r' w10 ⟨rfl, hc10⟩
 have Z10 : Hid (RR w w10 b6 b7 b8 A M R1 S) := Z9.out.to hc10
 clear hc10 r7 Z9
 obtain ⟨sQ1, lQ1, oQ1, iQ1⟩ := HSQ1.out
 go_upto_region 13 with (first | refine wpList_store_row rfl 35 _ _ rfl _ _ rfl rfl _ _ (heap_alloc_last w10 _) sQ1 lQ1 oQ1 ?_)
 obtain ⟨b13, hb13⟩ : ∃ b, b = w10.heap.size := ⟨_, rfl⟩
 obtain ⟨w11, hw11⟩ : ∃ w4, w4 = (w10.alloc (.cells (num 0) 35)).setRow w10.heap.size Q1 := ⟨_, rfl⟩
 have Z11 : Hid (RR w w11 b6 b7 b8 A M R1 S ∧ Ar w11 b13 Q1) := by
  rw [hw11, hb13]
  exact Z10.out.new _ _ _
 rw [← hw11, ← hb13]
 clear hw11 hb13 Z10 sQ1 lQ1 oQ1
 have r13 := rangeA Z11.out.2
 have r8 := rangeA Z11.out.1.r8
 have hq1 := HEQ1.out
 cases bb1 with
 | true =>
  have hC : R1 = RM := HC.out
  have Z19 : Hid (RR w w11 b6 b7 b8 A M RM S) := by rw [← hC]; exact Z11.out.1
  clear hC
  go_upto_region 16 with (first
   | refine wpList_load_mid rfl 35 (.tmp 13) rfl _ _ rfl (Q1.toList) _ r13 undNum rfl iQ1 ?_
   | refine wpList_load_mid rfl 35 (.tmp 8) rfl _ _ rfl (S.toList) _ r8 undNum rfl iS ?_)
  clear r13 r8 hq1 Z11 HC HEQ1
  have r7 := rangeA Z19.out.r7
  obtain ⟨iA, iR, iS, iM⟩ := HI.out
  go_wp2_with (first
   | refine wpList_load_mid rfl 35 (.tmp 7) rfl _ _ rfl (RM.toList) _ r7 undNum rfl iR ?_)
  go_at_call 32
  refine (HT.out.1 _).mono ?_
  rintro r' w20 ⟨rfl, hc20⟩
  have Z20 : Hid (RR w w20 b6 b7 b8 A M RM S) := Z19.out.to hc20
  clear hc20 r7
  obtain ⟨sQ, lQ, oQ, iQ⟩ := HSQ.out
  go_upto_region 17 with (first | refine wpList_store_row rfl 35 _ _ rfl _ _ rfl rfl _ _ (heap_alloc_last w20 _) sQ lQ oQ ?_)
  obtain ⟨b15, hb15⟩ : ∃ b, b = w20.heap.size := ⟨_, rfl⟩
  obtain ⟨w21, hw21⟩ : ∃ w4, w4 = (w20.alloc (.cells (num 0) 35)).setRow w20.heap.size QQ := ⟨_, rfl⟩
  have Z21 : Hid (RR w w21 b6 b7 b8 A M RM S ∧ Ar w21 b15 QQ) := by
   rw [hw21, hb15]
   exact Z20.out.new _ _ _
  rw [← hw21, ← hb15]
  clear hw21 hb15 Z20 sQ lQ oQ
  have r15 := rangeA Z21.out.2
  have r8 := rangeA Z21.out.1.r8
  have hq := HEQ.out
  clear Z19
  cases bb with
  | false =>
   obtain ⟨t4, g4⟩ := Z21.out.1.r2
   go_wp2_with (first
    | refine wpList_load_mid rfl 35 (.tmp 15) rfl _ _ rfl (QQ.toList) _ r15 undNum rfl iQ ?_
    | refine wpList_load_mid rfl 35 (.tmp 8) rfl _ _ rfl (S.toList) _ r8 undNum rfl iS ?_
    | refine wpList_store_row rfl 35 _ _ rfl _ _ rfl rfl _ _ g4 (szN 0) rfl (num_one 0) ?_)
   have e : rootN 1 a m = 0 := by rw [HM.out, if_neg (of_decide_eq_false HB.out)]
   refine bp_ct (n := 4) (c := num 0) (x := .bool false) Tryz.results86 rfl rfl rfl (Z21.out.1.r2.row _) undNum i25 (num_size 0) ⟨by rw [HB.out, e], Z21.out.1.chg.setRow (by omega) _⟩
  | true =>
   have c7 : w21.cell? ⟨b7, 0, none⟩ = some (.int .u64 (dg B64 m 0)) := by
    have h := Z21.out.1.r7
    rw [HR.out] at h
    exact (h.cell 0).trans (arr_get _ _ _ (by decide))
   have em := low_bit m
   obtain ⟨d, hd⟩ : ∃ d, d = dg B64 m 0 := ⟨_, rfl⟩
   obtain ⟨y, hy⟩ : ∃ y, y = dg 2 m 0 := ⟨_, rfl⟩
   rw [← hd] at c7 em
   rw [← hy] at em
   have HY : Hid (dg 2 m 0 = y) := hy.symm
   clear hd hy
   by_cases hy1 : y = 1
   ·have hyb : (y == 1) = true := by simp [hy1]
    have HY1 : Hid (y = 1) := hy1
    clear hy1
    have r7 := rangeA Z21.out.1.r7
    go_wp2_with (first
     | refine wpList_load_mid rfl 35 (.tmp 15) rfl _ _ rfl (QQ.toList) _ r15 undNum rfl iQ ?_
     | refine wpList_load_mid rfl 35 (.tmp 8) rfl _ _ rfl (S.toList) _ r8 undNum rfl iS ?_
     | refine wpList_load_mid rfl 35 (.tmp 7) rfl _ _ rfl (RM.toList) _ r7 undNum rfl iR ?_)
    go_at_call 118
    refine (HT.out.2 _).mono ?_
    rintro r' w22 ⟨rfl, hc22⟩
    have Z22 : Hid (RR w w22 b6 b7 b8 A M RM S) := Z21.out.1.to hc22
    clear hc22 r7 r15 r8 c7 Z21 hq
    obtain ⟨sX, lX, lX0, oX, iX⟩ := HSX.out
    obtain ⟨t7, g7⟩ := Z22.out.r7
    go_upto_region 21 with (first | refine wpList_store_row rfl 35 _ _ rfl _ _ rfl rfl _ _ g7 sX lX oX ?_)
    obtain ⟨w23, hw23⟩ : ∃ w4, w4 = w22.setRow b7 X := ⟨_, rfl⟩
    have Z23 : Hid (RR w w23 b6 b7 b8 A M X S) := by rw [hw23]; exact Z22.out.put7 X
    rw [← hw23]
    clear hw23 Z22 g7
    have r7 := rangeA Z23.out.r7
    obtain ⟨t4, g4⟩ := Z23.out.r2
    go_wp2_with (first
     | refine wpList_load_mid rfl 35 (.tmp 7) rfl _ _ rfl (X.toList) _ r7 undNum rfl iX ?_
     | refine wpList_store_row rfl 35 _ _ rfl _ _ rfl rfl _ _ g4 sX lX0 oX ?_)
    have e : X = num (rootN 1 a m) := by rw [HM.out, if_pos (of_decide_eq_true HB.out), HY.out, if_pos HY1.out]; exact HX.out
    refine bp_ct (n := 4) (c := X) (x := .bool true) Tryz.results86 rfl rfl rfl (Z23.out.r2.row _) undNum i25 (by rw [e]; exact num_size _) ⟨by rw [HB.out, ← e], Z23.out.chg.setRow (by omega) _⟩
   ·have hyb : (y == 1) = false := by simp [hy1]
    have HY1 : Hid (¬ y = 1) := hy1
    clear hy1
    have r7 := rangeA Z21.out.1.r7
    obtain ⟨t4, g4⟩ := Z21.out.1.r2
    obtain ⟨sR, lR, oR⟩ := HSR.out
    go_wp2_with (first
     | refine wpList_load_mid rfl 35 (.tmp 15) rfl _ _ rfl (QQ.toList) _ r15 undNum rfl iQ ?_
     | refine wpList_load_mid rfl 35 (.tmp 8) rfl _ _ rfl (S.toList) _ r8 undNum rfl iS ?_
     | refine wpList_load_mid rfl 35 (.tmp 7) rfl _ _ rfl (RM.toList) _ r7 undNum rfl iR ?_
     | refine wpList_store_row rfl 35 _ _ rfl _ _ rfl rfl _ _ g4 sR lR oR ?_)
    have e : RM = num (rootN 1 a m) := by rw [HM.out, if_pos (of_decide_eq_true HB.out), HY.out, if_neg HY1.out]; exact HR.out
    refine bp_ct (n := 4) (c := RM) (x := .bool true) Tryz.results86 rfl rfl rfl (Z21.out.1.r2.row _) undNum i25 (by rw [e]; exact num_size _) ⟨by rw [HB.out, ← e], Z21.out.1.chg.setRow (by omega) _⟩
 | false =>
  have hC : Hid (X1 = RM) := HC.out
  have r6 := rangeA Z11.out.1.r6
  go_wp2_with (first
   | refine wpList_load_mid rfl 35 (.tmp 13) rfl _ _ rfl (Q1.toList) _ r13 undNum rfl iQ1 ?_
   | refine wpList_load_mid rfl 35 (.tmp 8) rfl _ _ rfl (S.toList) _ r8 undNum rfl iS ?_
   | refine wpList_load_mid rfl 35 (.tmp 6) rfl _ _ rfl (M.toList) _ r6 undNum rfl iM ?_)
  rw [num_set1, num_set2]
  go_at_call 102
  refine (HMi.out _).mono ?_
  rintro r' w12 ⟨rfl, hc12⟩
  go_wp2_with fail
  go_at_call 117
  refine (HH2.out.1 _).mono ?_
  rintro r' w13 ⟨rfl, hc13⟩
  go_wp2_with fail
  go_at_call 117
  refine (HH2.out.2 _).mono ?_
  rintro r' w14 ⟨rfl, hc14⟩
  go_wp2_with fail
  go_at_call 113
  refine (HE2.out _).mono ?_
  rintro r' w15 ⟨rfl, hc15⟩
  have Z15 : Hid (RR w w15 b6 b7 b8 A M R1 S) := (((Z11.out.1.to hc12).to hc13).to hc14).to hc15
  clear hc12 hc13 hc14 hc15 Z11 r13 r8 r6 hq1 HC HEQ1
  obtain ⟨sI, lI, oI, iI⟩ := HSI.out
  go_upto_region 15 with (first | refine wpList_store_row rfl 35 _ _ rfl _ _ rfl rfl _ _ (heap_alloc_last w15 _) sI lI oI ?_)
  obtain ⟨b14, hb14⟩ : ∃ b, b = w15.heap.size := ⟨_, rfl⟩
  obtain ⟨w16, hw16⟩ : ∃ w4, w4 = (w15.alloc (.cells (num 0) 35)).setRow w15.heap.size I := ⟨_, rfl⟩
  have Z16 : Hid (RR w w16 b6 b7 b8 A M R1 S ∧ Ar w16 b14 I) := by
   rw [hw16, hb14]
   exact Z15.out.new _ _ _
  rw [← hw16, ← hb14]
  clear hw16 hb14 Z15 sI lI oI
  have r7 := rangeA Z16.out.1.r7
  have r14 := rangeA Z16.out.2
  go_wp2_with (first
   | refine wpList_load_mid rfl 35 (.tmp 7) rfl _ _ rfl (R1.toList) _ r7 undNum rfl iR1 ?_
   | refine wpList_load_mid rfl 35 (.tmp 14) rfl _ _ rfl (I.toList) _ r14 undNum rfl iI ?_)
  go_at_call 32
  refine (HK1.out.2 _).mono ?_
  rintro r' w17 ⟨rfl, hc17⟩
  have Z17 : Hid (RR w w17 b6 b7 b8 A M R1 S) := Z16.out.1.to hc17
  clear hc17 r7 r14 Z16
  obtain ⟨sX1, lX1, oX1⟩ := HSX1.out
  obtain ⟨t7, g7⟩ := Z17.out.r7
  go_upto_region 16 with (first | refine wpList_store_row rfl 35 _ _ rfl _ _ rfl rfl _ _ g7 sX1 lX1 oX1 ?_)
  obtain ⟨w18, hw18⟩ : ∃ w4, w4 = w17.setRow b7 X1 := ⟨_, rfl⟩
  have Z19 : Hid (RR w w18 b6 b7 b8 A M RM S) := by
   rw [hw18, hC.out]
   exact Z17.out.put7 RM
  rw [← hw18]
  clear hw18 hC Z17 g7 sX1 lX1 oX1
  have r7 := rangeA Z19.out.r7
  obtain ⟨iA, iR, iS, iM⟩ := HI.out
  go_wp2_with (first
   | refine wpList_load_mid rfl 35 (.tmp 7) rfl _ _ rfl (RM.toList) _ r7 undNum rfl iR ?_)
  go_at_call 32
  refine (HT.out.1 _).mono ?_
  rintro r' w20 ⟨rfl, hc20⟩
  have Z20 : Hid (RR w w20 b6 b7 b8 A M RM S) := Z19.out.to hc20
  clear hc20 r7
  obtain ⟨sQ, lQ, oQ, iQ⟩ := HSQ.out
  go_upto_region 17 with (first | refine wpList_store_row rfl 35 _ _ rfl _ _ rfl rfl _ _ (heap_alloc_last w20 _) sQ lQ oQ ?_)
  obtain ⟨b15, hb15⟩ : ∃ b, b = w20.heap.size := ⟨_, rfl⟩
  obtain ⟨w21, hw21⟩ : ∃ w4, w4 = (w20.alloc (.cells (num 0) 35)).setRow w20.heap.size QQ := ⟨_, rfl⟩
  have Z21 : Hid (RR w w21 b6 b7 b8 A M RM S ∧ Ar w21 b15 QQ) := by
   rw [hw21, hb15]
   exact Z20.out.new _ _ _
  rw [← hw21, ← hb15]
  clear hw21 hb15 Z20 sQ lQ oQ
  have r15 := rangeA Z21.out.2
  have r8 := rangeA Z21.out.1.r8
  have hq := HEQ.out
  clear Z19
  cases bb with
  | false =>
   obtain ⟨t4, g4⟩ := Z21.out.1.r2
   go_wp2_with (first
    | refine wpList_load_mid rfl 35 (.tmp 15) rfl _ _ rfl (QQ.toList) _ r15 undNum rfl iQ ?_
    | refine wpList_load_mid rfl 35 (.tmp 8) rfl _ _ rfl (S.toList) _ r8 undNum rfl iS ?_
    | refine wpList_store_row rfl 35 _ _ rfl _ _ rfl rfl _ _ g4 (szN 0) rfl (num_one 0) ?_)
   have e : rootN 1 a m = 0 := by rw [HM.out, if_neg (of_decide_eq_false HB.out)]
   refine bp_ct (n := 4) (c := num 0) (x := .bool false) Tryz.results86 rfl rfl rfl (Z21.out.1.r2.row _) undNum i25 (num_size 0) ⟨by rw [HB.out, e], Z21.out.1.chg.setRow (by omega) _⟩
  | true =>
   have c7 : w21.cell? ⟨b7, 0, none⟩ = some (.int .u64 (dg B64 m 0)) := by
    have h := Z21.out.1.r7
    rw [HR.out] at h
    exact (h.cell 0).trans (arr_get _ _ _ (by decide))
   have em := low_bit m
   obtain ⟨d, hd⟩ : ∃ d, d = dg B64 m 0 := ⟨_, rfl⟩
   obtain ⟨y, hy⟩ : ∃ y, y = dg 2 m 0 := ⟨_, rfl⟩
   rw [← hd] at c7 em
   rw [← hy] at em
   have HY : Hid (dg 2 m 0 = y) := hy.symm
   clear hd hy
   by_cases hy1 : y = 1
   ·have hyb : (y == 1) = true := by simp [hy1]
    have HY1 : Hid (y = 1) := hy1
    clear hy1
    have r7 := rangeA Z21.out.1.r7
    go_wp2_with (first
     | refine wpList_load_mid rfl 35 (.tmp 15) rfl _ _ rfl (QQ.toList) _ r15 undNum rfl iQ ?_
     | refine wpList_load_mid rfl 35 (.tmp 8) rfl _ _ rfl (S.toList) _ r8 undNum rfl iS ?_
     | refine wpList_load_mid rfl 35 (.tmp 7) rfl _ _ rfl (RM.toList) _ r7 undNum rfl iR ?_)
    go_at_call 118
    refine (HT.out.2 _).mono ?_
    rintro r' w22 ⟨rfl, hc22⟩
    have Z22 : Hid (RR w w22 b6 b7 b8 A M RM S) := Z21.out.1.to hc22
    clear hc22 r7 r15 r8 c7 Z21 hq
    obtain ⟨sX, lX, lX0, oX, iX⟩ := HSX.out
    obtain ⟨t7, g7⟩ := Z22.out.r7
    go_upto_region 21 with (first | refine wpList_store_row rfl 35 _ _ rfl _ _ rfl rfl _ _ g7 sX lX oX ?_)
    obtain ⟨w23, hw23⟩ : ∃ w4, w4 = w22.setRow b7 X := ⟨_, rfl⟩
    have Z23 : Hid (RR w w23 b6 b7 b8 A M X S) := by rw [hw23]; exact Z22.out.put7 X
    rw [← hw23]
    clear hw23 Z22 g7
    have r7 := rangeA Z23.out.r7
    obtain ⟨t4, g4⟩ := Z23.out.r2
    go_wp2_with (first
     | refine wpList_load_mid rfl 35 (.tmp 7) rfl _ _ rfl (X.toList) _ r7 undNum rfl iX ?_
     | refine wpList_store_row rfl 35 _ _ rfl _ _ rfl rfl _ _ g4 sX lX0 oX ?_)
    have e : X = num (rootN 1 a m) := by rw [HM.out, if_pos (of_decide_eq_true HB.out), HY.out, if_pos HY1.out]; exact HX.out
    refine bp_ct (n := 4) (c := X) (x := .bool true) Tryz.results86 rfl rfl rfl (Z23.out.r2.row _) undNum i25 (by rw [e]; exact num_size _) ⟨by rw [HB.out, ← e], Z23.out.chg.setRow (by omega) _⟩
   ·have hyb : (y == 1) = false := by simp [hy1]
    have HY1 : Hid (¬ y = 1) := hy1
    clear hy1
    have r7 := rangeA Z21.out.1.r7
    obtain ⟨t4, g4⟩ := Z21.out.1.r2
    obtain ⟨sR, lR, oR⟩ := HSR.out
    go_wp2_with (first
     | refine wpList_load_mid rfl 35 (.tmp 15) rfl _ _ rfl (QQ.toList) _ r15 undNum rfl iQ ?_
     | refine wpList_load_mid rfl 35 (.tmp 8) rfl _ _ rfl (S.toList) _ r8 undNum rfl iS ?_
     | refine wpList_load_mid rfl 35 (.tmp 7) rfl _ _ rfl (RM.toList) _ r7 undNum rfl iR ?_
     | refine wpList_store_row rfl 35 _ _ rfl _ _ rfl rfl _ _ g4 sR lR oR ?_)
    have e : RM = num (rootN 1 a m) := by rw [HM.out, if_pos (of_decide_eq_true HB.out), HY.out, if_neg HY1.out]; exact HR.out
    refine bp_ct (n := 4) (c := RM) (x := .bool true) Tryz.results86 rfl rfl rfl (Z21.out.1.r2.row _) undNum i25 (by rw [e]; exact num_size _) ⟨by rw [HB.out, ← e], Z21.out.1.chg.setRow (by omega) _⟩
def rtN (f a : Int) : Int := if f = 1 then rootN 1 a (mr1 a) else if f = 2 then rootN 2 a (a ^ e256.toNat % mo 2) else 0
def rtB (f a : Int) : Bool := if f = 1 then decide (mr1 a * mr1 a % mo 1 = a % mo 1) else if f = 2 then decide ((a ^ e256.toNat % mo 2) * (a ^ e256.toNat % mo 2) % mo 2 = a % mo 2) else false
theorem rootN_N {f a m : Int} (hf : f = 1 ∨ f = 2 ∨ f = 3 ∨ f = 4) (hm : N256 m) : N256 (rootN f a m) := by
 unfold rootN
 split
 ·split
  ·exact N_mod hf _
  ·exact hm
 ·exact ⟨by decide, by decide⟩
theorem rtN_N (f a : Int) : N256 (rtN f a) := by
 unfold rtN
 split
 ·exact rootN_N (.inl rfl) (mr1_N a)
 ·split
  ·exact rootN_N (.inr (.inl rfl)) (N_mod (.inr (.inl rfl)) _)
  ·exact ⟨by decide, by decide⟩
set_option maxHeartbeats 16000000 in
theorem rootR0_any (f a : Int) (h1 : ¬ f = 1) (h2 : ¬ f = 2) (ha : N256 a) (w : World) : Calls Tryz.prog 86 #[.int .i64 f, .agg (num a)] w fun r w' => r = .returned (.tuple #[.agg (num 0), .bool false]) ∧ Chg w w' := by
 have e1 : (f == 1) = false := by simp [h1]
 have e2 : (f == 2) = false := by simp [h2]
 have hz := zero25.1
 have hsA := num_size a
 obtain ⟨A, hA⟩ : ∃ A, A = num a := ⟨_, rfl⟩
 obtain ⟨M, hMo⟩ : ∃ A, A = num (mo f) := ⟨_, rfl⟩
 obtain ⟨S, hS⟩ : ∃ A, A = num (md f (a * 1)) := ⟨_, rfl⟩
 have HMu : Hid (∀ W, Calls Tryz.prog 32 #[.int .i64 f, .agg A, .agg (num 1)] W fun r w' => r = .returned (.agg S) ∧ Chg W w') := fun W => by
  rw [hA, hS]
  exact mulR_any f a 1 ha N1 W
 have HMo : Hid (∀ W, Calls Tryz.prog 42 #[.int .i64 f] W fun r w' => r = .returned (.agg M) ∧ Chg W w') := fun W => by rw [hMo]; exact modulusR_any f W
 have HSM : Hid (((Tryz.prog.info? 35).map (·.size) = some M.size ∧ (num 0).size = M.size ∧ M.all (·.oneCell') = true) ∧ (Tryz.prog.info? 35).map (·.size) = some S.size ∧ (num 0).size = S.size ∧ S.all (·.oneCell') = true) := by rw [hMo, hS]; exact ⟨⟨szN _, lenN _ _, num_one _⟩, szN _, lenN _ _, num_one _⟩
 have HI : Hid ((Tryz.prog.info? 35).map (·.size) = some A.toList.length ∧ True ∧ True ∧ True) := by rw [hA]; exact ⟨infoN _, trivial, trivial, trivial⟩
 rw [← hA] at hsA ⊢
 clear hA hMo hS ha h1 h2
 go_enter Tryz.func86, Tryz.ntmps86
 go_upto_region 1 with fail
 obtain ⟨w1, hw1⟩ : ∃ w1, w1 = (w.alloc (.cells A 35)).alloc (.cells (num 0) 35) := ⟨_, rfl⟩
 have Z1 : Hid (Chg w w1 ∧ Ar w1 w.heap.size A ∧ Ar w1 (w.heap.size + 1) (num 0)) := by
  rw [hw1]
  exact ⟨((Chg.refl w).alloc _).alloc _, (Ar.new w _ _).alloc _, Ar.new1 w _ _ _⟩
 rw [← hw1]
 clear hw1 hsA
 go_wp2_with fail
 go_at_call 42
 refine (HMo.out _).mono ?_
 rintro r' w2 ⟨rfl, hc2⟩
 have Z2 : Hid (Chg w w2 ∧ Ar w2 w.heap.size A ∧ Ar w2 (w.heap.size + 1) (num 0)) := ⟨Z1.out.1.trans hc2, Z1.out.2.1.chg hc2, Z1.out.2.2.chg hc2⟩
 clear hc2 Z1
 obtain ⟨⟨sM, lM, oM⟩, sS, lS, oS⟩ := HSM.out
 go_upto_region 2 with (first | refine wpList_store_row rfl 35 _ _ rfl _ _ rfl rfl _ _ (heap_alloc_last w2 _) sM lM oM ?_)
 obtain ⟨b6, hb6⟩ : ∃ b, b = w2.heap.size := ⟨_, rfl⟩
 obtain ⟨w3, hw3⟩ : ∃ w4, w4 = (w2.alloc (.cells (num 0) 35)).setRow w2.heap.size M := ⟨_, rfl⟩
 have Z3 : Hid (Chg w w3 ∧ Ar w3 w.heap.size A ∧ Ar w3 (w.heap.size + 1) (num 0) ∧ Ar w3 b6 M ∧ w.heap.size + 1 < b6) := by
  have hl := Z2.out.2.2.lt
  have k : Chg w2 ((w2.alloc (.cells (num 0) 35)).setRow w2.heap.size M) := ((Chg.refl w2).alloc _).setRow (Nat.le_refl _) _
  rw [hw3, hb6]
  exact ⟨Z2.out.1.trans k, Z2.out.2.1.chg k, Z2.out.2.2.chg k, (Ar.new w2 _ _).row _, hl⟩
 rw [← hw3, ← hb6]
 clear hw3 hb6 Z2 sM lM oM
 go_upto_region 3 with (first | refine wpList_store_row rfl 35 _ _ rfl _ _ rfl rfl _ _ (heap_alloc_last w3 _) (szN 0) rfl (num_one 0) ?_)
 obtain ⟨b7, hb7⟩ : ∃ b, b = w3.heap.size := ⟨_, rfl⟩
 obtain ⟨w4, hw4⟩ : ∃ w4, w4 = (w3.alloc (.cells (num 0) 35)).setRow w3.heap.size (num 0) := ⟨_, rfl⟩
 have Z4 : Hid (Chg w w4 ∧ Ar w4 w.heap.size A ∧ Ar w4 (w.heap.size + 1) (num 0) ∧ Ar w4 b6 M ∧ Ar w4 b7 (num 0) ∧ w.heap.size + 1 < b6 ∧ b6 < b7) := by
  have hl := Z3.out.2.2.2.1.lt
  have k : Chg w3 ((w3.alloc (.cells (num 0) 35)).setRow w3.heap.size (num 0)) := ((Chg.refl w3).alloc _).setRow (Nat.le_refl _) _
  rw [hw4, hb7]
  exact ⟨Z3.out.1.trans k, Z3.out.2.1.chg k, Z3.out.2.2.1.chg k, Z3.out.2.2.2.1.chg k, (Ar.new w3 _ _).row _, Z3.out.2.2.2.2, hl⟩
 rw [← hw4, ← hb7]
 clear hw4 hb7 Z3
 obtain ⟨iA, -⟩ := HI.out
 have r3 := rangeA Z4.out.2.1
 go_wp2_with (first
  | refine wpList_load_mid rfl 35 (.tmp 3) rfl _ _ rfl (A.toList) _ r3 undNum rfl iA ?_)
 rw [num_set1]
 go_at_call 32
 refine (HMu.out _).mono ?_
 rintro r' w5 ⟨rfl, hc5⟩
 have Z5 : Hid (Chg w w5 ∧ Ar w5 w.heap.size A ∧ Ar w5 (w.heap.size + 1) (num 0) ∧ Ar w5 b6 M ∧ Ar w5 b7 (num 0) ∧ w.heap.size + 1 < b6 ∧ b6 < b7) := ⟨Z4.out.1.trans hc5, Z4.out.2.1.chg hc5, Z4.out.2.2.1.chg hc5, Z4.out.2.2.2.1.chg hc5, Z4.out.2.2.2.2.1.chg hc5, Z4.out.2.2.2.2.2⟩
 clear hc5 Z4 r3
 go_upto_region 4 with (first | refine wpList_store_row rfl 35 _ _ rfl _ _ rfl rfl _ _ (heap_alloc_last w5 _) sS lS oS ?_)
 obtain ⟨b8, hb8⟩ : ∃ b, b = w5.heap.size := ⟨_, rfl⟩
 obtain ⟨w6, hw6⟩ : ∃ w4, w4 = (w5.alloc (.cells (num 0) 35)).setRow w5.heap.size S := ⟨_, rfl⟩
 have Z6 : Hid (RR w w6 b6 b7 b8 A M (num 0) S) := by
  have hl := Z5.out.2.2.2.2.1.lt
  have k : Chg w5 ((w5.alloc (.cells (num 0) 35)).setRow w5.heap.size S) := ((Chg.refl w5).alloc _).setRow (Nat.le_refl _) _
  obtain ⟨q0, q1, q2, q3, q4, l6, l7⟩ := Z5.out
  rw [hw6, hb8]
  exact ⟨q0.trans k, q1.chg k, q2.chg k, q3.chg k, q4.chg k, (Ar.new w5 _ _).row _, l6, l7, hl⟩
 rw [← hw6, ← hb8]
 clear hw6 hb8 Z5 sS lS oS
 obtain ⟨t4, g4⟩ := Z6.out.r2
 go_wp2_with (first | refine wpList_store_row rfl 35 _ _ rfl _ _ rfl rfl _ _ g4 (szN 0) rfl (num_one 0) ?_)
 exact bp_ct (n := 4) (c := num 0) (x := .bool false) Tryz.results86 rfl rfl rfl (Z6.out.r2.row _) undNum i25 (num_size 0) ⟨rfl, Z6.out.chg.setRow (by omega) _⟩
set_option maxHeartbeats 16000000 in
theorem root0_any (f a : Int) (h1 : ¬ f = 1) (h2 : ¬ f = 2) (w : World) : Calls Tryz.prog 103 #[.int .i64 f, .agg (num a)] w fun r w' => r = .returned (.tuple #[.agg (num 0), .bool false]) ∧ Chg w w' := by
 have e1 : (f == 1) = false := by simp [h1]
 have e2 : (f == 2) = false := by simp [h2]
 have hz := zero25.1
 have hsA := num_size a
 obtain ⟨A, hA⟩ : ∃ A, A = num a := ⟨_, rfl⟩
 rw [← hA] at hsA ⊢
 clear hA h1 h2
 go_enter Tryz.func103, Tryz.ntmps103
 go_upto_region 2 with fail
 obtain ⟨w1, hw1⟩ : ∃ w1, w1 = ((w.alloc (.cells A 35)).alloc (.cells (num 0) 35)).alloc (.cells (num 0) 35) := ⟨_, rfl⟩
 have Z : Hid (Chg w w1 ∧ Ar w1 (w.heap.size + 1) (num 0)) := by
  rw [hw1]
  exact ⟨(((Chg.refl w).alloc _).alloc _).alloc _, (Ar.new1 w _ _ _).alloc _⟩
 rw [← hw1]
 clear hw1 hsA
 obtain ⟨t4, g4⟩ := Z.out.2
 go_wp2_with (first | refine wpList_store_row rfl 35 _ _ rfl _ _ rfl rfl _ _ g4 (szN 0) rfl (num_one 0) ?_)
 exact bp_ct (n := 4) (c := num 0) (x := .bool false) Tryz.results103 rfl rfl rfl (Z.out.2.row _) undNum i25 (num_size 0) ⟨rfl, Z.out.1.setRow (by omega) _⟩
theorem rootP_any (f a : Int) (ha : N256 a) (w : World) : Calls Tryz.prog 103 #[.int .i64 f, .agg (num a)] w fun r w' => r = .returned (.tuple #[.agg (num (rtN f a)), .bool (rtB f a)]) ∧ Chg w w' := by
 unfold rtN rtB
 by_cases h1 : f = 1
 ·subst h1
  rw [if_pos rfl, if_pos rfl]
  exact root1_any a ha w
 ·by_cases h2 : f = 2
  ·subst h2
   rw [if_neg h1, if_pos rfl, if_neg h1, if_pos rfl]
   exact root2_any a ha w
  ·rw [if_neg h1, if_neg h2, if_neg h1, if_neg h2]
   exact root0_any f a h1 h2 w
theorem rootR_any (f a : Int) (ha : N256 a) (w : World) : Calls Tryz.prog 86 #[.int .i64 f, .agg (num a)] w fun r w' => r = .returned (.tuple #[.agg (num (rtN f a)), .bool (rtB f a)]) ∧ Chg w w' := by
 unfold rtN rtB
 by_cases h1 : f = 1
 ·subst h1
  rw [if_pos rfl, if_pos rfl]
  exact rootR1_any a ha w
 ·by_cases h2 : f = 2
  ·subst h2
   rw [if_neg h1, if_pos rfl, if_neg h1, if_pos rfl]
   exact rootR2_any a ha w
  ·rw [if_neg h1, if_neg h2, if_neg h1, if_neg h2]
   exact rootR0_any f a h1 h2 ha w
end Go.Proofs.YtjfidbifjagnpaaGreatDoor
