/-
  A point so many times, both together: the program.
  A point so many times: the document.
-/
import Derived.Test.YtbdgmkejmfjobaaPo
import Derived.Test.YtbdgmkejmfjobaaPl
import Derived.Test.YtbdgmkejmfjobaaJf
import Derived.Test.YtbdgmkejmfjobaaJi
import Derived.Test.YtbdgmkejmfjobaaDp
namespace Go.Proofs.Ytbdgmkejmfjobaa
open Go.RowKit
set_option linter.unusedVariables false
set_option maxRecDepth 100000
set_option maxHeartbeats 8000000 in
theorem bitQ_any (x : Int) (i : Nat) (hi : i < 256) (w : World) : Calls Try.prog 75 #[.agg (num x), .int .i64 i] w fun r w' => r = .returned (.bool (dg 2 x i == 1)) ∧ Chg w w' := by
 have hsA := num_size x
 obtain ⟨A, hA⟩ : ∃ A, A = num x := ⟨_, rfl⟩
 have HA : Hid (A = num x) := hA
 rw [← hA] at hsA ⊢
 obtain ⟨q, hq⟩ : ∃ q : Nat, (i : Int).tdiv 64 = q := ⟨i / 64, by rw [Int.tdiv_eq_ediv_of_nonneg (by omega)]; omega⟩
 obtain ⟨t, ht⟩ : ∃ t : Nat, (i : Int).tmod 64 = t := ⟨i % 64, by rw [Int.tmod_eq_emod_of_nonneg (by omega)]; omega⟩
 have hq' : q = i / 64 := by rw [Int.tdiv_eq_ediv_of_nonneg (by omega)] at hq; omega
 have ht' : t = i % 64 := by rw [Int.tmod_eq_emod_of_nonneg (by omega)] at ht; omega
 have wq := wrap_i (x := (q : Int)) (by omega) (by omega)
 have wt := wrap_i (x := (t : Int)) (by omega) (by omega)
 have lt : ¬ (t : Int) < 0 := by omega
 have lt64 : t < 64 := by omega
 have lq : (q : Int) < 4 := by omega
 have lq' : q < 4 := by omega
 have hdw : W64 (dg B64 x q) := dg_w x q
 have hsw : W64 (dg B64 x q / 2 ^ t) := by
  have ⟨h0, h1⟩ := hdw
  have hp : (0 : Int) < 2 ^ t := Int.pow_pos (by decide)
  exact ⟨Int.ediv_nonneg h0 (by omega), Int.lt_of_le_of_lt (Int.ediv_le_self _ h0) h1⟩
 have em := low1 hsw
 rw [dg_bit x q t lt64] at em
 have ei : 64 * q + t = i := by omega
 rw [ei] at em
 obtain ⟨d, hd⟩ : ∃ d, d = dg B64 x q := ⟨_, rfl⟩
 obtain ⟨y, hy⟩ : ∃ y, y = dg 2 x i := ⟨_, rfl⟩
 rw [← hd, ← hy] at em
 rw [← hy]
 have HD : Hid (d = dg B64 x q) := hd
 clear hA hq' ht' hdw hsw ei hd hy
 go_enter Try.func75, Try.ntmps75
 go_upto_region 1 with fail
 obtain ⟨w1, hw1⟩ : ∃ w1, w1 = w.alloc (.cells A 24) := ⟨_, rfl⟩
 have Z : Hid (Chg w w1 ∧ Ar w1 w.heap.size (num x)) := by
  rw [hw1, HA.out]
  exact ⟨(Chg.refl w).alloc _, Ar.new w _ _⟩
 have c1 : w1.cell? ⟨w.heap.size, q, none⟩ = some (.int .u64 d) := by
  rw [HD.out]
  exact (Z.out.2.cell q).trans (arr_get _ _ _ lq')
 rw [← hw1]
 clear hw1 hsA
 go_wp2_with fail
 go_ret
 exact ⟨rfl, Z.out.1⟩
theorem bitL_any (x : Int) (i : Nat) (hi : i < 256) {b : Bool} (h : (dg 2 x i == 1) = b) (w : World) : Calls Try.prog 75 #[.agg (num x), .int .i64 i] w fun r w' => r = .returned (.bool b) ∧ Chg w w' := by
 rw [← h]
 exact bitQ_any x i hi w
theorem half_bit (n : Int) (hn : 0 ≤ n) (i : Nat) : n.toNat / 2 ^ i = 2 * (n.toNat / 2 ^ (i + 1)) + (dg 2 n i).toNat := by
 obtain ⟨m, rfl⟩ := Int.eq_ofNat_of_zero_le hn
 rw [Int.toNat_natCast]
 have e : (dg 2 (m : Int) i).toNat = m / 2 ^ i % 2 := by
  unfold dg
  rw [show (2 : Int) ^ i = ((2 ^ i : Nat) : Int) by simp, ← Int.natCast_ediv, show (2 : Int) = ((2 : Nat) : Int) from rfl, ← Int.natCast_emod, Int.toNat_natCast]
 rw [e, Nat.pow_succ, ← Nat.div_div_eq_div_mul]
 omega
theorem top_bit {n : Int} (hn : N256 n) : n.toNat / 2 ^ 256 = 0 := by
 refine Nat.div_eq_of_lt ?_
 have h0 := hn.1
 have h1 := hn.2
 have e : (2 : Nat) ^ 256 = 115792089237316195423570985008687907853269984665640564039457584007913129639936 := by decide +kernel
 rw [e]
 have e2 : R256 = 115792089237316195423570985008687907853269984665640564039457584007913129639936 := rfl
 rw [e2] at h1
 omega
theorem bit_val (n : Int) (i : Nat) {b : Bool} (h : (dg 2 n i == 1) = b) : (dg 2 n i).toNat = if b then 1 else 0 := by
 have h2 := dg_bound (B := 2) (by decide) n i
 cases b with
 | true =>
  have h1 : dg 2 n i = 1 := by simpa using h
  rw [h1]
  rfl
 | false =>
  have h1 : ¬ dg 2 n i = 1 := by simpa using h
  have h0 : dg 2 n i = 0 := by omega
  rw [h0]
  rfl
theorem AW_comm {A B : PQt} (ha : ONW A) (hb : ONW B) : AW A B = AW B A := wad_comm smoQ ha hb
theorem AW_assoc {A B E : PQt} (ha : ONW A) (hb : ONW B) (he : ONW E) : AW (AW A B) E = AW A (AW B E) := wad_assoc smoQ ha hb he
theorem AW_four {A B E F : PQt} (ha : ONW A) (hb : ONW B) (he : ONW E) (hf : ONW F) : AW (AW A B) (AW E F) = AW (AW A E) (AW B F) := by
 rw [AW_assoc ha hb (he.ad hf), ← AW_assoc hb he hf, AW_comm hb he, AW_assoc he hb hf, ← AW_assoc ha he (hb.ad hf)]
theorem MW_dbl {A : PQt} (h : ONW A) (n : Nat) : AW (MW A n) (MW A n) = MW A (2 * n) := by rw [← MW_add h, Nat.two_mul]
theorem both_dbl {A B : PQt} (ha : ONW A) (hb : ONW B) (m n : Nat) : AW (AW (MW A m) (MW B n)) (AW (MW A m) (MW B n)) = AW (MW A (2 * m)) (MW B (2 * n)) := by
 rw [AW_four (ha.mu m) (hb.mu n) (ha.mu m) (hb.mu n), MW_dbl ha, MW_dbl hb]
theorem both_one {A B : PQt} (ha : ONW A) (hb : ONW B) (m n : Nat) : AW (AW (MW A m) (MW B n)) A = AW (MW A (m + 1)) (MW B n) := by
 rw [AW_assoc (ha.mu m) (hb.mu n) ha, AW_comm (hb.mu n) ha, ← AW_assoc (ha.mu m) ha (hb.mu n), ← MW_succ ha]
theorem both_two {A B : PQt} (ha : ONW A) (hb : ONW B) (m n : Nat) : AW (AW (MW A m) (MW B n)) B = AW (MW A m) (MW B (n + 1)) := by
 rw [AW_assoc (ha.mu m) (hb.mu n) hb, ← MW_succ hb]
set_option maxHeartbeats 16000000 in
theorem bothQ_any (nj nk x y z x' y' z' : Int) (P Q : PQt) (hj : N256 nj) (hk : N256 nk) (h1 : TQ x y z P) (h2 : TQ x' y' z' Q) (w : World) : Calls Try.prog 57 #[.agg (num nj), .agg (q3 x y z), .agg (num nk), .agg (q3 x' y' z')] w fun r w' => ∃ X Y Z, r = .returned (.agg (q3 X Y Z)) ∧ TQ X Y Z (AW (MW P nj.toNat) (MW Q nk.toNat)) ∧ Chg w w' := by
 have HN : Hid (N256 nj ∧ N256 nk) := ⟨hj, hk⟩
 have H1 : Hid (TQ x y z P) := h1
 have H2 : Hid (TQ x' y' z' Q) := h2
 clear hj hk h1 h2
 have hz0 := zeroTr.1
 have hsA0 := num_size nj
 obtain ⟨A0, hA0⟩ : ∃ zz0, zz0 = num nj := ⟨_, rfl⟩
 have HA0 : Hid (A0 = num nj) := hA0
 have hsA1 := q3_size x y z
 obtain ⟨A1, hA1⟩ : ∃ zz0, zz0 = q3 x y z := ⟨_, rfl⟩
 have HA1 : Hid (A1 = q3 x y z) := hA1
 have hsA2 := num_size nk
 obtain ⟨A2, hA2⟩ : ∃ zz0, zz0 = num nk := ⟨_, rfl⟩
 have HA2 : Hid (A2 = num nk) := hA2
 have hsA3 := q3_size x' y' z'
 obtain ⟨A3, hA3⟩ : ∃ zz0, zz0 = q3 x' y' z' := ⟨_, rfl⟩
 have HA3 : Hid (A3 = q3 x' y' z') := hA3
 rw [← hA0] at hsA0 ⊢
 rw [← hA1] at hsA1 ⊢
 rw [← hA2] at hsA2 ⊢
 rw [← hA3] at hsA3 ⊢
 clear hA0 hA1 hA2 hA3
 go_enter Try.func57, Try.ntmps57
 go_upto_region 1 with fail
 obtain ⟨w1, hw1⟩ : ∃ w1, w1 = ((((w.alloc (.cells A0 24)).alloc (.cells A1 49)).alloc (.cells A2 24)).alloc (.cells A3 49)).alloc (.cells (q3 0 0 0) 49) := ⟨_, rfl⟩
 have Z1 : Hid (Chg w w1 ∧ Ar w1 w.heap.size (num nj) ∧ Ar w1 (w.heap.size + 1) (q3 x y z) ∧ Ar w1 (w.heap.size + 1 + 1) (num nk) ∧ Ar w1 (w.heap.size + 1 + 1 + 1) (q3 x' y' z') ∧ Ar w1 (w.heap.size + 1 + 1 + 1 + 1) (q3 0 0 0)) := by
  have hnew0 := Ar.new w (num nj) 24
  have hnew1 := Ar.new (w.alloc (.cells (num nj) 24)) (q3 x y z) 49
  rw [World.size_alloc] at hnew1
  have hnew2 := Ar.new ((w.alloc (.cells (num nj) 24)).alloc (.cells (q3 x y z) 49)) (num nk) 24
  rw [World.size_alloc, World.size_alloc] at hnew2
  have hnew3 := Ar.new (((w.alloc (.cells (num nj) 24)).alloc (.cells (q3 x y z) 49)).alloc (.cells (num nk) 24)) (q3 x' y' z') 49
  rw [World.size_alloc, World.size_alloc, World.size_alloc] at hnew3
  have hnew4 := Ar.new ((((w.alloc (.cells (num nj) 24)).alloc (.cells (q3 x y z) 49)).alloc (.cells (num nk) 24)).alloc (.cells (q3 x' y' z') 49)) (q3 0 0 0) 49
  rw [World.size_alloc, World.size_alloc, World.size_alloc, World.size_alloc] at hnew4
  rw [hw1, HA0.out, HA1.out, HA2.out, HA3.out]
  exact ⟨((((((Chg.refl w).alloc _).alloc _).alloc _).alloc _).alloc _), (((((hnew0).alloc _).alloc _).alloc _).alloc _), ((((hnew1).alloc _).alloc _).alloc _), (((hnew2).alloc _).alloc _), ((hnew3).alloc _), (hnew4)⟩
 rw [← hw1]
 clear hw1 hz0 hsA0 hsA1 hsA2 hsA3 HA0 HA1 HA2 HA3
 go_cut [9] from 9 to 12 (fun v9 wc => ∃ b9, v9 = .pointer (some ⟨b9, 0, none⟩) ∧ w.heap.size ≠ b9 ∧ w.heap.size + 1 ≠ b9 ∧ w.heap.size + 1 + 1 ≠ b9 ∧ w.heap.size + 1 + 1 + 1 ≠ b9 ∧ w.heap.size + 1 + 1 + 1 + 1 ≠ b9 ∧ w.heap.size ≤ b9 ∧ Chg w wc ∧ Ar wc w.heap.size (num nj) ∧ Ar wc (w.heap.size + 1) (q3 x y z) ∧ Ar wc (w.heap.size + 1 + 1) (num nk) ∧ Ar wc (w.heap.size + 1 + 1 + 1) (q3 x' y' z') ∧ Ar wc (w.heap.size + 1 + 1 + 1 + 1) (q3 0 0 0) ∧ Ar wc b9 (q3 0 1 0))
 case first =>
  refine regP 3 (fun j v wg => match j with
   | 0 => v = .agg (pt true 0 0)
   | 1 => v = .agg (q3 0 1 0)
   | 2 => ∃ b, v = .pointer (some ⟨b, 0, none⟩) ∧ Ar wg b (q3 0 0 0) ∧ w1.heap.size ≤ b
   | _ => True) (by decide) (by kernel_rfl) ?_ ?_ ?_
  ·intro j v u1 u2 h hc
   match j, h with
   | 0, h => exact h
   | 1, h => exact h
   | 2, h => (obtain ⟨b, h1, h2, h3⟩ := h; exact ⟨b, h1, h2.chg hc, h3⟩)
   | _ + 3, h => exact trivial
  ·intro i o ac u hi ho hsz hf hg hc
   have hcs : i = 0 ∨ i = 1 ∨ i = 2 := by omega
   rcases hcs with rfl | rfl | rfl <;> (injection ho with ho; subst ho; refine .inl ⟨wanted_none rfl, ?_⟩)
   ·refine opG_go 24 Try.f24 #[] #[] rfl Try.func24 (by kernel_rfl) (by kernel_rfl) (by simp []) (Calls.mono (zeroQ_any _) ?_)
    rintro r u2 ⟨rfl, hc2⟩
    exact ⟨_, rfl, rfl, hc2⟩
   ·have e1 : ac.eval (.tmp 11) = .agg (pt true 0 0) := hg 0 (by decide) (by decide)
    refine opG_go 25 Try.f25 #[.tmp 11] #[26] rfl Try.func25 (by kernel_rfl) (by kernel_rfl) (by simp [e1]) (Calls.mono (ofQ_t _) ?_)
    rintro r u2 ⟨rfl, hc2⟩
    exact ⟨_, rfl, rfl, hc2⟩
   ·exact opG_val (v := .pointer (some ⟨u.heap.size, 0, none⟩)) (w' := u.alloc (.cells (q3 0 0 0) 49)) (by generalize ac.eval = ρ; simp [go_sem, execOp, zeroTr.1]) ⟨_, rfl, Ar.new _ _ _, hc.size⟩ ((Chg.refl _).alloc _)
  ·intro u V hV hc
   have q12 : V 1 = .agg (q3 0 1 0) := hV 1 (by decide)
   obtain ⟨b9, q9, r9, s9⟩ := hV 2 (by decide)
   have lw9 : w.heap.size ≤ b9 := Nat.le_trans Z1.out.1.size s9
   have hres0 := r9
   refine wpList_store_mid rfl 49 (.tmp 9) (.tmp 12) rfl b9 0 (q3 0 1 0) (Eq.trans (by rfl) q9) (Eq.trans (by rfl) q12) (by rw [q3_size]; exact nms_there hres0 0 3 (by omega)) (szTr _ _ _) (q3_one _ _ _) ?_
   rw [setRowTr hres0 _ _ _]
   have k0_c : Chg w (u.setRow b9 (q3 0 1 0)) := ((Z1.out.1.trans hc).setRow lw9 _)
   have k0_B4 := (Z1.out.2.1.chg hc).rowOther (Z1.out.2.1.apart s9) (q3 0 1 0)
   have k0_B5 := (Z1.out.2.2.1.chg hc).rowOther (Z1.out.2.2.1.apart s9) (q3 0 1 0)
   have k0_B6 := (Z1.out.2.2.2.1.chg hc).rowOther (Z1.out.2.2.2.1.apart s9) (q3 0 1 0)
   have k0_B7 := (Z1.out.2.2.2.2.1.chg hc).rowOther (Z1.out.2.2.2.2.1.apart s9) (q3 0 1 0)
   have k0_B8 := (Z1.out.2.2.2.2.2.chg hc).rowOther (Z1.out.2.2.2.2.2.apart s9) (q3 0 1 0)
   have k0_B9 := hres0.row (q3 0 1 0)
   generalize (u.setRow b9 (q3 0 1 0)) = u10 at k0_c k0_B4 k0_B5 k0_B6 k0_B7 k0_B8 k0_B9 ⊢
   go_wp2_with fail
   go_meet
   exact ⟨b9, q9, Z1.out.2.1.apart s9, Z1.out.2.2.1.apart s9, Z1.out.2.2.2.1.apart s9, Z1.out.2.2.2.2.1.apart s9, Z1.out.2.2.2.2.2.apart s9, lw9, k0_c, k0_B4, k0_B5, k0_B6, k0_B7, k0_B8, k0_B9⟩
 obtain ⟨b9, rfl, of0, of1, of2, of3, of4, of5, hz⟩ := hcut
 obtain ⟨w2, hw2⟩ : ∃ zz0, zz0 = wc := ⟨_, rfl⟩
 rw [← hw2] at hz ⊢
 have Z2 : Hid _ := hz
 have O2_0 : Hid _ := of0
 have O2_1 : Hid _ := of1
 have O2_2 : Hid _ := of2
 have O2_3 : Hid _ := of3
 have O2_4 : Hid _ := of4
 have O2_5 : Hid _ := of5
 clear hw2 hz of0 of1 of2 of3 of4 of5 Z1
 go_wp2_with fail
 go_loopw [13] (fun v wr => ∃ (i : Nat) (X Y Z : Int), v = .int .i64 i ∧ i ≤ 256 ∧ TQ X Y Z (AW (MW P (nj.toNat / 2 ^ (256 - i))) (MW Q (nk.toNat / 2 ^ (256 - i)))) ∧ Chg w wr ∧ Ar wr w.heap.size (num nj) ∧ Ar wr (w.heap.size + 1) (q3 x y z) ∧ Ar wr (w.heap.size + 1 + 1) (num nk) ∧ Ar wr (w.heap.size + 1 + 1 + 1) (q3 x' y' z') ∧ Ar wr (w.heap.size + 1 + 1 + 1 + 1) (q3 0 0 0) ∧ Ar wr b9 (q3 X Y Z)) (fun v wr => 256 - (intOf v).toNat)
 case atStart =>
  refine ⟨0, _, _, _, rfl, by omega, ?_, Z2.out⟩
  rw [show 256 - 0 = 256 from rfl, top_bit HN.out.1, top_bit HN.out.2]
  exact TQ.zero
 case round =>
  clear Z2
  obtain ⟨i, X, Y, Z, rfl, hi, k2, k1⟩ := hrel
  obtain ⟨w2, hw2⟩ : ∃ zz0, zz0 = wr := ⟨_, rfl⟩
  rw [← hw2] at k1 ⊢
  clear hw2
  have Z2 : Hid (Chg w w2 ∧ Ar w2 w.heap.size (num nj) ∧ Ar w2 (w.heap.size + 1) (q3 x y z) ∧ Ar w2 (w.heap.size + 1 + 1) (num nk) ∧ Ar w2 (w.heap.size + 1 + 1 + 1) (q3 x' y' z') ∧ Ar w2 (w.heap.size + 1 + 1 + 1 + 1) (q3 0 0 0) ∧ Ar w2 b9 (q3 X Y Z)) := k1
  have HP : Hid (TQ X Y Z (AW (MW P (nj.toNat / 2 ^ (256 - i))) (MW Q (nk.toNat / 2 ^ (256 - i))))) := k2
  clear k1 k2
  by_cases h256 : i < 256
  ·have hdi : decide ((i : Int) < 256) = true := by simp; omega
   obtain ⟨m, hm⟩ : ∃ m : Nat, (255 : Int) - (i : Int) = m := ⟨255 - i, by omega⟩
   have wm := wrap_i (x := (m : Int)) (by omega) (by omega)
   obtain ⟨i1, hi1⟩ : ∃ i1 : Nat, (i : Int) + 1 = i1 := ⟨i + 1, by omega⟩
   have wi1 := wrap_i (x := (i1 : Int)) (by omega) (by omega)
   have HI : Hid (i1 = i + 1 ∧ i < 256 ∧ m = 255 - i) := ⟨by omega, h256, by omega⟩
   obtain ⟨bj, hbj⟩ : ∃ bj : Bool, (dg 2 nj m == 1) = bj := ⟨_, rfl⟩
   obtain ⟨bk, hbk⟩ : ∃ bk : Bool, (dg 2 nk m == 1) = bk := ⟨_, rfl⟩
   have HBj : Hid ((dg 2 nj m == 1) = bj) := hbj
   have HBk : Hid ((dg 2 nk m == 1) = bk) := hbk
   obtain ⟨J, hJ⟩ : ∃ J, J = nj.toNat / 2 ^ (256 - i) := ⟨_, rfl⟩
   obtain ⟨K, hK⟩ : ∃ K, K = nk.toNat / 2 ^ (256 - i) := ⟨_, rfl⟩
   rw [← hJ, ← hK] at HP
   have HJ : Hid (nj.toNat / 2 ^ (256 - i1) = 2 * J + if bj then 1 else 0) := by
    show nj.toNat / 2 ^ (256 - i1) = 2 * J + if bj then 1 else 0
    rw [show 256 - i1 = m by omega, half_bit nj HN.out.1.1 m, ← bit_val nj m hbj, hJ, show m + 1 = 256 - i by omega]
   have HK : Hid (nk.toNat / 2 ^ (256 - i1) = 2 * K + if bk then 1 else 0) := by
    show nk.toNat / 2 ^ (256 - i1) = 2 * K + if bk then 1 else 0
    rw [show 256 - i1 = m by omega, half_bit nk HN.out.2.1 m, ← bit_val nk m hbk, hK, show m + 1 = 256 - i by omega]
   clear hJ hK hbj hbk h256 hi
   go_upto_block 1 with fail
   go_cut [11, 12, 13] from 10 to 32 (fun v11 v12 v13 wc => v11 = u11 ∧ v12 = u12 ∧ v13 = .int .i64 (i : Int) ∧ ∃ X Y Z, TQ X Y Z (AW (MW P (nj.toNat / 2 ^ (256 - i1))) (MW Q (nk.toNat / 2 ^ (256 - i1)))) ∧ Chg w wc ∧ Ar wc w.heap.size (num nj) ∧ Ar wc (w.heap.size + 1) (q3 x y z) ∧ Ar wc (w.heap.size + 1 + 1) (num nk) ∧ Ar wc (w.heap.size + 1 + 1 + 1) (q3 x' y' z') ∧ Ar wc (w.heap.size + 1 + 1 + 1 + 1) (q3 0 0 0) ∧ Ar wc b9 (q3 X Y Z))
   case first =>
    go_upto_region 5 with fail
    go_cut [] from 16 to 18 (fun wc => ∃ x18 y18 z18, TQ x18 y18 z18 (AW (AW (MW P J) (MW Q K)) (AW (MW P J) (MW Q K))) ∧ Chg w wc ∧ Ar wc w.heap.size (num nj) ∧ Ar wc (w.heap.size + 1) (q3 x y z) ∧ Ar wc (w.heap.size + 1 + 1) (num nk) ∧ Ar wc (w.heap.size + 1 + 1 + 1) (q3 x' y' z') ∧ Ar wc (w.heap.size + 1 + 1 + 1 + 1) (q3 0 0 0) ∧ Ar wc b9 (q3 x18 y18 z18))
    case first =>
     refine regP 3 (fun j v wg => match j with
      | 0 => v = .agg (q3 X Y Z)
      | 1 => v = .agg (q3 X Y Z)
      | 2 => ∃ xa ya za, v = .agg (q3 xa ya za) ∧ TQ xa ya za (AW (AW (MW P J) (MW Q K)) (AW (MW P J) (MW Q K)))
      | _ => True) (by decide) (by kernel_rfl) ?_ ?_ ?_
     ·intro j v u1 u2 h hc; exact h
     ·intro i o ac u hi ho hsz hf hg hc
      have hcs : i = 0 ∨ i = 1 ∨ i = 2 := by omega
      rcases hcs with rfl | rfl | rfl <;> (injection ho with ho; subst ho; refine .inl ⟨wanted_none rfl, ?_⟩)
      ·have e1 : ac.eval (.tmp 9) = .pointer (some ⟨b9, 0, none⟩) := hf 9 (by kernel_rfl)
       exact wp_load_mid 49 (.tmp 9) rfl _ _ e1 ((q3 X Y Z).toList) _ (rangeAp (Z2.out.2.2.2.2.2.2.chg hc)) Try.underlying49 rfl (infoTr _ _ _) ⟨_, rfl, rfl, Chg.refl _⟩
      ·have e1 : ac.eval (.tmp 9) = .pointer (some ⟨b9, 0, none⟩) := hf 9 (by kernel_rfl)
       exact wp_load_mid 49 (.tmp 9) rfl _ _ e1 ((q3 X Y Z).toList) _ (rangeAp (Z2.out.2.2.2.2.2.2.chg hc)) Try.underlying49 rfl (infoTr _ _ _) ⟨_, rfl, rfl, Chg.refl _⟩
      ·have e1 : ac.eval (.tmp 16) = .agg (q3 X Y Z) := hg 0 (by decide) (by decide)
       have e2 : ac.eval (.tmp 17) = .agg (q3 X Y Z) := hg 1 (by decide) (by decide)
       refine opG_go 26 Try.f26 #[.tmp 16, .tmp 17] #[49, 49] rfl Try.func26 (by kernel_rfl) (by kernel_rfl) (by simp [e1, e2]) (Calls.mono (plusQ_any _ _ _ _ _ _ _ _ HP.out HP.out _) ?_)
       rintro r u2 ⟨x18, y18, z18, rfl, m18, hc2⟩
       exact ⟨_, rfl, ⟨x18, y18, z18, rfl, m18⟩, hc2⟩
     ·intro u V hV hc
      obtain ⟨x18, y18, z18, q18, m18⟩ := hV 2 (by decide)
      have ordO2_0 := O2_0.out
      have ordO2_1 := O2_1.out
      have ordO2_2 := O2_2.out
      have ordO2_3 := O2_3.out
      have ordO2_4 := O2_4.out
      have ordO2_5 := O2_5.out
      have hres0 := (Z2.out.2.2.2.2.2.2.chg hc)
      refine wpList_store_mid rfl 49 (.tmp 9) (.tmp 18) rfl b9 0 (q3 x18 y18 z18) (by rfl) (Eq.trans (by rfl) q18) (by rw [q3_size]; exact nms_there hres0 0 3 (by omega)) (szTr _ _ _) (q3_one _ _ _) ?_
      rw [setRowTr hres0 _ _ _]
      have k0_c : Chg w (u.setRow b9 (q3 x18 y18 z18)) := ((Z2.out.1.trans hc).setRow (by omega) _)
      have k0_B4 := (Z2.out.2.1.chg hc).rowOther (by omega) (q3 x18 y18 z18)
      have k0_B5 := (Z2.out.2.2.1.chg hc).rowOther (by omega) (q3 x18 y18 z18)
      have k0_B6 := (Z2.out.2.2.2.1.chg hc).rowOther (by omega) (q3 x18 y18 z18)
      have k0_B7 := (Z2.out.2.2.2.2.1.chg hc).rowOther (by omega) (q3 x18 y18 z18)
      have k0_B8 := (Z2.out.2.2.2.2.2.1.chg hc).rowOther (by omega) (q3 x18 y18 z18)
      have k0_B9 := hres0.row (q3 x18 y18 z18)
      generalize (u.setRow b9 (q3 x18 y18 z18)) = u10 at k0_c k0_B4 k0_B5 k0_B6 k0_B7 k0_B8 k0_B9 ⊢
      go_wp2_with fail
      go_meet
      exact ⟨x18, y18, z18, m18, k0_c, k0_B4, k0_B5, k0_B6, k0_B7, k0_B8, k0_B9⟩
    obtain ⟨x18, y18, z18, m18, hz⟩ := hcut
    obtain ⟨w3, hw3⟩ : ∃ zz0, zz0 = wc := ⟨_, rfl⟩
    rw [← hw3] at hz ⊢
    have Z3 : Hid _ := hz
    have Mm18 : Hid _ := m18
    clear hw3 hz m18 Z2
    have HP3 : Hid (TQ x18 y18 z18 (AW (MW P (2 * J)) (MW Q (2 * K)))) := by
     show TQ x18 y18 z18 (AW (MW P (2 * J)) (MW Q (2 * K)))
     rw [← both_dbl H1.out.on H2.out.on]
     exact Mm18.out
    clear Mm18 HP
    go_upto_region 6 with fail
    go_cut [22] from 19 to 22 (fun v22 wc => v22 = .bool bj ∧ Chg w wc ∧ Ar wc w.heap.size (num nj) ∧ Ar wc (w.heap.size + 1) (q3 x y z) ∧ Ar wc (w.heap.size + 1 + 1) (num nk) ∧ Ar wc (w.heap.size + 1 + 1 + 1) (q3 x' y' z') ∧ Ar wc (w.heap.size + 1 + 1 + 1 + 1) (q3 0 0 0) ∧ Ar wc b9 (q3 x18 y18 z18))
    case first =>
     refine regP 4 (fun j v wg => match j with
      | 0 => v = .agg (num nj)
      | 1 => v = .int .i64 (i : Int)
      | 2 => v = .int .i64 (m : Int)
      | 3 => v = .bool bj
      | _ => True) (by decide) (by kernel_rfl) ?_ ?_ ?_
     ·intro j v u1 u2 h hc; exact h
     ·intro i o ac u hi ho hsz hf hg hc
      have hcs : i = 0 ∨ i = 1 ∨ i = 2 ∨ i = 3 := by omega
      rcases hcs with rfl | rfl | rfl | rfl <;> (injection ho with ho; subst ho; refine .inl ⟨wanted_none rfl, ?_⟩)
      ·exact ldN rfl (hf 4 (by kernel_rfl)) (rangeAp (Z3.out.2.1.chg hc)) rfl
      ·have e1 : ac.eval (.tmp 10) = .int .i64 (i : Int) := hf 10 (by kernel_rfl)
       exact opG_val (by simp [execOp, e1]) rfl (Chg.refl _)
      ·have e1 : ac.eval (.const (.int .i64 255)) = .int .i64 255 := rfl
       have e2 : ac.eval (.tmp 20) = .int .i64 (i : Int) := hg 1 (by decide) (by decide)
       exact opG_val (by revert e1 e2; generalize ac.eval = ρ; intro e1 e2; simp [go_sem, execOp, e1, e2, hm, wm]) rfl (Chg.refl _)
      ·have e1 : ac.eval (.tmp 19) = .agg (num nj) := hg 0 (by decide) (by decide)
       have e2 : ac.eval (.tmp 21) = .int .i64 (m : Int) := hg 2 (by decide) (by decide)
       refine opG_go 75 Try.f75 #[.tmp 19, .tmp 21] #[24, 3] rfl Try.func75 (by kernel_rfl) (by kernel_rfl) (by simp [e1, e2]) (Calls.mono (bitL_any _ m (by have := HI.out; omega) HBj.out _) ?_)
       rintro r u2 ⟨rfl, hc2⟩
       exact ⟨_, rfl, rfl, hc2⟩
     ·intro u V hV hc
      have q22 : V 3 = .bool bj := hV 3 (by decide)
      go_wp2_with fail
      go_meet
      exact ⟨q22, (Z3.out.1.trans hc), (Z3.out.2.1.chg hc), (Z3.out.2.2.1.chg hc), (Z3.out.2.2.2.1.chg hc), (Z3.out.2.2.2.2.1.chg hc), (Z3.out.2.2.2.2.2.1.chg hc), (Z3.out.2.2.2.2.2.2.chg hc)⟩
    obtain ⟨rfl, hz⟩ := hcut
    obtain ⟨w4, hw4⟩ : ∃ zz0, zz0 = wc := ⟨_, rfl⟩
    rw [← hw4] at hz ⊢
    have Z4 : Hid _ := hz
    clear hw4 hz Z3
    go_upto_if 22 with fail
    go_cut [] from 23 to 25 (fun wc => ∃ X Y Z, TQ X Y Z (AW (MW P (nj.toNat / 2 ^ (256 - i1))) (MW Q (2 * K))) ∧ Chg w wc ∧ Ar wc w.heap.size (num nj) ∧ Ar wc (w.heap.size + 1) (q3 x y z) ∧ Ar wc (w.heap.size + 1 + 1) (num nk) ∧ Ar wc (w.heap.size + 1 + 1 + 1) (q3 x' y' z') ∧ Ar wc (w.heap.size + 1 + 1 + 1 + 1) (q3 0 0 0) ∧ Ar wc b9 (q3 X Y Z))
    case first =>
     cases bj
     case false =>
      have HJf : Hid (nj.toNat / 2 ^ (256 - i1) = 2 * J) := HJ.out
      go_wp2_with fail
      go_meet
      exact ⟨_, _, _, by rw [HJf.out]; exact HP3.out, Z4.out⟩
     case true =>
      have HJt : Hid (nj.toNat / 2 ^ (256 - i1) = 2 * J + 1) := HJ.out
      go_upto_region 7 with fail
      refine regP 3 (fun j v wg => match j with
       | 0 => v = .agg (q3 x18 y18 z18)
       | 1 => v = .agg (q3 x y z)
       | 2 => ∃ xa ya za, v = .agg (q3 xa ya za) ∧ TQ xa ya za (AW (AW (MW P (2 * J)) (MW Q (2 * K))) P)
       | _ => True) (by decide) (by kernel_rfl) ?_ ?_ ?_
      ·intro j v u1 u2 h hc; exact h
      ·intro i o ac u hi ho hsz hf hg hc
       have hcs : i = 0 ∨ i = 1 ∨ i = 2 := by omega
       rcases hcs with rfl | rfl | rfl <;> (injection ho with ho; subst ho; refine .inl ⟨wanted_none rfl, ?_⟩)
       ·have e1 : ac.eval (.tmp 9) = .pointer (some ⟨b9, 0, none⟩) := hf 9 (by kernel_rfl)
        exact wp_load_mid 49 (.tmp 9) rfl _ _ e1 ((q3 x18 y18 z18).toList) _ (rangeAp (Z4.out.2.2.2.2.2.2.chg hc)) Try.underlying49 rfl (infoTr _ _ _) ⟨_, rfl, rfl, Chg.refl _⟩
       ·have e1 : ac.eval (.tmp 5) = .pointer (some ⟨w.heap.size + 1, 0, none⟩) := hf 5 (by kernel_rfl)
        exact wp_load_mid 49 (.tmp 5) rfl _ _ e1 ((q3 x y z).toList) _ (rangeAp (Z4.out.2.2.1.chg hc)) Try.underlying49 rfl (infoTr _ _ _) ⟨_, rfl, rfl, Chg.refl _⟩
       ·have e1 : ac.eval (.tmp 23) = .agg (q3 x18 y18 z18) := hg 0 (by decide) (by decide)
        have e2 : ac.eval (.tmp 24) = .agg (q3 x y z) := hg 1 (by decide) (by decide)
        refine opG_go 26 Try.f26 #[.tmp 23, .tmp 24] #[49, 49] rfl Try.func26 (by kernel_rfl) (by kernel_rfl) (by simp [e1, e2]) (Calls.mono (plusQ_any _ _ _ _ _ _ _ _ HP3.out H1.out _) ?_)
        rintro r u2 ⟨x25, y25, z25, rfl, m25, hc2⟩
        exact ⟨_, rfl, ⟨x25, y25, z25, rfl, m25⟩, hc2⟩
      ·intro u V hV hc
       obtain ⟨x25, y25, z25, q25, m25⟩ := hV 2 (by decide)
       have ordO2_0 := O2_0.out
       have ordO2_1 := O2_1.out
       have ordO2_2 := O2_2.out
       have ordO2_3 := O2_3.out
       have ordO2_4 := O2_4.out
       have ordO2_5 := O2_5.out
       have hres0 := (Z4.out.2.2.2.2.2.2.chg hc)
       refine wpList_store_mid rfl 49 (.tmp 9) (.tmp 25) rfl b9 0 (q3 x25 y25 z25) (by rfl) (Eq.trans (by rfl) q25) (by rw [q3_size]; exact nms_there hres0 0 3 (by omega)) (szTr _ _ _) (q3_one _ _ _) ?_
       rw [setRowTr hres0 _ _ _]
       have k0_c : Chg w (u.setRow b9 (q3 x25 y25 z25)) := ((Z4.out.1.trans hc).setRow (by omega) _)
       have k0_B4 := (Z4.out.2.1.chg hc).rowOther (by omega) (q3 x25 y25 z25)
       have k0_B5 := (Z4.out.2.2.1.chg hc).rowOther (by omega) (q3 x25 y25 z25)
       have k0_B6 := (Z4.out.2.2.2.1.chg hc).rowOther (by omega) (q3 x25 y25 z25)
       have k0_B7 := (Z4.out.2.2.2.2.1.chg hc).rowOther (by omega) (q3 x25 y25 z25)
       have k0_B8 := (Z4.out.2.2.2.2.2.1.chg hc).rowOther (by omega) (q3 x25 y25 z25)
       have k0_B9 := hres0.row (q3 x25 y25 z25)
       generalize (u.setRow b9 (q3 x25 y25 z25)) = u10 at k0_c k0_B4 k0_B5 k0_B6 k0_B7 k0_B8 k0_B9 ⊢
       go_wp2_with fail
       go_meet
       exact ⟨_, _, _, by rw [HJt.out, ← both_one H1.out.on H2.out.on]; exact m25, k0_c, k0_B4, k0_B5, k0_B6, k0_B7, k0_B8, k0_B9⟩
    obtain ⟨X3, Y3, Z3, hp, hz⟩ := hcut
    obtain ⟨w9, hw9⟩ : ∃ zz0, zz0 = wc := ⟨_, rfl⟩
    rw [← hw9] at hz ⊢
    have ZZ : Hid _ := hz
    have HP4 : Hid _ := hp
    clear hw9 hz hp HP3 Z4
    go_upto_region 8 with fail
    go_cut [29] from 26 to 29 (fun v29 wc => v29 = .bool bk ∧ Chg w wc ∧ Ar wc w.heap.size (num nj) ∧ Ar wc (w.heap.size + 1) (q3 x y z) ∧ Ar wc (w.heap.size + 1 + 1) (num nk) ∧ Ar wc (w.heap.size + 1 + 1 + 1) (q3 x' y' z') ∧ Ar wc (w.heap.size + 1 + 1 + 1 + 1) (q3 0 0 0) ∧ Ar wc b9 (q3 X3 Y3 Z3))
    case first =>
     refine regP 4 (fun j v wg => match j with
      | 0 => v = .agg (num nk)
      | 1 => v = .int .i64 (i : Int)
      | 2 => v = .int .i64 (m : Int)
      | 3 => v = .bool bk
      | _ => True) (by decide) (by kernel_rfl) ?_ ?_ ?_
     ·intro j v u1 u2 h hc; exact h
     ·intro i o ac u hi ho hsz hf hg hc
      have hcs : i = 0 ∨ i = 1 ∨ i = 2 ∨ i = 3 := by omega
      rcases hcs with rfl | rfl | rfl | rfl <;> (injection ho with ho; subst ho; refine .inl ⟨wanted_none rfl, ?_⟩)
      ·exact ldN rfl (hf 6 (by kernel_rfl)) (rangeAp (ZZ.out.2.2.2.1.chg hc)) rfl
      ·have e1 : ac.eval (.tmp 10) = .int .i64 (i : Int) := hf 10 (by kernel_rfl)
       exact opG_val (by simp [execOp, e1]) rfl (Chg.refl _)
      ·have e1 : ac.eval (.const (.int .i64 255)) = .int .i64 255 := rfl
       have e2 : ac.eval (.tmp 27) = .int .i64 (i : Int) := hg 1 (by decide) (by decide)
       exact opG_val (by revert e1 e2; generalize ac.eval = ρ; intro e1 e2; simp [go_sem, execOp, e1, e2, hm, wm]) rfl (Chg.refl _)
      ·have e1 : ac.eval (.tmp 26) = .agg (num nk) := hg 0 (by decide) (by decide)
       have e2 : ac.eval (.tmp 28) = .int .i64 (m : Int) := hg 2 (by decide) (by decide)
       refine opG_go 75 Try.f75 #[.tmp 26, .tmp 28] #[24, 3] rfl Try.func75 (by kernel_rfl) (by kernel_rfl) (by simp [e1, e2]) (Calls.mono (bitL_any _ m (by have := HI.out; omega) HBk.out _) ?_)
       rintro r u2 ⟨rfl, hc2⟩
       exact ⟨_, rfl, rfl, hc2⟩
     ·intro u V hV hc
      have q29 : V 3 = .bool bk := hV 3 (by decide)
      go_wp2_with fail
      go_meet
      exact ⟨q29, (ZZ.out.1.trans hc), (ZZ.out.2.1.chg hc), (ZZ.out.2.2.1.chg hc), (ZZ.out.2.2.2.1.chg hc), (ZZ.out.2.2.2.2.1.chg hc), (ZZ.out.2.2.2.2.2.1.chg hc), (ZZ.out.2.2.2.2.2.2.chg hc)⟩
    obtain ⟨rfl, hz⟩ := hcut
    obtain ⟨w10, hw10⟩ : ∃ zz0, zz0 = wc := ⟨_, rfl⟩
    rw [← hw10] at hz ⊢
    have Z10 : Hid _ := hz
    clear hw10 hz ZZ
    go_upto_if 29 with fail
    cases bk
    case false =>
     have HKf : Hid (nk.toNat / 2 ^ (256 - i1) = 2 * K) := HK.out
     go_wp2_with fail
     go_meet
     exact ⟨rfl, rfl, rfl, _, _, _, by rw [HKf.out]; exact HP4.out, Z10.out⟩
    case true =>
     have HKt : Hid (nk.toNat / 2 ^ (256 - i1) = 2 * K + 1) := HK.out
     go_upto_region 9 with fail
     refine regP 3 (fun j v wg => match j with
      | 0 => v = .agg (q3 X3 Y3 Z3)
      | 1 => v = .agg (q3 x' y' z')
      | 2 => ∃ xa ya za, v = .agg (q3 xa ya za) ∧ TQ xa ya za (AW (AW (MW P (nj.toNat / 2 ^ (256 - i1))) (MW Q (2 * K))) Q)
      | _ => True) (by decide) (by kernel_rfl) ?_ ?_ ?_
     ·intro j v u1 u2 h hc; exact h
     ·intro i o ac u hi ho hsz hf hg hc
      have hcs : i = 0 ∨ i = 1 ∨ i = 2 := by omega
      rcases hcs with rfl | rfl | rfl <;> (injection ho with ho; subst ho; refine .inl ⟨wanted_none rfl, ?_⟩)
      ·have e1 : ac.eval (.tmp 9) = .pointer (some ⟨b9, 0, none⟩) := hf 9 (by kernel_rfl)
       exact wp_load_mid 49 (.tmp 9) rfl _ _ e1 ((q3 X3 Y3 Z3).toList) _ (rangeAp (Z10.out.2.2.2.2.2.2.chg hc)) Try.underlying49 rfl (infoTr _ _ _) ⟨_, rfl, rfl, Chg.refl _⟩
      ·have e1 : ac.eval (.tmp 7) = .pointer (some ⟨w.heap.size + 1 + 1 + 1, 0, none⟩) := hf 7 (by kernel_rfl)
       exact wp_load_mid 49 (.tmp 7) rfl _ _ e1 ((q3 x' y' z').toList) _ (rangeAp (Z10.out.2.2.2.2.1.chg hc)) Try.underlying49 rfl (infoTr _ _ _) ⟨_, rfl, rfl, Chg.refl _⟩
      ·have e1 : ac.eval (.tmp 30) = .agg (q3 X3 Y3 Z3) := hg 0 (by decide) (by decide)
       have e2 : ac.eval (.tmp 31) = .agg (q3 x' y' z') := hg 1 (by decide) (by decide)
       refine opG_go 26 Try.f26 #[.tmp 30, .tmp 31] #[49, 49] rfl Try.func26 (by kernel_rfl) (by kernel_rfl) (by simp [e1, e2]) (Calls.mono (plusQ_any _ _ _ _ _ _ _ _ HP4.out H2.out _) ?_)
       rintro r u2 ⟨x32, y32, z32, rfl, m32, hc2⟩
       exact ⟨_, rfl, ⟨x32, y32, z32, rfl, m32⟩, hc2⟩
     ·intro u V hV hc
      obtain ⟨x32, y32, z32, q32, m32⟩ := hV 2 (by decide)
      have ordO2_0 := O2_0.out
      have ordO2_1 := O2_1.out
      have ordO2_2 := O2_2.out
      have ordO2_3 := O2_3.out
      have ordO2_4 := O2_4.out
      have ordO2_5 := O2_5.out
      have hres0 := (Z10.out.2.2.2.2.2.2.chg hc)
      refine wpList_store_mid rfl 49 (.tmp 9) (.tmp 32) rfl b9 0 (q3 x32 y32 z32) (by rfl) (Eq.trans (by rfl) q32) (by rw [q3_size]; exact nms_there hres0 0 3 (by omega)) (szTr _ _ _) (q3_one _ _ _) ?_
      rw [setRowTr hres0 _ _ _]
      have k0_c : Chg w (u.setRow b9 (q3 x32 y32 z32)) := ((Z10.out.1.trans hc).setRow (by omega) _)
      have k0_B4 := (Z10.out.2.1.chg hc).rowOther (by omega) (q3 x32 y32 z32)
      have k0_B5 := (Z10.out.2.2.1.chg hc).rowOther (by omega) (q3 x32 y32 z32)
      have k0_B6 := (Z10.out.2.2.2.1.chg hc).rowOther (by omega) (q3 x32 y32 z32)
      have k0_B7 := (Z10.out.2.2.2.2.1.chg hc).rowOther (by omega) (q3 x32 y32 z32)
      have k0_B8 := (Z10.out.2.2.2.2.2.1.chg hc).rowOther (by omega) (q3 x32 y32 z32)
      have k0_B9 := hres0.row (q3 x32 y32 z32)
      generalize (u.setRow b9 (q3 x32 y32 z32)) = u10 at k0_c k0_B4 k0_B5 k0_B6 k0_B7 k0_B8 k0_B9 ⊢
      go_wp2_with fail
      go_meet
      exact ⟨rfl, rfl, rfl, _, _, _, by rw [HKt.out, ← both_two H1.out.on H2.out.on]; exact m32, k0_c, k0_B4, k0_B5, k0_B6, k0_B7, k0_B8, k0_B9⟩
   clear Z2 HP
   obtain ⟨rfl, rfl, rfl, X, Y, Z, k2, k1⟩ := hcut
   have Z5 : Hid _ := k1
   have HP5 : Hid _ := k2
   clear k1 k2
   go_wp2_with fail
   refine ⟨⟨i1, _, _, _, rfl, by have := HI.out; omega, HP5.out, Z5.out⟩, ?_⟩
   have := HI.out
   simp only [intOf]
   omega
  ·have e : i = 256 := by omega
   subst e
   have hd : decide (((256 : Nat) : Int) < 256) = false := by decide
   have HP' : Hid (TQ X Y Z (AW (MW P nj.toNat) (MW Q nk.toNat))) := by
    have := HP.out
    rw [Nat.sub_self, Nat.pow_zero, Nat.div_one, Nat.div_one] at this
    exact this
   clear hi h256 HP
   go_upto_region 11 with fail
   go_cut [] from 34 to 34 (fun wc => Chg w wc ∧ Ar wc (w.heap.size + 1 + 1 + 1 + 1) (q3 X Y Z))
   case first =>
    refine regP 1 (fun j v wg => match j with
     | 0 => v = .agg (q3 X Y Z)
     | _ => True) (by decide) (by kernel_rfl) ?_ ?_ ?_
    ·intro j v u1 u2 h hc; exact h
    ·intro i o ac u hi ho hsz hf hg hc
     have hcs : i = 0 := by omega
     rcases hcs with rfl <;> (injection ho with ho; subst ho; refine .inl ⟨wanted_none rfl, ?_⟩)
     ·have e1 : ac.eval (.tmp 9) = .pointer (some ⟨b9, 0, none⟩) := hf 9 (by kernel_rfl)
      exact wp_load_mid 49 (.tmp 9) rfl _ _ e1 ((q3 X Y Z).toList) _ (rangeAp (Z2.out.2.2.2.2.2.2.chg hc)) Try.underlying49 rfl (infoTr _ _ _) ⟨_, rfl, rfl, Chg.refl _⟩
    ·intro u V hV hc
     have q34 : V 0 = .agg (q3 X Y Z) := hV 0 (by decide)
     have ordO2_0 := O2_0.out
     have ordO2_1 := O2_1.out
     have ordO2_2 := O2_2.out
     have ordO2_3 := O2_3.out
     have ordO2_4 := O2_4.out
     have ordO2_5 := O2_5.out
     have hres0 := (Z2.out.2.2.2.2.2.1.chg hc)
     refine wpList_store_mid rfl 49 (.tmp 8) (.tmp 34) rfl (w.heap.size + 1 + 1 + 1 + 1) 0 (q3 X Y Z) (by rfl) (Eq.trans (by rfl) q34) (by rw [q3_size]; exact nms_there hres0 0 3 (by omega)) (szTr _ _ _) (q3_one _ _ _) ?_
     rw [setRowTr hres0 _ _ _]
     have k0_c : Chg w (u.setRow (w.heap.size + 1 + 1 + 1 + 1) (q3 X Y Z)) := ((Z2.out.1.trans hc).setRow (by omega) _)
     have k0_B8 := hres0.row (q3 X Y Z)
     generalize (u.setRow (w.heap.size + 1 + 1 + 1 + 1) (q3 X Y Z)) = u10 at k0_c k0_B8 ⊢
     go_wp2_with fail
     go_meet
     exact ⟨k0_c, k0_B8⟩
   have hz := hcut
   obtain ⟨w3, hw3⟩ : ∃ zz0, zz0 = wc := ⟨_, rfl⟩
   rw [← hw3] at hz ⊢
   have Z3 : Hid _ := hz
   clear hw3 hz Z2
   go_wp2_with fail
   exact bp_Tr Try.results57 rfl rfl Z3.out.2 ⟨_, _, _, rfl, HP'.out, Z3.out.1⟩
set_option maxHeartbeats 16000000 in
theorem timesQ_any (n x y z : Int) (P : PQt) (hn : N256 n) (h : TQ x y z P) (w : World) : Calls Try.prog 31 #[.agg (q3 x y z), .agg (num n)] w fun r w' => ∃ X Y Z, r = .returned (.agg (q3 X Y Z)) ∧ TQ X Y Z (MW P n.toNat) ∧ Chg w w' := by
 have HN : Hid (N256 n) := hn
 have H1 : Hid (TQ x y z P) := h
 clear hn h
 have hz0 := zeroTr.1
 have hsA0 := q3_size x y z
 obtain ⟨A0, hA0⟩ : ∃ zz0, zz0 = q3 x y z := ⟨_, rfl⟩
 have HA0 : Hid (A0 = q3 x y z) := hA0
 have hsA1 := num_size n
 obtain ⟨A1, hA1⟩ : ∃ zz0, zz0 = num n := ⟨_, rfl⟩
 have HA1 : Hid (A1 = num n) := hA1
 rw [← hA0] at hsA0 ⊢
 rw [← hA1] at hsA1 ⊢
 clear hA0 hA1
 go_enter Try.func31, Try.ntmps31
 go_upto_region 1 with fail
 obtain ⟨w1, hw1⟩ : ∃ w1, w1 = ((w.alloc (.cells A0 49)).alloc (.cells A1 24)).alloc (.cells (q3 0 0 0) 49) := ⟨_, rfl⟩
 have Z1 : Hid (Chg w w1 ∧ Ar w1 w.heap.size (q3 x y z) ∧ Ar w1 (w.heap.size + 1) (num n) ∧ Ar w1 (w.heap.size + 1 + 1) (q3 0 0 0)) := by
  have hnew0 := Ar.new w (q3 x y z) 49
  have hnew1 := Ar.new (w.alloc (.cells (q3 x y z) 49)) (num n) 24
  rw [World.size_alloc] at hnew1
  have hnew2 := Ar.new ((w.alloc (.cells (q3 x y z) 49)).alloc (.cells (num n) 24)) (q3 0 0 0) 49
  rw [World.size_alloc, World.size_alloc] at hnew2
  rw [hw1, HA0.out, HA1.out]
  exact ⟨((((Chg.refl w).alloc _).alloc _).alloc _), (((hnew0).alloc _).alloc _), ((hnew1).alloc _), (hnew2)⟩
 rw [← hw1]
 clear hw1 hz0 hsA0 hsA1 HA0 HA1
 go_cut [] from 5 to 9 (fun wc => ∃ x9 y9 z9, TQ x9 y9 z9 (AW (MW P n.toNat) (MW P (0 : Int).toNat)) ∧ Chg w wc ∧ Ar wc (w.heap.size + 1 + 1) (q3 x9 y9 z9))
 case first =>
  refine regP 5 (fun j v wg => match j with
   | 0 => v = .agg (num n)
   | 1 => v = .agg (q3 x y z)
   | 2 => v = .agg (num 0)
   | 3 => v = .agg (q3 x y z)
   | 4 => ∃ xa ya za, v = .agg (q3 xa ya za) ∧ TQ xa ya za (AW (MW P n.toNat) (MW P (0 : Int).toNat))
   | _ => True) (by decide) (by kernel_rfl) ?_ ?_ ?_
  ·intro j v u1 u2 h hc; exact h
  ·intro i o ac u hi ho hsz hf hg hc
   have hcs : i = 0 ∨ i = 1 ∨ i = 2 ∨ i = 3 ∨ i = 4 := by omega
   rcases hcs with rfl | rfl | rfl | rfl | rfl <;> (injection ho with ho; subst ho; refine .inl ⟨wanted_none rfl, ?_⟩)
   ·exact ldN rfl (hf 3 (by kernel_rfl)) (rangeAp (Z1.out.2.2.1.chg hc)) rfl
   ·have e1 : ac.eval (.tmp 2) = .pointer (some ⟨w.heap.size, 0, none⟩) := hf 2 (by kernel_rfl)
    exact wp_load_mid 49 (.tmp 2) rfl _ _ e1 ((q3 x y z).toList) _ (rangeAp (Z1.out.2.1.chg hc)) Try.underlying49 rfl (infoTr _ _ _) ⟨_, rfl, rfl, Chg.refl _⟩
   ·exact opG_built _ [] rfl (by kernel_rfl) (by kernel_rfl) rfl
   ·have e1 : ac.eval (.tmp 2) = .pointer (some ⟨w.heap.size, 0, none⟩) := hf 2 (by kernel_rfl)
    exact wp_load_mid 49 (.tmp 2) rfl _ _ e1 ((q3 x y z).toList) _ (rangeAp (Z1.out.2.1.chg hc)) Try.underlying49 rfl (infoTr _ _ _) ⟨_, rfl, rfl, Chg.refl _⟩
   ·have e1 : ac.eval (.tmp 5) = .agg (num n) := hg 0 (by decide) (by decide)
    have e2 : ac.eval (.tmp 6) = .agg (q3 x y z) := hg 1 (by decide) (by decide)
    have e3 : ac.eval (.tmp 7) = .agg (num 0) := hg 2 (by decide) (by decide)
    have e4 : ac.eval (.tmp 8) = .agg (q3 x y z) := hg 3 (by decide) (by decide)
    refine opG_go 57 Try.f57 #[.tmp 5, .tmp 6, .tmp 7, .tmp 8] #[24, 49, 24, 49] rfl Try.func57 (by kernel_rfl) (by kernel_rfl) (by simp [e1, e2, e3, e4]) (Calls.mono (bothQ_any _ _ _ _ _ _ _ _ P P HN.out n0P H1.out H1.out _) ?_)
    rintro r u2 ⟨x9, y9, z9, rfl, m9, hc2⟩
    exact ⟨_, rfl, ⟨x9, y9, z9, rfl, m9⟩, hc2⟩
  ·intro u V hV hc
   obtain ⟨x9, y9, z9, q9, m9⟩ := hV 4 (by decide)
   have hres0 := (Z1.out.2.2.2.chg hc)
   refine wpList_store_mid rfl 49 (.tmp 4) (.tmp 9) rfl (w.heap.size + 1 + 1) 0 (q3 x9 y9 z9) (by rfl) (Eq.trans (by rfl) q9) (by rw [q3_size]; exact nms_there hres0 0 3 (by omega)) (szTr _ _ _) (q3_one _ _ _) ?_
   rw [setRowTr hres0 _ _ _]
   have k0_c : Chg w (u.setRow (w.heap.size + 1 + 1) (q3 x9 y9 z9)) := ((Z1.out.1.trans hc).setRow (by omega) _)
   have k0_B4 := hres0.row (q3 x9 y9 z9)
   generalize (u.setRow (w.heap.size + 1 + 1) (q3 x9 y9 z9)) = u10 at k0_c k0_B4 ⊢
   go_wp2_with fail
   go_meet
   exact ⟨x9, y9, z9, m9, k0_c, k0_B4⟩
 obtain ⟨x9, y9, z9, m9, hz⟩ := hcut
 obtain ⟨w2, hw2⟩ : ∃ zz0, zz0 = wc := ⟨_, rfl⟩
 rw [← hw2] at hz ⊢
 have Z2 : Hid _ := hz
 have Mm9 : Hid _ := m9
 clear hw2 hz m9 Z1
 go_wp2_with fail
 exact bp_Tr Try.results31 rfl rfl Z2.out.2 ⟨_, _, _, rfl, (wad_none (a := -3) (MW P n.toNat)) ▸ Mm9.out, Z2.out.1⟩
end Go.Proofs.Ytbdgmkejmfjobaa

namespace Go.Proofs.Ytbdgmkejmfjobaa
open Go.RowKit
set_option linter.unusedVariables false
set_option maxRecDepth 100000
set_option maxHeartbeats 16000000 in
theorem manyS_any (n x y z : Int) (P : PQt) (hn : N256 n) (h : JQ x y z P) (w : World) : Calls Try.prog 32 #[.agg (num n), .agg (q3 x y z)] w fun r w' => ∃ X Y Z, r = .returned (.agg (q3 X Y Z)) ∧ JQ X Y Z (MW P n.toNat) ∧ Chg w w' := by
 have HB : Hid (N256 n) := hn
 have H1 : Hid (JQ x y z P) := h
 clear hn h
 have hz0 := zeroTh.1
 have hsA0 := num_size n
 obtain ⟨A0, hA0⟩ : ∃ zz0, zz0 = num n := ⟨_, rfl⟩
 have HA0 : Hid (A0 = num n) := hA0
 have hsA1 := q3_size x y z
 obtain ⟨A1, hA1⟩ : ∃ zz0, zz0 = q3 x y z := ⟨_, rfl⟩
 have HA1 : Hid (A1 = q3 x y z) := hA1
 rw [← hA0] at hsA0 ⊢
 rw [← hA1] at hsA1 ⊢
 clear hA0 hA1
 go_enter Try.func32, Try.ntmps32
 go_upto_region 1 with fail
 obtain ⟨w1, hw1⟩ : ∃ w1, w1 = ((w.alloc (.cells A0 24)).alloc (.cells A1 54)).alloc (.cells (q3 0 0 0) 54) := ⟨_, rfl⟩
 have Z1 : Hid (Chg w w1 ∧ Ar w1 w.heap.size (num n) ∧ Ar w1 (w.heap.size + 1) (q3 x y z) ∧ Ar w1 (w.heap.size + 1 + 1) (q3 0 0 0)) := by
  have hnew0 := Ar.new w (num n) 24
  have hnew1 := Ar.new (w.alloc (.cells (num n) 24)) (q3 x y z) 54
  rw [World.size_alloc] at hnew1
  have hnew2 := Ar.new ((w.alloc (.cells (num n) 24)).alloc (.cells (q3 x y z) 54)) (q3 0 0 0) 54
  rw [World.size_alloc, World.size_alloc] at hnew2
  rw [hw1, HA0.out, HA1.out]
  exact ⟨((((Chg.refl w).alloc _).alloc _).alloc _), (((hnew0).alloc _).alloc _), ((hnew1).alloc _), (hnew2)⟩
 rw [← hw1]
 clear hw1 hz0 hsA0 hsA1 HA0 HA1
 go_cut [5] from 5 to 9 (fun v5 wc => ∃ b5, v5 = .pointer (some ⟨b5, 0, none⟩) ∧ w.heap.size ≠ b5 ∧ w.heap.size + 1 ≠ b5 ∧ w.heap.size + 1 + 1 ≠ b5 ∧ w.heap.size ≤ b5 ∧ Chg w wc ∧ Ar wc w.heap.size (num n) ∧ Ar wc (w.heap.size + 1) (q3 x y z) ∧ Ar wc (w.heap.size + 1 + 1) (q3 0 0 0) ∧ Ar wc b5 (q3 1 1 0))
 case first =>
  refine regP 4 (fun j v wg => match j with
   | 0 => v = .agg (num 1)
   | 1 => v = .agg (num 1)
   | 2 => v = .agg (q3 1 1 0)
   | 3 => ∃ b, v = .pointer (some ⟨b, 0, none⟩) ∧ Ar wg b (q3 0 0 0) ∧ w1.heap.size ≤ b
   | _ => True) (by decide) (by kernel_rfl) ?_ ?_ ?_
  ·intro j v u1 u2 h hc
   match j, h with
   | 0, h => exact h
   | 1, h => exact h
   | 2, h => exact h
   | 3, h => (obtain ⟨b, h1, h2, h3⟩ := h; exact ⟨b, h1, h2.chg hc, h3⟩)
   | _ + 4, h => exact trivial
  ·intro i o ac u hi ho hsz hf hg hc
   have hcs : i = 0 ∨ i = 1 ∨ i = 2 ∨ i = 3 := by omega
   rcases hcs with rfl | rfl | rfl | rfl <;> (injection ho with ho; subst ho; refine .inl ⟨wanted_none rfl, ?_⟩)
   ·exact opG_built _ [(0, .int .u64 1)] rfl (by kernel_rfl) (by kernel_rfl) rfl
   ·exact opG_built _ [(0, .int .u64 1)] rfl (by kernel_rfl) (by kernel_rfl) rfl
   ·have e1 : ac.eval (.tmp 7) = .agg (num 1) := hg 0 (by decide) (by decide)
    have e2 : ac.eval (.tmp 8) = .agg (num 1) := hg 1 (by decide) (by decide)
    exact opG_built _ [(0, .agg (num 1)), (1, .agg (num 1))] rfl (by simp [e1, e2]) (by kernel_rfl) rfl
   ·exact opG_val (v := .pointer (some ⟨u.heap.size, 0, none⟩)) (w' := u.alloc (.cells (q3 0 0 0) 54)) (by generalize ac.eval = ρ; simp [go_sem, execOp, zeroTh.1]) ⟨_, rfl, Ar.new _ _ _, hc.size⟩ ((Chg.refl _).alloc _)
  ·intro u V hV hc
   have q9 : V 2 = .agg (q3 1 1 0) := hV 2 (by decide)
   obtain ⟨b5, q5, r5, s5⟩ := hV 3 (by decide)
   have lw5 : w.heap.size ≤ b5 := Nat.le_trans Z1.out.1.size s5
   have hres0 := r5
   refine wpList_store_mid rfl 54 (.tmp 5) (.tmp 9) rfl b5 0 (q3 1 1 0) (Eq.trans (by rfl) q5) (Eq.trans (by rfl) q9) (by rw [q3_size]; exact nms_there hres0 0 3 (by omega)) (szTh _ _ _) (q3_one _ _ _) ?_
   rw [setRowTh hres0 _ _ _]
   have k0_c : Chg w (u.setRow b5 (q3 1 1 0)) := ((Z1.out.1.trans hc).setRow lw5 _)
   have k0_B2 := (Z1.out.2.1.chg hc).rowOther (Z1.out.2.1.apart s5) (q3 1 1 0)
   have k0_B3 := (Z1.out.2.2.1.chg hc).rowOther (Z1.out.2.2.1.apart s5) (q3 1 1 0)
   have k0_B4 := (Z1.out.2.2.2.chg hc).rowOther (Z1.out.2.2.2.apart s5) (q3 1 1 0)
   have k0_B5 := hres0.row (q3 1 1 0)
   generalize (u.setRow b5 (q3 1 1 0)) = u10 at k0_c k0_B2 k0_B3 k0_B4 k0_B5 ⊢
   go_wp2_with fail
   go_meet
   exact ⟨b5, q5, Z1.out.2.1.apart s5, Z1.out.2.2.1.apart s5, Z1.out.2.2.2.apart s5, lw5, k0_c, k0_B2, k0_B3, k0_B4, k0_B5⟩
 obtain ⟨b5, rfl, of0, of1, of2, of3, hz⟩ := hcut
 obtain ⟨w2, hw2⟩ : ∃ zz0, zz0 = wc := ⟨_, rfl⟩
 rw [← hw2] at hz ⊢
 have Z2 : Hid _ := hz
 have O2_0 : Hid _ := of0
 have O2_1 : Hid _ := of1
 have O2_2 : Hid _ := of2
 have O2_3 : Hid _ := of3
 clear hw2 hz of0 of1 of2 of3 Z1
 go_wp2_with fail
 go_loopw [6] (fun v wr => ∃ (k : Nat) (zi : Int) (X Y Z : Int), v = .int .i64 zi ∧ zi + 1 = (k : Int) ∧ k ≤ 256 ∧ JQ X Y Z (MW P (n.toNat / 2 ^ k)) ∧ Chg w wr ∧ Ar wr w.heap.size (num n) ∧ Ar wr (w.heap.size + 1) (q3 x y z) ∧ Ar wr (w.heap.size + 1 + 1) (q3 0 0 0) ∧ Ar wr b5 (q3 X Y Z)) (fun v wr => (intOf v + 1).toNat)
 case atStart =>
  refine ⟨256, 255, _, _, _, rfl, by omega, by omega, ?_, Z2.out⟩
  rw [top_bit HB.out]
  exact JQ.zero
 case round =>
  clear Z2
  obtain ⟨k, zi, X, Y, Z, rfl, hzk, hk, k2, k1⟩ := hrel
  obtain ⟨w2, hw2⟩ : ∃ zz0, zz0 = wr := ⟨_, rfl⟩
  rw [← hw2] at k1 ⊢
  clear hw2
  have Z2 : Hid (Chg w w2 ∧ Ar w2 w.heap.size (num n) ∧ Ar w2 (w.heap.size + 1) (q3 x y z) ∧ Ar w2 (w.heap.size + 1 + 1) (q3 0 0 0) ∧ Ar w2 b5 (q3 X Y Z)) := k1
  have HP : Hid (JQ X Y Z (MW P (n.toNat / 2 ^ k))) := k2
  clear k1 k2
  by_cases h0 : 0 < k
  ·obtain ⟨i, hi⟩ : ∃ i : Nat, zi = (i : Int) := ⟨k - 1, by omega⟩
   subst hi
   have hki : k = i + 1 := by omega
   subst hki
   have hdi : decide ((0 : Int) ≤ (i : Int)) = true := by simp
   obtain ⟨j1, hj1⟩ : ∃ j1 : Int, (i : Int) - 1 = j1 := ⟨_, rfl⟩
   have wj := wrap_i (x := j1) (by omega) (by omega)
   obtain ⟨q, hq⟩ : ∃ q : Nat, (i : Int).tdiv 64 = q := ⟨i / 64, by rw [Int.tdiv_eq_ediv_of_nonneg (by omega)]; omega⟩
   obtain ⟨t, ht⟩ : ∃ t : Nat, (i : Int).tmod 64 = t := ⟨i % 64, by rw [Int.tmod_eq_emod_of_nonneg (by omega)]; omega⟩
   have hq' : q = i / 64 := by rw [Int.tdiv_eq_ediv_of_nonneg (by omega)] at hq; omega
   have ht' : t = i % 64 := by rw [Int.tmod_eq_emod_of_nonneg (by omega)] at ht; omega
   have wq := wrap_i (x := (q : Int)) (by omega) (by omega)
   have wt := wrap_i (x := (t : Int)) (by omega) (by omega)
   have lt : ¬ (t : Int) < 0 := by omega
   have lt64 : t < 64 := by omega
   have lq : (q : Int) < 4 := by omega
   have lq0 : 0 ≤ (q : Int) := by omega
   have lq' : q < 4 := by omega
   have hdw : W64 (dg B64 n q) := dg_w n q
   have hsw : W64 (dg B64 n q / 2 ^ t) := by
    have ⟨h0, h1⟩ := hdw
    have hp : (0 : Int) < 2 ^ t := Int.pow_pos (by decide)
    exact ⟨Int.ediv_nonneg h0 (by omega), Int.lt_of_le_of_lt (Int.ediv_le_self _ h0) h1⟩
   have em := low1 hsw
   rw [dg_bit n q t lt64] at em
   have ei : 64 * q + t = i := by omega
   rw [ei] at em
   obtain ⟨d, hd⟩ : ∃ d, d = dg B64 n q := ⟨_, rfl⟩
   obtain ⟨yb, hy⟩ : ∃ yb, yb = dg 2 n i := ⟨_, rfl⟩
   rw [← hd, ← hy] at em
   have HDd : Hid (d = dg B64 n q) := hd
   have HJ : Hid ((i : Int) - 1 = j1 ∧ i < 256) := ⟨hj1, by omega⟩
   obtain ⟨bb, hbb⟩ : ∃ bb : Bool, (yb == 1) = bb := ⟨_, rfl⟩
   have hde : decide (yb = 1) = bb := by rw [← hbb]; rfl
   obtain ⟨Q, hQ⟩ : ∃ Q, Q = n.toNat / 2 ^ (i + 1) := ⟨_, rfl⟩
   rw [← hQ] at HP
   have HQ : Hid (n.toNat / 2 ^ i = 2 * Q + if bb then 1 else 0) := by
    show n.toNat / 2 ^ i = 2 * Q + if bb then 1 else 0
    rw [half_bit n HB.out.1 i, bit_val n i (b := bb) (by rw [← hy]; exact hbb), hQ]
   clear hq' ht' hdw hsw ei hd hy hzk hk h0 hQ
   go_upto_block 1 with fail
   go_cut [6, 7, 8, 9] from 6 to 27 (fun v6 v7 v8 v9 wc => v6 = .int .i64 (i : Int) ∧ v7 = u7 ∧ v8 = u8 ∧ v9 = u9 ∧ ∃ X Y Z, JQ X Y Z (MW P (n.toNat / 2 ^ i)) ∧ Chg w wc ∧ Ar wc w.heap.size (num n) ∧ Ar wc (w.heap.size + 1) (q3 x y z) ∧ Ar wc (w.heap.size + 1 + 1) (q3 0 0 0) ∧ Ar wc b5 (q3 X Y Z))
   case first =>
    go_upto_region 5 with fail
    go_cut [] from 14 to 15 (fun wc => ∃ x15 y15 z15, JQ x15 y15 z15 (AW (MW P Q) (MW P Q)) ∧ Chg w wc ∧ Ar wc w.heap.size (num n) ∧ Ar wc (w.heap.size + 1) (q3 x y z) ∧ Ar wc (w.heap.size + 1 + 1) (q3 0 0 0) ∧ Ar wc b5 (q3 x15 y15 z15))
    case first =>
     refine regP 2 (fun j v wg => match j with
      | 0 => v = .agg (q3 X Y Z)
      | 1 => ∃ xa ya za, v = .agg (q3 xa ya za) ∧ JQ xa ya za (AW (MW P Q) (MW P Q))
      | _ => True) (by decide) (by kernel_rfl) ?_ ?_ ?_
     ·intro j v u1 u2 h hc; exact h
     ·intro i o ac u hi ho hsz hf hg hc
      have hcs : i = 0 ∨ i = 1 := by omega
      rcases hcs with rfl | rfl <;> (injection ho with ho; subst ho; refine .inl ⟨wanted_none rfl, ?_⟩)
      ·have e1 : ac.eval (.tmp 5) = .pointer (some ⟨b5, 0, none⟩) := hf 5 (by kernel_rfl)
       exact wp_load_mid 54 (.tmp 5) rfl _ _ e1 ((q3 X Y Z).toList) _ (rangeAp (Z2.out.2.2.2.2.chg hc)) Try.underlying54 rfl (infoTh _ _ _) ⟨_, rfl, rfl, Chg.refl _⟩
      ·have e1 : ac.eval (.tmp 14) = .agg (q3 X Y Z) := hg 0 (by decide) (by decide)
       refine opG_go 56 Try.f56 #[.tmp 14] #[54] rfl Try.func56 (by kernel_rfl) (by kernel_rfl) (by simp [e1]) (Calls.mono (twiceS_any _ _ _ _ HP.out _) ?_)
       rintro r u2 ⟨x15, y15, z15, rfl, m15, hc2⟩
       exact ⟨_, rfl, ⟨x15, y15, z15, rfl, m15⟩, hc2⟩
     ·intro u V hV hc
      obtain ⟨x15, y15, z15, q15, m15⟩ := hV 1 (by decide)
      have ordO2_0 := O2_0.out
      have ordO2_1 := O2_1.out
      have ordO2_2 := O2_2.out
      have ordO2_3 := O2_3.out
      have hres0 := (Z2.out.2.2.2.2.chg hc)
      refine wpList_store_mid rfl 54 (.tmp 5) (.tmp 15) rfl b5 0 (q3 x15 y15 z15) (by rfl) (Eq.trans (by rfl) q15) (by rw [q3_size]; exact nms_there hres0 0 3 (by omega)) (szTh _ _ _) (q3_one _ _ _) ?_
      rw [setRowTh hres0 _ _ _]
      have k0_c : Chg w (u.setRow b5 (q3 x15 y15 z15)) := ((Z2.out.1.trans hc).setRow (by omega) _)
      have k0_B2 := (Z2.out.2.1.chg hc).rowOther (by omega) (q3 x15 y15 z15)
      have k0_B3 := (Z2.out.2.2.1.chg hc).rowOther (by omega) (q3 x15 y15 z15)
      have k0_B4 := (Z2.out.2.2.2.1.chg hc).rowOther (by omega) (q3 x15 y15 z15)
      have k0_B5 := hres0.row (q3 x15 y15 z15)
      generalize (u.setRow b5 (q3 x15 y15 z15)) = u10 at k0_c k0_B2 k0_B3 k0_B4 k0_B5 ⊢
      go_wp2_with fail
      go_meet
      exact ⟨x15, y15, z15, m15, k0_c, k0_B2, k0_B3, k0_B4, k0_B5⟩
    obtain ⟨x15, y15, z15, m15, hz⟩ := hcut
    obtain ⟨w3, hw3⟩ : ∃ zz0, zz0 = wc := ⟨_, rfl⟩
    rw [← hw3] at hz ⊢
    have Z3 : Hid _ := hz
    have Mm15 : Hid _ := m15
    clear hw3 hz m15 Z2
    have HP3 : Hid (JQ x15 y15 z15 (MW P (2 * Q))) := by
     show JQ x15 y15 z15 (MW P (2 * Q))
     rw [← MW_dbl H1.out.on]
     exact Mm15.out
    have cq : w3.cell? ⟨w.heap.size, q, none⟩ = some (.int .u64 d) := by
     rw [HDd.out]
     exact (Z3.out.2.1.cell q).trans (arr_get _ _ _ lq')
    clear Mm15 HP
    go_upto_if 24 with fail
    cases bb
    case false =>
     have HQf : Hid (n.toNat / 2 ^ i = 2 * Q) := HQ.out
     go_wp2_with fail
     go_meet
     exact ⟨rfl, rfl, rfl, rfl, _, _, _, by rw [HQf.out]; exact HP3.out, Z3.out⟩
    case true =>
     have HQt : Hid (n.toNat / 2 ^ i = 2 * Q + 1) := HQ.out
     go_upto_region 7 with fail
     refine regP 3 (fun j v wg => match j with
      | 0 => v = .agg (q3 x15 y15 z15)
      | 1 => v = .agg (q3 x y z)
      | 2 => ∃ xa ya za, v = .agg (q3 xa ya za) ∧ JQ xa ya za (AW (MW P (2 * Q)) P)
      | _ => True) (by decide) (by kernel_rfl) ?_ ?_ ?_
     ·intro j v u1 u2 h hc; exact h
     ·intro i o ac u hi ho hsz hf hg hc
      have hcs : i = 0 ∨ i = 1 ∨ i = 2 := by omega
      rcases hcs with rfl | rfl | rfl <;> (injection ho with ho; subst ho; refine .inl ⟨wanted_none rfl, ?_⟩)
      ·have e1 : ac.eval (.tmp 5) = .pointer (some ⟨b5, 0, none⟩) := hf 5 (by kernel_rfl)
       exact wp_load_mid 54 (.tmp 5) rfl _ _ e1 ((q3 x15 y15 z15).toList) _ (rangeAp (Z3.out.2.2.2.2.chg hc)) Try.underlying54 rfl (infoTh _ _ _) ⟨_, rfl, rfl, Chg.refl _⟩
      ·have e1 : ac.eval (.tmp 3) = .pointer (some ⟨w.heap.size + 1, 0, none⟩) := hf 3 (by kernel_rfl)
       exact wp_load_mid 54 (.tmp 3) rfl _ _ e1 ((q3 x y z).toList) _ (rangeAp (Z3.out.2.2.1.chg hc)) Try.underlying54 rfl (infoTh _ _ _) ⟨_, rfl, rfl, Chg.refl _⟩
      ·have e1 : ac.eval (.tmp 25) = .agg (q3 x15 y15 z15) := hg 0 (by decide) (by decide)
       have e2 : ac.eval (.tmp 26) = .agg (q3 x y z) := hg 1 (by decide) (by decide)
       refine opG_go 29 Try.f29 #[.tmp 25, .tmp 26] #[54, 54] rfl Try.func29 (by kernel_rfl) (by kernel_rfl) (by simp [e1, e2]) (Calls.mono (plusS_any _ _ _ _ _ _ _ _ HP3.out H1.out _) ?_)
       rintro r u2 ⟨x27, y27, z27, rfl, m27, hc2⟩
       exact ⟨_, rfl, ⟨x27, y27, z27, rfl, m27⟩, hc2⟩
     ·intro u V hV hc
      obtain ⟨x27, y27, z27, q27, m27⟩ := hV 2 (by decide)
      have ordO2_0 := O2_0.out
      have ordO2_1 := O2_1.out
      have ordO2_2 := O2_2.out
      have ordO2_3 := O2_3.out
      have hres0 := (Z3.out.2.2.2.2.chg hc)
      refine wpList_store_mid rfl 54 (.tmp 5) (.tmp 27) rfl b5 0 (q3 x27 y27 z27) (by rfl) (Eq.trans (by rfl) q27) (by rw [q3_size]; exact nms_there hres0 0 3 (by omega)) (szTh _ _ _) (q3_one _ _ _) ?_
      rw [setRowTh hres0 _ _ _]
      have k0_c : Chg w (u.setRow b5 (q3 x27 y27 z27)) := ((Z3.out.1.trans hc).setRow (by omega) _)
      have k0_B2 := (Z3.out.2.1.chg hc).rowOther (by omega) (q3 x27 y27 z27)
      have k0_B3 := (Z3.out.2.2.1.chg hc).rowOther (by omega) (q3 x27 y27 z27)
      have k0_B4 := (Z3.out.2.2.2.1.chg hc).rowOther (by omega) (q3 x27 y27 z27)
      have k0_B5 := hres0.row (q3 x27 y27 z27)
      generalize (u.setRow b5 (q3 x27 y27 z27)) = u10 at k0_c k0_B2 k0_B3 k0_B4 k0_B5 ⊢
      go_wp2_with fail
      go_meet
      exact ⟨rfl, rfl, rfl, rfl, _, _, _, by rw [HQt.out, MW_succ H1.out.on]; exact m27, k0_c, k0_B2, k0_B3, k0_B4, k0_B5⟩
   clear Z2 HP
   obtain ⟨rfl, rfl, rfl, rfl, X, Y, Z, k2, k1⟩ := hcut
   have Z5 : Hid _ := k1
   have HP5 : Hid _ := k2
   clear k1 k2
   go_wp2_with fail
   refine ⟨⟨i, j1, _, _, _, rfl, by have := HJ.out; omega, by have := HJ.out; omega, HP5.out, Z5.out⟩, ?_⟩
   have := HJ.out
   simp only [intOf]
   omega
  ·have e : k = 0 := by omega
   subst e
   have e : zi = -1 := by omega
   subst e
   have hd : decide ((0 : Int) ≤ (-1 : Int)) = false := by decide
   have HP' : Hid (JQ X Y Z (MW P n.toNat)) := by
    have := HP.out
    rw [Nat.pow_zero, Nat.div_one] at this
    exact this
   clear hk h0 HP hzk
   go_upto_region 8 with fail
   go_cut [] from 28 to 28 (fun wc => Chg w wc ∧ Ar wc (w.heap.size + 1 + 1) (q3 X Y Z))
   case first =>
    refine regP 1 (fun j v wg => match j with
     | 0 => v = .agg (q3 X Y Z)
     | _ => True) (by decide) (by kernel_rfl) ?_ ?_ ?_
    ·intro j v u1 u2 h hc; exact h
    ·intro i o ac u hi ho hsz hf hg hc
     have hcs : i = 0 := by omega
     rcases hcs with rfl <;> (injection ho with ho; subst ho; refine .inl ⟨wanted_none rfl, ?_⟩)
     ·have e1 : ac.eval (.tmp 5) = .pointer (some ⟨b5, 0, none⟩) := hf 5 (by kernel_rfl)
      exact wp_load_mid 54 (.tmp 5) rfl _ _ e1 ((q3 X Y Z).toList) _ (rangeAp (Z2.out.2.2.2.2.chg hc)) Try.underlying54 rfl (infoTh _ _ _) ⟨_, rfl, rfl, Chg.refl _⟩
    ·intro u V hV hc
     have q28 : V 0 = .agg (q3 X Y Z) := hV 0 (by decide)
     have ordO2_0 := O2_0.out
     have ordO2_1 := O2_1.out
     have ordO2_2 := O2_2.out
     have ordO2_3 := O2_3.out
     have hres0 := (Z2.out.2.2.2.1.chg hc)
     refine wpList_store_mid rfl 54 (.tmp 4) (.tmp 28) rfl (w.heap.size + 1 + 1) 0 (q3 X Y Z) (by rfl) (Eq.trans (by rfl) q28) (by rw [q3_size]; exact nms_there hres0 0 3 (by omega)) (szTh _ _ _) (q3_one _ _ _) ?_
     rw [setRowTh hres0 _ _ _]
     have k0_c : Chg w (u.setRow (w.heap.size + 1 + 1) (q3 X Y Z)) := ((Z2.out.1.trans hc).setRow (by omega) _)
     have k0_B4 := hres0.row (q3 X Y Z)
     generalize (u.setRow (w.heap.size + 1 + 1) (q3 X Y Z)) = u10 at k0_c k0_B4 ⊢
     go_wp2_with fail
     go_meet
     exact ⟨k0_c, k0_B4⟩
   have hz := hcut
   obtain ⟨w3, hw3⟩ : ∃ zz0, zz0 = wc := ⟨_, rfl⟩
   rw [← hw3] at hz ⊢
   have Z3 : Hid _ := hz
   clear hw3 hz Z2
   go_wp2_with fail
   exact bp_Th Try.results32 rfl rfl Z3.out.2 ⟨_, _, _, rfl, HP'.out, Z3.out.1⟩
end Go.Proofs.Ytbdgmkejmfjobaa
