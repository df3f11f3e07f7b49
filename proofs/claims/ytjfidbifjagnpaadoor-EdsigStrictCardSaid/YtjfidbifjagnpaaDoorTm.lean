/-
  A point so many times: the program.
-/
import Derived.Test.YtjfidbifjagnpaaDoorJw
namespace Go.Proofs.YtjfidbifjagnpaaDoor
open Go.RowKit
set_option linter.unusedVariables false
set_option maxRecDepth 100000
theorem MU_16 {P : Fin pp × Fin pp} (h : ON P) (n : Int) (hn : 0 ≤ n) (i : Nat) (hi : i < 64) : MU P (n.toNat / 16 ^ (63 - i)) = AD (MU P (16 * (n.toNat / 16 ^ (64 - i)))) (MU P (dg 16 n (63 - i)).toNat) := by
 rw [← MU_add h]
 congr 1
 obtain ⟨m, rfl⟩ := Int.eq_ofNat_of_zero_le hn
 rw [Int.toNat_natCast]
 have e : (dg 16 (m : Int) (63 - i)).toNat = m / 16 ^ (63 - i) % 16 := by
  unfold dg
  rw [show (16 : Int) ^ (63 - i) = ((16 ^ (63 - i) : Nat) : Int) by simp, ← Int.natCast_ediv, show (16 : Int) = ((16 : Nat) : Int) from rfl, ← Int.natCast_emod, Int.toNat_natCast]
 rw [e, show 64 - i = (63 - i) + 1 by omega, Nat.pow_succ, ← Nat.div_div_eq_div_mul]
 omega
theorem dg16_lt (n : Int) (i : Nat) : (dg 16 n i).toNat < 16 := by
 have := dg_bound (B := 16) (by decide) n i
 omega
theorem MU_dbl {P : Fin pp × Fin pp} (h : ON P) (n : Nat) : AD (MU P n) (MU P n) = MU P (2 * n) := by rw [← MU_add h, Nat.two_mul]
set_option maxHeartbeats 16000000 in
theorem timesE_any (x y z t n : Int) (P : Fin pp × Fin pp) (h : PT x y z t P) (hn : N256 n) (w : World) : Calls Tryd.prog 20 #[.agg (q4 x y z t), .agg (num n)] w fun r w' => ∃ X Y Z T, r = .returned (.agg (q4 X Y Z T)) ∧ PT X Y Z T (MU P n.toNat) ∧ Chg w w' := by
 have H1 : Hid (PT x y z t P) := h
 have HB : Hid (N256 n) := hn
 have hz := zeroP4.1
 have hsA := q4_size x y z t
 have hsN := num_size n
 obtain ⟨A, hA⟩ : ∃ A, A = q4 x y z t := ⟨_, rfl⟩
 obtain ⟨N, hN⟩ : ∃ N, N = num n := ⟨_, rfl⟩
 have HA : Hid (A = q4 x y z t) := hA
 have HN : Hid (N = num n) := hN
 rw [← hA] at hsA ⊢
 rw [← hN] at hsN ⊢
 clear hA hN h hn
 go_enter Tryd.func20, Tryd.ntmps20
 go_upto_region 1 with fail
 obtain ⟨w1, hw1⟩ : ∃ w1, w1 = ((w.alloc (.cells A 44)).alloc (.cells N 32)).alloc (.cells (q4 0 0 0 0) 44) := ⟨_, rfl⟩
 have Z1 : Hid (Chg w w1 ∧ Ar w1 w.heap.size (q4 x y z t) ∧ Ar w1 (w.heap.size + 1) (num n) ∧ Ar w1 (w.heap.size + 1 + 1) (q4 0 0 0 0)) := by
  have hnew0 := Ar.new w (q4 x y z t) 44
  have hnew1 := Ar.new (w.alloc (.cells (q4 x y z t) 44)) (num n) 32
  rw [World.size_alloc] at hnew1
  have hnew2 := Ar.new ((w.alloc (.cells (q4 x y z t) 44)).alloc (.cells (num n) 32)) (q4 0 0 0 0) 44
  rw [World.size_alloc, World.size_alloc] at hnew2
  rw [hw1, HA.out, HN.out]
  exact ⟨((((Chg.refl w).alloc _).alloc _).alloc _), (((hnew0).alloc _).alloc _), ((hnew1).alloc _), (hnew2)⟩
 rw [← hw1]
 clear hw1
 clear hsA hsN hz HA HN
 go_cut [5] from 5 to 9 (fun v5 wc => ∃ b5, ∃ f9, v5 = .pointer (some ⟨b5, 0, none⟩) ∧ w1.heap.size ≤ b5 ∧ Ar wc b5 (nms 64 f9) ∧ Chg w1 wc ∧ Mul16 P f9 15)
 case first =>
  refine regS 3 (fun j v wg => match j with
   | 0 => v = .agg (q4 x y z t)
   | 1 => ∃ f, v = .agg (nms 64 f) ∧ Mul16 P f 15
   | 2 => ∃ b, v = .pointer (some ⟨b, 0, none⟩) ∧ Ar wg b (nms 64 (fun _ => 0)) ∧ w1.heap.size ≤ b
   | _ => True) (by kernel_rfl) (by kernel_rfl) ?_ ?_ ?_
  ·intro j v u1 u2 h hc
   match j, h with
   | 0, h => exact h
   | 1, h => exact h
   | 2, h => (obtain ⟨b, h1, h2, h3⟩ := h; exact ⟨b, h1, h2.chg hc, h3⟩)
   | _ + 3, h => exact trivial
  ·intro i o ac u hi ho hsz hf hg hc
   have hcs : i = 0 ∨ i = 1 ∨ i = 2 := by omega
   rcases hcs with rfl | rfl | rfl
   ·injection ho with ho
    subst ho
    refine .inl ⟨wanted_none rfl, ?_⟩
    have e1 : ac.eval (.tmp 2) = .pointer (some ⟨w.heap.size, 0, none⟩) := hf 2 (by kernel_rfl)
    exact wp_load_mid 44 (.tmp 2) rfl _ _ e1 ((q4 x y z t).toList) _ (rangeAp (Z1.out.2.1.chg hc)) Tryd.underlying44 rfl (infoP4 _ _ _ _) ⟨_, rfl, rfl, Chg.refl _⟩
   ·injection ho with ho
    subst ho
    refine .inl ⟨wanted_none rfl, ?_⟩
    have e1 : ac.eval (.tmp 8) = .agg (q4 x y z t) := hg 0 (by decide) (by decide)
    refine opG_go 36 Tryd.f36 #[.tmp 8] #[44] rfl Tryd.func36 (by kernel_rfl) (by kernel_rfl) (by simp [e1]) (Calls.mono (multE_any x y z t P H1.out _) ?_)
    rintro r u2 ⟨f9, rfl, m9, hc2⟩
    exact ⟨_, rfl, ⟨f9, rfl, m9⟩, hc2⟩
   ·injection ho with ho
    subst ho
    refine .inl ⟨wanted_none rfl, ?_⟩
    exact opG_val (v := .pointer (some ⟨u.heap.size, 0, none⟩)) (w' := u.alloc (.cells (nms 64 (fun _ => 0)) 67)) (by generalize ac.eval = ρ; simp [go_sem, execOp, zeroPA.1]) ⟨_, rfl, Ar.new _ _ _, hc.size⟩ ((Chg.refl _).alloc _)
  ·intro o u V ho hV hc
   injection ho with ho
   subst ho
   refine ⟨rfl, ?_⟩
   have q8 : V 0 = .agg (q4 x y z t) := hV 0 (by decide)
   obtain ⟨f9, q9, m9⟩ := hV 1 (by decide)
   obtain ⟨b5, q5, r5, s5⟩ := hV 2 (by decide)
   refine wp_store_mid 67 (.tmp 5) (.tmp 9) rfl b5 0 (nms 64 f9) (Eq.trans (by rfl) q5) (Eq.trans (by rfl) q9) (by rw [n64_size]; exact nms_there r5 0 64 (by omega)) (szPA _) (nms_cells _ _) ?_
   rw [show u.setCells b5 0 (nms 64 f9).toList = u.setRow b5 (nms 64 f9) from setRowPA r5 _]
   go_wp2_with fail
   go_meet
   exact ⟨b5, f9, q5, s5, r5.row _, hc.setRow s5 _, m9⟩
 obtain ⟨b5, f9, rfl, l5, ha5, hcc, m9⟩ := hcut
 obtain ⟨w2, hw2⟩ : ∃ zz0, zz0 = wc := ⟨_, rfl⟩
 rw [← hw2] at hcc ha5 ⊢
 clear hw2
 have O5 : Hid (w.heap.size + 1 + 1 < b5) := Nat.lt_of_lt_of_le (Z1.out.2.2.2.lt) l5
 have Z2 : Hid (Chg w w2 ∧ Ar w2 w.heap.size (q4 x y z t) ∧ Ar w2 (w.heap.size + 1) (num n) ∧ Ar w2 (w.heap.size + 1 + 1) (q4 0 0 0 0) ∧ Ar w2 b5 (nms 64 f9)) := ⟨Z1.out.1.trans hcc, Z1.out.2.1.chg hcc, Z1.out.2.2.1.chg hcc, Z1.out.2.2.2.chg hcc, ha5⟩
 clear hcc ha5 l5 Z1
 have HF : Hid (Mul16 P f9 15) := m9
 clear m9
 go_upto_region 2 with fail
 go_cut [6] from 6 to 10 (fun v6 wc => ∃ b6, v6 = .pointer (some ⟨b6, 0, none⟩) ∧ w2.heap.size ≤ b6 ∧ Ar wc b6 (q4 0 1 1 (md 1 (0 * 1))) ∧ Chg w2 wc)
 case first =>
  refine regS 2 (fun j v wg => match j with
   | 0 => v = .agg (q4 0 1 1 (md 1 (0 * 1)))
   | 1 => ∃ b, v = .pointer (some ⟨b, 0, none⟩) ∧ Ar wg b (q4 0 0 0 0) ∧ w2.heap.size ≤ b
   | _ => True) (by kernel_rfl) (by kernel_rfl) ?_ ?_ ?_
  ·intro j v u1 u2 h hc
   match j, h with
   | 0, h => exact h
   | 1, h => (obtain ⟨b, h1, h2, h3⟩ := h; exact ⟨b, h1, h2.chg hc, h3⟩)
   | _ + 2, h => exact trivial
  ·intro i o ac u hi ho hsz hf hg hc
   have hcs : i = 0 ∨ i = 1 := by omega
   rcases hcs with rfl | rfl
   ·injection ho with ho
    subst ho
    refine .inl ⟨wanted_none rfl, ?_⟩
    refine opG_go 37 Tryd.f37 #[] #[] rfl Tryd.func37 (by kernel_rfl) (by kernel_rfl) (by simp []) (Calls.mono (neutralE_any _) ?_)
    rintro r u2 ⟨rfl, hc2⟩
    exact ⟨_, rfl, rfl, hc2⟩
   ·injection ho with ho
    subst ho
    refine .inl ⟨wanted_none rfl, ?_⟩
    exact opG_val (v := .pointer (some ⟨u.heap.size, 0, none⟩)) (w' := u.alloc (.cells (q4 0 0 0 0) 44)) (by generalize ac.eval = ρ; simp [go_sem, execOp, zeroP4.1]) ⟨_, rfl, Ar.new _ _ _, hc.size⟩ ((Chg.refl _).alloc _)
  ·intro o u V ho hV hc
   injection ho with ho
   subst ho
   refine ⟨rfl, ?_⟩
   have q10 : V 0 = .agg (q4 0 1 1 (md 1 (0 * 1))) := hV 0 (by decide)
   obtain ⟨b6, q6, r6, s6⟩ := hV 1 (by decide)
   refine wp_store_mid 44 (.tmp 6) (.tmp 10) rfl b6 0 (q4 0 1 1 (md 1 (0 * 1))) (Eq.trans (by rfl) q6) (Eq.trans (by rfl) q10) (by rw [q4_size]; exact nms_there r6 0 4 (by omega)) (szP4 _ _ _ _) (q4_one _ _ _ _) ?_
   rw [show u.setCells b6 0 (q4 0 1 1 (md 1 (0 * 1))).toList = u.setRow b6 (q4 0 1 1 (md 1 (0 * 1))) from setRowP4 r6 _ _ _ _]
   go_wp2_with fail
   go_meet
   exact ⟨b6, q6, s6, r6.row _, hc.setRow s6 _⟩
 obtain ⟨b6, rfl, l6, ha6, hcc⟩ := hcut
 obtain ⟨w3, hw3⟩ : ∃ zz0, zz0 = wc := ⟨_, rfl⟩
 rw [← hw3] at hcc ha6 ⊢
 clear hw3
 have O6 : Hid (b5 < b6) := Nat.lt_of_lt_of_le (Z2.out.2.2.2.2.lt) l6
 have Z3 : Hid (Chg w w3 ∧ Ar w3 w.heap.size (q4 x y z t) ∧ Ar w3 (w.heap.size + 1) (num n) ∧ Ar w3 (w.heap.size + 1 + 1) (q4 0 0 0 0) ∧ Ar w3 b5 (nms 64 f9) ∧ Ar w3 b6 (q4 0 1 1 (md 1 (0 * 1)))) := ⟨Z2.out.1.trans hcc, Z2.out.2.1.chg hcc, Z2.out.2.2.1.chg hcc, Z2.out.2.2.2.1.chg hcc, Z2.out.2.2.2.2.chg hcc, ha6⟩
 clear hcc ha6 l6 Z2
 go_wp2_with fail
 go_loopw [11] (fun v wr => ∃ (i : Nat) (X Y Z T : Int), v = .int .i64 i ∧ i ≤ 64 ∧ (Chg w wr ∧ Ar wr w.heap.size (q4 x y z t) ∧ Ar wr (w.heap.size + 1) (num n) ∧ Ar wr (w.heap.size + 1 + 1) (q4 0 0 0 0) ∧ Ar wr b5 (nms 64 f9) ∧ Ar wr b6 (q4 X Y Z T)) ∧ PT X Y Z T (MU P (n.toNat / 16 ^ (64 - i)))) (fun v wr => 64 - (intOf v).toNat)
 case atStart =>
  refine ⟨0, _, _, _, _, rfl, by omega, Z3.out, ?_⟩
  have e : n.toNat / 16 ^ (64 - 0) = 0 := by
   refine Nat.div_eq_of_lt ?_
   have h0 := HB.out.1
   have h1 := HB.out.2
   have e : (16 : Nat) ^ (64 - 0) = 115792089237316195423570985008687907853269984665640564039457584007913129639936 := by decide +kernel
   rw [e]
   have e2 : R256 = 115792089237316195423570985008687907853269984665640564039457584007913129639936 := rfl
   rw [e2] at h1
   omega
  rw [e]
  exact PT.zero
 case round =>
  clear Z3
  obtain ⟨i, X, Y, Z, T, rfl, hi, k1, k2⟩ := hrel
  have Z3 : Hid (Chg w wr ∧ Ar wr w.heap.size (q4 x y z t) ∧ Ar wr (w.heap.size + 1) (num n) ∧ Ar wr (w.heap.size + 1 + 1) (q4 0 0 0 0) ∧ Ar wr b5 (nms 64 f9) ∧ Ar wr b6 (q4 X Y Z T)) := k1
  have HP : Hid (PT X Y Z T (MU P (n.toNat / 16 ^ (64 - i)))) := k2
  clear k1 k2
  by_cases h64 : i < 64
  ·have hdi : decide ((i : Int) < 64) = true := by simp; omega
   obtain ⟨jj, hj⟩ : ∃ jj : Nat, (63 : Int) - (i : Int) = jj := ⟨63 - i, by omega⟩
   have hj' : jj = 63 - i := by omega
   have wj := wrap_e (x := (jj : Int)) (by omega) (by omega)
   obtain ⟨i1, hi1⟩ : ∃ i1 : Nat, (i : Int) + 1 = i1 := ⟨i + 1, by omega⟩
   have hi1' : i1 = i + 1 := by omega
   have wi1 := wrap_e (x := (i1 : Int)) (by omega) (by omega)
   have HI : Hid (i1 = i + 1 ∧ i < 64 ∧ jj = 63 - i) := ⟨hi1', h64, hj'⟩
   obtain ⟨Q, hQ⟩ : ∃ Q, Q = n.toNat / 16 ^ (64 - i) := ⟨_, rfl⟩
   rw [← hQ] at HP
   have HQ : Hid (Q = n.toNat / 16 ^ (64 - i)) := hQ
   clear hi1' h64 hi hj' hQ
   go_upto_block 1 with fail
   go_cut [8, 9, 10, 11] from 7 to 27 (fun v8 v9 v10 v11 wc => v8 = u8 ∧ v9 = u9 ∧ v10 = u10 ∧ v11 = .int .i64 (i : Int) ∧ ∃ X Y Z T, (Chg w wc ∧ Ar wc w.heap.size (q4 x y z t) ∧ Ar wc (w.heap.size + 1) (num n) ∧ Ar wc (w.heap.size + 1 + 1) (q4 0 0 0 0) ∧ Ar wc b5 (nms 64 f9) ∧ Ar wc b6 (q4 X Y Z T)) ∧ PT X Y Z T (MU P (n.toNat / 16 ^ (64 - i1))))
   case first =>
    go_upto_block 2 with fail
    go_cut [] from 14 to 19 (fun wc => ∃ X Y Z T, (Chg w wc ∧ Ar wc w.heap.size (q4 x y z t) ∧ Ar wc (w.heap.size + 1) (num n) ∧ Ar wc (w.heap.size + 1 + 1) (q4 0 0 0 0) ∧ Ar wc b5 (nms 64 f9) ∧ Ar wc b6 (q4 X Y Z T)) ∧ PT X Y Z T (MU P (16 * Q)))
    case first =>
     go_wp2_with fail
     go_loopw [14] (fun v wr => ∃ (k : Nat) (X Y Z T : Int), v = .int .i64 k ∧ k ≤ 4 ∧ (Chg w wr ∧ Ar wr w.heap.size (q4 x y z t) ∧ Ar wr (w.heap.size + 1) (num n) ∧ Ar wr (w.heap.size + 1 + 1) (q4 0 0 0 0) ∧ Ar wr b5 (nms 64 f9) ∧ Ar wr b6 (q4 X Y Z T)) ∧ PT X Y Z T (MU P (2 ^ k * Q))) (fun v wr => 4 - (intOf v).toNat)
     case atStart => exact ⟨0, _, _, _, _, rfl, by omega, Z3.out, by rw [Nat.pow_zero, Nat.one_mul]; exact HP.out⟩
     case round =>
      clear Z3 HP
      obtain ⟨k, X, Y, Z, T, rfl, hk, k1, k2⟩ := hrel
      obtain ⟨w4, hw4⟩ : ∃ zz0, zz0 = wr := ⟨_, rfl⟩
      rw [← hw4] at k1 ⊢
      clear hw4
      have Z4 : Hid (Chg w w4 ∧ Ar w4 w.heap.size (q4 x y z t) ∧ Ar w4 (w.heap.size + 1) (num n) ∧ Ar w4 (w.heap.size + 1 + 1) (q4 0 0 0 0) ∧ Ar w4 b5 (nms 64 f9) ∧ Ar w4 b6 (q4 X Y Z T)) := k1
      have HP : Hid (PT X Y Z T (MU P (2 ^ k * Q))) := k2
      clear k1 k2
      by_cases h4 : k < 4
      ·have hdk : decide ((k : Int) < 4) = true := by simp; omega
       obtain ⟨k1, hk1⟩ : ∃ k1 : Nat, (k : Int) + 1 = k1 := ⟨k + 1, by omega⟩
       have hk1' : k1 = k + 1 := by omega
       have wk1 := wrap_e (x := (k1 : Int)) (by omega) (by omega)
       have HK : Hid (k1 = k + 1 ∧ k < 4) := ⟨hk1', h4⟩
       clear hk1' h4 hk
       go_upto_block 3 with fail
       go_cut [] from 16 to 18 (fun wc => ∃ u X Y Z T, Chg w4 u ∧ wc = u.setRow b6 (q4 X Y Z T) ∧ PT X Y Z T (AD (MU P (2 ^ k * Q)) (MU P (2 ^ k * Q))))
       case first =>
        go_upto_region 8 with fail
        refine regS 3 (fun j v wg => match j with
         | 0 => v = .agg (q4 X Y Z T)
         | 1 => v = .agg (q4 X Y Z T)
         | 2 => ∃ x y z t, v = .agg (q4 x y z t) ∧ PT x y z t (AD (MU P (2 ^ k * Q)) (MU P (2 ^ k * Q)))
         | _ => True) (by kernel_rfl) (by kernel_rfl) ?_ ?_ ?_
        ·intro j v u1 u2 h hc
         match j, h with
         | 0, h => exact h
         | 1, h => exact h
         | 2, h => exact h
         | _ + 3, h => exact trivial
        ·intro i o ac u hi ho hsz hf hg hc
         have hcs : i = 0 ∨ i = 1 ∨ i = 2 := by omega
         rcases hcs with rfl | rfl | rfl
         ·injection ho with ho
          subst ho
          refine .inl ⟨wanted_none rfl, ?_⟩
          have e1 : ac.eval (.tmp 6) = .pointer (some ⟨b6, 0, none⟩) := hf 6 (by kernel_rfl)
          exact wp_load_mid 44 (.tmp 6) rfl _ _ e1 ((q4 X Y Z T).toList) _ (rangeAp (Z4.out.2.2.2.2.2.chg hc)) Tryd.underlying44 rfl (infoP4 _ _ _ _) ⟨_, rfl, rfl, Chg.refl _⟩
         ·injection ho with ho
          subst ho
          refine .inl ⟨wanted_none rfl, ?_⟩
          have e1 : ac.eval (.tmp 6) = .pointer (some ⟨b6, 0, none⟩) := hf 6 (by kernel_rfl)
          exact wp_load_mid 44 (.tmp 6) rfl _ _ e1 ((q4 X Y Z T).toList) _ (rangeAp (Z4.out.2.2.2.2.2.chg hc)) Tryd.underlying44 rfl (infoP4 _ _ _ _) ⟨_, rfl, rfl, Chg.refl _⟩
         ·injection ho with ho
          subst ho
          refine .inl ⟨wanted_none rfl, ?_⟩
          have e1 : ac.eval (.tmp 16) = .agg (q4 X Y Z T) := hg 0 (by decide) (by decide)
          have e2 : ac.eval (.tmp 17) = .agg (q4 X Y Z T) := hg 1 (by decide) (by decide)
          refine opG_go 22 Tryd.f22 #[.tmp 16, .tmp 17] #[44, 44] rfl Tryd.func22 (by kernel_rfl) (by kernel_rfl) (by simp [e1, e2]) (Calls.mono (plusE_any _ _ _ _ _ _ _ _ _ _ HP.out HP.out _) ?_)
          rintro r u2 ⟨x18, y18, z18, t18, rfl, m18, hc2⟩
          exact ⟨_, rfl, ⟨x18, y18, z18, t18, rfl, m18⟩, hc2⟩
        ·intro o u V ho hV hc
         injection ho with ho
         subst ho
         refine ⟨rfl, ?_⟩
         have q16 : V 0 = .agg (q4 X Y Z T) := hV 0 (by decide)
         have q17 : V 1 = .agg (q4 X Y Z T) := hV 1 (by decide)
         obtain ⟨x18, y18, z18, t18, q18, m18⟩ := hV 2 (by decide)
         have hres := Z4.out.2.2.2.2.2.chg hc
         refine wp_store_mid 44 (.tmp 6) (.tmp 18) rfl b6 0 (q4 x18 y18 z18 t18) (by rfl) (Eq.trans (by rfl) q18) (by rw [q4_size]; exact nms_there hres 0 4 (by omega)) (szP4 _ _ _ _) (q4_one _ _ _ _) ?_
         rw [show u.setCells b6 0 (q4 x18 y18 z18 t18).toList = u.setRow b6 (q4 x18 y18 z18 t18) from setRowP4 hres _ _ _ _]
         go_wp2_with fail
         go_meet
         exact ⟨u, _, _, _, _, hc, rfl, m18⟩
       obtain ⟨u, X', Y', Z', T', hcc, rfl, hp⟩ := hcut
       have o5 := O5.out
       have o6 := O6.out
       have Z5 : Hid (Chg w (u.setRow b6 (q4 X' Y' Z' T')) ∧ Ar (u.setRow b6 (q4 X' Y' Z' T')) w.heap.size (q4 x y z t) ∧ Ar (u.setRow b6 (q4 X' Y' Z' T')) (w.heap.size + 1) (num n) ∧ Ar (u.setRow b6 (q4 X' Y' Z' T')) (w.heap.size + 1 + 1) (q4 0 0 0 0) ∧ Ar (u.setRow b6 (q4 X' Y' Z' T')) b5 (nms 64 f9) ∧ Ar (u.setRow b6 (q4 X' Y' Z' T')) b6 (q4 X' Y' Z' T')) := ⟨(Z4.out.1.trans hcc).setRow (by omega) _, (Z4.out.2.1.chg hcc).rowOther (by omega) _, (Z4.out.2.2.1.chg hcc).rowOther (by omega) _, (Z4.out.2.2.2.1.chg hcc).rowOther (by omega) _, (Z4.out.2.2.2.2.1.chg hcc).rowOther (by omega) _, (Z4.out.2.2.2.2.2.chg hcc).row _⟩
       have HP5 : Hid (PT X' Y' Z' T' (MU P (2 ^ k1 * Q))) := by
        rw [MU_dbl H1.out.on, ← Nat.mul_assoc, Nat.mul_comm 2, ← Nat.pow_succ] at hp
        rw [HK.out.1]
        exact hp
       clear hcc hp Z4 HP
       generalize u.setRow b6 (q4 X' Y' Z' T') = w5 at *
       go_wp2_with fail
       refine ⟨⟨k1, _, _, _, _, rfl, by have := HK.out; omega, Z5.out, HP5.out⟩, ?_⟩
       have := HK.out
       simp only [intOf]
       omega
      ·have e : k = 4 := by omega
       subst e
       have hd : decide (((4 : Nat) : Int) < 4) = false := by decide
       clear hk h4
       go_wp2_with fail
       go_meet
       exact ⟨X, Y, Z, T, Z4.out, HP.out⟩
    clear Z3 HP
    obtain ⟨X, Y, Z, T, k1, k2⟩ := hcut
    obtain ⟨w4, hw4⟩ : ∃ zz0, zz0 = wc := ⟨_, rfl⟩
    rw [← hw4] at k1 ⊢
    clear hw4
    have Z4 : Hid (Chg w w4 ∧ Ar w4 w.heap.size (q4 x y z t) ∧ Ar w4 (w.heap.size + 1) (num n) ∧ Ar w4 (w.heap.size + 1 + 1) (q4 0 0 0 0) ∧ Ar w4 b5 (nms 64 f9) ∧ Ar w4 b6 (q4 X Y Z T)) := k1
    have HP : Hid (PT X Y Z T (MU P (16 * Q))) := k2
    clear k1 k2
    obtain ⟨d, hd⟩ : ∃ d : Nat, dg 16 n jj = (d : Int) := ⟨(dg 16 n jj).toNat, by have := dg_bound (B := 16) (by decide) n jj; omega⟩
    have hd' : d = (dg 16 n jj).toNat := by omega
    have hd16 : d < 16 := by rw [hd']; exact dg16_lt n jj
    have d0 : 0 ≤ (d : Int) := by omega
    have d1 : (d : Int) < 16 := by omega
    have HJ : Hid (dg 16 n jj = (d : Int) ∧ jj < 64) := ⟨hd, by have := HI.out; omega⟩
    have HD : Hid (PT (f9 (4 * d)) (f9 (4 * d + 1)) (f9 (4 * d + 2)) (f9 (4 * d + 3)) (MU P d)) := HF.out d (by omega)
    have HE : Hid (AD (MU P (16 * Q)) (MU P d) = MU P (n.toNat / 16 ^ (64 - i1))) := by
     show AD (MU P (16 * Q)) (MU P d) = MU P (n.toNat / 16 ^ (64 - i1))
     rw [HI.out.1, show 64 - (i + 1) = 63 - i by omega, MU_16 H1.out.on n HB.out.1 i HI.out.2.1, HQ.out, hd', HI.out.2.2]
    clear hd hd'
    go_upto_region 10 with fail
    refine regA 8 (fun j v wg => match j with
     | 0 => v = .agg (q4 X Y Z T)
     | 1 => v = .agg (num n)
     | 2 => v = .int .i64 (i : Int)
     | 3 => v = .int .i64 (jj : Int)
     | 4 => v = .int .u64 (d : Int)
     | 5 => v = .pointer (some ⟨b5, 16 * d, none⟩)
     | 6 => v = .agg (q4 (f9 (4 * d)) (f9 (4 * d + 1)) (f9 (4 * d + 2)) (f9 (4 * d + 3)))
     | 7 => ∃ x y z t, v = .agg (q4 x y z t) ∧ PT x y z t (AD (MU P (16 * Q)) (MU P d))
     | _ => True) (by kernel_rfl) (by kernel_rfl) (by kernel_rfl) (by kernel_rfl) (by kernel_rfl) ?_ ?_ ?_
    ·intro j v u1 u2 h hc
     match j, h with
     | 0, h => exact h
     | 1, h => exact h
     | 2, h => exact h
     | 3, h => exact h
     | 4, h => exact h
     | 5, h => exact h
     | 6, h => exact h
     | 7, h => exact h
     | _ + 8, h => exact trivial
    ·intro i o ac u hi ho hsz hf hg hc
     have hcs : i = 0 ∨ i = 1 ∨ i = 2 ∨ i = 3 ∨ i = 4 ∨ i = 5 ∨ i = 6 ∨ i = 7 := by omega
     rcases hcs with rfl | rfl | rfl | rfl | rfl | rfl | rfl | rfl
     ·injection ho with ho
      subst ho
      refine .inl ⟨wanted_none rfl, ?_⟩
      have e1 : ac.eval (.tmp 6) = .pointer (some ⟨b6, 0, none⟩) := hf 6 (by kernel_rfl)
      exact wp_load_mid 44 (.tmp 6) rfl _ _ e1 ((q4 X Y Z T).toList) _ (rangeAp (Z4.out.2.2.2.2.2.chg hc)) Tryd.underlying44 rfl (infoP4 _ _ _ _) ⟨_, rfl, rfl, Chg.refl _⟩
     ·injection ho with ho
      subst ho
      refine .inl ⟨wanted_none rfl, ?_⟩
      have e1 : ac.eval (.tmp 3) = .pointer (some ⟨w.heap.size + 1, 0, none⟩) := hf 3 (by kernel_rfl)
      exact wp_load_mid 32 (.tmp 3) rfl _ _ e1 ((num n).toList) _ (rangeAp (Z4.out.2.2.1.chg hc)) undNum rfl (infoN _) ⟨_, rfl, rfl, Chg.refl _⟩
     ·injection ho with ho
      subst ho
      refine .inl ⟨wanted_none rfl, ?_⟩
      have e1 : ac.eval (.tmp 7) = .int .i64 (i : Int) := hf 7 (by kernel_rfl)
      exact opG_val (by simp [execOp, e1]) rfl (Chg.refl _)
     ·injection ho with ho
      subst ho
      refine .inl ⟨wanted_none rfl, ?_⟩
      have e1 : ac.eval (.const (.int .i64 63)) = .int .i64 63 := rfl
      have e2 : ac.eval (.tmp 22) = .int .i64 (i : Int) := hg 2 (by kernel_rfl) (by decide)
      exact opG_val (by revert e1 e2; generalize ac.eval = ρ; intro e1 e2; simp [go_sem, execOp, e1, e2, hj, wj]) rfl (Chg.refl _)
     ·injection ho with ho
      subst ho
      refine .inl ⟨wanted_none rfl, ?_⟩
      have e1 : ac.eval (.tmp 21) = .agg (num n) := hg 1 (by kernel_rfl) (by decide)
      have e2 : ac.eval (.tmp 23) = .int .i64 (jj : Int) := hg 3 (by kernel_rfl) (by decide)
      refine opG_go 38 Tryd.f38 #[.tmp 21, .tmp 23] #[32, 3] rfl Tryd.func38 (by kernel_rfl) (by kernel_rfl) (by simp [e1, e2]) (Calls.mono ((digitE_any n jj HJ.out.2 _).mono (fun r w' h => by rw [HJ.out.1] at h; exact h)) ?_)
      rintro r u2 ⟨rfl, hc2⟩
      exact ⟨_, rfl, rfl, hc2⟩
     ·injection ho with ho
      subst ho
      refine .inl ⟨wanted_none rfl, ?_⟩
      have e1 : ac.eval (.tmp 5) = .pointer (some ⟨b5, 0, none⟩) := hf 5 (by kernel_rfl)
      have e2 : ac.eval (.tmp 24) = .int .u64 (d : Int) := hg 4 (by kernel_rfl) (by decide)
      exact opG_val (by revert e1 e2; generalize ac.eval = ρ; intro e1 e2; simp [go_sem, execOp, e1, e2, d0, d1, Nat.mul_comm]) rfl (Chg.refl _)
     ·injection ho with ho
      subst ho
      refine .inl ⟨wanted_none rfl, ?_⟩
      have e1 : ac.eval (.tmp 25) = .pointer (some ⟨b5, 16 * d, none⟩) := hg 5 (by kernel_rfl) (by decide)
      exact wp_load_mid 44 (.tmp 25) rfl _ _ e1 ((q4 (f9 (4 * d)) (f9 (4 * d + 1)) (f9 (4 * d + 2)) (f9 (4 * d + 3))).toList) _ (rangePA (Z4.out.2.2.2.2.1.chg hc) d (by omega)) Tryd.underlying44 rfl (infoP4 _ _ _ _) ⟨_, rfl, rfl, Chg.refl _⟩
     ·injection ho with ho
      subst ho
      refine .inl ⟨wanted_none rfl, ?_⟩
      have e1 : ac.eval (.tmp 20) = .agg (q4 X Y Z T) := hg 0 (by kernel_rfl) (by decide)
      have e2 : ac.eval (.tmp 26) = .agg (q4 (f9 (4 * d)) (f9 (4 * d + 1)) (f9 (4 * d + 2)) (f9 (4 * d + 3))) := hg 6 (by kernel_rfl) (by decide)
      refine opG_go 22 Tryd.f22 #[.tmp 20, .tmp 26] #[44, 44] rfl Tryd.func22 (by kernel_rfl) (by kernel_rfl) (by simp [e1, e2]) (Calls.mono (plusE_any _ _ _ _ _ _ _ _ _ _ HP.out HD.out _) ?_)
      rintro r u2 ⟨x27, y27, z27, t27, rfl, m27, hc2⟩
      exact ⟨_, rfl, ⟨x27, y27, z27, t27, rfl, m27⟩, hc2⟩
    ·intro o u V ho hV hc
     injection ho with ho
     subst ho
     refine ⟨rfl, ?_⟩
     have q20 : V 0 = .agg (q4 X Y Z T) := hV 0 (by decide)
     have q21 : V 1 = .agg (num n) := hV 1 (by decide)
     have q22 : V 2 = .int .i64 (i : Int) := hV 2 (by decide)
     have q23 : V 3 = .int .i64 (jj : Int) := hV 3 (by decide)
     have q24 : V 4 = .int .u64 (d : Int) := hV 4 (by decide)
     have q25 : V 5 = .pointer (some ⟨b5, 16 * d, none⟩) := hV 5 (by decide)
     have q26 : V 6 = .agg (q4 (f9 (4 * d)) (f9 (4 * d + 1)) (f9 (4 * d + 2)) (f9 (4 * d + 3))) := hV 6 (by decide)
     obtain ⟨x27, y27, z27, t27, q27, m27⟩ := hV 7 (by decide)
     have hres := Z4.out.2.2.2.2.2.chg hc
     refine wp_store_mid 44 (.tmp 6) (.tmp 27) rfl b6 0 (q4 x27 y27 z27 t27) (by rfl) (Eq.trans (by rfl) q27) (by rw [q4_size]; exact nms_there hres 0 4 (by omega)) (szP4 _ _ _ _) (q4_one _ _ _ _) ?_
     rw [show u.setCells b6 0 (q4 x27 y27 z27 t27).toList = u.setRow b6 (q4 x27 y27 z27 t27) from setRowP4 hres _ _ _ _]
     have o5 := O5.out
     have o6 := O6.out
     have hcc := hc
     have Z5 : Hid (Chg w (u.setRow b6 (q4 x27 y27 z27 t27)) ∧ Ar (u.setRow b6 (q4 x27 y27 z27 t27)) w.heap.size (q4 x y z t) ∧ Ar (u.setRow b6 (q4 x27 y27 z27 t27)) (w.heap.size + 1) (num n) ∧ Ar (u.setRow b6 (q4 x27 y27 z27 t27)) (w.heap.size + 1 + 1) (q4 0 0 0 0) ∧ Ar (u.setRow b6 (q4 x27 y27 z27 t27)) b5 (nms 64 f9) ∧ Ar (u.setRow b6 (q4 x27 y27 z27 t27)) b6 (q4 x27 y27 z27 t27)) := ⟨(Z4.out.1.trans hcc).setRow (by omega) _, (Z4.out.2.1.chg hcc).rowOther (by omega) _, (Z4.out.2.2.1.chg hcc).rowOther (by omega) _, (Z4.out.2.2.2.1.chg hcc).rowOther (by omega) _, (Z4.out.2.2.2.2.1.chg hcc).rowOther (by omega) _, (Z4.out.2.2.2.2.2.chg hcc).row _⟩
     generalize u.setRow b6 (q4 x27 y27 z27 t27) = w5 at *
     go_wp2_with fail
     go_meet
     exact ⟨rfl, rfl, rfl, rfl, _, _, _, _, Z5.out, by rw [← HE.out]; exact m27⟩
   clear Z3 HP
   obtain ⟨rfl, rfl, rfl, rfl, X, Y, Z, T, k1, k2⟩ := hcut
   have Z5 : Hid (Chg w wc ∧ Ar wc w.heap.size (q4 x y z t) ∧ Ar wc (w.heap.size + 1) (num n) ∧ Ar wc (w.heap.size + 1 + 1) (q4 0 0 0 0) ∧ Ar wc b5 (nms 64 f9) ∧ Ar wc b6 (q4 X Y Z T)) := k1
   have HP5 : Hid (PT X Y Z T (MU P (n.toNat / 16 ^ (64 - i1)))) := k2
   clear k1 k2
   go_wp2_with fail
   refine ⟨⟨i1, _, _, _, _, rfl, by have := HI.out; omega, Z5.out, HP5.out⟩, ?_⟩
   have := HI.out
   simp only [intOf]
   omega
  ·have e : i = 64 := by omega
   subst e
   have hd : decide (((64 : Nat) : Int) < 64) = false := by decide
   obtain ⟨w3, hw3⟩ : ∃ zz0, zz0 = wr := ⟨_, rfl⟩
   rw [← hw3] at Z3 ⊢
   have HP' : Hid (PT X Y Z T (MU P n.toNat)) := by
    have := HP.out
    rw [show 64 - 64 = 0 from rfl, Nat.pow_zero, Nat.div_one] at this
    exact this
   clear hi hw3 h64 HP
   go_upto_region 12 with fail
   go_cut [] from 29 to 29 (fun wc => ∃ u, Chg w3 u ∧ wc = u.setRow (w.heap.size + 1 + 1) (q4 X Y Z T))
   case first =>
    refine regS 1 (fun j v wg => match j with
     | 0 => v = .agg (q4 X Y Z T)
     | _ => True) (by kernel_rfl) (by kernel_rfl) ?_ ?_ ?_
    ·intro j v u1 u2 h hc
     match j, h with
     | 0, h => exact h
     | _ + 1, h => exact trivial
    ·intro i o ac u hi ho hsz hf hg hc
     have hcs : i = 0 := by omega
     rcases hcs with rfl
     ·injection ho with ho
      subst ho
      refine .inl ⟨wanted_none rfl, ?_⟩
      have e1 : ac.eval (.tmp 6) = .pointer (some ⟨b6, 0, none⟩) := hf 6 (by kernel_rfl)
      exact wp_load_mid 44 (.tmp 6) rfl _ _ e1 ((q4 X Y Z T).toList) _ (rangeAp (Z3.out.2.2.2.2.2.chg hc)) Tryd.underlying44 rfl (infoP4 _ _ _ _) ⟨_, rfl, rfl, Chg.refl _⟩
    ·intro o u V ho hV hc
     injection ho with ho
     subst ho
     refine ⟨rfl, ?_⟩
     have q29 : V 0 = .agg (q4 X Y Z T) := hV 0 (by decide)
     have hres := Z3.out.2.2.2.1.chg hc
     refine wp_store_mid 44 (.tmp 4) (.tmp 29) rfl (w.heap.size + 1 + 1) 0 (q4 X Y Z T) (by rfl) (Eq.trans (by rfl) q29) (by rw [q4_size]; exact nms_there hres 0 4 (by omega)) (szP4 _ _ _ _) (q4_one _ _ _ _) ?_
     rw [show u.setCells (w.heap.size + 1 + 1) 0 (q4 X Y Z T).toList = u.setRow (w.heap.size + 1 + 1) (q4 X Y Z T) from setRowP4 hres _ _ _ _]
     go_wp2_with fail
     go_meet
     exact ⟨u, hc, rfl⟩
   obtain ⟨u, hcc, rfl⟩ := hcut
   obtain ⟨w4, hw4⟩ : ∃ zz0, zz0 = u.setRow (w.heap.size + 1 + 1) (q4 X Y Z T) := ⟨_, rfl⟩
   have Z4 : Hid (Chg w w4 ∧ Ar w4 w.heap.size (q4 x y z t) ∧ Ar w4 (w.heap.size + 1) (num n) ∧ Ar w4 (w.heap.size + 1 + 1) (q4 X Y Z T) ∧ Ar w4 b5 (nms 64 f9) ∧ Ar w4 b6 (q4 X Y Z T)) := by
    have ordO5 := O5.out
    have ordO6 := O6.out
    rw [hw4]
    exact ⟨(Z3.out.1.trans hcc).setRow (by omega) _, (Z3.out.2.1.chg hcc).rowOther (by omega) _, (Z3.out.2.2.1.chg hcc).rowOther (by omega) _, (Z3.out.2.2.2.1.chg hcc).row _, (Z3.out.2.2.2.2.1.chg hcc).rowOther (by omega) _, (Z3.out.2.2.2.2.2.chg hcc).rowOther (by omega) _⟩
   rw [← hw4]
   clear hw4 hcc Z3 u
   go_wp2_with fail
   exact bp_4 Tryd.results20 rfl rfl Z4.out.2.2.2.1 ⟨_, _, _, _, rfl, HP'.out, Z4.out.1⟩
end Go.Proofs.YtjfidbifjagnpaaDoor
