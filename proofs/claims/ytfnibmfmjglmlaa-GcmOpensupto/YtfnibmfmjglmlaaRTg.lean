/-
  The document's first, stream and tag.
-/
import Derived.Test.YtfnibmfmjglmlaaRHs
import Derived.Test.YtfnibmfmjglmlaaRSt
import Derived.Test.YtfnibmfmjglmlaaTa
namespace Go.Proofs.Ytfnibmfmjglmlaa
open Go.RowKit
set_option linter.unusedVariables false

set_option maxRecDepth 100000 in
set_option maxHeartbeats 4000000 in
theorem refFirst_any (nc : Nat → By) (w : World) : Calls Try.prog 55 #[.agg (ba 12 nc)] w fun r w' => r = .returned (.agg (ba 16 (ctrB nc 1#8))) ∧ Chg w w' := by
  have hz := zero32.1
  have hsA := ba_size 12 nc
  obtain ⟨A, hA⟩ : ∃ A, A = ba 12 nc := ⟨_, rfl⟩
  have HA : Hid (A = ba 12 nc) := hA
  rw [← hA] at hsA ⊢
  clear hA
  go_enter Try.func55, Try.ntmps55
  go_upto_region 2 with fail
  obtain ⟨w2, hw2⟩ : ∃ w2, w2 = ((w.alloc (.cells A 38)).alloc (.cells (ba 16 zB) 23)).alloc (.cells (ba 16 zB) 23) := ⟨_, rfl⟩
  have Z2 : Hid (Chg w w2 ∧ Ar w2 w.heap.size (ba 12 nc) ∧ Ar w2 (w.heap.size + 1) (ba 16 zB) ∧ Ar w2 (w.heap.size + 1 + 1) (ba 16 (upTo 0 nc zB))) := by
    rw [hw2, HA.out, upTo_zero]
    exact ⟨(((Chg.refl w).alloc _).alloc _).alloc _, ((Ar.new w _ _).alloc _).alloc _, (Ar.new1 w _ _ _).alloc _, Ar.new2 w _ _ _ _⟩
  rw [← hw2]
  clear hw2 hz hsA
  go_wp2_with fail
  go_loopw [4] (fun v wr => ∃ (i : Nat), v = .int .i64 i ∧ i ≤ 12 ∧ Chg w wr ∧ Ar wr w.heap.size (ba 12 nc) ∧ Ar wr (w.heap.size + 1) (ba 16 zB) ∧ Ar wr (w.heap.size + 1 + 1) (ba 16 (upTo i nc zB))) (fun v wr => 12 - (intOf v).toNat)
  case atStart => exact ⟨0, rfl, by omega, Z2.out⟩
  case round =>
    clear Z2
    obtain ⟨i, rfl, hi, hz⟩ := hrel
    have Z : Hid (Chg w wr ∧ Ar wr w.heap.size (ba 12 nc) ∧ Ar wr (w.heap.size + 1) (ba 16 zB) ∧ Ar wr (w.heap.size + 1 + 1) (ba 16 (upTo i nc zB))) := hz
    by_cases h12 : i < 12
    · have hd : decide ((i : Int) < 12) = true := by simp; omega
      have li : (i : Int) < 12 := by omega
      have li' : (i : Int) < 16 := by omega
      have c1 := (hz.2.1.cell i).trans (ba_get 12 nc h12)
      have c2 := (hz.2.2.2.cell i).trans (ba_get 16 _ (show i < 16 by omega))
      have f2 := hz.2.2.2.frozen i
      obtain ⟨x, hx⟩ : ∃ x, x = nc i := ⟨_, rfl⟩
      rw [← hx] at c1
      have HX : Hid (x = nc i) := hx
      clear hx hz
      go_wp2_with fail
      go_roundw
      case rel =>
        obtain ⟨k0, k1, k2, k3⟩ := Z.out
        refine ⟨i + 1, by go_num, by omega, k0.setCell (by dsimp only; omega) _, k1.other (by dsimp only; omega) _, k2.other (by dsimp only; omega) _, ?_⟩
        have hh := k3.set i (.int .u8 (x.toNat : Int))
        rw [ba_set, HX.out, upTo_upd i nc zB] at hh
        rw [HX.out]
        exact hh
      case measure => simp [intOf]; omega
    · have hi2 : i = 12 := by omega
      have hd : decide ((i : Int) < 12) = false := by simp; omega
      obtain ⟨F, hF⟩ : ∃ F, F = upTo i nc zB := ⟨_, rfl⟩
      rw [← hF] at Z hz
      have b1 := (hz.2.2.2.cell 15).trans (ba_get 16 F (by decide))
      have f1 := hz.2.2.2.frozen 15
      obtain ⟨G, hG⟩ : ∃ G, G = updB F 15 1#8 := ⟨_, rfl⟩
      have HG : Hid (ba 16 G = ba 16 (ctrB nc 1#8) ∧ G = updB F 15 1#8) := by
        refine ⟨ba_congr fun j hj => ?_, hG⟩
        rw [hG, hF, hi2, updB, upTo, ctrB]
        by_cases h1 : j = 15
        · rw [if_pos h1, if_neg (by omega), if_pos h1]
        · rw [if_neg h1]
          by_cases h2 : j < 12
          · rw [if_pos h2, if_pos h2]
          · rw [if_neg h2, if_neg h2, if_neg h1]
            rfl
      clear hz hF hi2 hG
      go_upto_region 7 with fail
      obtain ⟨w3, hw3⟩ : ∃ w3, w3 = wr.setCell ⟨w.heap.size + 1 + 1, 15, none⟩ (.int .u8 1) := ⟨_, rfl⟩
      have Z3 : Hid (Chg w w3 ∧ Ar w3 (w.heap.size + 1) (ba 16 zB) ∧ Ar w3 (w.heap.size + 1 + 1) (ba 16 G)) := by
        obtain ⟨k0, k1, k2, k3⟩ := Z.out
        rw [hw3, HG.out.2]
        have := k3.set 15 (.int .u8 ((1#8 : By).toNat : Int))
        rw [ba_set] at this
        exact ⟨k0.setCell (by dsimp only; omega) _, k2.other (by dsimp only; omega) _, this⟩
      rw [← hw3]
      obtain ⟨t1, g1⟩ := Z3.out.2.2
      obtain ⟨t3, g3⟩ := Z3.out.2.1
      have hsz := szB G zero32.2
      have hlen := lenB 16 zB G
      have hone := ba_one 16 G
      clear hw3 b1 f1 Z
      go_wp2_with (first | refine wpList_load_row rfl 23 _ rfl _ rfl _ _ _ _ g1 und32 rfl hsz ?_ | refine wpList_store_row rfl 23 _ _ rfl _ _ rfl rfl _ _ g3 hsz hlen hone ?_)
      refine bp_c (n := 16) (c := ba 16 G) Try.results55 rfl rfl ?_ und32 i32 (ba_size _ _) ⟨by rw [HG.out.1], ?_⟩
      · exact Z3.out.2.1.row _
      · exact Z3.out.1.setRow (by omega) _

theorem ctr_two (nc : Nat → By) : ba 16 (updB (ctrB nc 1#8) 15 2#8) = ba 16 (ctrB nc 2#8) := ba_congr fun j hj => by
  unfold updB ctrB
  by_cases h : j = 15
  · rw [if_pos h, if_neg (by omega), if_pos h]
  · rw [if_neg h]
    by_cases h2 : j < 12
    · rw [if_pos h2, if_pos h2]
    · rw [if_neg h2, if_neg h2, if_neg h, if_neg h]
theorem nums_st {R n : Nat} {k a b txt : Nat → By} (h : ba 16 a = ba 16 b) : nums n (stF R k a txt) = nums n (stF R k b txt) := nums_congr fun i _ => by
  have h1 := ba_inj h
  unfold stF pad ctr num4
  rw [h1 12 (by decide), h1 13 (by decide), h1 14 (by decide), h1 15 (by decide)]
  congr 1
  refine E16.enc (fun _ _ => rfl) (fun j hj => ?_) _ (by omega)
  unfold put4
  by_cases h2 : j < 12
  · rw [if_pos h2, if_pos h2, h1 j hj]
  · rw [if_neg h2, if_neg h2]

set_option maxRecDepth 100000 in
set_option maxHeartbeats 4000000 in
theorem refStr_any (K R nx : Nat) (k nc tx : Nat → By) (vx : Value) (w : World) (hK : Ar w K (rkeyC R k)) (hR : R = 10 ∨ R = 14) (hvx : Ap.Rd w vx (nums nx tx)) (hnx : nx ≤ 140737488351232) :
    Calls Try.prog 43 #[.pointer (some ⟨K, 0, none⟩), .agg (ba 12 nc), vx] w fun r w' => ∃ v, r = .returned v ∧ OwnN w w' v (nums nx (stF R k (ctrB nc 2#8) tx)) := by
  obtain ⟨xo, m2, cx, rfl, hm2, -⟩ := hvx.shape
  rw [nums_len] at hm2
  subst hm2
  have HX : Hid (Ar w K (rkeyC R k) ∧ (R = 10 ∨ R = 14) ∧ Ap.Rd w (.slice xo m2 cx) (nums m2 tx)) := ⟨hK, hR, hvx⟩
  clear hK hR hvx
  have hsA := ba_size 12 nc
  have hszA := szB nc zero38.2
  have HC1 : Hid (∀ u, Calls Try.prog 55 #[.agg (ba 12 nc)] u fun r w' => r = .returned (.agg (ba 16 (ctrB nc 1#8))) ∧ Chg u w') := refFirst_any nc
  obtain ⟨A, hA⟩ : ∃ A, A = ba 12 nc := ⟨_, rfl⟩
  have HA : Hid (A = ba 12 nc) := hA
  rw [← hA] at hsA hszA HC1 ⊢
  clear hA
  have hz := zero32.1
  obtain ⟨c1, hc1⟩ : ∃ c, c = ctrB nc 1#8 := ⟨_, rfl⟩
  have HCc : Hid (c1 = ctrB nc 1#8) := hc1
  rw [← hc1] at HC1
  clear hc1
  go_enter Try.func43, Try.ntmps43
  go_upto_region 1 with fail
  obtain ⟨w1, hw1⟩ : ∃ w1, w1 = w.alloc (.cells A 38) := ⟨_, rfl⟩
  have Z1 : Hid (Chg w w1 ∧ Ar w1 w.heap.size A) := by
    rw [hw1]
    exact ⟨(Chg.refl w).alloc _, Ar.new w _ _⟩
  rw [← hw1]
  obtain ⟨tA, gA⟩ := Z1.out.2
  clear hw1 hsA
  go_wp2_with (first | refine wpList_load_row rfl 38 _ rfl _ rfl _ _ _ _ gA und38 rfl hszA ?_)
  go_at_call 55
  refine (HC1.out _).mono ?_
  rintro r w2 ⟨rfl, hc2⟩
  have Z2 : Hid (Chg w w2) := Z1.out.1.trans hc2
  clear hc2 gA hszA Z1 HC1
  have s1 := szB c1 zero32.2
  have l1 := lenB 16 zB c1
  have o1 := ba_one 16 c1
  go_upto_region 2 with (first | refine wpList_store_row rfl 23 _ _ rfl _ _ rfl rfl _ _ (heap_alloc_last w2 _) s1 l1 o1 ?_)
  obtain ⟨Bj, hBj⟩ : ∃ Bj, Bj = w2.heap.size := ⟨_, rfl⟩
  obtain ⟨w3, hw3⟩ : ∃ w3, w3 = (w2.alloc (.cells (ba 16 zB) 23)).setRow w2.heap.size (ba 16 c1) := ⟨_, rfl⟩
  have Z3 : Hid (Chg w w3 ∧ Ar w3 Bj (ba 16 c1) ∧ w.heap.size ≤ Bj) := by
    have k0 := Z2.out
    rw [hw3, hBj]
    exact ⟨(k0.alloc _).setRow k0.size _, (Ar.new w2 _ _).row _, k0.size⟩
  rw [← hw3, ← hBj]
  have b1 := (Z3.out.2.1.cell 15).trans (ba_get 16 c1 (by decide))
  have f1 := Z3.out.2.1.frozen 15
  clear hw3 hBj Z2 s1 l1 o1
  dsimp only [Act.put]
  go_upto_region 3 with fail
  obtain ⟨w4, hw4⟩ : ∃ w4, w4 = w3.setCell ⟨Bj, 15, none⟩ (.int .u8 2) := ⟨_, rfl⟩
  obtain ⟨c2, hc2⟩ : ∃ c2, c2 = updB c1 15 2#8 := ⟨_, rfl⟩
  have Z4 : Hid (Chg w w4 ∧ Ar w4 Bj (ba 16 c2)) := by
    obtain ⟨k0, k1, k2⟩ := Z3.out
    rw [hw4, hc2]
    have := k1.set 15 (.int .u8 ((2#8 : By).toNat : Int))
    rw [ba_set] at this
    exact ⟨k0.setCell k2 _, this⟩
  have HC2 : Hid (ba 16 c2 = ba 16 (ctrB nc 2#8)) := by
    show ba 16 c2 = _
    rw [hc2, HCc.out, ctr_two]
  rw [← hw4]
  obtain ⟨t4, g4⟩ := Z4.out.2
  have s4 := szB c2 zero32.2
  clear hw4 hc2 b1 f1 Z3
  go_wp2_with (first | refine wpList_load_row rfl 23 _ rfl _ rfl _ _ _ _ g4 und32 rfl s4 ?_)
  go_at_call 13
  refine (refStream_any K R m2 cx k c2 tx xo w4 (HX.out.1.chg Z4.out.1) HX.out.2.1 (Rd.chg HX.out.2.2 Z4.out.1) hnx).mono ?_
  rintro r w5 ⟨v, rfl, ho⟩
  obtain ⟨vo, vm, vc, rfl, -⟩ := ho.own.rd.shape
  have Z5 : Hid (OwnN w w5 (.slice vo vm vc) (nums m2 (stF R k (ctrB nc 2#8) tx))) := by
    rw [← nums_st HC2.out]
    exact ⟨ho.own, fun b e => Nat.le_trans Z4.out.1.size (ho.new b e), Z4.out.1.trans ho.chg⟩
  clear ho
  go_wp2
  go_ret
  exact ⟨_, rfl, Z5.out⟩
end Go.Proofs.Ytfnibmfmjglmlaa
