/-
  The tag of what is locked up: tagOf.
-/
import Derived.Test.YtfnibmfmjglmlaaTg
namespace Go.Proofs.Ytfnibmfmjglmlaa
open Go.RowKit
set_option linter.unusedVariables false

/-- The tag. -/
def tagF (R : Nat) (k nc ta : Nat → By) (na : Nat) (tx : Nat → By) (nx : Nat) : Nat → By := xr (ghash (enc R k zB) ta na tx nx) (enc R k (ctrB nc 1#8))

/-- What stands while both are XORed. -/
structure TaS (w wr : World) (Bo Bs Bp : Nat) (g p : Nat → By) (i : Nat) : Prop where
  chg : Chg w wr
  out : Ar wr Bo (ba 16 zB)
  sum : Ar wr Bs (ba 16 (upTo i (xr g p) g))
  pad : Ar wr Bp (ba 16 p)

set_option maxRecDepth 100000 in
set_option maxHeartbeats 4000000 in
theorem tag_any (K R : Nat) (k nc ta tx : Nat → By) (na nx : Nat) (va vx : Value) (w : World) (hK : Ar w K (keyC R k)) (hR : R = 10 ∨ R = 14) (hva : Ap.Rd w va (nums na ta)) (hvx : Ap.Rd w vx (nums nx tx)) (hna : na ≤ 140737488351232) (hnx : nx ≤ 140737488351232) :
    Calls Try.prog 42 #[.pointer (some ⟨K, 0, none⟩), .agg (ba 12 nc), va, vx] w fun r w' => r = .returned (.agg (ba 16 (tagF R k nc ta na tx nx))) ∧ Chg w w' := by
  obtain ⟨ao, m1, ca, rfl, hm1, -⟩ := hva.shape
  obtain ⟨xo, m2, cx, rfl, hm2, -⟩ := hvx.shape
  rw [nums_len] at hm1 hm2
  subst hm1 hm2
  obtain ⟨e0, he0⟩ : ∃ e, e = enc R k zB := ⟨_, rfl⟩
  obtain ⟨c1, hc1⟩ : ∃ c, c = ctrB nc 1#8 := ⟨_, rfl⟩
  obtain ⟨g, hg⟩ : ∃ g, g = ghash e0 ta m1 tx m2 := ⟨_, rfl⟩
  obtain ⟨p, hp⟩ : ∃ p, p = enc R k c1 := ⟨_, rfl⟩
  have HT : Hid (xr g p = tagF R k nc ta m1 tx m2) := by
    show _ = _
    rw [hg, hp, hc1, he0]
    rfl
  have C1 : Hid (∀ u, Chg w u → Calls Try.prog 24 #[.pointer (some ⟨K, 0, none⟩), .agg (ba 16 zB)] u fun r w' => r = .returned (.agg (ba 16 e0)) ∧ Chg u w') := by
    rw [he0]
    exact fun u c => encrypt_any K R k zB u (hK.chg c) hR
  have C2 : Hid (∀ u, Chg w u → Calls Try.prog 17 #[.agg (ba 16 e0), .slice ao m1 ca, .slice xo m2 cx] u fun r w' => r = .returned (.agg (ba 16 g)) ∧ Chg u w') := by
    rw [hg]
    exact fun u c => hash_any e0 ta tx m1 m2 _ _ u (Rd.chg hva c) (Rd.chg hvx c) hna hnx
  have C3 : Hid (∀ u, Calls Try.prog 41 #[.agg (ba 12 nc), .int .u8 1] u fun r w' => r = .returned (.agg (ba 16 c1)) ∧ Chg u w') := by
    rw [hc1]
    exact fun u => counter_any nc 1#8 u
  have C4 : Hid (∀ u, Chg w u → Calls Try.prog 24 #[.pointer (some ⟨K, 0, none⟩), .agg (ba 16 c1)] u fun r w' => r = .returned (.agg (ba 16 p)) ∧ Chg u w') := by
    rw [hp]
    exact fun u c => encrypt_any K R k c1 u (hK.chg c) hR
  have hsA := ba_size 12 nc
  have hszA := szB nc zero38.2
  have hsg := szB g zero32.2
  have hlg := lenB 16 zB g
  have hog := ba_one 16 g
  have hsp := szB p zero32.2
  have hlp := lenB 16 zB p
  have hop := ba_one 16 p
  obtain ⟨A, hA⟩ : ∃ A, A = ba 12 nc := ⟨_, rfl⟩
  rw [← hA] at hsA hszA C3 ⊢
  clear hA he0 hc1 hg hp hva hvx hK
  have hz := zero32.1
  go_enter Try.func42, Try.ntmps42
  go_upto_region 1 with fail
  obtain ⟨w1, hw1⟩ : ∃ w1, w1 = (w.alloc (.cells A 38)).alloc (.cells (ba 16 zB) 23) := ⟨_, rfl⟩
  have Z1 : Hid (Chg w w1 ∧ Ar w1 w.heap.size A ∧ Ar w1 (w.heap.size + 1) (ba 16 zB)) := by
    rw [hw1]
    exact ⟨((Chg.refl w).alloc _).alloc _, (Ar.new w _ _).alloc _, Ar.new1 w _ _ _⟩
  rw [← hw1]
  clear hw1 hsA
  go_wp2_with fail
  go_at_call 24
  refine (C1.out _ Z1.out.1).mono ?_
  rintro r w2 ⟨rfl, hc2⟩
  have Z2 : Hid (Chg w w2 ∧ Ar w2 w.heap.size A ∧ Ar w2 (w.heap.size + 1) (ba 16 zB)) := ⟨Z1.out.1.trans hc2, Z1.out.2.1.chg hc2, Z1.out.2.2.chg hc2⟩
  clear hc2 Z1 C1
  go_wp2_with fail
  go_at_call 17
  refine (C2.out _ Z2.out.1).mono ?_
  rintro r w3 ⟨rfl, hc3⟩
  have Z3 : Hid (Chg w w3 ∧ Ar w3 w.heap.size A ∧ Ar w3 (w.heap.size + 1) (ba 16 zB)) := ⟨Z2.out.1.trans hc3, Z2.out.2.1.chg hc3, Z2.out.2.2.chg hc3⟩
  clear hc3 Z2 C2
  go_upto_region 2 with (first | refine wpList_store_row rfl 23 _ _ rfl _ _ rfl rfl _ _ (heap_alloc_last w3 _) hsg hlg hog ?_)
  obtain ⟨Bs, hBs⟩ : ∃ Bs, Bs = w3.heap.size := ⟨_, rfl⟩
  obtain ⟨w4, hw4⟩ : ∃ w4, w4 = (w3.alloc (.cells (ba 16 zB) 23)).setRow w3.heap.size (ba 16 g) := ⟨_, rfl⟩
  have Z4 : Hid (Chg w w4 ∧ Ar w4 w.heap.size A ∧ Ar w4 (w.heap.size + 1) (ba 16 zB) ∧ Ar w4 Bs (ba 16 g) ∧ w.heap.size + 1 < Bs) := by
    obtain ⟨k0, k1, k2⟩ := Z3.out
    have e1 := k2.lt
    rw [hw4, hBs]
    exact ⟨(k0.alloc _).setRow k0.size _, (k1.alloc _).rowOther (by omega) _, (k2.alloc _).rowOther (by omega) _, (Ar.new w3 _ _).row _, e1⟩
  rw [← hw4, ← hBs]
  obtain ⟨tA, gA⟩ := Z4.out.2.1
  clear hw4 hBs Z3
  go_wp2_with (first | refine wpList_load_row rfl 38 _ rfl _ rfl _ _ _ _ gA und38 rfl hszA ?_)
  go_at_call 41
  refine (C3.out _).mono ?_
  rintro r w5 ⟨rfl, hc5⟩
  have Z5 : Hid (Chg w w5 ∧ Ar w5 (w.heap.size + 1) (ba 16 zB) ∧ Ar w5 Bs (ba 16 g) ∧ w.heap.size + 1 < Bs) := by
    obtain ⟨k0, k1, k2, k3, k4⟩ := Z4.out
    exact ⟨k0.trans hc5, k2.chg hc5, k3.chg hc5, k4⟩
  clear hc5 Z4 C3 gA hszA
  go_wp2_with fail
  go_at_call 24
  refine (C4.out _ Z5.out.1).mono ?_
  rintro r w6 ⟨rfl, hc6⟩
  have Z6 : Hid (Chg w w6 ∧ Ar w6 (w.heap.size + 1) (ba 16 zB) ∧ Ar w6 Bs (ba 16 g) ∧ w.heap.size + 1 < Bs) := by
    obtain ⟨k0, k1, k2, k3⟩ := Z5.out
    exact ⟨k0.trans hc6, k1.chg hc6, k2.chg hc6, k3⟩
  clear hc6 Z5 C4
  go_upto_region 3 with (first | refine wpList_store_row rfl 23 _ _ rfl _ _ rfl rfl _ _ (heap_alloc_last w6 _) hsp hlp hop ?_)
  obtain ⟨Bp, hBp⟩ : ∃ Bp, Bp = w6.heap.size := ⟨_, rfl⟩
  obtain ⟨w7, hw7⟩ : ∃ w7, w7 = (w6.alloc (.cells (ba 16 zB) 23)).setRow w6.heap.size (ba 16 p) := ⟨_, rfl⟩
  have Z7 : Hid (TaS w w7 (w.heap.size + 1) Bs Bp g p 0 ∧ w.heap.size + 1 < Bs ∧ Bs < Bp) := by
    obtain ⟨k0, k1, k2, k3⟩ := Z6.out
    have e1 := k2.lt
    rw [hw7, hBp]
    refine ⟨⟨(k0.alloc _).setRow k0.size _, (k1.alloc _).rowOther (by omega) _, ?_, (Ar.new w6 _ _).row _⟩, k3, e1⟩
    rw [upTo_zero]
    exact (k2.alloc _).rowOther (by omega) _
  rw [← hw7, ← hBp]
  clear hw7 hBp Z6 hsg hlg hog hsp hlp hop
  dsimp only [Act.put]
  go_wp2_with fail
  go_loopw [22] (fun v wr => ∃ (i : Nat), v = .int .i64 i ∧ i ≤ 16 ∧ TaS w wr (w.heap.size + 1) Bs Bp g p i) (fun v wr => 16 - (intOf v).toNat)
  case atStart => exact ⟨0, rfl, by omega, Z7.out.1⟩
  case round =>
    obtain ⟨i, rfl, hi, hz3⟩ := hrel
    have Z : Hid (TaS w wr (w.heap.size + 1) Bs Bp g p i) := hz3
    by_cases h16 : i < 16
    · have hd : decide ((i : Int) < 16) = true := by simp; omega
      have li : (i : Int) < 16 := by omega
      have c1 := (hz3.sum.cell i).trans (ba_get 16 _ h16)
      have c2 := (hz3.pad.cell i).trans (ba_get 16 _ h16)
      have f1 := hz3.sum.frozen i
      have e0 : upTo i (xr g p) g i = g i := by simp [upTo]
      rw [e0] at c1
      obtain ⟨x, hx⟩ : ∃ x, x = g i := ⟨_, rfl⟩
      obtain ⟨y, hy⟩ : ∃ y, y = p i := ⟨_, rfl⟩
      rw [← hx] at c1
      rw [← hy] at c2
      have HX : Hid (xr g p i = x ^^^ y) := by show xr g p i = _; rw [hx, hy, xr]
      clear hx hy hz3 e0
      go_wp2_with fail
      go_region_with (fail)
      all_goals go_wp2
      all_goals
        go_roundw
        case rel =>
          have h7 := Z7.out.2
          obtain ⟨k0, k1, k2, k3⟩ := Z.out
          refine ⟨i + 1, by go_num, by omega, (k0.setCell (by dsimp only; omega) _).drew, (k1.other (by dsimp only; omega) _).drew, ?_, (k3.other (by dsimp only; omega) _).drew⟩
          have hh := k2.set i (.int .u8 (Go.bits .xor .u8 (x.toNat : Int) (y.toNat : Int)))
          rw [xorB, ba_set, ← HX.out, upTo_upd] at hh
          rw [xorB, ← HX.out]
          exact hh.drew
        case measure => simp [intOf]; omega
    · have : i = 16 := by omega
      subst this
      have hd : decide (((16 : Nat) : Int) < 16) = false := by simp
      obtain ⟨q, hq⟩ : ∃ q, q = upTo 16 (xr g p) g := ⟨_, rfl⟩
      have HG : Hid (ba 16 q = ba 16 (tagF R k nc ta m1 tx m2)) := by
        show ba 16 q = _
        rw [hq, upTo_all, HT.out]
      have Zq : Hid (Chg w wr ∧ Ar wr (w.heap.size + 1) (ba 16 zB) ∧ Ar wr Bs (ba 16 q)) := ⟨hz3.chg, hz3.out, by rw [hq]; exact hz3.sum⟩
      obtain ⟨t1, g1⟩ := Zq.out.2.2
      obtain ⟨t3, g3⟩ := Zq.out.2.1
      have hsz := szB q zero32.2
      have hlen := lenB 16 zB q
      have hone := ba_one 16 q
      clear hq hz3 Z
      go_wp2_with (first | refine wpList_load_row rfl 23 _ rfl _ rfl _ _ _ _ g1 und32 rfl hsz ?_ | refine wpList_store_row rfl 23 _ _ rfl _ _ rfl rfl _ _ g3 hsz hlen hone ?_)
      refine bp_c (n := 16) (c := ba 16 q) Try.results42 rfl rfl ?_ und32 i32 (ba_size _ _) ⟨by rw [HG.out], ?_⟩
      · exact Zq.out.2.1.row _
      · exact Zq.out.1.setRow (by omega) _
end Go.Proofs.Ytfnibmfmjglmlaa
