/-
  The counter's block, the tag, two blocks XORed by the law: counter, tagOf, with.
  The tag of what is locked up: tagOf.
-/
import Derived.Test.YtobglgddbhddnaaHh
import Derived.Test.YtobglgddbhddnaaEnc
namespace Go.Proofs.Ytobglgddbhddnaa
open Go.RowKit
set_option linter.unusedVariables false

theorem zero38 : (∀ w, (zeroValue 24).run Try.prog w = .ok (.agg (ba 12 zB)) w) ∧ (Try.prog.info? 24).map (·.size) = some 12 := zero_of_info (by kernel_rfl)
theorem und38 : Try.prog.underlying 24 = some (.array 12 5) := by kernel_rfl

/-- The block of a nonce and a small number. -/
def ctrB (nc : Nat → By) (x : By) : Nat → By := fun j => if j < 12 then nc j else if j = 15 then x else 0#8

set_option maxRecDepth 100000 in
set_option maxHeartbeats 4000000 in
theorem counter_any (nc : Nat → By) (x : By) (w : World) : Calls Try.prog 28 #[.agg (ba 12 nc), .int .u8 (x.toNat : Int)] w fun r w' => r = .returned (.agg (ba 16 (ctrB nc x))) ∧ Chg w w' := by
  have hz := zero32.1
  have hsA := ba_size 12 nc
  obtain ⟨A, hA⟩ : ∃ A, A = ba 12 nc := ⟨_, rfl⟩
  have HA : Hid (A = ba 12 nc) := hA
  rw [← hA] at hsA ⊢
  clear hA
  go_enter Try.func28, Try.ntmps28
  go_upto_region 2 with fail
  obtain ⟨w2, hw2⟩ : ∃ w2, w2 = ((w.alloc (.cells A 24)).alloc (.cells (ba 16 zB) 60)).alloc (.cells (ba 16 zB) 60) := ⟨_, rfl⟩
  have Z : Hid (Chg w w2 ∧ Ar w2 w.heap.size (ba 12 nc) ∧ Ar w2 (w.heap.size + 1) (ba 16 zB) ∧ Ar w2 (w.heap.size + 1 + 1) (ba 16 zB)) := by
    rw [hw2, HA.out]
    exact ⟨(((Chg.refl w).alloc _).alloc _).alloc _, ((Ar.new w _ _).alloc _).alloc _, (Ar.new1 w _ _ _).alloc _, Ar.new2 w _ _ _ _⟩
  rw [← hw2]
  have hcp := run_cp w2.drew (w.heap.size + 1 + 1) 16 0 16 16 w.heap.size 0 12 12 12 zB nc Z.out.2.2.2 (Ar.bs Z.out.2.1) rfl (by omega)
  obtain ⟨F, hF⟩ : ∃ F, F = over 0 12 nc zB := ⟨_, rfl⟩
  rw [← hF] at hcp
  have HF : Hid (F = over 0 12 nc zB) := hF
  clear hw2 hz hsA hF
  go_cut [] from 6 to 9 (fun wc => Chg w wc ∧ Ar wc (w.heap.size + 1) (ba 16 zB) ∧ Ar wc (w.heap.size + 1 + 1) (ba 16 F))
  case first =>
    go_region_with (fail)
    all_goals go_wp2
    all_goals go_meet
    all_goals
      obtain ⟨k0, k1, k2, k3⟩ := Z.out
      exact ⟨k0.drew.setRow (by omega) _, k2.drew.rowOther (by omega) _, k3.drew.row _⟩
  case rest =>
    obtain ⟨z0, z1, z2⟩ := hcut
    have b1 := (z2.cell 15).trans (ba_get 16 F (by decide))
    have f1 := z2.frozen 15
    have Z2 : Hid (Chg w wc ∧ Ar wc (w.heap.size + 1) (ba 16 zB) ∧ Ar wc (w.heap.size + 1 + 1) (ba 16 F)) := ⟨z0, z1, z2⟩
    clear z0 z1 z2 hcp Z
    go_upto_region 4 with fail
    obtain ⟨w3, hw3⟩ : ∃ w3, w3 = wc.setCell ⟨w.heap.size + 1 + 1, 15, none⟩ (.int .u8 (x.toNat : Int)) := ⟨_, rfl⟩
    obtain ⟨G, hG⟩ : ∃ G, G = updB F 15 x := ⟨_, rfl⟩
    have HG : Hid (ba 16 G = ba 16 (ctrB nc x)) := by
      show ba 16 G = _
      refine ba_congr fun j hj => ?_
      rw [hG, HF.out, updB, over, ctrB]
      by_cases h1 : j = 15
      · rw [if_pos h1, if_neg (by omega), if_pos h1]
      · rw [if_neg h1]
        by_cases h2 : j < 12
        · rw [if_pos (by omega), if_pos h2, Nat.sub_zero]
        · rw [if_neg (by omega), if_neg h2, if_neg h1]
          rfl
    have Z3 : Hid (Chg w w3 ∧ Ar w3 (w.heap.size + 1) (ba 16 zB) ∧ Ar w3 (w.heap.size + 1 + 1) (ba 16 G)) := by
      obtain ⟨k0, k1, k2⟩ := Z2.out
      rw [hw3, hG]
      have := k2.set 15 (.int .u8 (x.toNat : Int))
      rw [ba_set] at this
      exact ⟨k0.setCell (by dsimp only; omega) _, k1.other (by dsimp only; omega) _, this⟩
    rw [← hw3]
    obtain ⟨t1, g1⟩ := Z3.out.2.2
    obtain ⟨t3, g3⟩ := Z3.out.2.1
    have hsz := szB G zero32.2
    have hlen := lenB 16 zB G
    have hone := ba_one 16 G
    clear hw3 hG b1 f1 Z2
    go_wp2_with (first | refine wpList_load_row rfl 60 _ rfl _ rfl _ _ _ _ g1 und32 rfl hsz ?_ | refine wpList_store_row rfl 60 _ _ rfl _ _ rfl rfl _ _ g3 hsz hlen hone ?_)
    refine bp_c (n := 16) (c := ba 16 G) Try.results28 rfl rfl ?_ und32 i32 (ba_size _ _) ⟨by rw [HG.out], ?_⟩
    · exact Z3.out.2.1.row _
    · exact Z3.out.1.setRow (by omega) _

/-- The tag. -/
def tagF (R : Nat) (k nc ta : Nat → By) (na : Nat) (tx : Nat → By) (nx : Nat) : Nat → By := xr (ghash (enc R k zB) ta na tx nx) (enc R k (ctrB nc 1#8))

/-- What stands while both are XORed. -/
structure TaS (w wr : World) (Bo Bs Bp : Nat) (g p : Nat → By) (i : Nat) : Prop where
  chg : Chg w wr
  out : Ar wr Bo (ba 16 zB)
  sum : Ar wr Bs (ba 16 (upTo i (xr g p) g))
  pad : Ar wr Bp (ba 16 p)

set_option maxRecDepth 100000 in
set_option maxHeartbeats 4000000 in
theorem tag_any (K R : Nat) (k nc ta tx : Nat → By) (na nx : Nat) (va vx : Value) (w : World) (hK : Ar w K (keyC R k)) (hR : R = 10 ∨ R = 14) (hva : Ap.Rd w va (nums na ta)) (hvx : Ap.Rd w vx (nums nx tx)) (hna : na ≤ 140737488351232) (hnx : nx ≤ 140737488351232) :
    Calls Try.prog 29 #[.pointer (some ⟨K, 0, none⟩), .agg (ba 12 nc), va, vx] w fun r w' => r = .returned (.agg (ba 16 (tagF R k nc ta na tx nx))) ∧ Chg w w' := by
  obtain ⟨ao, m1, ca, rfl, hm1, -⟩ := hva.shape
  obtain ⟨xo, m2, cx, rfl, hm2, -⟩ := hvx.shape
  rw [nums_len] at hm1 hm2
  subst hm1 hm2
  obtain ⟨e0, he0⟩ : ∃ e, e = enc R k zB := ⟨_, rfl⟩
  obtain ⟨c1, hc1⟩ : ∃ c, c = ctrB nc 1#8 := ⟨_, rfl⟩
  obtain ⟨g, hg⟩ : ∃ g, g = ghash e0 ta m1 tx m2 := ⟨_, rfl⟩
  obtain ⟨p, hp⟩ : ∃ p, p = enc R k c1 := ⟨_, rfl⟩
  have HT : Hid (xr g p = tagF R k nc ta m1 tx m2) := by
    show _ = _
    rw [hg, hp, hc1, he0]
    rfl
  have C1 : Hid (∀ u, Chg w u → Calls Try.prog 39 #[.pointer (some ⟨K, 0, none⟩), .agg (ba 16 zB)] u fun r w' => r = .returned (.agg (ba 16 e0)) ∧ Chg u w') := by
    rw [he0]
    exact fun u c => encrypt_any K R k zB u (hK.chg c) hR
  have C2 : Hid (∀ u, Chg w u → Calls Try.prog 38 #[.agg (ba 16 e0), .slice ao m1 ca, .slice xo m2 cx] u fun r w' => r = .returned (.agg (ba 16 g)) ∧ Chg u w') := by
    rw [hg]
    exact fun u c => hash_any e0 ta tx m1 m2 _ _ u (Rd.chg hva c) (Rd.chg hvx c) hna hnx
  have C3 : Hid (∀ u, Calls Try.prog 28 #[.agg (ba 12 nc), .int .u8 1] u fun r w' => r = .returned (.agg (ba 16 c1)) ∧ Chg u w') := by
    rw [hc1]
    exact fun u => counter_any nc 1#8 u
  have C4 : Hid (∀ u, Chg w u → Calls Try.prog 39 #[.pointer (some ⟨K, 0, none⟩), .agg (ba 16 c1)] u fun r w' => r = .returned (.agg (ba 16 p)) ∧ Chg u w') := by
    rw [hp]
    exact fun u c => encrypt_any K R k c1 u (hK.chg c) hR
  have hsA := ba_size 12 nc
  have hszA := szB nc zero38.2
  have hsg := szB g zero32.2
  have hlg := lenB 16 zB g
  have hog := ba_one 16 g
  have hsp := szB p zero32.2
  have hlp := lenB 16 zB p
  have hop := ba_one 16 p
  obtain ⟨A, hA⟩ : ∃ A, A = ba 12 nc := ⟨_, rfl⟩
  rw [← hA] at hsA hszA C3 ⊢
  clear hA he0 hc1 hg hp hva hvx hK
  have hz := zero32.1
  go_enter Try.func29, Try.ntmps29
  go_upto_region 1 with fail
  obtain ⟨w1, hw1⟩ : ∃ w1, w1 = (w.alloc (.cells A 24)).alloc (.cells (ba 16 zB) 60) := ⟨_, rfl⟩
  have Z1 : Hid (Chg w w1 ∧ Ar w1 w.heap.size A ∧ Ar w1 (w.heap.size + 1) (ba 16 zB)) := by
    rw [hw1]
    exact ⟨((Chg.refl w).alloc _).alloc _, (Ar.new w _ _).alloc _, Ar.new1 w _ _ _⟩
  rw [← hw1]
  clear hw1 hsA
  go_wp2_with fail
  go_at_call 39
  refine (C1.out _ Z1.out.1).mono ?_
  rintro r w2 ⟨rfl, hc2⟩
  have Z2 : Hid (Chg w w2 ∧ Ar w2 w.heap.size A ∧ Ar w2 (w.heap.size + 1) (ba 16 zB)) := ⟨Z1.out.1.trans hc2, Z1.out.2.1.chg hc2, Z1.out.2.2.chg hc2⟩
  clear hc2 Z1 C1
  go_wp2_with fail
  go_at_call 38
  refine (C2.out _ Z2.out.1).mono ?_
  rintro r w3 ⟨rfl, hc3⟩
  have Z3 : Hid (Chg w w3 ∧ Ar w3 w.heap.size A ∧ Ar w3 (w.heap.size + 1) (ba 16 zB)) := ⟨Z2.out.1.trans hc3, Z2.out.2.1.chg hc3, Z2.out.2.2.chg hc3⟩
  clear hc3 Z2 C2
  go_upto_region 2 with (first | refine wpList_store_row rfl 60 _ _ rfl _ _ rfl rfl _ _ (heap_alloc_last w3 _) hsg hlg hog ?_)
  obtain ⟨Bs, hBs⟩ : ∃ Bs, Bs = w3.heap.size := ⟨_, rfl⟩
  obtain ⟨w4, hw4⟩ : ∃ w4, w4 = (w3.alloc (.cells (ba 16 zB) 60)).setRow w3.heap.size (ba 16 g) := ⟨_, rfl⟩
  have Z4 : Hid (Chg w w4 ∧ Ar w4 w.heap.size A ∧ Ar w4 (w.heap.size + 1) (ba 16 zB) ∧ Ar w4 Bs (ba 16 g) ∧ w.heap.size + 1 < Bs) := by
    obtain ⟨k0, k1, k2⟩ := Z3.out
    have e1 := k2.lt
    rw [hw4, hBs]
    exact ⟨(k0.alloc _).setRow k0.size _, (k1.alloc _).rowOther (by omega) _, (k2.alloc _).rowOther (by omega) _, (Ar.new w3 _ _).row _, e1⟩
  rw [← hw4, ← hBs]
  obtain ⟨tA, gA⟩ := Z4.out.2.1
  clear hw4 hBs Z3
  go_wp2_with (first | refine wpList_load_row rfl 24 _ rfl _ rfl _ _ _ _ gA und38 rfl hszA ?_)
  go_at_call 28
  refine (C3.out _).mono ?_
  rintro r w5 ⟨rfl, hc5⟩
  have Z5 : Hid (Chg w w5 ∧ Ar w5 (w.heap.size + 1) (ba 16 zB) ∧ Ar w5 Bs (ba 16 g) ∧ w.heap.size + 1 < Bs) := by
    obtain ⟨k0, k1, k2, k3, k4⟩ := Z4.out
    exact ⟨k0.trans hc5, k2.chg hc5, k3.chg hc5, k4⟩
  clear hc5 Z4 C3 gA hszA
  go_wp2_with fail
  go_at_call 39
  refine (C4.out _ Z5.out.1).mono ?_
  rintro r w6 ⟨rfl, hc6⟩
  have Z6 : Hid (Chg w w6 ∧ Ar w6 (w.heap.size + 1) (ba 16 zB) ∧ Ar w6 Bs (ba 16 g) ∧ w.heap.size + 1 < Bs) := by
    obtain ⟨k0, k1, k2, k3⟩ := Z5.out
    exact ⟨k0.trans hc6, k1.chg hc6, k2.chg hc6, k3⟩
  clear hc6 Z5 C4
  go_upto_region 3 with (first | refine wpList_store_row rfl 60 _ _ rfl _ _ rfl rfl _ _ (heap_alloc_last w6 _) hsp hlp hop ?_)
  obtain ⟨Bp, hBp⟩ : ∃ Bp, Bp = w6.heap.size := ⟨_, rfl⟩
  obtain ⟨w7, hw7⟩ : ∃ w7, w7 = (w6.alloc (.cells (ba 16 zB) 60)).setRow w6.heap.size (ba 16 p) := ⟨_, rfl⟩
  have Z7 : Hid (TaS w w7 (w.heap.size + 1) Bs Bp g p 0 ∧ w.heap.size + 1 < Bs ∧ Bs < Bp) := by
    obtain ⟨k0, k1, k2, k3⟩ := Z6.out
    have e1 := k2.lt
    rw [hw7, hBp]
    refine ⟨⟨(k0.alloc _).setRow k0.size _, (k1.alloc _).rowOther (by omega) _, ?_, (Ar.new w6 _ _).row _⟩, k3, e1⟩
    rw [upTo_zero]
    exact (k2.alloc _).rowOther (by omega) _
  rw [← hw7, ← hBp]
  clear hw7 hBp Z6 hsg hlg hog hsp hlp hop
  dsimp only [Act.put]
  go_wp2_with fail
  go_loopw [22] (fun v wr => ∃ (i : Nat), v = .int .i64 i ∧ i ≤ 16 ∧ TaS w wr (w.heap.size + 1) Bs Bp g p i) (fun v wr => 16 - (intOf v).toNat)
  case atStart => exact ⟨0, rfl, by omega, Z7.out.1⟩
  case round =>
    obtain ⟨i, rfl, hi, hz3⟩ := hrel
    have Z : Hid (TaS w wr (w.heap.size + 1) Bs Bp g p i) := hz3
    by_cases h16 : i < 16
    · have hd : decide ((i : Int) < 16) = true := by simp; omega
      have li : (i : Int) < 16 := by omega
      have c1 := (hz3.sum.cell i).trans (ba_get 16 _ h16)
      have c2 := (hz3.pad.cell i).trans (ba_get 16 _ h16)
      have f1 := hz3.sum.frozen i
      have e0 : upTo i (xr g p) g i = g i := by simp [upTo]
      rw [e0] at c1
      obtain ⟨x, hx⟩ : ∃ x, x = g i := ⟨_, rfl⟩
      obtain ⟨y, hy⟩ : ∃ y, y = p i := ⟨_, rfl⟩
      rw [← hx] at c1
      rw [← hy] at c2
      have HX : Hid (xr g p i = x ^^^ y) := by show xr g p i = _; rw [hx, hy, xr]
      clear hx hy hz3 e0
      go_wp2_with fail
      go_region_with (fail)
      all_goals go_wp2
      all_goals
        go_roundw
        case rel =>
          have h7 := Z7.out.2
          obtain ⟨k0, k1, k2, k3⟩ := Z.out
          refine ⟨i + 1, by go_num, by omega, (k0.setCell (by dsimp only; omega) _).drew, (k1.other (by dsimp only; omega) _).drew, ?_, (k3.other (by dsimp only; omega) _).drew⟩
          have hh := k2.set i (.int .u8 (Go.bits .xor .u8 (x.toNat : Int) (y.toNat : Int)))
          rw [xorB, ba_set, ← HX.out, upTo_upd] at hh
          rw [xorB, ← HX.out]
          exact hh.drew
        case measure => simp [intOf]; omega
    · have : i = 16 := by omega
      subst this
      have hd : decide (((16 : Nat) : Int) < 16) = false := by simp
      obtain ⟨q, hq⟩ : ∃ q, q = upTo 16 (xr g p) g := ⟨_, rfl⟩
      have HG : Hid (ba 16 q = ba 16 (tagF R k nc ta m1 tx m2)) := by
        show ba 16 q = _
        rw [hq, upTo_all, HT.out]
      have Zq : Hid (Chg w wr ∧ Ar wr (w.heap.size + 1) (ba 16 zB) ∧ Ar wr Bs (ba 16 q)) := ⟨hz3.chg, hz3.out, by rw [hq]; exact hz3.sum⟩
      obtain ⟨t1, g1⟩ := Zq.out.2.2
      obtain ⟨t3, g3⟩ := Zq.out.2.1
      have hsz := szB q zero32.2
      have hlen := lenB 16 zB q
      have hone := ba_one 16 q
      clear hq hz3 Z
      go_wp2_with (first | refine wpList_load_row rfl 60 _ rfl _ rfl _ _ _ _ g1 und32 rfl hsz ?_ | refine wpList_store_row rfl 60 _ _ rfl _ _ rfl rfl _ _ g3 hsz hlen hone ?_)
      refine bp_c (n := 16) (c := ba 16 q) Try.results29 rfl rfl ?_ und32 i32 (ba_size _ _) ⟨by rw [HG.out], ?_⟩
      · exact Zq.out.2.1.row _
      · exact Zq.out.1.setRow (by omega) _
end Go.Proofs.Ytobglgddbhddnaa
