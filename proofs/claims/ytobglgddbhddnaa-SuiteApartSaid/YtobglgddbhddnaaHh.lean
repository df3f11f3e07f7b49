/-
  The hash of what is only looked at, and of a text: Hash.
-/
import Derived.Test.YtobglgddbhddnaaHs
namespace Go.Proofs.Ytobglgddbhddnaa
open Go.RowKit
set_option linter.unusedVariables false

/-- How many bits there are, of both. -/
def lens (na nx : Nat) : Po := jn (BitVec.ofNat 64 (8 * na)) (BitVec.ofNat 64 (8 * nx))
/-- The hash. -/
def ghash (h : Nat → By) (ta : Nat → By) (na : Nat) (tx : Nat → By) (nx : Nat) : Nat → By :=
  byt (pr (hs (hs 0#128 (pol h) ta na (nb na)) (pol h) tx nx (nb nx) ^^^ lens na nx) (pol h))
theorem nmLen (n : Nat) (hn : n ≤ 140737488351232) : ∃ z : Wo, Hid (z = BitVec.ofNat 64 (8 * n)) ∧ 8 * (n : Int) = (z.toNat : Int) ∧ IntKind.u64.wrap (z.toNat : Int) = (z.toNat : Int) ∧ IntKind.u64.wrap (n : Int) = (n : Int) := by
  refine ⟨_, rfl, ?_, ?_, ?_⟩
  · rw [BitVec.toNat_ofNat, Nat.mod_eq_of_lt (by omega)]; omega
  · have := (BitVec.ofNat 64 (8 * n)).isLt
    rw [IntKind.wrap_u64]
    omega
  · rw [IntKind.wrap_u64]
    omega

set_option maxRecDepth 100000 in
set_option maxHeartbeats 4000000 in
theorem hash_any (h ta tx : Nat → By) (na nx : Nat) (va vx : Value) (w : World) (hva : Ap.Rd w va (nums na ta)) (hvx : Ap.Rd w vx (nums nx tx)) (hna : na ≤ 140737488351232) (hnx : nx ≤ 140737488351232) :
    Calls Try.prog 38 #[.agg (ba 16 h), va, vx] w fun r w' => r = .returned (.agg (ba 16 (ghash h ta na tx nx))) ∧ Chg w w' := by
  obtain ⟨ao, m1, ca, rfl, hm1, -⟩ := hva.shape
  obtain ⟨xo, m2, cx, rfl, hm2, -⟩ := hvx.shape
  rw [nums_len] at hm1 hm2
  subst hm1 hm2
  have HV : Hid (Ap.Rd w (.slice ao m1 ca) (nums m1 ta) ∧ Ap.Rd w (.slice xo m2 cx) (nums m2 tx)) := ⟨hva, hvx⟩
  clear hva hvx
  obtain ⟨l1, HL1, el1, wl1, wm1⟩ := nmLen m1 hna
  obtain ⟨l2, HL2, el2, wl2, wm2⟩ := nmLen m2 hnx
  obtain ⟨y, hy⟩ : ∃ y, y = pol h := ⟨_, rfl⟩
  obtain ⟨s1, hs1⟩ : ∃ s1, s1 = hs 0#128 y ta m1 (nb m1) := ⟨_, rfl⟩
  obtain ⟨s2, hs2⟩ : ∃ s2, s2 = hs s1 y tx m2 (nb m2) := ⟨_, rfl⟩
  obtain ⟨ln, hln⟩ : ∃ ln, ln = lens m1 m2 := ⟨_, rfl⟩
  have HG : Hid (byt (pr (s2 ^^^ ln) y) = ghash h ta m1 tx m2) := by
    show _ = _
    rw [hln, hs2, hs1, hy]
    rfl
  have HLN : Hid (pc l1 l2 = pv ln) := by
    refine pv_of ?_ ?_
    · rw [hln, lens, hi_jn, HL1.out]
    · rw [hln, lens, lo_jn, HL2.out]
  have C1 : Hid (∀ u, Calls Try.prog 50 #[.agg (ba 16 h)] u fun r w' => r = .returned (.agg (pv y)) ∧ Chg u w') := by rw [hy]; exact polyOf_any h
  have C2 : Hid (∀ u, Chg w u → Calls Try.prog 51 #[.agg (pv 0#128), .agg (pv y), .slice ao m1 ca] u fun r w' => r = .returned (.agg (pv s1)) ∧ Chg u w') := by
    rw [hs1]
    exact fun u k => hashedV_any _ _ ta m1 _ u (Rd.chg HV.out.1 k) hna
  have C3 : Hid (∀ u, Chg w u → Calls Try.prog 51 #[.agg (pv s1), .agg (pv y), .slice xo m2 cx] u fun r w' => r = .returned (.agg (pv s2)) ∧ Chg u w') := by
    rw [hs2]
    exact fun u k => hashedV_any _ _ tx m2 _ u (Rd.chg HV.out.2 k) hnx
  have hsA := ba_size 16 h
  obtain ⟨A, hA⟩ : ∃ A, A = ba 16 h := ⟨_, rfl⟩
  have hszA : (Try.prog.info? 60).map (·.size) = some A.size := by rw [hA]; exact szB h zero32.2
  rw [← hA] at hsA C1 ⊢
  clear hA hy hs1 hs2 hln HL1 HL2 HV
  have hz := zero65.1
  have hz2 := zero32.1
  obtain ⟨ff, hff⟩ := str65
  have hsy : (Try.prog.info? 90).map (·.size) = some (pv y).size := i65 _ _
  have hsy1 : (Try.prog.info? 90).map (·.size) = some (pv s1).size := i65 _ _
  have hsy2 : (Try.prog.info? 90).map (·.size) = some (pv s2).size := i65 _ _
  have hoy := pv_one y
  have hoy1 := pv_one s1
  have hoy2 := pv_one s2
  have hly : (#[.int .u64 0, .int .u64 0] : Array Value).size = (pv y).size := rfl
  have hly1 : (#[.int .u64 0, .int .u64 0] : Array Value).size = (pv s1).size := rfl
  have hly2 : (pv s1).size = (pv s2).size := rfl
  have hzz : (.agg #[.int .u64 0, .int .u64 0] : Value) = .agg (pv 0#128) := by rw [show (#[.int .u64 0, .int .u64 0] : Array Value) = pv 0#128 from zeroP]
  have HZZ : Hid ((.agg #[.int .u64 0, .int .u64 0] : Value) = .agg (pv 0#128)) := hzz
  rw [← hzz] at C2
  clear hzz
  obtain ⟨Y, hY⟩ : ∃ Y, Y = pv y := ⟨_, rfl⟩
  obtain ⟨S1, hS1⟩ : ∃ S1, S1 = pv s1 := ⟨_, rfl⟩
  obtain ⟨S2, hS2⟩ : ∃ S2, S2 = pv s2 := ⟨_, rfl⟩
  have HE : Hid (Y = pv y ∧ S1 = pv s1 ∧ S2 = pv s2) := ⟨hY, hS1, hS2⟩
  rw [← hY] at C1 C2 C3 hsy hoy hly
  rw [← hS1] at C2 C3 hsy1 hoy1 hly1 hly2
  rw [← hS2] at C3 hsy2 hoy2 hly2
  clear hY hS1 hS2
  go_enter Try.func38, Try.ntmps38
  go_upto_region 1 with fail
  obtain ⟨w1, hw1⟩ : ∃ w1, w1 = (w.alloc (.cells A 60)).alloc (.cells (ba 16 zB) 60) := ⟨_, rfl⟩
  obtain ⟨Bo, hBo⟩ : ∃ Bo, Bo = w.heap.size + 1 := ⟨_, rfl⟩
  have Z1 : Hid (Chg w w1 ∧ Ar w1 w.heap.size A ∧ Ar w1 Bo (ba 16 zB) ∧ w.heap.size < Bo) := by
    rw [hw1, hBo]
    exact ⟨((Chg.refl w).alloc _).alloc _, (Ar.new w _ _).alloc _, Ar.new1 w _ _ _, by omega⟩
  rw [← hw1, ← hBo]
  obtain ⟨tA, gA⟩ := Z1.out.2.1
  clear hw1 hBo hsA hz2
  go_wp2_with (first | refine wpList_load_row rfl 60 _ rfl _ rfl _ _ _ _ gA und32 rfl hszA ?_)
  go_at_call 50
  refine (C1.out _).mono ?_
  rintro r w2 ⟨rfl, hc2⟩
  obtain ⟨By, hBy⟩ : ∃ By, By = w2.heap.size := ⟨_, rfl⟩
  have Z2 : Hid (Chg w w2 ∧ Ar w2 Bo (ba 16 zB) ∧ w.heap.size < Bo ∧ By = w2.heap.size) := ⟨Z1.out.1.trans hc2, Z1.out.2.2.1.chg hc2, Z1.out.2.2.2, hBy⟩
  clear hc2 gA hszA C1 Z1
  go_upto_region 2 with (first | refine wpList_store_row rfl 90 _ _ rfl _ _ rfl rfl _ _ (heap_alloc_last w2 _) hsy hly hoy ?_)
  obtain ⟨w3, hw3⟩ : ∃ w3, w3 = (w2.alloc (.cells #[.int .u64 0, .int .u64 0] 90)).setRow w2.heap.size Y := ⟨_, rfl⟩
  have Z3 : Hid (Chg w w3 ∧ Ar w3 Bo (ba 16 zB) ∧ Ar w3 By Y ∧ w.heap.size < Bo ∧ Bo < By) := by
    obtain ⟨k0, k1, k2, k3⟩ := Z2.out
    have e1 := k1.lt
    rw [hw3, k3]
    exact ⟨(k0.alloc _).setRow k0.size _, (k1.alloc _).rowOther (by omega) _, (Ar.new w2 _ _).row _, k2, e1⟩
  rw [← hw3, ← hBy]
  clear hw3 hBy Z2
  obtain ⟨tY, gY⟩ := Z3.out.2.2.1
  go_wp2_with (first | refine wpList_load_row rfl 90 _ rfl _ rfl _ _ _ _ gY hff rfl hsy ?_)
  go_at_call 51
  refine (C2.out _ Z3.out.1).mono ?_
  rintro r w4 ⟨rfl, hc4⟩
  obtain ⟨Bs, hBs⟩ : ∃ Bs, Bs = w4.heap.size := ⟨_, rfl⟩
  have Z4 : Hid (Chg w w4 ∧ Ar w4 Bo (ba 16 zB) ∧ Ar w4 By Y ∧ w.heap.size < Bo ∧ Bo < By ∧ Bs = w4.heap.size) := by
    obtain ⟨k0, k1, k2, k3, k4⟩ := Z3.out
    exact ⟨k0.trans hc4, k1.chg hc4, k2.chg hc4, k3, k4, hBs⟩
  clear hc4 gY C2 Z3
  go_upto_region 3 with (first | refine wpList_store_row rfl 90 _ _ rfl _ _ rfl rfl _ _ (heap_alloc_last w4 _) hsy1 hly1 hoy1 ?_)
  obtain ⟨wa, hwa⟩ : ∃ wa, wa = (w4.alloc (.cells #[.int .u64 0, .int .u64 0] 90)).setRow w4.heap.size S1 := ⟨_, rfl⟩
  have Za : Hid (Chg w wa ∧ Ar wa Bo (ba 16 zB) ∧ Ar wa By Y ∧ Ar wa Bs S1 ∧ w.heap.size < Bo ∧ Bo < By ∧ By < Bs) := by
    obtain ⟨k0, k1, k2, k3, k4, k5⟩ := Z4.out
    have e1 := k2.lt
    rw [hwa, k5]
    exact ⟨(k0.alloc _).setRow k0.size _, (k1.alloc _).rowOther (by omega) _, (k2.alloc _).rowOther (by omega) _, (Ar.new w4 _ _).row _, k3, k4, e1⟩
  rw [← hwa, ← hBs]
  clear hwa hBs Z4
  obtain ⟨tY, gY⟩ := Za.out.2.2.1
  obtain ⟨tS, gS⟩ := Za.out.2.2.2.1
  go_wp2_with (first | refine wpList_load_row rfl 90 _ rfl _ rfl _ _ _ _ gS hff rfl hsy1 ?_ | refine wpList_load_row rfl 90 _ rfl _ rfl _ _ _ _ gY hff rfl hsy ?_)
  go_at_call 51
  refine (C3.out _ Za.out.1).mono ?_
  rintro r wb ⟨rfl, hcb⟩
  have Zb : Hid (Chg w wb ∧ Ar wb Bo (ba 16 zB) ∧ Ar wb By Y ∧ Ar wb Bs S1 ∧ w.heap.size < Bo ∧ Bo < By ∧ By < Bs) := by
    obtain ⟨k0, k1, k2, k3, k4, k5, k6⟩ := Za.out
    exact ⟨k0.trans hcb, k1.chg hcb, k2.chg hcb, k3.chg hcb, k4, k5, k6⟩
  obtain ⟨tT, gT⟩ := Zb.out.2.2.2.1
  clear hcb gY gS C3 Za
  go_upto_region 4 with (first | refine wpList_store_row rfl 90 _ _ rfl _ _ rfl rfl _ _ gT hsy2 hly2 hoy2 ?_)
  obtain ⟨wd, hwd⟩ : ∃ wd, wd = wb.setRow Bs S2 := ⟨_, rfl⟩
  have Zd : Hid (Chg w wd ∧ Ar wd Bo (ba 16 zB) ∧ Ar wd By Y ∧ Ar wd Bs S2 ∧ w.heap.size < Bo ∧ Bo < By ∧ By < Bs) := by
    obtain ⟨k0, k1, k2, k3, k4, k5, k6⟩ := Zb.out
    rw [hwd]
    exact ⟨k0.setRow (by omega) _, k1.rowOther (by omega) _, k2.rowOther (by omega) _, k3.row _, k4, k5, k6⟩
  rw [← hwd]
  clear hwd Zb gT hff hsy hsy1 hsy2 hoy hoy1 hoy2 hly hly1 hly2
  have hsl := i65 l1 l2
  have hol := pc_one l1 l2
  have hll : (#[.int .u64 0, .int .u64 0] : Array Value).size = (pc l1 l2).size := rfl
  unfold pc at hsl hol hll
  go_upto_region 5 with (first | refine wpList_store_row rfl 90 _ _ rfl _ _ rfl rfl _ _ (heap_alloc_last wd _) hsl hll hol ?_)
  obtain ⟨Bl, hBl⟩ : ∃ Bl, Bl = wd.heap.size := ⟨_, rfl⟩
  obtain ⟨w5, hw5⟩ : ∃ w5, w5 = (wd.alloc (.cells #[.int .u64 0, .int .u64 0] 90)).setRow wd.heap.size #[.int .u64 (l1.toNat : Int), .int .u64 (l2.toNat : Int)] := ⟨_, rfl⟩
  have Z5 : Hid (Chg w w5 ∧ Ar w5 Bo (ba 16 zB) ∧ Ar w5 By (pv y) ∧ Ar w5 Bs (pv s2) ∧ Ar w5 Bl (pv ln)) := by
    obtain ⟨k0, k1, k2, k3, k4, k5, k6⟩ := Zd.out
    have e1 := k3.lt
    rw [hw5, hBl, ← HE.out.1, ← HE.out.2.2, ← HLN.out]
    exact ⟨(k0.alloc _).setRow k0.size _, (k1.alloc _).rowOther (by omega) _, (k2.alloc _).rowOther (by omega) _, (k3.alloc _).rowOther (by omega) _, (Ar.new wd _ _).row _⟩
  have hBo := Zd.out.2.2.2.2.1
  rw [← hw5, ← hBl]
  clear hw5 hBl Zd
  obtain ⟨ff2, hff⟩ := str65
  dsimp only [Act.put]
  go_cut [] from 29 to 35 (fun wc => Chg w wc ∧ Ar wc Bo (ba 16 (byt (pr (s2 ^^^ ln) y))))
  case first =>
    refine wp_region_vals 6 (fun j => match j with
      | 0 => .agg (pv s2)
      | 1 => .agg (pv ln)
      | 2 => .agg (pv (s2 ^^^ ln))
      | 3 => .agg (pv y)
      | 4 => .agg (pv (pr (s2 ^^^ ln) y))
      | _ => .agg (ba 16 (byt (pr (s2 ^^^ ln) y)))) (by kernel_rfl) (by kernel_rfl) (by kernel_rfl) (by kernel_rfl) (by kernel_rfl) (by kernel_rfl) ?_ ?_
    · intro i o a u hi ho hf hg hc
      have hcs : i = 0 ∨ i = 1 ∨ i = 2 ∨ i = 3 ∨ i = 4 ∨ i = 5 := by omega
      rcases hcs with rfl | rfl | rfl | rfl | rfl | rfl
      · injection ho with ho
        subst ho
        have e1 : a.eval (.tmp 8) = .pointer (some ⟨Bs, 0, none⟩) := hf 8 (by kernel_rfl)
        exact wp_load_mid 90 (.tmp 8) rfl _ _ e1 ((pv s2).toList) _ (rangeP (Ar.chg (w := w5.drew) Z5.out.2.2.2.1 hc)) hff rfl (pvinfo _) ⟨rfl, Chg.refl _⟩
      · injection ho with ho
        subst ho
        have e1 : a.eval (.tmp 9) = .pointer (some ⟨Bl, 0, none⟩) := hf 9 (by kernel_rfl)
        exact wp_load_mid 90 (.tmp 9) rfl _ _ e1 ((pv ln).toList) _ (rangeP (Ar.chg (w := w5.drew) Z5.out.2.2.2.2 hc)) hff rfl (pvinfo _) ⟨rfl, Chg.refl _⟩
      · injection ho with ho
        subst ho
        have e1 : a.eval (.tmp 29) = .agg (pv s2) := hg 0 (by kernel_rfl) (by decide)
        have e2 : a.eval (.tmp 30) = .agg (pv ln) := hg 1 (by kernel_rfl) (by decide)
        exact op_go 54 Try.f54 #[.tmp 29, .tmp 30] #[90, 90] rfl Try.func54 (by kernel_rfl) (by kernel_rfl) (by simp [e1, e2]) (pxored_any _ _ _)
      · injection ho with ho
        subst ho
        have e1 : a.eval (.tmp 7) = .pointer (some ⟨By, 0, none⟩) := hf 7 (by kernel_rfl)
        exact wp_load_mid 90 (.tmp 7) rfl _ _ e1 ((pv y).toList) _ (rangeP (Ar.chg (w := w5.drew) Z5.out.2.2.1 hc)) hff rfl (pvinfo _) ⟨rfl, Chg.refl _⟩
      · injection ho with ho
        subst ho
        have e1 : a.eval (.tmp 31) = .agg (pv (s2 ^^^ ln)) := hg 2 (by kernel_rfl) (by decide)
        have e2 : a.eval (.tmp 32) = .agg (pv y) := hg 3 (by kernel_rfl) (by decide)
        exact op_go 53 Try.f53 #[.tmp 31, .tmp 32] #[90, 90] rfl Try.func53 (by kernel_rfl) (by kernel_rfl) (by simp [e1, e2]) (product_any _ _ _)
      · injection ho with ho
        subst ho
        have e1 : a.eval (.tmp 33) = .agg (pv (pr (s2 ^^^ ln) y)) := hg 4 (by kernel_rfl) (by decide)
        exact op_go 52 Try.f52 #[.tmp 33] #[90] rfl Try.func52 (by kernel_rfl) (by kernel_rfl) (by simp [e1]) (blockOf_any _ _)
    · intro o u ho hc
      injection ho with ho
      subst ho
      have k := Ar.chg (w := w5.drew) Z5.out.2.1 hc
      refine wp_store_mid 60 (.tmp 6) (.tmp 34) rfl _ _ (ba 16 (byt (pr (s2 ^^^ ln) y))) rfl rfl (by rw [ba_size]; exact thereB k) (by rw [ba_size]; exact i32) (ba_one _ _) ?_
      rw [show (ba 16 (byt (pr (s2 ^^^ ln) y))).toList = bl (byt (pr (s2 ^^^ ln) y)) from rfl, setRow_of k _]
      go_wp2_with fail
      go_meet
      exact ⟨(Z5.out.1.drew.trans hc).setRow (by omega) _, k.row _⟩
  case rest =>
    obtain ⟨h1, h2⟩ := hcut
    go_wp2
    refine bp_c (n := 16) (c := ba 16 (byt (pr (s2 ^^^ ln) y))) Try.results38 rfl rfl h2 und32 i32 (ba_size _ _) ⟨?_, h1⟩
    rw [HG.out]
end Go.Proofs.Ytobglgddbhddnaa
