/-
  The document's product.
-/
import Derived.Test.YtkdidacebfkdmaaRNe
namespace Go.Proofs.Ytkdidacebfkdmaa
open Go.RowKit
set_option linter.unusedVariables false

/-- The digits behind so many turns. -/
def tnF (a r : Nat → Int) : Nat → Nat → Int
  | 0 => rcD (cvF a r 72)
  | t + 1 => trF (tnF a r t)
def coF (p : Nat → Int) (i : Nat) : Nat → Int := fun j => if j < i then p j else 0
theorem coF_zero (p : Nat → Int) : coF p 0 = zI := by funext j; unfold coF zI; rw [if_neg (by omega)]
theorem coF_succ (p : Nat → Int) (i : Nat) : updI (coF p i) i (p i) = coF p (i + 1) := by
  funext j
  unfold updI coF
  by_cases h : j = i
  · subst h
    rw [if_pos rfl, if_pos (by omega)]
  · rw [if_neg h]
    by_cases h1 : j < i
    · rw [if_pos h1, if_pos (by omega)]
    · rw [if_neg h1, if_neg (by omega)]
theorem coF_all (p : Nat → Int) : arr .u64 9 (coF p 9) = arr .u64 9 p := arr_congr fun j hj => by unfold coF; rw [if_pos hj]

set_option maxRecDepth 100000 in
set_option maxHeartbeats 8000000 in
theorem refProduct_any (a r : Nat → Int) (w : World) (ha : ∀ i, i < 9 → 0 ≤ a i ∧ a i ≤ 131072) (hr : D16 8 r) : Calls Try.prog 31 #[.agg (arr .u64 9 a), .agg (arr .u64 8 r)] w fun r' w' => r' = .returned (.agg (arr .u64 9 (poF a r))) ∧ Chg w w' := by
  obtain ⟨A, hA⟩ : ∃ A, A = arr .u64 9 a := ⟨_, rfl⟩
  obtain ⟨D, hD⟩ : ∃ D, D = arr .u64 8 r := ⟨_, rfl⟩
  have hsA : A.size = 9 := by rw [hA]; exact arr_size _ _ _
  have hsD : D.size = 8 := by rw [hD]; exact arr_size _ _ _
  have HA : Hid (A = arr .u64 9 a ∧ D = arr .u64 8 r) := ⟨hA, hD⟩
  rw [← hA, ← hD]
  have HD : Hid ((∀ i, i < 9 → 0 ≤ a i ∧ a i ≤ 131072) ∧ D16 8 r) := ⟨ha, hr⟩
  have HT : Hid (D16 18 (tnF a r 0) ∧ D16 18 (tnF a r 1)) := ⟨(po_ok ha hr).1, (po_ok ha hr).2.1⟩
  clear hA hD ha hr
  have hz := zero58.1
  have hz2 := zero68.1
  go_enter Try.func31, Try.ntmps31
  go_upto_region 2 with fail
  obtain ⟨w4, hw4⟩ : ∃ w4, w4 = ((((w.alloc (.cells A 58)).alloc (.cells D 57)).alloc (.cells (arr .u64 9 zI) 58)).alloc (.cells (arr .u64 18 zI) 68)) := ⟨_, rfl⟩
  have Z4 : Hid (RP w w4 a r zI) := by
    rw [hw4, HA.out.1, HA.out.2]
    exact ⟨((((Chg.refl w).alloc _).alloc _).alloc _).alloc _, (((Ar.new w _ _).alloc _).alloc _).alloc _, ((Ar.new1 w _ _ _).alloc _).alloc _, (Ar.new2 w _ _ _ _).alloc _, 68, heap_new3 w _ _ _ _ 68⟩
  rw [← hw4]
  clear hw4 hsA hsD
  go_upto_block 0 with fail
  refine rp1_any Z4.out HD.out.1 HD.out.2 ?_
  intro u6 u7 u15 u16 u17 u18 u19 u20 u21 u22 u23 u24 u25 u26 u27 u28 u29 u30 u31 u32 u33 u34 u35 u36 u37 u38 u39 w5 h5
  obtain ⟨d1, hd1⟩ : ∃ d, d = cvF a r 72 := ⟨_, rfl⟩
  obtain ⟨d2, hd2⟩ : ∃ d, d = tnF a r 0 := ⟨_, rfl⟩
  have hb1 : ∀ i, i < 18 → 0 ≤ d1 i ∧ d1 i ≤ 4611686018427387904 := fun i _ => by
    have := cvF_le HD.out.1 HD.out.2 72 (Nat.le_refl _) i
    rw [hd1]
    omega
  have HC : Hid (∀ u, Calls Try.prog 41 #[.agg (arr .u64 18 d1)] u fun r w' => r = .returned (.agg (arr .u64 18 d2)) ∧ Chg u w') := by
    have e : d2 = rcD d1 := by rw [hd2, hd1]; rfl
    rw [e]
    exact fun u => refCarried_any d1 u hb1
  rw [← hd1] at h5
  have Z5 : Hid (RP w w5 a r d1) := h5
  have HD2 : Hid (d2 = tnF a r 0) := hd2
  obtain ⟨t5, g5⟩ := Z5.out.p
  have hsz1 := szI d1 i68
  clear hd1 hd2 hb1 h5 Z4
  go_wp2_with (first | refine wpList_load_row rfl 68 _ rfl _ rfl _ _ _ _ g5 und68 rfl hsz1 ?_)
  go_at_call 41
  refine (HC.out _).mono ?_
  rintro r6 w6 ⟨rfl, hc6⟩
  have Z6 : Hid (RP w w6 a r d1) := Z5.out.to hc6
  obtain ⟨t6, g6⟩ := Z6.out.p
  have hsz2 := szI d2 i68
  have hlen2 := lenI 18 d1 d2
  have hone2 := arr_one .u64 18 d2
  clear hc6 g5 Z5 HC hsz1
  go_upto_region 10 with (first | refine wpList_store_row rfl 68 _ _ rfl _ _ rfl rfl _ _ g6 hsz2 hlen2 hone2 ?_)
  obtain ⟨w7, hw7⟩ : ∃ w7, w7 = w6.setRow (w.heap.size + 1 + 1 + 1) (arr .u64 18 d2) := ⟨_, rfl⟩
  have Z7 : Hid (RP w w7 a r (tnF a r 0)) := by rw [hw7, ← HD2.out]; exact Z6.out.row d2
  rw [← hw7]
  clear hw7 g6 Z6 hsz2 hlen2 hone2
  try dsimp only [Act.put]
  go_wp2_with fail
  go_loopw [8] (fun v wr => ∃ (t : Nat), v = .int .i64 t ∧ t ≤ 2 ∧ RP w wr a r (tnF a r t)) (fun v wr => 2 - (intOf v).toNat)
  case atStart => exact ⟨0, rfl, by omega, Z7.out⟩
  case round =>
    clear Z7
    obtain ⟨t, rfl, ht, hz0⟩ := hrel
    by_cases hlt : t < 2
    · have hd : decide ((t : Int) < 2) = true := by simp; omega
      obtain ⟨p, hp⟩ : ∃ p, p = tnF a r t := ⟨_, rfl⟩
      rw [← hp] at hz0
      have HP : Hid (D16 18 p ∧ trF p = tnF a r (t + 1)) := by
        refine ⟨?_, by rw [hp]; rfl⟩
        have : t = 0 ∨ t = 1 := by omega
        rcases this with rfl | rfl
        · rw [hp]; exact HT.out.1
        · rw [hp]; exact HT.out.2
      have HTr := (show Hid (_) from tr_ok HP.out.1)
      have Z : Hid (RP w wr a r p) := hz0
      clear hz0 hp
      go_upto_region 14 with fail
      obtain ⟨H, hH⟩ : ∃ H, H = wr.heap.size := ⟨_, rfl⟩
      obtain ⟨w8, hw8⟩ : ∃ w8, w8 = wr.alloc (.cells (arr .u64 18 zI) 68) := ⟨_, rfl⟩
      have Z8 : Hid ((RP w w8 a r p ∧ Ar w8 H (arr .u64 18 zI)) ∧ w.heap.size + 1 + 1 + 1 < H) := by
        have k := Z.out
        have e := k.p.lt
        rw [hw8, hH]
        exact ⟨⟨k.to ((Chg.refl wr).alloc _), Ar.new wr _ _⟩, e⟩
      rw [← hw8, ← hH]
      clear hw8 hH Z
      go_upto_block 6 with fail
      refine rp2_any Z8.out.1.1 Z8.out.1.2 Z8.out.2 HP.out.1 ?_
      intro u10 u46 u47 u48 u49 u50 u51 u52 u53 u54 u55 u56 u57 u58 u59 u60 u61 u62 u63 w9 h9
      have Z9 : Hid (RP w w9 a r p ∧ Ar w9 H (arr .u64 18 (hgF p 17))) := h9
      have HL : Hid (w.heap.size + 1 + 1 + 1 < H) := Z8.out.2
      have b17 := HP.out.1 17 (by decide)
      have b8 := HP.out.1 8 (by decide)
      have c1 := (Z9.out.1.p.cell 17).trans (arr_get .u64 18 _ (by decide))
      have c2 := (Z9.out.2.cell 9).trans (arr_get .u64 18 _ (by decide))
      have f2 := Z9.out.2.frozen 9
      obtain ⟨x, hx⟩ : ∃ x, x = p 17 := ⟨_, rfl⟩
      obtain ⟨v, hv⟩ : ∃ v, v = hgF p 17 9 := ⟨_, rfl⟩
      rw [← hx] at c1 b17
      rw [← hv] at c2
      obtain ⟨x4, hx4⟩ : ∃ x4, x / 4 = x4 := ⟨_, rfl⟩
      have HX : Hid (x4 = p 17 / 4) := by show x4 = _; rw [← hx4, hx]
      clear h9 Z8 hx hv
      go_upto_region 19 with fail
      obtain ⟨w10, hw10⟩ : ∃ u, u = w9.setCell ⟨H, 9, none⟩ (.int .u64 x4) := ⟨_, rfl⟩
      have Z10 : Hid (RP w w10 a r p ∧ Ar w10 H (arr .u64 18 (hiF p))) := by
        have hh := Z9.out.2.set 9 (.int .u64 x4)
        rw [arr_set, upd_updI, HX.out, hgF_all] at hh
        rw [hw10, HX.out]
        exact ⟨Z9.out.1.other HL.out 9 _, hh⟩
      rw [← hw10]
      clear hw10 c1 c2 f2 Z9
      have c3 := (Z10.out.1.p.cell 8).trans (arr_get .u64 18 _ (by decide))
      have f3 := Z10.out.1.p.frozen 8
      obtain ⟨y, hy⟩ : ∃ y, y = p 8 := ⟨_, rfl⟩
      rw [← hy] at c3 b8
      have my := mask2 (x := y) (by omega) (by omega)
      obtain ⟨y4, hy4⟩ : ∃ y4, y % 4 = y4 := ⟨_, rfl⟩
      rw [hy4] at my
      have HY : Hid (y4 = p 8 % 4) := by show y4 = _; rw [← hy4, hy]
      clear hy hy4
      go_upto_region 20 with fail
      obtain ⟨w11, hw11⟩ : ∃ u, u = w10.setCell ⟨w.heap.size + 1 + 1 + 1, 8, none⟩ (.int .u64 y4) := ⟨_, rfl⟩
      have Z11 : Hid (RP w w11 a r (zpF p 9) ∧ Ar w11 H (arr .u64 18 (hiF p))) := by
        have hl := HL.out
        have hh := Z10.out.1.set 8 y4
        rw [HY.out, zpF_start] at hh
        rw [hw11, HY.out]
        exact ⟨hh, Z10.out.2.other (by dsimp only; omega) _⟩
      rw [← hw11]
      clear hw11 c3 f3 Z10
      go_upto_block 8 with fail
      refine rp3_any Z11.out.1 Z11.out.2 HL.out ?_
      intro u11 u72 u73 u74 u75 u76 u77 w12 h12
      have Z12 : Hid (RP w w12 a r (loF p) ∧ Ar w12 H (arr .u64 18 (hiF p))) := by
        obtain ⟨k, k2⟩ := h12
        have kp := k.p
        rw [zpF_all] at kp
        exact ⟨⟨k.chg, k.a, k.r, k.out, kp⟩, k2⟩
      clear h12 Z11
      go_upto_block 10 with fail
      refine rp4_any Z12.out.1 Z12.out.2 HL.out HTr.out.2.2.2 HP.out.1 ?_
      intro u12 u78 u79 u80 u81 u82 u83 u84 u85 u86 u87 u88 u89 u90 u91 w13 h13
      obtain ⟨e1, he1⟩ : ∃ d, d = tqF p := ⟨_, rfl⟩
      obtain ⟨e2, he2⟩ : ∃ d, d = trF p := ⟨_, rfl⟩
      have Z13 : Hid (RP w w13 a r e1) := by
        have kp := h13.p
        rw [tpF_all, ← he1] at kp
        exact ⟨h13.chg, h13.a, h13.r, h13.out, kp⟩
      have HC : Hid (∀ u, Calls Try.prog 41 #[.agg (arr .u64 18 e1)] u fun r w' => r = .returned (.agg (arr .u64 18 e2)) ∧ Chg u w') := by
        have e : e2 = rcD e1 := by rw [he2, he1]; rfl
        rw [e, he1]
        exact fun u => refCarried_any (tqF p) u HTr.out.2.2.1
      have HE2 : Hid (e2 = tnF a r (t + 1)) := by show e2 = _; rw [he2, HP.out.2]
      obtain ⟨t13, g13⟩ := Z13.out.p
      have hszE := szI e1 i68
      clear h13 Z12 he1 he2
      go_wp2_with (first | refine wpList_load_row rfl 68 _ rfl _ rfl _ _ _ _ g13 und68 rfl hszE ?_)
      go_at_call 41
      refine (HC.out _).mono ?_
      rintro r14 w14 ⟨rfl, hc14⟩
      have Z14 : Hid (RP w w14 a r e1) := Z13.out.to hc14
      obtain ⟨t14, g14⟩ := Z14.out.p
      have hsz2 := szI e2 i68
      have hlen2 := lenI 18 e1 e2
      have hone2 := arr_one .u64 18 e2
      clear hc14 g13 Z13 HC hszE
      go_wp2_with (first | refine wpList_store_row rfl 68 _ _ rfl _ _ rfl rfl _ _ g14 hsz2 hlen2 hone2 ?_)
      go_roundw
      case rel =>
        refine ⟨t + 1, by go_num, by omega, ?_⟩
        rw [← HE2.out]
        exact Z14.out.row e2
      case measure => simp [intOf]; omega
    · have : t = 2 := by omega
      subst this
      rw [show ((2 : Nat) : Int) = 2 from rfl]
      obtain ⟨p, hp⟩ : ∃ p, p = poF a r := ⟨_, rfl⟩
      have HP : Hid (p = poF a r) := hp
      have Z : Hid (RP w wr a r p) := by rw [hp]; exact hz0
      clear hz0 hp
      go_wp2_with fail
      obtain ⟨G, hG⟩ : ∃ G, G = wr.heap.size := ⟨_, rfl⟩
      obtain ⟨w8, hw8⟩ : ∃ w8, w8 = wr.alloc (.cells (arr .u64 9 zI) 58) := ⟨_, rfl⟩
      have Z8 : Hid ((RP w w8 a r p ∧ Ar w8 G (arr .u64 9 (coF p 0))) ∧ w.heap.size + 1 + 1 + 1 < G) := by
        have k := Z.out
        have e := k.p.lt
        rw [hw8, hG, coF_zero]
        exact ⟨⟨k.to ((Chg.refl wr).alloc _), Ar.new wr _ _⟩, e⟩
      rw [← hw8, ← hG]
      clear hw8 hG Z hz hz2
      have HL : Hid (w.heap.size + 1 + 1 + 1 < G) := Z8.out.2
      go_loopw [14] (fun v wr => ∃ (i : Nat), v = .int .i64 i ∧ i ≤ 9 ∧ RP w wr a r p ∧ Ar wr G (arr .u64 9 (coF p i))) (fun v wr => 9 - (intOf v).toNat)
      case atStart => exact ⟨0, rfl, by omega, Z8.out.1⟩
      case round =>
        clear Z8
        obtain ⟨i, rfl, hi, hz0, hz1⟩ := hrel
        have Z : Hid (RP w wr a r p ∧ Ar wr G (arr .u64 9 (coF p i))) := ⟨hz0, hz1⟩
        by_cases hlt : i < 9
        · have hd : decide ((i : Int) < 9) = true := by simp; omega
          have li : (i : Int) < 9 := by omega
          have li' : (i : Int) < 18 := by omega
          have c1 := (hz0.p.cell i).trans (arr_get .u64 18 _ (by omega))
          have c2 := (hz1.cell i).trans (arr_get .u64 9 _ hlt)
          have f2 := hz1.frozen i
          obtain ⟨x, hx⟩ : ∃ x, x = p i := ⟨_, rfl⟩
          obtain ⟨v, hv⟩ : ∃ v, v = coF p i i := ⟨_, rfl⟩
          rw [← hx] at c1
          rw [← hv] at c2
          have HX : Hid (x = p i) := hx
          clear hx hv hz0 hz1
          go_wp2_with fail
          go_roundw
          case rel =>
            refine ⟨i + 1, by go_num, by omega, Z.out.1.other HL.out i _, ?_⟩
            have hh := Z.out.2.set i (.int .u64 x)
            rw [arr_set, upd_updI, HX.out, coF_succ, ← HX.out] at hh
            exact hh
          case measure => simp [intOf]; omega
        · have : i = 9 := by omega
          subst this
          rw [coF_all] at hz1
          have HOo : Hid (Chg w wr ∧ Ar wr (w.heap.size + 1 + 1) (arr .u64 9 zI)) := ⟨hz0.chg, hz0.out⟩
          clear hz0 Z
          obtain ⟨t1, g1⟩ := hz1
          obtain ⟨t3, g3⟩ := HOo.out.2
          have hsz := szI p i58
          have hlen := lenI 9 zI p
          have hone := arr_one .u64 9 p
          go_wp2_with (first | refine wpList_load_row rfl 58 _ rfl _ rfl _ _ _ _ g1 und58 rfl hsz ?_ | refine wpList_store_row rfl 58 _ _ rfl _ _ rfl rfl _ _ g3 hsz hlen hone ?_)
          refine bp_c (n := 9) (c := arr .u64 9 p) Try.results31 rfl rfl ?_ und58 i58 (arr_size _ _ _) ⟨by rw [HP.out], ?_⟩
          · exact HOo.out.2.row _
          · exact HOo.out.1.setRow (by omega) _
end Go.Proofs.Ytkdidacebfkdmaa
