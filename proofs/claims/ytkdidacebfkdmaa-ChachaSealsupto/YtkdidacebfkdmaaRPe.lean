/-
  The document's code of a text: Poly.
-/
import Derived.Test.YtkdidacebfkdmaaRPc
namespace Go.Proofs.Ytkdidacebfkdmaa
open Go.RowKit
set_option linter.unusedVariables false

/-- One piece more: the digits are within their bounds, the value is the document's. -/
theorem ref_nx {key txt f : Nat → By} {a : Nat → Int} {n m l : Nat} (ha : D16 9 a) (hl : l = pcL n m) (hf : ∀ j, f j = txt (16 * m + j)) (hv : val 65536 9 a % (1361129467683753853853498429727072845819 : Int) = pac (rK key) txt n m) :
    (∀ i, i < 9 → 0 ≤ updI (addF a (gF f l)) (l / 2) (addF a (gF f l) (l / 2) + 2 ^ (8 * (l % 2))) i ∧ updI (addF a (gF f l)) (l / 2) (addF a (gF f l) (l / 2) + 2 ^ (8 * (l % 2))) i ≤ 131072) ∧ D16 8 (gF (clF key) 16) ∧
    val 65536 9 (updI (addF a (gF f l)) (l / 2) (addF a (gF f l) (l / 2) + 2 ^ (8 * (l % 2)))) * val 65536 8 (gF (clF key) 16) % (1361129467683753853853498429727072845819 : Int) = pac (rK key) txt n (m + 1) := by
  have hl16 : l ≤ 16 := by rw [hl]; unfold pcL; omega
  have hg := gF_le f l
  refine ⟨fun i hi => ?_, fun i hi => (gF_le (clF key) 16 i).1, ?_⟩
  · have h1 := ha i hi
    have h2 := hg i
    unfold updI
    split
    · rename_i e
      subst e
      unfold addF
      rcases Nat.mod_two_eq_zero_or_one l with h | h <;> rw [h]
      · have := h2.2.2.2 h rfl
        simp only [Nat.mul_zero, Int.pow_zero]
        omega
      · have := h2.2.2.1 rfl
        simp only [Nat.mul_one, Int.reducePow]
        omega
    · unfold addF
      omega
  · rw [val_upd_in _ _ (show l / 2 < 9 by omega)]
    have e1 : val 65536 9 (addF a (gF f l)) = val 65536 9 a + val 256 l (nmF f) := by
      rw [← gF_val f 9 l (by omega)]
      exact val_add 9 _ _
    have e2 : (addF a (gF f l) (l / 2) + 2 ^ (8 * (l % 2)) - addF a (gF f l) (l / 2)) * 65536 ^ (l / 2) = 256 ^ l := by
      rw [← pow_16 l]
      congr 1
      omega
    have e3 : val 65536 8 (gF (clF key) 16) = rK key := gF_val (clF key) 8 16 (by decide)
    rw [e1, e2, e3]
    show _ = (pac (rK key) txt n m + pcN txt n m) * rK key % _
    have e4 : pcN txt n m = val 256 l (nmF f) + 256 ^ l := by
      unfold pcN
      rw [← hl]
      congr 1
      exact val_congr fun i _ => by unfold nmF; rw [hf i]
    rw [e4, ← hv]
    rw [Int.add_assoc, Int.mul_emod, Int.add_emod]
    conv => rhs; rw [Int.mul_emod, Int.add_emod, Int.emod_emod]

set_option maxRecDepth 100000 in
set_option maxHeartbeats 8000000 in
theorem refPoly_any (n cap : Nat) (ao : Option Addr) (key txt : Nat → By) (w : World) (hv : Ap.Rd w (.slice ao n cap) (nums n txt)) (hn' : n ≤ 281474976710656) :
    Calls Try.prog 14 #[.agg (ba 32 key), .slice ao n cap] w fun r w' => r = .returned (.agg (ba 16 (polF key txt n))) ∧ Chg w w' := by
  obtain ⟨A, hA⟩ : ∃ A, A = ba 32 key := ⟨_, rfl⟩
  have hsA : A.size = 32 := by rw [hA]; exact ba_size _ _
  have HA : Hid (A = ba 32 key) := hA
  rw [← hA]
  have HX : Hid (Ap.Rd w (.slice ao n cap) (nums n txt) ∧ n ≤ 281474976710656) := ⟨hv, hn'⟩
  clear hA hv
  have hz := zero57.1
  have hz2 := zero32.1
  have hz3 := zero58.1
  go_enter Try.func14, Try.ntmps14
  go_upto_region 2 with fail
  obtain ⟨w3, hw3⟩ : ∃ w3, w3 = (((w.alloc (.cells A 22)).alloc (.cells (ba 16 zB) 31)).alloc (.cells (arr .u64 8 zI) 57)) := ⟨_, rfl⟩
  have Z3 : Hid (RY w w3 key (gF (clF key) 0)) := by
    rw [hw3, HA.out]
    exact ⟨(((Chg.refl w).alloc _).alloc _).alloc _, ((Ar.new w _ _).alloc _).alloc _, (Ar.new1 w _ _ _).alloc _, Ar.new2 w _ _ _ _⟩
  rw [← hw3]
  clear hw3 hsA
  go_upto_block 0 with fail
  refine ry1_any Z3.out ?_
  intro u6 u7 u16 u17 u18 u19 u20 u21 u22 u23 u24 u25 u26 u27 u28 u29 u30 u31 u32 u33 u34 u35 u36 u37 u38 u39 u40 u41 u42 u43 u44 u45 u46 u47 u48 u49 u50 w4 h4
  obtain ⟨r, hr⟩ : ∃ r, r = gF (clF key) 16 := ⟨_, rfl⟩
  rw [← hr] at h4
  have Z4 : Hid (RY w w4 key r) := h4
  have HR : Hid (r = gF (clF key) 16) := hr
  clear h4 hr Z3
  go_upto_region 12 with fail
  obtain ⟨AB, hAB⟩ : ∃ AB, AB = w4.heap.size := ⟨_, rfl⟩
  obtain ⟨w5, hw5⟩ : ∃ w5, w5 = w4.alloc (.cells (arr .u64 9 zI) 58) := ⟨_, rfl⟩
  have Z5 : Hid ((RY w w5 key r ∧ Ar w5 AB (arr .u64 9 zI)) ∧ w.heap.size + 1 + 1 < AB) := by
    have k := Z4.out
    have e := k.r.lt
    rw [hw5, hAB]
    exact ⟨⟨k.to ((Chg.refl w4).alloc _), Ar.new w4 _ _⟩, e⟩
  have HL : Hid (w.heap.size + 1 + 1 < AB) := Z5.out.2
  rw [← hw5, ← hAB]
  clear hw5 hAB Z4
  go_wp2_with fail
  go_loopw [9] (fun v9 wr => ∃ (m : Nat) (a : Nat → Int), v9 = .int .i64 ((16 * m : Nat) : Int) ∧ 16 * m ≤ n + 15 ∧ (RY w wr key r ∧ Ar wr AB (arr .u64 9 a)) ∧ D16 9 a ∧ val 65536 9 a < 2722258935367507707706996859454145691648 ∧ val 65536 9 a % (1361129467683753853853498429727072845819 : Int) = pac (rK key) txt n m) (fun v9 wr => n + 15 - (intOf v9).toNat)
  case atStart => exact ⟨0, zI, rfl, by omega, Z5.out.1, fun i _ => by unfold zI; omega, by rw [show val 65536 9 zI = 0 from val_zero 9]; decide, by rw [show val 65536 9 zI = 0 from val_zero 9]; rfl⟩
  case round =>
    clear Z5
    obtain ⟨m, a, rfl, hm, hz4, had, hvl, hva⟩ := hrel
    have Z : Hid (RY w wr key r ∧ Ar wr AB (arr .u64 9 a)) := hz4
    have HV : Hid (D16 9 a ∧ val 65536 9 a < 2722258935367507707706996859454145691648 ∧ val 65536 9 a % (1361129467683753853853498429727072845819 : Int) = pac (rK key) txt n m) := ⟨had, hvl, hva⟩
    clear hz4 had hvl hva
    obtain ⟨fr, hfr⟩ : ∃ fr : Nat, fr = 16 * m := ⟨_, rfl⟩
    rw [← hfr]
    have HFR : Hid (fr = 16 * m) := hfr
    have hfn : fr ≤ n + 15 := by omega
    clear hfr hm
    by_cases hlt : fr < n
    · have hd : decide ((fr : Int) < n) = true := by simp; omega
      obtain ⟨tb, tt, tc, hv, hc1, hc2, hbs⟩ := Rd.bs HX.out.1 (by omega)
      injection hv with hv1 hv2 hv3
      subst hv1 hv3
      clear hv2
      obtain ⟨l, hl⟩ : ∃ l, l = pcL n m := ⟨_, rfl⟩
      obtain ⟨f, hf⟩ : ∃ f : Nat → By, f = fun j => txt (fr + j) := ⟨_, rfl⟩
      have HLl : Hid (l = pcL n m ∧ l = min 16 (n - fr) ∧ l ≤ 16 ∧ 0 < l) := by
        have := HFR.out
        unfold pcL at hl
        show _ ∧ _ ∧ _ ∧ _
        unfold pcL
        omega
      have HFf : Hid (∀ j, f j = txt (fr + j)) := fun j => by rw [hf]
      have HNX := (show Hid (_) from ref_nx (key := key) (txt := txt) (f := f) HV.out.1 hl (fun j => by rw [hf, HFR.out]) HV.out.2.2)
      have HBS : Hid (Bs w tb tt n txt) := hbs
      have hn48 := HX.out.2
      clear hl hf hbs
      go_upto_block 4 with fail
      refine ry2_any Z.out.1 Z.out.2 HL.out HBS.out HV.out.1 HFf.out HLl.out.2.1 hlt HX.out.2 ?_
      intro u10 u57 u58 u59 u60 u61 u62 u63 u64 u65 u66 u67 u68 u69 u70 u71 u72 u73 u74 u75 u76 u77 u78 u79 u80 u81 u82 u83 u84 u85 u86 u87 w6 h6
      obtain ⟨a1, ha1⟩ : ∃ a1, a1 = addF a (gF f l) := ⟨_, rfl⟩
      rw [← ha1] at h6
      have Z6 : Hid (RY w w6 key r ∧ Ar w6 AB (arr .u64 9 a1)) := h6
      have HA1 : Hid (a1 = addF a (gF f l)) := ha1
      clear h6 ha1 Z
      obtain ⟨rest, hrest⟩ : ∃ rest : Nat, (n : Int) - fr = rest := ⟨n - fr, by omega⟩
      have wrest := wrap_i (x := (rest : Int)) (by omega) (by omega)
      obtain ⟨bb, hbb⟩ : ∃ bb : Bool, decide ((rest : Int) > 16) = bb := ⟨_, rfl⟩
      have hbb' : decide ((16 : Int) < rest) = bb := hbb
      have HBB : Hid (bb = true ↔ 16 < rest) := by
        show _ ↔ _
        rw [← hbb, decide_eq_true_eq]
        omega
      have HRE : Hid (rest = n - fr) := by show rest = _; omega
      go_upto_if 93 with fail
      go_cut [11] from 94 to 94 (fun v11 wc => v11 = .int .i64 (l : Int) ∧ wc = w6)
      case first =>
        cases bb with
        | true =>
          have H1 : Hid (16 < rest) := HBB.out.1 rfl
          go_wp2_with fail
          go_meet
          have h1 := H1.out
          have h2 := HRE.out
          have h3 := HLl.out
          refine ⟨?_, rfl⟩
          congr 1
          omega
        | false =>
          have h1 : ¬ 16 < rest := fun h => by cases HBB.out.2 h
          go_wp2_with fail
          go_meet
          have h2 := HRE.out
          have h3 := HLl.out
          refine ⟨?_, rfl⟩
          congr 1
          omega
      obtain ⟨rfl, hwc⟩ := hcut
      rw [hwc]
      clear hwc wc
      obtain ⟨q, r2, s, e1, e2, e3, v1, v2, v3, ls, ls', HQ2⟩ := dm2 l (by have := HLl.out; omega)
      have lq : (q : Int) < 9 := by have := HQ2.out.1; have := HLl.out; omega
      have c1 := (Z6.out.2.cell q).trans (arr_get .u64 9 _ (by omega))
      have f1 := Z6.out.2.frozen q
      obtain ⟨x, hx⟩ : ∃ x, x = a1 q := ⟨_, rfl⟩
      rw [← hx] at c1
      obtain ⟨a2, ha2⟩ : ∃ a2, a2 = updI a1 q (x + 2 ^ s) := ⟨_, rfl⟩
      have HA2 : Hid (a2 = updI (addF a (gF f l)) (l / 2) (addF a (gF f l) (l / 2) + 2 ^ (8 * (l % 2)))) := by
        show a2 = _
        rw [ha2, hx, ← HQ2.out.1, ← HQ2.out.2.1, HA1.out]
      have bx : 0 ≤ x ∧ x ≤ 131072 := by
        have h1 := HV.out.1 q (by omega)
        have h2 := (gF_le f l q).1
        rw [hx, HA1.out]
        unfold addF
        omega
      obtain ⟨y, hy⟩ : ∃ y : Int, (2 : Int) ^ s = y := ⟨_, rfl⟩
      have by0 : 0 ≤ y ∧ y ≤ 256 := by
        rcases HQ2.out.2.2 with ⟨_, h⟩ | ⟨_, h⟩ <;> rw [h] at hy <;> omega
      have wy := wrap_u (x := y) (by omega) (by omega)
      have my : y % 18446744073709551616 = y := by omega
      obtain ⟨g, hg⟩ : ∃ g, x + y = g := ⟨_, rfl⟩
      have wg := wrap_u (x := g) (by omega) (by omega)
      have HG : Hid (updI a1 q g = a2) := by show _ = _; rw [ha2, ← hg, hy]
      clear hx ha2 bx by0
      go_upto_region 22 with fail
      go_cut [] from 94 to 105 (fun wc => RY w wc key r ∧ Ar wc AB (arr .u64 9 a2))
      case first =>
        go_region_with (fail)
        all_goals go_wp2_with fail
        all_goals go_meet
        all_goals
          have hh := Z6.out.2.set q (.int .u64 g)
          rw [arr_set, upd_updI, HG.out] at hh
          refine ⟨(Z6.out.1.other HL.out q _).drew, ?_⟩
          first
            | exact hh.drew
            | (rw [hy, my, hg, wg]; exact hh.drew)
            | (rw [hy, my, hg]; exact hh.drew)
            | (rw [hy, wy, hg, wg]; exact hh.drew)
            | (rw [hy, hg, wg]; exact hh.drew)
            | (rw [hy, hg]; exact hh.drew)
      have Z7 : Hid (RY w wc key r ∧ Ar wc AB (arr .u64 9 a2)) := hcut
      obtain ⟨w7, hw7⟩ : ∃ w7, w7 = wc := ⟨_, rfl⟩
      rw [← hw7] at Z7 ⊢
      clear hcut hw7 wc Z6 c1 f1
      obtain ⟨a3, ha3⟩ : ∃ a3, a3 = poF a2 r := ⟨_, rfl⟩
      have HNX2 : Hid ((∀ i, i < 9 → 0 ≤ a2 i ∧ a2 i ≤ 131072) ∧ D16 8 r ∧ val 65536 9 a2 * val 65536 8 r % (1361129467683753853853498429727072845819 : Int) = pac (rK key) txt n (m + 1)) := by
        rw [HA2.out, HR.out]
        exact HNX.out
      have HPO := (show Hid (_) from po_ok HNX2.out.1 HNX2.out.2.1)
      have HC : Hid (∀ u, Calls Try.prog 31 #[.agg (arr .u64 9 a2), .agg (arr .u64 8 r)] u fun r' w' => r' = .returned (.agg (arr .u64 9 a3)) ∧ Chg u w') := by
        rw [ha3]
        exact fun u => refProduct_any a2 r u HNX2.out.1 HNX2.out.2.1
      have HA3 : Hid (D16 9 a3 ∧ val 65536 9 a3 < 2722258935367507707706996859454145691648 ∧ val 65536 9 a3 % (1361129467683753853853498429727072845819 : Int) = pac (rK key) txt n (m + 1)) := by
        have h := HPO.out
        rw [ha3]
        refine ⟨fun i hi => h.2.2.1 i (by omega), ?_, ?_⟩
        · have p131 : (2 : Int) ^ 131 = 2722258935367507707706996859454145691648 := by decide
          rw [← p131]
          exact h.2.2.2.2
        · rw [h.2.2.2.1, HNX2.out.2.2]
      obtain ⟨t7, g7⟩ := Z7.out.2
      obtain ⟨t8, g8⟩ := Z7.out.1.r
      have hsz2 := szI a2 i58
      have hszr := szI r i57
      clear ha3
      go_wp2_with (first | refine wpList_load_row rfl 58 _ rfl _ rfl _ _ _ _ g7 und58 rfl hsz2 ?_ | refine wpList_load_row rfl 57 _ rfl _ rfl _ _ _ _ g8 und57 rfl hszr ?_)
      go_at_call 31
      refine (HC.out _).mono ?_
      rintro r8 w8 ⟨rfl, hc8⟩
      have Z8 : Hid (RY w w8 key r ∧ Ar w8 AB (arr .u64 9 a2)) := ⟨Z7.out.1.to hc8, Z7.out.2.chg hc8⟩
      obtain ⟨t9, g9⟩ := Z8.out.2
      have hsz3 := szI a3 i58
      have hlen3 := lenI 9 a2 a3
      have hone3 := arr_one .u64 9 a3
      clear hc8 g7 g8 Z7 HC hsz2 hszr
      go_wp2_with (first | refine wpList_store_row rfl 58 _ _ rfl _ _ rfl rfl _ _ g9 hsz3 hlen3 hone3 ?_)
      go_roundw
      case rel =>
        have hf' := HFR.out
        refine ⟨m + 1, a3, by rw [hf']; go_num, by omega, ⟨Z8.out.1.rowOther HL.out _, Z8.out.2.row _⟩, HA3.out⟩
      case measure => simp [intOf]; omega
    · have hd : decide ((fr : Int) < n) = false := by simp; omega
      have HM : Hid (m = (n + 15) / 16) := by have := HFR.out; show m = _; omega
      have HC : Hid (∀ u, Calls Try.prog 32 #[.agg (arr .u64 9 a)] u fun r w' => ∃ z, r = .returned (.agg (arr .u64 9 z)) ∧ D16 9 z ∧ val 65536 9 z = val 65536 9 a % 1361129467683753853853498429727072845819 ∧ Chg u w') := fun u => ended_any a u HV.out.1 HV.out.2.1
      obtain ⟨t7, g7⟩ := Z.out.2
      have hsz2 := szI a i58
      go_wp2_with (first | refine wpList_load_row rfl 58 _ rfl _ rfl _ _ _ _ g7 und58 rfl hsz2 ?_)
      go_at_call 32
      refine (HC.out _).mono ?_
      rintro r8 w8 ⟨z, rfl, hzd, hzv, hc8⟩
      have Z8 : Hid (RY w w8 key r ∧ Ar w8 AB (arr .u64 9 a)) := ⟨Z.out.1.to hc8, Z.out.2.chg hc8⟩
      have HZ : Hid (D16 9 z ∧ val 65536 9 z = pac (rK key) txt n ((n + 15) / 16)) := ⟨hzd, by rw [hzv, HV.out.2.2, ← HM.out]⟩
      obtain ⟨t9, g9⟩ := Z8.out.2
      have hsz3 := szI z i58
      have hlen3 := lenI 9 a z
      have hone3 := arr_one .u64 9 z
      clear hc8 g7 Z HC hsz2 hzd hzv
      go_upto_region 25 with (first | refine wpList_store_row rfl 58 _ _ rfl _ _ rfl rfl _ _ g9 hsz3 hlen3 hone3 ?_)
      obtain ⟨w9, hw9⟩ : ∃ w9, w9 = w8.setRow AB (arr .u64 9 z) := ⟨_, rfl⟩
      have Z9 : Hid (RY w w9 key r ∧ Ar w9 AB (arr .u64 9 z)) := by rw [hw9]; exact ⟨Z8.out.1.rowOther HL.out _, Z8.out.2.row _⟩
      rw [← hw9]
      clear hw9 g9 Z8 hsz3 hlen3 hone3
      try dsimp only [Act.put]
      go_upto_region 26 with fail
      obtain ⟨O, hO⟩ : ∃ O, O = w9.heap.size := ⟨_, rfl⟩
      obtain ⟨w10, hw10⟩ : ∃ w10, w10 = w9.alloc (.cells (ba 16 zB) 31) := ⟨_, rfl⟩
      have Z10 : Hid (RZ w w10 key r z AB O zB) := by
        have k := Z9.out
        have e := k.2.lt
        rw [hw10, hO]
        exact ⟨k.1.to ((Chg.refl w9).alloc _), k.2.alloc _, Ar.new w9 _ _, HL.out, e⟩
      rw [← hw10, ← hO]
      clear hw10 hO Z9 hz hz2 hz3
      obtain ⟨F, hF⟩ : ∃ F, F = byF (val 65536 9 z + sK key) := ⟨_, rfl⟩
      have HF : Hid (F = polF key txt n) := by show F = _; rw [hF, HZ.out.2]; rfl
      go_upto_block 6 with fail
      refine ry3_any Z10.out HZ.out.1 hF ?_
      intro u13 u14 u15 u111 u112 u113 u114 u115 u116 u117 u118 u119 u120 u121 u122 u123 u124 u125 u126 u127 u128 u129 u130 u131 u132 u133 u134 u135 u136 u137 w11 h11
      have HO : Hid (Chg w w11 ∧ Ar w11 (w.heap.size + 1) (ba 16 zB)) := ⟨h11.y.chg, h11.y.res⟩
      obtain ⟨t1, g1⟩ := h11.out
      obtain ⟨t3, g3⟩ := HO.out.2
      clear h11 Z10 hF
      have hsz := szB F i32
      have hlen := lenB 16 zB F
      have hone := ba_one 16 F
      go_wp2_with (first | refine wpList_load_row rfl 31 _ rfl _ rfl _ _ _ _ g1 und32 rfl hsz ?_ | refine wpList_store_row rfl 31 _ _ rfl _ _ rfl rfl _ _ g3 hsz hlen hone ?_)
      refine bp_c (n := 16) (c := ba 16 F) Try.results14 rfl rfl ?_ und32 i32 (ba_size _ _) ⟨by rw [HF.out], ?_⟩
      · exact HO.out.2.row _
      · exact HO.out.1.setRow (by omega) _
end Go.Proofs.Ytkdidacebfkdmaa
