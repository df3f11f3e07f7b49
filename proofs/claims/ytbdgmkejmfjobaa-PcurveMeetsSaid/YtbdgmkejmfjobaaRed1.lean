/-
  What a number of eight digits leaves modulo 2^255 - 19.
-/
import Derived.Test.YtbdgmkejmfjobaaJb
import Derived.Deep.LoopGhost
namespace Go.Proofs.Ytbdgmkejmfjobaa
open Go.RowKit
set_option linter.unusedVariables false
theorem num4 (x : Int) : num x = #[.int .u64 (dg B64 x 0), .int .u64 (dg B64 x 1), .int .u64 (dg B64 x 2), .int .u64 (dg B64 x 3)] := rfl
theorem wid8 (x : Int) : wid x = #[.int .u64 (dg B64 x 0), .int .u64 (dg B64 x 1), .int .u64 (dg B64 x 2), .int .u64 (dg B64 x 3), .int .u64 (dg B64 x 4), .int .u64 (dg B64 x 5), .int .u64 (dg B64 x 6), .int .u64 (dg B64 x 7)] := rfl
theorem num_small {o : Int} (h : W64 o) : num o = #[.int .u64 o, .int .u64 0, .int .u64 0, .int .u64 0] := by
 have ⟨h0, h1⟩ := h
 rw [num4]
 have e0 : dg B64 o 0 = o := by unfold dg B64; simp; omega
 have e1 : dg B64 o 1 = 0 := by unfold dg B64; simp; omega
 have e2 : dg B64 o 2 = 0 := by unfold dg B64; simp; omega
 have e3 : dg B64 o 3 = 0 := by unfold dg B64; simp; omega
 rw [e0, e1, e2, e3]
theorem mo1 : mo 1 = 57896044618658097711785492504343953926634992332820282019728792003956564819949 := rfl
theorem N256_mod (x : Int) : N256 (x % R256) := ⟨by unfold R256; omega, by unfold R256; omega⟩
set_option maxHeartbeats 2000000 in
theorem red1_any (x : Int) (hx : N512 x) (w : World) :
  Calls Try.prog 90 #[.agg (wid x)] w fun r w' => r = .returned (.agg (num (x % mo 1))) ∧ Chg w w' := by
 obtain ⟨W, hW⟩ : ∃ W, W = (w.alloc (.cells (wid x) 86)).alloc (.cells #[.int .u64 0, .int .u64 0, .int .u64 0, .int .u64 0] 24) := ⟨_, rfl⟩
 have a1 : Ar W w.heap.size (arr .u64 8 (dg B64 x)) := by rw [hW]; exact (Ar.new _ _ _).alloc _
 have a2 : Ar W (w.heap.size + 1) (arr .u64 4 fun _ => 0) := by rw [hW]; exact Ar.new1 _ _ _ _
 have hc : Chg w W := by rw [hW]; exact ((Chg.refl w).alloc _).alloc _
 have HW : Hid (W = (w.alloc (.cells (wid x) 86)).alloc (.cells #[.int .u64 0, .int .u64 0, .int .u64 0, .int .u64 0] 24)) := hW
 obtain ⟨x0, x1, x2, x3, x4, x5, x6, x7⟩ := a1.eight
 have A2 : Hid (Ar W (w.heap.size + 1) (arr .u64 4 fun _ => 0)) := a2
 have HC : Hid (Chg w W) := hc
 clear hW a1 a2 hc
 go_enter Try.func90, Try.ntmps90
 go_upto_region 1 with (fail)
 rw [← HW.out]
 clear HW
 go_wp2_with fail
 refine (halves_num x hx _).mono ?_
 rintro r w1 ⟨hr, hc1⟩
 rw [num4, num4] at hr
 subst hr
 have B2 : Hid (Ar w1 (w.heap.size + 1) (arr .u64 4 fun _ => 0)) := A2.out.chg hc1
 have HC1 : Hid (Chg w w1) := HC.out.trans hc1
 have hN : w.heap.size + 1 < w1.heap.size := B2.out.lt
 have HN : Hid (w.heap.size + 1 < w1.heap.size) := hN
 clear x0 x1 x2 x3 x4 x5 x6 x7 A2 HC hc1 hN
 go_wp2_with fail
 have hlo : N256 (x % R256) := N256_mod x
 have hhi : N256 (x / R256) := by have ⟨h0, h1⟩ := hx; unfold N256 R256 R512 at *; omega
 refine (add38_num (x % R256) (x / R256) hlo hhi _).mono ?_
 rintro r w2 ⟨hr, hc2⟩
 obtain ⟨v, hv⟩ : ∃ v, v = (x % R256 + 38 * (x / R256)) % R256 := ⟨_, rfl⟩
 obtain ⟨c, hcv⟩ : ∃ c, c = (x % R256 + 38 * (x / R256)) / R256 := ⟨_, rfl⟩
 rw [← hv, ← hcv, num4] at hr
 subst hr
 have HV : Hid (v = (x % R256 + 38 * (x / R256)) % R256 ∧ c = (x % R256 + 38 * (x / R256)) / R256) := ⟨hv, hcv⟩
 clear hv hcv
 have L2 : Ar w2 w1.heap.size (arr .u64 4 (dg B64 (x % R256))) := ((Ar.new w1 (num (x % R256)) 24).alloc _).chg hc2
 have C2 : Hid (Ar w2 (w.heap.size + 1) (arr .u64 4 fun _ => 0)) := ((B2.out.alloc _).alloc _).chg hc2
 have HC2 : Hid (Chg w w2) := ((HC1.out.alloc _).alloc _).trans hc2
 obtain ⟨x0, x1, x2, x3⟩ := L2.four
 obtain ⟨f0, f1, f2, f3⟩ := L2.free4
 have HL2 : Hid (Ar w2 w1.heap.size (arr .u64 4 (dg B64 (x % R256)))) := L2
 clear L2 B2 HC1 hc2
 go_wp2_with fail
 go_loopg [5] ((x % R256 + 38 * (x / R256)).toNat) (fun m ov wr => ∃ (L o : Int), ov = .int .u64 o ∧ N256 L ∧ 0 ≤ o ∧ o ≤ 38 ∧ Ar wr w1.heap.size (num L) ∧ Ar wr (w.heap.size + 1) (arr .u64 4 fun _ => 0) ∧ Chg w wr ∧ (L + R256 * o) % mo 1 = x % mo 1 ∧ m = (L + R256 * o).toNat)
 case atStart =>
  have ⟨h0, h1⟩ := hx
  have hn := HN.out
  obtain ⟨hv, hcv⟩ := HV.out
  refine ⟨v, c, rfl, by rw [hv]; exact N256_mod _, ?_, ?_, ?_, ?_, ?_, ?_, ?_⟩
  ·unfold R256 R512 at *; omega
  ·unfold R256 R512 at *; omega
  ·exact (((HL2.out.set 0 _).set 1 _).set 2 _).set 3 _
  ·exact (((C2.out.other (by dsimp only; omega) _).other (by dsimp only; omega) _).other (by dsimp only; omega) _).other (by dsimp only; omega) _
  ·exact (((HC2.out.setCell (by dsimp only; omega) _).setCell (by dsimp only; omega) _).setCell (by dsimp only; omega) _).setCell (by dsimp only; omega) _
  ·rw [mo1]; unfold R256 at *; omega
  ·congr 1; unfold R256 at *; omega
 case round =>
  clear x0 x1 x2 x3 f0 f1 f2 f3 HL2 C2 HC2
  obtain ⟨L, o, rfl, hL, ho0, ho1, hA, hR, hc, hv, hm⟩ := hrel
  obtain ⟨w3, hw3⟩ : ∃ w3, w3 = wr := ⟨_, rfl⟩
  subst hw3
  obtain ⟨x0, x1, x2, x3⟩ := Ar.four (d := dg B64 L) hA
  obtain ⟨f0, f1, f2, f3⟩ := hA.free4
  have HA : Hid (Ar w3 w1.heap.size (num L)) := hA
  have HR : Hid (Ar w3 (w.heap.size + 1) (arr .u64 4 fun _ => 0)) := hR
  have HC : Hid (Chg w w3) := hc
  have HV : Hid ((L + R256 * o) % mo 1 = x % mo 1 ∧ gk = (L + R256 * o).toNat) := ⟨hv, hm⟩
  have HL : Hid (N256 L ∧ 0 ≤ o ∧ o ≤ 38) := ⟨hL, ho0, ho1⟩
  clear hA hR hc hv hm hL
  by_cases ho : o = 0
  ·subst ho
   go_wp2_with fail
   clear x0 x1 x2 x3 f0 f1 f2 f3
   go_loopg [] (L.toNat) (fun m wr => ∃ (L : Int), N256 L ∧ Ar wr w1.heap.size (num L) ∧ Ar wr (w.heap.size + 1) (arr .u64 4 fun _ => 0) ∧ Chg w wr ∧ L % mo 1 = x % mo 1 ∧ m = L.toNat)
   case atStart =>
    refine ⟨L, HL.out.1, HA.out, HR.out, HC.out, ?_, rfl⟩
    have := HV.out.1
    simpa using this
   case round =>
    clear HA HR HC HV HL
    obtain ⟨L, hL, hA, hR, hc, hv, hm⟩ := hrel
    obtain ⟨w5, hw5⟩ : ∃ w5, w5 = wr := ⟨_, rfl⟩
    subst hw5
    obtain ⟨x0, x1, x2, x3⟩ := Ar.four (d := dg B64 L) hA
    obtain ⟨f0, f1, f2, f3⟩ := hA.free4
    have HA : Hid (Ar w5 w1.heap.size (num L)) := hA
    have HR : Hid (Ar w5 (w.heap.size + 1) (arr .u64 4 fun _ => 0)) := hR
    have HC : Hid (Chg w w5) := hc
    have HV : Hid (L % mo 1 = x % mo 1 ∧ gk = L.toNat) := ⟨hv, hm⟩
    have HL : Hid (N256 L) := hL
    clear hA hR hc hv hm hL
    by_cases hlt : L < mo 1
    ·have hd : decide (L < mo 1) = true := by simp [hlt]
     clear hlt
     go_wp2_with fail
     go_region_with (first
      | (go_at_call 76; refine (prime1_any _).mono ?_; rintro r w6 ⟨rfl, hc6⟩; obtain ⟨z0, z1, z2, z3⟩ := Ar.four (d := dg B64 L) (HA.out.drew.chg hc6); have HC6 : Hid (Chg w5.drew w6) := hc6; clear hc6)
      | (go_at_call 58; refine (below_num L (mo 1) HL.out (mo_N 1) _).mono ?_; rw [hd]; rintro r w7 ⟨rfl, hc7⟩; have HC7 : Hid (Chg w5.drew w7) := HC6.out.trans hc7; clear hc7))
     all_goals
      obtain ⟨y0, y1, y2, y3⟩ := Ar.four (d := dg B64 L) (HA.out.drew.chg HC7.out)
      obtain ⟨s0, s1, s2, s3⟩ := (HR.out.drew.chg HC7.out).four
      obtain ⟨t0, t1, t2, t3⟩ := (HR.out.drew.chg HC7.out).free4
      go_wp2
      have hn := HN.out
      have e : L = x % mo 1 := by
       have h1 := HV.out.1
       have h2 := HL.out.1
       have h3 : L < mo 1 := by simpa using hd
       rw [mo1] at *
       omega
      refine bp_c (n := 4) (c := num L) Try.results90 rfl rfl ?_ Ytbdgmkejmfjobaa.u25 i25 rfl ⟨by rw [e], ?_⟩
      ·exact ((((HR.out.drew.chg HC7.out).set 0 _).set 1 _).set 2 _).set 3 _
      ·exact ((((HC.out.drew.trans HC7.out).setCell (by dsimp only; omega) _).setCell (by dsimp only; omega) _).setCell (by dsimp only; omega) _).setCell (by dsimp only; omega) _
    ·have hd : decide (L < mo 1) = false := by simp; omega
     have hge : mo 1 ≤ L := by omega
     have HG : Hid (mo 1 ≤ L) := hge
     clear hlt hge
     go_wp2_with fail
     go_cut [29] from 26 to 29 (fun v wc => v = .bool true ∧ Chg w5 wc)
     case first =>
      go_region_with (first
       | (go_at_call 76; refine (prime1_any _).mono ?_; rintro r w6 ⟨rfl, hc6⟩; obtain ⟨z0, z1, z2, z3⟩ := Ar.four (d := dg B64 L) (HA.out.drew.chg hc6); have HC6 : Hid (Chg w5.drew w6) := hc6; clear hc6)
       | (go_at_call 58; refine (below_num L (mo 1) HL.out (mo_N 1) _).mono ?_; rw [hd]; rintro r w7 ⟨rfl, hc7⟩; have HC7 : Hid (Chg w5.drew w7) := HC6.out.trans hc7; clear hc7))
      all_goals
       go_wp2_with fail
       go_meet
       exact ⟨by simp, (Chg.refl w5).drew.trans HC7.out⟩
     obtain ⟨rfl, hcc⟩ := hcut
     obtain ⟨w8, hw8⟩ : ∃ w8, w8 = wc := ⟨_, rfl⟩
     subst hw8
     clear x0 x1 x2 x3 f0 f1 f2 f3
     obtain ⟨x0, x1, x2, x3⟩ := Ar.four (d := dg B64 L) (HA.out.chg hcc)
     have HC8 : Hid (Chg w5 w8) := hcc
     clear hcc
     go_wp2_with fail
     obtain ⟨v, hv⟩ : ∃ v, v = (L - mo 1) % R256 := ⟨_, rfl⟩
     obtain ⟨c', hc'⟩ : ∃ c, c = bor L (mo 1) := ⟨_, rfl⟩
     have k := fun W => minus_num L (mo 1) HL.out (mo_N 1) W
     rw [← hv, ← hc', num4 v] at k
     have HK : Hid (∀ W, Calls Try.prog 72 #[.agg (num L), .agg (num (mo 1))] W fun r w' => r = .returned (.tuple #[.agg #[.int .u64 (dg B64 v 0), .int .u64 (dg B64 v 1), .int .u64 (dg B64 v 2), .int .u64 (dg B64 v 3)], .int .u64 c']) ∧ Chg W w') := k
     have Hv : Hid (v = (L - mo 1) % R256) := hv
     clear k hv hc'
     go_region_with (first
      | (go_at_call 76; refine (prime1_any _).mono ?_; rintro r w6 ⟨rfl, hc6⟩; obtain ⟨z0, z1, z2, z3⟩ := Ar.four (d := dg B64 L) ((HA.out.chg HC8.out).drew.chg hc6); have HC6 : Hid (Chg w8.drew w6) := hc6; clear hc6)
      | (go_at_call 72; refine (HK.out _).mono ?_; rintro r w7 ⟨rfl, hc7⟩; have HC7 : Hid (Chg w8.drew w7) := HC6.out.trans hc7; clear hc7; obtain ⟨y0, y1, y2, y3⟩ := Ar.four (d := dg B64 L) ((HA.out.chg HC8.out).drew.chg HC7.out); obtain ⟨g0, g1, g2, g3⟩ := ((HA.out.chg HC8.out).drew.chg HC7.out).free4))
     all_goals
      go_wp2
      have hn := HN.out
      have h2 := HL.out
      have h3 := HG.out
      have h4 := Hv.out
      have ⟨h5, h6⟩ := h2
      go_roundg (v.toNat)
      case measure => rw [HV.out.2]; rw [mo1] at *; unfold R256 at *; omega
      case rel =>
       refine ⟨v, by rw [h4]; exact N256_mod _, ?_, ?_, ?_, ?_, rfl⟩
       ·exact (((((HA.out.chg HC8.out).drew.chg HC7.out).set 0 _).set 1 _).set 2 _).set 3 _
       ·exact (((((HR.out.chg HC8.out).drew.chg HC7.out).other (by dsimp only; omega) _).other (by dsimp only; omega) _).other (by dsimp only; omega) _).other (by dsimp only; omega) _
       ·exact (((((HC.out.trans HC8.out).drew.trans HC7.out).setCell (by dsimp only; omega) _).setCell (by dsimp only; omega) _).setCell (by dsimp only; omega) _).setCell (by dsimp only; omega) _
       ·rw [← HV.out.1, mo1] at *; unfold R256 at *; omega
  ·have hn := HN.out
   have hoW : W64 o := ⟨by omega, by omega⟩
   have hN2 : N256 o := ⟨by omega, by unfold R256; omega⟩
   have k := fun W => add38_num L o HL.out.1 hN2 W
   rw [num_small hoW] at k
   have HK : Hid (∀ W, Calls Try.prog 99 #[.agg (num L), .agg #[.int .u64 o, .int .u64 0, .int .u64 0, .int .u64 0]] W fun r w' => r = .returned (.tuple #[.agg (num ((L + 38 * o) % R256)), .int .u64 ((L + 38 * o) / R256)]) ∧ Chg W w') := k
   clear k hn
   go_wp2_with fail
   refine (HK.out _).mono ?_
   rintro r w4 ⟨hr, hc4⟩
   obtain ⟨v, hv⟩ : ∃ v, v = (L + 38 * o) % R256 := ⟨_, rfl⟩
   obtain ⟨c, hcv⟩ : ∃ c, c = (L + 38 * o) / R256 := ⟨_, rfl⟩
   rw [← hv, ← hcv, num4] at hr
   subst hr
   have HVC : Hid (v = (L + 38 * o) % R256 ∧ c = (L + 38 * o) / R256) := ⟨hv, hcv⟩
   clear hv hcv
   have L4 : Ar w4 w1.heap.size (arr .u64 4 (dg B64 L)) := HA.out.chg hc4
   have C4 : Hid (Ar w4 (w.heap.size + 1) (arr .u64 4 fun _ => 0)) := HR.out.chg hc4
   have HC4 : Hid (Chg w w4) := HC.out.trans hc4
   clear x0 x1 x2 x3 f0 f1 f2 f3
   obtain ⟨x0, x1, x2, x3⟩ := L4.four
   obtain ⟨f0, f1, f2, f3⟩ := L4.free4
   have HL4 : Hid (Ar w4 w1.heap.size (arr .u64 4 (dg B64 L))) := L4
   clear L4 hc4
   go_wp2_with fail
   obtain ⟨⟨h0, h1⟩, h2, h3⟩ := HL.out
   obtain ⟨hv, hm⟩ := HV.out
   have hn := HN.out
   go_roundg ((L + 38 * o).toNat)
   case measure => rw [hm]; unfold R256 at *; omega
   case rel =>
    obtain ⟨hvv, hcv⟩ := HVC.out
    refine ⟨v, c, rfl, by rw [hvv]; exact N256_mod _, ?_, ?_, ?_, ?_, ?_, ?_, ?_⟩
    ·unfold R256 at *; omega
    ·unfold R256 at *; omega
    ·exact (((HL4.out.set 0 _).set 1 _).set 2 _).set 3 _
    ·exact (((C4.out.other (by dsimp only; omega) _).other (by dsimp only; omega) _).other (by dsimp only; omega) _).other (by dsimp only; omega) _
    ·exact (((HC4.out.setCell (by dsimp only; omega) _).setCell (by dsimp only; omega) _).setCell (by dsimp only; omega) _).setCell (by dsimp only; omega) _
    ·rw [← hv, mo1]; unfold R256 at *; omega
    ·congr 1; unfold R256 at *; omega
end Go.Proofs.Ytbdgmkejmfjobaa
