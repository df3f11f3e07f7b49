/-
  The document's boxes.
  The document's New.
-/
import Derived.Test.YtobglgddbhddnaaGreatJ11
import Derived.Test.YtobglgddbhddnaaGreatJ01
import Derived.Test.YtobglgddbhddnaaGreatJ17
import Derived.Test.YtobglgddbhddnaaGreatJ09
namespace Go.Proofs.YtobglgddbhddnaaGreat
open Go.RowKit
set_option linter.unusedVariables false

set_option maxRecDepth 100000 in
theorem refBoxes_any (w : World) : Calls Tryz.prog 35 #[] w fun r w' => r = .returned (.agg (ba 256 sbF)) ∧ Chg w w' := by
  have hz := zero47.1
  go_enter Tryz.func35, Tryz.ntmps35
  go_wp2_with fail
  obtain ⟨w3, hw3⟩ : ∃ w3, w3 = (w.alloc (.cells (ba 256 zB) 65)).alloc (.cells (ba 256 zB) 65) := ⟨_, rfl⟩
  rw [← hw3]
  have z0 : Hid (Chg w w3 ∧ Ar w3 w.heap.size (ba 256 zB) ∧ Ar w3 (w.heap.size + 1) (ba 256 zB)) := by
    rw [hw3]
    exact ⟨((Chg.refl w).alloc _).alloc _, (Ar.new w _ _).alloc _, Ar.new1 w _ _ _⟩
  clear hw3
  go_loopw [2] (fun v wr => ∃ (i : Nat), v = .int .i64 i ∧ i ≤ 256 ∧ Chg w wr ∧ Ar wr w.heap.size (ba 256 zB) ∧ Ar wr (w.heap.size + 1) (ba 256 (upTo i sbF zB))) (fun v wr => 256 - (intOf v).toNat)
  case atStart =>
    obtain ⟨z1, z2, z3⟩ := z0.out
    exact ⟨0, rfl, by omega, z1, z2, by rw [upTo_zero]; exact z3⟩
  case round =>
    clear z0
    obtain ⟨i, rfl, hi, hch, h1, h2⟩ := hrel
    have H : Hid (Chg w wr ∧ Ar wr w.heap.size (ba 256 zB) ∧ Ar wr (w.heap.size + 1) (ba 256 (upTo i sbF zB))) := ⟨hch, h1, h2⟩
    by_cases h256 : i < 256
    · have hd : decide ((i : Int) < 256) = true := by simp; omega
      have li : (i : Int) < 256 := by omega
      have wi : IntKind.u8.wrap (i : Int) = i := by rw [IntKind.wrap_u8]; omega
      have HC : Hid (∀ u, Calls Tryz.prog 53 #[.int .u8 (i : Int)] u fun r w' => r = .returned (.int .u8 ((sbF i).toNat : Int)) ∧ Chg u w') := by
        intro u
        have := box_any (BitVec.ofNat 8 i) u
        rw [BitVec.toNat_ofNat, Nat.mod_eq_of_lt (by omega)] at this
        exact this
      obtain ⟨y, hy⟩ : ∃ y, y = sbF i := ⟨_, rfl⟩
      have HY : Hid (y = sbF i) := hy
      rw [← hy] at HC
      clear hch h1 h2 hy hz
      go_wp2_with fail
      go_at_call 53
      refine (HC.out _).mono ?_
      rintro r w1 ⟨rfl, hc1⟩
      have H1 : Hid (Chg wr w1) := hc1
      have c1 := ((H.out.2.2.chg hc1).cell i).trans (ba_get 256 _ h256)
      have f1 := (H.out.2.2.chg hc1).frozen i
      clear hc1
      go_wp2_with fail
      go_roundw
      case rel =>
        obtain ⟨k0, k1, k2⟩ := H.out
        refine ⟨i + 1, by go_num, by omega, (k0.trans H1.out).setCell (by dsimp only; omega) _, (k1.chg H1.out).other (by dsimp only; omega) _, ?_⟩
        have hh := (k2.chg H1.out).set i (.int .u8 (y.toNat : Int))
        rw [ba_set, HY.out, upTo_upd i sbF zB] at hh
        rw [HY.out]
        exact hh
      case measure => simp [intOf]; omega
    · have : i = 256 := by omega
      subst this
      obtain ⟨k0, k1, k2⟩ := H.out
      rw [upTo_all] at k2
      have K0 : Hid (Chg w wr ∧ Ar wr w.heap.size (ba 256 zB)) := ⟨k0, k1⟩
      obtain ⟨t1, g1⟩ := k2
      obtain ⟨t3, g3⟩ := k1
      have hsz := szB sbF zero47.2
      have hlen := lenB 256 zB sbF
      have hone := ba_one 256 sbF
      clear k0 hch h1 h2 H
      go_wp2_with (first | refine wpList_load_row rfl 65 _ rfl _ rfl _ _ _ _ g1 und47 rfl hsz ?_ | refine wpList_store_row rfl 65 _ _ rfl _ _ rfl rfl _ _ g3 hsz hlen hone ?_)
      refine bp_c (n := 256) (c := ba 256 sbF) Tryz.results35 rfl rfl ?_ und47 i47 (ba_size _ _) ⟨rfl, ?_⟩
      · exact K0.out.2.row _
      · exact K0.out.1.setRow (by omega) _
end Go.Proofs.YtobglgddbhddnaaGreat

namespace Go.Proofs.YtobglgddbhddnaaGreat
open Go.RowKit
set_option linter.unusedVariables false

theorem rkeyC_set (R : Nat) (k : Nat → By) (j : Nat) (x : By) (hj : j < 240) : (rkeyC R k).setIfInBounds j (.int .u8 (x.toNat : Int)) = rkeyC R (updB k j x) := by
  have h1 : (ba 240 k ++ #[Value.int IntKind.i64 (R : Int)]).size = 241 := by simp [ba_size]
  unfold rkeyC
  rw [Array.setIfInBounds_append_left (by omega), Array.setIfInBounds_append_left (by rw [ba_size]; exact hj), ba_set]
theorem tms_two (x : By) : tms x 2#8 = dbl x := by
  revert x
  refine all_bytes ?_
  decide +kernel
theorem tw_next2 {n j j1 : Nat} {f t0 : Nat → By} {p : By} (hn : 0 < n) (hj : n ≤ j) (hj1 : j1 = j - 1) (ht : t0 = fun r => f (j1 * 4 + r)) (hp : p = rc ((j - 1) / n)) (h : j % n = 0) : ba 4 (fn4 (sb (t0 1) ^^^ p) (sb (t0 2)) (sb (t0 3)) (sb (t0 0))) = ba 4 (fun r => tw n f j r) ∧ dbl p = rc (j / n) := by
  obtain ⟨h1, h2⟩ := tw_next hn hj hj1 ht hp h
  refine ⟨?_, h2⟩
  rw [← h1]
  refine ba_congr fun r hr => ?_
  have : r = 0 ∨ r = 1 ∨ r = 2 ∨ r = 3 := by omega
  rcases this with rfl | rfl | rfl | rfl <;> simp [updB, fn4]

/-- What stands while the document makes words. -/
structure RnS (w wr : World) (K wb R : Nat) (f : Nat → By) : Prop where
  chg : Chg w wr
  key : Ar wr K (rkeyC R zB)
  all : Ar wr wb (ba 240 f)
  lo : w.heap.size ≤ K
  lt : K < wb
theorem RnS.to {w wr u : World} {K wb R : Nat} {f : Nat → By} (h : RnS w wr K wb R f) (c : Chg wr u) : RnS w u K wb R f := ⟨h.chg.trans c, h.key.chg c, h.all.chg c, h.lo, h.lt⟩

theorem zero50 : (∀ w, (zeroValue 69).run Tryz.prog w = .ok (.agg rkeyZ) w) ∧ (Tryz.prog.info? 69).map (·.size) = some 497 := zero_of_info (by kernel_rfl)
theorem zero51 : (∀ w, (zeroValue 71).run Tryz.prog w = .ok (.agg (ba 240 zB)) w) ∧ (Tryz.prog.info? 71).map (·.size) = some 240 := zero_of_info (by kernel_rfl)

set_option maxRecDepth 100000 in
set_option maxHeartbeats 4000000 in
theorem refNewBad_any (ao : Option Addr) (L cap : Nat) (w : World) (h1 : L ≠ 16) (h2 : L ≠ 32) : Calls Tryz.prog 23 #[.slice ao L cap] w fun r w' => r = .returned (.tuple #[.pointer none, .int .i64 1]) ∧ w' = w := by
  have e1 : ((L : Int) != 16) = true := by simp; omega
  have e2 : ((L : Int) != 32) = true := by simp; omega
  go_enter Tryz.func23, Tryz.ntmps23
  go_wp2
  go_ret2
  exact ⟨rfl, rfl⟩

set_option maxRecDepth 100000 in
set_option maxHeartbeats 4000000 in
theorem refNew_any (kb ko cap L n R : Nat) (key : Nat → By) (w : World) (hv : Bs w kb ko L key) (hL : L = 4 * n) (hn : n = 4 ∨ n = 8) (hR : R = n + 6) (hcap : L ≤ cap) (hcap' : cap ≤ 9223372036854775807) :
    Calls Tryz.prog 23 #[.slice (some ⟨kb, ko, none⟩) L cap] w fun r w' => ∃ K k, r = .returned (.tuple #[.pointer (some ⟨K, 0, none⟩), .int .i64 0]) ∧ w.heap.size ≤ K ∧ Chg w w' ∧ Ar w' K (rkeyC R k) ∧ Ks n (4 * (R + 1)) key k := by
  have HX : Hid (Bs w kb ko L key ∧ L = 4 * n ∧ (n = 4 ∨ n = 8) ∧ R = n + 6 ∧ L ≤ cap ∧ kb < w.heap.size) := ⟨hv, hL, hn, hR, hcap, block_lt_of_cell (hv 0 (by omega))⟩
  have hq : (L : Int).tdiv 4 = n := by rw [Int.tdiv_eq_ediv_of_nonneg (by omega), hL]; omega
  have hR1 : 6 + (n : Int) = R := by omega
  obtain ⟨R1, hRR⟩ : ∃ R1 : Nat, (R : Int) + 1 = R1 := ⟨R + 1, by omega⟩
  obtain ⟨C, hC⟩ : ∃ C : Nat, 4 * (R1 : Int) = C := ⟨4 * R1, by omega⟩
  have wR := wrap_i (x := (R : Int)) (by omega) (by omega)
  have wn := wrap_i (x := (n : Int)) (by omega) (by omega)
  have wR1 := wrap_i (x := (R1 : Int)) (by omega) (by omega)
  have wC := wrap_i (x := (C : Int)) (by omega) (by omega)
  have HC : Hid (C = 4 * n + 28 ∧ C = 4 * (R + 1) ∧ C ≤ 60) := by show _ ∧ _ ∧ _; omega
  have hC60 : C ≤ 60 := by omega
  have hnC : n < C := by omega
  have hn8 : n ≤ 8 ∧ 4 ≤ n := by omega
  have hn0 : ¬ (n : Int) = 0 := by omega
  have hz := zero50.1
  have hz1 := zero51.1
  have hz2 := zero46.1
  have hkz := rkeyZ_size
  have hsB := ba_size 256 sbF
  obtain ⟨KZ, hKZ⟩ : ∃ KZ, KZ = rkeyZ := ⟨_, rfl⟩
  have HKZ : Hid (KZ = rkeyZ) := hKZ
  rw [← hKZ] at hz hkz
  have hke : ¬ KZ = #[] := fun e => by rw [e] at hkz; simp at hkz
  obtain ⟨T, hT⟩ : ∃ T, T = ba 256 sbF := ⟨_, rfl⟩
  have HT : Hid (T = ba 256 sbF) := hT
  have hbt := built50 R
  obtain ⟨KR, hKR⟩ : ∃ KR, KR = rkeyC R zB := ⟨_, rfl⟩
  have HKR : Hid (KR = rkeyC R zB) := hKR
  rw [← hKR, ← hKZ, ← hT] at hbt
  clear hKR
  have HB : Hid (∀ u, Calls Tryz.prog 35 #[] u fun r w' => r = .returned (.agg T) ∧ Chg u w') := by rw [hT]; exact refBoxes_any
  rw [← hT] at hsB
  clear hv hL hR hcap hcap' hKZ hT
  go_enter Tryz.func23, Tryz.ntmps23
  go_upto_region 1 with fail
  go_cut [20] from 13 to 19 (fun v wc => v = .bool false ∧ wc = w)
  case first =>
    rcases hn with hn | hn
    · have hL : (L : Int) = 16 := by have := HX.out.2.1; omega
      have e1 : ((L : Int) != 16) = false := by rw [hL]; rfl
      clear hL hn
      go_wp2_with fail
      go_meet
      exact ⟨rfl, rfl⟩
    · have hL : (L : Int) = 32 := by have := HX.out.2.1; omega
      have e1 : ((L : Int) != 16) = true := by rw [hL]; rfl
      have e2 : ((L : Int) != 32) = false := by rw [hL]; rfl
      clear hL hn
      go_wp2_with fail
      go_meet
      exact ⟨rfl, rfl⟩
  case rest =>
    obtain ⟨rfl, hwc⟩ := hcut
    rw [hwc]
    clear hwc
    go_wp2_with (first | (go_at_call 35; refine (HB.out _).mono ?_; rintro r w1 ⟨rfl, hc1⟩))
    obtain ⟨K, hK⟩ : ∃ K, K = w1.heap.size := ⟨_, rfl⟩
    obtain ⟨wb, hwb⟩ : ∃ wb, wb = w1.heap.size + 1 := ⟨_, rfl⟩
    obtain ⟨w2, hw2⟩ : ∃ w2, w2 = (w1.alloc (.cells KR 69)).alloc (.cells (ba 240 zB) 71) := ⟨_, rfl⟩
    have Z2 : Hid (RnS w w2 K wb R zB) := by
      rw [hw2, hK, hwb, HKR.out]
      exact ⟨(hc1.alloc _).alloc _, (Ar.new w1 _ _).alloc _, Ar.new1 w1 _ _ _, hc1.size, by omega⟩
    rw [← hw2, ← hwb, ← hK]
    clear hw2 hwb hK hc1 hbt hz hz1 hkz hke hsB HB HKR HT HKZ
    go_loopw [7, 8] (fun v7 v8 wr => ∃ (i : Nat) (f : Nat → By), v8 = .int .i64 i ∧ i ≤ C ∧ v7 = .int .u8 ((rc ((i - 1) / n)).toNat : Int) ∧ RnS w wr K wb R f ∧ Hid ((i ≤ n → ∀ j, j < 4 * i → f j = key j) ∧ (n ≤ i → Ks n i key f))) (fun v7 v8 wr => C - (intOf v8).toNat)
    case atStart =>
      refine ⟨0, zB, rfl, by omega, ?_, Z2.out, fun _ j hj => by omega, fun h => by omega⟩
      have e : (0 - 1) / n = 0 := by rw [Nat.zero_sub, Nat.zero_div]
      rw [e]
      rfl
    case round =>
      clear Z2
      obtain ⟨i, f, rfl, hiC, rfl, hz3, hks⟩ := hrel
      have Z : Hid (RnS w wr K wb R f ∧ (i ≤ n → ∀ j, j < 4 * i → f j = key j) ∧ (n ≤ i → Ks n i key f)) := ⟨hz3, hks.out.1, hks.out.2⟩
      have c240 := rkR hz3.key
      obtain ⟨p, hp⟩ : ∃ p, p = rc ((i - 1) / n) := ⟨_, rfl⟩
      rw [← hp]
      have HPp : Hid (p = rc ((i - 1) / n)) := hp
      clear hz3 hks hp
      by_cases hiC' : i < C
      · have hd2 : decide ((i : Int) < C) = true := by simp; omega
        by_cases hin : i < n
        · have hd3 : decide ((i : Int) < n) = true := by simp; omega
          obtain ⟨j0, h0⟩ : ∃ j0 : Nat, 4 * (i : Int) = j0 := ⟨4 * i, by omega⟩
          obtain ⟨j1, h1⟩ : ∃ j1 : Nat, (j0 : Int) + 1 = j1 := ⟨j0 + 1, by omega⟩
          obtain ⟨j2, h2⟩ : ∃ j2 : Nat, (j0 : Int) + 2 = j2 := ⟨j0 + 2, by omega⟩
          obtain ⟨j3, h3⟩ : ∃ j3 : Nat, (j0 : Int) + 3 = j3 := ⟨j0 + 3, by omega⟩
          have w0 := wrap_i (x := (j0 : Int)) (by omega) (by omega)
          have w1' := wrap_i (x := (j1 : Int)) (by omega) (by omega)
          have w2' := wrap_i (x := (j2 : Int)) (by omega) (by omega)
          have w3' := wrap_i (x := (j3 : Int)) (by omega) (by omega)
          have hL := HX.out.2.1
          have hbs := HX.out.1.chg Z.out.1.chg
          have c0 := hbs j0 (by omega)
          have c1 := hbs j1 (by omega)
          have c2 := hbs j2 (by omega)
          have c3 := hbs j3 (by omega)
          have HJ : Hid (j0 = 4 * i ∧ j1 = 4 * i + 1 ∧ j2 = 4 * i + 2 ∧ j3 = 4 * i + 3) := by show _ ∧ _ ∧ _ ∧ _; omega
          have l0 : j0 < L := by omega
          have l1 : j1 < L := by omega
          have l2 : j2 < L := by omega
          have l3 : j3 < L := by omega
          clear hL hbs
          go_upto_region 11 with fail
          refine reg11_any (f := f) h0 w0 h1 w1' h2 w2' h3 w3' l0 l1 l2 l3 (by omega) (Nat.lt_of_lt_of_le HX.out.2.2.2.2.2 Z.out.1.chg.size) c0 c1 c2 c3 Z.out.1.all ?_
          intro y42 y43 y44 y45 y46 y47 y48 y49 y50 y51 y52 y53 y54 y55 y56 y57 y58 y59 y60 y61 y62 y63 y64 y65 y66 y67 u hcw
          have HCW : Hid (Chg wr u) := hcw
          clear hcw c0 c1 c2 c3 c240
          go_wp2_with fail
          go_roundw
          case rel =>
            have k1 := Z.out.1.to HCW.out
            have e1 := k1.lo
            have e2 := k1.lt
            have hJ := HJ.out
            have hf : ∀ j, j < 4 * (i + 1) → over (i * 4) 4 (fn4 (key j0) (key j1) (key j2) (key j3)) f j = key j := by
              intro j hj
              unfold over
              by_cases e : i * 4 ≤ j ∧ j < i * 4 + 4
              · rw [if_pos e]
                have : j - i * 4 = 0 ∧ j = j0 ∨ j - i * 4 = 1 ∧ j = j1 ∨ j - i * 4 = 2 ∧ j = j2 ∨ j - i * 4 = 3 ∧ j = j3 := by omega
                rcases this with ⟨q, rfl⟩ | ⟨q, rfl⟩ | ⟨q, rfl⟩ | ⟨q, rfl⟩ <;> rw [q] <;> rfl
              · rw [if_neg e]
                exact Z.out.2.1 (by omega) j (by omega)
            refine ⟨i + 1, over (i * 4) 4 (fn4 (key j0) (key j1) (key j2) (key j3)) f, by go_num, by omega, ?_, ⟨k1.chg.setRow (by omega) _, k1.key.rowOther (by omega) _, k1.all.row _, e1, e2⟩, fun _ => hf, fun hni => ⟨fun j hj => hf j (by omega), fun a h1 h2 => by omega⟩⟩
            rw [HPp.out]
            have q1 : (i - 1) / n = 0 := Nat.div_eq_of_lt (by omega)
            have q2 : (i + 1 - 1) / n = 0 := Nat.div_eq_of_lt (by omega)
            rw [q1, q2]
          case measure => simp [intOf]; omega
        · have hd3 : decide ((i : Int) < n) = false := by simp; omega
          have hni : n ≤ i := by omega
          obtain ⟨i1, hi1⟩ : ∃ i1 : Nat, (i : Int) - 1 = i1 := ⟨i - 1, by omega⟩
          have wi1 := wrap_i (x := (i1 : Int)) (by omega) (by omega)
          have li1 : (i1 : Int) < 60 := by omega
          obtain ⟨m, hm⟩ : ∃ m : Nat, m = i % n := ⟨_, rfl⟩
          have hmod : (i : Int).tmod n = m := by rw [Int.tmod_eq_emod_of_nonneg (by omega), hm]; rfl
          obtain ⟨t0, ht0⟩ : ∃ t0 : Nat → By, t0 = fun r => f (i1 * 4 + r) := ⟨_, rfl⟩
          have HJ : Hid (i1 = i - 1 ∧ m = i % n ∧ (t0 = fun r => f (i1 * 4 + r))) := ⟨by omega, hm, ht0⟩
          have rng : wr.rangeAt wb (i1 * 4) (ba 4 t0).toList := by
            intro q v hv
            have hq4 : q < 4 := by
              have := (List.getElem?_eq_some_iff.1 hv).1
              rwa [Array.length_toList, ba_size] at this
            rw [Array.getElem?_toList, ba_get 4 t0 hq4] at hv
            rw [Z.out.1.all.cell, ba_get 240 f (by omega), ← hv, ht0]
          have hsz := szB t0 zero46.2
          have hlen := lenB 4 zB t0
          have hone := ba_one 4 t0
          have hinf : (Tryz.prog.info? 70).map (·.size) = some (ba 4 t0).toList.length := by rw [Array.length_toList]; exact hsz
          clear hm ht0
          go_upto_if 75 with (first | refine wpList_load_mid rfl 70 _ rfl wb (i1 * 4) rfl (ba 4 t0).toList _ rng und46 rfl hinf ?_ | refine wpList_store_row rfl 70 _ _ rfl _ _ rfl rfl _ _ (heap_alloc_last wr _) hsz hlen hone ?_)
          obtain ⟨tb, htb⟩ : ∃ tb, tb = wr.heap.size := ⟨_, rfl⟩
          obtain ⟨w5, hw5⟩ : ∃ w5, w5 = (wr.alloc (.cells (ba 4 zB) 70)).setRow wr.heap.size (ba 4 t0) := ⟨_, rfl⟩
          have Z5 : Hid (RnS w w5 K wb R f ∧ Ar w5 tb (ba 4 t0) ∧ wb < tb) := by
            have h1 := Z.out.1.all.lt
            have h2 := Z.out.1.lt
            have h3 := Z.out.1.lo
            rw [hw5, htb]
            exact ⟨⟨(Z.out.1.chg.alloc _).setRow (by omega) _, (Z.out.1.key.alloc _).rowOther (by omega) _, (Z.out.1.all.alloc _).rowOther (by omega) _, h3, h2⟩, (Ar.new wr _ _).row _, h1⟩
          rw [← hw5, ← htb]
          clear hw5 htb hsz hlen hone hinf rng c240
          go_cut [7] from 75 to 144 (fun v7 wc => v7 = .int .u8 ((rc (i / n)).toNat : Int) ∧ RnS w wc K wb R f ∧ Ar wc tb (ba 4 (fun r => tw n f i r)))
          case first =>
            have c0 := (Z5.out.2.1.cell 0).trans (ba_get 4 t0 (by decide))
            have c1 := (Z5.out.2.1.cell 1).trans (ba_get 4 t0 (by decide))
            have c2 := (Z5.out.2.1.cell 2).trans (ba_get 4 t0 (by decide))
            have c3 := (Z5.out.2.1.cell 3).trans (ba_get 4 t0 (by decide))
            have d0 := rkB Z5.out.1.key (t0 0)
            have d1 := rkB Z5.out.1.key (t0 1)
            have d2 := rkB Z5.out.1.key (t0 2)
            have d3 := rkB Z5.out.1.key (t0 3)
            by_cases hm0 : m = 0
            · subst hm0
              obtain ⟨H1, H2⟩ := tw_next2 (n := n) (j := i) (by omega) hni HJ.out.1 HJ.out.2.2 HPp.out HJ.out.2.1.symm
              obtain ⟨y, Hy, ey⟩ := nameXor (sb (t0 1)) p
              have HE : Hid (ba 4 (fn4 y (sb (t0 2)) (sb (t0 3)) (sb (t0 0))) = ba 4 (fun r => tw n f i r) ∧ tms p 2#8 = rc (i / n)) := by
                rw [Hy.out, tms_two]
                exact ⟨H1, H2⟩
              clear H1 H2 hmod Hy
              go_upto_region 14 with fail
              refine reg14_any (f := t0) Z5.out.2.1.lt Z5.out.1.key.lt c0 c1 c2 c3 d0 d1 d2 d3 ey Z5.out.2.1 ?_
              intro y76 y77 y78 y79 y80 y81 y82 y83 y84 y85 y86 y87 y88 y89 y90 y91 y92 y93 y94 y95 y96 y97 y98 y99 y100 y101 y102 y103 y104 y105 y106 u hcw
              have Z6 : Hid (RnS w u K wb R f ∧ Ar u tb (ba 4 t0) ∧ wb < tb) := ⟨Z5.out.1.to hcw, Z5.out.2.1.chg hcw, Z5.out.2.2⟩
              clear hcw c0 c1 c2 c3 d0 d1 d2 d3 ey Z5
              go_wp2_with (first | (go_at_call 36; refine (times_any p 2#8 _).mono ?_; rintro r w7 ⟨rfl, hw7⟩; rw [hw7]))
              go_meet
              have hlo := Z6.out.1.lo
              have hlt := Z6.out.1.lt
              have hgt := Z6.out.2.2
              refine ⟨by rw [HE.out.2], ⟨Z6.out.1.chg.setRow (by omega) _, Z6.out.1.key.rowOther (by omega) _, Z6.out.1.all.rowOther (by omega) _, hlo, hlt⟩, ?_⟩
              rw [← HE.out.1]
              exact Z6.out.2.1.row _
            · have hm0' : ((m : Int) == 0) = false := by simp; omega
              have hmj : ¬ i % n = 0 := by rw [← HJ.out.2.1]; exact hm0
              have HP : Hid (p = rc (i / n)) := by rw [HPp.out, rc_same (by omega) hmj]; rfl
              by_cases h8 : n = 8 ∧ i % 8 = 4
              · have HE : Hid (ba 4 (fn4 (sb (t0 0)) (sb (t0 1)) (sb (t0 2)) (sb (t0 3))) = ba 4 (fun r => tw n f i r)) := by
                  show _ = _
                  rw [← tw_box HJ.out.1 HJ.out.2.2 hmj h8]
                  refine ba_congr fun r hr => ?_
                  have : r = 0 ∨ r = 1 ∨ r = 2 ∨ r = 3 := by omega
                  rcases this with rfl | rfl | rfl | rfl <;> simp [fn4]
                obtain ⟨hi8, hj8⟩ := h8
                have hmod8 : (i : Int).tmod 8 = 4 := by rw [Int.tmod_eq_emod_of_nonneg (by omega)]; omega
                have hi8' : ((n : Int) == 8) = true := by simp; omega
                clear hmj hj8 hi8 hmod
                go_upto_region 17 with fail
                refine reg17_any (f := t0) Z5.out.2.1.lt Z5.out.1.key.lt c0 c1 c2 c3 d0 d1 d2 d3 Z5.out.2.1 ?_
                intro y116 y117 y118 y119 y120 y121 y122 y123 y124 y125 y126 y127 y128 y129 y130 y131 y132 y133 y134 y135 y136 y137 y138 y139 y140 y141 y142 y143 y144 u hcw
                have Z6 : Hid (RnS w u K wb R f ∧ Ar u tb (ba 4 t0) ∧ wb < tb) := ⟨Z5.out.1.to hcw, Z5.out.2.1.chg hcw, Z5.out.2.2⟩
                clear hcw c0 c1 c2 c3 d0 d1 d2 d3 Z5
                go_wp2_with fail
                go_meet
                have hlo := Z6.out.1.lo
                have hlt := Z6.out.1.lt
                have hgt := Z6.out.2.2
                refine ⟨by rw [HP.out], ⟨Z6.out.1.chg.setRow (by omega) _, Z6.out.1.key.rowOther (by omega) _, Z6.out.1.all.rowOther (by omega) _, hlo, hlt⟩, ?_⟩
                rw [← HE.out]
                exact Z6.out.2.1.row _
              · have HE : Hid (ba 4 t0 = ba 4 (fun r => tw n f i r)) := tw_same HJ.out.1 HJ.out.2.2 hmj h8
                clear c0 c1 c2 c3 d0 d1 d2 d3
                by_cases hi8 : n = 8
                · have hi8' : ((n : Int) == 8) = true := by simp; omega
                  have hj8 : ¬ i % 8 = 4 := fun e => h8 ⟨hi8, e⟩
                  obtain ⟨e8, he8⟩ : ∃ e8 : Nat, e8 = i % 8 := ⟨_, rfl⟩
                  have hmod8 : (i : Int).tmod 8 = e8 := by rw [Int.tmod_eq_emod_of_nonneg (by omega)]; omega
                  have hne : ((e8 : Int) == 4) = false := by simp; omega
                  clear hmj hj8 hi8 hmod he8 h8
                  go_wp2_with fail
                  go_meet
                  exact ⟨by rw [HP.out], Z5.out.1, by rw [← HE.out]; exact Z5.out.2.1⟩
                · have hi8' : ((n : Int) == 8) = false := by simp; omega
                  clear hmj hmod h8
                  go_wp2_with fail
                  go_meet
                  exact ⟨by rw [HP.out], Z5.out.1, by rw [← HE.out]; exact Z5.out.2.1⟩
          case rest =>
            obtain ⟨hv8, hz8, ht8⟩ := hcut
            subst hv8
            obtain ⟨tF, htF⟩ : ∃ tF : Nat → By, tF = fun r => tw n f i r := ⟨_, rfl⟩
            obtain ⟨wx, hwx⟩ : ∃ wx, wx = wc := ⟨_, rfl⟩
            obtain ⟨p2, hp2⟩ : ∃ p2, p2 = rc (i / n) := ⟨_, rfl⟩
            rw [← htF] at ht8
            rw [← hwx] at hz8 ht8 ⊢
            rw [← hp2]
            have HP2 : Hid (p2 = rc (i / n)) := hp2
            have HTF : Hid (tF = fun r => tw n f i r) := htF
            obtain ⟨jn, hjn⟩ : ∃ jn : Nat, (i : Int) - n = jn := ⟨i - n, by omega⟩
            have wjn := wrap_i (x := (jn : Int)) (by omega) (by omega)
            have ljn : (jn : Int) < 60 := by omega
            have li60 : (i : Int) < 60 := by omega
            obtain ⟨X, hX⟩ : ∃ X : Nat → By, X = fun q => f (jn * 4 + q) ^^^ tF q := ⟨_, rfl⟩
            have HXX : Hid (X = fun q => f (jn * 4 + q) ^^^ tF q) := hX
            have Z8 : Hid (RnS w wx K wb R f ∧ Ar wx tb (ba 4 tF) ∧ wb < tb ∧ jn = i - n) := ⟨hz8, ht8, Z5.out.2.2, by omega⟩
            have hjnj : jn + 4 ≤ i := by omega
            clear hz8 ht8 htF hwx hp2 hX Z5
            go_wp2_with fail
            go_loopw [10] (fun v wr => ∃ (r : Nat), v = .int .i64 r ∧ r ≤ 4 ∧ RnS w wr K wb R (over (i * 4) r X f) ∧ Ar wr tb (ba 4 tF)) (fun v wr => 4 - (intOf v).toNat)
            case atStart =>
              refine ⟨0, rfl, by omega, ?_, Z8.out.2.1⟩
              have e : over (i * 4) 0 X f = f := by
                funext q
                have : ¬ (i * 4 ≤ q ∧ q < i * 4 + 0) := by omega
                simp only [over, this, if_false]
              rw [e]
              exact Z8.out.1
            case round =>
              obtain ⟨r, rfl, hr, hz9, ht9⟩ := hrel
              have Z9 : Hid (RnS w wr K wb R (over (i * 4) r X f) ∧ Ar wr tb (ba 4 tF)) := ⟨hz9, ht9⟩
              by_cases hr4 : r < 4
              · have hd4 : decide ((r : Int) < 4) = true := by simp; omega
                have lr : (r : Int) < 4 := by omega
                have c1 := (hz9.all.cell (jn * 4 + r)).trans (ba_get 240 _ (by omega))
                have e1 : over (i * 4) r X f (jn * 4 + r) = f (jn * 4 + r) := by
                  have : ¬ (i * 4 ≤ jn * 4 + r ∧ jn * 4 + r < i * 4 + r) := by omega
                  simp only [over, this, if_false]
                rw [e1] at c1
                have c2 := (ht9.cell r).trans (ba_get 4 tF hr4)
                have c3 := (hz9.all.cell (i * 4 + r)).trans (ba_get 240 _ (by omega))
                have f3 := hz9.all.frozen (i * 4 + r)
                obtain ⟨x1, hx1⟩ : ∃ x, x = f (jn * 4 + r) := ⟨_, rfl⟩
                obtain ⟨x2, hx2⟩ : ∃ x, x = tF r := ⟨_, rfl⟩
                obtain ⟨x3, hx3⟩ : ∃ x, x = over (i * 4) r X f (i * 4 + r) := ⟨_, rfl⟩
                rw [← hx1] at c1
                rw [← hx2] at c2
                rw [← hx3] at c3
                obtain ⟨y, Hy, ey⟩ := nameXor x1 x2
                have HY : Hid (y = X r) := by show y = _; rw [Hy.out, HXX.out, hx1, hx2]
                clear hx1 hx2 hx3 e1 hz9 ht9 Hy
                go_wp2_with fail
                go_region_with (fail)
                all_goals go_wp2
                all_goals
                  go_roundw
                  case rel =>
                    obtain ⟨k1, k2⟩ := Z9.out
                    have hlo := k1.lo
                    have hlt := k1.lt
                    have hgt := Z8.out.2.2.1
                    refine ⟨r + 1, by go_num, by omega, ⟨(k1.chg.setCell (by dsimp only; omega) _).drew, (k1.key.other (by dsimp only; omega) _).drew, ?_, hlo, hlt⟩, (k2.other (by dsimp only; omega) _).drew⟩
                    have hh := k1.all.set (i * 4 + r) (.int .u8 (y.toNat : Int))
                    rw [ba_set] at hh
                    have e : updB (over (i * 4) r X f) (i * 4 + r) y = over (i * 4) (r + 1) X f := by
                      funext q
                      unfold updB over
                      by_cases eq : q = i * 4 + r
                      · subst eq
                        have : i * 4 ≤ i * 4 + r ∧ i * 4 + r < i * 4 + (r + 1) := by omega
                        have e4 : i * 4 + r - i * 4 = r := by omega
                        simp only [this, if_true, HY.out, e4, and_self]
                      · have : (i * 4 ≤ q ∧ q < i * 4 + (r + 1)) ↔ (i * 4 ≤ q ∧ q < i * 4 + r) := by omega
                        simp only [eq, if_false, this]
                    rw [e] at hh
                    exact hh.drew
                  case measure => simp [intOf]; omega
              · have hr4' : r = 4 := by omega
                subst hr4'
                clear hz9 ht9
                go_wp2
                go_roundw
                case rel =>
                  refine ⟨i + 1, over (i * 4) 4 X f, by go_num, by omega, ?_, Z9.out.1, fun h => by omega, fun _ => ?_⟩
                  · rw [HP2.out]; rfl
                  · refine Ks.more (by omega) hni (Z.out.2.2 hni) (fun q hq => ?_) (fun q hq => ?_)
                    · have : ¬ (i * 4 ≤ q ∧ q < i * 4 + 4) := by omega
                      simp only [over, this, if_false]
                    · have e4 : i * 4 ≤ 4 * i + q ∧ 4 * i + q < i * 4 + 4 := by omega
                      have e5 : 4 * i + q - i * 4 = q := by omega
                      have e6 : 4 * (i - n) + q = jn * 4 + q := by have := Z8.out.2.2.2; omega
                      unfold over
                      rw [if_pos e4, e5, HXX.out, HTF.out, e6]
                case measure => simp [intOf]; omega
      · have hiC2 : i = C := by omega
        subst hiC2
        have hd2 : decide ((i : Int) < i) = false := by simp
        have ZF : Hid (Ks n i key f ∧ w.heap.size ≤ K ∧ K < wb) := ⟨Z.out.2.2 (by omega), Z.out.1.lo, Z.out.1.lt⟩
        obtain ⟨wo, hwo⟩ : ∃ wo, wo = wr := ⟨_, rfl⟩
        rw [← hwo] at Z c240 ⊢
        clear hwo
        go_wp2_with fail
        clear c240
        go_loopw [11] (fun v wr => ∃ (s : Nat) (k : Nat → By), v = .int .i64 s ∧ s ≤ i ∧ Chg w wr ∧ Ar wr K (rkeyC R k) ∧ Ar wr wb (ba 240 f) ∧ ∀ j, j < 4 * s → k j = f j) (fun v wr => i - (intOf v).toNat)
        case atStart => exact ⟨0, zB, rfl, by omega, Z.out.1.chg, Z.out.1.key, Z.out.1.all, fun j hj => by omega⟩
        case round =>
          clear Z
          obtain ⟨s, k, rfl, hs, h1, h2, h3, h4⟩ := hrel
          have Z : Hid (Chg w wr ∧ Ar wr K (rkeyC R k) ∧ Ar wr wb (ba 240 f) ∧ ∀ j, j < 4 * s → k j = f j) := ⟨h1, h2, h3, h4⟩
          have c240 := rkR h2
          clear h1 h2 h3 h4
          by_cases hsC : s < i
          · have hd5 : decide ((s : Int) < i) = true := by simp; omega
            have ls60 : (s : Int) < 60 := by omega
            obtain ⟨q, hq'⟩ : ∃ q : Nat, q = s / 4 := ⟨_, rfl⟩
            obtain ⟨e, he⟩ : ∃ e : Nat, e = s % 4 := ⟨_, rfl⟩
            have hdiv : (s : Int).tdiv 4 = q := by rw [Int.tdiv_eq_ediv_of_nonneg (by omega), hq']; rfl
            have hmod : (s : Int).tmod 4 = e := by rw [Int.tmod_eq_emod_of_nonneg (by omega), he]; rfl
            obtain ⟨e4, he4⟩ : ∃ e4 : Nat, 4 * (e : Int) = e4 := ⟨4 * e, by omega⟩
            have wq := wrap_i (x := (q : Int)) (by omega) (by omega)
            have we := wrap_i (x := (e : Int)) (by omega) (by omega)
            have we4 := wrap_i (x := (e4 : Int)) (by omega) (by omega)
            have lq : (q : Int) < 15 := by omega
            have HQ : Hid (q * 16 + e4 = 4 * s) := by show q * 16 + e4 = _; omega
            have le4 : (e4 : Int) ≤ 12 := by omega
            clear hq' he
            go_wp2_with fail
            clear c240
            go_loopw [12] (fun v wr => ∃ (r : Nat) (k : Nat → By), v = .int .i64 r ∧ r ≤ 4 ∧ Chg w wr ∧ Ar wr K (rkeyC R k) ∧ Ar wr wb (ba 240 f) ∧ ∀ j, j < 4 * s + r → k j = f j) (fun v wr => 4 - (intOf v).toNat)
            case atStart => exact ⟨0, k, rfl, by omega, Z.out⟩
            case round =>
              clear Z
              obtain ⟨r, k, rfl, hr, h1, h2, h3, h4⟩ := hrel
              have Z : Hid (Chg w wr ∧ Ar wr K (rkeyC R k) ∧ Ar wr wb (ba 240 f) ∧ ∀ j, j < 4 * s + r → k j = f j) := ⟨h1, h2, h3, h4⟩
              by_cases hr4 : r < 4
              · have hd6 : decide ((r : Int) < 4) = true := by simp; omega
                have lr : (r : Int) < 4 := by omega
                obtain ⟨eb, heb⟩ : ∃ eb : Nat, (e4 : Int) + r = eb := ⟨e4 + r, by omega⟩
                have web := wrap_i (x := (eb : Int)) (by omega) (by omega)
                have leb : (eb : Int) < 16 := by omega
                have HEB : Hid (q * 16 + eb = 4 * s + r) := by have := HQ.out; show q * 16 + eb = _; omega
                have c1 := (h3.cell (s * 4 + r)).trans (ba_get 240 f (by omega))
                have c2 := rkK h2 (j := q * 16 + eb) (by have := HEB.out; omega)
                have f2 := h2.frozen (q * 16 + eb)
                obtain ⟨x, hx⟩ : ∃ x, x = f (s * 4 + r) := ⟨_, rfl⟩
                rw [← hx] at c1
                have HXf : Hid (x = f (4 * s + r)) := by show x = _; rw [hx, Nat.mul_comm]
                obtain ⟨x2, hx2⟩ : ∃ x, x = k (q * 16 + eb) := ⟨_, rfl⟩
                rw [← hx2] at c2
                clear h1 h2 h3 h4 hx hx2
                go_wp2_with fail
                go_region_with (fail)
                all_goals go_wp2
                all_goals
                  go_roundw
                  case rel =>
                    obtain ⟨k1, k2, k3, k4⟩ := Z.out
                    obtain ⟨-, z2, z3⟩ := ZF.out
                    refine ⟨r + 1, updB k (q * 16 + eb) x, by go_num, by omega, (k1.setCell (by dsimp only; omega) _).drew, ?_, (k3.other (by dsimp only; omega) _).drew, fun j hj => ?_⟩
                    · have hh := k2.set (q * 16 + eb) (.int .u8 (x.toNat : Int))
                      rw [rkeyC_set R k _ x (by have := HEB.out; omega)] at hh
                      exact hh.drew
                    · rw [HEB.out, HXf.out]
                      unfold updB
                      by_cases ej : j = 4 * s + r
                      · rw [if_pos ej, ej]
                      · rw [if_neg ej]
                        exact k4 j (by omega)
                  case measure => simp [intOf]; omega
              · have hr4' : r = 4 := by omega
                subst hr4'
                clear h1 h2 h3 h4
                go_wp2
                go_roundw
                case rel =>
                  have e : 4 * s + 4 = 4 * (s + 1) := by omega
                  have := Z.out
                  rw [e] at this
                  exact ⟨s + 1, k, by go_num, by omega, this⟩
                case measure => simp [intOf]; omega
          · have hsC2 : s = i := by omega
            subst hsC2
            have hd5 : decide ((s : Int) < s) = false := by simp
            go_wp2
            go_ret2
            refine ⟨K, k, rfl, ZF.out.2.1, Z.out.1, Z.out.2.1, ?_⟩
            rw [← HC.out.2.1]
            have h1 := HC.out.1
            exact ZF.out.1.of (by omega) (by omega) Z.out.2.2.2
end Go.Proofs.YtobglgddbhddnaaGreat
