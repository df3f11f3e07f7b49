/-
  The document's Block, walked.
  The document's stream: bytes XORed with the blocks that a count counts.
-/
import Derived.Test.YtobglgddbhddnaaGreatJ23
import Derived.Test.YtobglgddbhddnaaGreatJ21
import Derived.Deep.RegionLaw
namespace Go.Proofs.YtobglgddbhddnaaGreat.Cha
open Go.RowKit
set_option linter.unusedVariables false

set_option maxRecDepth 100000 in
set_option maxHeartbeats 4000000 in
theorem refBlock_any (key nonce : Nat → By) (c : Wd) (w : World) : Calls Tryz.prog 32 #[.agg (ba 32 key), .int .u32 (c.toNat : Int), .agg (ba 12 nonce)] w fun r w' => r = .returned (.agg (ba 64 (blk key c nonce))) ∧ Chg w w' := by
  have hsA := ba_size 32 key
  have hsB := ba_size 12 nonce
  obtain ⟨A, hA⟩ : ∃ A, A = ba 32 key := ⟨_, rfl⟩
  obtain ⟨D, hD⟩ : ∃ D, D = ba 12 nonce := ⟨_, rfl⟩
  have HAD : Hid (A = ba 32 key ∧ D = ba 12 nonce) := ⟨hA, hD⟩
  rw [← hA] at hsA ⊢
  rw [← hD] at hsB ⊢
  clear hA hD
  have hz := zero42.1
  have hz2 := zero28.1
  have hws := wa_size 16 zW
  obtain ⟨C, hC⟩ : ∃ C, C = wa 16 con := ⟨_, rfl⟩
  have hcon := con_cells
  rw [← hC] at hcon
  have HC : Hid (C = wa 16 con) := hC
  have HS : Hid ((Tryz.prog.info? 84).map (·.size) = some C.size ∧ (wa 16 zW).size = C.size ∧ C.all (·.oneCell') = true) := by
    rw [hC]
    exact ⟨szW con, lenW 16 zW con, wa_one 16 con⟩
  clear hC
  go_enter Tryz.func32, Tryz.ntmps32
  go_upto_region 2 with (first | refine wpList_store_row rfl 84 _ _ rfl _ _ rfl rfl _ _ (heap_new3 w (.cells A 40) (.cells D 25) (.cells (ba 64 zB) 60) (wa 16 zW) 84) HS.out.1 HS.out.2.1 HS.out.2.2 ?_)
  obtain ⟨w4, hw4⟩ : ∃ w4, w4 = ((((w.alloc (.cells A 40)).alloc (.cells D 25)).alloc (.cells (ba 64 zB) 60)).alloc (.cells (wa 16 zW) 84)).setRow (w.heap.size + 1 + 1 + 1) C := ⟨_, rfl⟩
  have Z4 : Hid (RkS w w4 key nonce (iniR key 0 0#32 nonce 0)) := by
    rw [hw4, HAD.out.1, HAD.out.2, HC.out, wa_congr (iniR_start key nonce)]
    refine ⟨((((((Chg.refl w).alloc _).alloc _).alloc _).alloc _)).setRow (by omega) _, ((((Ar.new w _ _).alloc _).alloc _).alloc _).rowOther (by omega) _, (((Ar.new1 w _ _ _).alloc _).alloc _).rowOther (by omega) _, ((Ar.new2 w _ _ _ _).alloc _).rowOther (by omega) _, ?_⟩
    exact Ar.row ⟨84, heap_new3 w _ _ _ _ 84⟩ _
  rw [← hw4]
  clear hw4 hz hws hcon HC HS hsA hsB
  dsimp only [Act.put]
  go_wp2_with fail
  go_loopw [8] (fun v wr => ∃ (i : Nat), v = .int .i64 i ∧ i ≤ 8 ∧ RkS w wr key nonce (iniR key i 0#32 nonce 0)) (fun v wr => 8 - (intOf v).toNat)
  case atStart => exact ⟨0, rfl, by omega, Z4.out⟩
  case round =>
    clear Z4
    obtain ⟨i, rfl, hi, hz0⟩ := hrel
    have Z : Hid (RkS w wr key nonce (iniR key i 0#32 nonce 0)) := hz0
    clear hz0
    by_cases hlt : i < 8
    · have hd : decide ((i : Int) < 8) = true := by simp; omega
      obtain ⟨p, hp⟩ : ∃ p : Nat, 4 * (i : Int) = p := ⟨4 * i, by omega⟩
      obtain ⟨p4, hp4⟩ : ∃ p4 : Nat, (p : Int) + 4 = p4 := ⟨p + 4, by omega⟩
      obtain ⟨t, ht⟩ : ∃ t : Nat, 4 + (i : Int) = t := ⟨4 + i, by omega⟩
      have wp := wrap_i (x := (p : Int)) (by omega) (by omega)
      have wp4 := wrap_i (x := (p4 : Int)) (by omega) (by omega)
      have wt := wrap_i (x := (t : Int)) (by omega) (by omega)
      have l4 : (t : Int) < 16 := by omega
      have HP : Hid (p = 4 * i ∧ p4 = 4 * i + 4 ∧ t = 4 + i) := by show _ ∧ _ ∧ _; omega
      have hsl : ∀ u, (Instr.sliceAt 40 (.pointer (some ⟨w.heap.size, 0, none⟩)) (some (.int .i64 (p : Int))) (some (.int .i64 (p4 : Int))) none).run Tryz.prog u = .ok (.slice (some ⟨w.heap.size, p, none⟩) 4 (32 - p)) u := fun u => by
        have := run_sliceArr und22 w.heap.size p p4 (by omega) (by omega) (by omega) u
        rwa [show p4 - p = 4 by omega] at this
      obtain ⟨x, hx⟩ : ∃ x, x = wordB key i := ⟨_, rfl⟩
      have HX : Hid (x = wordB key i) := hx
      have HW : Hid (Calls Tryz.prog 49 #[.slice (some ⟨w.heap.size, p, none⟩) 4 (32 - p)] wr fun r w' => r = .returned (.int .u32 (x.toNat : Int)) ∧ Chg wr w') := by
        have hb := word_any w.heap.size p (32 - p) (fun j => key (p + j)) wr (Z.out.key.bsAt p 4 (by omega))
        rw [HP.out.1] at hb ⊢
        rw [hx, ← wordB_at]
        exact hb
      clear hx
      go_wp2_with fail
      go_at_call 49
      refine HW.out.mono ?_
      rintro r w5 ⟨rfl, hc5⟩
      have Z5 : Hid (RkS w w5 key nonce (iniR key i 0#32 nonce 0)) := Z.out.to hc5
      have c1 := (Z5.out.ws.cell t).trans (wa_get 16 _ (by omega))
      have k1 := Z5.out.ws.frozen t
      obtain ⟨y, hy⟩ : ∃ y, y = (iniR key i 0#32 nonce 0) t := ⟨_, rfl⟩
      rw [← hy] at c1
      clear hy hc5 Z HW hsl
      go_wp2_with fail
      go_roundw
      case rel =>
        refine ⟨i + 1, by go_num, by omega, ?_⟩
        have hh := Z5.out.set t x
        rw [HX.out, HP.out.2.2, iniR_key key nonce 0#32 hlt] at hh
        rw [HX.out, HP.out.2.2]
        exact hh
      case measure => simp [intOf]; omega
    · have : i = 8 := by omega
      subst this
      rw [show ((8 : Nat) : Int) = 8 from rfl]
      have c1 := (Z.out.ws.cell 12).trans (wa_get 16 _ (by decide))
      have k1 := Z.out.ws.frozen 12
      obtain ⟨x, hx⟩ : ∃ x, x = iniR key 8 0#32 nonce 0 12 := ⟨_, rfl⟩
      rw [← hx] at c1
      clear hx
      go_upto_region 7 with fail
      obtain ⟨w5, hw5⟩ : ∃ w5, w5 = wr.setCell ⟨w.heap.size + 1 + 1 + 1, 12, none⟩ (.int .u32 (c.toNat : Int)) := ⟨_, rfl⟩
      have Z5 : Hid (RkS w w5 key nonce (iniR key 8 c nonce 0)) := by
        rw [hw5, ← iniR_count key nonce c]
        exact Z.out.set 12 c
      rw [← hw5]
      clear hw5 c1 k1 Z
      go_wp2_with fail
      go_loopw [9] (fun v wr => ∃ (i : Nat), v = .int .i64 i ∧ i ≤ 3 ∧ RkS w wr key nonce (iniR key 8 c nonce i)) (fun v wr => 3 - (intOf v).toNat)
      case atStart => exact ⟨0, rfl, by omega, Z5.out⟩
      case round =>
        clear Z5
        obtain ⟨i, rfl, hi, hz0⟩ := hrel
        have Z : Hid (RkS w wr key nonce (iniR key 8 c nonce i)) := hz0
        clear hz0
        by_cases hlt : i < 3
        · have hd : decide ((i : Int) < 3) = true := by simp; omega
          obtain ⟨p, hp⟩ : ∃ p : Nat, 4 * (i : Int) = p := ⟨4 * i, by omega⟩
          obtain ⟨p4, hp4⟩ : ∃ p4 : Nat, (p : Int) + 4 = p4 := ⟨p + 4, by omega⟩
          obtain ⟨t, ht⟩ : ∃ t : Nat, 13 + (i : Int) = t := ⟨13 + i, by omega⟩
          have wp := wrap_i (x := (p : Int)) (by omega) (by omega)
          have wp4 := wrap_i (x := (p4 : Int)) (by omega) (by omega)
          have wt := wrap_i (x := (t : Int)) (by omega) (by omega)
          have l4 : (t : Int) < 16 := by omega
          have HP : Hid (p = 4 * i ∧ p4 = 4 * i + 4 ∧ t = 13 + i) := by show _ ∧ _ ∧ _; omega
          have hsl : ∀ u, (Instr.sliceAt 25 (.pointer (some ⟨w.heap.size + 1, 0, none⟩)) (some (.int .i64 (p : Int))) (some (.int .i64 (p4 : Int))) none).run Tryz.prog u = .ok (.slice (some ⟨w.heap.size + 1, p, none⟩) 4 (12 - p)) u := fun u => by
            have := run_sliceArr und24 (w.heap.size + 1) p p4 (by omega) (by omega) (by omega) u
            rwa [show p4 - p = 4 by omega] at this
          obtain ⟨x, hx⟩ : ∃ x, x = wordB nonce i := ⟨_, rfl⟩
          have HX : Hid (x = wordB nonce i) := hx
          have HW : Hid (Calls Tryz.prog 49 #[.slice (some ⟨w.heap.size + 1, p, none⟩) 4 (12 - p)] wr fun r w' => r = .returned (.int .u32 (x.toNat : Int)) ∧ Chg wr w') := by
            have hb := word_any (w.heap.size + 1) p (12 - p) (fun j => nonce (p + j)) wr (Z.out.non.bsAt p 4 (by omega))
            rw [HP.out.1] at hb ⊢
            rw [hx, ← wordB_at]
            exact hb
          clear hx
          go_wp2_with fail
          go_at_call 49
          refine HW.out.mono ?_
          rintro r w5 ⟨rfl, hc5⟩
          have Z5 : Hid (RkS w w5 key nonce (iniR key 8 c nonce i)) := Z.out.to hc5
          have c1 := (Z5.out.ws.cell t).trans (wa_get 16 _ (by omega))
          have k1 := Z5.out.ws.frozen t
          obtain ⟨y, hy⟩ : ∃ y, y = (iniR key 8 c nonce i) t := ⟨_, rfl⟩
          rw [← hy] at c1
          clear hy hc5 Z HW hsl
          go_wp2_with fail
          go_roundw
          case rel =>
            refine ⟨i + 1, by go_num, by omega, ?_⟩
            have hh := Z5.out.set t x
            rw [HX.out, HP.out.2.2, iniR_nonce key nonce c hlt] at hh
            rw [HX.out, HP.out.2.2]
            exact hh
          case measure => simp [intOf]; omega
        · have : i = 3 := by omega
          subst this
          rw [show ((3 : Nat) : Int) = 3 from rfl]
          obtain ⟨f1, hf1⟩ : ∃ f, f = ini key c nonce := ⟨_, rfl⟩
          have HF1 : Hid (f1 = ini key c nonce) := hf1
          have hz1 := Z.out
          have hws := hz1.ws
          rw [wa_congr (iniR_all key nonce c), ← hf1] at hws
          have Z6 : Hid (RkS w wr key nonce f1) := ⟨hz1.chg, hz1.key, hz1.non, hz1.res, hws⟩
          clear hf1 hz1 Z hws
          obtain ⟨t1, g1⟩ := Z6.out.ws
          have hsz := szW f1
          have hlen := lenW 16 zW f1
          have hone := wa_one 16 f1
          have hz := zero42.1
          go_upto_region 12 with (first | refine wpList_load_row rfl 84 _ rfl _ rfl _ _ _ _ g1 und42 rfl hsz ?_ | refine wpList_store_row rfl 84 _ _ rfl _ _ rfl rfl _ _ (heap_alloc_last wr _) hsz hlen hone ?_)
          obtain ⟨B2, hB2⟩ : ∃ B, B = wr.heap.size := ⟨_, rfl⟩
          obtain ⟨w6, hw6⟩ : ∃ w6, w6 = (wr.alloc (.cells (wa 16 zW) 84)).setRow wr.heap.size (wa 16 f1) := ⟨_, rfl⟩
          have Z7 : Hid ((RkS w w6 key nonce (rds 0 f1) ∧ Ar w6 B2 (wa 16 f1)) ∧ w.heap.size + 1 + 1 + 1 < B2) := by
            have k := Z6.out
            have e0 := k.key.lt
            have e1 := k.non.lt
            have e2 := k.res.lt
            have e3 := k.ws.lt
            rw [hw6, hB2]
            exact ⟨⟨⟨(k.chg.alloc _).setRow k.chg.size _, (k.key.alloc _).rowOther (by omega) _, (k.non.alloc _).rowOther (by omega) _, (k.res.alloc _).rowOther (by omega) _, (k.ws.alloc _).rowOther (by omega) _⟩, (Ar.new wr _ _).row _⟩, e3⟩
          rw [← hw6, ← hB2]
          clear hw6 hB2 g1 hsz hlen hone hz Z6
          dsimp only [Act.put]
          have Z7b : Hid (w.heap.size + 1 + 1 + 1 < B2) := Z7.out.2
          have Z7a : Hid (RkS w w6 key nonce (rds 0 f1) ∧ Ar w6 B2 (wa 16 f1)) := Z7.out.1
          clear Z7
          go_wp2_with fail
          go_loopw [11] (fun v wr => ∃ (i : Nat), v = .int .i64 i ∧ i ≤ 10 ∧ RkS w wr key nonce (rds i f1) ∧ Ar wr B2 (wa 16 f1)) (fun v wr => 10 - (intOf v).toNat)
          case atStart => exact ⟨0, rfl, by omega, Z7a.out⟩
          case round =>
            clear Z7a
            obtain ⟨i, rfl, hi, hz0, hzb⟩ := hrel
            by_cases hlt : i < 10
            · have hd : decide ((i : Int) < 10) = true := by simp; omega
              obtain ⟨g, hg⟩ : ∃ g, g = rds i f1 := ⟨_, rfl⟩
              rw [← hg] at hz0
              have HG : Hid (g = rds i f1) := hg
              clear hg
              have Z9 : Hid (RkS w wr key nonce (qs (0 + 0) g) ∧ Ar wr B2 (wa 16 f1)) := ⟨hz0, hzb⟩
              clear hz0 hzb
              go_wp2_with fail
              go_loopw [12] (fun v wr => ∃ (k : Nat), v = .int .i64 k ∧ k ≤ 4 ∧ RkS w wr key nonce (qs (0 + k) g) ∧ Ar wr B2 (wa 16 f1)) (fun v wr => 4 - (intOf v).toNat)
              case atStart => exact ⟨0, rfl, by omega, Z9.out⟩
              case round =>
                clear Z9
                obtain ⟨k, rfl, hk, hz0, hzb⟩ := hrel
                by_cases hk4 : k < 4
                · have hd2 : decide ((k : Int) < 4) = true := by simp; omega
                  obtain ⟨h, hh⟩ : ∃ h, h = qs (0 + k) g := ⟨_, rfl⟩
                  rw [← hh] at hz0
                  have Z : Hid (RkS w wr key nonce h ∧ Ar wr B2 (wa 16 f1)) := ⟨hz0, hzb⟩
                  have HH : Hid (h = qs (0 + k) g) := hh
                  obtain ⟨t1, g1⟩ := hz0.ws
                  clear hh hz0 hzb
                  obtain ⟨n1, hn1⟩ : ∃ n : Nat, 4 + (k : Int) = n := ⟨4 + k, by omega⟩
                  obtain ⟨n2, hn2⟩ : ∃ n : Nat, 8 + (k : Int) = n := ⟨8 + k, by omega⟩
                  obtain ⟨n3, hn3⟩ : ∃ n : Nat, 12 + (k : Int) = n := ⟨12 + k, by omega⟩
                  have v1 := wrap_i (x := (n1 : Int)) (by omega) (by omega)
                  have v2 := wrap_i (x := (n2 : Int)) (by omega) (by omega)
                  have v3 := wrap_i (x := (n3 : Int)) (by omega) (by omega)
                  have HN : Hid (n1 = 4 + k ∧ n2 = 8 + k ∧ n3 = 12 + k) := by show _ ∧ _ ∧ _; omega
                  obtain ⟨h', hh'⟩ : ∃ h', h' = qr h k n1 n2 n3 := ⟨_, rfl⟩
                  have HH' : Hid (h' = qr h k n1 n2 n3) := hh'
                  have HC : Hid (∀ u, Calls Tryz.prog 50 #[.agg (wa 16 h), .int .i64 (k : Int), .int .i64 (n1 : Int), .int .i64 (n2 : Int), .int .i64 (n3 : Int)] u fun r w' => r = .returned (.agg (wa 16 h')) ∧ Chg u w') := by
                    rw [hh']
                    exact fun u => refQuarter_any h k n1 n2 n3 u (by omega) (by omega) (by omega) (by omega)
                  clear hh'
                  have hsz := szW h
                  go_wp2_with (first | refine wpList_load_row rfl 84 _ rfl _ rfl _ _ _ _ g1 und42 rfl hsz ?_)
                  go_at_call 50
                  refine (HC.out _).mono ?_
                  rintro r w8 ⟨rfl, hc8⟩
                  have Z8 : Hid (RkS w w8 key nonce h ∧ Ar w8 B2 (wa 16 f1)) := ⟨Z.out.1.to hc8, Z.out.2.chg hc8⟩
                  obtain ⟨t2, g2⟩ := Z8.out.1.ws
                  have hsz' := szW h'
                  have hlen' := lenW 16 h h'
                  have hone' := wa_one 16 h'
                  clear hc8 g1 Z hsz HC
                  go_wp2_with (first | refine wpList_store_row rfl 84 _ _ rfl _ _ rfl rfl _ _ g2 hsz' hlen' hone' ?_)
                  go_roundw
                  case rel =>
                    have hb := Z7b.out
                    refine ⟨k + 1, by go_num, by omega, ?_, Z8.out.2.rowOther (by omega) _⟩
                    have e : qs (0 + (k + 1)) g = h' := by
                      show qk (0 + k) (qs (0 + k) g) = h'
                      rw [HH'.out, ← HH.out, qk, if_pos (by omega), Nat.zero_add, HN.out.1, HN.out.2.1, HN.out.2.2]
                    rw [e]
                    exact Z8.out.1.row h'
                  case measure => simp [intOf]; omega
                · have : k = 4 := by omega
                  subst this
                  rw [show ((4 : Nat) : Int) = 4 from rfl]
                  have Z10 : Hid (RkS w wr key nonce (qs 4 g) ∧ Ar wr B2 (wa 16 f1)) := ⟨hz0, hzb⟩
                  clear hz0 hzb
                  go_wp2_with fail
                  go_loopw [13] (fun v wr => ∃ (k : Nat), v = .int .i64 k ∧ k ≤ 4 ∧ RkS w wr key nonce (qs (4 + k) g) ∧ Ar wr B2 (wa 16 f1)) (fun v wr => 4 - (intOf v).toNat)
                  case atStart => exact ⟨0, rfl, by omega, Z10.out⟩
                  case round =>
                    clear Z10
                    obtain ⟨k, rfl, hk, hz0, hzb⟩ := hrel
                    by_cases hk4 : k < 4
                    · have hd2 : decide ((k : Int) < 4) = true := by simp; omega
                      obtain ⟨h, hh⟩ : ∃ h, h = qs (4 + k) g := ⟨_, rfl⟩
                      rw [← hh] at hz0
                      have Z : Hid (RkS w wr key nonce h ∧ Ar wr B2 (wa 16 f1)) := ⟨hz0, hzb⟩
                      have HH : Hid (h = qs (4 + k) g) := hh
                      obtain ⟨t1, g1⟩ := hz0.ws
                      clear hh hz0 hzb
                      obtain ⟨a1, m1, hm1, va1, hd1', vm1, HM1⟩ := modf k 1 hk4 (by decide)
                      replace hm1 : (k : Int) + 1 = a1 := hm1
                      obtain ⟨n1, hn1⟩ : ∃ n : Nat, 4 + (m1 : Int) = n := ⟨4 + m1, by omega⟩
                      have v1 := wrap_i (x := (n1 : Int)) (by have := HM1.out; omega) (by have := HM1.out; omega)
                      obtain ⟨a2, m2, hm2, va2, hd2', vm2, HM2⟩ := modf k 2 hk4 (by decide)
                      replace hm2 : (k : Int) + 2 = a2 := hm2
                      obtain ⟨n2, hn2⟩ : ∃ n : Nat, 8 + (m2 : Int) = n := ⟨8 + m2, by omega⟩
                      have v2 := wrap_i (x := (n2 : Int)) (by have := HM2.out; omega) (by have := HM2.out; omega)
                      obtain ⟨a3, m3, hm3, va3, hd3', vm3, HM3⟩ := modf k 3 hk4 (by decide)
                      replace hm3 : (k : Int) + 3 = a3 := hm3
                      obtain ⟨n3, hn3⟩ : ∃ n : Nat, 12 + (m3 : Int) = n := ⟨12 + m3, by omega⟩
                      have v3 := wrap_i (x := (n3 : Int)) (by have := HM3.out; omega) (by have := HM3.out; omega)
                      have HN : Hid (n1 = 4 + (k + 1) % 4 ∧ n2 = 8 + (k + 2) % 4 ∧ n3 = 12 + (k + 3) % 4) := by
                        have q1 := HM1.out
                        have q2 := HM2.out
                        have q3 := HM3.out
                        show _ ∧ _ ∧ _
                        omega
                      have lz1 : n1 < 16 := by have := HM1.out; omega
                      have lz2 : n2 < 16 := by have := HM2.out; omega
                      have lz3 : n3 < 16 := by have := HM3.out; omega
                      obtain ⟨h', hh'⟩ : ∃ h', h' = qr h k n1 n2 n3 := ⟨_, rfl⟩
                      have HH' : Hid (h' = qr h k n1 n2 n3) := hh'
                      have HC : Hid (∀ u, Calls Tryz.prog 50 #[.agg (wa 16 h), .int .i64 (k : Int), .int .i64 (n1 : Int), .int .i64 (n2 : Int), .int .i64 (n3 : Int)] u fun r w' => r = .returned (.agg (wa 16 h')) ∧ Chg u w') := by
                        rw [hh']
                        exact fun u => refQuarter_any h k n1 n2 n3 u (by omega) (by omega) (by omega) (by omega)
                      clear hh'
                      have hsz := szW h
                      go_wp2_with (first | refine wpList_load_row rfl 84 _ rfl _ rfl _ _ _ _ g1 und42 rfl hsz ?_)
                      go_at_call 50
                      refine (HC.out _).mono ?_
                      rintro r w8 ⟨rfl, hc8⟩
                      have Z8 : Hid (RkS w w8 key nonce h ∧ Ar w8 B2 (wa 16 f1)) := ⟨Z.out.1.to hc8, Z.out.2.chg hc8⟩
                      obtain ⟨t2, g2⟩ := Z8.out.1.ws
                      have hsz' := szW h'
                      have hlen' := lenW 16 h h'
                      have hone' := wa_one 16 h'
                      clear hc8 g1 Z hsz HC
                      go_wp2_with (first | refine wpList_store_row rfl 84 _ _ rfl _ _ rfl rfl _ _ g2 hsz' hlen' hone' ?_)
                      go_roundw
                      case rel =>
                        have hb := Z7b.out
                        refine ⟨k + 1, by go_num, by omega, ?_, Z8.out.2.rowOther (by omega) _⟩
                        have e : qs (4 + (k + 1)) g = h' := by
                          show qk (4 + k) (qs (4 + k) g) = h'
                          rw [HH'.out, ← HH.out, qk, if_neg (by omega), show 4 + k - 4 = k by omega, HN.out.1, HN.out.2.1, HN.out.2.2]
                        rw [e]
                        exact Z8.out.1.row h'
                      case measure => simp [intOf]; omega
                    · have : k = 4 := by omega
                      subst this
                      rw [show ((4 : Nat) : Int) = 4 from rfl]
                      have Z11 : Hid (RkS w wr key nonce (qs 8 g) ∧ Ar wr B2 (wa 16 f1)) := ⟨hz0, hzb⟩
                      clear hz0 hzb
                      go_wp2_with fail
                      go_roundw
                      case rel =>
                        refine ⟨i + 1, by go_num, by omega, ?_⟩
                        have e : rds (i + 1) f1 = qs 8 g := by rw [HG.out]; rfl
                        rw [e]
                        exact Z11.out
                      case measure => simp [intOf]; omega
            · have : i = 10 := by omega
              subst this
              rw [show ((10 : Nat) : Int) = 10 from rfl]
              obtain ⟨f2, hf2⟩ : ∃ f, f = rds 10 f1 := ⟨_, rfl⟩
              rw [← hf2] at hz0
              have HF2 : Hid (f2 = rds 10 f1) := hf2
              have Z12 : Hid (RkS w wr key nonce f2 ∧ Ar wr B2 (wa 16 f1)) := ⟨hz0, hzb⟩
              clear hz0 hzb hf2
              go_wp2_with fail
              obtain ⟨G, hG⟩ : ∃ G, G = wr.heap.size := ⟨_, rfl⟩
              obtain ⟨w9, hw9⟩ : ∃ w9, w9 = wr.alloc (.cells (ba 64 zB) 60) := ⟨_, rfl⟩
              obtain ⟨F, hF⟩ : ∃ F, F = blk key c nonce := ⟨_, rfl⟩
              have HFF : Hid (F = blk key c nonce) := hF
              have Z13 : Hid (BkS w w9 (w.heap.size + 1 + 1 + 1) B2 G f2 f1 (upTo 0 F zB)) := by
                obtain ⟨k0, k1⟩ := Z12.out
                have e := k1.lt
                rw [hw9, hG, upTo_zero]
                exact ⟨k0.chg.alloc _, k0.res.alloc _, k0.ws.alloc _, k1.alloc _, Ar.new wr _ _, by omega, Z7b.out, e⟩
              rw [← hw9, ← hG]
              clear hw9 hG hF Z12 hz2
              go_loopw [15] (fun v wr => ∃ (i : Nat), v = .int .i64 i ∧ i ≤ 64 ∧ BkS w wr (w.heap.size + 1 + 1 + 1) B2 G f2 f1 (upTo i F zB)) (fun v wr => 64 - (intOf v).toNat)
              case atStart => exact ⟨0, rfl, by omega, Z13.out⟩
              case round =>
                clear Z13
                obtain ⟨i, rfl, hi, hz0⟩ := hrel
                have Z : Hid (BkS w wr (w.heap.size + 1 + 1 + 1) B2 G f2 f1 (upTo i F zB)) := hz0
                by_cases hlt : i < 64
                · have hd : decide ((i : Int) < 64) = true := by simp; omega
                  have li : (i : Int) < 64 := by omega
                  obtain ⟨q, r, s, e1, e2, e3, v1, v2, v3, l1, l2, l3, HQ⟩ := dm4 i hlt
                  have lq : q < 16 := by omega
                  have c1 := (hz0.w1.cell q).trans (wa_get 16 _ lq)
                  have c2 := (hz0.w2.cell q).trans (wa_get 16 _ lq)
                  have c3 := (hz0.out.cell i).trans (ba_get 64 _ hlt)
                  have k3 := hz0.out.frozen i
                  obtain ⟨x1, hx1⟩ : ∃ x, x = f2 q := ⟨_, rfl⟩
                  obtain ⟨x2, hx2⟩ : ∃ x, x = f1 q := ⟨_, rfl⟩
                  obtain ⟨x3, hx3⟩ : ∃ x, x = upTo i F zB i := ⟨_, rfl⟩
                  rw [← hx1] at c1
                  rw [← hx2] at c2
                  rw [← hx3] at c3
                  obtain ⟨y, Hy, ey⟩ := nmAdd x1 x2
                  obtain ⟨z, Hz, ez⟩ := nmByte y s
                  have HZ : Hid (z = F i) := by
                    show z = _
                    rw [Hz.out, Hy.out, hx1, hx2, HFF.out, blk, HQ.out.1, HQ.out.2.2, HF2.out, HF1.out, BitVec.add_comm]
                  clear hx1 hx2 hx3 hz0 Hy Hz lq
                  go_wp2_with fail
                  go_quiet (fail)
                  all_goals go_wp2
                  all_goals
                    go_roundw
                    case rel =>
                      refine ⟨i + 1, by go_num, by omega, ?_⟩
                      have hh := (Z.out.drewN nq).set i z
                      rw [HZ.out, upTo_upd i F zB, ← HZ.out] at hh
                      exact hh
                    case measure => simp [intOf]; omega
                · have : i = 64 := by omega
                  subst this
                  have ho := hz0.out
                  rw [upTo_all] at ho
                  have HO : Hid (Chg w wr ∧ Ar wr (w.heap.size + 1 + 1) (ba 64 zB)) := ⟨hz0.chg, hz0.res⟩
                  clear hz0 Z
                  obtain ⟨t1, g1⟩ := ho
                  obtain ⟨t3, g3⟩ := HO.out.2
                  have hsz := szB F i28
                  have hlen := lenB 64 zB F
                  have hone := ba_one 64 F
                  go_wp2_with (first | refine wpList_load_row rfl 60 _ rfl _ rfl _ _ _ _ g1 und28 rfl hsz ?_ | refine wpList_store_row rfl 60 _ _ rfl _ _ rfl rfl _ _ g3 hsz hlen hone ?_)
                  refine bp_c (n := 64) (c := ba 64 F) Tryz.results32 rfl rfl ?_ und28 i28 (ba_size _ _) ⟨by rw [HFF.out], ?_⟩
                  · exact HO.out.2.row _
                  · exact HO.out.1.setRow (by omega) _
end Go.Proofs.YtobglgddbhddnaaGreat.Cha

namespace Go.Proofs.YtobglgddbhddnaaGreat.Cha
open Go.RowKit
set_option linter.unusedVariables false

theorem step_app {ops : Array Oper} {o : Oper} {a : Act} {w : World} {K : Act → World → Prop} {Q : Exit → Act → World → Prop} {E : Prop}
    (hg : o.guard = none) (s x : Operand) (hop : o.op = Op.call { callee := Callee.builtin Builtin.append, args := #[s, x], argTypes := #[24, 24] })
    (v sv : Value) (xs ys : List Int) (hs : a.eval s = v) (hx : a.eval x = sv) (hv : Ap.OwnV w v xs) (hr : Ap.Rd w sv ys) (hb : xs.length + ys.length ≤ 140737488355328)
    (hK : ∀ v' w', Ap.OwnV w' v' (xs ++ ys) → Ap.Chg (fun k => v.ownBlock = some k) w w' → (v'.ownBlock = v.ownBlock ∨ v'.ownBlock = some w.heap.size) → K (a.put o.dst v') w') :
    if Region.wanted o (yielded ops a.tmps) = true then Oper.wp Tryz.prog o a w K Q else E := by
  have hw : Region.wanted o (yielded ops a.tmps) = true := by simp [Region.wanted, hg]
  rw [if_pos hw]
  obtain ⟨v', w', hrun, r1, r2, r3⟩ := Ap.run_app o.type w v sv xs ys hv hr hb
  unfold Oper.wp
  simp [execOp, hop, resolve, invoke, builtin, hs, hx, hrun, Result.andThen]
  exact hK v' w' r1 r2 r3

/-- What stands while the document streams. -/
structure RS (w wr : World) (key nonce : Nat → By) (c : Wd) (txt : Nat → By) (v : Value) (i : Nat) : Prop where
  own : OwnN w wr v (nums i (stF key c nonce txt))
  ky : Ar wr w.heap.size (ba 32 key)
  non : Ar wr (w.heap.size + 1) (ba 12 nonce)
  x : ∃ X, Ar wr (w.heap.size + 1 + 1) (ba 64 X) ∧ (i % 64 ≠ 0 → X = blk key (c + BitVec.ofNat 32 (i / 64)) nonce)
  ne : ∀ b, v.ownBlock = some b → w.heap.size + 1 + 1 < b

set_option maxRecDepth 100000 in
set_option maxHeartbeats 8000000 in
theorem refStream_any (n cap : Nat) (key nonce txt : Nat → By) (c : Wd) (ao : Option Addr) (w : World) (hv : Ap.Rd w (.slice ao n cap) (nums n txt)) (hn' : n ≤ 140737488351232) :
    Calls Tryz.prog 21 #[.agg (ba 32 key), .int .u32 (c.toNat : Int), .agg (ba 12 nonce), .slice ao n cap] w fun r w' => ∃ v, r = .returned v ∧ OwnN w w' v (nums n (stF key c nonce txt)) := by
  obtain ⟨A, hA⟩ : ∃ A, A = ba 32 key := ⟨_, rfl⟩
  obtain ⟨D, hD⟩ : ∃ D, D = ba 12 nonce := ⟨_, rfl⟩
  have hsA : A.size = 32 := by rw [hA]; exact ba_size _ _
  have hsD : D.size = 12 := by rw [hD]; exact ba_size _ _
  have HSA : Hid ((Tryz.prog.info? 40).map (·.size) = some A.size ∧ (Tryz.prog.info? 25).map (·.size) = some D.size) := ⟨by rw [hA]; exact szB key i22, by rw [hD]; exact szB nonce i24⟩
  have HAD : Hid (A = ba 32 key ∧ D = ba 12 nonce) := ⟨hA, hD⟩
  rw [← hA, ← hD]
  clear hA hD
  have HX : Hid (Ap.Rd w (.slice ao n cap) (nums n txt)) := hv
  clear hv
  have hz := zero28.1
  go_enter Tryz.func21, Tryz.ntmps21
  go_upto_region 3 with fail
  obtain ⟨w3, hw3⟩ : ∃ w3, w3 = ((w.alloc (.cells A 40)).alloc (.cells D 25)).alloc (.cells (ba 64 zB) 60) := ⟨_, rfl⟩
  have Z3 : Hid (RS w w3 key nonce c txt (.slice none 0 0) 0) := by
    rw [hw3, HAD.out.1, HAD.out.2]
    exact ⟨⟨.inl ⟨rfl, rfl⟩, fun b h => (by simp [Value.ownBlock] at h), (((Chg.refl w).alloc _).alloc _).alloc _⟩, ((Ar.new w _ _).alloc _).alloc _, (Ar.new1 w _ _ _).alloc _, ⟨zB, Ar.new2 w _ _ _ _, fun h => absurd rfl h⟩, fun b h => (by simp [Value.ownBlock] at h)⟩
  rw [← hw3]
  clear hw3 hz hsA hsD
  go_wp2_with fail
  go_loopw [1, 9, 11] (fun v1 v9 v11 wr => ∃ (i : Nat), v11 = .int .i64 i ∧ i ≤ n ∧ v1 = .int .u32 ((c + BitVec.ofNat 32 ((i + 63) / 64)).toNat : Int) ∧ RS w wr key nonce c txt v9 i) (fun v1 v9 v11 wr => n - (intOf v11).toNat)
  case atStart =>
    refine ⟨0, rfl, by omega, ?_, Z3.out⟩
    simp
  case round =>
    clear Z3
    obtain ⟨i, rfl, hi, rfl, hz2⟩ := hrel
    obtain ⟨vo, vm, vc, rfl, -⟩ := hz2.own.own.rd.shape
    have Z : Hid (RS w wr key nonce c txt (.slice vo vm vc) i) := hz2
    clear hz2
    obtain ⟨q, hq⟩ : ∃ q, q = c + BitVec.ofNat 32 ((i + 63) / 64) := ⟨_, rfl⟩
    rw [← hq]
    have HQ : Hid (q = c + BitVec.ofNat 32 ((i + 63) / 64)) := hq
    clear hq
    by_cases hlt : i < n
    · have hd : decide ((i : Int) < n) = true := by simp; omega
      have li : (i : Int) < n := by omega
      obtain ⟨r, hr⟩ : ∃ r : Nat, (i : Int).tmod 64 = r := ⟨i % 64, by rw [Int.tmod_eq_emod_of_nonneg (by omega)]; omega⟩
      have wr' := wrap_i (x := (r : Int)) (by rw [← hr, Int.tmod_eq_emod_of_nonneg (by omega)]; omega) (by rw [← hr, Int.tmod_eq_emod_of_nonneg (by omega)]; omega)
      have lr : (r : Int) < 64 := by rw [← hr, Int.tmod_eq_emod_of_nonneg (by omega)]; omega
      have HRi : Hid (r = i % 64) := by
        rw [Int.tmod_eq_emod_of_nonneg (by omega)] at hr
        show r = _
        omega
      obtain ⟨tb, tt, tc, hv, -, -, hbs⟩ := Rd.bs HX.out (by omega)
      injection hv with hv1 hv2 hv3
      subst hv1 hv3
      have HBS : Hid (Bs w tb tt n txt) := hbs
      clear hbs hv2
      obtain ⟨bb, hbb⟩ : ∃ bb : Bool, ((r : Int) == 0) = bb := ⟨_, rfl⟩
      have HBB : Hid (bb = true ↔ r = 0) := by
        show _ ↔ _
        rw [← hbb]
        simp
      go_upto_if 20 with fail
      go_cut [1] from 21 to 26 (fun v1 wc => v1 = .int .u32 ((c + BitVec.ofNat 32 ((i + 1 + 63) / 64)).toNat : Int) ∧ OwnN w wc (.slice vo vm vc) (nums i (stF key c nonce txt)) ∧ Ar wc w.heap.size (ba 32 key) ∧ Ar wc (w.heap.size + 1) (ba 12 nonce) ∧ Ar wc (w.heap.size + 1 + 1) (ba 64 (blk key (c + BitVec.ofNat 32 (i / 64)) nonce)))
      case first =>
        cases bb with
        | true =>
          have HR0 : Hid (r = 0) := HBB.out.1 rfl
          obtain ⟨X0, hX0, -⟩ := Z.out.x
          obtain ⟨X, hX⟩ : ∃ X, X = blk key q nonce := ⟨_, rfl⟩
          have HXe : Hid (X = blk key (c + BitVec.ofNat 32 (i / 64)) nonce) := by
            have h1 := HRi.out
            have h0 := HR0.out
            show X = _
            rw [hX, HQ.out, show (i + 63) / 64 = i / 64 by omega]
          have HE : Hid (Calls Tryz.prog 32 #[.agg A, .int .u32 (q.toNat : Int), .agg D] wr fun r w' => r = .returned (.agg (ba 64 X)) ∧ Chg wr w') := by
            rw [hX, HAD.out.1, HAD.out.2]
            exact refBlock_any key nonce q wr
          obtain ⟨tA, gA⟩ := Z.out.ky
          obtain ⟨tD, gD⟩ := Z.out.non
          rw [← HAD.out.1] at gA
          rw [← HAD.out.2] at gD
          have sX := szB X i28
          have lX := lenB 64 X0 X
          have oX := ba_one 64 X
          have HX0 : Hid (Ar wr (w.heap.size + 1 + 1) (ba 64 X0)) := hX0
          obtain ⟨q2, Hq2, eq2⟩ := nmInc q
          clear hX hX0
          go_wp2_with (first | refine wpList_load_row rfl 40 _ rfl _ rfl _ _ _ _ gA und22 rfl HSA.out.1 ?_ | refine wpList_load_row rfl 25 _ rfl _ rfl _ _ _ _ gD und24 rfl HSA.out.2 ?_)
          go_at_call 32
          refine HE.out.mono ?_
          rintro r5 u5 ⟨rfl, hc5⟩
          have U5 : Hid (OwnN w u5 (.slice vo vm vc) (nums i (stF key c nonce txt)) ∧ Ar u5 w.heap.size (ba 32 key) ∧ Ar u5 (w.heap.size + 1) (ba 12 nonce) ∧ Ar u5 (w.heap.size + 1 + 1) (ba 64 X0)) :=
            ⟨⟨OwnV.chg Z.out.own.own hc5, Z.out.own.new, Z.out.own.chg.trans hc5⟩, Z.out.ky.chg hc5, Z.out.non.chg hc5, HX0.out.chg hc5⟩
          obtain ⟨t5, G5⟩ := U5.out.2.2.2
          clear hc5 gA gD HE
          go_wp2_with (first | refine wpList_store_row rfl 60 _ _ rfl _ _ rfl rfl _ _ G5 sX lX oX ?_)
          go_meet
          obtain ⟨k1, k2, k3, k4⟩ := U5.out
          have h4 := Z.out.ne
          refine ⟨?_, ⟨k1.own.keep (fun b e => setRow_other _ _ _ _ (by have := h4 b e; omega)), k1.new, k1.chg.setRow (by omega) _⟩, k2.rowOther (by omega) _, k3.rowOther (by omega) _, ?_⟩
          · have h1 := HRi.out
            have h0 := HR0.out
            rw [Hq2.out, HQ.out, cnt_succ, show (i + 1 + 63) / 64 = (i + 63) / 64 + 1 by omega]
          · rw [← HXe.out]
            exact k4.row _
        | false =>
          have hr0 : ¬ r = 0 := fun h => by cases HBB.out.2 h
          go_wp2_with fail
          go_meet
          have h1 := HRi.out
          obtain ⟨X0, hX0, hE⟩ := Z.out.x
          refine ⟨?_, Z.out.own, Z.out.ky, Z.out.non, ?_⟩
          · rw [HQ.out, show (i + 1 + 63) / 64 = (i + 63) / 64 by omega]
          · rw [← hE (by omega)]
            exact hX0
      case rest =>
        obtain ⟨hv7, ho, hk, hnn, hX⟩ := hcut
        obtain ⟨q3, hq3⟩ : ∃ q3, q3 = c + BitVec.ofNat 32 ((i + 1 + 63) / 64) := ⟨_, rfl⟩
        rw [← hq3] at hv7
        have HQ3 : Hid (q3 = c + BitVec.ofNat 32 ((i + 1 + 63) / 64)) := hq3
        rw [hv7]
        clear hq3
        obtain ⟨X, hXX⟩ : ∃ X, X = blk key (c + BitVec.ofNat 32 (i / 64)) nonce := ⟨_, rfl⟩
        rw [← hXX] at hX
        have c1 := (HBS.out.chg ho.chg) i hlt
        have hr16 : r < 64 := by omega
        have c2 := (hX.cell r).trans (ba_get 64 X hr16)
        obtain ⟨x1, hx1⟩ : ∃ x, x = txt i := ⟨_, rfl⟩
        obtain ⟨x2, hx2⟩ : ∃ x, x = X r := ⟨_, rfl⟩
        rw [← hx1] at c1
        rw [← hx2] at c2
        obtain ⟨y, Hy, ey⟩ := nameXor x1 x2
        have HY : Hid (y = stF key c nonce txt i) := by
          have h1 := HRi.out
          show y = _
          rw [Hy.out, hx1, hx2, h1, stF, hXX]
        have Z5 : Hid (OwnN w wc.drew (.slice vo vm vc) (nums i (stF key c nonce txt)) ∧ Ar wc w.heap.size (ba 32 key) ∧ Ar wc (w.heap.size + 1) (ba 12 nonce) ∧ Ar wc (w.heap.size + 1 + 1) (ba 64 X) ∧ X = blk key (c + BitVec.ofNat 32 (i / 64)) nonce) := ⟨⟨ho.own.keep (fun _ _ => rfl), ho.new, ho.chg.drew⟩, hk, hnn, hX, hXX⟩
        have hl : (nums i (stF key c nonce txt)).length + [(y.toNat : Int)].length ≤ 140737488355328 := by rw [nums_len]; simp; omega
        clear hx1 hx2 Hy ho hk hnn hX hXX hv7
        go_wp2_with fail
        go_region_law (refine step_app rfl (.tmp 27) (.tmp 37) rfl (.slice vo vm vc) (.slice (some ⟨wc.drew.heap.size, 0, none⟩) 1 1) (nums i (stF key c nonce txt)) [(y.toNat : Int)] rfl rfl (Z5.out.1.alloc _).own (Ap.Rd.one wc.drew (y.toNat : Int)) hl ?_; intro v2 w7 o2 k2 b2)
        all_goals
          obtain ⟨ao2, m2, cc2, rfl, -⟩ := o2.rd.shape
          have Z7 : Hid (RS w w7 key nonce c txt (.slice ao2 m2 cc2) (i + 1)) := by
            obtain ⟨n1, n2, n3, n4, n5⟩ := Z5.out
            have hne := Z.out.ne
            have k3 := (n1.alloc (.cells #[.int .u8 (y.toNat : Int)] 5)).more o2 k2 b2
            have e0 : w.heap.size + 1 + 1 < wc.heap.size := n4.lt
            refine ⟨?_, (n2.drew.alloc _).ap k2 (fun e => by have := hne _ e; omega), (n3.drew.alloc _).ap k2 (fun e => by have := hne _ e; omega), ⟨X, (n4.drew.alloc _).ap k2 (fun e => by have := hne _ e; omega), fun h => ?_⟩, fun b e => ?_⟩
            · rw [nums_succ, ← HY.out]
              exact k3
            · rw [show (i + 1) / 64 = i / 64 by omega]
              exact n5
            · rcases b2 with h | h
              · rw [h] at e
                exact hne b e
              · rw [h] at e
                injection e with e
                rw [← e]
                have e3 : (wc.alloc (.cells #[.int .u8 (y.toNat : Int)] 5)).heap.size = wc.heap.size + 1 := World.size_alloc _ _
                show w.heap.size + 1 + 1 < (wc.alloc (.cells #[.int .u8 (y.toNat : Int)] 5)).heap.size
                omega
          clear o2 k2 b2 c1 c2
          go_wp2
          go_roundw
          case rel => exact ⟨i + 1, by go_num, by omega, by rw [HQ3.out], Z7.out⟩
          case measure => simp [intOf]; omega
    · have hd : decide ((i : Int) < n) = false := by simp; omega
      have hin : i = n := by omega
      go_wp2
      go_ret
      refine ⟨_, rfl, ?_⟩
      rw [← hin]
      exact Z.out.own
end Go.Proofs.YtobglgddbhddnaaGreat.Cha
