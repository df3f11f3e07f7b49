/-
  The document's Block, walked.
-/
import Derived.Test.YtkdidacebfkdmaaRBk
namespace Go.Proofs.Ytkdidacebfkdmaa
open Go.RowKit
set_option linter.unusedVariables false

set_option maxRecDepth 100000 in
set_option maxHeartbeats 4000000 in
theorem refBlock_any (key nonce : Nat → By) (c : Wd) (w : World) : Calls Try.prog 12 #[.agg (ba 32 key), .int .u32 (c.toNat : Int), .agg (ba 12 nonce)] w fun r w' => r = .returned (.agg (ba 64 (blk key c nonce))) ∧ Chg w w' := by
  have hsA := ba_size 32 key
  have hsB := ba_size 12 nonce
  obtain ⟨A, hA⟩ : ∃ A, A = ba 32 key := ⟨_, rfl⟩
  obtain ⟨D, hD⟩ : ∃ D, D = ba 12 nonce := ⟨_, rfl⟩
  have HAD : Hid (A = ba 32 key ∧ D = ba 12 nonce) := ⟨hA, hD⟩
  rw [← hA] at hsA ⊢
  rw [← hD] at hsB ⊢
  clear hA hD
  have hz := zero42.1
  have hz2 := zero28.1
  have hws := wa_size 16 zW
  obtain ⟨C, hC⟩ : ∃ C, C = wa 16 con := ⟨_, rfl⟩
  have hcon := con_cells
  rw [← hC] at hcon
  have HC : Hid (C = wa 16 con) := hC
  have HS : Hid ((Try.prog.info? 42).map (·.size) = some C.size ∧ (wa 16 zW).size = C.size ∧ C.all (·.oneCell') = true) := by
    rw [hC]
    exact ⟨szW con, lenW 16 zW con, wa_one 16 con⟩
  clear hC
  go_enter Try.func12, Try.ntmps12
  go_upto_region 2 with (first | refine wpList_store_row rfl 42 _ _ rfl _ _ rfl rfl _ _ (heap_new3 w (.cells A 22) (.cells D 24) (.cells (ba 64 zB) 28) (wa 16 zW) 42) HS.out.1 HS.out.2.1 HS.out.2.2 ?_)
  obtain ⟨w4, hw4⟩ : ∃ w4, w4 = ((((w.alloc (.cells A 22)).alloc (.cells D 24)).alloc (.cells (ba 64 zB) 28)).alloc (.cells (wa 16 zW) 42)).setRow (w.heap.size + 1 + 1 + 1) C := ⟨_, rfl⟩
  have Z4 : Hid (RkS w w4 key nonce (iniR key 0 0#32 nonce 0)) := by
    rw [hw4, HAD.out.1, HAD.out.2, HC.out, wa_congr (iniR_start key nonce)]
    refine ⟨((((((Chg.refl w).alloc _).alloc _).alloc _).alloc _)).setRow (by omega) _, ((((Ar.new w _ _).alloc _).alloc _).alloc _).rowOther (by omega) _, (((Ar.new1 w _ _ _).alloc _).alloc _).rowOther (by omega) _, ((Ar.new2 w _ _ _ _).alloc _).rowOther (by omega) _, ?_⟩
    exact Ar.row ⟨42, heap_new3 w _ _ _ _ 42⟩ _
  rw [← hw4]
  clear hw4 hz hws hcon HC HS hsA hsB
  dsimp only [Act.put]
  go_wp2_with fail
  go_loopw [8] (fun v wr => ∃ (i : Nat), v = .int .i64 i ∧ i ≤ 8 ∧ RkS w wr key nonce (iniR key i 0#32 nonce 0)) (fun v wr => 8 - (intOf v).toNat)
  case atStart => exact ⟨0, rfl, by omega, Z4.out⟩
  case round =>
    clear Z4
    obtain ⟨i, rfl, hi, hz0⟩ := hrel
    have Z : Hid (RkS w wr key nonce (iniR key i 0#32 nonce 0)) := hz0
    clear hz0
    by_cases hlt : i < 8
    · have hd : decide ((i : Int) < 8) = true := by simp; omega
      obtain ⟨p, hp⟩ : ∃ p : Nat, 4 * (i : Int) = p := ⟨4 * i, by omega⟩
      obtain ⟨p4, hp4⟩ : ∃ p4 : Nat, (p : Int) + 4 = p4 := ⟨p + 4, by omega⟩
      obtain ⟨t, ht⟩ : ∃ t : Nat, 4 + (i : Int) = t := ⟨4 + i, by omega⟩
      have wp := wrap_i (x := (p : Int)) (by omega) (by omega)
      have wp4 := wrap_i (x := (p4 : Int)) (by omega) (by omega)
      have wt := wrap_i (x := (t : Int)) (by omega) (by omega)
      have l4 : (t : Int) < 16 := by omega
      have HP : Hid (p = 4 * i ∧ p4 = 4 * i + 4 ∧ t = 4 + i) := by show _ ∧ _ ∧ _; omega
      have hsl : ∀ u, (Instr.sliceAt 22 (.pointer (some ⟨w.heap.size, 0, none⟩)) (some (.int .i64 (p : Int))) (some (.int .i64 (p4 : Int))) none).run Try.prog u = .ok (.slice (some ⟨w.heap.size, p, none⟩) 4 (32 - p)) u := fun u => by
        have := run_sliceArr und22 w.heap.size p p4 (by omega) (by omega) (by omega) u
        rwa [show p4 - p = 4 by omega] at this
      obtain ⟨x, hx⟩ : ∃ x, x = wordB key i := ⟨_, rfl⟩
      have HX : Hid (x = wordB key i) := hx
      have HW : Hid (Calls Try.prog 21 #[.slice (some ⟨w.heap.size, p, none⟩) 4 (32 - p)] wr fun r w' => r = .returned (.int .u32 (x.toNat : Int)) ∧ Chg wr w') := by
        have hb := word_any w.heap.size p (32 - p) (fun j => key (p + j)) wr (Z.out.key.bsAt p 4 (by omega))
        rw [HP.out.1] at hb ⊢
        rw [hx, ← wordB_at]
        exact hb
      clear hx
      go_wp2_with fail
      go_at_call 21
      refine HW.out.mono ?_
      rintro r w5 ⟨rfl, hc5⟩
      have Z5 : Hid (RkS w w5 key nonce (iniR key i 0#32 nonce 0)) := Z.out.to hc5
      have c1 := (Z5.out.ws.cell t).trans (wa_get 16 _ (by omega))
      have k1 := Z5.out.ws.frozen t
      obtain ⟨y, hy⟩ : ∃ y, y = (iniR key i 0#32 nonce 0) t := ⟨_, rfl⟩
      rw [← hy] at c1
      clear hy hc5 Z HW hsl
      go_wp2_with fail
      go_roundw
      case rel =>
        refine ⟨i + 1, by go_num, by omega, ?_⟩
        have hh := Z5.out.set t x
        rw [HX.out, HP.out.2.2, iniR_key key nonce 0#32 hlt] at hh
        rw [HX.out, HP.out.2.2]
        exact hh
      case measure => simp [intOf]; omega
    · have : i = 8 := by omega
      subst this
      rw [show ((8 : Nat) : Int) = 8 from rfl]
      have c1 := (Z.out.ws.cell 12).trans (wa_get 16 _ (by decide))
      have k1 := Z.out.ws.frozen 12
      obtain ⟨x, hx⟩ : ∃ x, x = iniR key 8 0#32 nonce 0 12 := ⟨_, rfl⟩
      rw [← hx] at c1
      clear hx
      go_upto_region 7 with fail
      obtain ⟨w5, hw5⟩ : ∃ w5, w5 = wr.setCell ⟨w.heap.size + 1 + 1 + 1, 12, none⟩ (.int .u32 (c.toNat : Int)) := ⟨_, rfl⟩
      have Z5 : Hid (RkS w w5 key nonce (iniR key 8 c nonce 0)) := by
        rw [hw5, ← iniR_count key nonce c]
        exact Z.out.set 12 c
      rw [← hw5]
      clear hw5 c1 k1 Z
      go_wp2_with fail
      go_loopw [9] (fun v wr => ∃ (i : Nat), v = .int .i64 i ∧ i ≤ 3 ∧ RkS w wr key nonce (iniR key 8 c nonce i)) (fun v wr => 3 - (intOf v).toNat)
      case atStart => exact ⟨0, rfl, by omega, Z5.out⟩
      case round =>
        clear Z5
        obtain ⟨i, rfl, hi, hz0⟩ := hrel
        have Z : Hid (RkS w wr key nonce (iniR key 8 c nonce i)) := hz0
        clear hz0
        by_cases hlt : i < 3
        · have hd : decide ((i : Int) < 3) = true := by simp; omega
          obtain ⟨p, hp⟩ : ∃ p : Nat, 4 * (i : Int) = p := ⟨4 * i, by omega⟩
          obtain ⟨p4, hp4⟩ : ∃ p4 : Nat, (p : Int) + 4 = p4 := ⟨p + 4, by omega⟩
          obtain ⟨t, ht⟩ : ∃ t : Nat, 13 + (i : Int) = t := ⟨13 + i, by omega⟩
          have wp := wrap_i (x := (p : Int)) (by omega) (by omega)
          have wp4 := wrap_i (x := (p4 : Int)) (by omega) (by omega)
          have wt := wrap_i (x := (t : Int)) (by omega) (by omega)
          have l4 : (t : Int) < 16 := by omega
          have HP : Hid (p = 4 * i ∧ p4 = 4 * i + 4 ∧ t = 13 + i) := by show _ ∧ _ ∧ _; omega
          have hsl : ∀ u, (Instr.sliceAt 24 (.pointer (some ⟨w.heap.size + 1, 0, none⟩)) (some (.int .i64 (p : Int))) (some (.int .i64 (p4 : Int))) none).run Try.prog u = .ok (.slice (some ⟨w.heap.size + 1, p, none⟩) 4 (12 - p)) u := fun u => by
            have := run_sliceArr und24 (w.heap.size + 1) p p4 (by omega) (by omega) (by omega) u
            rwa [show p4 - p = 4 by omega] at this
          obtain ⟨x, hx⟩ : ∃ x, x = wordB nonce i := ⟨_, rfl⟩
          have HX : Hid (x = wordB nonce i) := hx
          have HW : Hid (Calls Try.prog 21 #[.slice (some ⟨w.heap.size + 1, p, none⟩) 4 (12 - p)] wr fun r w' => r = .returned (.int .u32 (x.toNat : Int)) ∧ Chg wr w') := by
            have hb := word_any (w.heap.size + 1) p (12 - p) (fun j => nonce (p + j)) wr (Z.out.non.bsAt p 4 (by omega))
            rw [HP.out.1] at hb ⊢
            rw [hx, ← wordB_at]
            exact hb
          clear hx
          go_wp2_with fail
          go_at_call 21
          refine HW.out.mono ?_
          rintro r w5 ⟨rfl, hc5⟩
          have Z5 : Hid (RkS w w5 key nonce (iniR key 8 c nonce i)) := Z.out.to hc5
          have c1 := (Z5.out.ws.cell t).trans (wa_get 16 _ (by omega))
          have k1 := Z5.out.ws.frozen t
          obtain ⟨y, hy⟩ : ∃ y, y = (iniR key 8 c nonce i) t := ⟨_, rfl⟩
          rw [← hy] at c1
          clear hy hc5 Z HW hsl
          go_wp2_with fail
          go_roundw
          case rel =>
            refine ⟨i + 1, by go_num, by omega, ?_⟩
            have hh := Z5.out.set t x
            rw [HX.out, HP.out.2.2, iniR_nonce key nonce c hlt] at hh
            rw [HX.out, HP.out.2.2]
            exact hh
          case measure => simp [intOf]; omega
        · have : i = 3 := by omega
          subst this
          rw [show ((3 : Nat) : Int) = 3 from rfl]
          obtain ⟨f1, hf1⟩ : ∃ f, f = ini key c nonce := ⟨_, rfl⟩
          have HF1 : Hid (f1 = ini key c nonce) := hf1
          have hz1 := Z.out
          have hws := hz1.ws
          rw [wa_congr (iniR_all key nonce c), ← hf1] at hws
          have Z6 : Hid (RkS w wr key nonce f1) := ⟨hz1.chg, hz1.key, hz1.non, hz1.res, hws⟩
          clear hf1 hz1 Z hws
          obtain ⟨t1, g1⟩ := Z6.out.ws
          have hsz := szW f1
          have hlen := lenW 16 zW f1
          have hone := wa_one 16 f1
          have hz := zero42.1
          go_upto_region 12 with (first | refine wpList_load_row rfl 42 _ rfl _ rfl _ _ _ _ g1 und42 rfl hsz ?_ | refine wpList_store_row rfl 42 _ _ rfl _ _ rfl rfl _ _ (heap_alloc_last wr _) hsz hlen hone ?_)
          obtain ⟨B2, hB2⟩ : ∃ B, B = wr.heap.size := ⟨_, rfl⟩
          obtain ⟨w6, hw6⟩ : ∃ w6, w6 = (wr.alloc (.cells (wa 16 zW) 42)).setRow wr.heap.size (wa 16 f1) := ⟨_, rfl⟩
          have Z7 : Hid ((RkS w w6 key nonce (rds 0 f1) ∧ Ar w6 B2 (wa 16 f1)) ∧ w.heap.size + 1 + 1 + 1 < B2) := by
            have k := Z6.out
            have e0 := k.key.lt
            have e1 := k.non.lt
            have e2 := k.res.lt
            have e3 := k.ws.lt
            rw [hw6, hB2]
            exact ⟨⟨⟨(k.chg.alloc _).setRow k.chg.size _, (k.key.alloc _).rowOther (by omega) _, (k.non.alloc _).rowOther (by omega) _, (k.res.alloc _).rowOther (by omega) _, (k.ws.alloc _).rowOther (by omega) _⟩, (Ar.new wr _ _).row _⟩, e3⟩
          rw [← hw6, ← hB2]
          clear hw6 hB2 g1 hsz hlen hone hz Z6
          dsimp only [Act.put]
          have Z7b : Hid (w.heap.size + 1 + 1 + 1 < B2) := Z7.out.2
          have Z7a : Hid (RkS w w6 key nonce (rds 0 f1) ∧ Ar w6 B2 (wa 16 f1)) := Z7.out.1
          clear Z7
          go_wp2_with fail
          go_loopw [11] (fun v wr => ∃ (i : Nat), v = .int .i64 i ∧ i ≤ 10 ∧ RkS w wr key nonce (rds i f1) ∧ Ar wr B2 (wa 16 f1)) (fun v wr => 10 - (intOf v).toNat)
          case atStart => exact ⟨0, rfl, by omega, Z7a.out⟩
          case round =>
            clear Z7a
            obtain ⟨i, rfl, hi, hz0, hzb⟩ := hrel
            by_cases hlt : i < 10
            · have hd : decide ((i : Int) < 10) = true := by simp; omega
              obtain ⟨g, hg⟩ : ∃ g, g = rds i f1 := ⟨_, rfl⟩
              rw [← hg] at hz0
              have HG : Hid (g = rds i f1) := hg
              clear hg
              have Z9 : Hid (RkS w wr key nonce (qs (0 + 0) g) ∧ Ar wr B2 (wa 16 f1)) := ⟨hz0, hzb⟩
              clear hz0 hzb
              go_wp2_with fail
              go_loopw [12] (fun v wr => ∃ (k : Nat), v = .int .i64 k ∧ k ≤ 4 ∧ RkS w wr key nonce (qs (0 + k) g) ∧ Ar wr B2 (wa 16 f1)) (fun v wr => 4 - (intOf v).toNat)
              case atStart => exact ⟨0, rfl, by omega, Z9.out⟩
              case round =>
                clear Z9
                obtain ⟨k, rfl, hk, hz0, hzb⟩ := hrel
                by_cases hk4 : k < 4
                · have hd2 : decide ((k : Int) < 4) = true := by simp; omega
                  obtain ⟨h, hh⟩ : ∃ h, h = qs (0 + k) g := ⟨_, rfl⟩
                  rw [← hh] at hz0
                  have Z : Hid (RkS w wr key nonce h ∧ Ar wr B2 (wa 16 f1)) := ⟨hz0, hzb⟩
                  have HH : Hid (h = qs (0 + k) g) := hh
                  obtain ⟨t1, g1⟩ := hz0.ws
                  clear hh hz0 hzb
                  obtain ⟨n1, hn1⟩ : ∃ n : Nat, 4 + (k : Int) = n := ⟨4 + k, by omega⟩
                  obtain ⟨n2, hn2⟩ : ∃ n : Nat, 8 + (k : Int) = n := ⟨8 + k, by omega⟩
                  obtain ⟨n3, hn3⟩ : ∃ n : Nat, 12 + (k : Int) = n := ⟨12 + k, by omega⟩
                  have v1 := wrap_i (x := (n1 : Int)) (by omega) (by omega)
                  have v2 := wrap_i (x := (n2 : Int)) (by omega) (by omega)
                  have v3 := wrap_i (x := (n3 : Int)) (by omega) (by omega)
                  have HN : Hid (n1 = 4 + k ∧ n2 = 8 + k ∧ n3 = 12 + k) := by show _ ∧ _ ∧ _; omega
                  obtain ⟨h', hh'⟩ : ∃ h', h' = qr h k n1 n2 n3 := ⟨_, rfl⟩
                  have HH' : Hid (h' = qr h k n1 n2 n3) := hh'
                  have HC : Hid (∀ u, Calls Try.prog 22 #[.agg (wa 16 h), .int .i64 (k : Int), .int .i64 (n1 : Int), .int .i64 (n2 : Int), .int .i64 (n3 : Int)] u fun r w' => r = .returned (.agg (wa 16 h')) ∧ Chg u w') := by
                    rw [hh']
                    exact fun u => refQuarter_any h k n1 n2 n3 u (by omega) (by omega) (by omega) (by omega)
                  clear hh'
                  have hsz := szW h
                  go_wp2_with (first | refine wpList_load_row rfl 42 _ rfl _ rfl _ _ _ _ g1 und42 rfl hsz ?_)
                  go_at_call 22
                  refine (HC.out _).mono ?_
                  rintro r w8 ⟨rfl, hc8⟩
                  have Z8 : Hid (RkS w w8 key nonce h ∧ Ar w8 B2 (wa 16 f1)) := ⟨Z.out.1.to hc8, Z.out.2.chg hc8⟩
                  obtain ⟨t2, g2⟩ := Z8.out.1.ws
                  have hsz' := szW h'
                  have hlen' := lenW 16 h h'
                  have hone' := wa_one 16 h'
                  clear hc8 g1 Z hsz HC
                  go_wp2_with (first | refine wpList_store_row rfl 42 _ _ rfl _ _ rfl rfl _ _ g2 hsz' hlen' hone' ?_)
                  go_roundw
                  case rel =>
                    have hb := Z7b.out
                    refine ⟨k + 1, by go_num, by omega, ?_, Z8.out.2.rowOther (by omega) _⟩
                    have e : qs (0 + (k + 1)) g = h' := by
                      show qk (0 + k) (qs (0 + k) g) = h'
                      rw [HH'.out, ← HH.out, qk, if_pos (by omega), Nat.zero_add, HN.out.1, HN.out.2.1, HN.out.2.2]
                    rw [e]
                    exact Z8.out.1.row h'
                  case measure => simp [intOf]; omega
                · have : k = 4 := by omega
                  subst this
                  rw [show ((4 : Nat) : Int) = 4 from rfl]
                  have Z10 : Hid (RkS w wr key nonce (qs 4 g) ∧ Ar wr B2 (wa 16 f1)) := ⟨hz0, hzb⟩
                  clear hz0 hzb
                  go_wp2_with fail
                  go_loopw [13] (fun v wr => ∃ (k : Nat), v = .int .i64 k ∧ k ≤ 4 ∧ RkS w wr key nonce (qs (4 + k) g) ∧ Ar wr B2 (wa 16 f1)) (fun v wr => 4 - (intOf v).toNat)
                  case atStart => exact ⟨0, rfl, by omega, Z10.out⟩
                  case round =>
                    clear Z10
                    obtain ⟨k, rfl, hk, hz0, hzb⟩ := hrel
                    by_cases hk4 : k < 4
                    · have hd2 : decide ((k : Int) < 4) = true := by simp; omega
                      obtain ⟨h, hh⟩ : ∃ h, h = qs (4 + k) g := ⟨_, rfl⟩
                      rw [← hh] at hz0
                      have Z : Hid (RkS w wr key nonce h ∧ Ar wr B2 (wa 16 f1)) := ⟨hz0, hzb⟩
                      have HH : Hid (h = qs (4 + k) g) := hh
                      obtain ⟨t1, g1⟩ := hz0.ws
                      clear hh hz0 hzb
                      obtain ⟨a1, m1, hm1, va1, hd1', vm1, HM1⟩ := modf k 1 hk4 (by decide)
                      replace hm1 : (k : Int) + 1 = a1 := hm1
                      obtain ⟨n1, hn1⟩ : ∃ n : Nat, 4 + (m1 : Int) = n := ⟨4 + m1, by omega⟩
                      have v1 := wrap_i (x := (n1 : Int)) (by have := HM1.out; omega) (by have := HM1.out; omega)
                      obtain ⟨a2, m2, hm2, va2, hd2', vm2, HM2⟩ := modf k 2 hk4 (by decide)
                      replace hm2 : (k : Int) + 2 = a2 := hm2
                      obtain ⟨n2, hn2⟩ : ∃ n : Nat, 8 + (m2 : Int) = n := ⟨8 + m2, by omega⟩
                      have v2 := wrap_i (x := (n2 : Int)) (by have := HM2.out; omega) (by have := HM2.out; omega)
                      obtain ⟨a3, m3, hm3, va3, hd3', vm3, HM3⟩ := modf k 3 hk4 (by decide)
                      replace hm3 : (k : Int) + 3 = a3 := hm3
                      obtain ⟨n3, hn3⟩ : ∃ n : Nat, 12 + (m3 : Int) = n := ⟨12 + m3, by omega⟩
                      have v3 := wrap_i (x := (n3 : Int)) (by have := HM3.out; omega) (by have := HM3.out; omega)
                      have HN : Hid (n1 = 4 + (k + 1) % 4 ∧ n2 = 8 + (k + 2) % 4 ∧ n3 = 12 + (k + 3) % 4) := by
                        have q1 := HM1.out
                        have q2 := HM2.out
                        have q3 := HM3.out
                        show _ ∧ _ ∧ _
                        omega
                      have lz1 : n1 < 16 := by have := HM1.out; omega
                      have lz2 : n2 < 16 := by have := HM2.out; omega
                      have lz3 : n3 < 16 := by have := HM3.out; omega
                      obtain ⟨h', hh'⟩ : ∃ h', h' = qr h k n1 n2 n3 := ⟨_, rfl⟩
                      have HH' : Hid (h' = qr h k n1 n2 n3) := hh'
                      have HC : Hid (∀ u, Calls Try.prog 22 #[.agg (wa 16 h), .int .i64 (k : Int), .int .i64 (n1 : Int), .int .i64 (n2 : Int), .int .i64 (n3 : Int)] u fun r w' => r = .returned (.agg (wa 16 h')) ∧ Chg u w') := by
                        rw [hh']
                        exact fun u => refQuarter_any h k n1 n2 n3 u (by omega) (by omega) (by omega) (by omega)
                      clear hh'
                      have hsz := szW h
                      go_wp2_with (first | refine wpList_load_row rfl 42 _ rfl _ rfl _ _ _ _ g1 und42 rfl hsz ?_)
                      go_at_call 22
                      refine (HC.out _).mono ?_
                      rintro r w8 ⟨rfl, hc8⟩
                      have Z8 : Hid (RkS w w8 key nonce h ∧ Ar w8 B2 (wa 16 f1)) := ⟨Z.out.1.to hc8, Z.out.2.chg hc8⟩
                      obtain ⟨t2, g2⟩ := Z8.out.1.ws
                      have hsz' := szW h'
                      have hlen' := lenW 16 h h'
                      have hone' := wa_one 16 h'
                      clear hc8 g1 Z hsz HC
                      go_wp2_with (first | refine wpList_store_row rfl 42 _ _ rfl _ _ rfl rfl _ _ g2 hsz' hlen' hone' ?_)
                      go_roundw
                      case rel =>
                        have hb := Z7b.out
                        refine ⟨k + 1, by go_num, by omega, ?_, Z8.out.2.rowOther (by omega) _⟩
                        have e : qs (4 + (k + 1)) g = h' := by
                          show qk (4 + k) (qs (4 + k) g) = h'
                          rw [HH'.out, ← HH.out, qk, if_neg (by omega), show 4 + k - 4 = k by omega, HN.out.1, HN.out.2.1, HN.out.2.2]
                        rw [e]
                        exact Z8.out.1.row h'
                      case measure => simp [intOf]; omega
                    · have : k = 4 := by omega
                      subst this
                      rw [show ((4 : Nat) : Int) = 4 from rfl]
                      have Z11 : Hid (RkS w wr key nonce (qs 8 g) ∧ Ar wr B2 (wa 16 f1)) := ⟨hz0, hzb⟩
                      clear hz0 hzb
                      go_wp2_with fail
                      go_roundw
                      case rel =>
                        refine ⟨i + 1, by go_num, by omega, ?_⟩
                        have e : rds (i + 1) f1 = qs 8 g := by rw [HG.out]; rfl
                        rw [e]
                        exact Z11.out
                      case measure => simp [intOf]; omega
            · have : i = 10 := by omega
              subst this
              rw [show ((10 : Nat) : Int) = 10 from rfl]
              obtain ⟨f2, hf2⟩ : ∃ f, f = rds 10 f1 := ⟨_, rfl⟩
              rw [← hf2] at hz0
              have HF2 : Hid (f2 = rds 10 f1) := hf2
              have Z12 : Hid (RkS w wr key nonce f2 ∧ Ar wr B2 (wa 16 f1)) := ⟨hz0, hzb⟩
              clear hz0 hzb hf2
              go_wp2_with fail
              obtain ⟨G, hG⟩ : ∃ G, G = wr.heap.size := ⟨_, rfl⟩
              obtain ⟨w9, hw9⟩ : ∃ w9, w9 = wr.alloc (.cells (ba 64 zB) 28) := ⟨_, rfl⟩
              obtain ⟨F, hF⟩ : ∃ F, F = blk key c nonce := ⟨_, rfl⟩
              have HFF : Hid (F = blk key c nonce) := hF
              have Z13 : Hid (BkS w w9 (w.heap.size + 1 + 1 + 1) B2 G f2 f1 (upTo 0 F zB)) := by
                obtain ⟨k0, k1⟩ := Z12.out
                have e := k1.lt
                rw [hw9, hG, upTo_zero]
                exact ⟨k0.chg.alloc _, k0.res.alloc _, k0.ws.alloc _, k1.alloc _, Ar.new wr _ _, by omega, Z7b.out, e⟩
              rw [← hw9, ← hG]
              clear hw9 hG hF Z12 hz2
              go_loopw [15] (fun v wr => ∃ (i : Nat), v = .int .i64 i ∧ i ≤ 64 ∧ BkS w wr (w.heap.size + 1 + 1 + 1) B2 G f2 f1 (upTo i F zB)) (fun v wr => 64 - (intOf v).toNat)
              case atStart => exact ⟨0, rfl, by omega, Z13.out⟩
              case round =>
                clear Z13
                obtain ⟨i, rfl, hi, hz0⟩ := hrel
                have Z : Hid (BkS w wr (w.heap.size + 1 + 1 + 1) B2 G f2 f1 (upTo i F zB)) := hz0
                by_cases hlt : i < 64
                · have hd : decide ((i : Int) < 64) = true := by simp; omega
                  have li : (i : Int) < 64 := by omega
                  obtain ⟨q, r, s, e1, e2, e3, v1, v2, v3, l1, l2, l3, HQ⟩ := dm4 i hlt
                  have lq : q < 16 := by omega
                  have c1 := (hz0.w1.cell q).trans (wa_get 16 _ lq)
                  have c2 := (hz0.w2.cell q).trans (wa_get 16 _ lq)
                  have c3 := (hz0.out.cell i).trans (ba_get 64 _ hlt)
                  have k3 := hz0.out.frozen i
                  obtain ⟨x1, hx1⟩ : ∃ x, x = f2 q := ⟨_, rfl⟩
                  obtain ⟨x2, hx2⟩ : ∃ x, x = f1 q := ⟨_, rfl⟩
                  obtain ⟨x3, hx3⟩ : ∃ x, x = upTo i F zB i := ⟨_, rfl⟩
                  rw [← hx1] at c1
                  rw [← hx2] at c2
                  rw [← hx3] at c3
                  obtain ⟨y, Hy, ey⟩ := nmAdd x1 x2
                  obtain ⟨z, Hz, ez⟩ := nmByte y s
                  have HZ : Hid (z = F i) := by
                    show z = _
                    rw [Hz.out, Hy.out, hx1, hx2, HFF.out, blk, HQ.out.1, HQ.out.2.2, HF2.out, HF1.out, BitVec.add_comm]
                  clear hx1 hx2 hx3 hz0 Hy Hz lq
                  go_wp2_with fail
                  go_quiet (fail)
                  all_goals go_wp2
                  all_goals
                    go_roundw
                    case rel =>
                      refine ⟨i + 1, by go_num, by omega, ?_⟩
                      have hh := (Z.out.drewN nq).set i z
                      rw [HZ.out, upTo_upd i F zB, ← HZ.out] at hh
                      exact hh
                    case measure => simp [intOf]; omega
                · have : i = 64 := by omega
                  subst this
                  have ho := hz0.out
                  rw [upTo_all] at ho
                  have HO : Hid (Chg w wr ∧ Ar wr (w.heap.size + 1 + 1) (ba 64 zB)) := ⟨hz0.chg, hz0.res⟩
                  clear hz0 Z
                  obtain ⟨t1, g1⟩ := ho
                  obtain ⟨t3, g3⟩ := HO.out.2
                  have hsz := szB F i28
                  have hlen := lenB 64 zB F
                  have hone := ba_one 64 F
                  go_wp2_with (first | refine wpList_load_row rfl 28 _ rfl _ rfl _ _ _ _ g1 und28 rfl hsz ?_ | refine wpList_store_row rfl 28 _ _ rfl _ _ rfl rfl _ _ g3 hsz hlen hone ?_)
                  refine bp_c (n := 64) (c := ba 64 F) Try.results12 rfl rfl ?_ und28 i28 (ba_size _ _) ⟨by rw [HFF.out], ?_⟩
                  · exact HO.out.2.row _
                  · exact HO.out.1.setRow (by omega) _
end Go.Proofs.Ytkdidacebfkdmaa
