/-
  The function beginning, walked.
-/
import Derived.Test.YtkdidacebfkdmaaBgn
namespace Go.Proofs.Ytkdidacebfkdmaa
open Go.RowKit
set_option linter.unusedVariables false

set_option maxRecDepth 100000 in
set_option maxHeartbeats 4000000 in
theorem beginning_any (key nonce : Nat → By) (c : Wd) (w : World) : Calls Try.prog 19 #[.agg (ba 32 key), .int .u32 (c.toNat : Int), .agg (ba 12 nonce)] w fun r w' => r = .returned (.agg (wa 16 (ini key c nonce))) ∧ Chg w w' := by
  have hsA := ba_size 32 key
  have hsB := ba_size 12 nonce
  obtain ⟨A, hA⟩ : ∃ A, A = ba 32 key := ⟨_, rfl⟩
  obtain ⟨D, hD⟩ : ∃ D, D = ba 12 nonce := ⟨_, rfl⟩
  have HAD : Hid (A = ba 32 key ∧ D = ba 12 nonce) := ⟨hA, hD⟩
  have hszA : (Try.prog.info? 22).map (·.size) = some A.size := by rw [hA]; exact szB key i22
  have hszD : (Try.prog.info? 24).map (·.size) = some D.size := by rw [hD]; exact szB nonce i24
  rw [← hA] at hsA ⊢
  rw [← hD] at hsB ⊢
  clear hA hD
  have hz := zero42.1
  have hws := wa_size 16 zW
  obtain ⟨C, hC⟩ : ∃ C, C = wa 16 con := ⟨_, rfl⟩
  have hcon := con_cells
  rw [← hC] at hcon
  have HC : Hid (C = wa 16 con) := hC
  have HS : Hid ((Try.prog.info? 42).map (·.size) = some C.size ∧ (wa 16 zW).size = C.size ∧ C.all (·.oneCell') = true) := by
    rw [hC]
    exact ⟨szW con, lenW 16 zW con, wa_one 16 con⟩
  have HSA : Hid ((Try.prog.info? 22).map (·.size) = some A.size ∧ (Try.prog.info? 24).map (·.size) = some D.size) := ⟨hszA, hszD⟩
  clear hszA hszD
  clear hC
  go_enter Try.func19, Try.ntmps19
  go_upto_region 2 with (first | refine wpList_store_row rfl 42 _ _ rfl _ _ rfl rfl _ _ (heap_new3 w (.cells A 22) (.cells D 24) (.cells (wa 16 zW) 42) (wa 16 zW) 42) HS.out.1 HS.out.2.1 HS.out.2.2 ?_)
  obtain ⟨w4, hw4⟩ : ∃ w4, w4 = ((((w.alloc (.cells A 22)).alloc (.cells D 24)).alloc (.cells (wa 16 zW) 42)).alloc (.cells (wa 16 zW) 42)).setRow (w.heap.size + 1 + 1 + 1) C := ⟨_, rfl⟩
  have Z4 : Hid (BgS w w4 0 key nonce (iniP key 0 0#32 nonce 0)) := by
    rw [hw4, HAD.out.1, HAD.out.2, HC.out, iniP_start key nonce]
    have h4 : ∀ a b c d : Obj, ((((w.alloc a).alloc b).alloc c).alloc d).heap.size = w.heap.size + 1 + 1 + 1 + 1 := fun a b c d => by simp
    refine ⟨((((((Chg.refl w).alloc _).alloc _).alloc _).alloc _)).setRow (by omega) _, ((((Ar.new w _ _).alloc _).alloc _).alloc _).rowOther (by omega) _, (((Ar.new1 w _ _ _).alloc _).alloc _).rowOther (by omega) _, ((Ar.new2 w _ _ _ _).alloc _).rowOther (by omega) _, ?_⟩
    exact Ar.row ⟨42, heap_new3 w _ _ _ _ 42⟩ _
  rw [← hw4]
  clear hw4 hz hws hcon HC HS hsA hsB
  dsimp only [Act.put]
  obtain ⟨tA, gA⟩ := Z4.out.key
  rw [← HAD.out.1] at gA
  go_wp2_with (first | refine wpList_load_row rfl 22 _ rfl _ rfl _ _ _ _ gA und22 rfl HSA.out.1 ?_)
  clear gA
  go_loopw [14] (fun v wr => ∃ (i : Nat), v = .int .i64 i ∧ i ≤ 32 ∧ BgS w wr 0 key nonce (iniP key i 0#32 nonce 0)) (fun v wr => 32 - (intOf v).toNat)
  case atStart => exact ⟨0, rfl, by omega, Z4.out⟩
  case round =>
    clear Z4
    obtain ⟨i, rfl, hi, hz0⟩ := hrel
    have Z : Hid (BgS w wr 0 key nonce (iniP key i 0#32 nonce 0)) := hz0
    by_cases hlt : i < 32
    · have hd : decide ((i : Int) < 32) = true := by simp; omega
      have li : (i : Int) < 32 := by omega
      obtain ⟨b, hb⟩ : ∃ b, b = key i := ⟨_, rfl⟩
      have hidx : ∀ u, (Instr.index 22 (.agg A) (.int .i64 i)).run Try.prog u = .ok (.int .u8 (b.toNat : Int)) u := by
        rw [HAD.out.1, hb]
        exact run_idx und22 key hlt
      obtain ⟨q, r, s, e1, e2, e3, w1, w2, w3, l1, l2, l3, HQ⟩ := dm4 i (by omega)
      obtain ⟨p, hp⟩ : ∃ p : Nat, (4 : Int) + q = p := ⟨4 + q, by omega⟩
      have wp := wrap_i (x := (p : Int)) (by omega) (by omega)
      have HP : Hid (p = 4 + i / 4) := by show p = _; have := HQ.out.1; omega
      have lp : p < 16 := by have := HQ.out.1; have := HP.out; omega
      have lp' : (p : Int) < 16 := by omega
      have c1 := (hz0.ws.cell p).trans (wa_get 16 _ lp)
      have k1 := hz0.ws.frozen p
      obtain ⟨x, hx⟩ : ∃ x, x = (iniP key i 0#32 nonce 0) p := ⟨_, rfl⟩
      rw [← hx] at c1
      obtain ⟨y, Hy, ey⟩ := nmShlB b s
      obtain ⟨z, Hz, ez⟩ := nmOr x y
      have HU : Hid (updW (iniP key i 0#32 nonce 0) p z = iniP key (i + 1) 0#32 nonce 0) := by
        show updW _ p z = _
        rw [HP.out]
        refine iniP_key key nonce 0#32 hlt z ?_
        rw [Hz.out, Hy.out, hx, hb, HP.out, HQ.out.2.2]
      clear hx hb Hy Hz hz0 lp
      go_wp2_with fail
      go_region_with (fail)
      all_goals go_wp2
      all_goals
        go_roundw
        case rel =>
          refine ⟨i + 1, by go_num, by omega, ?_⟩
          rw [ey, ez, ← HU.out]
          first
            | exact (Z.out.set p z).drew
            | exact Z.out.drew.set p z
        case measure => simp [intOf]; omega
    · have : i = 32 := by omega
      subst this
      clear hz0
      have c1 := (Z.out.ws.cell 12).trans (wa_get 16 _ (by decide))
      have k1 := Z.out.ws.frozen 12
      obtain ⟨x, hx⟩ : ∃ x, x = iniP key 32 0#32 nonce 0 12 := ⟨_, rfl⟩
      rw [← hx] at c1
      clear hx
      go_upto_region 8 with fail
      obtain ⟨w5, hw5⟩ : ∃ w5, w5 = wr.setCell ⟨w.heap.size + 1 + 1 + 1, 12, none⟩ (.int .u32 (c.toNat : Int)) := ⟨_, rfl⟩
      have Z5 : Hid (BgS w w5 0 key nonce (iniP key 32 c nonce 0)) := by
        rw [hw5, ← iniP_count key nonce 32 0#32 c]
        exact Z.out.set 12 c
      rw [← hw5]
      clear hw5 c1 k1 Z
      obtain ⟨tD, gD⟩ := Z5.out.non
      rw [← HAD.out.2] at gD
      go_wp2_with (first | refine wpList_load_row rfl 24 _ rfl _ rfl _ _ _ _ gD und24 rfl HSA.out.2 ?_)
      clear gD
      go_loopw [35] (fun v wr => ∃ (i : Nat), v = .int .i64 i ∧ i ≤ 12 ∧ BgS w wr 0 key nonce (iniP key 32 c nonce i)) (fun v wr => 12 - (intOf v).toNat)
      case atStart => exact ⟨0, rfl, by omega, Z5.out⟩
      case round =>
        clear Z5
        obtain ⟨i, rfl, hi, hz0⟩ := hrel
        have Z : Hid (BgS w wr 0 key nonce (iniP key 32 c nonce i)) := hz0
        by_cases hlt : i < 12
        · have hd : decide ((i : Int) < 12) = true := by simp; omega
          have li : (i : Int) < 12 := by omega
          obtain ⟨b, hb⟩ : ∃ b, b = nonce i := ⟨_, rfl⟩
          have hidx : ∀ u, (Instr.index 24 (.agg D) (.int .i64 i)).run Try.prog u = .ok (.int .u8 (b.toNat : Int)) u := by
            rw [HAD.out.2, hb]
            exact run_idx und24 nonce hlt
          obtain ⟨q, r, s, e1, e2, e3, w1, w2, w3, l1, l2, l3, HQ⟩ := dm4 i (by omega)
          obtain ⟨p, hp⟩ : ∃ p : Nat, (13 : Int) + q = p := ⟨13 + q, by omega⟩
          have wp := wrap_i (x := (p : Int)) (by omega) (by omega)
          have HP : Hid (p = 13 + i / 4) := by show p = _; have := HQ.out.1; omega
          have lp : p < 16 := by have := HQ.out.1; have := HP.out; omega
          have lp' : (p : Int) < 16 := by omega
          have c1 := (hz0.ws.cell p).trans (wa_get 16 _ lp)
          have k1 := hz0.ws.frozen p
          obtain ⟨x, hx⟩ : ∃ x, x = (iniP key 32 c nonce i) p := ⟨_, rfl⟩
          rw [← hx] at c1
          obtain ⟨y, Hy, ey⟩ := nmShlB b s
          obtain ⟨z, Hz, ez⟩ := nmOr x y
          have HU : Hid (updW (iniP key 32 c nonce i) p z = iniP key 32 c nonce (i + 1)) := by
            show updW _ p z = _
            rw [HP.out]
            refine iniP_nonce key nonce c hlt z ?_
            rw [Hz.out, Hy.out, hx, hb, HP.out, HQ.out.2.2]
          clear hx hb Hy Hz hz0 lp
          go_wp2_with fail
          go_region_with (fail)
          all_goals go_wp2
          all_goals
            go_roundw
            case rel =>
              refine ⟨i + 1, by go_num, by omega, ?_⟩
              rw [ey, ez, ← HU.out]
              first
                | exact (Z.out.set p z).drew
                | exact Z.out.drew.set p z
            case measure => simp [intOf]; omega
        · have : i = 12 := by omega
          subst this
          clear hz0
          obtain ⟨g, hg⟩ : ∃ g, g = ini key c nonce := ⟨_, rfl⟩
          have hws := Z.out.ws
          rw [wa_congr (iniP_all key nonce c), ← hg] at hws
          have HG : Hid (g = ini key c nonce) := hg
          have HO : Hid (Chg w wr ∧ Ar wr (w.heap.size + 1 + 1) (wa 16 zW)) := ⟨Z.out.chg, Z.out.out⟩
          clear hg Z
          obtain ⟨t1, g1⟩ := hws
          obtain ⟨t3, g3⟩ := HO.out.2
          have hsz := szW g
          have hlen := lenW 16 zW g
          have hone := wa_one 16 g
          go_wp2_with (first | refine wpList_load_row rfl 42 _ rfl _ rfl _ _ _ _ g1 und42 rfl hsz ?_ | refine wpList_store_row rfl 42 _ _ rfl _ _ rfl rfl _ _ g3 hsz hlen hone ?_)
          refine bp_c (n := 16) (c := wa 16 g) Try.results19 rfl rfl ?_ und42 i42 (wa_size _ _) ⟨by rw [HG.out], ?_⟩
          · exact HO.out.2.row _
          · exact HO.out.1.setRow (by omega) _
end Go.Proofs.Ytkdidacebfkdmaa
