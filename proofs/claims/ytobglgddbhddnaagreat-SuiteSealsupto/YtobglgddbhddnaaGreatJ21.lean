/-
  The function beginning, walked.
  Ten double rounds: the function mixed.
  A block of the stream: the function Block.
  Bytes XORed with the blocks that a count counts: the function Stream.
-/
import Derived.Test.YtobglgddbhddnaaGreatJ20
namespace Go.Proofs.YtobglgddbhddnaaGreat.Cha
open Go.RowKit
set_option linter.unusedVariables false

set_option maxRecDepth 100000 in
set_option maxHeartbeats 4000000 in
theorem beginning_any (key nonce : Nat → By) (c : Wd) (w : World) : Calls Tryz.prog 84 #[.agg (ba 32 key), .int .u32 (c.toNat : Int), .agg (ba 12 nonce)] w fun r w' => r = .returned (.agg (wa 16 (ini key c nonce))) ∧ Chg w w' := by
  have hsA := ba_size 32 key
  have hsB := ba_size 12 nonce
  obtain ⟨A, hA⟩ : ∃ A, A = ba 32 key := ⟨_, rfl⟩
  obtain ⟨D, hD⟩ : ∃ D, D = ba 12 nonce := ⟨_, rfl⟩
  have HAD : Hid (A = ba 32 key ∧ D = ba 12 nonce) := ⟨hA, hD⟩
  have hszA : (Tryz.prog.info? 40).map (·.size) = some A.size := by rw [hA]; exact szB key i22
  have hszD : (Tryz.prog.info? 25).map (·.size) = some D.size := by rw [hD]; exact szB nonce i24
  rw [← hA] at hsA ⊢
  rw [← hD] at hsB ⊢
  clear hA hD
  have hz := zero42.1
  have hws := wa_size 16 zW
  obtain ⟨C, hC⟩ : ∃ C, C = wa 16 con := ⟨_, rfl⟩
  have hcon := con_cells
  rw [← hC] at hcon
  have HC : Hid (C = wa 16 con) := hC
  have HS : Hid ((Tryz.prog.info? 84).map (·.size) = some C.size ∧ (wa 16 zW).size = C.size ∧ C.all (·.oneCell') = true) := by
    rw [hC]
    exact ⟨szW con, lenW 16 zW con, wa_one 16 con⟩
  have HSA : Hid ((Tryz.prog.info? 40).map (·.size) = some A.size ∧ (Tryz.prog.info? 25).map (·.size) = some D.size) := ⟨hszA, hszD⟩
  clear hszA hszD
  clear hC
  go_enter Tryz.func84, Tryz.ntmps84
  go_upto_region 2 with (first | refine wpList_store_row rfl 84 _ _ rfl _ _ rfl rfl _ _ (heap_new3 w (.cells A 40) (.cells D 25) (.cells (wa 16 zW) 84) (wa 16 zW) 84) HS.out.1 HS.out.2.1 HS.out.2.2 ?_)
  obtain ⟨w4, hw4⟩ : ∃ w4, w4 = ((((w.alloc (.cells A 40)).alloc (.cells D 25)).alloc (.cells (wa 16 zW) 84)).alloc (.cells (wa 16 zW) 84)).setRow (w.heap.size + 1 + 1 + 1) C := ⟨_, rfl⟩
  have Z4 : Hid (BgS w w4 0 key nonce (iniP key 0 0#32 nonce 0)) := by
    rw [hw4, HAD.out.1, HAD.out.2, HC.out, iniP_start key nonce]
    have h4 : ∀ a b c d : Obj, ((((w.alloc a).alloc b).alloc c).alloc d).heap.size = w.heap.size + 1 + 1 + 1 + 1 := fun a b c d => by simp
    refine ⟨((((((Chg.refl w).alloc _).alloc _).alloc _).alloc _)).setRow (by omega) _, ((((Ar.new w _ _).alloc _).alloc _).alloc _).rowOther (by omega) _, (((Ar.new1 w _ _ _).alloc _).alloc _).rowOther (by omega) _, ((Ar.new2 w _ _ _ _).alloc _).rowOther (by omega) _, ?_⟩
    exact Ar.row ⟨84, heap_new3 w _ _ _ _ 84⟩ _
  rw [← hw4]
  clear hw4 hz hws hcon HC HS hsA hsB
  dsimp only [Act.put]
  obtain ⟨tA, gA⟩ := Z4.out.key
  rw [← HAD.out.1] at gA
  go_wp2_with (first | refine wpList_load_row rfl 40 _ rfl _ rfl _ _ _ _ gA und22 rfl HSA.out.1 ?_)
  clear gA
  go_loopw [14] (fun v wr => ∃ (i : Nat), v = .int .i64 i ∧ i ≤ 32 ∧ BgS w wr 0 key nonce (iniP key i 0#32 nonce 0)) (fun v wr => 32 - (intOf v).toNat)
  case atStart => exact ⟨0, rfl, by omega, Z4.out⟩
  case round =>
    clear Z4
    obtain ⟨i, rfl, hi, hz0⟩ := hrel
    have Z : Hid (BgS w wr 0 key nonce (iniP key i 0#32 nonce 0)) := hz0
    by_cases hlt : i < 32
    · have hd : decide ((i : Int) < 32) = true := by simp; omega
      have li : (i : Int) < 32 := by omega
      obtain ⟨b, hb⟩ : ∃ b, b = key i := ⟨_, rfl⟩
      have hidx : ∀ u, (Instr.index 40 (.agg A) (.int .i64 i)).run Tryz.prog u = .ok (.int .u8 (b.toNat : Int)) u := by
        rw [HAD.out.1, hb]
        exact run_idx und22 key hlt
      obtain ⟨q, r, s, e1, e2, e3, w1, w2, w3, l1, l2, l3, HQ⟩ := dm4 i (by omega)
      obtain ⟨p, hp⟩ : ∃ p : Nat, (4 : Int) + q = p := ⟨4 + q, by omega⟩
      have wp := wrap_i (x := (p : Int)) (by omega) (by omega)
      have HP : Hid (p = 4 + i / 4) := by show p = _; have := HQ.out.1; omega
      have lp : p < 16 := by have := HQ.out.1; have := HP.out; omega
      have lp' : (p : Int) < 16 := by omega
      have c1 := (hz0.ws.cell p).trans (wa_get 16 _ lp)
      have k1 := hz0.ws.frozen p
      obtain ⟨x, hx⟩ : ∃ x, x = (iniP key i 0#32 nonce 0) p := ⟨_, rfl⟩
      rw [← hx] at c1
      obtain ⟨y, Hy, ey⟩ := nmShlB b s
      obtain ⟨z, Hz, ez⟩ := nmOr x y
      have HU : Hid (updW (iniP key i 0#32 nonce 0) p z = iniP key (i + 1) 0#32 nonce 0) := by
        show updW _ p z = _
        rw [HP.out]
        refine iniP_key key nonce 0#32 hlt z ?_
        rw [Hz.out, Hy.out, hx, hb, HP.out, HQ.out.2.2]
      clear hx hb Hy Hz hz0 lp
      go_wp2_with fail
      go_region_with (fail)
      all_goals go_wp2
      all_goals
        go_roundw
        case rel =>
          refine ⟨i + 1, by go_num, by omega, ?_⟩
          rw [ey, ez, ← HU.out]
          first
            | exact (Z.out.set p z).drew
            | exact Z.out.drew.set p z
        case measure => simp [intOf]; omega
    · have : i = 32 := by omega
      subst this
      clear hz0
      have c1 := (Z.out.ws.cell 12).trans (wa_get 16 _ (by decide))
      have k1 := Z.out.ws.frozen 12
      obtain ⟨x, hx⟩ : ∃ x, x = iniP key 32 0#32 nonce 0 12 := ⟨_, rfl⟩
      rw [← hx] at c1
      clear hx
      go_upto_region 8 with fail
      obtain ⟨w5, hw5⟩ : ∃ w5, w5 = wr.setCell ⟨w.heap.size + 1 + 1 + 1, 12, none⟩ (.int .u32 (c.toNat : Int)) := ⟨_, rfl⟩
      have Z5 : Hid (BgS w w5 0 key nonce (iniP key 32 c nonce 0)) := by
        rw [hw5, ← iniP_count key nonce 32 0#32 c]
        exact Z.out.set 12 c
      rw [← hw5]
      clear hw5 c1 k1 Z
      obtain ⟨tD, gD⟩ := Z5.out.non
      rw [← HAD.out.2] at gD
      go_wp2_with (first | refine wpList_load_row rfl 25 _ rfl _ rfl _ _ _ _ gD und24 rfl HSA.out.2 ?_)
      clear gD
      go_loopw [35] (fun v wr => ∃ (i : Nat), v = .int .i64 i ∧ i ≤ 12 ∧ BgS w wr 0 key nonce (iniP key 32 c nonce i)) (fun v wr => 12 - (intOf v).toNat)
      case atStart => exact ⟨0, rfl, by omega, Z5.out⟩
      case round =>
        clear Z5
        obtain ⟨i, rfl, hi, hz0⟩ := hrel
        have Z : Hid (BgS w wr 0 key nonce (iniP key 32 c nonce i)) := hz0
        by_cases hlt : i < 12
        · have hd : decide ((i : Int) < 12) = true := by simp; omega
          have li : (i : Int) < 12 := by omega
          obtain ⟨b, hb⟩ : ∃ b, b = nonce i := ⟨_, rfl⟩
          have hidx : ∀ u, (Instr.index 25 (.agg D) (.int .i64 i)).run Tryz.prog u = .ok (.int .u8 (b.toNat : Int)) u := by
            rw [HAD.out.2, hb]
            exact run_idx und24 nonce hlt
          obtain ⟨q, r, s, e1, e2, e3, w1, w2, w3, l1, l2, l3, HQ⟩ := dm4 i (by omega)
          obtain ⟨p, hp⟩ : ∃ p : Nat, (13 : Int) + q = p := ⟨13 + q, by omega⟩
          have wp := wrap_i (x := (p : Int)) (by omega) (by omega)
          have HP : Hid (p = 13 + i / 4) := by show p = _; have := HQ.out.1; omega
          have lp : p < 16 := by have := HQ.out.1; have := HP.out; omega
          have lp' : (p : Int) < 16 := by omega
          have c1 := (hz0.ws.cell p).trans (wa_get 16 _ lp)
          have k1 := hz0.ws.frozen p
          obtain ⟨x, hx⟩ : ∃ x, x = (iniP key 32 c nonce i) p := ⟨_, rfl⟩
          rw [← hx] at c1
          obtain ⟨y, Hy, ey⟩ := nmShlB b s
          obtain ⟨z, Hz, ez⟩ := nmOr x y
          have HU : Hid (updW (iniP key 32 c nonce i) p z = iniP key 32 c nonce (i + 1)) := by
            show updW _ p z = _
            rw [HP.out]
            refine iniP_nonce key nonce c hlt z ?_
            rw [Hz.out, Hy.out, hx, hb, HP.out, HQ.out.2.2]
          clear hx hb Hy Hz hz0 lp
          go_wp2_with fail
          go_region_with (fail)
          all_goals go_wp2
          all_goals
            go_roundw
            case rel =>
              refine ⟨i + 1, by go_num, by omega, ?_⟩
              rw [ey, ez, ← HU.out]
              first
                | exact (Z.out.set p z).drew
                | exact Z.out.drew.set p z
            case measure => simp [intOf]; omega
        · have : i = 12 := by omega
          subst this
          clear hz0
          obtain ⟨g, hg⟩ : ∃ g, g = ini key c nonce := ⟨_, rfl⟩
          have hws := Z.out.ws
          rw [wa_congr (iniP_all key nonce c), ← hg] at hws
          have HG : Hid (g = ini key c nonce) := hg
          have HO : Hid (Chg w wr ∧ Ar wr (w.heap.size + 1 + 1) (wa 16 zW)) := ⟨Z.out.chg, Z.out.out⟩
          clear hg Z
          obtain ⟨t1, g1⟩ := hws
          obtain ⟨t3, g3⟩ := HO.out.2
          have hsz := szW g
          have hlen := lenW 16 zW g
          have hone := wa_one 16 g
          go_wp2_with (first | refine wpList_load_row rfl 84 _ rfl _ rfl _ _ _ _ g1 und42 rfl hsz ?_ | refine wpList_store_row rfl 84 _ _ rfl _ _ rfl rfl _ _ g3 hsz hlen hone ?_)
          refine bp_c (n := 16) (c := wa 16 g) Tryz.results84 rfl rfl ?_ und42 i42 (wa_size _ _) ⟨by rw [HG.out], ?_⟩
          · exact HO.out.2.row _
          · exact HO.out.1.setRow (by omega) _
end Go.Proofs.YtobglgddbhddnaaGreat.Cha

namespace Go.Proofs.YtobglgddbhddnaaGreat.Cha
open Go.RowKit
set_option linter.unusedVariables false

/-- What stands while the words are mixed. -/
structure MxS (w wr : World) (f : Nat → Wd) : Prop where
  chg : Chg w wr
  ws : Ar wr w.heap.size (wa 16 f)
  out : Ar wr (w.heap.size + 1) (wa 16 zW)
theorem MxS.qs {w wr u : World} {f g : Nat → Wd} (h : MxS w wr f) (q : QS wr u w.heap.size g) : MxS w u g :=
  ⟨h.chg.ap q.chg (fun i e => by cases e; exact Nat.le_refl _), q.ws, h.out.ap q.chg (by unfold Ap.One; omega)⟩
theorem mxq (a b c d : Nat) (ha : a < 16) (hb : b < 16) (hc : c < 16) (hd : d < 16) (w : World) : ∀ (f : Nat → Wd) (wr : World), MxS w wr f →
    Calls Tryz.prog 96 #[.int .i64 (a : Int), .int .i64 (b : Int), .int .i64 (c : Int), .int .i64 (d : Int), .pointer (some ⟨w.heap.size, 0, none⟩)] wr fun r w' => r = .returned (.tuple #[]) ∧ MxS w w' (qr f a b c d) := fun f wr h =>
  (quarter_any f a b c d w.heap.size wr h.ws ha hb hc hd).mono fun r w' hh => ⟨hh.1, h.qs hh.2⟩
theorem qs8 (f : Nat → Wd) : qs 8 f = qr (qr (qr (qr (qr (qr (qr (qr f 0 4 8 12) 1 5 9 13) 2 6 10 14) 3 7 11 15) 0 5 10 15) 1 6 11 12) 2 7 8 13) 3 4 9 14 := rfl

set_option maxRecDepth 100000 in
set_option maxHeartbeats 4000000 in
theorem mixed_any (f0 : Nat → Wd) (w : World) : Calls Tryz.prog 85 #[.agg (wa 16 f0)] w fun r w' => r = .returned (.agg (wa 16 (rds 10 f0))) ∧ Chg w w' := by
  have hsA := wa_size 16 f0
  obtain ⟨A, hA⟩ : ∃ A, A = wa 16 f0 := ⟨_, rfl⟩
  have HA : Hid (A = wa 16 f0) := hA
  rw [← hA] at hsA ⊢
  clear hA
  have hz := zero42.1
  go_enter Tryz.func85, Tryz.ntmps85
  go_wp2_with fail
  go_loopw [5] (fun v wr => ∃ (i : Nat), v = .int .i64 i ∧ i ≤ 10 ∧ MxS w wr (rds i f0)) (fun v wr => 10 - (intOf v).toNat)
  case atStart =>
    refine ⟨0, rfl, by omega, ?_⟩
    rw [HA.out]
    exact ⟨((Chg.refl w).alloc _).alloc _, (Ar.new w _ _).alloc _, Ar.new1 w _ _ _⟩
  case round =>
    clear hz hsA
    obtain ⟨i, rfl, hi, hz0⟩ := hrel
    by_cases hlt : i < 10
    · have hd : decide ((i : Int) < 10) = true := by simp; omega
      obtain ⟨g0, hg0⟩ : ∃ g, g = rds i f0 := ⟨_, rfl⟩
      rw [← hg0] at hz0
      have HG : Hid (g0 = rds i f0) := hg0
      clear hg0
      have Z0 : Hid (MxS w wr g0) := hz0
      clear hz0
      go_wp2_with fail
      obtain ⟨g1, hg⟩ : ∃ g, g = qr g0 0 4 8 12 := ⟨_, rfl⟩
      have H1 : Hid (g1 = qr g0 0 4 8 12) := hg
      clear hg
      refine (mxq 0 4 8 12 (by decide) (by decide) (by decide) (by decide) w g0 wr Z0.out).mono ?_
      rintro r w1 ⟨rfl, hm⟩
      rw [← H1.out] at hm
      have Z1 : Hid (MxS w w1 g1) := hm
      clear hm Z0
      go_wp2_with fail
      obtain ⟨g2, hg⟩ : ∃ g, g = qr g1 1 5 9 13 := ⟨_, rfl⟩
      have H2 : Hid (g2 = qr g1 1 5 9 13) := hg
      clear hg
      refine (mxq 1 5 9 13 (by decide) (by decide) (by decide) (by decide) w g1 w1 Z1.out).mono ?_
      rintro r w2 ⟨rfl, hm⟩
      rw [← H2.out] at hm
      have Z2 : Hid (MxS w w2 g2) := hm
      clear hm Z1
      go_wp2_with fail
      obtain ⟨g3, hg⟩ : ∃ g, g = qr g2 2 6 10 14 := ⟨_, rfl⟩
      have H3 : Hid (g3 = qr g2 2 6 10 14) := hg
      clear hg
      refine (mxq 2 6 10 14 (by decide) (by decide) (by decide) (by decide) w g2 w2 Z2.out).mono ?_
      rintro r w3 ⟨rfl, hm⟩
      rw [← H3.out] at hm
      have Z3 : Hid (MxS w w3 g3) := hm
      clear hm Z2
      go_wp2_with fail
      obtain ⟨g4, hg⟩ : ∃ g, g = qr g3 3 7 11 15 := ⟨_, rfl⟩
      have H4 : Hid (g4 = qr g3 3 7 11 15) := hg
      clear hg
      refine (mxq 3 7 11 15 (by decide) (by decide) (by decide) (by decide) w g3 w3 Z3.out).mono ?_
      rintro r w4 ⟨rfl, hm⟩
      rw [← H4.out] at hm
      have Z4 : Hid (MxS w w4 g4) := hm
      clear hm Z3
      go_wp2_with fail
      obtain ⟨g5, hg⟩ : ∃ g, g = qr g4 0 5 10 15 := ⟨_, rfl⟩
      have H5 : Hid (g5 = qr g4 0 5 10 15) := hg
      clear hg
      refine (mxq 0 5 10 15 (by decide) (by decide) (by decide) (by decide) w g4 w4 Z4.out).mono ?_
      rintro r w5 ⟨rfl, hm⟩
      rw [← H5.out] at hm
      have Z5 : Hid (MxS w w5 g5) := hm
      clear hm Z4
      go_wp2_with fail
      obtain ⟨g6, hg⟩ : ∃ g, g = qr g5 1 6 11 12 := ⟨_, rfl⟩
      have H6 : Hid (g6 = qr g5 1 6 11 12) := hg
      clear hg
      refine (mxq 1 6 11 12 (by decide) (by decide) (by decide) (by decide) w g5 w5 Z5.out).mono ?_
      rintro r w6 ⟨rfl, hm⟩
      rw [← H6.out] at hm
      have Z6 : Hid (MxS w w6 g6) := hm
      clear hm Z5
      go_wp2_with fail
      obtain ⟨g7, hg⟩ : ∃ g, g = qr g6 2 7 8 13 := ⟨_, rfl⟩
      have H7 : Hid (g7 = qr g6 2 7 8 13) := hg
      clear hg
      refine (mxq 2 7 8 13 (by decide) (by decide) (by decide) (by decide) w g6 w6 Z6.out).mono ?_
      rintro r w7 ⟨rfl, hm⟩
      rw [← H7.out] at hm
      have Z7 : Hid (MxS w w7 g7) := hm
      clear hm Z6
      go_wp2_with fail
      obtain ⟨g8, hg⟩ : ∃ g, g = qr g7 3 4 9 14 := ⟨_, rfl⟩
      have H8 : Hid (g8 = qr g7 3 4 9 14) := hg
      clear hg
      refine (mxq 3 4 9 14 (by decide) (by decide) (by decide) (by decide) w g7 w7 Z7.out).mono ?_
      rintro r w8 ⟨rfl, hm⟩
      rw [← H8.out] at hm
      have Z8 : Hid (MxS w w8 g8) := hm
      clear hm Z7
      go_wp2_with fail
      go_roundw
      case rel =>
        refine ⟨i + 1, by go_num, by omega, ?_⟩
        have e : rds (i + 1) f0 = g8 := by
          show qs 8 (rds i f0) = _
          rw [qs8, ← HG.out, ← H1.out, ← H2.out, ← H3.out, ← H4.out, ← H5.out, ← H6.out, ← H7.out, ← H8.out]
        rw [e]
        exact Z8.out
      case measure => simp [intOf]; omega
    · have : i = 10 := by omega
      subst this
      obtain ⟨g, hg⟩ : ∃ g, g = rds 10 f0 := ⟨_, rfl⟩
      rw [← hg] at hz0
      have HG : Hid (g = rds 10 f0) := hg
      have HO : Hid (Chg w wr ∧ Ar wr (w.heap.size + 1) (wa 16 zW)) := ⟨hz0.chg, hz0.out⟩
      obtain ⟨t1, g1⟩ := hz0.ws
      obtain ⟨t3, g3⟩ := HO.out.2
      clear hg hz0
      have hsz := szW g
      have hlen := lenW 16 zW g
      have hone := wa_one 16 g
      go_wp2_with (first | refine wpList_load_row rfl 84 _ rfl _ rfl _ _ _ _ g1 und42 rfl hsz ?_ | refine wpList_store_row rfl 84 _ _ rfl _ _ rfl rfl _ _ g3 hsz hlen hone ?_)
      refine bp_c (n := 16) (c := wa 16 g) Tryz.results85 rfl rfl ?_ und42 i42 (wa_size _ _) ⟨by rw [HG.out], ?_⟩
      · exact HO.out.2.row _
      · exact HO.out.1.setRow (by omega) _
end Go.Proofs.YtobglgddbhddnaaGreat.Cha

namespace Go.Proofs.YtobglgddbhddnaaGreat.Cha
open Go.RowKit
set_option linter.unusedVariables false

/-- Up to a place one block, from there on the other. -/
def upTo (i : Nat) (f g : Nat → By) : Nat → By := fun j => if j < i then f j else g j
theorem upTo_zero (f g : Nat → By) : upTo 0 f g = g := by funext j; simp [upTo]
theorem upTo_upd (i : Nat) (f g : Nat → By) : updB (upTo i f g) i (f i) = upTo (i + 1) f g := by
  funext j
  unfold updB upTo
  by_cases h : j = i
  · subst h; simp
  · have e : j < i + 1 ↔ j < i := by omega
    simp [h, e]
theorem upTo_all (n : Nat) (f g : Nat → By) : ba n (upTo n f g) = ba n f := ba_congr fun i hi => by simp [upTo, hi]

theorem heap_new1 (w : World) (a : Obj) (x : Array Value) (t : TypeId) : ((w.alloc a).alloc (.cells x t)).heap[w.heap.size + 1]? = some (.cells x t (0, 0)) := by
  have := heap_alloc_last (w.alloc a) (.cells x t)
  rwa [World.size_alloc] at this
theorem heap_new2 (w : World) (a b : Obj) (x : Array Value) (t : TypeId) : (((w.alloc a).alloc b).alloc (.cells x t)).heap[w.heap.size + 1 + 1]? = some (.cells x t (0, 0)) := by
  have := heap_alloc_last ((w.alloc a).alloc b) (.cells x t)
  rwa [World.size_alloc, World.size_alloc] at this

/-- What stands while a block is made. -/
structure BkS (w wr : World) (B1 B2 g : Nat) (f1 f2 : Nat → Wd) (F : Nat → By) : Prop where
  chg : Chg w wr
  res : Ar wr (w.heap.size + 1 + 1) (ba 64 zB)
  w1 : Ar wr B1 (wa 16 f1)
  w2 : Ar wr B2 (wa 16 f2)
  out : Ar wr g (ba 64 F)
  l1 : w.heap.size + 1 + 1 < B1
  l2 : B1 < B2
  l3 : B2 < g
theorem BkS.set {w wr : World} {B1 B2 g : Nat} {f1 f2 : Nat → Wd} {F : Nat → By} (h : BkS w wr B1 B2 g f1 f2 F) (i : Nat) (x : By) : BkS w (wr.setCell ⟨g, i, none⟩ (.int .u8 (x.toNat : Int))) B1 B2 g f1 f2 (updB F i x) := by
  have e1 := h.l1
  have e2 := h.l2
  have e3 := h.l3
  refine ⟨h.chg.setCell (by dsimp only; omega) _, h.res.other (by dsimp only; omega) _, h.w1.other (by dsimp only; omega) _, h.w2.other (by dsimp only; omega) _, ?_, e1, e2, e3⟩
  have := h.out.set i (.int .u8 (x.toNat : Int))
  rwa [ba_set] at this
theorem BkS.drewN {w wr : World} {B1 B2 g : Nat} {f1 f2 : Nat → Wd} {F : Nat → By} (h : BkS w wr B1 B2 g f1 f2 F) (n : Nat) : BkS w (wr.drewN n) B1 B2 g f1 f2 F := ⟨h.chg.drewN n, h.res, h.w1, h.w2, h.out, h.l1, h.l2, h.l3⟩

set_option maxRecDepth 100000 in
set_option maxHeartbeats 4000000 in
theorem block_any (key nonce : Nat → By) (c : Wd) (w : World) : Calls Tryz.prog 64 #[.agg (ba 32 key), .int .u32 (c.toNat : Int), .agg (ba 12 nonce)] w fun r w' => r = .returned (.agg (ba 64 (blk key c nonce))) ∧ Chg w w' := by
  obtain ⟨A, hA⟩ : ∃ A, A = ba 32 key := ⟨_, rfl⟩
  obtain ⟨D, hD⟩ : ∃ D, D = ba 12 nonce := ⟨_, rfl⟩
  have hsA : A.size = 32 := by rw [hA]; exact ba_size _ _
  have hsD : D.size = 12 := by rw [hD]; exact ba_size _ _
  have HSA : Hid ((Tryz.prog.info? 40).map (·.size) = some A.size ∧ (Tryz.prog.info? 25).map (·.size) = some D.size) := ⟨by rw [hA]; exact szB key i22, by rw [hD]; exact szB nonce i24⟩
  obtain ⟨f1, hf1⟩ : ∃ f, f = ini key c nonce := ⟨_, rfl⟩
  obtain ⟨f2, hf2⟩ : ∃ f, f = rds 10 f1 := ⟨_, rfl⟩
  obtain ⟨P1, hP1⟩ : ∃ P, P = wa 16 f1 := ⟨_, rfl⟩
  obtain ⟨P2, hP2⟩ : ∃ P, P = wa 16 f2 := ⟨_, rfl⟩
  have HB : Hid (∀ u, Calls Tryz.prog 84 #[.agg A, .int .u32 (c.toNat : Int), .agg D] u fun r w' => r = .returned (.agg P1) ∧ Chg u w') := by rw [hA, hD, hP1, hf1]; exact beginning_any key nonce c
  have HM : Hid (∀ u, Calls Tryz.prog 85 #[.agg P1] u fun r w' => r = .returned (.agg P2) ∧ Chg u w') := by rw [hP1, hP2, hf2]; exact mixed_any f1
  have HF : Hid (f1 = ini key c nonce ∧ f2 = rds 10 (ini key c nonce) ∧ P1 = wa 16 f1 ∧ P2 = wa 16 f2) := ⟨hf1, by rw [hf2, hf1], hP1, hP2⟩
  have hs1 : (Tryz.prog.info? 84).map (·.size) = some P1.size := by rw [hP1]; exact szW f1
  have hl1 : (wa 16 zW).size = P1.size := by rw [hP1]; exact lenW 16 zW f1
  have ho1 : P1.all (·.oneCell') = true := by rw [hP1]; exact wa_one 16 f1
  have hs2 : (Tryz.prog.info? 84).map (·.size) = some P2.size := by rw [hP2]; exact szW f2
  have hl2 : (wa 16 zW).size = P2.size := by rw [hP2]; exact lenW 16 zW f2
  have ho2 : P2.all (·.oneCell') = true := by rw [hP2]; exact wa_one 16 f2
  rw [← hA, ← hD]
  clear hA hD hf1 hf2 hP1 hP2
  have hz := zero42.1
  have hz2 := zero28.1
  go_enter Tryz.func64, Tryz.ntmps64
  go_upto_region 1 with fail
  obtain ⟨w3, hw3⟩ : ∃ w3, w3 = ((w.alloc (.cells A 40)).alloc (.cells D 25)).alloc (.cells (ba 64 zB) 60) := ⟨_, rfl⟩
  have Z3 : Hid (Chg w w3 ∧ Ar w3 (w.heap.size + 1 + 1) (ba 64 zB)) := by
    rw [hw3]
    exact ⟨(((Chg.refl w).alloc _).alloc _).alloc _, Ar.new2 w _ _ _ _⟩
  have gA : ∃ t, w3.heap[w.heap.size]? = some (.cells A t (0, 0)) := by rw [hw3]; exact ((Ar.new w _ _).alloc _).alloc _
  have gD : ∃ t, w3.heap[w.heap.size + 1]? = some (.cells D t (0, 0)) := by rw [hw3]; exact (Ar.new1 w _ _ _).alloc _
  rw [← hw3]
  clear hw3
  obtain ⟨tA, gA⟩ := gA
  obtain ⟨tD, gD⟩ := gD
  go_upto_region 2 with (first | refine wpList_load_row rfl 40 _ rfl _ rfl _ _ _ _ gA und22 rfl HSA.out.1 ?_ | refine wpList_load_row rfl 25 _ rfl _ rfl _ _ _ _ gD und24 rfl HSA.out.2 ?_ | (go_at_call 84; refine (HB.out _).mono ?_; rintro r w4 ⟨rfl, hc4⟩) | refine wpList_store_row rfl 84 _ _ rfl _ _ rfl rfl _ _ (heap_alloc_last w4 _) hs1 hl1 ho1 ?_)
  obtain ⟨B1, hB1⟩ : ∃ B, B = w4.heap.size := ⟨_, rfl⟩
  obtain ⟨w5, hw5⟩ : ∃ w5, w5 = (w4.alloc (.cells (wa 16 zW) 84)).setRow w4.heap.size P1 := ⟨_, rfl⟩
  have Z5 : Hid (Chg w w5 ∧ Ar w5 (w.heap.size + 1 + 1) (ba 64 zB) ∧ Ar w5 B1 P1 ∧ w.heap.size + 1 + 1 < B1) := by
    have k0 := Z3.out.1.trans hc4
    have k1 := Z3.out.2.chg hc4
    have k2 := k1.lt
    rw [hw5, hB1]
    exact ⟨(k0.alloc _).setRow k0.size _, (k1.alloc _).rowOther (by omega) _, (Ar.new w4 _ _).row _, k2⟩
  rw [← hw5, ← hB1]
  clear hw5 hB1 hc4 gA gD Z3 HSA
  obtain ⟨t5, g5⟩ := Z5.out.2.2.1
  dsimp only [Act.put]
  go_upto_region 3 with (first | refine wpList_load_row rfl 84 _ rfl _ rfl _ _ _ _ g5 und42 rfl hs1 ?_ | (go_at_call 85; refine (HM.out _).mono ?_; rintro r w6 ⟨rfl, hc6⟩) | refine wpList_store_row rfl 84 _ _ rfl _ _ rfl rfl _ _ (heap_alloc_last w6 _) hs2 hl2 ho2 ?_)
  obtain ⟨B2, hB2⟩ : ∃ B, B = w6.heap.size := ⟨_, rfl⟩
  obtain ⟨w7, hw7⟩ : ∃ w7, w7 = (w6.alloc (.cells (wa 16 zW) 84)).setRow w6.heap.size P2 := ⟨_, rfl⟩
  have hsz7 : Hid (w7.heap.size = B2 + 1) := by rw [hw7, hB2]; show _ = _; simp [World.setRow]
  have Z7 : Hid (Chg w w7 ∧ Ar w7 (w.heap.size + 1 + 1) (ba 64 zB) ∧ Ar w7 B1 P1 ∧ Ar w7 B2 P2 ∧ w.heap.size + 1 + 1 < B1 ∧ B1 < B2) := by
    have k0 := Z5.out.1.trans hc6
    have k1 := Z5.out.2.1.chg hc6
    have k3 := Z5.out.2.2.1.chg hc6
    have k2 := k1.lt
    have k4 := k3.lt
    rw [hw7, hB2]
    exact ⟨(k0.alloc _).setRow k0.size _, (k1.alloc _).rowOther (by omega) _, (k3.alloc _).rowOther (by omega) _, (Ar.new w6 _ _).row _, Z5.out.2.2.2, k4⟩
  rw [← hw7, ← hB2]
  clear hw7 hB2 hc6 g5 Z5 hs1 hs2 hl1 hl2 ho1 ho2 hz HB HM
  dsimp only [Act.put]
  go_wp2_with fail
  obtain ⟨g, hg⟩ : ∃ g, g = w7.heap.size := ⟨_, rfl⟩
  obtain ⟨w8, hw8⟩ : ∃ w8, w8 = w7.alloc (.cells (ba 64 zB) 60) := ⟨_, rfl⟩
  obtain ⟨F, hF⟩ : ∃ F, F = blk key c nonce := ⟨_, rfl⟩
  have HFF : Hid (F = blk key c nonce) := hF
  have Z8 : Hid (BkS w w8 B1 B2 g f1 f2 (upTo 0 F zB)) := by
    obtain ⟨k0, k1, k2, k3, k4, k5⟩ := Z7.out
    rw [HF.out.2.2.1] at k2
    rw [HF.out.2.2.2] at k3
    rw [hw8, hg, upTo_zero]
    exact ⟨k0.alloc _, k1.alloc _, k2.alloc _, k3.alloc _, Ar.new w7 _ _, k4, k5, by have := hsz7.out; omega⟩
  rw [← hw8, ← hg]
  clear hw8 hg hsz7 Z7 hF hz2
  go_loopw [18] (fun v wr => ∃ (i : Nat), v = .int .i64 i ∧ i ≤ 64 ∧ BkS w wr B1 B2 g f1 f2 (upTo i F zB)) (fun v wr => 64 - (intOf v).toNat)
  case atStart => exact ⟨0, rfl, by omega, Z8.out⟩
  case round =>
    clear Z8
    obtain ⟨i, rfl, hi, hz0⟩ := hrel
    have Z : Hid (BkS w wr B1 B2 g f1 f2 (upTo i F zB)) := hz0
    by_cases hlt : i < 64
    · have hd : decide ((i : Int) < 64) = true := by simp; omega
      have li : (i : Int) < 64 := by omega
      obtain ⟨q, r, s, e1, e2, e3, v1, v2, v3, l1, l2, l3, HQ⟩ := dm4 i hlt
      have lq : q < 16 := by omega
      have c1 := (hz0.w1.cell q).trans (wa_get 16 _ lq)
      have c2 := (hz0.w2.cell q).trans (wa_get 16 _ lq)
      have c3 := (hz0.out.cell i).trans (ba_get 64 _ hlt)
      have k3 := hz0.out.frozen i
      obtain ⟨x1, hx1⟩ : ∃ x, x = f1 q := ⟨_, rfl⟩
      obtain ⟨x2, hx2⟩ : ∃ x, x = f2 q := ⟨_, rfl⟩
      obtain ⟨x3, hx3⟩ : ∃ x, x = upTo i F zB i := ⟨_, rfl⟩
      rw [← hx1] at c1
      rw [← hx2] at c2
      rw [← hx3] at c3
      obtain ⟨y, Hy, ey⟩ := nmAdd x1 x2
      obtain ⟨z, Hz, ez⟩ := nmByte y s
      have HZ : Hid (z = F i) := by
        show z = _
        rw [Hz.out, Hy.out, hx1, hx2, HFF.out, blk, HQ.out.1, HQ.out.2.2, HF.out.1, HF.out.2.1]
      clear hx1 hx2 hx3 hz0 Hy Hz lq
      go_wp2_with fail
      go_quiet (fail)
      all_goals go_wp2
      all_goals
        go_roundw
        case rel =>
          refine ⟨i + 1, by go_num, by omega, ?_⟩
          have hh := (Z.out.drewN nq).set i z
          rw [HZ.out, upTo_upd i F zB, ← HZ.out] at hh
          exact hh
        case measure => simp [intOf]; omega
    · have : i = 64 := by omega
      subst this
      have ho := hz0.out
      rw [upTo_all] at ho
      have HO : Hid (Chg w wr ∧ Ar wr (w.heap.size + 1 + 1) (ba 64 zB)) := ⟨hz0.chg, hz0.res⟩
      clear hz0 Z
      obtain ⟨t1, g1⟩ := ho
      obtain ⟨t3, g3⟩ := HO.out.2
      have hsz := szB F i28
      have hlen := lenB 64 zB F
      have hone := ba_one 64 F
      go_wp2_with (first | refine wpList_load_row rfl 60 _ rfl _ rfl _ _ _ _ g1 und28 rfl hsz ?_ | refine wpList_store_row rfl 60 _ _ rfl _ _ rfl rfl _ _ g3 hsz hlen hone ?_)
      refine bp_c (n := 64) (c := ba 64 F) Tryz.results64 rfl rfl ?_ und28 i28 (ba_size _ _) ⟨by rw [HFF.out], ?_⟩
      · exact HO.out.2.row _
      · exact HO.out.1.setRow (by omega) _
end Go.Proofs.YtobglgddbhddnaaGreat.Cha

namespace Go.Proofs.YtobglgddbhddnaaGreat.Cha
open Go.RowKit
set_option linter.unusedVariables false

theorem nameXor (x y : By) : ∃ z : By, Hid (z = x ^^^ y) ∧ Go.bits .xor .u8 (x.toNat : Int) (y.toNat : Int) = (z.toNat : Int) := ⟨_, rfl, xorB x y⟩
theorem nmInc (x : Wd) : ∃ z : Wd, Hid (z = x + 1#32) ∧ IntKind.u32.wrap ((x.toNat : Int) + 1) = (z.toNat : Int) := ⟨_, rfl, by rw [BitVec.toNat_add, IntKind.wrap_u32]; simp⟩
theorem stF_at (key nonce txt : Nat → By) (c : Wd) {m i : Nat} (hi : i < 64) : stF key c nonce txt (64 * m + i) = txt (64 * m + i) ^^^ blk key (c + BitVec.ofNat 32 m) nonce i := by
  unfold stF
  rw [show (64 * m + i) / 64 = m by omega, show (64 * m + i) % 64 = i by omega]
theorem cnt_succ (c : Wd) (m : Nat) : c + BitVec.ofNat 32 m + 1#32 = c + BitVec.ofNat 32 (m + 1) := by
  rw [BitVec.add_assoc]
  congr 1
  apply BitVec.eq_of_toNat_eq
  simp [BitVec.toNat_add]

/-- What stands while a text is streamed. -/
structure StS (w wr : World) (n : Nat) (key nonce F : Nat → By) (p : Nat) : Prop where
  chg : Chg w wr
  key : Ar wr w.heap.size (ba 32 key)
  non : Ar wr (w.heap.size + 1) (ba 12 nonce)
  out : Ar wr (w.heap.size + 1 + 1) (ba n (upTo p F zB))
theorem StS.to {w wr u : World} {n p : Nat} {key nonce F : Nat → By} (h : StS w wr n key nonce F p) (k : Chg wr u) : StS w u n key nonce F p := ⟨h.chg.trans k, h.key.chg k, h.non.chg k, h.out.chg k⟩

set_option maxRecDepth 100000 in
set_option maxHeartbeats 4000000 in
theorem streamNil_any (key nonce txt : Nat → By) (c : Wd) (ao : Option Addr) (cap : Nat) (w : World) :
    Calls Tryz.prog 48 #[.agg (ba 32 key), .int .u32 (c.toNat : Int), .agg (ba 12 nonce), .slice ao 0 cap] w fun r w' => ∃ g, r = .returned (.slice (some ⟨g, 0, none⟩) 0 0) ∧ w.heap.size ≤ g ∧ Chg w w' ∧ Ar w' g (ba 0 (stF key c nonce txt)) := by
  obtain ⟨A, hA⟩ : ∃ A, A = ba 32 key := ⟨_, rfl⟩
  obtain ⟨D, hD⟩ : ∃ D, D = ba 12 nonce := ⟨_, rfl⟩
  have hsA : A.size = 32 := by rw [hA]; exact ba_size _ _
  have hsD : D.size = 12 := by rw [hD]; exact ba_size _ _
  rw [← hA, ← hD]
  clear hA hD
  have hmk : ∀ u, (Instr.makeSlice 24 (.int .i64 0) (.int .i64 0)).run Tryz.prog u = .ok (.slice (some ⟨u.heap.size, 0, none⟩) 0 0) (u.alloc (.cells (ba 0 zB) 5)) := mk22 0 (by decide)
  go_enter Tryz.func48, Tryz.ntmps48
  go_wp2_with fail
  go_loopw [10] (fun v wr => v = .int .i64 0 ∧ wr = ((w.alloc (.cells A 40)).alloc (.cells D 25)).alloc (.cells (ba 0 zB) 5)) (fun v wr => 0)
  case atStart => exact ⟨rfl, rfl⟩
  case round =>
    obtain ⟨rfl, rfl⟩ := hrel
    go_wp2
    go_ret
    refine ⟨w.heap.size + 1 + 1, rfl, by omega, (((Chg.refl w).alloc _).alloc _).alloc _, ?_⟩
    exact Ar.new2 w _ _ (ba 0 zB) 5

set_option maxRecDepth 100000 in
set_option maxHeartbeats 4000000 in
theorem stream_any (tb tt n cap : Nat) (key nonce txt : Nat → By) (c : Wd) (w : World) (ht : Bs w tb tt n txt) (hn : 0 < n) (hn' : n ≤ 140737488351232) :
    Calls Tryz.prog 48 #[.agg (ba 32 key), .int .u32 (c.toNat : Int), .agg (ba 12 nonce), .slice (some ⟨tb, tt, none⟩) n cap] w fun r w' => ∃ g, r = .returned (.slice (some ⟨g, 0, none⟩) n n) ∧ w.heap.size ≤ g ∧ Chg w w' ∧ Ar w' g (ba n (stF key c nonce txt)) := by
  obtain ⟨A, hA⟩ : ∃ A, A = ba 32 key := ⟨_, rfl⟩
  obtain ⟨D, hD⟩ : ∃ D, D = ba 12 nonce := ⟨_, rfl⟩
  have hsA : A.size = 32 := by rw [hA]; exact ba_size _ _
  have hsD : D.size = 12 := by rw [hD]; exact ba_size _ _
  have HSA : Hid ((Tryz.prog.info? 40).map (·.size) = some A.size ∧ (Tryz.prog.info? 25).map (·.size) = some D.size) := ⟨by rw [hA]; exact szB key i22, by rw [hD]; exact szB nonce i24⟩
  have HAD : Hid (A = ba 32 key ∧ D = ba 12 nonce) := ⟨hA, hD⟩
  rw [← hA, ← hD]
  clear hA hD
  have HX : Hid (Bs w tb tt n txt) := ht
  clear ht
  have hmk := mk22 n (by omega)
  have hz := zero28.1
  go_enter Tryz.func48, Tryz.ntmps48
  go_wp2_with fail
  obtain ⟨w3, hw3⟩ : ∃ w3, w3 = ((w.alloc (.cells A 40)).alloc (.cells D 25)).alloc (.cells (ba n zB) 5) := ⟨_, rfl⟩
  obtain ⟨F, hF⟩ : ∃ F, F = stF key c nonce txt := ⟨_, rfl⟩
  have HF : Hid (F = stF key c nonce txt) := hF
  have Z3 : Hid (StS w w3 n key nonce F 0) := by
    rw [hw3, HAD.out.1, HAD.out.2]
    refine ⟨(((Chg.refl w).alloc _).alloc _).alloc _, ((Ar.new w _ _).alloc _).alloc _, (Ar.new1 w _ _ _).alloc _, ?_⟩
    rw [upTo_zero]
    exact Ar.new2 w _ _ _ _
  rw [← hw3]
  clear hw3 hmk hsA hsD hF
  go_loopw [1, 10] (fun v1 v10 wr => ∃ (m : Nat), v1 = .int .u32 ((c + BitVec.ofNat 32 m).toNat : Int) ∧ v10 = .int .i64 ((64 * m : Nat) : Int) ∧ 64 * m ≤ n + 64 ∧ StS w wr n key nonce F (64 * m)) (fun v1 v10 wr => n - (intOf v10).toNat)
  case atStart => exact ⟨0, by simp, rfl, by omega, Z3.out⟩
  case round =>
    clear Z3
    obtain ⟨m, rfl, rfl, hm, hz3⟩ := hrel
    have Z : Hid (StS w wr n key nonce F (64 * m)) := hz3
    clear hz3
    obtain ⟨fr, hfr⟩ : ∃ fr : Nat, fr = 64 * m := ⟨_, rfl⟩
    obtain ⟨cm, hcm⟩ : ∃ cm, cm = c + BitVec.ofNat 32 m := ⟨_, rfl⟩
    rw [← hfr, ← hcm]
    have HFR : Hid (fr = 64 * m) := hfr
    have HCM : Hid (cm = c + BitVec.ofNat 32 m) := hcm
    have hfn : fr ≤ n + 64 := by omega
    clear hfr hm hcm
    by_cases hlt : fr < n
    · have hd : decide ((fr : Int) < n) = true := by simp; omega
      have lfr : (fr : Int) < n := by omega
      obtain ⟨P, hP⟩ : ∃ P, P = blk key cm nonce := ⟨_, rfl⟩
      have HP : Hid (P = blk key cm nonce) := hP
      have HE : Hid (Calls Tryz.prog 64 #[.agg A, .int .u32 (cm.toNat : Int), .agg D] wr fun r w' => r = .returned (.agg (ba 64 P)) ∧ Chg wr w') := by
        rw [hP, HAD.out.1, HAD.out.2]
        exact block_any key nonce cm wr
      obtain ⟨tA, gA⟩ := Z.out.key
      obtain ⟨tD, gD⟩ := Z.out.non
      rw [← HAD.out.1] at gA
      rw [← HAD.out.2] at gD
      have hszP := szB P i28
      have hlenP := lenB 64 zB P
      have honeP := ba_one 64 P
      obtain ⟨rest, hrest⟩ : ∃ rest : Nat, (n : Int) - fr = rest := ⟨n - fr, by omega⟩
      have wrest := wrap_i (x := (rest : Int)) (by omega) (by omega)
      obtain ⟨q, hq⟩ : ∃ q : Nat, q = min 64 rest := ⟨_, rfl⟩
      have hmin : min (64 : Int) (rest : Int) = q := by omega
      have HQ : Hid (rest = n - fr ∧ q = min 64 rest) := ⟨by omega, hq⟩
      have hq16 : q ≤ 64 := by omega
      have hqr : fr + q ≤ n := by omega
      clear hP hq
      go_upto_region 6 with (first | refine wpList_load_row rfl 40 _ rfl _ rfl _ _ _ _ gA und22 rfl HSA.out.1 ?_ | refine wpList_load_row rfl 25 _ rfl _ rfl _ _ _ _ gD und24 rfl HSA.out.2 ?_ | (go_at_call 64; refine HE.out.mono ?_; rintro r w4 ⟨rfl, hc4⟩) | refine wpList_store_row rfl 60 _ _ rfl _ _ rfl rfl _ _ (heap_alloc_last w4 _) hszP hlenP honeP ?_)
      obtain ⟨pb, hpb⟩ : ∃ pb, pb = w4.heap.size := ⟨_, rfl⟩
      obtain ⟨w5, hw5⟩ : ∃ w5, w5 = (w4.alloc (.cells (ba 64 zB) 60)).setRow w4.heap.size (ba 64 P) := ⟨_, rfl⟩
      have Z5 : Hid (StS w w5 n key nonce F fr ∧ Ar w5 pb (ba 64 P) ∧ w.heap.size + 1 + 1 < pb) := by
        have h4 := Z.out.to hc4
        rw [← HFR.out] at h4
        have e1 := h4.key.lt
        have e2 := h4.non.lt
        have e3 := h4.out.lt
        rw [hw5, hpb]
        exact ⟨⟨(h4.chg.alloc _).setRow h4.chg.size _, (h4.key.alloc _).rowOther (by omega) _, (h4.non.alloc _).rowOther (by omega) _, (h4.out.alloc _).rowOther (by omega) _⟩, (Ar.new w4 _ _).row _, e3⟩
      rw [← hw5, ← hpb]
      clear hw5 hpb hc4 gA gD hszP hlenP honeP HE hz
      dsimp only [Act.put]
      go_cut [30, 31] from 26 to 29 (fun v29 v30 wc => v29 = .int .i64 (q : Int) ∧ v30 = .int .i64 0 ∧ wc = w5)
      case first =>
        go_wp2_with fail
        all_goals go_meet
        all_goals
          refine ⟨?_, rfl, rfl⟩
          first
            | rw [← hmin, Int.min_eq_right (by omega)]
            | rw [← hmin, Int.min_eq_left (by omega)]
      obtain ⟨rfl, rfl, hwc⟩ := hcut
      rw [hwc]
      clear hwc
      go_wp2_with fail
      go_loopw [31] (fun v wr => ∃ (i : Nat), v = .int .i64 i ∧ i ≤ q ∧ StS w wr n key nonce F (fr + i) ∧ Ar wr pb (ba 64 P)) (fun v wr => q - (intOf v).toNat)
      case atStart => exact ⟨0, rfl, by omega, Z5.out.1, Z5.out.2.1⟩
      case round =>
        obtain ⟨i, rfl, hi, hz6, hp6⟩ := hrel
        have Z6 : Hid (StS w wr n key nonce F (fr + i) ∧ Ar wr pb (ba 64 P)) := ⟨hz6, hp6⟩
        by_cases hiq : i < q
        · have hd2 : decide ((i : Int) < q) = true := by simp; omega
          have li : (i : Int) < 64 := by omega
          obtain ⟨fi, hfi⟩ : ∃ fi : Nat, (fr : Int) + i = fi := ⟨fr + i, by omega⟩
          have wfi := wrap_i (x := (fi : Int)) (by omega) (by omega)
          have lfi : (fi : Int) < n := by omega
          have lfi' : fi < n := by omega
          have c1 := (HX.out.chg hz6.chg) fi lfi'
          have c2 := (hp6.cell i).trans (ba_get 64 P (by omega))
          have c3 := (hz6.out.cell fi).trans (ba_get n _ lfi')
          have f3 := hz6.out.frozen fi
          obtain ⟨x1, hx1⟩ : ∃ x, x = txt fi := ⟨_, rfl⟩
          obtain ⟨x2, hx2⟩ : ∃ x, x = P i := ⟨_, rfl⟩
          obtain ⟨x3, hx3⟩ : ∃ x, x = upTo (fr + i) F zB fi := ⟨_, rfl⟩
          rw [← hx1] at c1
          rw [← hx2] at c2
          rw [← hx3] at c3
          obtain ⟨y, Hy, ey⟩ := nameXor x1 x2
          have HY : Hid (y = F fi ∧ fi = fr + i) := by
            refine ⟨?_, by omega⟩
            have e : fi = 64 * m + i := by have := HFR.out; omega
            rw [Hy.out, HF.out, hx1, hx2, e, stF_at key nonce txt c (by omega), HP.out, HCM.out]
          clear hx1 hx2 hx3 hz6 hp6 Hy
          go_wp2_with fail
          go_region_with (fail)
          all_goals go_wp2
          all_goals
            go_roundw
            case rel =>
              obtain ⟨k1, k2⟩ := Z6.out
              have h3 := Z5.out.2.2
              refine ⟨i + 1, by go_num, by omega, ⟨(k1.chg.setCell (by dsimp only; omega) _).drew, (k1.key.other (by dsimp only; omega) _).drew, (k1.non.other (by dsimp only; omega) _).drew, ?_⟩, (k2.other (by dsimp only; omega) _).drew⟩
              have hh := k1.out.set fi (.int .u8 (y.toNat : Int))
              rw [ba_set, HY.out.1, HY.out.2, upTo_upd (fr + i) F zB] at hh
              rw [HY.out.1, HY.out.2]
              exact hh.drew
            case measure => simp [intOf]; omega
        · have hiq2 : i = q := by omega
          subst hiq2
          have hd2 : decide ((i : Int) < i) = false := by simp
          clear hz6 hp6
          obtain ⟨c2, Hc2, ec2⟩ := nmInc cm
          go_wp2_with fail
          go_roundw
          case rel =>
            have k1 := Z6.out.1
            have hq := HQ.out
            have hf := HFR.out
            refine ⟨m + 1, ?_, by rw [hf]; go_num, by omega, ⟨k1.chg, k1.key, k1.non, ?_⟩⟩
            · rw [Hc2.out, HCM.out, cnt_succ]
            · have e : ba n (upTo (64 * (m + 1)) F zB) = ba n (upTo (fr + i) F zB) := ba_congr fun j hj => by
                unfold upTo
                by_cases e1 : j < 64 * (m + 1)
                · have e2 : j < fr + i := by omega
                  simp [e1, e2]
                · have e2 : ¬ j < fr + i := by omega
                  simp [e1, e2]
              rw [e]
              exact k1.out
          case measure => simp [intOf]; omega
    · have hd : decide ((fr : Int) < n) = false := by simp; omega
      go_wp2
      go_ret
      have k1 := Z.out
      have hf := HFR.out
      refine ⟨w.heap.size + 1 + 1, rfl, by omega, k1.chg, ?_⟩
      have e : ba n (upTo (64 * m) F zB) = ba n (stF key c nonce txt) := ba_congr fun j hj => by
        have e1 : j < 64 * m := by omega
        simp only [upTo, e1, if_true, HF.out]
      rw [← e]
      exact k1.out

theorem streamV_any (n : Nat) (key nonce txt : Nat → By) (c : Wd) (v : Value) (w : World) (hv : Ap.Rd w v (nums n txt)) (hn' : n ≤ 140737488351232) :
    Calls Tryz.prog 48 #[.agg (ba 32 key), .int .u32 (c.toNat : Int), .agg (ba 12 nonce), v] w fun r w' => ∃ g, r = .returned (.slice (some ⟨g, 0, none⟩) n n) ∧ w.heap.size ≤ g ∧ Chg w w' ∧ Ar w' g (ba n (stF key c nonce txt)) := by
  by_cases h : n = 0
  · subst h
    obtain ⟨ao, m, c', rfl, hm, _⟩ := hv.shape
    rw [nums_len] at hm
    subst hm
    exact streamNil_any key nonce txt c ao c' w
  · obtain ⟨b, o, c', rfl, h1, h2, h3⟩ := Rd.bs hv (by omega)
    exact stream_any b o n c' key nonce txt c w h3 (by omega) hn'
end Go.Proofs.YtobglgddbhddnaaGreat.Cha
