/-
  The document's tag, and its Seal.
  What the document opens.
  What is locked up is the document's, and is opened as the text: GcmSeals walked.
  Any bytes are opened, or refused, as the document says; what is opened is what is made of the answer: GcmOpens walked.
-/
import Derived.Test.YtobglgddbhddnaaGreatJ16
import Derived.Test.YtobglgddbhddnaaGreatJ18
import Derived.Test.YtobglgddbhddnaaGreatJ10
import Derived.Lib.Bytes
import Derived.Test.YtobglgddbhddnaaGreatJ11
namespace Go.Proofs.YtobglgddbhddnaaGreat
open Go.RowKit
set_option linter.unusedVariables false

/-- What stands while the document makes a tag. -/
structure RTS (w wr : World) (Bx By' : Nat) (x y : Nat → By) (v : Value) (i : Nat) : Prop where
  own : OwnN w wr v (nums i (xr x y))
  x : Ar wr Bx (ba 16 x)
  y : Ar wr By' (ba 16 y)
  ne : ∀ b, v.ownBlock = some b → Bx < b ∧ By' < b

set_option maxRecDepth 100000 in
set_option maxHeartbeats 8000000 in
theorem refTag_any (K R : Nat) (k nc ta tx : Nat → By) (na nx : Nat) (va vx : Value) (w : World) (hK : Ar w K (rkeyC R k)) (hR : R = 10 ∨ R = 14) (hva : Ap.Rd w va (nums na ta)) (hvx : Ap.Rd w vx (nums nx tx)) (hT : 16 * (nb na + nb nx + 1) ≤ 140737488355328) (hna : na ≤ 140737488351232) (hnx : nx ≤ 140737488351232) :
    Calls Tryz.prog 25 #[.pointer (some ⟨K, 0, none⟩), .agg (ba 12 nc), va, vx] w fun r w' => ∃ v, r = .returned v ∧ OwnN w w' v (nums 16 (tagF R k nc ta na tx nx)) := by
  obtain ⟨ao, m1, ca, rfl, hm1, -⟩ := hva.shape
  obtain ⟨xo, m2, cx, rfl, hm2, -⟩ := hvx.shape
  rw [nums_len] at hm1 hm2
  subst hm1 hm2
  obtain ⟨e0, he0⟩ : ∃ e, e = enc R k zB := ⟨_, rfl⟩
  obtain ⟨c1, hc1⟩ : ∃ c, c = ctrB nc 1#8 := ⟨_, rfl⟩
  obtain ⟨g, hg⟩ : ∃ g, g = ghash e0 ta m1 tx m2 := ⟨_, rfl⟩
  obtain ⟨p, hp⟩ : ∃ p, p = enc R k c1 := ⟨_, rfl⟩
  have HT : Hid (xr g p = tagF R k nc ta m1 tx m2) := by
    show _ = _
    rw [hg, hp, hc1, he0]
    rfl
  have C1 : Hid (∀ u, Chg w u → Calls Tryz.prog 39 #[.pointer (some ⟨K, 0, none⟩), .agg (ba 16 zB)] u fun r w' => r = .returned (.agg (ba 16 e0)) ∧ Chg u w') := by
    rw [he0]
    exact fun u c => refEncrypt_any K R k zB u (hK.chg c) hR
  have C2 : Hid (∀ u, Chg w u → Calls Tryz.prog 40 #[.agg (ba 16 e0), .slice ao m1 ca, .slice xo m2 cx] u fun r w' => r = .returned (.agg (ba 16 g)) ∧ Chg u w') := by
    rw [hg]
    exact fun u c => refHash_any e0 ta tx m1 m2 ca cx ao xo u (Rd.chg hva c) (Rd.chg hvx c) hT hna hnx
  have C3 : Hid (∀ u, Calls Tryz.prog 37 #[.agg (ba 12 nc)] u fun r w' => r = .returned (.agg (ba 16 c1)) ∧ Chg u w') := by
    rw [hc1]
    exact refFirst_any nc
  have C4 : Hid (∀ u, Chg w u → Calls Tryz.prog 39 #[.pointer (some ⟨K, 0, none⟩), .agg (ba 16 c1)] u fun r w' => r = .returned (.agg (ba 16 p)) ∧ Chg u w') := by
    rw [hp]
    exact fun u c => refEncrypt_any K R k c1 u (hK.chg c) hR
  have hsA := ba_size 12 nc
  have hszA := szB nc zero38.2
  have se := szB e0 zero32.2
  have le := lenB 16 zB e0
  have oe := ba_one 16 e0
  have hsg := szB g zero32.2
  have hlg := lenB 16 zB g
  have hog := ba_one 16 g
  have hsp := szB p zero32.2
  have hlp := lenB 16 zB p
  have hop := ba_one 16 p
  obtain ⟨A, hA⟩ : ∃ A, A = ba 12 nc := ⟨_, rfl⟩
  rw [← hA] at hsA hszA C3 ⊢
  clear hA he0 hc1 hg hp hva hvx hK hT
  have hz := zero32.1
  go_enter Tryz.func25, Tryz.ntmps25
  go_upto_region 1 with fail
  obtain ⟨w1, hw1⟩ : ∃ w1, w1 = w.alloc (.cells A 25) := ⟨_, rfl⟩
  have Z1 : Hid (Chg w w1 ∧ Ar w1 w.heap.size A) := by
    rw [hw1]
    exact ⟨(Chg.refl w).alloc _, Ar.new w _ _⟩
  rw [← hw1]
  clear hw1 hsA
  go_wp2_with fail
  go_at_call 39
  refine (C1.out _ Z1.out.1).mono ?_
  rintro r w2 ⟨rfl, hc2⟩
  have Z2 : Hid (Chg w w2 ∧ Ar w2 w.heap.size A) := ⟨Z1.out.1.trans hc2, Z1.out.2.chg hc2⟩
  clear hc2 Z1 C1
  go_upto_region 2 with (first | refine wpList_store_row rfl 62 _ _ rfl _ _ rfl rfl _ _ (heap_alloc_last w2 _) se le oe ?_)
  obtain ⟨Be, hBe⟩ : ∃ Be, Be = w2.heap.size := ⟨_, rfl⟩
  obtain ⟨w3, hw3⟩ : ∃ w3, w3 = (w2.alloc (.cells (ba 16 zB) 62)).setRow w2.heap.size (ba 16 e0) := ⟨_, rfl⟩
  have Z3 : Hid (Chg w w3 ∧ Ar w3 w.heap.size A ∧ Ar w3 Be (ba 16 e0)) := by
    obtain ⟨k0, k1⟩ := Z2.out
    have e1 := k1.lt
    rw [hw3, hBe]
    exact ⟨(k0.alloc _).setRow k0.size _, (k1.alloc _).rowOther (by omega) _, (Ar.new w2 _ _).row _⟩
  rw [← hw3, ← hBe]
  obtain ⟨tE, gE⟩ := Z3.out.2.2
  clear hw3 hBe Z2 le oe
  dsimp only [Act.put]
  go_wp2_with (first | refine wpList_load_row rfl 62 _ rfl _ rfl _ _ _ _ gE und32 rfl se ?_)
  go_at_call 40
  refine (C2.out _ Z3.out.1).mono ?_
  rintro r w4 ⟨rfl, hc4⟩
  have Z4 : Hid (Chg w w4 ∧ Ar w4 w.heap.size A) := ⟨Z3.out.1.trans hc4, Z3.out.2.1.chg hc4⟩
  clear hc4 Z3 C2 gE se
  go_upto_region 3 with (first | refine wpList_store_row rfl 62 _ _ rfl _ _ rfl rfl _ _ (heap_alloc_last w4 _) hsg hlg hog ?_)
  obtain ⟨Bx, hBx⟩ : ∃ Bx, Bx = w4.heap.size := ⟨_, rfl⟩
  obtain ⟨w5, hw5⟩ : ∃ w5, w5 = (w4.alloc (.cells (ba 16 zB) 62)).setRow w4.heap.size (ba 16 g) := ⟨_, rfl⟩
  have Z5 : Hid (Chg w w5 ∧ Ar w5 w.heap.size A ∧ Ar w5 Bx (ba 16 g)) := by
    obtain ⟨k0, k1⟩ := Z4.out
    have e1 := k1.lt
    rw [hw5, hBx]
    exact ⟨(k0.alloc _).setRow k0.size _, (k1.alloc _).rowOther (by omega) _, (Ar.new w4 _ _).row _⟩
  rw [← hw5, ← hBx]
  obtain ⟨tA, gA⟩ := Z5.out.2.1
  clear hw5 hBx Z4 hsg hlg hog
  dsimp only [Act.put]
  go_wp2_with (first | refine wpList_load_row rfl 25 _ rfl _ rfl _ _ _ _ gA und38 rfl hszA ?_)
  go_at_call 37
  refine (C3.out _).mono ?_
  rintro r w6 ⟨rfl, hc6⟩
  have Z6 : Hid (Chg w w6 ∧ Ar w6 Bx (ba 16 g)) := ⟨Z5.out.1.trans hc6, Z5.out.2.2.chg hc6⟩
  clear hc6 Z5 C3 gA hszA
  go_wp2_with fail
  go_at_call 39
  refine (C4.out _ Z6.out.1).mono ?_
  rintro r w7 ⟨rfl, hc7⟩
  have Z7 : Hid (Chg w w7 ∧ Ar w7 Bx (ba 16 g)) := ⟨Z6.out.1.trans hc7, Z6.out.2.chg hc7⟩
  clear hc7 Z6 C4
  go_upto_region 4 with (first | refine wpList_store_row rfl 62 _ _ rfl _ _ rfl rfl _ _ (heap_alloc_last w7 _) hsp hlp hop ?_)
  obtain ⟨Bp, hBp⟩ : ∃ Bp, Bp = w7.heap.size := ⟨_, rfl⟩
  obtain ⟨w8, hw8⟩ : ∃ w8, w8 = (w7.alloc (.cells (ba 16 zB) 62)).setRow w7.heap.size (ba 16 p) := ⟨_, rfl⟩
  have Z8 : Hid (RTS w w8 Bx Bp g p (.slice none 0 0) 0) := by
    obtain ⟨k0, k1⟩ := Z7.out
    have e1 := k1.lt
    rw [hw8, hBp]
    exact ⟨⟨.inl ⟨rfl, rfl⟩, fun b h => (by simp [Value.ownBlock] at h), (k0.alloc _).setRow k0.size _⟩, (k1.alloc _).rowOther (by omega) _, (Ar.new w7 _ _).row _, fun b h => (by simp [Value.ownBlock] at h)⟩
  rw [← hw8, ← hBp]
  clear hw8 hBp Z7 hsp hlp hop hz
  dsimp only [Act.put]
  go_wp2_with fail
  go_loopw [12, 13] (fun v v13 wr => ∃ (i : Nat), v13 = .int .i64 i ∧ i ≤ 16 ∧ RTS w wr Bx Bp g p v i) (fun v v13 wr => 16 - (intOf v13).toNat)
  case atStart => exact ⟨0, rfl, by omega, Z8.out⟩
  case round =>
    clear Z8
    obtain ⟨i, rfl, hi, hz3⟩ := hrel
    obtain ⟨vo, vm, vc, rfl, -⟩ := hz3.own.own.rd.shape
    have Z : Hid (RTS w wr Bx Bp g p (.slice vo vm vc) i) := hz3
    by_cases h16 : i < 16
    · have hd : decide ((i : Int) < 16) = true := by simp; omega
      have li : (i : Int) < 16 := by omega
      have c1 := (hz3.x.cell i).trans (ba_get 16 _ h16)
      have c2 := (hz3.y.cell i).trans (ba_get 16 _ h16)
      obtain ⟨x1, hx1⟩ : ∃ x, x = g i := ⟨_, rfl⟩
      obtain ⟨x2, hx2⟩ : ∃ x, x = p i := ⟨_, rfl⟩
      rw [← hx1] at c1
      rw [← hx2] at c2
      obtain ⟨y, Hy, ey⟩ := nameXor x1 x2
      have HY : Hid (y = xr g p i) := by
        show y = _
        rw [Hy.out, hx1, hx2, xr]
      have Zo : Hid (OwnN w wr.drew (.slice vo vm vc) (nums i (xr g p))) := ⟨hz3.own.own.keep (fun _ _ => rfl), hz3.own.new, hz3.own.chg.drew⟩
      have hl : (nums i (xr g p)).length + [(y.toNat : Int)].length ≤ 140737488355328 := by rw [nums_len]; simp; omega
      clear hx1 hx2 Hy hz3
      go_wp2_with fail
      go_region_law (refine step_app rfl (.tmp 29) (.tmp 37) rfl (.slice vo vm vc) (.slice (some ⟨wr.drew.heap.size, 0, none⟩) 1 1) (nums i (xr g p)) [(y.toNat : Int)] rfl rfl (Zo.out.alloc _).own (Ap.Rd.one wr.drew (y.toNat : Int)) hl ?_; intro v2 w9 o2 k2 b2)
      all_goals
        obtain ⟨ao2, m2', cc2, rfl, -⟩ := o2.rd.shape
        have Z7 : Hid (RTS w w9 Bx Bp g p (.slice ao2 m2' cc2) (i + 1)) := by
          have hne := Z.out.ne
          have k3 := (Zo.out.alloc (.cells #[.int .u8 (y.toNat : Int)] 5)).more o2 k2 b2
          have e0 := Z.out.x.lt
          have e1 := Z.out.y.lt
          refine ⟨?_, (Z.out.x.drew.alloc _).ap k2 (fun e => by have := hne _ e; omega), (Z.out.y.drew.alloc _).ap k2 (fun e => by have := hne _ e; omega), fun b e => ?_⟩
          · rw [nums_succ, ← HY.out]
            exact k3
          · rcases b2 with h | h
            · rw [h] at e
              exact hne b e
            · rw [h] at e
              injection e with e
              rw [← e]
              have e3 : (wr.alloc (.cells #[.int .u8 (y.toNat : Int)] 5)).heap.size = wr.heap.size + 1 := World.size_alloc _ _
              show Bx < (wr.alloc (.cells #[.int .u8 (y.toNat : Int)] 5)).heap.size ∧ Bp < (wr.alloc (.cells #[.int .u8 (y.toNat : Int)] 5)).heap.size
              omega
        clear o2 k2 b2 c1 c2
        go_wp2
        go_roundw
        case rel => exact ⟨i + 1, by go_num, by omega, Z7.out⟩
        case measure => simp [intOf]; omega
    · have hi2 : i = 16 := by omega
      have hd : decide ((i : Int) < 16) = false := by simp; omega
      clear hz3
      go_wp2
      go_ret
      refine ⟨_, rfl, ?_⟩
      rw [← HT.out, ← hi2]
      exact Z.out.own

set_option maxRecDepth 100000 in
set_option maxHeartbeats 4000000 in
theorem refSealBad_any (ao : Option Addr) (L cap : Nat) (nc : Nat → By) (va vx : Value) (w : World) (h1 : L ≠ 16) (h2 : L ≠ 32) :
    Calls Tryz.prog 15 #[.slice ao L cap, .agg (ba 12 nc), va, vx] w fun r w' => r = .returned (.tuple #[.slice none 0 0, .int .i64 1]) ∧ Chg w w' := by
  have hsA := ba_size 12 nc
  obtain ⟨A, hA⟩ : ∃ A, A = ba 12 nc := ⟨_, rfl⟩
  rw [← hA] at hsA ⊢
  clear hA
  go_enter Tryz.func15, Tryz.ntmps15
  go_wp2_with (first | (go_at_call 23; refine (refNewBad_any ao L cap _ h1 h2).mono ?_; rintro r w2 ⟨rfl, hw2⟩; rw [hw2]))
  go_ret2
  exact ⟨rfl, (Chg.refl w).alloc _⟩

set_option maxRecDepth 100000 in
set_option maxHeartbeats 4000000 in
theorem refSeal_any (kb ko cap L n R : Nat) (key nc ta tx : Nat → By) (na nx : Nat) (va vx : Value) (w : World) (hv : Bs w kb ko L key) (hL : L = 4 * n) (hn : n = 4 ∨ n = 8) (hR : R = n + 6) (hcap : L ≤ cap) (hcap' : cap ≤ 9223372036854775807)
    (hva : Ap.Rd w va (nums na ta)) (hvx : Ap.Rd w vx (nums nx tx)) (hna : na ≤ 1048576) (hnx : nx ≤ 1048592) :
    Calls Tryz.prog 15 #[.slice (some ⟨kb, ko, none⟩) L cap, .agg (ba 12 nc), va, vx] w fun r w' => ∃ k v, r = .returned (.tuple #[v, .int .i64 0]) ∧ OwnN w w' v (nums (nx + 16) (sealF R k nc ta na tx nx)) ∧ Ks n (4 * (R + 1)) key k := by
  have hsA := ba_size 12 nc
  have hszA := szB nc zero38.2
  have HX : Hid (Bs w kb ko L key ∧ L = 4 * n ∧ (n = 4 ∨ n = 8) ∧ R = n + 6 ∧ L ≤ cap ∧ cap ≤ 9223372036854775807 ∧ Ap.Rd w va (nums na ta) ∧ Ap.Rd w vx (nums nx tx) ∧ na ≤ 1048576 ∧ nx ≤ 1048592) := ⟨hv, hL, hn, hR, hcap, hcap', hva, hvx, hna, hnx⟩
  have hR2 : R = 10 ∨ R = 14 := by omega
  obtain ⟨A, hA⟩ : ∃ A, A = ba 12 nc := ⟨_, rfl⟩
  have HA : Hid (A = ba 12 nc) := hA
  rw [← hA] at hsA hszA ⊢
  clear hA hv hL hn hR hcap hcap' hva hvx hna hnx
  go_enter Tryz.func15, Tryz.ntmps15
  go_upto_region 1 with fail
  obtain ⟨w1, hw1⟩ : ∃ w1, w1 = w.alloc (.cells A 25) := ⟨_, rfl⟩
  have Z1 : Hid (Chg w w1 ∧ Ar w1 w.heap.size A) := by
    rw [hw1]
    exact ⟨(Chg.refl w).alloc _, Ar.new w _ _⟩
  rw [← hw1]
  clear hw1 hsA
  go_wp2_with fail
  go_at_call 23
  refine (refNew_any kb ko cap L n R key w1 (HX.out.1.chg Z1.out.1) HX.out.2.1 HX.out.2.2.1 HX.out.2.2.2.1 HX.out.2.2.2.2.1 HX.out.2.2.2.2.2.1).mono ?_
  rintro r w2 ⟨K, k, rfl, hK, hc2, hA, hks⟩
  have Z2 : Hid (Chg w w2 ∧ Ar w2 w.heap.size A ∧ Ar w2 K (rkeyC R k) ∧ Ks n (4 * (R + 1)) key k) := ⟨Z1.out.1.trans hc2, Z1.out.2.chg hc2, hA, hks⟩
  clear hK hc2 hA hks Z1
  obtain ⟨tA, gA⟩ := Z2.out.2.1
  have HS : Hid (Calls Tryz.prog 24 #[.pointer (some ⟨K, 0, none⟩), .agg A, vx] w2 fun r w' => ∃ v, r = .returned v ∧ OwnN w2 w' v (nums nx (stF R k (ctrB nc 2#8) tx))) := by
    rw [HA.out]
    obtain ⟨a1, a2, a3, a4, a5, a6, a7, a8, a9, a10⟩ := HX.out
    exact refStr_any K R nx k nc tx vx w2 Z2.out.2.2.1 hR2 (Rd.chg a8 Z2.out.1) (by omega)
  go_wp2_with (first | refine wpList_load_row rfl 25 _ rfl _ rfl _ _ _ _ gA und38 rfl hszA ?_)
  go_at_call 24
  refine HS.out.mono ?_
  rintro r w4 ⟨v, rfl, ho⟩
  obtain ⟨vo, vm, vc, rfl, -⟩ := ho.own.rd.shape
  obtain ⟨st, hst⟩ : ∃ st, st = stF R k (ctrB nc 2#8) tx := ⟨_, rfl⟩
  rw [← hst] at ho
  have HST : Hid (st = stF R k (ctrB nc 2#8) tx) := hst
  have Z4 : Hid (Chg w w4 ∧ Ar w4 w.heap.size A ∧ Ar w4 K (rkeyC R k) ∧ Ks n (4 * (R + 1)) key k ∧ OwnN w w4 (.slice vo vm vc) (nums nx st)) := by
    obtain ⟨k0, k1, k2, k3⟩ := Z2.out
    exact ⟨k0.trans ho.chg, k1.chg ho.chg, k2.chg ho.chg, k3, ⟨ho.own, fun b e => Nat.le_trans k0.size (ho.new b e), k0.trans ho.chg⟩⟩
  clear ho hst Z2 HS gA
  obtain ⟨tA, gA⟩ := Z4.out.2.1
  obtain ⟨T, hT⟩ : ∃ T, T = tagF R k nc ta na st nx := ⟨_, rfl⟩
  have HT : Hid (T = tagF R k nc ta na st nx) := hT
  have C2 : Hid (Calls Tryz.prog 25 #[.pointer (some ⟨K, 0, none⟩), .agg A, va, .slice vo vm vc] w4 fun r w' => ∃ v, r = .returned v ∧ OwnN w4 w' v (nums 16 T)) := by
    rw [hT, HA.out]
    obtain ⟨a1, a2, a3, a4, a5, a6, a7, a8, a9, a10⟩ := HX.out
    exact refTag_any K R k nc ta st na nx va _ w4 Z4.out.2.2.1 hR2 (Rd.chg a7 Z4.out.1) Z4.out.2.2.2.2.own.rd (by unfold nb; omega) (by omega) (by omega)
  clear hT
  go_wp2_with (first | refine wpList_load_row rfl 25 _ rfl _ rfl _ _ _ _ gA und38 rfl hszA ?_)
  go_at_call 25
  refine C2.out.mono ?_
  rintro r w5 ⟨v5, rfl, ho5⟩
  obtain ⟨uo, um, uc, rfl, -⟩ := ho5.own.rd.shape
  have Z5 : Hid (OwnN w w5 (.slice vo vm vc) (nums nx st) ∧ Ap.Rd w5 (.slice uo um uc) (nums 16 T) ∧ Ks n (4 * (R + 1)) key k) :=
    ⟨⟨OwnV.chg Z4.out.2.2.2.2.own ho5.chg, Z4.out.2.2.2.2.new, Z4.out.1.trans ho5.chg⟩, ho5.own.rd, Z4.out.2.2.2.1⟩
  clear ho5 Z4 C2 gA hszA
  have hl : (nums nx st).length + (nums 16 T).length ≤ 140737488355328 := by
    rw [nums_len, nums_len]
    have := HX.out.2.2.2.2.2.2.2.2.2
    omega
  go_wp2_with (at_builtin; refine Ap.wpList_app _ rfl _ _ rfl (.slice vo vm vc) (.slice uo um uc) (nums nx st) (nums 16 T) rfl rfl Z5.out.1.own Z5.out.2.1 hl ?_)
  intro v2 w7 o2 k2 b2
  have k7 := Z5.out.1.more o2 k2 b2
  rw [HT.out, HST.out, nums_seal] at k7
  obtain ⟨ao2, m2, cc2, rfl, -⟩ := o2.rd.shape
  have Z7 : Hid (OwnN w w7 (.slice ao2 m2 cc2) (nums (nx + 16) (sealF R k nc ta na tx nx))) := k7
  clear o2 k2 b2 k7
  go_wp2
  go_ret2
  exact ⟨k, _, rfl, Z7.out, Z5.out.2.2⟩
end Go.Proofs.YtobglgddbhddnaaGreat

namespace Go.Proofs.YtobglgddbhddnaaGreat
open Go.RowKit
set_option linter.unusedVariables false

theorem str_inj {n : Nat} {f g : Nat → By} : ((strOfNums (nums n f)).toList == (strOfNums (nums n g)).toList) = sameB n f g := by
  rw [Lib.strOfNums_toList, Lib.strOfNums_toList, Bool.eq_iff_iff, beq_iff_eq, sameB_iff]
  constructor
  · intro h j hj
    have h1 : (Lib.bytesOf (nums n f))[j]? = (Lib.bytesOf (nums n g))[j]? := by rw [h]
    simp only [Lib.bytesOf, List.getElem?_map, nums_get n f hj, nums_get n g hj, Option.map_some, Option.some.injEq] at h1
    have h2 := congrArg UInt8.toNat h1
    have e1 := (f j).isLt
    have e2 := (g j).isLt
    rw [UInt8.toNat_ofNat', UInt8.toNat_ofNat'] at h2
    exact BitVec.eq_of_toNat_eq (by omega)
  · intro h
    rw [nums_congr h]

theorem op_neqS {o : Oper} {a : Act} {w : World} {K : Act → World → Prop} {Q : Exit → Act → World → Prop} (x y : Operand) (s t : ByteArray) (b : Bool) (ho : o.op = .binOp .neq 9 x y 9) (hx : a.eval x = .string s) (hy : a.eval y = .string t) (hb : (s.toList == t.toList) = b) (hK : K (a.put o.dst (.bool (!b))) w) : o.wp Tryz.prog a w K Q := by
  refine op_val1 (v := .bool (!b)) ?_ hK
  revert hx hy
  generalize a.eval = ρ
  intro hx hy
  simp [go_sem, execOp, ho, hx, hy, hb]

set_option maxRecDepth 100000 in
set_option maxHeartbeats 4000000 in
theorem refOpenBad_any (ao : Option Addr) (L cap : Nat) (nc : Nat → By) (va vx : Value) (w : World) (h1 : L ≠ 16) (h2 : L ≠ 32) :
    Calls Tryz.prog 17 #[.slice ao L cap, .agg (ba 12 nc), va, vx] w fun r w' => r = .returned (.tuple #[.slice none 0 0, .int .i64 1]) ∧ Chg w w' := by
  have hsA := ba_size 12 nc
  obtain ⟨A, hA⟩ : ∃ A, A = ba 12 nc := ⟨_, rfl⟩
  rw [← hA] at hsA ⊢
  clear hA
  go_enter Tryz.func17, Tryz.ntmps17
  go_wp2_with (first | (go_at_call 23; refine (refNewBad_any ao L cap _ h1 h2).mono ?_; rintro r w2 ⟨rfl, hw2⟩; rw [hw2]))
  go_ret2
  exact ⟨rfl, (Chg.refl w).alloc _⟩

set_option maxRecDepth 100000 in
set_option maxHeartbeats 4000000 in
theorem refOpenShort_any (kb ko cap L n R : Nat) (key nc : Nat → By) (ns cs : Nat) (sa : Option Addr) (va : Value) (w : World) (hv : Bs w kb ko L key) (hL : L = 4 * n) (hn : n = 4 ∨ n = 8) (hR : R = n + 6) (hcap : L ≤ cap) (hcap' : cap ≤ 9223372036854775807) (h16 : ns < 16) :
    Calls Tryz.prog 17 #[.slice (some ⟨kb, ko, none⟩) L cap, .agg (ba 12 nc), va, .slice sa ns cs] w fun r w' => r = .returned (.tuple #[.slice none 0 0, .int .i64 81]) ∧ Chg w w' := by
  have hsA := ba_size 12 nc
  obtain ⟨A, hA⟩ : ∃ A, A = ba 12 nc := ⟨_, rfl⟩
  have HX : Hid (Bs w kb ko L key ∧ L = 4 * n ∧ (n = 4 ∨ n = 8) ∧ R = n + 6 ∧ L ≤ cap ∧ cap ≤ 9223372036854775807) := ⟨hv, hL, hn, hR, hcap, hcap'⟩
  rw [← hA] at hsA ⊢
  clear hA hv hL hn hR hcap hcap'
  have hd : decide ((ns : Int) < 16) = true := by simp; omega
  go_enter Tryz.func17, Tryz.ntmps17
  go_upto_region 1 with fail
  obtain ⟨w1, hw1⟩ : ∃ w1, w1 = w.alloc (.cells A 25) := ⟨_, rfl⟩
  have Z1 : Hid (Chg w w1) := by
    rw [hw1]
    exact (Chg.refl w).alloc _
  rw [← hw1]
  clear hw1 hsA
  go_wp2_with fail
  go_at_call 23
  refine (refNew_any kb ko cap L n R key w1 (HX.out.1.chg Z1.out) HX.out.2.1 HX.out.2.2.1 HX.out.2.2.2.1 HX.out.2.2.2.2.1 HX.out.2.2.2.2.2).mono ?_
  rintro r w2 ⟨K, k, rfl, hK, hc2, hA, hks⟩
  have Z2 : Hid (Chg w w2) := Z1.out.trans hc2
  clear hK hc2 hA hks
  go_wp2_with fail
  go_ret2
  exact ⟨rfl, Z2.out⟩

set_option maxRecDepth 100000 in
set_option maxHeartbeats 8000000 in
theorem refOpen_any (kb ko cap L n R : Nat) (key nc ta sf : Nat → By) (na m sb so cs : Nat) (va : Value) (w : World) (hv : Bs w kb ko L key) (hL : L = 4 * n) (hn : n = 4 ∨ n = 8) (hR : R = n + 6) (hcap : L ≤ cap) (hcap' : cap ≤ 9223372036854775807)
    (hva : Ap.Rd w va (nums na ta)) (hvs : Bs w sb so (m + 16) sf) (hcs : m + 16 ≤ cs) (hcs' : cs ≤ 9223372036854775807) (hna : na ≤ 1048576) (hns : m + 16 ≤ 1048592) :
    Calls Tryz.prog 17 #[.slice (some ⟨kb, ko, none⟩) L cap, .agg (ba 12 nc), va, .slice (some ⟨sb, so, none⟩) (m + 16) cs] w fun r w' => ∃ k, Ks n (4 * (R + 1)) key k ∧ Chg w w' ∧
      ((sameB 16 (tagF R k nc ta na sf m) (fun j => sf (m + j)) = true ∧ ∃ v, r = .returned (.tuple #[v, .int .i64 0]) ∧ Ap.Rd w' v (nums m (stF R k (ctrB nc 2#8) sf))) ∨
       (sameB 16 (tagF R k nc ta na sf m) (fun j => sf (m + j)) = false ∧ r = .returned (.tuple #[.slice none 0 0, .int .i64 81]))) := by
  obtain ⟨va1, va2, va3, rfl, -⟩ := hva.shape
  obtain ⟨va, hva0⟩ : ∃ va : Value, va = .slice va1 va2 va3 := ⟨_, rfl⟩
  have hsA := ba_size 12 nc
  have hszA := szB nc zero38.2
  obtain ⟨ns, hns0⟩ : ∃ ns, ns = m + 16 := ⟨_, rfl⟩
  have HCS : Hid (16 ≤ cs - m ∧ cs - m ≤ 9223372036854775807) := ⟨by omega, by omega⟩
  have hsub : (ns : Int) - 16 = m := by omega
  have wm := wrap_i (x := (m : Int)) (by omega) (by omega)
  have hd : decide ((ns : Int) < 16) = false := by simp; omega
  obtain ⟨lo, hlo0, hlo1⟩ := run_sliceHi (some ⟨sb, so, none⟩) ns cs m (by omega) hcs'
  have hlo : ∀ u, (Instr.sliceAt 24 (.slice (some ⟨sb, so, none⟩) ns cs) none (some (.int .i64 (m : Int))) none).run Tryz.prog u = .ok (.slice lo m cs) u := fun u => (run_sliceAt_slice u 24 _ _ _ _ (by kernel_rfl)).trans (hlo0 u)
  have hhi : ∀ u, (Instr.sliceAt 24 (.slice (some ⟨sb, so, none⟩) ns cs) (some (.int .i64 (m : Int))) none none).run Tryz.prog u = .ok (.slice (some ⟨sb, so + m, none⟩) 16 (cs - m)) u := fun u => by
    have := (run_sliceAt_slice u 24 _ _ _ _ (by kernel_rfl)).trans (run_sliceLoB sb so ns cs m (by omega) (by omega) hcs' (by omega) u)
    rwa [show ns - m = 16 by omega] at this
  rw [← hns0]
  have HX : Hid (Bs w kb ko L key ∧ L = 4 * n ∧ (n = 4 ∨ n = 8) ∧ R = n + 6 ∧ L ≤ cap ∧ cap ≤ 9223372036854775807) := ⟨hv, hL, hn, hR, hcap, hcap'⟩
  have HS : Hid (Bs w sb (so + m) 16 (fun j => sf (m + j))) := fun j hj => by
    have := hvs (m + j) (by omega)
    rwa [← Nat.add_assoc] at this
  have HV : Hid (Ap.Rd w va (nums na ta) ∧ (∀ u, Chg w u → Ap.Rd u (.slice lo m cs) (nums m sf)) ∧ na ≤ 1048576 ∧ m ≤ 1048576) := by
    refine ⟨by rw [hva0]; exact hva, fun u c => ?_, hna, by omega⟩
    refine hlo1 u sf (Rd.chg (Bs.rd (f := sf) ?_ (by omega) hcs') c) (by omega)
    rw [hns0]
    exact hvs
  rw [← hva0]
  have hR2 : R = 10 ∨ R = 14 := by omega
  obtain ⟨A, hA⟩ : ∃ A, A = ba 12 nc := ⟨_, rfl⟩
  have HA : Hid (A = ba 12 nc) := hA
  rw [← hA] at hsA hszA ⊢
  clear hA hv hL hn hR hcap hcap' hva hvs hna hns hlo0 hlo1 hns0 hva0
  go_enter Tryz.func17, Tryz.ntmps17
  go_upto_region 1 with fail
  obtain ⟨w1, hw1⟩ : ∃ w1, w1 = w.alloc (.cells A 25) := ⟨_, rfl⟩
  have Z1 : Hid (Chg w w1 ∧ Ar w1 w.heap.size (ba 12 nc)) := by
    rw [hw1, HA.out]
    exact ⟨(Chg.refl w).alloc _, Ar.new w _ _⟩
  rw [← hw1]
  clear hw1 hsA
  go_wp2_with fail
  go_at_call 23
  refine (refNew_any kb ko cap L n R key w1 (HX.out.1.chg Z1.out.1) HX.out.2.1 HX.out.2.2.1 HX.out.2.2.2.1 HX.out.2.2.2.2.1 HX.out.2.2.2.2.2).mono ?_
  rintro r w2 ⟨K, k, rfl, hK, hc2, hA, hks⟩
  obtain ⟨w4, hw4⟩ : ∃ w4, w4 = w2 := ⟨_, rfl⟩
  have Z4 : Hid (Chg w w4 ∧ Ar w4 w.heap.size (ba 12 nc) ∧ Ar w4 K (rkeyC R k)) := by
    rw [hw4]
    exact ⟨Z1.out.1.trans hc2, Z1.out.2.chg hc2, hA⟩
  have HKs : Hid (Ks n (4 * (R + 1)) key k) := hks
  rw [← hw4]
  clear hK hc2 hA hks Z1 hw4
  obtain ⟨T, hT⟩ : ∃ T, T = tagF R k nc ta na sf m := ⟨_, rfl⟩
  have HTe : Hid (T = tagF R k nc ta na sf m) := hT
  have HT : Hid (∀ u, Chg w4.drew u → Calls Tryz.prog 25 #[.pointer (some ⟨K, 0, none⟩), .agg (ba 12 nc), va, .slice lo m cs] u fun r w' => ∃ v, r = .returned v ∧ OwnN u w' v (nums 16 T)) := by
    intro u c
    rw [hT]
    have c0 := Z4.out.1.drew.trans c
    have h3 := HV.out.2.2
    exact refTag_any K R k nc ta sf na m va _ u (Ar.chg (w := w4.drew) Z4.out.2.2 c) hR2 (Rd.chg HV.out.1 c0) (HV.out.2.1 u c0) (by unfold nb; omega) (by omega) (by omega)
  obtain ⟨S1, hS1⟩ : ∃ S, S = strOfNums (nums 16 T) := ⟨_, rfl⟩
  obtain ⟨S2, hS2⟩ : ∃ S, S = strOfNums (nums 16 (fun j => sf (m + j))) := ⟨_, rfl⟩
  have HSS : Hid (S1 = strOfNums (nums 16 T) ∧ S2 = strOfNums (nums 16 (fun j => sf (m + j)))) := ⟨hS1, hS2⟩
  obtain ⟨bb, hbb⟩ : ∃ bb, bb = sameB 16 T (fun j => sf (m + j)) := ⟨_, rfl⟩
  have HBB : Hid (bb = sameB 16 T (fun j => sf (m + j))) := hbb
  have hsb : (S1.toList == S2.toList) = bb := by
    rw [hS1, hS2, hbb]
    exact str_inj
  clear hT hS1 hS2 hbb
  go_upto_region 7 with fail
  go_cut [41] from 29 to 41 (fun v wc => v = .bool (!bb) ∧ Chg w4 wc)
  case first =>
    refine wp_region_good 12 (fun j v wg => match j with
      | 0 => v = .pointer (some ⟨K, 0, none⟩)
      | 1 => v = .agg (ba 12 nc)
      | 2 => v = va
      | 3 => v = .slice lo m cs
      | 4 => ∃ vx, v = vx ∧ Ap.Rd wg vx (nums 16 T)
      | 5 => v = .string S1
      | 6 => v = .slice (some ⟨sb, so, none⟩) ns cs
      | 7 => v = .slice (some ⟨sb, so, none⟩) ns cs
      | 8 => v = .int .i64 (ns : Int)
      | 9 => v = .int .i64 (m : Int)
      | 10 => v = .slice (some ⟨sb, so + m, none⟩) 16 (cs - m)
      | 11 => v = .string S2
      | _ => True) (by kernel_rfl) (by kernel_rfl) (by kernel_rfl) (by kernel_rfl) (by kernel_rfl) ?_ ?_ ?_
    · intro j v u1 u2 h hc
      match j, h with
      | 0, h => exact h
      | 1, h => exact h
      | 2, h => exact h
      | 3, h => exact h
      | 4, h => (obtain ⟨vx, h1, h2⟩ := h; exact ⟨vx, h1, Rd.chg h2 hc⟩)
      | 5, h => exact h
      | 6, h => exact h
      | 7, h => exact h
      | 8, h => exact h
      | 9, h => exact h
      | 10, h => exact h
      | 11, h => exact h
      | _ + 12, h => exact trivial
    · intro i o ac u hi ho hsz hf hg hc
      have hcs : i = 0 ∨ i = 1 ∨ i = 2 ∨ i = 3 ∨ i = 4 ∨ i = 5 ∨ i = 6 ∨ i = 7 ∨ i = 8 ∨ i = 9 ∨ i = 10 ∨ i = 11 := by omega
      rcases hcs with rfl | rfl | rfl | rfl | rfl | rfl | rfl | rfl | rfl | rfl | rfl | rfl
      · injection ho with ho
        subst ho
        refine .inl ⟨wanted_none rfl, ?_⟩
        have e1 : ac.eval (.tmp 10) = .pointer (some ⟨K, 0, none⟩) := hf 10 (by kernel_rfl)
        exact opG_val (by simp [execOp, e1]) rfl (Chg.refl _)
      · injection ho with ho
        subst ho
        refine .inl ⟨wanted_none rfl, ?_⟩
        have e1 : ac.eval (.tmp 5) = .pointer (some ⟨w.heap.size, 0, none⟩) := hf 5 (by kernel_rfl)
        exact wp_load_mid 25 (.tmp 5) rfl _ _ e1 ((ba 12 nc).toList) _ (range12 (Ar.chg (w := w4.drew) Z4.out.2.1 hc)) und38 rfl (info12 _) ⟨_, rfl, rfl, Chg.refl _⟩
      · injection ho with ho
        subst ho
        refine .inl ⟨wanted_none rfl, ?_⟩
        have e1 : ac.eval (.tmp 2) = va := hf 2 (by kernel_rfl)
        exact opG_val (by simp [execOp, e1]) rfl (Chg.refl _)
      · injection ho with ho
        subst ho
        refine .inl ⟨wanted_none rfl, ?_⟩
        have e1 : ac.eval (.tmp 12) = .slice lo m cs := hf 12 (by kernel_rfl)
        exact opG_val (by simp [execOp, e1]) rfl (Chg.refl _)
      · injection ho with ho
        subst ho
        refine .inl ⟨wanted_none rfl, ?_⟩
        have e1 : ac.eval (.tmp 29) = .pointer (some ⟨K, 0, none⟩) := hg 0 (by kernel_rfl) (by decide)
        have e2 : ac.eval (.tmp 30) = .agg (ba 12 nc) := hg 1 (by kernel_rfl) (by decide)
        have e3 : ac.eval (.tmp 31) = va := hg 2 (by kernel_rfl) (by decide)
        have e4 : ac.eval (.tmp 32) = .slice lo m cs := hg 3 (by kernel_rfl) (by decide)
        refine opG_go 25 Tryz.f25 #[.tmp 29, .tmp 30, .tmp 31, .tmp 32] #[55, 25, 24, 24] rfl Tryz.func25 (by kernel_rfl) (by kernel_rfl) (by simp [e1, e2, e3, e4]) (Calls.mono (HT.out _ hc) ?_)
        rintro e u2 ⟨v2, rfl, ho⟩
        exact ⟨_, rfl, ⟨v2, rfl, ho.own.rd⟩, ho.chg⟩
      · injection ho with ho
        subst ho
        refine .inl ⟨wanted_none rfl, ?_⟩
        obtain ⟨vx, e10, xx⟩ := hg 4 (by kernel_rfl) (by decide)
        have e1 : ac.eval (.tmp 33) = vx := e10
        have hcv := (show (convert 24 9 vx).run Tryz.prog u = .ok (.string S1) u from by rw [HSS.out.1]; exact Ap.run_str u _ _ xx)
        exact opG_val (by simp [execOp, e1, hcv]) rfl (Chg.refl _)
      · injection ho with ho
        subst ho
        refine .inl ⟨wanted_none rfl, ?_⟩
        have e1 : ac.eval (.tmp 3) = .slice (some ⟨sb, so, none⟩) ns cs := hf 3 (by kernel_rfl)
        exact opG_val (by simp [execOp, e1]) rfl (Chg.refl _)
      · injection ho with ho
        subst ho
        refine .inl ⟨wanted_none rfl, ?_⟩
        have e1 : ac.eval (.tmp 3) = .slice (some ⟨sb, so, none⟩) ns cs := hf 3 (by kernel_rfl)
        exact opG_val (by simp [execOp, e1]) rfl (Chg.refl _)
      · injection ho with ho
        subst ho
        refine .inl ⟨wanted_none rfl, ?_⟩
        have e1 : ac.eval (.tmp 36) = .slice (some ⟨sb, so, none⟩) ns cs := hg 7 (by kernel_rfl) (by decide)
        exact opG_val (by revert e1; generalize ac.eval = ρ; intro e1; simp [go_sem, execOp, e1]) rfl (Chg.refl _)
      · injection ho with ho
        subst ho
        refine .inl ⟨wanted_none rfl, ?_⟩
        have e1 : ac.eval (.tmp 37) = .int .i64 (ns : Int) := hg 8 (by kernel_rfl) (by decide)
        have e2 : ac.eval (.const (.int .i64 16)) = .int .i64 16 := rfl
        exact opG_val (by revert e1 e2; generalize ac.eval = ρ; intro e1 e2; simp [go_sem, execOp, e1, e2, hsub, wm]) rfl (Chg.refl _)
      · injection ho with ho
        subst ho
        refine .inl ⟨wanted_none rfl, ?_⟩
        have e1 : ac.eval (.tmp 35) = .slice (some ⟨sb, so, none⟩) ns cs := hg 6 (by kernel_rfl) (by decide)
        have e2 : ac.eval (.tmp 38) = .int .i64 (m : Int) := hg 9 (by kernel_rfl) (by decide)
        exact opG_val (by simp [execOp, e1, e2, hhi]) rfl (Chg.refl _)
      · injection ho with ho
        subst ho
        refine .inl ⟨wanted_none rfl, ?_⟩
        have e1 : ac.eval (.tmp 39) = .slice (some ⟨sb, so + m, none⟩) 16 (cs - m) := hg 10 (by kernel_rfl) (by decide)
        have hcv := (show (convert 24 9 (.slice (some ⟨sb, so + m, none⟩) 16 (cs - m))).run Tryz.prog u = .ok (.string S2) u from by rw [HSS.out.2]; exact Ap.run_str u _ _ (Bs.rd (Bs.chg HS.out (Z4.out.1.drew.trans hc)) HCS.out.1 HCS.out.2))
        exact opG_val (by simp [execOp, e1, hcv]) rfl (Chg.refl _)
    · intro o u V ho hV hc
      injection ho with ho
      subst ho
      refine ⟨rfl, ?_⟩
      have q29 : V 0 = .pointer (some ⟨K, 0, none⟩) := hV 0 (by decide)
      have q30 : V 1 = .agg (ba 12 nc) := hV 1 (by decide)
      have q31 : V 2 = va := hV 2 (by decide)
      have q32 : V 3 = .slice lo m cs := hV 3 (by decide)
      obtain ⟨vx, q33, xx⟩ := hV 4 (by decide)
      have q34 : V 5 = .string S1 := hV 5 (by decide)
      have q35 : V 6 = .slice (some ⟨sb, so, none⟩) ns cs := hV 6 (by decide)
      have q36 : V 7 = .slice (some ⟨sb, so, none⟩) ns cs := hV 7 (by decide)
      have q37 : V 8 = .int .i64 (ns : Int) := hV 8 (by decide)
      have q38 : V 9 = .int .i64 (m : Int) := hV 9 (by decide)
      have q39 : V 10 = .slice (some ⟨sb, so + m, none⟩) 16 (cs - m) := hV 10 (by decide)
      have q40 : V 11 = .string S2 := hV 11 (by decide)
      refine op_neqS (.tmp 34) (.tmp 40) S1 S2 bb rfl (Eq.trans (by rfl) q34) (Eq.trans (by rfl) q40) hsb ?_
      go_wp2_with fail
      go_meet
      exact ⟨rfl, (Chg.refl w4).drew.trans hc⟩
  case rest =>
    obtain ⟨rfl, c6⟩ := hcut
    obtain ⟨w6, hw6⟩ : ∃ w6, w6 = wc := ⟨_, rfl⟩
    have Z6 : Hid (Chg w w6 ∧ Ar w6 w.heap.size A ∧ Ar w6 K (rkeyC R k)) := by
      rw [hw6, HA.out]
      exact ⟨Z4.out.1.trans c6, Z4.out.2.1.chg c6, Z4.out.2.2.chg c6⟩
    rw [← hw6]
    clear hw6 c6 Z4 hhi HT hsb
    cases bb with
    | false =>
      go_wp2_with fail
      go_ret2
      exact ⟨k, HKs.out, Z6.out.1, .inr ⟨by rw [← HTe.out, ← HBB.out], rfl⟩⟩
    | true =>
      obtain ⟨tA, gA⟩ := Z6.out.2.1
      have HSt : Hid (Calls Tryz.prog 24 #[.pointer (some ⟨K, 0, none⟩), .agg A, .slice lo m cs] w6 fun r w' => ∃ v, r = .returned v ∧ OwnN w6 w' v (nums m (stF R k (ctrB nc 2#8) sf))) := by
        rw [HA.out]
        have h3 := HV.out.2.2
        exact refStr_any K R m k nc sf _ w6 Z6.out.2.2 hR2 (HV.out.2.1 w6 Z6.out.1) (by omega)
      go_wp2_with (first | refine wpList_load_row rfl 25 _ rfl _ rfl _ _ _ _ gA und38 rfl hszA ?_)
      go_at_call 24
      refine HSt.out.mono ?_
      rintro r w7 ⟨v, rfl, ho⟩
      obtain ⟨vo, vm, vc, rfl, -⟩ := ho.own.rd.shape
      have Z7 : Hid (Chg w w7 ∧ Ap.Rd w7 (.slice vo vm vc) (nums m (stF R k (ctrB nc 2#8) sf))) := ⟨Z6.out.1.trans ho.chg, ho.own.rd⟩
      clear ho
      go_wp2_with fail
      go_ret2
      exact ⟨k, HKs.out, Z7.out.1, .inl ⟨by rw [← HTe.out, ← HBB.out], _, rfl, Z7.out.2⟩⟩
end Go.Proofs.YtobglgddbhddnaaGreat

namespace Go.Proofs.YtobglgddbhddnaaGreat
open Go.RowKit
set_option linter.unusedVariables false

/-! What two keys of the same bytes make is the same. -/
theorem key_enc {R nk : Nat} {k1 k2 key : Nat → By} (hR : R = nk + 6) (hn : nk = 4 ∨ nk = 8) (h1 : Ks nk (4 * (R + 1)) key k1) (h2 : Ks nk (4 * (R + 1)) key k2) (b : Nat → By) : E16 (enc R k1 b) (enc R k2 b) :=
  E16.enc (fun j hj => (h1.unique (by omega) h2 (fun _ _ => rfl)) j (by omega)) (E16.refl b)
theorem key_st {R nk : Nat} {k1 k2 key : Nat → By} (hR : R = nk + 6) (hn : nk = 4 ∨ nk = 8) (h1 : Ks nk (4 * (R + 1)) key k1) (h2 : Ks nk (4 * (R + 1)) key k2) (av txt : Nat → By) : stF R k1 av txt = stF R k2 av txt := by
  funext i
  unfold stF pad
  rw [key_enc hR hn h1 h2 _ (i % 16) (by omega)]
theorem blkF_congr {t1 t2 : Nat → By} {n : Nat} (h : ∀ j, j < n → t1 j = t2 j) (m : Nat) : blkF t1 n m = blkF t2 n m := by
  funext j
  unfold blkF
  by_cases hj : 16 * m + j < n
  · rw [if_pos hj, if_pos hj, h _ hj]
  · rw [if_neg hj, if_neg hj]
theorem hs_congr {t1 t2 : Nat → By} {n : Nat} (h : ∀ j, j < n → t1 j = t2 j) (s y : Po) (m : Nat) : hs s y t1 n m = hs s y t2 n m := by
  induction m with
  | zero => rfl
  | succ m ih =>
    show pr (hs s y t1 n m ^^^ pol (blkF t1 n m)) y = pr (hs s y t2 n m ^^^ pol (blkF t2 n m)) y
    rw [ih, blkF_congr h]
theorem tag_congr {R nk : Nat} {k1 k2 key : Nat → By} (hR : R = nk + 6) (hn : nk = 4 ∨ nk = 8) (h1 : Ks nk (4 * (R + 1)) key k1) (h2 : Ks nk (4 * (R + 1)) key k2) (nc ta : Nat → By) (na : Nat) {t1 t2 : Nat → By} {nx : Nat} (h : ∀ j, j < nx → t1 j = t2 j) : E16 (tagF R k1 nc ta na t1 nx) (tagF R k2 nc ta na t2 nx) := by
  intro j hj
  unfold tagF xr ghash
  rw [key_enc hR hn h1 h2 _ j hj, pol_congr (key_enc hR hn h1 h2 zB), hs_congr h]
theorem sealF_lo {R nx : Nat} {k nc ta tx : Nat → By} {na j : Nat} (h : j < nx) : sealF R k nc ta na tx nx j = stF R k (ctrB nc 2#8) tx j := by rw [sealF, if_pos h]
theorem sealF_hi {R nx : Nat} {k nc ta tx : Nat → By} {na j : Nat} : sealF R k nc ta na tx nx (nx + j) = tagF R k nc ta na (stF R k (ctrB nc 2#8) tx) nx j := by rw [sealF, if_neg (by omega), show nx + j - nx = j by omega]
theorem seal_key {R nk : Nat} {k1 k2 key : Nat → By} (hR : R = nk + 6) (hn : nk = 4 ∨ nk = 8) (h1 : Ks nk (4 * (R + 1)) key k1) (h2 : Ks nk (4 * (R + 1)) key k2) (nc ta : Nat → By) (na : Nat) (tx : Nat → By) (nx : Nat) : nums (nx + 16) (sealF R k1 nc ta na tx nx) = nums (nx + 16) (sealF R k2 nc ta na tx nx) := by
  refine nums_congr fun j hj => ?_
  by_cases h : j < nx
  · rw [sealF_lo h, sealF_lo h, key_st hR hn h1 h2]
  · have e : j = nx + (j - nx) := by omega
    rw [e, sealF_hi, sealF_hi, key_st hR hn h1 h2]
    exact tag_congr hR hn h1 h2 nc ta na (fun _ _ => rfl) (j - nx) (by omega)
/-- What was sealed is opened. -/
theorem seal_opens {R nk : Nat} {k1 k2 key : Nat → By} (hR : R = nk + 6) (hn : nk = 4 ∨ nk = 8) (h1 : Ks nk (4 * (R + 1)) key k1) (h2 : Ks nk (4 * (R + 1)) key k2) (nc ta : Nat → By) (na : Nat) (tx : Nat → By) (nx : Nat) :
    sameB 16 (tagF R k2 nc ta na (sealF R k1 nc ta na tx nx) nx) (fun j => sealF R k1 nc ta na tx nx (nx + j)) = true ∧ nums nx (stF R k2 (ctrB nc 2#8) (sealF R k1 nc ta na tx nx)) = nums nx tx := by
  constructor
  · rw [sameB_iff]
    intro j hj
    show _ = sealF R k1 nc ta na tx nx (nx + j)
    rw [sealF_hi]
    exact tag_congr hR hn h2 h1 nc ta na (fun i hi => by rw [sealF_lo hi]) j hj
  · refine nums_congr fun i hi => ?_
    rw [key_st hR hn h2 h1]
    unfold stF
    rw [sealF_lo hi, stF, BitVec.xor_assoc, BitVec.xor_self, BitVec.xor_zero]
/-- What is opened was sealed. -/
theorem opens_seal {R nk : Nat} {k1 k2 key : Nat → By} (hR : R = nk + 6) (hn : nk = 4 ∨ nk = 8) (h1 : Ks nk (4 * (R + 1)) key k1) (h2 : Ks nk (4 * (R + 1)) key k2) (nc ta : Nat → By) (na : Nat) (sf : Nat → By) (m : Nat) (h : sameB 16 (tagF R k1 nc ta na sf m) (fun j => sf (m + j)) = true) :
    nums (m + 16) (sealF R k2 nc ta na (stF R k1 (ctrB nc 2#8) sf) m) = nums (m + 16) sf := by
  have e0 : ∀ i, stF R k2 (ctrB nc 2#8) (stF R k1 (ctrB nc 2#8) sf) i = sf i := fun i => by
    rw [key_st hR hn h2 h1]
    unfold stF
    rw [BitVec.xor_assoc, BitVec.xor_self, BitVec.xor_zero]
  refine nums_congr fun j hj => ?_
  by_cases hjm : j < m
  · rw [sealF_lo hjm, e0]
  · have e : j = m + (j - m) := by omega
    rw [e, sealF_hi, tag_congr hR hn h2 h1 nc ta na (fun i _ => e0 i) (j - m) (by omega)]
    exact (sameB_iff 16 _ _).1 h (j - m) (by omega)

end Go.Proofs.YtobglgddbhddnaaGreat

namespace Go.Proofs.YtobglgddbhddnaaGreat
open Go.RowKit
set_option linter.unusedVariables false

/-- A row of bytes that may be written. -/
theorem own_set {w : World} {g o n c : Nat} {f : Nat → By} (h : Ap.Own w g o n c (nums n f)) {i : Nat} (hi : i < n) (x : By) : Ap.Own (w.setCell ⟨g, o + i, none⟩ (.int .u8 (x.toNat : Int))) g o n c (nums n (updB f i x)) := by
  obtain ⟨h1, h2, h3, cur, hb, hs, ht⟩ := h
  refine ⟨nums_len _ _, h2, h3, cur.setIfInBounds (o + i) (.int .u8 (x.toNat : Int)), ?_, by simpa using hs, ?_⟩
  · rw [setCell_eq_setRow w g (o + i) cur 5 (0, 0) _ hb, setRow_heap _ _ _ _ _ _ hb]
  · apply List.ext_getElem?
    intro j
    have htj := congrArg (·[j]?) ht
    simp only [List.getElem?_take, List.getElem?_drop, List.getElem?_map, Array.getElem?_toList] at htj ⊢
    rw [Array.getElem?_setIfInBounds]
    by_cases hj : j < n
    · rw [if_pos hj] at htj ⊢
      rw [nums_get n f hj] at htj
      rw [nums_get n _ hj]
      by_cases e : i = j
      · subst e
        have hlt : o + i < cur.size := by omega
        simp [hlt, updB]
      · have e1 : ¬ o + i = o + j := by omega
        have e2 : ¬ j = i := fun h => e h.symm
        rw [if_neg e1, htj, updB, if_neg e2]
    · rw [if_neg hj, List.getElem?_eq_none (by rw [nums_len]; omega)]
      rfl

/-- What stands behind the turned byte. -/
def turned (sf : Nat → By) (n at' : Nat) (x : By) : Nat → By := if n = 0 then sf else updB sf (at' % n) (sf (at' % n) ^^^ x)

/-- A key has round keys. -/
theorem Ks.there (n : Nat) (hn : 0 < n) (key : Nat → By) (m : Nat) : ∃ k, Ks n (n + m) key k := by
  induction m with
  | zero => exact ⟨key, fun _ _ => rfl, fun i h1 h2 => by omega⟩
  | succ m ih =>
    obtain ⟨k, hk⟩ := ih
    obtain ⟨k', hk'⟩ : ∃ k' : Nat → By, k' = fun j => if 4 * (n + m) ≤ j then k (4 * (n + m - n) + (j - 4 * (n + m))) ^^^ tw n k (n + m) (j - 4 * (n + m)) else k j := ⟨_, rfl⟩
    have low : ∀ j, j < 4 * (n + m) → k' j = k j := fun j hj => by rw [hk']; exact if_neg (by omega)
    refine ⟨k', fun j hj => by rw [low j (by omega), hk.lo j hj], fun i h1 h2 r hr => ?_⟩
    by_cases hi : i < n + m
    · rw [low _ (by omega), low _ (by omega), hk.hi i h1 hi r hr, tw_congr hr (k := k) (k' := k') (fun j hj => (low j (by omega)).symm) (by omega)]
    · have e : i = n + m := by omega
      subst e
      rw [low (4 * (n + m - n) + r) (by omega), ← tw_congr hr (k := k) (k' := k') (fun j hj => (low j (by omega)).symm) (by omega)]
      rw [hk']
      show (if 4 * (n + m) ≤ 4 * (n + m) + r then _ else _) = _
      rw [if_pos (by omega), show 4 * (n + m) + r - 4 * (n + m) = r by omega]

end Go.Proofs.YtobglgddbhddnaaGreat
