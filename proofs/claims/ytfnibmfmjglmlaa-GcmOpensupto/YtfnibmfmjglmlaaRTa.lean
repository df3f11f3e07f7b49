/-
  The document's tag, and its Seal.
-/
import Derived.Test.YtfnibmfmjglmlaaRTg
import Derived.Test.YtfnibmfmjglmlaaRNw
import Derived.Test.YtfnibmfmjglmlaaSe
namespace Go.Proofs.Ytfnibmfmjglmlaa
open Go.RowKit
set_option linter.unusedVariables false

/-- What stands while the document makes a tag. -/
structure RTS (w wr : World) (Bx By' : Nat) (x y : Nat → By) (v : Value) (i : Nat) : Prop where
  own : OwnN w wr v (nums i (xr x y))
  x : Ar wr Bx (ba 16 x)
  y : Ar wr By' (ba 16 y)
  ne : ∀ b, v.ownBlock = some b → Bx < b ∧ By' < b

set_option maxRecDepth 100000 in
set_option maxHeartbeats 8000000 in
theorem refTag_any (K R : Nat) (k nc ta tx : Nat → By) (na nx : Nat) (va vx : Value) (w : World) (hK : Ar w K (rkeyC R k)) (hR : R = 10 ∨ R = 14) (hva : Ap.Rd w va (nums na ta)) (hvx : Ap.Rd w vx (nums nx tx)) (hT : 16 * (nb na + nb nx + 1) ≤ 140737488355328) (hna : na ≤ 140737488351232) (hnx : nx ≤ 140737488351232) :
    Calls Try.prog 44 #[.pointer (some ⟨K, 0, none⟩), .agg (ba 12 nc), va, vx] w fun r w' => ∃ v, r = .returned v ∧ OwnN w w' v (nums 16 (tagF R k nc ta na tx nx)) := by
  obtain ⟨ao, m1, ca, rfl, hm1, -⟩ := hva.shape
  obtain ⟨xo, m2, cx, rfl, hm2, -⟩ := hvx.shape
  rw [nums_len] at hm1 hm2
  subst hm1 hm2
  obtain ⟨e0, he0⟩ : ∃ e, e = enc R k zB := ⟨_, rfl⟩
  obtain ⟨c1, hc1⟩ : ∃ c, c = ctrB nc 1#8 := ⟨_, rfl⟩
  obtain ⟨g, hg⟩ : ∃ g, g = ghash e0 ta m1 tx m2 := ⟨_, rfl⟩
  obtain ⟨p, hp⟩ : ∃ p, p = enc R k c1 := ⟨_, rfl⟩
  have HT : Hid (xr g p = tagF R k nc ta m1 tx m2) := by
    show _ = _
    rw [hg, hp, hc1, he0]
    rfl
  have C1 : Hid (∀ u, Chg w u → Calls Try.prog 31 #[.pointer (some ⟨K, 0, none⟩), .agg (ba 16 zB)] u fun r w' => r = .returned (.agg (ba 16 e0)) ∧ Chg u w') := by
    rw [he0]
    exact fun u c => refEncrypt_any K R k zB u (hK.chg c) hR
  have C2 : Hid (∀ u, Chg w u → Calls Try.prog 18 #[.agg (ba 16 e0), .slice ao m1 ca, .slice xo m2 cx] u fun r w' => r = .returned (.agg (ba 16 g)) ∧ Chg u w') := by
    rw [hg]
    exact fun u c => refHash_any e0 ta tx m1 m2 ca cx ao xo u (Rd.chg hva c) (Rd.chg hvx c) hT hna hnx
  have C3 : Hid (∀ u, Calls Try.prog 55 #[.agg (ba 12 nc)] u fun r w' => r = .returned (.agg (ba 16 c1)) ∧ Chg u w') := by
    rw [hc1]
    exact refFirst_any nc
  have C4 : Hid (∀ u, Chg w u → Calls Try.prog 31 #[.pointer (some ⟨K, 0, none⟩), .agg (ba 16 c1)] u fun r w' => r = .returned (.agg (ba 16 p)) ∧ Chg u w') := by
    rw [hp]
    exact fun u c => refEncrypt_any K R k c1 u (hK.chg c) hR
  have hsA := ba_size 12 nc
  have hszA := szB nc zero38.2
  have se := szB e0 zero32.2
  have le := lenB 16 zB e0
  have oe := ba_one 16 e0
  have hsg := szB g zero32.2
  have hlg := lenB 16 zB g
  have hog := ba_one 16 g
  have hsp := szB p zero32.2
  have hlp := lenB 16 zB p
  have hop := ba_one 16 p
  obtain ⟨A, hA⟩ : ∃ A, A = ba 12 nc := ⟨_, rfl⟩
  rw [← hA] at hsA hszA C3 ⊢
  clear hA he0 hc1 hg hp hva hvx hK hT
  have hz := zero32.1
  go_enter Try.func44, Try.ntmps44
  go_upto_region 1 with fail
  obtain ⟨w1, hw1⟩ : ∃ w1, w1 = w.alloc (.cells A 38) := ⟨_, rfl⟩
  have Z1 : Hid (Chg w w1 ∧ Ar w1 w.heap.size A) := by
    rw [hw1]
    exact ⟨(Chg.refl w).alloc _, Ar.new w _ _⟩
  rw [← hw1]
  clear hw1 hsA
  go_wp2_with fail
  go_at_call 31
  refine (C1.out _ Z1.out.1).mono ?_
  rintro r w2 ⟨rfl, hc2⟩
  have Z2 : Hid (Chg w w2 ∧ Ar w2 w.heap.size A) := ⟨Z1.out.1.trans hc2, Z1.out.2.chg hc2⟩
  clear hc2 Z1 C1
  go_upto_region 2 with (first | refine wpList_store_row rfl 23 _ _ rfl _ _ rfl rfl _ _ (heap_alloc_last w2 _) se le oe ?_)
  obtain ⟨Be, hBe⟩ : ∃ Be, Be = w2.heap.size := ⟨_, rfl⟩
  obtain ⟨w3, hw3⟩ : ∃ w3, w3 = (w2.alloc (.cells (ba 16 zB) 23)).setRow w2.heap.size (ba 16 e0) := ⟨_, rfl⟩
  have Z3 : Hid (Chg w w3 ∧ Ar w3 w.heap.size A ∧ Ar w3 Be (ba 16 e0)) := by
    obtain ⟨k0, k1⟩ := Z2.out
    have e1 := k1.lt
    rw [hw3, hBe]
    exact ⟨(k0.alloc _).setRow k0.size _, (k1.alloc _).rowOther (by omega) _, (Ar.new w2 _ _).row _⟩
  rw [← hw3, ← hBe]
  obtain ⟨tE, gE⟩ := Z3.out.2.2
  clear hw3 hBe Z2 le oe
  dsimp only [Act.put]
  go_wp2_with (first | refine wpList_load_row rfl 23 _ rfl _ rfl _ _ _ _ gE und32 rfl se ?_)
  go_at_call 18
  refine (C2.out _ Z3.out.1).mono ?_
  rintro r w4 ⟨rfl, hc4⟩
  have Z4 : Hid (Chg w w4 ∧ Ar w4 w.heap.size A) := ⟨Z3.out.1.trans hc4, Z3.out.2.1.chg hc4⟩
  clear hc4 Z3 C2 gE se
  go_upto_region 3 with (first | refine wpList_store_row rfl 23 _ _ rfl _ _ rfl rfl _ _ (heap_alloc_last w4 _) hsg hlg hog ?_)
  obtain ⟨Bx, hBx⟩ : ∃ Bx, Bx = w4.heap.size := ⟨_, rfl⟩
  obtain ⟨w5, hw5⟩ : ∃ w5, w5 = (w4.alloc (.cells (ba 16 zB) 23)).setRow w4.heap.size (ba 16 g) := ⟨_, rfl⟩
  have Z5 : Hid (Chg w w5 ∧ Ar w5 w.heap.size A ∧ Ar w5 Bx (ba 16 g)) := by
    obtain ⟨k0, k1⟩ := Z4.out
    have e1 := k1.lt
    rw [hw5, hBx]
    exact ⟨(k0.alloc _).setRow k0.size _, (k1.alloc _).rowOther (by omega) _, (Ar.new w4 _ _).row _⟩
  rw [← hw5, ← hBx]
  obtain ⟨tA, gA⟩ := Z5.out.2.1
  clear hw5 hBx Z4 hsg hlg hog
  dsimp only [Act.put]
  go_wp2_with (first | refine wpList_load_row rfl 38 _ rfl _ rfl _ _ _ _ gA und38 rfl hszA ?_)
  go_at_call 55
  refine (C3.out _).mono ?_
  rintro r w6 ⟨rfl, hc6⟩
  have Z6 : Hid (Chg w w6 ∧ Ar w6 Bx (ba 16 g)) := ⟨Z5.out.1.trans hc6, Z5.out.2.2.chg hc6⟩
  clear hc6 Z5 C3 gA hszA
  go_wp2_with fail
  go_at_call 31
  refine (C4.out _ Z6.out.1).mono ?_
  rintro r w7 ⟨rfl, hc7⟩
  have Z7 : Hid (Chg w w7 ∧ Ar w7 Bx (ba 16 g)) := ⟨Z6.out.1.trans hc7, Z6.out.2.chg hc7⟩
  clear hc7 Z6 C4
  go_upto_region 4 with (first | refine wpList_store_row rfl 23 _ _ rfl _ _ rfl rfl _ _ (heap_alloc_last w7 _) hsp hlp hop ?_)
  obtain ⟨Bp, hBp⟩ : ∃ Bp, Bp = w7.heap.size := ⟨_, rfl⟩
  obtain ⟨w8, hw8⟩ : ∃ w8, w8 = (w7.alloc (.cells (ba 16 zB) 23)).setRow w7.heap.size (ba 16 p) := ⟨_, rfl⟩
  have Z8 : Hid (RTS w w8 Bx Bp g p (.slice none 0 0) 0) := by
    obtain ⟨k0, k1⟩ := Z7.out
    have e1 := k1.lt
    rw [hw8, hBp]
    exact ⟨⟨.inl ⟨rfl, rfl⟩, fun b h => (by simp [Value.ownBlock] at h), (k0.alloc _).setRow k0.size _⟩, (k1.alloc _).rowOther (by omega) _, (Ar.new w7 _ _).row _, fun b h => (by simp [Value.ownBlock] at h)⟩
  rw [← hw8, ← hBp]
  clear hw8 hBp Z7 hsp hlp hop hz
  dsimp only [Act.put]
  go_wp2_with fail
  go_loopw [12, 13] (fun v v13 wr => ∃ (i : Nat), v13 = .int .i64 i ∧ i ≤ 16 ∧ RTS w wr Bx Bp g p v i) (fun v v13 wr => 16 - (intOf v13).toNat)
  case atStart => exact ⟨0, rfl, by omega, Z8.out⟩
  case round =>
    clear Z8
    obtain ⟨i, rfl, hi, hz3⟩ := hrel
    obtain ⟨vo, vm, vc, rfl, -⟩ := hz3.own.own.rd.shape
    have Z : Hid (RTS w wr Bx Bp g p (.slice vo vm vc) i) := hz3
    by_cases h16 : i < 16
    · have hd : decide ((i : Int) < 16) = true := by simp; omega
      have li : (i : Int) < 16 := by omega
      have c1 := (hz3.x.cell i).trans (ba_get 16 _ h16)
      have c2 := (hz3.y.cell i).trans (ba_get 16 _ h16)
      obtain ⟨x1, hx1⟩ : ∃ x, x = g i := ⟨_, rfl⟩
      obtain ⟨x2, hx2⟩ : ∃ x, x = p i := ⟨_, rfl⟩
      rw [← hx1] at c1
      rw [← hx2] at c2
      obtain ⟨y, Hy, ey⟩ := nameXor x1 x2
      have HY : Hid (y = xr g p i) := by
        show y = _
        rw [Hy.out, hx1, hx2, xr]
      have Zo : Hid (OwnN w wr.drew (.slice vo vm vc) (nums i (xr g p))) := ⟨hz3.own.own.keep (fun _ _ => rfl), hz3.own.new, hz3.own.chg.drew⟩
      have hl : (nums i (xr g p)).length + [(y.toNat : Int)].length ≤ 140737488355328 := by rw [nums_len]; simp; omega
      clear hx1 hx2 Hy hz3
      go_wp2_with fail
      go_region_law (refine step_app rfl (.tmp 29) (.tmp 37) rfl (.slice vo vm vc) (.slice (some ⟨wr.drew.heap.size, 0, none⟩) 1 1) (nums i (xr g p)) [(y.toNat : Int)] rfl rfl (Zo.out.alloc _).own (Ap.Rd.one wr.drew (y.toNat : Int)) hl ?_; intro v2 w9 o2 k2 b2)
      all_goals
        obtain ⟨ao2, m2', cc2, rfl, -⟩ := o2.rd.shape
        have Z7 : Hid (RTS w w9 Bx Bp g p (.slice ao2 m2' cc2) (i + 1)) := by
          have hne := Z.out.ne
          have k3 := (Zo.out.alloc (.cells #[.int .u8 (y.toNat : Int)] 5)).more o2 k2 b2
          have e0 := Z.out.x.lt
          have e1 := Z.out.y.lt
          refine ⟨?_, (Z.out.x.drew.alloc _).ap k2 (fun e => by have := hne _ e; omega), (Z.out.y.drew.alloc _).ap k2 (fun e => by have := hne _ e; omega), fun b e => ?_⟩
          · rw [nums_succ, ← HY.out]
            exact k3
          · rcases b2 with h | h
            · rw [h] at e
              exact hne b e
            · rw [h] at e
              injection e with e
              rw [← e]
              have e3 : (wr.alloc (.cells #[.int .u8 (y.toNat : Int)] 5)).heap.size = wr.heap.size + 1 := World.size_alloc _ _
              show Bx < (wr.alloc (.cells #[.int .u8 (y.toNat : Int)] 5)).heap.size ∧ Bp < (wr.alloc (.cells #[.int .u8 (y.toNat : Int)] 5)).heap.size
              omega
        clear o2 k2 b2 c1 c2
        go_wp2
        go_roundw
        case rel => exact ⟨i + 1, by go_num, by omega, Z7.out⟩
        case measure => simp [intOf]; omega
    · have hi2 : i = 16 := by omega
      have hd : decide ((i : Int) < 16) = false := by simp; omega
      clear hz3
      go_wp2
      go_ret
      refine ⟨_, rfl, ?_⟩
      rw [← HT.out, ← hi2]
      exact Z.out.own

set_option maxRecDepth 100000 in
set_option maxHeartbeats 4000000 in
theorem refSealBad_any (ao : Option Addr) (L cap : Nat) (nc : Nat → By) (va vx : Value) (w : World) (h1 : L ≠ 16) (h2 : L ≠ 32) :
    Calls Try.prog 21 #[.slice ao L cap, .agg (ba 12 nc), va, vx] w fun r w' => r = .returned (.tuple #[.slice none 0 0, .int .i64 1]) ∧ Chg w w' := by
  have hsA := ba_size 12 nc
  obtain ⟨A, hA⟩ : ∃ A, A = ba 12 nc := ⟨_, rfl⟩
  rw [← hA] at hsA ⊢
  clear hA
  go_enter Try.func21, Try.ntmps21
  go_wp2_with (first | (go_at_call 11; refine (refNewBad_any ao L cap _ h1 h2).mono ?_; rintro r w2 ⟨rfl, hw2⟩; rw [hw2]))
  go_ret2
  exact ⟨rfl, (Chg.refl w).alloc _⟩

set_option maxRecDepth 100000 in
set_option maxHeartbeats 4000000 in
theorem refSeal_any (kb ko cap L n R : Nat) (key nc ta tx : Nat → By) (na nx : Nat) (va vx : Value) (w : World) (hv : Bs w kb ko L key) (hL : L = 4 * n) (hn : n = 4 ∨ n = 8) (hR : R = n + 6) (hcap : L ≤ cap) (hcap' : cap ≤ 9223372036854775807)
    (hva : Ap.Rd w va (nums na ta)) (hvx : Ap.Rd w vx (nums nx tx)) (hna : na ≤ 1048576) (hnx : nx ≤ 1048592) :
    Calls Try.prog 21 #[.slice (some ⟨kb, ko, none⟩) L cap, .agg (ba 12 nc), va, vx] w fun r w' => ∃ k v, r = .returned (.tuple #[v, .int .i64 0]) ∧ OwnN w w' v (nums (nx + 16) (sealF R k nc ta na tx nx)) ∧ Ks n (4 * (R + 1)) key k := by
  have hsA := ba_size 12 nc
  have hszA := szB nc zero38.2
  have HX : Hid (Bs w kb ko L key ∧ L = 4 * n ∧ (n = 4 ∨ n = 8) ∧ R = n + 6 ∧ L ≤ cap ∧ cap ≤ 9223372036854775807 ∧ Ap.Rd w va (nums na ta) ∧ Ap.Rd w vx (nums nx tx) ∧ na ≤ 1048576 ∧ nx ≤ 1048592) := ⟨hv, hL, hn, hR, hcap, hcap', hva, hvx, hna, hnx⟩
  have hR2 : R = 10 ∨ R = 14 := by omega
  obtain ⟨A, hA⟩ : ∃ A, A = ba 12 nc := ⟨_, rfl⟩
  have HA : Hid (A = ba 12 nc) := hA
  rw [← hA] at hsA hszA ⊢
  clear hA hv hL hn hR hcap hcap' hva hvx hna hnx
  go_enter Try.func21, Try.ntmps21
  go_upto_region 1 with fail
  obtain ⟨w1, hw1⟩ : ∃ w1, w1 = w.alloc (.cells A 38) := ⟨_, rfl⟩
  have Z1 : Hid (Chg w w1 ∧ Ar w1 w.heap.size A) := by
    rw [hw1]
    exact ⟨(Chg.refl w).alloc _, Ar.new w _ _⟩
  rw [← hw1]
  clear hw1 hsA
  go_wp2_with fail
  go_at_call 11
  refine (refNew_any kb ko cap L n R key w1 (HX.out.1.chg Z1.out.1) HX.out.2.1 HX.out.2.2.1 HX.out.2.2.2.1 HX.out.2.2.2.2.1 HX.out.2.2.2.2.2.1).mono ?_
  rintro r w2 ⟨K, k, rfl, hK, hc2, hA, hks⟩
  have Z2 : Hid (Chg w w2 ∧ Ar w2 w.heap.size A ∧ Ar w2 K (rkeyC R k) ∧ Ks n (4 * (R + 1)) key k) := ⟨Z1.out.1.trans hc2, Z1.out.2.chg hc2, hA, hks⟩
  clear hK hc2 hA hks Z1
  obtain ⟨tA, gA⟩ := Z2.out.2.1
  have HS : Hid (Calls Try.prog 43 #[.pointer (some ⟨K, 0, none⟩), .agg A, vx] w2 fun r w' => ∃ v, r = .returned v ∧ OwnN w2 w' v (nums nx (stF R k (ctrB nc 2#8) tx))) := by
    rw [HA.out]
    obtain ⟨a1, a2, a3, a4, a5, a6, a7, a8, a9, a10⟩ := HX.out
    exact refStr_any K R nx k nc tx vx w2 Z2.out.2.2.1 hR2 (Rd.chg a8 Z2.out.1) (by omega)
  go_wp2_with (first | refine wpList_load_row rfl 38 _ rfl _ rfl _ _ _ _ gA und38 rfl hszA ?_)
  go_at_call 43
  refine HS.out.mono ?_
  rintro r w4 ⟨v, rfl, ho⟩
  obtain ⟨vo, vm, vc, rfl, -⟩ := ho.own.rd.shape
  obtain ⟨st, hst⟩ : ∃ st, st = stF R k (ctrB nc 2#8) tx := ⟨_, rfl⟩
  rw [← hst] at ho
  have HST : Hid (st = stF R k (ctrB nc 2#8) tx) := hst
  have Z4 : Hid (Chg w w4 ∧ Ar w4 w.heap.size A ∧ Ar w4 K (rkeyC R k) ∧ Ks n (4 * (R + 1)) key k ∧ OwnN w w4 (.slice vo vm vc) (nums nx st)) := by
    obtain ⟨k0, k1, k2, k3⟩ := Z2.out
    exact ⟨k0.trans ho.chg, k1.chg ho.chg, k2.chg ho.chg, k3, ⟨ho.own, fun b e => Nat.le_trans k0.size (ho.new b e), k0.trans ho.chg⟩⟩
  clear ho hst Z2 HS gA
  obtain ⟨tA, gA⟩ := Z4.out.2.1
  obtain ⟨T, hT⟩ : ∃ T, T = tagF R k nc ta na st nx := ⟨_, rfl⟩
  have HT : Hid (T = tagF R k nc ta na st nx) := hT
  have C2 : Hid (Calls Try.prog 44 #[.pointer (some ⟨K, 0, none⟩), .agg A, va, .slice vo vm vc] w4 fun r w' => ∃ v, r = .returned v ∧ OwnN w4 w' v (nums 16 T)) := by
    rw [hT, HA.out]
    obtain ⟨a1, a2, a3, a4, a5, a6, a7, a8, a9, a10⟩ := HX.out
    exact refTag_any K R k nc ta st na nx va _ w4 Z4.out.2.2.1 hR2 (Rd.chg a7 Z4.out.1) Z4.out.2.2.2.2.own.rd (by unfold nb; omega) (by omega) (by omega)
  clear hT
  go_wp2_with (first | refine wpList_load_row rfl 38 _ rfl _ rfl _ _ _ _ gA und38 rfl hszA ?_)
  go_at_call 44
  refine C2.out.mono ?_
  rintro r w5 ⟨v5, rfl, ho5⟩
  obtain ⟨uo, um, uc, rfl, -⟩ := ho5.own.rd.shape
  have Z5 : Hid (OwnN w w5 (.slice vo vm vc) (nums nx st) ∧ Ap.Rd w5 (.slice uo um uc) (nums 16 T) ∧ Ks n (4 * (R + 1)) key k) :=
    ⟨⟨OwnV.chg Z4.out.2.2.2.2.own ho5.chg, Z4.out.2.2.2.2.new, Z4.out.1.trans ho5.chg⟩, ho5.own.rd, Z4.out.2.2.2.1⟩
  clear ho5 Z4 C2 gA hszA
  have hl : (nums nx st).length + (nums 16 T).length ≤ 140737488355328 := by
    rw [nums_len, nums_len]
    have := HX.out.2.2.2.2.2.2.2.2.2
    omega
  go_wp2_with (at_builtin; refine Ap.wpList_app _ rfl _ _ rfl (.slice vo vm vc) (.slice uo um uc) (nums nx st) (nums 16 T) rfl rfl Z5.out.1.own Z5.out.2.1 hl ?_)
  intro v2 w7 o2 k2 b2
  have k7 := Z5.out.1.more o2 k2 b2
  rw [HT.out, HST.out, nums_seal] at k7
  obtain ⟨ao2, m2, cc2, rfl, -⟩ := o2.rd.shape
  have Z7 : Hid (OwnN w w7 (.slice ao2 m2 cc2) (nums (nx + 16) (sealF R k nc ta na tx nx))) := k7
  clear o2 k2 b2 k7
  go_wp2
  go_ret2
  exact ⟨k, _, rfl, Z7.out, Z5.out.2.2⟩
end Go.Proofs.Ytfnibmfmjglmlaa
