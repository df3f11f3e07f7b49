/-
  The document's Encrypt.
-/
import Derived.Test.YtfnibmfmjglmlaaREb
import Derived.Test.YtfnibmfmjglmlaaREc
import Derived.Test.YtfnibmfmjglmlaaREd
namespace Go.Proofs.Ytfnibmfmjglmlaa
open Go.RowKit
set_option linter.unusedVariables false

theorem reS_next {R m : Nat} {k b : Nat → By} (h : m + 1 < R) : xr (mc (mv (rnds k b m))) (rk k (m + 1)) = rnds k b (m + 1) := rfl

/-- The block behind so many rounds. -/
def reS (R : Nat) (k b : Nat → By) (m : Nat) : Nat → By := if m = R then enc R k b else rnds k b m

set_option maxRecDepth 100000 in
set_option maxHeartbeats 8000000 in
theorem refEncrypt_any (K R : Nat) (k b : Nat → By) (w : World) (hK : Ar w K (rkeyC R k)) (hR : R = 10 ∨ R = 14) :
    Calls Try.prog 31 #[.pointer (some ⟨K, 0, none⟩), .agg (ba 16 b)] w fun r w' => r = .returned (.agg (ba 16 (enc R k b))) ∧ Chg w w' := by
  have hsA := ba_size 16 b
  obtain ⟨A, hA⟩ : ∃ A, A = ba 16 b := ⟨_, rfl⟩
  have HA : Hid (A = ba 16 b) := hA
  rw [← hA] at hsA ⊢
  have HK : Hid (Ar w K (rkeyC R k) ∧ (R = 10 ∨ R = 14)) := ⟨hK, hR⟩
  have hR1 : 1 ≤ R ∧ R < 15 := by omega
  clear hA hK hR
  have hz := zero32.1
  go_enter Try.func31, Try.ntmps31
  go_upto_block 0 with fail
  obtain ⟨w1, hw1⟩ : ∃ w1, w1 = (w.alloc (.cells A 23)).alloc (.cells (ba 16 zB) 23) := ⟨_, rfl⟩
  have Z1 : Hid (RE w w1 K R k b) := by
    rw [hw1, HA.out]
    exact ⟨HK.out.1, ((Chg.refl w).alloc _).alloc _, (Ar.new w _ _).alloc _, Ar.new1 w _ _ _⟩
  rw [← hw1]
  clear hw1 hsA
  refine re1_any Z1.out ?_
  intro p5 p16 p17 p18 p19 p20 p21 p22 p23 p24 p25 p26 p27 p28 p29 p30 p31 p32 w2 hz2
  have Z2 : Hid (RE w w2 K R k (reS R k b 0)) := by
    have e : reS R k b 0 = rnds k b 0 := by
      unfold reS
      rw [if_neg (by omega)]
    rw [e]
    exact hz2
  clear hz2 Z1
  go_wp2_with fail
  go_loopw [6] (fun v wr => ∃ (m : Nat), v = .int .i64 ((m + 1 : Nat) : Int) ∧ m ≤ R ∧ RE w wr K R k (reS R k b m)) (fun v wr => R + 1 - (intOf v).toNat)
  case atStart => exact ⟨0, rfl, by omega, Z2.out⟩
  case round =>
    clear Z2
    obtain ⟨m, rfl, hm, hz3⟩ := hrel
    have Z : Hid (RE w wr K R k (reS R k b m)) := hz3
    have c0 := rkR hz3.key
    obtain ⟨q, hq⟩ : ∃ q : Nat, q = m + 1 := ⟨_, rfl⟩
    rw [← hq]
    have HQ : Hid (q = m + 1) := hq
    clear hz3
    by_cases hlt : q ≤ R
    · have hd : decide ((q : Int) ≤ R) = true := by simp; omega
      obtain ⟨f, hf⟩ : ∃ f, f = reS R k b m := ⟨_, rfl⟩
      have HF : Hid (f = rnds k b m) := by
        show f = _
        rw [hf, reS, if_neg (by omega)]
      rw [← hf] at Z
      have hq15 : q < 15 := by omega
      clear hf hq
      go_upto_block 4 with fail
      obtain ⟨cb, hcb⟩ : ∃ cb, cb = wr.heap.size := ⟨_, rfl⟩
      obtain ⟨w3, hw3⟩ : ∃ w3, w3 = wr.alloc (.cells (ba 16 zB) 23) := ⟨_, rfl⟩
      have Z3 : Hid (RE w w3 K R k f ∧ Ar w3 cb (ba 16 zB) ∧ w.heap.size + 1 < cb) := by
        rw [hw3, hcb]
        exact ⟨Z.out.to ((Chg.refl wr).alloc _), Ar.new wr _ _, Z.out.out.lt⟩
      rw [← hw3, ← hcb]
      clear hw3 hcb Z c0
      refine re3_any Z3.out.1 Z3.out.2.1 Z3.out.2.2 ?_
      intro q8 q9 q41 q42 q43 q44 q45 q46 q47 q48 q49 q50 q51 q52 q53 q54 q55 q56 q57 q58 q59 q60 q61 q62 q63 q64 q65 q66 q67 w4 hz4
      have Z4 : Hid (RE w w4 K R k f ∧ Ar w4 cb (ba 16 (mv f)) ∧ w.heap.size + 1 < cb) := ⟨hz4.1, hz4.2, Z3.out.2.2⟩
      have c1 := rkR hz4.1.key
      clear hz4 Z3
      by_cases hlt2 : q < R
      · have hd2 : decide ((q : Int) < R) = true := by simp; omega
        go_upto_block 8 with fail
        refine re5_any Z4.out.1 Z4.out.2.1 Z4.out.2.2 ?_
        intro r10 r11 r12 r13 r14 r74 r75 r76 r77 r78 r79 r80 r81 r82 r83 r84 r85 r86 r87 r88 r89 r90 r91 r92 r93 r94 r95 r96 r97 r98 r99 r100 r101 r102 r103 r104 r105 r106 r107 r108 r109 r110 r111 r112 r113 r114 r115 r116 r117 r118 r119 r120 r121 r122 r123 r124 w5 hz5
        have Z5 : Hid (RE w w5 K R k f ∧ Ar w5 cb (ba 16 (mc (mv f))) ∧ w.heap.size + 1 < cb) := ⟨hz5.1, hz5.2, Z4.out.2.2⟩
        clear hz5 Z4 c1
        go_upto_block 14 with fail
        refine re8_any Z5.out.1 Z5.out.2.1 Z5.out.2.2 hq15 ?_
        intro s15 s125 s126 s127 s128 s129 s130 s131 s132 s133 s134 s135 s136 s137 s138 s139 s140 s141 s142 w6 hz6
        have Z6 : Hid (RE w w6 K R k (xr (mc (mv f)) (rk k q))) := hz6.1
        clear hz6 Z5
        go_wp2_with fail
        go_roundw
        case rel =>
          refine ⟨m + 1, by rw [HQ.out]; go_num, by have := HQ.out; omega, ?_⟩
          have e : reS R k b (m + 1) = xr (mc (mv f)) (rk k q) := by
            have := HQ.out
            unfold reS
            rw [if_neg (by omega), HF.out, HQ.out, rnds]
          rw [e]
          exact Z6.out
        case measure => have := HQ.out; simp [intOf]; omega
      · have hqR : q = R := by omega
        have hd2 : decide ((q : Int) < R) = false := by simp; omega
        go_upto_block 14 with fail
        refine re8_any Z4.out.1 Z4.out.2.1 Z4.out.2.2 hq15 ?_
        intro s15 s125 s126 s127 s128 s129 s130 s131 s132 s133 s134 s135 s136 s137 s138 s139 s140 s141 s142 w6 hz6
        have Z6 : Hid (RE w w6 K R k (xr (mv f) (rk k q))) := hz6.1
        clear hz6 Z4 c1
        go_wp2_with fail
        go_roundw
        case rel =>
          have h1 := HQ.out
          refine ⟨m + 1, by rw [← hqR, HQ.out]; go_num, by omega, ?_⟩
          have e : reS R k b (m + 1) = xr (mv f) (rk k q) := by
            unfold reS
            rw [if_pos (by omega), enc, HF.out, show R - 1 = m by omega, hqR]
          rw [e]
          exact Z6.out
        case measure => have := HQ.out; simp [intOf]; omega
    · have hmR : m = R := by omega
      have hd : decide ((q : Int) ≤ R) = false := by simp; omega
      obtain ⟨g, hg⟩ : ∃ g, g = enc R k b := ⟨_, rfl⟩
      have HG : Hid (g = enc R k b) := hg
      have Zg : Hid (RE w wr K R k g) := by
        have := Z.out
        rw [reS, if_pos hmR, ← hg] at this
        exact this
      obtain ⟨t1, g1⟩ := Zg.out.b
      obtain ⟨t3, g3⟩ := Zg.out.out
      have hsz := szB g zero32.2
      have hlen := lenB 16 zB g
      have hone := ba_one 16 g
      clear hg Z hq
      go_wp2_with (first | refine wpList_load_row rfl 23 _ rfl _ rfl _ _ _ _ g1 und32 rfl hsz ?_ | refine wpList_store_row rfl 23 _ _ rfl _ _ rfl rfl _ _ g3 hsz hlen hone ?_)
      refine bp_c (n := 16) (c := ba 16 g) Try.results31 rfl rfl ?_ und32 i32 (ba_size _ _) ⟨by rw [HG.out], ?_⟩
      · exact Zg.out.out.row _
      · exact Zg.out.chg.setRow (by omega) _
end Go.Proofs.Ytfnibmfmjglmlaa
