/-
  A stream is the document's, and takes itself back: AesStreams walked.
-/
import Derived.Test.YtfnibmfmjglmlaaRSt
import Derived.Test.YtfnibmfmjglmlaaRNw
import Derived.Test.YtfnibmfmjglmlaaHd
import Derived.Test.YtfnibmfmjglmlaaRgo
namespace Go.Proofs.Ytfnibmfmjglmlaa
open Go.RowKit
set_option linter.unusedVariables false

theorem stF_key {R n nk : Nat} {k1 k2 key : Nat → By} (av txt : Nat → By) (hR : R = nk + 6) (hn : nk = 4 ∨ nk = 8) (h1 : Ks nk (4 * (R + 1)) key k1) (h2 : Ks nk (4 * (R + 1)) key k2) (m : Nat) : nums m (stF R k1 av txt) = nums m (stF R k2 av txt) := by
  refine nums_congr fun i _ => ?_
  unfold stF pad
  rw [E16.enc (R := R) (k := k1) (k' := k2) (fun j hj => (h1.unique (by omega) h2 (fun _ _ => rfl)) j (by omega)) (E16.refl (ctr av (i / 16))) (i % 16) (by omega)]
theorem stF_back (R n : Nat) (k av txt : Nat → By) : nums n (stF R k av (stF R k av txt)) = nums n txt := by
  refine nums_congr fun i _ => ?_
  unfold stF
  rw [BitVec.xor_assoc, BitVec.xor_self, BitVec.xor_zero]

set_option maxRecDepth 100000 in
set_option maxHeartbeats 4000000 in
theorem streamsBad_walk (ao : Option Addr) (L cap : Nat) (av : Nat → By) (v2 : Value) (w : World) (h1 : L ≠ 16) (h2 : L ≠ 32) :
    Calls Try.prog 3 #[.slice ao L cap, .agg (ba 16 av), v2] w fun r w' => r = .returned (.bool true) ∧ Chg w w' := by
  have HN : Hid (∀ (u : World), Calls Try.prog 10 #[.slice ao L cap] u fun r w' => r = .returned (.tuple #[.pointer none, .int .i64 1]) ∧ w' = u) := fun u => newBad_any ao L cap u h1 h2
  have HM : Hid (∀ (u : World), Calls Try.prog 11 #[.slice ao L cap] u fun r w' => r = .returned (.tuple #[.pointer none, .int .i64 1]) ∧ w' = u) := fun u => refNewBad_any ao L cap u h1 h2
  have hsA := ba_size 16 av
  obtain ⟨A, hA⟩ : ∃ A, A = ba 16 av := ⟨_, rfl⟩
  rw [← hA] at hsA ⊢
  clear hA h1 h2
  go_enter Try.func3, Try.ntmps3
  go_wp2_with fail
  go_at_call 9
  refine (head_any _).mono ?_
  rintro r w1 ⟨rfl, hc1⟩
  have Z1 : Hid (Chg w w1) := ((Chg.refl w).alloc _).trans hc1
  clear hc1
  go_wp2_with (first | (go_at_call 10; refine (HN.out _).mono ?_; rintro r w5 ⟨rfl, hw5⟩; rw [hw5]; clear hw5 w5) | (go_at_call 11; refine (HM.out _).mono ?_; rintro r w5 ⟨rfl, hw5⟩; rw [hw5]; clear hw5 w5))
  go_ret
  exact ⟨rfl, Z1.out⟩

set_option maxRecDepth 100000 in
set_option maxHeartbeats 8000000 in
theorem streams_walk (kb ko kcap L nk R n cap : Nat) (ao : Option Addr) (key av txt : Nat → By) (w : World) (hv : Bs w kb ko L key) (hL : L = 4 * nk) (hn : nk = 4 ∨ nk = 8) (hR : R = nk + 6) (hcap : L ≤ kcap) (hcap' : kcap ≤ 9223372036854775807)
    (ht : Ap.Rd w (.slice ao n cap) (nums n txt)) (hn' : n ≤ 140737488351232) :
    Calls Try.prog 3 #[.slice (some ⟨kb, ko, none⟩) L kcap, .agg (ba 16 av), .slice ao n cap] w fun r w' => r = .returned (.bool true) ∧ Chg w w' := by
  have HK : Hid (Bs w kb ko L key ∧ L = 4 * nk ∧ (nk = 4 ∨ nk = 8) ∧ R = nk + 6 ∧ L ≤ kcap ∧ kcap ≤ 9223372036854775807) := ⟨hv, hL, hn, hR, hcap, hcap'⟩
  have HX : Hid ((R = 10 ∨ R = 14) ∧ Ap.Rd w (.slice ao n cap) (nums n txt) ∧ n ≤ 140737488351232) := ⟨by omega, ht, hn'⟩
  clear hv hL hn hR hcap hcap' ht
  have hsA := ba_size 16 av
  have hszA := szB av zero32.2
  obtain ⟨A, hA⟩ : ∃ A, A = ba 16 av := ⟨_, rfl⟩
  have HA : Hid (A = ba 16 av) := hA
  rw [← hA] at hsA hszA ⊢
  clear hA
  go_enter Try.func3, Try.ntmps3
  go_wp2_with fail
  go_at_call 9
  refine (head_any _).mono ?_
  rintro r w1 ⟨rfl, hc1⟩
  have Z1 : Hid (Chg w w1 ∧ Ar w1 w.heap.size A) := ⟨((Chg.refl w).alloc _).trans hc1, (Ar.new w _ _).chg hc1⟩
  clear hc1 hsA
  go_wp2_with fail
  go_at_call 10
  refine (new_any kb ko kcap L nk R key w1 (HK.out.1.chg Z1.out.1) HK.out.2.1 HK.out.2.2.1 HK.out.2.2.2.1 HK.out.2.2.2.2.1 HK.out.2.2.2.2.2).mono ?_
  rintro r w2 ⟨K1, k1, rfl, hK1, hc2, hA1, hks1⟩
  have Z2 : Hid (Chg w w2 ∧ Ar w2 w.heap.size A ∧ Ar w2 K1 (keyC R k1) ∧ Ks nk (4 * (R + 1)) key k1) := ⟨Z1.out.1.trans hc2, Z1.out.2.chg hc2, hA1, hks1⟩
  clear hK1 hc2 hA1 hks1 Z1
  go_wp2_with fail
  go_at_call 11
  refine (refNew_any kb ko kcap L nk R key w2 (HK.out.1.chg Z2.out.1) HK.out.2.1 HK.out.2.2.1 HK.out.2.2.2.1 HK.out.2.2.2.2.1 HK.out.2.2.2.2.2).mono ?_
  rintro r w3 ⟨K2, k2, rfl, hK2, hc3, hA2, hks2⟩
  have Z3 : Hid (Chg w w3 ∧ Ar w3 w.heap.size A ∧ Ar w3 K1 (keyC R k1) ∧ Ar w3 K2 (rkeyC R k2)) := ⟨Z2.out.1.trans hc3, Z2.out.2.1.chg hc3, Z2.out.2.2.1.chg hc3, hA2⟩
  have HT : Hid (nums n (stF R k1 av txt) = nums n (stF R k2 av txt) ∧ nums n (stF R k1 av (stF R k1 av txt)) = nums n txt) := ⟨stF_key (n := n) av txt HK.out.2.2.2.1 HK.out.2.2.1 Z2.out.2.2.2 hks2 n, stF_back R n k1 av txt⟩
  clear hK2 hc3 hA2 hks2 Z2
  have Zr : Hid (Ap.Rd (w3.alloc (.cells #[] 5)) (.slice ao n cap) (nums n txt)) := Rd.chg HX.out.2.1 (Z3.out.1.alloc _)
  go_wp2_with (at_builtin; refine Ap.wpList_app _ rfl _ _ rfl (.slice (some ⟨w3.heap.size, 0, none⟩) 0 0) (.slice ao n cap) [] (nums n txt) rfl rfl (OwnV.empty w3) Zr.out (by rw [nums_len]; simp; omega) ?_)
  intro v2 w4 o2 cc2 b2
  have k0 : OwnN w3 (w3.alloc (.cells #[] 5)) (.slice (some ⟨w3.heap.size, 0, none⟩) 0 0) [] := ⟨OwnV.empty w3, fun k e => by simp [Value.ownBlock] at e; omega, (Chg.refl w3).alloc _⟩
  have k2' := k0.more o2 cc2 (by first | exact b2 | (rw [World.size_alloc]; exact b2))
  obtain ⟨oo, m, oc, rfl, hm, -⟩ := o2.rd.shape
  rw [nums_len] at hm
  subst hm
  have Z4 : Hid (Chg w w4 ∧ Ar w4 w.heap.size A ∧ Ar w4 K1 (keyC R k1) ∧ Ar w4 K2 (rkeyC R k2) ∧ Ap.Rd w4 (.slice oo m oc) (nums m txt)) := by
    obtain ⟨q0, q1, q2, q3⟩ := Z3.out
    exact ⟨q0.trans k2'.chg, q1.chg k2'.chg, q2.chg k2'.chg, q3.chg k2'.chg, o2.rd⟩
  clear k0 k2' o2 cc2 b2 Z3 Zr
  obtain ⟨tA, gA⟩ := Z4.out.2.1
  have HS1 : Hid (Calls Try.prog 12 #[.pointer (some ⟨K1, 0, none⟩), .agg A, .slice oo m oc] w4 fun r w' => ∃ g, r = .returned (.slice (some ⟨g, 0, none⟩) m m) ∧ w4.heap.size ≤ g ∧ Chg w4 w' ∧ Ar w' g (ba m (stF R k1 av txt))) := by
    rw [HA.out]
    exact streamV_any K1 R m k1 av txt _ w4 Z4.out.2.2.1 HX.out.1 Z4.out.2.2.2.2 HX.out.2.2
  go_wp2_with (first | refine wpList_load_row rfl 23 _ rfl _ rfl _ _ _ _ gA und32 rfl hszA ?_)
  go_at_call 12
  refine HS1.out.mono ?_
  rintro r w5 ⟨g, rfl, hg, hc5, hAg⟩
  obtain ⟨n, hnm⟩ : ∃ n, n = m := ⟨_, rfl⟩
  subst hnm
  obtain ⟨S1, hS1⟩ : ∃ S, S = strOfNums (nums n (stF R k1 av txt)) := ⟨_, rfl⟩
  obtain ⟨S, hS⟩ : ∃ S, S = strOfNums (nums n txt) := ⟨_, rfl⟩
  have HS : Hid (S1 = strOfNums (nums n (stF R k1 av txt)) ∧ S = strOfNums (nums n txt)) := ⟨hS1, hS⟩
  obtain ⟨w6, hw6⟩ : ∃ w6, w6 = w5 := ⟨_, rfl⟩
  have Z6 : Hid (Chg w w6 ∧ Ar w6 w.heap.size (ba 16 av) ∧ Ar w6 K1 (keyC R k1) ∧ Ar w6 K2 (rkeyC R k2) ∧ w.heap.size ≤ g ∧ Ap.Rd w6 (.slice (some ⟨g, 0, none⟩) n n) (nums n (stF R k1 av txt)) ∧ Ap.Rd w6 (.slice oo n oc) (nums n txt)) := by
    obtain ⟨q0, q1, q2, q3, q4⟩ := Z4.out
    have hb := HX.out.2.2
    rw [HA.out] at q1
    rw [hw6]
    exact ⟨q0.trans hc5, q1.chg hc5, q2.chg hc5, q3.chg hc5, Nat.le_trans q0.size hg, Bs.rd (Ar.bs hAg) (Nat.le_refl _) (by omega), Rd.chg q4 hc5⟩
  rw [← hw6]
  clear hw6 hg hc5 hAg Z4 HS1 gA hszA hS1 hS
  go_upto_region 10 with fail
  go_cut [14] from 49 to 57 (fun v wc => v = .bool true ∧ Chg w6 wc)
  case first =>
      refine wp_region_good 8 (fun j v wg => match j with
        | 0 => v = .slice (some ⟨g, 0, none⟩) n n
        | 1 => v = .string S1
        | 2 => v = .pointer (some ⟨K2, 0, none⟩)
        | 3 => v = .agg (ba 16 av)
        | 4 => v = .slice ao n cap
        | 5 => ∃ vx, v = vx ∧ Ap.Rd wg vx (nums n (stF R k1 av txt))
        | 6 => v = .string S1
        | 7 => v = .bool true
        | _ => True) (by kernel_rfl) (by kernel_rfl) (by kernel_rfl) (by kernel_rfl) (by kernel_rfl) ?_ ?_ ?_
      · intro j v u1 u2 h hc
        match j, h with
        | 0, h => exact h
        | 1, h => exact h
        | 2, h => exact h
        | 3, h => exact h
        | 4, h => exact h
        | 5, h => (obtain ⟨vx, h1, h2⟩ := h; exact ⟨vx, h1, Rd.chg h2 hc⟩)
        | 6, h => exact h
        | 7, h => exact h
        | _ + 8, h => exact trivial
      · intro i o ac u hi ho hsz hf hg hc
        have hcs : i = 0 ∨ i = 1 ∨ i = 2 ∨ i = 3 ∨ i = 4 ∨ i = 5 ∨ i = 6 ∨ i = 7 := by omega
        rcases hcs with rfl | rfl | rfl | rfl | rfl | rfl | rfl | rfl
        · injection ho with ho
          subst ho
          refine .inl ⟨wanted_none rfl, ?_⟩
          have e1 : ac.eval (.tmp 13) = .slice (some ⟨g, 0, none⟩) n n := hf 13 (by kernel_rfl)
          exact opG_val (by simp [execOp, e1]) rfl (Chg.refl _)
        · injection ho with ho
          subst ho
          refine .inl ⟨wanted_none rfl, ?_⟩
          have e1 : ac.eval (.tmp 49) = .slice (some ⟨g, 0, none⟩) n n := hg 0 (by kernel_rfl) (by decide)
          have hcv := (show (convert 22 9 (.slice (some ⟨g, 0, none⟩) n n)).run Try.prog u = .ok (.string S1) u from by rw [HS.out.1]; exact Ap.run_str u _ _ (Rd.chg (w := w6.drew) (Ap.Rd.drew Z6.out.2.2.2.2.2.1) hc))
          exact opG_val (by simp [execOp, e1, hcv]) rfl (Chg.refl _)
        · injection ho with ho
          subst ho
          refine .inl ⟨wanted_none rfl, ?_⟩
          have e1 : ac.eval (.tmp 10) = .pointer (some ⟨K2, 0, none⟩) := hf 10 (by kernel_rfl)
          exact opG_val (by simp [execOp, e1]) rfl (Chg.refl _)
        · injection ho with ho
          subst ho
          refine .inl ⟨wanted_none rfl, ?_⟩
          have e1 : ac.eval (.tmp 4) = .pointer (some ⟨w.heap.size, 0, none⟩) := hf 4 (by kernel_rfl)
          exact wp_load_mid 23 (.tmp 4) rfl _ _ e1 (bl (av)) _ (rangeB (Ar.chg (w := w6.drew) Z6.out.2.1 hc)) und32 rfl (bl_info _) ⟨_, rfl, rfl, Chg.refl _⟩
        · injection ho with ho
          subst ho
          refine .inl ⟨wanted_none rfl, ?_⟩
          have e1 : ac.eval (.tmp 2) = .slice ao n cap := hf 2 (by kernel_rfl)
          exact opG_val (by simp [execOp, e1]) rfl (Chg.refl _)
        · injection ho with ho
          subst ho
          refine .inl ⟨wanted_none rfl, ?_⟩
          have e1 : ac.eval (.tmp 51) = .pointer (some ⟨K2, 0, none⟩) := hg 2 (by kernel_rfl) (by decide)
          have e2 : ac.eval (.tmp 52) = .agg (ba 16 av) := hg 3 (by kernel_rfl) (by decide)
          have e3 : ac.eval (.tmp 53) = .slice ao n cap := hg 4 (by kernel_rfl) (by decide)
          refine opG_go 13 Try.f13 #[.tmp 51, .tmp 52, .tmp 53] #[29, 23, 22] rfl Try.func13 (by kernel_rfl) (by kernel_rfl) (by simp [e1, e2, e3]) (Calls.mono (refStream_any K2 R n cap k2 av txt ao _ (Ar.chg (w := w6.drew) Z6.out.2.2.2.1 hc) HX.out.1 (Rd.chg HX.out.2.1 (Z6.out.1.drew.trans hc)) HX.out.2.2) ?_)
          rintro e u2 ⟨v2, rfl, ho⟩
          exact ⟨_, rfl, ⟨v2, rfl, by rw [HT.out.1]; exact ho.own.rd⟩, ho.chg⟩
        · injection ho with ho
          subst ho
          refine .inl ⟨wanted_none rfl, ?_⟩
          obtain ⟨vx, e10, xx⟩ := hg 5 (by kernel_rfl) (by decide)
          have e1 : ac.eval (.tmp 54) = vx := e10
          have hcv := (show (convert 22 9 (vx)).run Try.prog u = .ok (.string S1) u from by rw [HS.out.1]; exact Ap.run_str u _ _ (xx))
          exact opG_val (by simp [execOp, e1, hcv]) rfl (Chg.refl _)
        · injection ho with ho
          subst ho
          refine .inl ⟨wanted_none rfl, ?_⟩
          have e1 : ac.eval (.tmp 50) = .string S1 := hg 1 (by kernel_rfl) (by decide)
          have e2 : ac.eval (.tmp 55) = .string S1 := hg 6 (by kernel_rfl) (by decide)
          exact opG_val (by revert e1 e2; generalize ac.eval = ρ; intro e1 e2; simp [go_sem, execOp, e1, e2]) rfl (Chg.refl _)
      · intro o u V ho hV hc
        injection ho with ho
        subst ho
        refine ⟨rfl, ?_⟩
        have q49 : V 0 = .slice (some ⟨g, 0, none⟩) n n := hV 0 (by decide)
        have q50 : V 1 = .string S1 := hV 1 (by decide)
        have q51 : V 2 = .pointer (some ⟨K2, 0, none⟩) := hV 2 (by decide)
        have q52 : V 3 = .agg (ba 16 av) := hV 3 (by decide)
        have q53 : V 4 = .slice ao n cap := hV 4 (by decide)
        obtain ⟨vx, q54, xx⟩ := hV 5 (by decide)
        have q55 : V 6 = .string S1 := hV 6 (by decide)
        have q56 : V 7 = .bool true := hV 7 (by decide)
        refine op_val1 (v := .bool true) (by rw [← q56]; rfl) ?_
        go_wp2_with fail
        go_meet
        exact ⟨rfl, (Chg.refl w6).drew.trans hc⟩
  case rest =>
    obtain ⟨rfl, hc7⟩ := hcut
    obtain ⟨w7, hw7⟩ : ∃ w7, w7 = wc := ⟨_, rfl⟩
    have Z7 : Hid (Chg w w7 ∧ Ar w7 w.heap.size (ba 16 av) ∧ Ar w7 K1 (keyC R k1) ∧ Ar w7 K2 (rkeyC R k2) ∧ w.heap.size ≤ g ∧ Ap.Rd w7 (.slice (some ⟨g, 0, none⟩) n n) (nums n (stF R k1 av txt)) ∧ Ap.Rd w7 (.slice oo n oc) (nums n txt)) := by
      obtain ⟨q0, q1, q2, q3, q4, q5, q6⟩ := Z6.out
      rw [hw7]
      exact ⟨q0.trans hc7, q1.chg hc7, q2.chg hc7, q3.chg hc7, q4, Rd.chg q5 hc7, Rd.chg q6 hc7⟩
    rw [← hw7]
    clear hw7 hc7 Z6
    go_upto_region 11 with fail
    refine wp_region_good 18 (fun j v wg => match j with
      | 0 => v = .bool true
      | 1 => v = .bool true
      | 2 => v = .slice oo n oc
      | 3 => v = .string S
      | 4 => v = .slice ao n cap
      | 5 => v = .string S
      | 6 => v = .bool true
      | 7 => v = .bool true
      | 8 => v = .bool true
      | 9 => v = .pointer (some ⟨K1, 0, none⟩)
      | 10 => v = .agg (ba 16 av)
      | 11 => v = .slice (some ⟨g, 0, none⟩) n n
      | 12 => ∃ vx, v = vx ∧ Ap.Rd wg vx (nums n txt)
      | 13 => v = .string S
      | 14 => v = .slice ao n cap
      | 15 => v = .string S
      | 16 => v = .bool true
      | 17 => v = .bool true
      | _ => True) (by kernel_rfl) (by kernel_rfl) (by kernel_rfl) (by kernel_rfl) (by kernel_rfl) ?_ ?_ ?_
    · intro j v u1 u2 h hc
      match j, h with
      | 0, h => exact h
      | 1, h => exact h
      | 2, h => exact h
      | 3, h => exact h
      | 4, h => exact h
      | 5, h => exact h
      | 6, h => exact h
      | 7, h => exact h
      | 8, h => exact h
      | 9, h => exact h
      | 10, h => exact h
      | 11, h => exact h
      | 12, h => (obtain ⟨vx, h1, h2⟩ := h; exact ⟨vx, h1, Rd.chg h2 hc⟩)
      | 13, h => exact h
      | 14, h => exact h
      | 15, h => exact h
      | 16, h => exact h
      | 17, h => exact h
      | _ + 18, h => exact trivial
    · intro i o ac u hi ho hsz hf hg hc
      have hcs : i = 0 ∨ i = 1 ∨ i = 2 ∨ i = 3 ∨ i = 4 ∨ i = 5 ∨ i = 6 ∨ i = 7 ∨ i = 8 ∨ i = 9 ∨ i = 10 ∨ i = 11 ∨ i = 12 ∨ i = 13 ∨ i = 14 ∨ i = 15 ∨ i = 16 ∨ i = 17 := by omega
      rcases hcs with rfl | rfl | rfl | rfl | rfl | rfl | rfl | rfl | rfl | rfl | rfl | rfl | rfl | rfl | rfl | rfl | rfl | rfl
      · injection ho with ho
        subst ho
        refine .inl ⟨wanted_none rfl, ?_⟩
        have e1 : ac.eval (.tmp 14) = .bool true := hf 14 (by kernel_rfl)
        exact opG_val (by simp [execOp, e1]) rfl (Chg.refl _)
      · injection ho with ho
        subst ho
        refine .inl ⟨wanted_none rfl, ?_⟩
        have e1 : ac.eval (.tmp 57) = .bool true := hg 0 (by kernel_rfl) (by decide)
        exact opG_val (by simp [execOp, e1]) rfl (Chg.refl _)
      · injection ho with ho
        subst ho
        refine .inl ⟨wanted_by (T := _) (by kernel_rfl) hsz rfl (by decide : 1 < 18) rfl (hg 1 (by kernel_rfl) (by decide)), ?_⟩
        have e1 : ac.eval (.tmp 12) = .slice oo n oc := hf 12 (by kernel_rfl)
        exact opG_val (by simp [execOp, e1]) rfl (Chg.refl _)
      · injection ho with ho
        subst ho
        refine .inl ⟨wanted_by (T := _) (by kernel_rfl) hsz rfl (by decide : 1 < 18) rfl (hg 1 (by kernel_rfl) (by decide)), ?_⟩
        have e1 : ac.eval (.tmp 59) = .slice oo n oc := hg 2 (by kernel_rfl) (by decide)
        have hcv := (show (convert 22 9 (.slice oo n oc)).run Try.prog u = .ok (.string S) u from by rw [HS.out.2]; exact Ap.run_str u _ _ (Rd.chg (w := w7.drew) (Ap.Rd.drew Z7.out.2.2.2.2.2.2) hc))
        exact opG_val (by simp [execOp, e1, hcv]) rfl (Chg.refl _)
      · injection ho with ho
        subst ho
        refine .inl ⟨wanted_by (T := _) (by kernel_rfl) hsz rfl (by decide : 1 < 18) rfl (hg 1 (by kernel_rfl) (by decide)), ?_⟩
        have e1 : ac.eval (.tmp 2) = .slice ao n cap := hf 2 (by kernel_rfl)
        exact opG_val (by simp [execOp, e1]) rfl (Chg.refl _)
      · injection ho with ho
        subst ho
        refine .inl ⟨wanted_by (T := _) (by kernel_rfl) hsz rfl (by decide : 1 < 18) rfl (hg 1 (by kernel_rfl) (by decide)), ?_⟩
        have e1 : ac.eval (.tmp 61) = .slice ao n cap := hg 4 (by kernel_rfl) (by decide)
        have hcv := (show (convert 22 9 (.slice ao n cap)).run Try.prog u = .ok (.string S) u from by rw [HS.out.2]; exact Ap.run_str u _ _ (Rd.chg HX.out.2.1 (Z7.out.1.drew.trans hc)))
        exact opG_val (by simp [execOp, e1, hcv]) rfl (Chg.refl _)
      · injection ho with ho
        subst ho
        refine .inl ⟨wanted_by (T := _) (by kernel_rfl) hsz rfl (by decide : 1 < 18) rfl (hg 1 (by kernel_rfl) (by decide)), ?_⟩
        have e1 : ac.eval (.tmp 60) = .string S := hg 3 (by kernel_rfl) (by decide)
        have e2 : ac.eval (.tmp 62) = .string S := hg 5 (by kernel_rfl) (by decide)
        exact opG_val (by revert e1 e2; generalize ac.eval = ρ; intro e1 e2; simp [go_sem, execOp, e1, e2]) rfl (Chg.refl _)
      · injection ho with ho
        subst ho
        refine .inl ⟨wanted_none rfl, ?_⟩
        have e1 : ac.eval (.tmp 58) = .bool true := hg 1 (by kernel_rfl) (by decide)
        have e2 : ac.eval (.tmp 63) = .bool true := hg 6 (by kernel_rfl) (by decide)
        have e3 : ac.eval (.const (.bool false)) = .bool false := rfl
        exact opG_val (by revert e1 e2 e3; generalize ac.eval = ρ; intro e1 e2 e3; simp [go_sem, execOp, e1, e2, e3]) rfl (Chg.refl _)
      · injection ho with ho
        subst ho
        refine .inl ⟨wanted_none rfl, ?_⟩
        have e1 : ac.eval (.tmp 64) = .bool true := hg 7 (by kernel_rfl) (by decide)
        exact opG_val (by simp [execOp, e1]) rfl (Chg.refl _)
      · injection ho with ho
        subst ho
        refine .inl ⟨wanted_by (T := _) (by kernel_rfl) hsz rfl (by decide : 8 < 18) rfl (hg 8 (by kernel_rfl) (by decide)), ?_⟩
        have e1 : ac.eval (.tmp 8) = .pointer (some ⟨K1, 0, none⟩) := hf 8 (by kernel_rfl)
        exact opG_val (by simp [execOp, e1]) rfl (Chg.refl _)
      · injection ho with ho
        subst ho
        refine .inl ⟨wanted_by (T := _) (by kernel_rfl) hsz rfl (by decide : 8 < 18) rfl (hg 8 (by kernel_rfl) (by decide)), ?_⟩
        have e1 : ac.eval (.tmp 4) = .pointer (some ⟨w.heap.size, 0, none⟩) := hf 4 (by kernel_rfl)
        exact wp_load_mid 23 (.tmp 4) rfl _ _ e1 (bl (av)) _ (rangeB (Ar.chg (w := w7.drew) Z7.out.2.1 hc)) und32 rfl (bl_info _) ⟨_, rfl, rfl, Chg.refl _⟩
      · injection ho with ho
        subst ho
        refine .inl ⟨wanted_by (T := _) (by kernel_rfl) hsz rfl (by decide : 8 < 18) rfl (hg 8 (by kernel_rfl) (by decide)), ?_⟩
        have e1 : ac.eval (.tmp 13) = .slice (some ⟨g, 0, none⟩) n n := hf 13 (by kernel_rfl)
        exact opG_val (by simp [execOp, e1]) rfl (Chg.refl _)
      · injection ho with ho
        subst ho
        refine .inl ⟨wanted_by (T := _) (by kernel_rfl) hsz rfl (by decide : 8 < 18) rfl (hg 8 (by kernel_rfl) (by decide)), ?_⟩
        have e1 : ac.eval (.tmp 66) = .pointer (some ⟨K1, 0, none⟩) := hg 9 (by kernel_rfl) (by decide)
        have e2 : ac.eval (.tmp 67) = .agg (ba 16 av) := hg 10 (by kernel_rfl) (by decide)
        have e3 : ac.eval (.tmp 68) = .slice (some ⟨g, 0, none⟩) n n := hg 11 (by kernel_rfl) (by decide)
        refine opG_go 12 Try.f12 #[.tmp 66, .tmp 67, .tmp 68] #[25, 23, 22] rfl Try.func12 (by kernel_rfl) (by kernel_rfl) (by simp [e1, e2, e3]) (Calls.mono (streamV_any K1 R n k1 av (stF R k1 av txt) _ _ (Ar.chg (w := w7.drew) Z7.out.2.2.1 hc) HX.out.1 (Rd.chg (w := w7.drew) (Ap.Rd.drew Z7.out.2.2.2.2.2.1) hc) HX.out.2.2) ?_)
        rintro e u2 ⟨gy, rfl, hg1, hg2, hg3⟩
        exact ⟨_, rfl, ⟨_, rfl, by rw [← HT.out.2]; exact Bs.rd (Ar.bs hg3) (Nat.le_refl _) (Nat.le_trans HX.out.2.2 (by decide))⟩, hg2⟩
      · injection ho with ho
        subst ho
        refine .inl ⟨wanted_by (T := _) (by kernel_rfl) hsz rfl (by decide : 8 < 18) rfl (hg 8 (by kernel_rfl) (by decide)), ?_⟩
        obtain ⟨vx, e10, xx⟩ := hg 12 (by kernel_rfl) (by decide)
        have e1 : ac.eval (.tmp 69) = vx := e10
        have hcv := (show (convert 22 9 (vx)).run Try.prog u = .ok (.string S) u from by rw [HS.out.2]; exact Ap.run_str u _ _ (xx))
        exact opG_val (by simp [execOp, e1, hcv]) rfl (Chg.refl _)
      · injection ho with ho
        subst ho
        refine .inl ⟨wanted_by (T := _) (by kernel_rfl) hsz rfl (by decide : 8 < 18) rfl (hg 8 (by kernel_rfl) (by decide)), ?_⟩
        have e1 : ac.eval (.tmp 2) = .slice ao n cap := hf 2 (by kernel_rfl)
        exact opG_val (by simp [execOp, e1]) rfl (Chg.refl _)
      · injection ho with ho
        subst ho
        refine .inl ⟨wanted_by (T := _) (by kernel_rfl) hsz rfl (by decide : 8 < 18) rfl (hg 8 (by kernel_rfl) (by decide)), ?_⟩
        have e1 : ac.eval (.tmp 71) = .slice ao n cap := hg 14 (by kernel_rfl) (by decide)
        have hcv := (show (convert 22 9 (.slice ao n cap)).run Try.prog u = .ok (.string S) u from by rw [HS.out.2]; exact Ap.run_str u _ _ (Rd.chg HX.out.2.1 (Z7.out.1.drew.trans hc)))
        exact opG_val (by simp [execOp, e1, hcv]) rfl (Chg.refl _)
      · injection ho with ho
        subst ho
        refine .inl ⟨wanted_by (T := _) (by kernel_rfl) hsz rfl (by decide : 8 < 18) rfl (hg 8 (by kernel_rfl) (by decide)), ?_⟩
        have e1 : ac.eval (.tmp 70) = .string S := hg 13 (by kernel_rfl) (by decide)
        have e2 : ac.eval (.tmp 72) = .string S := hg 15 (by kernel_rfl) (by decide)
        exact opG_val (by revert e1 e2; generalize ac.eval = ρ; intro e1 e2; simp [go_sem, execOp, e1, e2]) rfl (Chg.refl _)
      · injection ho with ho
        subst ho
        refine .inl ⟨wanted_none rfl, ?_⟩
        have e1 : ac.eval (.tmp 65) = .bool true := hg 8 (by kernel_rfl) (by decide)
        have e2 : ac.eval (.tmp 73) = .bool true := hg 16 (by kernel_rfl) (by decide)
        have e3 : ac.eval (.const (.bool false)) = .bool false := rfl
        exact opG_val (by revert e1 e2 e3; generalize ac.eval = ρ; intro e1 e2 e3; simp [go_sem, execOp, e1, e2, e3]) rfl (Chg.refl _)
    · intro o u V ho hV hc
      injection ho with ho
      subst ho
      refine ⟨rfl, ?_⟩
      have q57 : V 0 = .bool true := hV 0 (by decide)
      have q58 : V 1 = .bool true := hV 1 (by decide)
      have q59 : V 2 = .slice oo n oc := hV 2 (by decide)
      have q60 : V 3 = .string S := hV 3 (by decide)
      have q61 : V 4 = .slice ao n cap := hV 4 (by decide)
      have q62 : V 5 = .string S := hV 5 (by decide)
      have q63 : V 6 = .bool true := hV 6 (by decide)
      have q64 : V 7 = .bool true := hV 7 (by decide)
      have q65 : V 8 = .bool true := hV 8 (by decide)
      have q66 : V 9 = .pointer (some ⟨K1, 0, none⟩) := hV 9 (by decide)
      have q67 : V 10 = .agg (ba 16 av) := hV 10 (by decide)
      have q68 : V 11 = .slice (some ⟨g, 0, none⟩) n n := hV 11 (by decide)
      obtain ⟨vx, q69, xx⟩ := hV 12 (by decide)
      have q70 : V 13 = .string S := hV 13 (by decide)
      have q71 : V 14 = .slice ao n cap := hV 14 (by decide)
      have q72 : V 15 = .string S := hV 15 (by decide)
      have q73 : V 16 = .bool true := hV 16 (by decide)
      have q74 : V 17 = .bool true := hV 17 (by decide)
      refine op_val1 (v := .bool true) (by rw [← q74]; rfl) ?_
      go_wp2_with fail
      go_ret
      exact ⟨rfl, Z7.out.1.drew.trans hc⟩

theorem streams_any (v v2 : Value) (L n : Nat) (key av txt : Nat → By) (w : World) (hv : Ap.Rd w v (nums L key)) (hv2 : Ap.Rd w v2 (nums n txt)) (hn : n ≤ 140737488351232) : Calls Try.prog 3 #[v, .agg (ba 16 av), v2] w fun e w' => e = .returned (.bool true) ∧ Chg w w' := by
  by_cases h : L = 16 ∨ L = 32
  · obtain ⟨kb, ko, c, rfl, h1, h2, h3⟩ := Rd.bs hv (by omega)
    obtain ⟨ao, m, c2, rfl, hm, -⟩ := hv2.shape
    rw [nums_len] at hm
    subst hm
    rcases h with rfl | rfl
    · exact streams_walk kb ko c 16 4 10 m c2 ao key av txt w h3 rfl (.inl rfl) rfl h1 h2 hv2 hn
    · exact streams_walk kb ko c 32 8 14 m c2 ao key av txt w h3 rfl (.inr rfl) rfl h1 h2 hv2 hn
  · obtain ⟨ao, m, c, rfl, hm, _⟩ := hv.shape
    rw [nums_len] at hm
    subst hm
    exact streamsBad_walk ao m c av v2 w (by omega) (by omega)
end Go.Proofs.Ytfnibmfmjglmlaa
