/-
  Blocks and streams are the document's, and a stream takes itself back: ChachaStreams walked.
-/
import Derived.Test.YtkdidacebfkdmaaRSt
import Derived.Test.YtkdidacebfkdmaaEqa
namespace Go.Proofs.Ytkdidacebfkdmaa
open Go.RowKit
set_option linter.unusedVariables false

set_option maxRecDepth 100000 in
set_option maxHeartbeats 8000000 in
theorem streams_walk (n cap : Nat) (ao : Option Addr) (key nonce txt : Nat → By) (c : Wd) (w : World) (ht : Ap.Rd w (.slice ao n cap) (nums n txt)) (hn' : n ≤ 140737488351232) :
    Calls Try.prog 3 #[.agg (ba 32 key), .int .u32 (c.toNat : Int), .agg (ba 12 nonce), .slice ao n cap] w fun r w' => r = .returned (.bool true) ∧ Chg w w' := by
  have HX : Hid (Ap.Rd w (.slice ao n cap) (nums n txt) ∧ n ≤ 140737488351232) := ⟨ht, hn'⟩
  clear ht
  obtain ⟨A, hA⟩ : ∃ A, A = ba 32 key := ⟨_, rfl⟩
  obtain ⟨D, hD⟩ : ∃ D, D = ba 12 nonce := ⟨_, rfl⟩
  have hsA : A.size = 32 := by rw [hA]; exact ba_size _ _
  have hsD : D.size = 12 := by rw [hD]; exact ba_size _ _
  have HSA : Hid ((Try.prog.info? 22).map (·.size) = some A.size ∧ (Try.prog.info? 24).map (·.size) = some D.size) := ⟨by rw [hA]; exact szB key i22, by rw [hD]; exact szB nonce i24⟩
  have HAD : Hid (A = ba 32 key ∧ D = ba 12 nonce) := ⟨hA, hD⟩
  rw [← hA, ← hD]
  clear hA hD
  go_enter Try.func3, Try.ntmps3
  go_wp2_with fail
  go_at_call 8
  refine (head_any _).mono ?_
  rintro r w1 ⟨rfl, hc1⟩
  have Z1 : Hid (KN w w1 key nonce) := by
    rw [HAD.out.1, HAD.out.2] at hc1
    exact KN.to ⟨((Chg.refl w).alloc _).alloc _, (Ar.new w _ _).alloc _, Ar.new1 w _ _ _⟩ hc1
  clear hc1 hsA hsD
  have Zr : Hid (Ap.Rd (w1.alloc (.cells #[] 5)) (.slice ao n cap) (nums n txt)) := Rd.chg HX.out.1 (Z1.out.chg.alloc _)
  go_wp2_with (at_builtin; refine Ap.wpList_app _ rfl _ _ rfl (.slice (some ⟨w1.heap.size, 0, none⟩) 0 0) (.slice ao n cap) [] (nums n txt) rfl rfl (OwnV.empty w1) Zr.out (by rw [nums_len]; simp; omega) ?_)
  intro v2 w4 o2 cc2 b2
  have k0 : OwnN w1 (w1.alloc (.cells #[] 5)) (.slice (some ⟨w1.heap.size, 0, none⟩) 0 0) [] := ⟨OwnV.empty w1, fun k e => by simp [Value.ownBlock] at e; omega, (Chg.refl w1).alloc _⟩
  have k2' := k0.more o2 cc2 (by first | exact b2 | (rw [World.size_alloc]; exact b2))
  obtain ⟨oo, m, oc, rfl, hm, -⟩ := o2.rd.shape
  rw [nums_len] at hm
  subst hm
  have Z4 : Hid (KN w w4 key nonce ∧ Ap.Rd w4 (.slice oo m oc) (nums m txt)) := ⟨Z1.out.to k2'.chg, o2.rd⟩
  clear k0 k2' o2 cc2 b2 Zr Z1
  obtain ⟨tA, gA⟩ := Z4.out.1.ky
  obtain ⟨tD, gD⟩ := Z4.out.1.non
  rw [← HAD.out.1] at gA
  rw [← HAD.out.2] at gD
  have HS1 : Hid (Calls Try.prog 9 #[.agg A, .int .u32 (c.toNat : Int), .agg D, .slice oo m oc] w4 fun r w' => ∃ g, r = .returned (.slice (some ⟨g, 0, none⟩) m m) ∧ w4.heap.size ≤ g ∧ Chg w4 w' ∧ Ar w' g (ba m (stF key c nonce txt))) := by
    rw [HAD.out.1, HAD.out.2]
    exact streamV_any m key nonce txt c _ w4 Z4.out.2 HX.out.2
  go_wp2_with (first | refine wpList_load_row rfl 22 _ rfl _ rfl _ _ _ _ gA und22 rfl HSA.out.1 ?_ | refine wpList_load_row rfl 24 _ rfl _ rfl _ _ _ _ gD und24 rfl HSA.out.2 ?_)
  go_at_call 9
  refine HS1.out.mono ?_
  rintro r w5 ⟨g, rfl, hg, hc5, hAg⟩
  obtain ⟨n, hnm⟩ : ∃ n, n = m := ⟨_, rfl⟩
  subst hnm
  obtain ⟨S1, hS1⟩ : ∃ S, S = strOfNums (nums n (stF key c nonce txt)) := ⟨_, rfl⟩
  obtain ⟨S, hS⟩ : ∃ S, S = strOfNums (nums n txt) := ⟨_, rfl⟩
  have HS : Hid (S1 = strOfNums (nums n (stF key c nonce txt)) ∧ S = strOfNums (nums n txt)) := ⟨hS1, hS⟩
  obtain ⟨w6, hw6⟩ : ∃ w6, w6 = w5 := ⟨_, rfl⟩
  have Z6 : Hid (KN w w6 key nonce ∧ Ap.Rd w6 (.slice (some ⟨g, 0, none⟩) n n) (nums n (stF key c nonce txt)) ∧ Ap.Rd w6 (.slice oo n oc) (nums n txt)) := by
    have hb := HX.out.2
    rw [hw6]
    exact ⟨Z4.out.1.to hc5, Bs.rd (Ar.bs hAg) (Nat.le_refl _) (by omega), Rd.chg Z4.out.2 hc5⟩
  rw [← hw6]
  clear hw6 hg hc5 hAg Z4 HS1 gA gD hS1 hS
  go_upto_region 4 with fail
  go_cut [12] from 22 to 30 (fun v wc => v = .bool true ∧ Chg w6 wc)
  case first =>
      refine wp_region_good 9 (fun j v wg => match j with
        | 0 => v = .slice (some ⟨g, 0, none⟩) n n
        | 1 => v = .string S1
        | 2 => v = .agg (ba 32 key)
        | 3 => v = .int .u32 (c.toNat : Int)
        | 4 => v = .agg (ba 12 nonce)
        | 5 => v = .slice ao n cap
        | 6 => ∃ vx, v = vx ∧ Ap.Rd wg vx (nums n (stF key c nonce txt))
        | 7 => v = .string S1
        | 8 => v = .bool true
        | _ => True) (by kernel_rfl) (by kernel_rfl) (by kernel_rfl) (by kernel_rfl) (by kernel_rfl) ?_ ?_ ?_
      · intro j v u1 u2 h hc
        match j, h with
        | 0, h => exact h
        | 1, h => exact h
        | 2, h => exact h
        | 3, h => exact h
        | 4, h => exact h
        | 5, h => exact h
        | 6, h => (obtain ⟨vx, h1, h2⟩ := h; exact ⟨vx, h1, Rd.chg h2 hc⟩)
        | 7, h => exact h
        | 8, h => exact h
        | _ + 9, h => exact trivial
      · intro i o ac u hi ho hsz hf hg hc
        have hcs : i = 0 ∨ i = 1 ∨ i = 2 ∨ i = 3 ∨ i = 4 ∨ i = 5 ∨ i = 6 ∨ i = 7 ∨ i = 8 := by omega
        rcases hcs with rfl | rfl | rfl | rfl | rfl | rfl | rfl | rfl | rfl
        · injection ho with ho
          subst ho
          refine .inl ⟨wanted_none rfl, ?_⟩
          have e1 : ac.eval (.tmp 11) = .slice (some ⟨g, 0, none⟩) n n := hf 11 (by kernel_rfl)
          exact opG_val (by simp [execOp, e1]) rfl (Chg.refl _)
        · injection ho with ho
          subst ho
          refine .inl ⟨wanted_none rfl, ?_⟩
          have e1 : ac.eval (.tmp 22) = .slice (some ⟨g, 0, none⟩) n n := hg 0 (by kernel_rfl) (by decide)
          have hcv := (show (convert 25 9 (.slice (some ⟨g, 0, none⟩) n n)).run Try.prog u = .ok (.string S1) u from by rw [HS.out.1]; exact Ap.run_str u _ _ (Rd.chg (w := w6.drew) (Ap.Rd.drew Z6.out.2.1) hc))
          exact opG_val (by simp [execOp, e1, hcv]) rfl (Chg.refl _)
        · injection ho with ho
          subst ho
          refine .inl ⟨wanted_none rfl, ?_⟩
          have e1 : ac.eval (.tmp 4) = .pointer (some ⟨w.heap.size, 0, none⟩) := hf 4 (by kernel_rfl)
          exact wp_load_mid 22 (.tmp 4) rfl _ _ e1 ((ba 32 key).toList) _ (rangeA (Ar.chg (w := w6.drew) Z6.out.1.ky hc)) und22 rfl (info32 _) ⟨_, rfl, rfl, Chg.refl _⟩
        · injection ho with ho
          subst ho
          refine .inl ⟨wanted_none rfl, ?_⟩
          have e1 : ac.eval (.tmp 1) = .int .u32 (c.toNat : Int) := hf 1 (by kernel_rfl)
          exact opG_val (by simp [execOp, e1]) rfl (Chg.refl _)
        · injection ho with ho
          subst ho
          refine .inl ⟨wanted_none rfl, ?_⟩
          have e1 : ac.eval (.tmp 6) = .pointer (some ⟨w.heap.size + 1, 0, none⟩) := hf 6 (by kernel_rfl)
          exact wp_load_mid 24 (.tmp 6) rfl _ _ e1 ((ba 12 nonce).toList) _ (rangeA (Ar.chg (w := w6.drew) Z6.out.1.non hc)) und24 rfl (info12 _) ⟨_, rfl, rfl, Chg.refl _⟩
        · injection ho with ho
          subst ho
          refine .inl ⟨wanted_none rfl, ?_⟩
          have e1 : ac.eval (.tmp 3) = .slice ao n cap := hf 3 (by kernel_rfl)
          exact opG_val (by simp [execOp, e1]) rfl (Chg.refl _)
        · injection ho with ho
          subst ho
          refine .inl ⟨wanted_none rfl, ?_⟩
          have e1 : ac.eval (.tmp 24) = .agg (ba 32 key) := hg 2 (by kernel_rfl) (by decide)
          have e2 : ac.eval (.tmp 25) = .int .u32 (c.toNat : Int) := hg 3 (by kernel_rfl) (by decide)
          have e3 : ac.eval (.tmp 26) = .agg (ba 12 nonce) := hg 4 (by kernel_rfl) (by decide)
          have e4 : ac.eval (.tmp 27) = .slice ao n cap := hg 5 (by kernel_rfl) (by decide)
          refine opG_go 10 Try.f10 #[.tmp 24, .tmp 25, .tmp 26, .tmp 27] #[22, 23, 24, 25] rfl Try.func10 (by kernel_rfl) (by kernel_rfl) (by simp [e1, e2, e3, e4]) (Calls.mono (refStream_any n cap key nonce txt c ao _ (Rd.chg HX.out.1 (Z6.out.1.chg.drew.trans hc)) HX.out.2) ?_)
          rintro e u2 ⟨v2, rfl, ho⟩
          exact ⟨_, rfl, ⟨v2, rfl, ho.own.rd⟩, ho.chg⟩
        · injection ho with ho
          subst ho
          refine .inl ⟨wanted_none rfl, ?_⟩
          obtain ⟨vx, e10, xx⟩ := hg 6 (by kernel_rfl) (by decide)
          have e1 : ac.eval (.tmp 28) = vx := e10
          have hcv := (show (convert 25 9 (vx)).run Try.prog u = .ok (.string S1) u from by rw [HS.out.1]; exact Ap.run_str u _ _ (xx))
          exact opG_val (by simp [execOp, e1, hcv]) rfl (Chg.refl _)
        · injection ho with ho
          subst ho
          refine .inl ⟨wanted_none rfl, ?_⟩
          have e1 : ac.eval (.tmp 23) = .string S1 := hg 1 (by kernel_rfl) (by decide)
          have e2 : ac.eval (.tmp 29) = .string S1 := hg 7 (by kernel_rfl) (by decide)
          exact opG_val (by revert e1 e2; generalize ac.eval = ρ; intro e1 e2; simp [go_sem, execOp, e1, e2]) rfl (Chg.refl _)
      · intro o u V ho hV hc
        injection ho with ho
        subst ho
        refine ⟨rfl, ?_⟩
        have q22 : V 0 = .slice (some ⟨g, 0, none⟩) n n := hV 0 (by decide)
        have q23 : V 1 = .string S1 := hV 1 (by decide)
        have q24 : V 2 = .agg (ba 32 key) := hV 2 (by decide)
        have q25 : V 3 = .int .u32 (c.toNat : Int) := hV 3 (by decide)
        have q26 : V 4 = .agg (ba 12 nonce) := hV 4 (by decide)
        have q27 : V 5 = .slice ao n cap := hV 5 (by decide)
        obtain ⟨vx, q28, xx⟩ := hV 6 (by decide)
        have q29 : V 7 = .string S1 := hV 7 (by decide)
        have q30 : V 8 = .bool true := hV 8 (by decide)
        refine op_val1 (v := .bool true) (by rw [← q30]; rfl) ?_
        go_wp2_with fail
        go_meet
        exact ⟨rfl, (Chg.refl w6).drew.trans hc⟩
  case rest =>
    obtain ⟨rfl, hc7⟩ := hcut
    obtain ⟨w7, hw7⟩ : ∃ w7, w7 = wc := ⟨_, rfl⟩
    have Z7 : Hid (KN w w7 key nonce ∧ Ap.Rd w7 (.slice (some ⟨g, 0, none⟩) n n) (nums n (stF key c nonce txt)) ∧ Ap.Rd w7 (.slice oo n oc) (nums n txt)) := by
      obtain ⟨q0, q5, q6⟩ := Z6.out
      rw [hw7]
      exact ⟨q0.to hc7, Rd.chg q5 hc7, Rd.chg q6 hc7⟩
    rw [← hw7]
    clear hw7 hc7 Z6
    go_upto_region 5 with fail
    refine wp_region_good 33 (fun j v wg => match j with
      | 0 => v = .bool true
      | 1 => v = .bool true
      | 2 => v = .bool true
      | 3 => v = .bool true
      | 4 => v = .bool true
      | 5 => v = .agg (ba 32 key)
      | 6 => v = .int .u32 (c.toNat : Int)
      | 7 => v = .agg (ba 12 nonce)
      | 8 => v = .agg (ba 64 (blk key c nonce))
      | 9 => v = .agg (ba 32 key)
      | 10 => v = .int .u32 (c.toNat : Int)
      | 11 => v = .agg (ba 12 nonce)
      | 12 => v = .agg (ba 64 (blk key c nonce))
      | 13 => v = .bool true
      | 14 => v = .bool true
      | 15 => v = .bool true
      | 16 => v = .slice oo n oc
      | 17 => v = .string S
      | 18 => v = .slice ao n cap
      | 19 => v = .string S
      | 20 => v = .bool true
      | 21 => v = .bool true
      | 22 => v = .bool true
      | 23 => v = .agg (ba 32 key)
      | 24 => v = .int .u32 (c.toNat : Int)
      | 25 => v = .agg (ba 12 nonce)
      | 26 => v = .slice (some ⟨g, 0, none⟩) n n
      | 27 => ∃ vx, v = vx ∧ Ap.Rd wg vx (nums n txt)
      | 28 => v = .string S
      | 29 => v = .slice ao n cap
      | 30 => v = .string S
      | 31 => v = .bool true
      | 32 => v = .bool true
      | _ => True) (by kernel_rfl) (by kernel_rfl) (by kernel_rfl) (by kernel_rfl) (by kernel_rfl) ?_ ?_ ?_
    · intro j v u1 u2 h hc
      match j, h with
      | 0, h => exact h
      | 1, h => exact h
      | 2, h => exact h
      | 3, h => exact h
      | 4, h => exact h
      | 5, h => exact h
      | 6, h => exact h
      | 7, h => exact h
      | 8, h => exact h
      | 9, h => exact h
      | 10, h => exact h
      | 11, h => exact h
      | 12, h => exact h
      | 13, h => exact h
      | 14, h => exact h
      | 15, h => exact h
      | 16, h => exact h
      | 17, h => exact h
      | 18, h => exact h
      | 19, h => exact h
      | 20, h => exact h
      | 21, h => exact h
      | 22, h => exact h
      | 23, h => exact h
      | 24, h => exact h
      | 25, h => exact h
      | 26, h => exact h
      | 27, h => (obtain ⟨vx, h1, h2⟩ := h; exact ⟨vx, h1, Rd.chg h2 hc⟩)
      | 28, h => exact h
      | 29, h => exact h
      | 30, h => exact h
      | 31, h => exact h
      | 32, h => exact h
      | _ + 33, h => exact trivial
    · intro i o ac u hi ho hsz hf hg hc
      have hcs : i = 0 ∨ i = 1 ∨ i = 2 ∨ i = 3 ∨ i = 4 ∨ i = 5 ∨ i = 6 ∨ i = 7 ∨ i = 8 ∨ i = 9 ∨ i = 10 ∨ i = 11 ∨ i = 12 ∨ i = 13 ∨ i = 14 ∨ i = 15 ∨ i = 16 ∨ i = 17 ∨ i = 18 ∨ i = 19 ∨ i = 20 ∨ i = 21 ∨ i = 22 ∨ i = 23 ∨ i = 24 ∨ i = 25 ∨ i = 26 ∨ i = 27 ∨ i = 28 ∨ i = 29 ∨ i = 30 ∨ i = 31 ∨ i = 32 := by omega
      rcases hcs with rfl | rfl | rfl | rfl | rfl | rfl | rfl | rfl | rfl | rfl | rfl | rfl | rfl | rfl | rfl | rfl | rfl | rfl | rfl | rfl | rfl | rfl | rfl | rfl | rfl | rfl | rfl | rfl | rfl | rfl | rfl | rfl | rfl
      · injection ho with ho
        subst ho
        refine .inl ⟨wanted_none rfl, ?_⟩
        have e1 : ac.eval (.tmp 9) = .bool true := hf 9 (by kernel_rfl)
        exact opG_val (by simp [execOp, e1]) rfl (Chg.refl _)
      · injection ho with ho
        subst ho
        refine .inl ⟨wanted_none rfl, ?_⟩
        have e1 : ac.eval (.tmp 31) = .bool true := hg 0 (by kernel_rfl) (by decide)
        exact opG_val (by simp [execOp, e1]) rfl (Chg.refl _)
      · injection ho with ho
        subst ho
        refine .inl ⟨wanted_by (T := _) (by kernel_rfl) hsz rfl (by decide : 1 < 33) rfl (hg 1 (by kernel_rfl) (by decide)), ?_⟩
        have e1 : ac.eval (.tmp 12) = .bool true := hf 12 (by kernel_rfl)
        exact opG_val (by simp [execOp, e1]) rfl (Chg.refl _)
      · injection ho with ho
        subst ho
        refine .inl ⟨wanted_none rfl, ?_⟩
        have e1 : ac.eval (.tmp 32) = .bool true := hg 1 (by kernel_rfl) (by decide)
        have e2 : ac.eval (.tmp 33) = .bool true := hg 2 (by kernel_rfl) (by decide)
        have e3 : ac.eval (.const (.bool false)) = .bool false := rfl
        exact opG_val (by revert e1 e2 e3; generalize ac.eval = ρ; intro e1 e2 e3; simp [go_sem, execOp, e1, e2, e3]) rfl (Chg.refl _)
      · injection ho with ho
        subst ho
        refine .inl ⟨wanted_none rfl, ?_⟩
        have e1 : ac.eval (.tmp 34) = .bool true := hg 3 (by kernel_rfl) (by decide)
        exact opG_val (by simp [execOp, e1]) rfl (Chg.refl _)
      · injection ho with ho
        subst ho
        refine .inl ⟨wanted_by (T := _) (by kernel_rfl) hsz rfl (by decide : 4 < 33) rfl (hg 4 (by kernel_rfl) (by decide)), ?_⟩
        have e1 : ac.eval (.tmp 4) = .pointer (some ⟨w.heap.size, 0, none⟩) := hf 4 (by kernel_rfl)
        exact wp_load_mid 22 (.tmp 4) rfl _ _ e1 ((ba 32 key).toList) _ (rangeA (Ar.chg (w := w7.drew) Z7.out.1.ky hc)) und22 rfl (info32 _) ⟨_, rfl, rfl, Chg.refl _⟩
      · injection ho with ho
        subst ho
        refine .inl ⟨wanted_by (T := _) (by kernel_rfl) hsz rfl (by decide : 4 < 33) rfl (hg 4 (by kernel_rfl) (by decide)), ?_⟩
        have e1 : ac.eval (.tmp 1) = .int .u32 (c.toNat : Int) := hf 1 (by kernel_rfl)
        exact opG_val (by simp [execOp, e1]) rfl (Chg.refl _)
      · injection ho with ho
        subst ho
        refine .inl ⟨wanted_by (T := _) (by kernel_rfl) hsz rfl (by decide : 4 < 33) rfl (hg 4 (by kernel_rfl) (by decide)), ?_⟩
        have e1 : ac.eval (.tmp 6) = .pointer (some ⟨w.heap.size + 1, 0, none⟩) := hf 6 (by kernel_rfl)
        exact wp_load_mid 24 (.tmp 6) rfl _ _ e1 ((ba 12 nonce).toList) _ (rangeA (Ar.chg (w := w7.drew) Z7.out.1.non hc)) und24 rfl (info12 _) ⟨_, rfl, rfl, Chg.refl _⟩
      · injection ho with ho
        subst ho
        refine .inl ⟨wanted_by (T := _) (by kernel_rfl) hsz rfl (by decide : 4 < 33) rfl (hg 4 (by kernel_rfl) (by decide)), ?_⟩
        have e1 : ac.eval (.tmp 36) = .agg (ba 32 key) := hg 5 (by kernel_rfl) (by decide)
        have e2 : ac.eval (.tmp 37) = .int .u32 (c.toNat : Int) := hg 6 (by kernel_rfl) (by decide)
        have e3 : ac.eval (.tmp 38) = .agg (ba 12 nonce) := hg 7 (by kernel_rfl) (by decide)
        refine opG_go 11 Try.f11 #[.tmp 36, .tmp 37, .tmp 38] #[22, 23, 24] rfl Try.func11 (by kernel_rfl) (by kernel_rfl) (by simp [e1, e2, e3]) (Calls.mono (block_any key nonce c _) ?_)
        rintro e u2 ⟨rfl, h2⟩
        exact ⟨_, rfl, rfl, h2⟩
      · injection ho with ho
        subst ho
        refine .inl ⟨wanted_by (T := _) (by kernel_rfl) hsz rfl (by decide : 4 < 33) rfl (hg 4 (by kernel_rfl) (by decide)), ?_⟩
        have e1 : ac.eval (.tmp 4) = .pointer (some ⟨w.heap.size, 0, none⟩) := hf 4 (by kernel_rfl)
        exact wp_load_mid 22 (.tmp 4) rfl _ _ e1 ((ba 32 key).toList) _ (rangeA (Ar.chg (w := w7.drew) Z7.out.1.ky hc)) und22 rfl (info32 _) ⟨_, rfl, rfl, Chg.refl _⟩
      · injection ho with ho
        subst ho
        refine .inl ⟨wanted_by (T := _) (by kernel_rfl) hsz rfl (by decide : 4 < 33) rfl (hg 4 (by kernel_rfl) (by decide)), ?_⟩
        have e1 : ac.eval (.tmp 1) = .int .u32 (c.toNat : Int) := hf 1 (by kernel_rfl)
        exact opG_val (by simp [execOp, e1]) rfl (Chg.refl _)
      · injection ho with ho
        subst ho
        refine .inl ⟨wanted_by (T := _) (by kernel_rfl) hsz rfl (by decide : 4 < 33) rfl (hg 4 (by kernel_rfl) (by decide)), ?_⟩
        have e1 : ac.eval (.tmp 6) = .pointer (some ⟨w.heap.size + 1, 0, none⟩) := hf 6 (by kernel_rfl)
        exact wp_load_mid 24 (.tmp 6) rfl _ _ e1 ((ba 12 nonce).toList) _ (rangeA (Ar.chg (w := w7.drew) Z7.out.1.non hc)) und24 rfl (info12 _) ⟨_, rfl, rfl, Chg.refl _⟩
      · injection ho with ho
        subst ho
        refine .inl ⟨wanted_by (T := _) (by kernel_rfl) hsz rfl (by decide : 4 < 33) rfl (hg 4 (by kernel_rfl) (by decide)), ?_⟩
        have e1 : ac.eval (.tmp 40) = .agg (ba 32 key) := hg 9 (by kernel_rfl) (by decide)
        have e2 : ac.eval (.tmp 41) = .int .u32 (c.toNat : Int) := hg 10 (by kernel_rfl) (by decide)
        have e3 : ac.eval (.tmp 42) = .agg (ba 12 nonce) := hg 11 (by kernel_rfl) (by decide)
        refine opG_go 12 Try.f12 #[.tmp 40, .tmp 41, .tmp 42] #[22, 23, 24] rfl Try.func12 (by kernel_rfl) (by kernel_rfl) (by simp [e1, e2, e3]) (Calls.mono (refBlock_any key nonce c _) ?_)
        rintro e u2 ⟨rfl, h2⟩
        exact ⟨_, rfl, rfl, h2⟩
      · injection ho with ho
        subst ho
        refine .inl ⟨wanted_by (T := _) (by kernel_rfl) hsz rfl (by decide : 4 < 33) rfl (hg 4 (by kernel_rfl) (by decide)), ?_⟩
        have e1 : ac.eval (.tmp 39) = .agg (ba 64 (blk key c nonce)) := hg 8 (by kernel_rfl) (by decide)
        have e2 : ac.eval (.tmp 43) = .agg (ba 64 (blk key c nonce)) := hg 12 (by kernel_rfl) (by decide)
        exact opG_val (by revert e1 e2; generalize ac.eval = ρ; intro e1 e2; simp [go_sem, execOp, e1, e2, run_eq64]) rfl (Chg.refl _)
      · injection ho with ho
        subst ho
        refine .inl ⟨wanted_none rfl, ?_⟩
        have e1 : ac.eval (.tmp 35) = .bool true := hg 4 (by kernel_rfl) (by decide)
        have e2 : ac.eval (.tmp 44) = .bool true := hg 13 (by kernel_rfl) (by decide)
        have e3 : ac.eval (.const (.bool false)) = .bool false := rfl
        exact opG_val (by revert e1 e2 e3; generalize ac.eval = ρ; intro e1 e2 e3; simp [go_sem, execOp, e1, e2, e3]) rfl (Chg.refl _)
      · injection ho with ho
        subst ho
        refine .inl ⟨wanted_none rfl, ?_⟩
        have e1 : ac.eval (.tmp 45) = .bool true := hg 14 (by kernel_rfl) (by decide)
        exact opG_val (by simp [execOp, e1]) rfl (Chg.refl _)
      · injection ho with ho
        subst ho
        refine .inl ⟨wanted_by (T := _) (by kernel_rfl) hsz rfl (by decide : 15 < 33) rfl (hg 15 (by kernel_rfl) (by decide)), ?_⟩
        have e1 : ac.eval (.tmp 10) = .slice oo n oc := hf 10 (by kernel_rfl)
        exact opG_val (by simp [execOp, e1]) rfl (Chg.refl _)
      · injection ho with ho
        subst ho
        refine .inl ⟨wanted_by (T := _) (by kernel_rfl) hsz rfl (by decide : 15 < 33) rfl (hg 15 (by kernel_rfl) (by decide)), ?_⟩
        have e1 : ac.eval (.tmp 47) = .slice oo n oc := hg 16 (by kernel_rfl) (by decide)
        have hcv := (show (convert 25 9 (.slice oo n oc)).run Try.prog u = .ok (.string S) u from by rw [HS.out.2]; exact Ap.run_str u _ _ (Rd.chg (w := w7.drew) (Ap.Rd.drew Z7.out.2.2) hc))
        exact opG_val (by simp [execOp, e1, hcv]) rfl (Chg.refl _)
      · injection ho with ho
        subst ho
        refine .inl ⟨wanted_by (T := _) (by kernel_rfl) hsz rfl (by decide : 15 < 33) rfl (hg 15 (by kernel_rfl) (by decide)), ?_⟩
        have e1 : ac.eval (.tmp 3) = .slice ao n cap := hf 3 (by kernel_rfl)
        exact opG_val (by simp [execOp, e1]) rfl (Chg.refl _)
      · injection ho with ho
        subst ho
        refine .inl ⟨wanted_by (T := _) (by kernel_rfl) hsz rfl (by decide : 15 < 33) rfl (hg 15 (by kernel_rfl) (by decide)), ?_⟩
        have e1 : ac.eval (.tmp 49) = .slice ao n cap := hg 18 (by kernel_rfl) (by decide)
        have hcv := (show (convert 25 9 (.slice ao n cap)).run Try.prog u = .ok (.string S) u from by rw [HS.out.2]; exact Ap.run_str u _ _ (Rd.chg HX.out.1 (Z7.out.1.chg.drew.trans hc)))
        exact opG_val (by simp [execOp, e1, hcv]) rfl (Chg.refl _)
      · injection ho with ho
        subst ho
        refine .inl ⟨wanted_by (T := _) (by kernel_rfl) hsz rfl (by decide : 15 < 33) rfl (hg 15 (by kernel_rfl) (by decide)), ?_⟩
        have e1 : ac.eval (.tmp 48) = .string S := hg 17 (by kernel_rfl) (by decide)
        have e2 : ac.eval (.tmp 50) = .string S := hg 19 (by kernel_rfl) (by decide)
        exact opG_val (by revert e1 e2; generalize ac.eval = ρ; intro e1 e2; simp [go_sem, execOp, e1, e2]) rfl (Chg.refl _)
      · injection ho with ho
        subst ho
        refine .inl ⟨wanted_none rfl, ?_⟩
        have e1 : ac.eval (.tmp 46) = .bool true := hg 15 (by kernel_rfl) (by decide)
        have e2 : ac.eval (.tmp 51) = .bool true := hg 20 (by kernel_rfl) (by decide)
        have e3 : ac.eval (.const (.bool false)) = .bool false := rfl
        exact opG_val (by revert e1 e2 e3; generalize ac.eval = ρ; intro e1 e2 e3; simp [go_sem, execOp, e1, e2, e3]) rfl (Chg.refl _)
      · injection ho with ho
        subst ho
        refine .inl ⟨wanted_none rfl, ?_⟩
        have e1 : ac.eval (.tmp 52) = .bool true := hg 21 (by kernel_rfl) (by decide)
        exact opG_val (by simp [execOp, e1]) rfl (Chg.refl _)
      · injection ho with ho
        subst ho
        refine .inl ⟨wanted_by (T := _) (by kernel_rfl) hsz rfl (by decide : 22 < 33) rfl (hg 22 (by kernel_rfl) (by decide)), ?_⟩
        have e1 : ac.eval (.tmp 4) = .pointer (some ⟨w.heap.size, 0, none⟩) := hf 4 (by kernel_rfl)
        exact wp_load_mid 22 (.tmp 4) rfl _ _ e1 ((ba 32 key).toList) _ (rangeA (Ar.chg (w := w7.drew) Z7.out.1.ky hc)) und22 rfl (info32 _) ⟨_, rfl, rfl, Chg.refl _⟩
      · injection ho with ho
        subst ho
        refine .inl ⟨wanted_by (T := _) (by kernel_rfl) hsz rfl (by decide : 22 < 33) rfl (hg 22 (by kernel_rfl) (by decide)), ?_⟩
        have e1 : ac.eval (.tmp 1) = .int .u32 (c.toNat : Int) := hf 1 (by kernel_rfl)
        exact opG_val (by simp [execOp, e1]) rfl (Chg.refl _)
      · injection ho with ho
        subst ho
        refine .inl ⟨wanted_by (T := _) (by kernel_rfl) hsz rfl (by decide : 22 < 33) rfl (hg 22 (by kernel_rfl) (by decide)), ?_⟩
        have e1 : ac.eval (.tmp 6) = .pointer (some ⟨w.heap.size + 1, 0, none⟩) := hf 6 (by kernel_rfl)
        exact wp_load_mid 24 (.tmp 6) rfl _ _ e1 ((ba 12 nonce).toList) _ (rangeA (Ar.chg (w := w7.drew) Z7.out.1.non hc)) und24 rfl (info12 _) ⟨_, rfl, rfl, Chg.refl _⟩
      · injection ho with ho
        subst ho
        refine .inl ⟨wanted_by (T := _) (by kernel_rfl) hsz rfl (by decide : 22 < 33) rfl (hg 22 (by kernel_rfl) (by decide)), ?_⟩
        have e1 : ac.eval (.tmp 11) = .slice (some ⟨g, 0, none⟩) n n := hf 11 (by kernel_rfl)
        exact opG_val (by simp [execOp, e1]) rfl (Chg.refl _)
      · injection ho with ho
        subst ho
        refine .inl ⟨wanted_by (T := _) (by kernel_rfl) hsz rfl (by decide : 22 < 33) rfl (hg 22 (by kernel_rfl) (by decide)), ?_⟩
        have e1 : ac.eval (.tmp 54) = .agg (ba 32 key) := hg 23 (by kernel_rfl) (by decide)
        have e2 : ac.eval (.tmp 55) = .int .u32 (c.toNat : Int) := hg 24 (by kernel_rfl) (by decide)
        have e3 : ac.eval (.tmp 56) = .agg (ba 12 nonce) := hg 25 (by kernel_rfl) (by decide)
        have e4 : ac.eval (.tmp 57) = .slice (some ⟨g, 0, none⟩) n n := hg 26 (by kernel_rfl) (by decide)
        refine opG_go 9 Try.f9 #[.tmp 54, .tmp 55, .tmp 56, .tmp 57] #[22, 23, 24, 25] rfl Try.func9 (by kernel_rfl) (by kernel_rfl) (by simp [e1, e2, e3, e4]) (Calls.mono (streamV_any n key nonce (stF key c nonce txt) c _ _ (Rd.chg (w := w7.drew) (Ap.Rd.drew Z7.out.2.1) hc) HX.out.2) ?_)
        rintro e u2 ⟨gy, rfl, hg1, hg2, hg3⟩
        exact ⟨_, rfl, ⟨_, rfl, by rw [← stF_back n key nonce txt c]; exact Bs.rd (Ar.bs hg3) (Nat.le_refl _) (Nat.le_trans HX.out.2 (by decide))⟩, hg2⟩
      · injection ho with ho
        subst ho
        refine .inl ⟨wanted_by (T := _) (by kernel_rfl) hsz rfl (by decide : 22 < 33) rfl (hg 22 (by kernel_rfl) (by decide)), ?_⟩
        obtain ⟨vx, e10, xx⟩ := hg 27 (by kernel_rfl) (by decide)
        have e1 : ac.eval (.tmp 58) = vx := e10
        have hcv := (show (convert 25 9 (vx)).run Try.prog u = .ok (.string S) u from by rw [HS.out.2]; exact Ap.run_str u _ _ (xx))
        exact opG_val (by simp [execOp, e1, hcv]) rfl (Chg.refl _)
      · injection ho with ho
        subst ho
        refine .inl ⟨wanted_by (T := _) (by kernel_rfl) hsz rfl (by decide : 22 < 33) rfl (hg 22 (by kernel_rfl) (by decide)), ?_⟩
        have e1 : ac.eval (.tmp 3) = .slice ao n cap := hf 3 (by kernel_rfl)
        exact opG_val (by simp [execOp, e1]) rfl (Chg.refl _)
      · injection ho with ho
        subst ho
        refine .inl ⟨wanted_by (T := _) (by kernel_rfl) hsz rfl (by decide : 22 < 33) rfl (hg 22 (by kernel_rfl) (by decide)), ?_⟩
        have e1 : ac.eval (.tmp 60) = .slice ao n cap := hg 29 (by kernel_rfl) (by decide)
        have hcv := (show (convert 25 9 (.slice ao n cap)).run Try.prog u = .ok (.string S) u from by rw [HS.out.2]; exact Ap.run_str u _ _ (Rd.chg HX.out.1 (Z7.out.1.chg.drew.trans hc)))
        exact opG_val (by simp [execOp, e1, hcv]) rfl (Chg.refl _)
      · injection ho with ho
        subst ho
        refine .inl ⟨wanted_by (T := _) (by kernel_rfl) hsz rfl (by decide : 22 < 33) rfl (hg 22 (by kernel_rfl) (by decide)), ?_⟩
        have e1 : ac.eval (.tmp 59) = .string S := hg 28 (by kernel_rfl) (by decide)
        have e2 : ac.eval (.tmp 61) = .string S := hg 30 (by kernel_rfl) (by decide)
        exact opG_val (by revert e1 e2; generalize ac.eval = ρ; intro e1 e2; simp [go_sem, execOp, e1, e2]) rfl (Chg.refl _)
      · injection ho with ho
        subst ho
        refine .inl ⟨wanted_none rfl, ?_⟩
        have e1 : ac.eval (.tmp 53) = .bool true := hg 22 (by kernel_rfl) (by decide)
        have e2 : ac.eval (.tmp 62) = .bool true := hg 31 (by kernel_rfl) (by decide)
        have e3 : ac.eval (.const (.bool false)) = .bool false := rfl
        exact opG_val (by revert e1 e2 e3; generalize ac.eval = ρ; intro e1 e2 e3; simp [go_sem, execOp, e1, e2, e3]) rfl (Chg.refl _)
    · intro o u V ho hV hc
      injection ho with ho
      subst ho
      refine ⟨rfl, ?_⟩
      have q31 : V 0 = .bool true := hV 0 (by decide)
      have q32 : V 1 = .bool true := hV 1 (by decide)
      have q33 : V 2 = .bool true := hV 2 (by decide)
      have q34 : V 3 = .bool true := hV 3 (by decide)
      have q35 : V 4 = .bool true := hV 4 (by decide)
      have q36 : V 5 = .agg (ba 32 key) := hV 5 (by decide)
      have q37 : V 6 = .int .u32 (c.toNat : Int) := hV 6 (by decide)
      have q38 : V 7 = .agg (ba 12 nonce) := hV 7 (by decide)
      have q39 : V 8 = .agg (ba 64 (blk key c nonce)) := hV 8 (by decide)
      have q40 : V 9 = .agg (ba 32 key) := hV 9 (by decide)
      have q41 : V 10 = .int .u32 (c.toNat : Int) := hV 10 (by decide)
      have q42 : V 11 = .agg (ba 12 nonce) := hV 11 (by decide)
      have q43 : V 12 = .agg (ba 64 (blk key c nonce)) := hV 12 (by decide)
      have q44 : V 13 = .bool true := hV 13 (by decide)
      have q45 : V 14 = .bool true := hV 14 (by decide)
      have q46 : V 15 = .bool true := hV 15 (by decide)
      have q47 : V 16 = .slice oo n oc := hV 16 (by decide)
      have q48 : V 17 = .string S := hV 17 (by decide)
      have q49 : V 18 = .slice ao n cap := hV 18 (by decide)
      have q50 : V 19 = .string S := hV 19 (by decide)
      have q51 : V 20 = .bool true := hV 20 (by decide)
      have q52 : V 21 = .bool true := hV 21 (by decide)
      have q53 : V 22 = .bool true := hV 22 (by decide)
      have q54 : V 23 = .agg (ba 32 key) := hV 23 (by decide)
      have q55 : V 24 = .int .u32 (c.toNat : Int) := hV 24 (by decide)
      have q56 : V 25 = .agg (ba 12 nonce) := hV 25 (by decide)
      have q57 : V 26 = .slice (some ⟨g, 0, none⟩) n n := hV 26 (by decide)
      obtain ⟨vx, q58, xx⟩ := hV 27 (by decide)
      have q59 : V 28 = .string S := hV 28 (by decide)
      have q60 : V 29 = .slice ao n cap := hV 29 (by decide)
      have q61 : V 30 = .string S := hV 30 (by decide)
      have q62 : V 31 = .bool true := hV 31 (by decide)
      have q63 : V 32 = .bool true := hV 32 (by decide)
      refine op_val1 (v := .bool true) (by rw [← q63]; rfl) ?_
      go_wp2_with fail
      go_ret
      exact ⟨rfl, Z7.out.1.chg.drew.trans hc⟩

theorem streams_any (n : Nat) (key nonce txt : Nat → By) (z : Int) (hz : 0 ≤ z ∧ z < 4294967296) (v : Value) (w : World) (hv : Ap.Rd w v (nums n txt)) (hn : n ≤ 140737488351232) : Calls Try.prog 3 #[.agg (ba 32 key), .int .u32 z, .agg (ba 12 nonce), v] w fun e w' => e = .returned (.bool true) ∧ Chg w w' := by
  obtain ⟨ao, m, c2, rfl, hm, -⟩ := hv.shape
  rw [nums_len] at hm
  subst hm
  have e : z = ((BitVec.ofNat 32 z.toNat).toNat : Int) := by rw [BitVec.toNat_ofNat]; omega
  rw [e]
  exact streams_walk m c2 ao key nonce txt _ w hv hn
end Go.Proofs.Ytkdidacebfkdmaa
