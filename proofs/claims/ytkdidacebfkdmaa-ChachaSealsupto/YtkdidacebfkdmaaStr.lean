/-
  Bytes XORed with the blocks that a count counts: the function Stream.
-/
import Derived.Test.YtkdidacebfkdmaaBlk
namespace Go.Proofs.Ytkdidacebfkdmaa
open Go.RowKit
set_option linter.unusedVariables false

theorem nameXor (x y : By) : ∃ z : By, Hid (z = x ^^^ y) ∧ Go.bits .xor .u8 (x.toNat : Int) (y.toNat : Int) = (z.toNat : Int) := ⟨_, rfl, xorB x y⟩
theorem nmInc (x : Wd) : ∃ z : Wd, Hid (z = x + 1#32) ∧ IntKind.u32.wrap ((x.toNat : Int) + 1) = (z.toNat : Int) := ⟨_, rfl, by rw [BitVec.toNat_add, IntKind.wrap_u32]; simp⟩
theorem stF_at (key nonce txt : Nat → By) (c : Wd) {m i : Nat} (hi : i < 64) : stF key c nonce txt (64 * m + i) = txt (64 * m + i) ^^^ blk key (c + BitVec.ofNat 32 m) nonce i := by
  unfold stF
  rw [show (64 * m + i) / 64 = m by omega, show (64 * m + i) % 64 = i by omega]
theorem cnt_succ (c : Wd) (m : Nat) : c + BitVec.ofNat 32 m + 1#32 = c + BitVec.ofNat 32 (m + 1) := by
  rw [BitVec.add_assoc]
  congr 1
  apply BitVec.eq_of_toNat_eq
  simp [BitVec.toNat_add]

/-- What stands while a text is streamed. -/
structure StS (w wr : World) (n : Nat) (key nonce F : Nat → By) (p : Nat) : Prop where
  chg : Chg w wr
  key : Ar wr w.heap.size (ba 32 key)
  non : Ar wr (w.heap.size + 1) (ba 12 nonce)
  out : Ar wr (w.heap.size + 1 + 1) (ba n (upTo p F zB))
theorem StS.to {w wr u : World} {n p : Nat} {key nonce F : Nat → By} (h : StS w wr n key nonce F p) (k : Chg wr u) : StS w u n key nonce F p := ⟨h.chg.trans k, h.key.chg k, h.non.chg k, h.out.chg k⟩

set_option maxRecDepth 100000 in
set_option maxHeartbeats 4000000 in
theorem streamNil_any (key nonce txt : Nat → By) (c : Wd) (ao : Option Addr) (cap : Nat) (w : World) :
    Calls Try.prog 9 #[.agg (ba 32 key), .int .u32 (c.toNat : Int), .agg (ba 12 nonce), .slice ao 0 cap] w fun r w' => ∃ g, r = .returned (.slice (some ⟨g, 0, none⟩) 0 0) ∧ w.heap.size ≤ g ∧ Chg w w' ∧ Ar w' g (ba 0 (stF key c nonce txt)) := by
  obtain ⟨A, hA⟩ : ∃ A, A = ba 32 key := ⟨_, rfl⟩
  obtain ⟨D, hD⟩ : ∃ D, D = ba 12 nonce := ⟨_, rfl⟩
  have hsA : A.size = 32 := by rw [hA]; exact ba_size _ _
  have hsD : D.size = 12 := by rw [hD]; exact ba_size _ _
  rw [← hA, ← hD]
  clear hA hD
  have hmk : ∀ u, (Instr.makeSlice 25 (.int .i64 0) (.int .i64 0)).run Try.prog u = .ok (.slice (some ⟨u.heap.size, 0, none⟩) 0 0) (u.alloc (.cells (ba 0 zB) 5)) := mk22 0 (by decide)
  go_enter Try.func9, Try.ntmps9
  go_wp2_with fail
  go_loopw [10] (fun v wr => v = .int .i64 0 ∧ wr = ((w.alloc (.cells A 22)).alloc (.cells D 24)).alloc (.cells (ba 0 zB) 5)) (fun v wr => 0)
  case atStart => exact ⟨rfl, rfl⟩
  case round =>
    obtain ⟨rfl, rfl⟩ := hrel
    go_wp2
    go_ret
    refine ⟨w.heap.size + 1 + 1, rfl, by omega, (((Chg.refl w).alloc _).alloc _).alloc _, ?_⟩
    exact Ar.new2 w _ _ (ba 0 zB) 5

set_option maxRecDepth 100000 in
set_option maxHeartbeats 4000000 in
theorem stream_any (tb tt n cap : Nat) (key nonce txt : Nat → By) (c : Wd) (w : World) (ht : Bs w tb tt n txt) (hn : 0 < n) (hn' : n ≤ 140737488351232) :
    Calls Try.prog 9 #[.agg (ba 32 key), .int .u32 (c.toNat : Int), .agg (ba 12 nonce), .slice (some ⟨tb, tt, none⟩) n cap] w fun r w' => ∃ g, r = .returned (.slice (some ⟨g, 0, none⟩) n n) ∧ w.heap.size ≤ g ∧ Chg w w' ∧ Ar w' g (ba n (stF key c nonce txt)) := by
  obtain ⟨A, hA⟩ : ∃ A, A = ba 32 key := ⟨_, rfl⟩
  obtain ⟨D, hD⟩ : ∃ D, D = ba 12 nonce := ⟨_, rfl⟩
  have hsA : A.size = 32 := by rw [hA]; exact ba_size _ _
  have hsD : D.size = 12 := by rw [hD]; exact ba_size _ _
  have HSA : Hid ((Try.prog.info? 22).map (·.size) = some A.size ∧ (Try.prog.info? 24).map (·.size) = some D.size) := ⟨by rw [hA]; exact szB key i22, by rw [hD]; exact szB nonce i24⟩
  have HAD : Hid (A = ba 32 key ∧ D = ba 12 nonce) := ⟨hA, hD⟩
  rw [← hA, ← hD]
  clear hA hD
  have HX : Hid (Bs w tb tt n txt) := ht
  clear ht
  have hmk := mk22 n (by omega)
  have hz := zero28.1
  go_enter Try.func9, Try.ntmps9
  go_wp2_with fail
  obtain ⟨w3, hw3⟩ : ∃ w3, w3 = ((w.alloc (.cells A 22)).alloc (.cells D 24)).alloc (.cells (ba n zB) 5) := ⟨_, rfl⟩
  obtain ⟨F, hF⟩ : ∃ F, F = stF key c nonce txt := ⟨_, rfl⟩
  have HF : Hid (F = stF key c nonce txt) := hF
  have Z3 : Hid (StS w w3 n key nonce F 0) := by
    rw [hw3, HAD.out.1, HAD.out.2]
    refine ⟨(((Chg.refl w).alloc _).alloc _).alloc _, ((Ar.new w _ _).alloc _).alloc _, (Ar.new1 w _ _ _).alloc _, ?_⟩
    rw [upTo_zero]
    exact Ar.new2 w _ _ _ _
  rw [← hw3]
  clear hw3 hmk hsA hsD hF
  go_loopw [1, 10] (fun v1 v10 wr => ∃ (m : Nat), v1 = .int .u32 ((c + BitVec.ofNat 32 m).toNat : Int) ∧ v10 = .int .i64 ((64 * m : Nat) : Int) ∧ 64 * m ≤ n + 64 ∧ StS w wr n key nonce F (64 * m)) (fun v1 v10 wr => n - (intOf v10).toNat)
  case atStart => exact ⟨0, by simp, rfl, by omega, Z3.out⟩
  case round =>
    clear Z3
    obtain ⟨m, rfl, rfl, hm, hz3⟩ := hrel
    have Z : Hid (StS w wr n key nonce F (64 * m)) := hz3
    clear hz3
    obtain ⟨fr, hfr⟩ : ∃ fr : Nat, fr = 64 * m := ⟨_, rfl⟩
    obtain ⟨cm, hcm⟩ : ∃ cm, cm = c + BitVec.ofNat 32 m := ⟨_, rfl⟩
    rw [← hfr, ← hcm]
    have HFR : Hid (fr = 64 * m) := hfr
    have HCM : Hid (cm = c + BitVec.ofNat 32 m) := hcm
    have hfn : fr ≤ n + 64 := by omega
    clear hfr hm hcm
    by_cases hlt : fr < n
    · have hd : decide ((fr : Int) < n) = true := by simp; omega
      have lfr : (fr : Int) < n := by omega
      obtain ⟨P, hP⟩ : ∃ P, P = blk key cm nonce := ⟨_, rfl⟩
      have HP : Hid (P = blk key cm nonce) := hP
      have HE : Hid (Calls Try.prog 11 #[.agg A, .int .u32 (cm.toNat : Int), .agg D] wr fun r w' => r = .returned (.agg (ba 64 P)) ∧ Chg wr w') := by
        rw [hP, HAD.out.1, HAD.out.2]
        exact block_any key nonce cm wr
      obtain ⟨tA, gA⟩ := Z.out.key
      obtain ⟨tD, gD⟩ := Z.out.non
      rw [← HAD.out.1] at gA
      rw [← HAD.out.2] at gD
      have hszP := szB P i28
      have hlenP := lenB 64 zB P
      have honeP := ba_one 64 P
      obtain ⟨rest, hrest⟩ : ∃ rest : Nat, (n : Int) - fr = rest := ⟨n - fr, by omega⟩
      have wrest := wrap_i (x := (rest : Int)) (by omega) (by omega)
      obtain ⟨q, hq⟩ : ∃ q : Nat, q = min 64 rest := ⟨_, rfl⟩
      have hmin : min (64 : Int) (rest : Int) = q := by omega
      have HQ : Hid (rest = n - fr ∧ q = min 64 rest) := ⟨by omega, hq⟩
      have hq16 : q ≤ 64 := by omega
      have hqr : fr + q ≤ n := by omega
      clear hP hq
      go_upto_region 6 with (first | refine wpList_load_row rfl 22 _ rfl _ rfl _ _ _ _ gA und22 rfl HSA.out.1 ?_ | refine wpList_load_row rfl 24 _ rfl _ rfl _ _ _ _ gD und24 rfl HSA.out.2 ?_ | (go_at_call 11; refine HE.out.mono ?_; rintro r w4 ⟨rfl, hc4⟩) | refine wpList_store_row rfl 28 _ _ rfl _ _ rfl rfl _ _ (heap_alloc_last w4 _) hszP hlenP honeP ?_)
      obtain ⟨pb, hpb⟩ : ∃ pb, pb = w4.heap.size := ⟨_, rfl⟩
      obtain ⟨w5, hw5⟩ : ∃ w5, w5 = (w4.alloc (.cells (ba 64 zB) 28)).setRow w4.heap.size (ba 64 P) := ⟨_, rfl⟩
      have Z5 : Hid (StS w w5 n key nonce F fr ∧ Ar w5 pb (ba 64 P) ∧ w.heap.size + 1 + 1 < pb) := by
        have h4 := Z.out.to hc4
        rw [← HFR.out] at h4
        have e1 := h4.key.lt
        have e2 := h4.non.lt
        have e3 := h4.out.lt
        rw [hw5, hpb]
        exact ⟨⟨(h4.chg.alloc _).setRow h4.chg.size _, (h4.key.alloc _).rowOther (by omega) _, (h4.non.alloc _).rowOther (by omega) _, (h4.out.alloc _).rowOther (by omega) _⟩, (Ar.new w4 _ _).row _, e3⟩
      rw [← hw5, ← hpb]
      clear hw5 hpb hc4 gA gD hszP hlenP honeP HE hz
      dsimp only [Act.put]
      go_cut [30, 31] from 26 to 29 (fun v29 v30 wc => v29 = .int .i64 (q : Int) ∧ v30 = .int .i64 0 ∧ wc = w5)
      case first =>
        go_wp2_with fail
        all_goals go_meet
        all_goals
          refine ⟨?_, rfl, rfl⟩
          first
            | rw [← hmin, Int.min_eq_right (by omega)]
            | rw [← hmin, Int.min_eq_left (by omega)]
      obtain ⟨rfl, rfl, hwc⟩ := hcut
      rw [hwc]
      clear hwc
      go_wp2_with fail
      go_loopw [31] (fun v wr => ∃ (i : Nat), v = .int .i64 i ∧ i ≤ q ∧ StS w wr n key nonce F (fr + i) ∧ Ar wr pb (ba 64 P)) (fun v wr => q - (intOf v).toNat)
      case atStart => exact ⟨0, rfl, by omega, Z5.out.1, Z5.out.2.1⟩
      case round =>
        obtain ⟨i, rfl, hi, hz6, hp6⟩ := hrel
        have Z6 : Hid (StS w wr n key nonce F (fr + i) ∧ Ar wr pb (ba 64 P)) := ⟨hz6, hp6⟩
        by_cases hiq : i < q
        · have hd2 : decide ((i : Int) < q) = true := by simp; omega
          have li : (i : Int) < 64 := by omega
          obtain ⟨fi, hfi⟩ : ∃ fi : Nat, (fr : Int) + i = fi := ⟨fr + i, by omega⟩
          have wfi := wrap_i (x := (fi : Int)) (by omega) (by omega)
          have lfi : (fi : Int) < n := by omega
          have lfi' : fi < n := by omega
          have c1 := (HX.out.chg hz6.chg) fi lfi'
          have c2 := (hp6.cell i).trans (ba_get 64 P (by omega))
          have c3 := (hz6.out.cell fi).trans (ba_get n _ lfi')
          have f3 := hz6.out.frozen fi
          obtain ⟨x1, hx1⟩ : ∃ x, x = txt fi := ⟨_, rfl⟩
          obtain ⟨x2, hx2⟩ : ∃ x, x = P i := ⟨_, rfl⟩
          obtain ⟨x3, hx3⟩ : ∃ x, x = upTo (fr + i) F zB fi := ⟨_, rfl⟩
          rw [← hx1] at c1
          rw [← hx2] at c2
          rw [← hx3] at c3
          obtain ⟨y, Hy, ey⟩ := nameXor x1 x2
          have HY : Hid (y = F fi ∧ fi = fr + i) := by
            refine ⟨?_, by omega⟩
            have e : fi = 64 * m + i := by have := HFR.out; omega
            rw [Hy.out, HF.out, hx1, hx2, e, stF_at key nonce txt c (by omega), HP.out, HCM.out]
          clear hx1 hx2 hx3 hz6 hp6 Hy
          go_wp2_with fail
          go_region_with (fail)
          all_goals go_wp2
          all_goals
            go_roundw
            case rel =>
              obtain ⟨k1, k2⟩ := Z6.out
              have h3 := Z5.out.2.2
              refine ⟨i + 1, by go_num, by omega, ⟨(k1.chg.setCell (by dsimp only; omega) _).drew, (k1.key.other (by dsimp only; omega) _).drew, (k1.non.other (by dsimp only; omega) _).drew, ?_⟩, (k2.other (by dsimp only; omega) _).drew⟩
              have hh := k1.out.set fi (.int .u8 (y.toNat : Int))
              rw [ba_set, HY.out.1, HY.out.2, upTo_upd (fr + i) F zB] at hh
              rw [HY.out.1, HY.out.2]
              exact hh.drew
            case measure => simp [intOf]; omega
        · have hiq2 : i = q := by omega
          subst hiq2
          have hd2 : decide ((i : Int) < i) = false := by simp
          clear hz6 hp6
          obtain ⟨c2, Hc2, ec2⟩ := nmInc cm
          go_wp2_with fail
          go_roundw
          case rel =>
            have k1 := Z6.out.1
            have hq := HQ.out
            have hf := HFR.out
            refine ⟨m + 1, ?_, by rw [hf]; go_num, by omega, ⟨k1.chg, k1.key, k1.non, ?_⟩⟩
            · rw [Hc2.out, HCM.out, cnt_succ]
            · have e : ba n (upTo (64 * (m + 1)) F zB) = ba n (upTo (fr + i) F zB) := ba_congr fun j hj => by
                unfold upTo
                by_cases e1 : j < 64 * (m + 1)
                · have e2 : j < fr + i := by omega
                  simp [e1, e2]
                · have e2 : ¬ j < fr + i := by omega
                  simp [e1, e2]
              rw [e]
              exact k1.out
          case measure => simp [intOf]; omega
    · have hd : decide ((fr : Int) < n) = false := by simp; omega
      go_wp2
      go_ret
      have k1 := Z.out
      have hf := HFR.out
      refine ⟨w.heap.size + 1 + 1, rfl, by omega, k1.chg, ?_⟩
      have e : ba n (upTo (64 * m) F zB) = ba n (stF key c nonce txt) := ba_congr fun j hj => by
        have e1 : j < 64 * m := by omega
        simp only [upTo, e1, if_true, HF.out]
      rw [← e]
      exact k1.out

theorem streamV_any (n : Nat) (key nonce txt : Nat → By) (c : Wd) (v : Value) (w : World) (hv : Ap.Rd w v (nums n txt)) (hn' : n ≤ 140737488351232) :
    Calls Try.prog 9 #[.agg (ba 32 key), .int .u32 (c.toNat : Int), .agg (ba 12 nonce), v] w fun r w' => ∃ g, r = .returned (.slice (some ⟨g, 0, none⟩) n n) ∧ w.heap.size ≤ g ∧ Chg w w' ∧ Ar w' g (ba n (stF key c nonce txt)) := by
  by_cases h : n = 0
  · subst h
    obtain ⟨ao, m, c', rfl, hm, _⟩ := hv.shape
    rw [nums_len] at hm
    subst hm
    exact streamNil_any key nonce txt c ao c' w
  · obtain ⟨b, o, c', rfl, h1, h2, h3⟩ := Rd.bs hv (by omega)
    exact stream_any b o n c' key nonce txt c w h3 (by omega) hn'
end Go.Proofs.Ytkdidacebfkdmaa
