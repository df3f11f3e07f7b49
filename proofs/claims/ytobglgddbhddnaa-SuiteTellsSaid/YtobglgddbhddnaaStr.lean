/-
  Bytes XORed with the blocks that a counter counts: the method Stream.
-/
import Derived.Test.YtobglgddbhddnaaEnc
import Derived.Test.YtobglgddbhddnaaCnt
import Derived.Test.YtobglgddbhddnaaSl
namespace Go.Proofs.Ytobglgddbhddnaa
open Go.RowKit
set_option linter.unusedVariables false

/-- A text, streamed. -/
def stF (R : Nat) (k at' txt : Nat → By) : Nat → By := fun i => txt i ^^^ pad R k at' i
theorem pad_at (R : Nat) (k at' : Nat → By) {m i : Nat} (hi : i < 16) : pad R k at' (16 * m + i) = enc R k (ctr at' m) i := by
  unfold pad
  rw [show (16 * m + i) / 16 = m by omega, show (16 * m + i) % 16 = i by omega]

/-- What stands while a text is streamed. -/
structure StS (w wr : World) (Bx g n : Nat) (c F : Nat → By) (p : Nat) : Prop where
  chg : Chg w wr
  at' : Ar wr w.heap.size (ba 16 c)
  box : Ar wr Bx (ba 256 sbF)
  out : Ar wr g (ba n (upTo p F zB))
  lo : w.heap.size < Bx
  lt : Bx < g
theorem StS.to {w wr u : World} {Bx g n p : Nat} {c F : Nat → By} (h : StS w wr Bx g n c F p) (k : Chg wr u) : StS w u Bx g n c F p := ⟨h.chg.trans k, h.at'.chg k, h.box.chg k, h.out.chg k, h.lo, h.lt⟩

set_option maxRecDepth 100000 in
set_option maxHeartbeats 4000000 in
theorem streamNil_any (K R : Nat) (k at' txt : Nat → By) (ao : Option Addr) (cap : Nat) (w : World) :
    Calls Try.prog 27 #[.pointer (some ⟨K, 0, none⟩), .agg (ba 16 at'), .slice ao 0 cap] w fun r w' => ∃ g, r = .returned (.slice (some ⟨g, 0, none⟩) 0 0) ∧ w.heap.size ≤ g ∧ Chg w w' ∧ Ar w' g (ba 0 (stF R k at' txt)) := by
  have hsA := ba_size 16 at'
  obtain ⟨A, hA⟩ : ∃ A, A = ba 16 at' := ⟨_, rfl⟩
  rw [← hA] at hsA ⊢
  clear hA
  have hz2 := zero47.1
  have hmk : ∀ u, (Instr.makeSlice 35 (.int .i64 0) (.int .i64 0)).run Try.prog u = .ok (.slice (some ⟨u.heap.size, 0, none⟩) 0 0) (u.alloc (.cells (ba 0 zB) 5)) := mk22 0 (by decide)
  have hsz := szB sbF zero47.2
  have hlen := lenB 256 zB sbF
  have hone := ba_one 256 sbF
  obtain ⟨T, hT⟩ : ∃ T, T = ba 256 sbF := ⟨_, rfl⟩
  have HB : Hid (∀ u, Calls Try.prog 35 #[] u fun r w' => r = .returned (.agg T) ∧ Chg u w') := by rw [hT]; exact boxes_any
  rw [← hT] at hsz hlen hone
  clear hT
  go_enter Try.func27, Try.ntmps27
  go_wp2_with (first | (go_at_call 35; refine (HB.out _).mono ?_; rintro r w1 ⟨rfl, hc1⟩) | refine wpList_store_row rfl 75 _ _ rfl _ _ rfl rfl _ _ (heap_alloc_last w1 _) hsz hlen hone ?_)
  go_loopw [9] (fun v wr => v = .int .i64 0 ∧ wr = ((w1.alloc (.cells (ba 256 zB) 75)).setRow w1.heap.size T).alloc (.cells (ba 0 zB) 5)) (fun v wr => 0)
  case atStart => exact ⟨rfl, rfl⟩
  case round =>
    obtain ⟨rfl, rfl⟩ := hrel
    go_wp2
    go_ret
    have hs : ((w1.alloc (.cells (ba 256 zB) 75)).setRow w1.heap.size T).heap.size = w1.heap.size + 1 := by simp [World.setRow]
    have h1 := ((Chg.refl w).alloc (.cells A 60)).trans hc1
    refine ⟨w1.heap.size + 1, rfl, by have := h1.size; omega, ((h1.alloc _).setRow h1.size _).alloc _, ?_⟩
    have := Ar.new ((w1.alloc (.cells (ba 256 zB) 75)).setRow w1.heap.size T) (ba 0 zB) 5
    rw [hs] at this
    exact this

set_option maxRecDepth 100000 in
set_option maxHeartbeats 4000000 in
theorem stream_any (K R tb tt n cap : Nat) (k at' txt : Nat → By) (w : World) (hK : Ar w K (keyC R k)) (hR : R = 10 ∨ R = 14) (ht : Bs w tb tt n txt) (hn : 0 < n) (hn' : n ≤ 140737488351232) :
    Calls Try.prog 27 #[.pointer (some ⟨K, 0, none⟩), .agg (ba 16 at'), .slice (some ⟨tb, tt, none⟩) n cap] w fun r w' => ∃ g, r = .returned (.slice (some ⟨g, 0, none⟩) n n) ∧ w.heap.size ≤ g ∧ Chg w w' ∧ Ar w' g (ba n (stF R k at' txt)) := by
  have hsA := ba_size 16 at'
  obtain ⟨A, hA⟩ : ∃ A, A = ba 16 at' := ⟨_, rfl⟩
  have HA : Hid (A = ba 16 at') := hA
  rw [← hA] at hsA ⊢
  clear hA
  have HX : Hid (Ar w K (keyC R k) ∧ (R = 10 ∨ R = 14) ∧ Bs w tb tt n txt) := ⟨hK, hR, ht⟩
  clear hK hR ht
  have hz := zero32.1
  have hz2 := zero47.1
  have hmk := mk22 n (by omega)
  have hsz := szB sbF zero47.2
  have hlen := lenB 256 zB sbF
  have hone := ba_one 256 sbF
  obtain ⟨T, hT⟩ : ∃ T, T = ba 256 sbF := ⟨_, rfl⟩
  have HT : Hid (T = ba 256 sbF) := hT
  have HB : Hid (∀ u, Calls Try.prog 35 #[] u fun r w' => r = .returned (.agg T) ∧ Chg u w') := by rw [hT]; exact boxes_any
  rw [← hT] at hsz hlen hone
  clear hT
  go_enter Try.func27, Try.ntmps27
  go_wp2_with (first | (go_at_call 35; refine (HB.out _).mono ?_; rintro r w1 ⟨rfl, hc1⟩) | refine wpList_store_row rfl 75 _ _ rfl _ _ rfl rfl _ _ (heap_alloc_last w1 _) hsz hlen hone ?_)
  obtain ⟨Bx, hBx⟩ : ∃ Bx, Bx = w1.heap.size := ⟨_, rfl⟩
  obtain ⟨g, hg⟩ : ∃ g, g = w1.heap.size + 1 := ⟨_, rfl⟩
  obtain ⟨w3, hw3⟩ : ∃ w3, w3 = ((w1.alloc (.cells (ba 256 zB) 75)).setRow w1.heap.size T).alloc (.cells (ba n zB) 5) := ⟨_, rfl⟩
  obtain ⟨F, hF⟩ : ∃ F, F = stF R k at' txt := ⟨_, rfl⟩
  have HF : Hid (F = stF R k at' txt) := hF
  have Z3 : Hid (StS w w3 Bx g n (ctr at' 0) F 0) := by
    rw [hw3, hBx, hg]
    have k0 : Ar (w.alloc (.cells A 60)) w.heap.size (ba 16 at') := by rw [HA.out]; exact Ar.new w _ _
    have h1 := ((Chg.refl w).alloc (.cells A 60)).trans hc1
    have k1 := k0.chg hc1
    have hl := k1.lt
    have hs : ((w1.alloc (.cells (ba 256 zB) 75)).setRow w1.heap.size T).heap.size = w1.heap.size + 1 := by simp [World.setRow]
    refine ⟨((h1.alloc _).setRow h1.size _).alloc _, ?_, ?_, ?_, hl, by omega⟩
    · rw [ba_congr (ctr_zero at')]
      exact ((k1.alloc _).rowOther (by omega) _).alloc _
    · rw [← HT.out]
      exact ((Ar.new w1 _ _).row _).alloc _
    · rw [upTo_zero]
      have := Ar.new ((w1.alloc (.cells (ba 256 zB) 75)).setRow w1.heap.size T) (ba n zB) 5
      rwa [hs] at this
  rw [← hw3, ← hg, ← hBx]
  clear hw3 hg hBx hc1 hsz hlen hone hz2 hmk HB hsA hF
  go_loopw [9] (fun v wr => ∃ (m : Nat), v = .int .i64 ((16 * m : Nat) : Int) ∧ 16 * m ≤ n + 16 ∧ StS w wr Bx g n (ctr at' m) F (16 * m)) (fun v wr => n - (intOf v).toNat)
  case atStart => exact ⟨0, rfl, by omega, Z3.out⟩
  case round =>
    clear Z3
    obtain ⟨m, rfl, hm, hz3⟩ := hrel
    have Z : Hid (StS w wr Bx g n (ctr at' m) F (16 * m)) := hz3
    clear hz3
    obtain ⟨fr, hfr⟩ : ∃ fr : Nat, fr = 16 * m := ⟨_, rfl⟩
    rw [← hfr]
    have HFR : Hid (fr = 16 * m) := hfr
    have hfn : fr ≤ n + 16 := by omega
    clear hfr hm
    by_cases hlt : fr < n
    · have hd : decide ((fr : Int) < n) = true := by simp; omega
      have lfr : (fr : Int) < n := by omega
      obtain ⟨c, hc⟩ : ∃ c, c = ctr at' m := ⟨_, rfl⟩
      have HC : Hid (c = ctr at' m) := hc
      rw [← hc] at Z
      obtain ⟨P, hP⟩ : ∃ P, P = enc R k c := ⟨_, rfl⟩
      have HP : Hid (P = enc R k c) := hP
      have HE : Hid (Calls Try.prog 36 #[.pointer (some ⟨K, 0, none⟩), .pointer (some ⟨Bx, 0, none⟩), .agg (ba 16 c)] wr fun r w' => r = .returned (.agg (ba 16 P)) ∧ Chg wr w') := by
        rw [hP]
        exact encrypted_any K Bx R k c wr (HX.out.1.chg Z.out.chg) Z.out.box HX.out.2.1
      obtain ⟨tA, gA⟩ := Z.out.at'
      have hszc := szB c zero32.2
      have hszP := szB P zero32.2
      have hlenP := lenB 16 zB P
      have honeP := ba_one 16 P
      obtain ⟨rest, hrest⟩ : ∃ rest : Nat, (n : Int) - fr = rest := ⟨n - fr, by omega⟩
      have wrest := wrap_i (x := (rest : Int)) (by omega) (by omega)
      obtain ⟨q, hq⟩ : ∃ q : Nat, q = min 16 rest := ⟨_, rfl⟩
      have hmin : min (16 : Int) (rest : Int) = q := by omega
      have HQ : Hid (rest = n - fr ∧ q = min 16 rest) := ⟨by omega, hq⟩
      have hq16 : q ≤ 16 := by omega
      have hqr : fr + q ≤ n := by omega
      clear hc hP hq
      go_upto_region 7 with (first | refine wpList_load_row rfl 60 _ rfl _ rfl _ _ _ _ gA und32 rfl hszc ?_ | (go_at_call 36; refine HE.out.mono ?_; rintro r w4 ⟨rfl, hc4⟩) | refine wpList_store_row rfl 60 _ _ rfl _ _ rfl rfl _ _ (heap_alloc_last w4 _) hszP hlenP honeP ?_)
      obtain ⟨pb, hpb⟩ : ∃ pb, pb = w4.heap.size := ⟨_, rfl⟩
      obtain ⟨w5, hw5⟩ : ∃ w5, w5 = (w4.alloc (.cells (ba 16 zB) 60)).setRow w4.heap.size (ba 16 P) := ⟨_, rfl⟩
      have Z5 : Hid (StS w w5 Bx g n c F fr ∧ Ar w5 pb (ba 16 P) ∧ g < pb) := by
        have h4 := Z.out.to hc4
        rw [← HFR.out] at h4
        have e1 := h4.at'.lt
        have e2 := h4.box.lt
        have e3 := h4.out.lt
        rw [hw5, hpb]
        exact ⟨⟨(h4.chg.alloc _).setRow h4.chg.size _, (h4.at'.alloc _).rowOther (by omega) _, (h4.box.alloc _).rowOther (by omega) _, (h4.out.alloc _).rowOther (by omega) _, h4.lo, h4.lt⟩, (Ar.new w4 _ _).row _, e3⟩
      rw [← hw5, ← hpb]
      clear hw5 hpb hc4 gA hszc hszP hlenP honeP HE hz
      dsimp only [Act.put]
      go_cut [29, 30] from 25 to 28 (fun v29 v30 wc => v29 = .int .i64 (q : Int) ∧ v30 = .int .i64 0 ∧ wc = w5)
      case first =>
        go_wp2_with fail
        all_goals go_meet
        all_goals
          refine ⟨?_, rfl, rfl⟩
          first
            | rw [← hmin, Int.min_eq_right (by omega)]
            | rw [← hmin, Int.min_eq_left (by omega)]
      obtain ⟨rfl, rfl, hwc⟩ := hcut
      rw [hwc]
      clear hwc
      go_wp2_with fail
      go_loopw [30] (fun v wr => ∃ (i : Nat), v = .int .i64 i ∧ i ≤ q ∧ StS w wr Bx g n c F (fr + i) ∧ Ar wr pb (ba 16 P)) (fun v wr => q - (intOf v).toNat)
      case atStart => exact ⟨0, rfl, by omega, Z5.out.1, Z5.out.2.1⟩
      case round =>
        obtain ⟨i, rfl, hi, hz6, hp6⟩ := hrel
        have Z6 : Hid (StS w wr Bx g n c F (fr + i) ∧ Ar wr pb (ba 16 P)) := ⟨hz6, hp6⟩
        by_cases hiq : i < q
        · have hd2 : decide ((i : Int) < q) = true := by simp; omega
          have li : (i : Int) < 16 := by omega
          obtain ⟨fi, hfi⟩ : ∃ fi : Nat, (fr : Int) + i = fi := ⟨fr + i, by omega⟩
          have wfi := wrap_i (x := (fi : Int)) (by omega) (by omega)
          have lfi : (fi : Int) < n := by omega
          have lfi' : fi < n := by omega
          have c1 := (HX.out.2.2.chg hz6.chg) fi lfi'
          have c2 := (hp6.cell i).trans (ba_get 16 P (by omega))
          have c3 := (hz6.out.cell fi).trans (ba_get n _ lfi')
          have f3 := hz6.out.frozen fi
          obtain ⟨x1, hx1⟩ : ∃ x, x = txt fi := ⟨_, rfl⟩
          obtain ⟨x2, hx2⟩ : ∃ x, x = P i := ⟨_, rfl⟩
          obtain ⟨x3, hx3⟩ : ∃ x, x = upTo (fr + i) F zB fi := ⟨_, rfl⟩
          rw [← hx1] at c1
          rw [← hx2] at c2
          rw [← hx3] at c3
          obtain ⟨y, Hy, ey⟩ := nameXor x1 x2
          have HY : Hid (y = F fi ∧ fi = fr + i) := by
            refine ⟨?_, by omega⟩
            have e : fi = 16 * m + i := by have := HFR.out; omega
            rw [Hy.out, HF.out, stF, hx1, hx2, e, pad_at R k at' (by omega), HP.out, HC.out]
          clear hx1 hx2 hx3 hz6 hp6 Hy
          go_wp2_with fail
          go_region_with (fail)
          all_goals go_wp2
          all_goals
            go_roundw
            case rel =>
              obtain ⟨k1, k2⟩ := Z6.out
              have h1 := k1.lo
              have h2 := k1.lt
              have h3 := Z5.out.2.2
              refine ⟨i + 1, by go_num, by omega, ⟨(k1.chg.setCell (by dsimp only; omega) _).drew, (k1.at'.other (by dsimp only; omega) _).drew, (k1.box.other (by dsimp only; omega) _).drew, ?_, h1, h2⟩, (k2.other (by dsimp only; omega) _).drew⟩
              have hh := k1.out.set fi (.int .u8 (y.toNat : Int))
              rw [ba_set, HY.out.1, HY.out.2, upTo_upd (fr + i) F zB] at hh
              rw [HY.out.1, HY.out.2]
              exact hh.drew
            case measure => simp [intOf]; omega
        · have hiq2 : i = q := by omega
          subst hiq2
          have hd2 : decide ((i : Int) < i) = false := by simp
          clear hz6 hp6
          obtain ⟨tA, gA⟩ := Z6.out.1.at'
          have hszc := szB c zero32.2
          obtain ⟨c2, hc2⟩ : ∃ c2, c2 = ctr c 1 := ⟨_, rfl⟩
          have HC2 : Hid (ba 16 c2 = ba 16 (ctr at' (m + 1))) := by
            show ba 16 c2 = _
            rw [hc2, HC.out]
            exact ba_congr (ctr_ctr at' m 1)
          have HN : Hid (Calls Try.prog 37 #[.agg (ba 16 c)] wr fun r w' => r = .returned (.agg (ba 16 c2)) ∧ Chg wr w') := by rw [hc2]; exact counted_any c wr
          have hsz2 := szB c2 zero32.2
          have hlen2 := lenB 16 c c2
          have hone2 := ba_one 16 c2
          clear hc2
          go_wp2_with (first | refine wpList_load_row rfl 60 _ rfl _ rfl _ _ _ _ gA und32 rfl hszc ?_)
          go_at_call 37
          refine HN.out.mono ?_
          rintro r w7 ⟨rfl, hc7⟩
          have Z7 : Hid (StS w w7 Bx g n c F (fr + i)) := Z6.out.1.to hc7
          obtain ⟨tB, gB⟩ := Z7.out.at'
          clear hc7 gA hszc HN
          go_wp2_with (first | refine wpList_store_row rfl 60 _ _ rfl _ _ rfl rfl _ _ gB hsz2 hlen2 hone2 ?_)
          go_roundw
          case rel =>
            have k1 := Z7.out
            have h1 := k1.lo
            have h2 := k1.lt
            have hq := HQ.out
            have hf := HFR.out
            refine ⟨m + 1, by rw [hf]; go_num, by omega, ⟨k1.chg.setRow (Nat.le_refl _) _, ?_, k1.box.rowOther (by omega) _, ?_, h1, h2⟩⟩
            · rw [← HC2.out]
              exact k1.at'.row _
            · have e : ba n (upTo (16 * (m + 1)) F zB) = ba n (upTo (fr + i) F zB) := ba_congr fun j hj => by
                unfold upTo
                by_cases e1 : j < 16 * (m + 1)
                · have e2 : j < fr + i := by omega
                  simp [e1, e2]
                · have e2 : ¬ j < fr + i := by omega
                  simp [e1, e2]
              rw [e]
              exact k1.out.rowOther (by omega) _
          case measure => simp [intOf]; omega
    · have hd : decide ((fr : Int) < n) = false := by simp; omega
      go_wp2
      go_ret
      have k1 := Z.out
      have h1 := k1.lo
      have h2 := k1.lt
      have hf := HFR.out
      refine ⟨g, rfl, by omega, k1.chg, ?_⟩
      have e : ba n (upTo (16 * m) F zB) = ba n (stF R k at' txt) := ba_congr fun j hj => by
        have e1 : j < 16 * m := by omega
        simp only [upTo, e1, if_true, HF.out]
      rw [← e]
      exact k1.out
end Go.Proofs.Ytobglgddbhddnaa
