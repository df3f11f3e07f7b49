/-
  A key made ready: the function New.
-/
import Derived.Test.YtobglgddbhddnaaWds
import Derived.Test.YtobglgddbhddnaaKey
namespace Go.Proofs.Ytobglgddbhddnaa
open Go.RowKit
set_option linter.unusedVariables false

theorem zero43 : (∀ w, (zeroValue 71).run Try.prog w = .ok (.agg (keyC 0 zB)) w) ∧ (Try.prog.info? 71).map (·.size) = some 241 := zero_of_info (by kernel_rfl)
theorem keyC_list (R : Nat) (k : Nat → By) : (keyC R k).toList = .int .i64 (R : Int) :: (ba 240 k).toList := by simp [keyC]
theorem keyC_put (R : Nat) (k : Nat → By) : (keyC 0 k).setIfInBounds 0 (.int .i64 (R : Int)) = keyC R k := by
  apply Array.toList_inj.1
  rw [Array.toList_setIfInBounds, keyC_list, keyC_list]
  rfl
theorem keyC_over (R o n : Nat) (x k : Nat → By) (h : o + n ≤ 240) :
    ((keyC R k).toList.take (1 + o) ++ (ba n x).toList ++ (keyC R k).toList.drop (1 + o + (ba n x).toList.length)).toArray = keyC R (over o n x k) := by
  apply Array.toList_inj.1
  have hb := congrArg Array.toList (ba_over 240 o n x k h)
  rw [List.toList_toArray] at hb ⊢
  rw [keyC_list, keyC_list, ← hb, Nat.add_comm 1 o, List.take_succ_cons, show o + 1 + (ba n x).toList.length = (o + (ba n x).toList.length) + 1 by omega, List.drop_succ_cons]
  simp
/-- copy, into a key. -/
theorem run_cpK (w : World) (K R o dl dc b s sl sc n : Nat) (k x : Nat → By) (hd : Ar w K (keyC R k)) (hs : Bs w b s n x) (hn : n = Nat.min sl dl) (hr : o + n ≤ 240) :
    (Builtin.copy_ #[35, 35] 3 #[.slice (some ⟨K, 1 + o, none⟩) dl dc, .slice (some ⟨b, s, none⟩) sl sc]).run Try.prog w = .ok (.int .i64 n) (w.setRow K (keyC R (over o n x k))) := by
  obtain ⟨t, hg⟩ := hd
  have hl : (ba n x).toList.length = n := by rw [Array.length_toList, ba_size]
  have := run_copy_row (P := Try.prog) w 35 35 3 5 K (1 + o) dl dc ⟨b, s, none⟩ sl sc _ t (ba n x).toList u22 i5 hg (by rw [hl, hn]) (fun j v hv => ?_) (by rw [hl, keyC_size]; omega) (fun v hv => (Array.all_eq_true_iff_forall_mem.1 (ba_one n x)) v (by simpa using hv))
  · rw [this, keyC_over R o n x k hr, hl]
    rfl
  · have hadd : (⟨b, s, none⟩ : Addr).add j = ⟨b, s + j, none⟩ := by unfold Addr.add; split <;> simp_all
    have hj : j < n := by
      have := (List.getElem?_eq_some_iff.1 hv).1
      omega
    rw [Array.getElem?_toList, ba_get n x hj] at hv
    rw [hadd, hs j hj, hv]

theorem Ks.of {n m : Nat} {key f k : Nat → By} (hn : 0 < n) (hm : n ≤ m) (h : Ks n m key f) (e : ∀ j, j < 4 * m → k j = f j) : Ks n m key k :=
  ⟨fun j hj => by rw [e j (by omega), h.lo j hj], fun i h1 h2 r hr => by
    rw [e _ (by omega), e _ (by omega), h.hi i h1 h2 r hr, tw_congr hr (k := f) (k' := k) (fun j hj => (e j (by omega)).symm) (by omega)]⟩

set_option maxRecDepth 100000 in
set_option maxHeartbeats 4000000 in
theorem newBad_any (ao : Option Addr) (L cap : Nat) (w : World) (h1 : L ≠ 16) (h2 : L ≠ 32) : Calls Try.prog 26 #[.slice ao L cap] w fun r w' => r = .returned (.tuple #[.pointer none, .int .i64 1]) ∧ w' = w := by
  have e1 : ((L : Int) != 16) = true := by simp; omega
  have e2 : ((L : Int) != 32) = true := by simp; omega
  go_enter Try.func26, Try.ntmps26
  go_wp2
  go_ret2
  exact ⟨rfl, rfl⟩

set_option maxRecDepth 100000 in
set_option maxHeartbeats 4000000 in
theorem new_any (kb ko cap L n R : Nat) (key : Nat → By) (w : World) (hv : Bs w kb ko L key) (hL : L = 4 * n) (hn : n = 4 ∨ n = 8) (hR : R = n + 6) (hcap : L ≤ cap) (hcap' : cap ≤ 9223372036854775807) :
    Calls Try.prog 26 #[.slice (some ⟨kb, ko, none⟩) L cap] w fun r w' => ∃ K k, r = .returned (.tuple #[.pointer (some ⟨K, 0, none⟩), .int .i64 0]) ∧ w.heap.size ≤ K ∧ Chg w w' ∧ Ar w' K (keyC R k) ∧ Ks n (4 * (R + 1)) key k := by
  have HX : Hid (Bs w kb ko L key ∧ L = 4 * n ∧ (n = 4 ∨ n = 8) ∧ R = n + 6 ∧ L ≤ cap ∧ cap ≤ 9223372036854775807) := ⟨hv, hL, hn, hR, hcap, hcap'⟩
  have hq : (L : Int).tdiv 4 = n := by rw [Int.tdiv_eq_ediv_of_nonneg (by omega), hL]; omega
  have hR1 : (n : Int) + 6 = R := by omega
  obtain ⟨R1, hRR⟩ : ∃ R1 : Nat, (R : Int) + 1 = R1 := ⟨R + 1, by omega⟩
  obtain ⟨C, hC⟩ : ∃ C : Nat, 4 * (R1 : Int) = C := ⟨4 * R1, by omega⟩
  have wR := wrap_i (x := (R : Int)) (by omega) (by omega)
  have wn := wrap_i (x := (n : Int)) (by omega) (by omega)
  have wR1 := wrap_i (x := (R1 : Int)) (by omega) (by omega)
  have wC := wrap_i (x := (C : Int)) (by omega) (by omega)
  have HC : Hid (C = 4 * n + 28 ∧ C = 4 * (R + 1)) := by show _ ∧ _; omega
  have hC60 : C ≤ 60 := by omega
  have hz := zero43.1
  have hbt := keyC_put R zB
  have hks := keyC_size R zB
  have hkz := keyC_size 0 zB
  obtain ⟨KZ, hKZ⟩ : ∃ KZ, KZ = keyC 0 zB := ⟨_, rfl⟩
  obtain ⟨KR, hKR⟩ : ∃ KR, KR = keyC R zB := ⟨_, rfl⟩
  have HKR : Hid (KR = keyC R zB) := hKR
  rw [← hKZ] at hz hbt hkz
  rw [← hKR] at hbt hks
  have hke : ¬ KZ = #[] := fun e => by rw [e] at hkz; simp at hkz
  clear hKZ hKR
  have hz2 := zero46.1
  clear hv hL hR hcap hcap'
  go_enter Try.func26, Try.ntmps26
  go_upto_region 1 with fail
  go_cut [14] from 7 to 13 (fun v wc => v = .bool false ∧ wc = w)
  case first =>
    rcases hn with hn | hn
    · have hL : (L : Int) = 16 := by have := HX.out.2.1; omega
      have e1 : ((L : Int) != 16) = false := by rw [hL]; rfl
      clear hL hn
      go_wp2_with fail
      go_meet
      exact ⟨rfl, rfl⟩
    · have hL : (L : Int) = 32 := by have := HX.out.2.1; omega
      have e1 : ((L : Int) != 16) = true := by rw [hL]; rfl
      have e2 : ((L : Int) != 32) = false := by rw [hL]; rfl
      clear hL hn
      go_wp2_with fail
      go_meet
      exact ⟨rfl, rfl⟩
  case rest =>
    obtain ⟨rfl, hwc⟩ := hcut
    rw [hwc]
    clear hwc
    have k0 := Ar.new w KR 71
    have c0 : (w.alloc (.cells KR 71)).cell? ⟨w.heap.size, 0, none⟩ = some (.int .i64 (R : Int)) := by
      rw [HKR.out]
      exact keyR (Ar.new w _ 71)
    go_wp2_with fail
    obtain ⟨wa, hwa⟩ : ∃ wa, wa = w.alloc (.cells KR 71) := ⟨_, rfl⟩
    have Za : Hid (Chg w wa ∧ Ar wa w.heap.size (keyC R zB)) := by
      rw [hwa, ← HKR.out]
      exact ⟨(Chg.refl w).alloc _, k0⟩
    rw [← hwa]
    clear k0 hwa c0 hz hbt hks hkz hke
    go_at_call 34
    refine (words_any kb ko cap L n C key wa (HX.out.1.chg Za.out.1) HX.out.2.1 HX.out.2.2.1 HC.out.1 HX.out.2.2.2.2.1 HX.out.2.2.2.2.2).mono ?_
    rintro r w2 ⟨g, f, rfl, hg, hc2, hA, hks⟩
    have Z2 : Hid (Chg w w2 ∧ Ar w2 w.heap.size (keyC R zB) ∧ Ar w2 g (ba (4 * C) f) ∧ Ks n C key f ∧ w.heap.size < g) := ⟨Za.out.1.trans hc2, Za.out.2.chg hc2, hA, hks, Nat.lt_of_lt_of_le Za.out.2.lt hg⟩
    clear hg hc2 hA hks Za
    go_wp2_with fail
    go_loopw [30] (fun v wr => ∃ (i : Nat) (k : Nat → By), v = .int .i64 i ∧ i ≤ C ∧ Chg w wr ∧ Ar wr w.heap.size (keyC R k) ∧ Ar wr g (ba (4 * C) f) ∧ ∀ j, j < 4 * i → k j = f j) (fun v wr => C - (intOf v).toNat)
    case atStart => exact ⟨0, zB, rfl, by omega, Z2.out.1, Z2.out.2.1, Z2.out.2.2.1, fun j hj => by omega⟩
    case round =>
      obtain ⟨i, k, rfl, hi, h1, h2, h3, h4⟩ := hrel
      have Z : Hid (Chg w wr ∧ Ar wr w.heap.size (keyC R k) ∧ Ar wr g (ba (4 * C) f) ∧ ∀ j, j < 4 * i → k j = f j) := ⟨h1, h2, h3, h4⟩
      clear h1 h2 h3 h4
      by_cases hiC : i < C
      · have hd : decide ((i : Int) < C) = true := by simp; omega
        have li : (i : Int) < C := by omega
        obtain ⟨t0, ht0⟩ : ∃ t0 : Nat → By, t0 = fun r => f (i * 4 + r) := ⟨_, rfl⟩
        have HT0 : Hid (t0 = fun r => f (i * 4 + r)) := ht0
        have rng : wr.rangeAt g (i * 4) (ba 4 t0).toList := by
          intro q v hv
          have hq4 : q < 4 := by
            have := (List.getElem?_eq_some_iff.1 hv).1
            rwa [Array.length_toList, ba_size] at this
          rw [Array.getElem?_toList, ba_get 4 t0 hq4] at hv
          rw [Z.out.2.2.1.cell, ba_get (4 * C) f (by omega), ← hv, ht0]
        have hsz := szB t0 zero46.2
        have hlen := lenB 4 zB t0
        have hone := ba_one 4 t0
        have hinf : (Try.prog.info? 74).map (·.size) = some (ba 4 t0).toList.length := by rw [Array.length_toList]; exact hsz
        obtain ⟨q, hq⟩ : ∃ q : Nat, q = i / 4 := ⟨_, rfl⟩
        obtain ⟨e, he⟩ : ∃ e : Nat, e = i % 4 := ⟨_, rfl⟩
        have hdiv : (i : Int).tdiv 4 = q := by rw [Int.tdiv_eq_ediv_of_nonneg (by omega), hq]; rfl
        have hmod : (i : Int).tmod 4 = e := by rw [Int.tmod_eq_emod_of_nonneg (by omega), he]; rfl
        obtain ⟨e4, he4⟩ : ∃ e4 : Nat, (e : Int) * 4 = e4 := ⟨e * 4, by omega⟩
        have wq := wrap_i (x := (q : Int)) (by omega) (by omega)
        have we4 := wrap_i (x := (e4 : Int)) (by omega) (by omega)
        have lq : (q : Int) < 15 := by omega
        have le4 : (e4 : Int) ≤ 16 := by omega
        have ne4 : ¬ 16 = e4 := by omega
        have ne4' : ¬ (16 : Int) = e4 := by omega
        obtain ⟨wb, hwb⟩ : ∃ wb, wb = (wr.alloc (.cells (ba 4 zB) 74)).setRow wr.heap.size (ba 4 t0) := ⟨_, rfl⟩
        have hKl := Z.out.2.1.lt
        have hgl := Z.out.2.2.1.lt
        have Zb : Hid (Chg w wb ∧ Ar wb w.heap.size (keyC R k) ∧ Ar wb g (ba (4 * C) f) ∧ Ar wb wr.heap.size (ba 4 t0)) := by
          rw [hwb]
          exact ⟨(Z.out.1.alloc _).setRow (Z.out.1.size) _, (Z.out.2.1.alloc _).rowOther (by omega) _, (Z.out.2.2.1.alloc _).rowOther (by omega) _, (Ar.new wr _ _).row _⟩
        have HI : Hid (q * 16 + e4 = 4 * i) := by show q * 16 + e4 = 4 * i; omega
        have hcp := run_cpK wb.drew w.heap.size R (q * 16 + e4) (16 - e4) (16 - e4) wr.heap.size 0 4 4 4 k t0 Zb.out.2.1 (fun j hj => by rw [Nat.zero_add]; exact (Zb.out.2.2.2.cell j).trans (ba_get 4 t0 hj)) (by show 4 = min 4 (16 - e4); omega) (by omega)
        rw [← Nat.add_assoc] at hcp
        clear ht0 hq he
        go_upto_region 7 with (first | refine wpList_load_mid rfl 74 _ rfl g (i * 4) rfl (ba 4 t0).toList _ rng und46 rfl hinf ?_ | refine wpList_store_row rfl 74 _ _ rfl _ _ rfl rfl _ _ (heap_alloc_last wr _) hsz hlen hone ?_)
        rw [← hwb]
        clear hwb rng hsz hlen hone hinf
        go_region_with (fail)
        all_goals go_wp2
        all_goals
          go_roundw
          case rel =>
            have hlt := Z2.out.2.2.2.2
            refine ⟨i + 1, over (q * 16 + e4) 4 t0 k, by go_num, by omega, (Zb.out.1.drew).setRow (by omega) _, Ar.row (w := wb.drew) Zb.out.2.1 _, Ar.rowOther (w := wb.drew) Zb.out.2.2.1 (by omega) _, fun j hj => ?_⟩
            have hI := HI.out
            unfold over
            split
            · rename_i h5
              rw [HT0.out]
              show f (i * 4 + (j - (q * 16 + e4))) = f j
              rw [show i * 4 + (j - (q * 16 + e4)) = j by omega]
            · exact Z.out.2.2.2 j (by omega)
          case measure => simp [intOf]; omega
      · have hiC2 : i = C := by omega
        subst hiC2
        have hd : decide ((i : Int) < i) = false := by simp
        go_wp2
        go_ret2
        refine ⟨w.heap.size, k, rfl, Nat.le_refl _, Z.out.1, Z.out.2.1, ?_⟩
        rw [← HC.out.2]
        have h1 := HC.out.1
        exact Z2.out.2.2.2.1.of (by omega) (by omega) Z.out.2.2.2
end Go.Proofs.Ytobglgddbhddnaa
