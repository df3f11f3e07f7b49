/-
  The halves of a key as numbers.
-/
import Derived.Test.YtkdidacebfkdmaaNum3
namespace Go.Proofs.Ytkdidacebfkdmaa
open Go.RowKit
set_option linter.unusedVariables false

theorem run_sliceArrHi {t n : Nat} (hu : Try.prog.underlying t = some (.array n 5)) (hn : 0 < n) (b q : Nat) (h2 : q ≤ n) (w : World) : (Instr.sliceAt t (.pointer (some ⟨b, 0, none⟩)) none (some (.int .i64 (q : Int))) none).run Try.prog w = .ok (.slice (some ⟨b, 0, none⟩) q n) w := by
  have h5 : (q : Int) ≤ n := by omega
  have h6 : ¬ n = 0 := by omega
  simp [go_sem, Instr.sliceAt, Instr.sliceBounds, Instr.sliceBound, run_underlying hu, asIntOf, Sem.run_bind, h2]
theorem run_sliceArrLo {t n : Nat} (hu : Try.prog.underlying t = some (.array n 5)) (b p : Nat) (h2 : p < n) (w : World) : (Instr.sliceAt t (.pointer (some ⟨b, 0, none⟩)) (some (.int .i64 (p : Int))) none none).run Try.prog w = .ok (.slice (some ⟨b, p, none⟩) (n - p) (n - p)) w := by
  have h1 : p ≤ n := by omega
  have h5 : (p : Int) ≤ n := by omega
  have h6 : ¬ n = p := by omega
  simp [go_sem, Instr.sliceAt, Instr.sliceBounds, Instr.sliceBound, run_underlying hu, asIntOf, Sem.run_bind, h1, h6, addr_add]
theorem nmAndB (x y : By) : ∃ z : By, Hid (z = x &&& y) ∧ Go.bits .and .u8 (x.toNat : Int) (y.toNat : Int) = (z.toNat : Int) := ⟨_, rfl, by rw [u8_and_nat _ _ x.isLt y.isLt, BitVec.toNat_and]⟩

/-- Sixteen bytes of a key, as seventeen. -/
def half (key : Nat → By) (o : Nat) : Nat → By := fun j => if j < 16 then key (o + j) else 0#8
theorem half_eq (key : Nat → By) (o : Nat) : ba 17 (over 0 16 (fun j => key (o + j)) zB) = ba 17 (half key o) := ba_congr fun i hi => by
  unfold over half zB
  by_cases h : i < 16
  · simp [h]
  · simp [h]
/-- Of the first half some bits are left out. -/
def cl3 (f : Nat → By) (i : Nat) : Nat → By := fun j => if j % 4 = 3 ∧ j < i then f j &&& 15#8 else f j
def cl4 (f : Nat → By) (i : Nat) : Nat → By := fun j => if j % 4 = 0 ∧ 0 < j ∧ j < i then f j &&& 252#8 else f j
theorem cl3_zero (f : Nat → By) : cl3 f 3 = f := by
  funext j
  unfold cl3
  rw [if_neg (by omega)]
theorem cl3_succ (f : Nat → By) {i : Nat} (hi : i % 4 = 3) : updB (cl3 f i) i (f i &&& 15#8) = cl3 f (i + 4) := by
  funext j
  unfold updB cl3
  by_cases h : j = i
  · subst h
    rw [if_pos rfl, if_pos (by omega)]
  · rw [if_neg h]
    by_cases h1 : j % 4 = 3 ∧ j < i
    · rw [if_pos h1, if_pos (by omega)]
    · rw [if_neg h1, if_neg (by omega)]
theorem cl4_zero (f : Nat → By) : cl4 f 4 = f := by
  funext j
  unfold cl4
  rw [if_neg (by omega)]
theorem cl4_succ (f : Nat → By) {i : Nat} (hi : i % 4 = 0) (h0 : 0 < i) : updB (cl4 f i) i (f i &&& 252#8) = cl4 f (i + 4) := by
  funext j
  unfold updB cl4
  by_cases h : j = i
  · subst h
    rw [if_pos rfl, if_pos (by omega)]
  · rw [if_neg h]
    by_cases h1 : j % 4 = 0 ∧ 0 < j ∧ j < i
    · rw [if_pos h1, if_pos (by omega)]
    · rw [if_neg h1, if_neg (by omega)]
/-- The first half of a key, as the document has it. -/
def clF (key : Nat → By) : Nat → By := fun j => if j < 16 then (if j % 4 = 3 then key j &&& 15#8 else if j % 4 = 0 ∧ 0 < j then key j &&& 252#8 else key j) else 0#8
theorem clF_eq (key : Nat → By) : ba 17 (cl4 (cl3 (half key 0) 19) 16) = ba 17 (clF key) := ba_congr fun i hi => by
  unfold cl4 cl3 half clF
  by_cases h : i < 16
  · rw [Nat.zero_add]
    simp only [h, if_true]
    by_cases h3 : i % 4 = 3
    · rw [if_neg (by omega), if_pos (by omega), if_pos h3]
    · rw [if_neg (show ¬ (i % 4 = 3 ∧ i < 19) by omega), if_neg h3]
      by_cases h4 : i % 4 = 0 ∧ 0 < i
      · rw [if_pos ⟨h4.1, h4.2, trivial⟩, if_pos h4]
      · rw [if_neg (by omega), if_neg h4]
  · rw [if_neg (by omega), if_neg (by omega), if_neg h, if_neg h]

/-- Seventeen bytes being worked on. -/
structure HS (w wr : World) (key f : Nat → By) : Prop where
  chg : Chg w wr
  ky : Ar wr w.heap.size (ba 32 key)
  out : Ar wr (w.heap.size + 1) (arr .u64 5 zI)
  b : Ar wr (w.heap.size + 1 + 1) (ba 17 f)
theorem HS.set {w wr : World} {key f : Nat → By} (h : HS w wr key f) (i : Nat) (x : By) : HS w (wr.setCell ⟨w.heap.size + 1 + 1, i, none⟩ (.int .u8 (x.toNat : Int))) key (updB f i x) := by
  refine ⟨h.chg.setCell (by dsimp only; omega) _, h.ky.other (by dsimp only; omega) _, h.out.other (by dsimp only; omega) _, ?_⟩
  have := h.b.set i (.int .u8 (x.toNat : Int))
  rwa [ba_set] at this

set_option maxRecDepth 100000 in
set_option maxHeartbeats 4000000 in
theorem secondHalf_any (key : Nat → By) (w : World) : Calls Try.prog 30 #[.agg (ba 32 key)] w fun r w' => r = .returned (.agg (arr .u64 5 (noF (half key 16)))) ∧ Chg w w' := by
  obtain ⟨A, hA⟩ : ∃ A, A = ba 32 key := ⟨_, rfl⟩
  have hsA : A.size = 32 := by rw [hA]; exact ba_size _ _
  have HA : Hid (A = ba 32 key) := hA
  rw [← hA]
  clear hA
  have hz := zero49.1
  have hz2 := zero53.1
  obtain ⟨w3, hw3⟩ : ∃ w3, w3 = ((w.alloc (.cells A 22)).alloc (.cells (arr .u64 5 zI) 49)).alloc (.cells (ba 17 zB) 53) := ⟨_, rfl⟩
  have Z3 : Hid (HS w w3 key zB) := by
    rw [hw3, HA.out]
    exact ⟨(((Chg.refl w).alloc _).alloc _).alloc _, ((Ar.new w _ _).alloc _).alloc _, (Ar.new1 w _ _ _).alloc _, Ar.new2 w _ _ _ _⟩
  have hs1 : ∀ u, (Instr.sliceAt 53 (.pointer (some ⟨w.heap.size + 1 + 1, 0, none⟩)) none (some (.int .i64 16)) none).run Try.prog u = .ok (.slice (some ⟨w.heap.size + 1 + 1, 0, none⟩) 16 17) u := run_sliceArrHi und53 (by decide) _ 16 (by decide)
  have hs2 : ∀ u, (Instr.sliceAt 22 (.pointer (some ⟨w.heap.size, 0, none⟩)) (some (.int .i64 16)) none none).run Try.prog u = .ok (.slice (some ⟨w.heap.size, 16, none⟩) 16 16) u := run_sliceArrLo und22 _ 16 (by decide)
  have hcp := run_cp w3.drew (w.heap.size + 1 + 1) 17 0 16 17 w.heap.size 16 16 16 16 zB (fun j => key (16 + j)) Z3.out.b (Z3.out.ky.bsAt 16 16 (by decide)) (by decide) (by decide)
  go_enter Try.func30, Try.ntmps30
  go_upto_region 2 with fail
  rw [← hw3]
  clear hw3 hsA hz hz2
  go_cut [] from 4 to 6 (fun wc => HS w wc key (half key 16))
  case first =>
    go_region_with (fail)
    all_goals go_wp2_with fail
    all_goals go_meet
    all_goals
      have k := Z3.out
      refine ⟨(k.chg.drew).setRow (by omega) _, k.ky.drew.rowOther (by omega) _, k.out.drew.rowOther (by omega) _, ?_⟩
      rw [← half_eq]
      exact k.b.drew.row _
  have Z4 : Hid (HS w wc key (half key 16)) := hcut
  clear hcut hcp hs1 hs2 Z3
  obtain ⟨w4, hw4⟩ : ∃ w4, w4 = wc := ⟨_, rfl⟩
  rw [← hw4] at Z4 ⊢
  clear hw4 wc
  go_upto_region 3 with fail
  obtain ⟨F, hF⟩ : ∃ F, F = half key 16 := ⟨_, rfl⟩
  obtain ⟨d2, hd2⟩ : ∃ d, d = noF F := ⟨_, rfl⟩
  have HG : Hid (d2 = noF (half key 16)) := by show d2 = _; rw [hd2, hF]
  have HC1 : Hid (∀ u, Calls Try.prog 26 #[.agg (ba 17 F)] u fun r w' => r = .returned (.agg (arr .u64 5 d2)) ∧ Chg u w') := by rw [hd2]; exact numberOf_any F
  have hb := Z4.out.b
  rw [← hF] at hb
  have HOo : Hid (Chg w w4 ∧ Ar w4 (w.heap.size + 1) (arr .u64 5 zI)) := ⟨Z4.out.chg, Z4.out.out⟩
  clear hF hd2 Z4
  obtain ⟨t1, g1⟩ := hb
  have hsz := szB F i53
  go_wp2_with (first | refine wpList_load_row rfl 53 _ rfl _ rfl _ _ _ _ g1 und53 rfl hsz ?_)
  go_at_call 26
  refine (HC1.out _).mono ?_
  rintro r u1 ⟨rfl, hc1⟩
  have HO2 : Hid (Chg w u1 ∧ Ar u1 (w.heap.size + 1) (arr .u64 5 zI)) := ⟨HOo.out.1.trans hc1, HOo.out.2.chg hc1⟩
  obtain ⟨t3, g3⟩ := HO2.out.2
  have hsz3 := sz49 d2
  have hlen := len5 zI d2
  have hone := arr_one .u64 5 d2
  clear hc1 g1 HOo hsz
  go_wp2_with (first | refine wpList_store_row rfl 49 _ _ rfl _ _ rfl rfl _ _ g3 hsz3 hlen hone ?_)
  refine bp_c (n := 5) (c := arr .u64 5 d2) Try.results30 rfl rfl ?_ und49 i49 (arr_size _ _ _) ⟨by rw [HG.out], ?_⟩
  · exact HO2.out.2.row _
  · exact HO2.out.1.setRow (by omega) _

set_option maxRecDepth 100000 in
set_option maxHeartbeats 4000000 in
theorem firstHalf_any (key : Nat → By) (w : World) : Calls Try.prog 23 #[.agg (ba 32 key)] w fun r w' => r = .returned (.agg (arr .u64 5 (noF (clF key)))) ∧ Chg w w' := by
  obtain ⟨A, hA⟩ : ∃ A, A = ba 32 key := ⟨_, rfl⟩
  have hsA : A.size = 32 := by rw [hA]; exact ba_size _ _
  have HA : Hid (A = ba 32 key) := hA
  rw [← hA]
  clear hA
  have hz := zero49.1
  have hz2 := zero53.1
  obtain ⟨w3, hw3⟩ : ∃ w3, w3 = ((w.alloc (.cells A 22)).alloc (.cells (arr .u64 5 zI) 49)).alloc (.cells (ba 17 zB) 53) := ⟨_, rfl⟩
  have Z3 : Hid (HS w w3 key zB) := by
    rw [hw3, HA.out]
    exact ⟨(((Chg.refl w).alloc _).alloc _).alloc _, ((Ar.new w _ _).alloc _).alloc _, (Ar.new1 w _ _ _).alloc _, Ar.new2 w _ _ _ _⟩
  have hs1 : ∀ u, (Instr.sliceAt 53 (.pointer (some ⟨w.heap.size + 1 + 1, 0, none⟩)) none (some (.int .i64 16)) none).run Try.prog u = .ok (.slice (some ⟨w.heap.size + 1 + 1, 0, none⟩) 16 17) u := run_sliceArrHi und53 (by decide) _ 16 (by decide)
  have hs2 : ∀ u, (Instr.sliceAt 22 (.pointer (some ⟨w.heap.size, 0, none⟩)) none none none).run Try.prog u = .ok (.slice (some ⟨w.heap.size, 0, none⟩) 32 32) u := run_sliceArr0 und22 (by decide) _
  have hcp := run_cp w3.drew (w.heap.size + 1 + 1) 17 0 16 17 w.heap.size 0 32 32 16 zB (fun j => key (0 + j)) Z3.out.b (Z3.out.ky.bsAt 0 16 (by decide)) (by decide) (by decide)
  go_enter Try.func23, Try.ntmps23
  go_upto_region 2 with fail
  rw [← hw3]
  clear hw3 hsA hz hz2
  go_cut [] from 6 to 8 (fun wc => HS w wc key (half key 0))
  case first =>
    go_region_with (fail)
    all_goals go_wp2_with fail
    all_goals go_meet
    all_goals
      have k := Z3.out
      refine ⟨(k.chg.drew).setRow (by omega) _, k.ky.drew.rowOther (by omega) _, k.out.drew.rowOther (by omega) _, ?_⟩
      rw [← half_eq]
      exact k.b.drew.row _
  have Z4 : Hid (HS w wc key (half key 0)) := hcut
  clear hcut hcp hs1 hs2 Z3
  obtain ⟨w4, hw4⟩ : ∃ w4, w4 = wc := ⟨_, rfl⟩
  rw [← hw4] at Z4 ⊢
  clear hw4 wc
  go_upto_region 3 with fail
  go_wp2_with fail
  go_loopw [4] (fun v wr => ∃ (i : Nat), v = .int .i64 i ∧ i ≤ 19 ∧ i % 4 = 3 ∧ 3 ≤ i ∧ HS w wr key (cl3 (half key 0) i)) (fun v wr => 20 - (intOf v).toNat)
  case atStart => exact ⟨3, rfl, by omega, rfl, by omega, by rw [cl3_zero]; exact Z4.out⟩
  case round =>
    clear Z4
    obtain ⟨i, rfl, hi, hm, h0, hz0⟩ := hrel
    have Z : Hid (HS w wr key (cl3 (half key 0) i)) := hz0
    by_cases hlt : i < 16
    · have hd : decide ((i : Int) < 16) = true := by simp; omega
      have li : (i : Int) < 17 := by omega
      have c1 := (hz0.b.cell i).trans (ba_get 17 _ (by omega))
      have f1 := hz0.b.frozen i
      have e0 : cl3 (half key 0) i i = (half key 0) i := by unfold cl3; rw [if_neg (by omega)]
      rw [e0] at c1
      obtain ⟨x, hx⟩ : ∃ x, x = (half key 0) i := ⟨_, rfl⟩
      rw [← hx] at c1
      obtain ⟨z, Hz, ez⟩ := nmAndB x 15#8
      replace ez : Go.bits .and .u8 (x.toNat : Int) 15 = (z.toNat : Int) := ez
      have HZ : Hid (z = (half key 0) i &&& 15#8) := by show z = _; rw [Hz.out, hx]
      have HM : Hid (i % 4 = 3 ∧ 3 ≤ i) := ⟨hm, h0⟩
      clear hx Hz hz0 e0 hm h0
      go_wp2_with fail
      go_roundw
      case rel =>
        have hm := HM.out
        refine ⟨i + 4, by go_num, by omega, by omega, by omega, ?_⟩
        rw [← cl3_succ _ hm.1, ← HZ.out]
        exact Z.out.set i z
      case measure => simp [intOf]; omega
    · have : i = 19 := by omega
      subst this
      rw [show ((19 : Nat) : Int) = 19 from rfl]
      clear hz0
      obtain ⟨h1, hh1⟩ : ∃ h, h = cl3 (half key 0) 19 := ⟨_, rfl⟩
      have HH1 : Hid (h1 = cl3 (half key 0) 19) := hh1
      have Z5 : Hid (HS w wr key h1) := by rw [hh1]; exact Z.out
      clear Z hh1
      go_wp2_with fail
      go_loopw [5] (fun v wr => ∃ (i : Nat), v = .int .i64 i ∧ i ≤ 16 ∧ i % 4 = 0 ∧ 4 ≤ i ∧ HS w wr key (cl4 (h1) i)) (fun v wr => 20 - (intOf v).toNat)
      case atStart => exact ⟨4, rfl, by omega, rfl, by omega, by rw [cl4_zero]; exact Z5.out⟩
      case round =>
        clear Z5
        obtain ⟨i, rfl, hi, hm, h0, hz0⟩ := hrel
        have Z : Hid (HS w wr key (cl4 (h1) i)) := hz0
        by_cases hlt : i < 16
        · have hd : decide ((i : Int) < 16) = true := by simp; omega
          have li : (i : Int) < 17 := by omega
          have c1 := (hz0.b.cell i).trans (ba_get 17 _ (by omega))
          have f1 := hz0.b.frozen i
          have e0 : cl4 (h1) i i = (h1) i := by unfold cl4; rw [if_neg (by omega)]
          rw [e0] at c1
          obtain ⟨x, hx⟩ : ∃ x, x = (h1) i := ⟨_, rfl⟩
          rw [← hx] at c1
          obtain ⟨z, Hz, ez⟩ := nmAndB x 252#8
          replace ez : Go.bits .and .u8 (x.toNat : Int) 252 = (z.toNat : Int) := ez
          have HZ : Hid (z = (h1) i &&& 252#8) := by show z = _; rw [Hz.out, hx]
          have HM : Hid (i % 4 = 0 ∧ 4 ≤ i) := ⟨hm, h0⟩
          clear hx Hz hz0 e0 hm h0
          go_wp2_with fail
          go_roundw
          case rel =>
            have hm := HM.out
            refine ⟨i + 4, by go_num, by omega, by omega, by omega, ?_⟩
            rw [← cl4_succ _ hm.1 (by omega), ← HZ.out]
            exact Z.out.set i z
          case measure => simp [intOf]; omega
        · have : i = 16 := by omega
          subst this
          rw [show ((16 : Nat) : Int) = 16 from rfl]
          clear hz0
          obtain ⟨F, hF⟩ : ∃ F, F = clF key := ⟨_, rfl⟩
          obtain ⟨d2, hd2⟩ : ∃ d, d = noF F := ⟨_, rfl⟩
          have HG : Hid (d2 = noF (clF key)) := by show d2 = _; rw [hd2, hF]
          have HC1 : Hid (∀ u, Calls Try.prog 26 #[.agg (ba 17 F)] u fun r w' => r = .returned (.agg (arr .u64 5 d2)) ∧ Chg u w') := by rw [hd2]; exact numberOf_any F
          have hb := Z.out.b
          rw [HH1.out, clF_eq, ← hF] at hb
          have HOo : Hid (Chg w wr ∧ Ar wr (w.heap.size + 1) (arr .u64 5 zI)) := ⟨Z.out.chg, Z.out.out⟩
          clear hF hd2 Z
          obtain ⟨t1, g1⟩ := hb
          have hsz := szB F i53
          go_wp2_with (first | refine wpList_load_row rfl 53 _ rfl _ rfl _ _ _ _ g1 und53 rfl hsz ?_)
          go_at_call 26
          refine (HC1.out _).mono ?_
          rintro r u1 ⟨rfl, hc1⟩
          have HO2 : Hid (Chg w u1 ∧ Ar u1 (w.heap.size + 1) (arr .u64 5 zI)) := ⟨HOo.out.1.trans hc1, HOo.out.2.chg hc1⟩
          obtain ⟨t3, g3⟩ := HO2.out.2
          have hsz3 := sz49 d2
          have hlen := len5 zI d2
          have hone := arr_one .u64 5 d2
          clear hc1 g1 HOo hsz
          go_wp2_with (first | refine wpList_store_row rfl 49 _ _ rfl _ _ rfl rfl _ _ g3 hsz3 hlen hone ?_)
          refine bp_c (n := 5) (c := arr .u64 5 d2) Try.results23 rfl rfl ?_ und49 i49 (arr_size _ _ _) ⟨by rw [HG.out], ?_⟩
          · exact HO2.out.2.row _
          · exact HO2.out.1.setRow (by omega) _
end Go.Proofs.Ytkdidacebfkdmaa
