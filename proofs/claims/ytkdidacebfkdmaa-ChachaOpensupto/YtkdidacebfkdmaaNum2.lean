/-
  Numbers of five digits: added, multiplied.
-/
import Derived.Test.YtkdidacebfkdmaaNum
namespace Go.Proofs.Ytkdidacebfkdmaa
open Go.RowKit
set_option linter.unusedVariables false

/-- Two numbers being worked on, and their result. -/
structure NT (w wr : World) (a b : Nat → Int) : Prop where
  chg : Chg w wr
  a : Ar wr w.heap.size (arr .u64 5 a)
  b : Ar wr (w.heap.size + 1) (arr .u64 5 b)
  out : Ar wr (w.heap.size + 1 + 1) (arr .u64 5 zI)
theorem NT.set {w wr : World} {a b : Nat → Int} (h : NT w wr a b) (i : Nat) (x : Int) : NT w (wr.setCell ⟨w.heap.size, i, none⟩ (.int .u64 x)) (updI a i x) b := by
  refine ⟨h.chg.setCell (Nat.le_refl _) _, ?_, h.b.other (by dsimp only; omega) _, h.out.other (by dsimp only; omega) _⟩
  have := h.a.set i (.int .u64 x)
  rwa [arr_set] at this
theorem NT.drew {w wr : World} {a b : Nat → Int} (h : NT w wr a b) : NT w wr.drew a b := ⟨h.chg.drew, h.a, h.b, h.out⟩
theorem NT.drewN {w wr : World} {a b : Nat → Int} (h : NT w wr a b) (n : Nat) : NT w (wr.drewN n) a b := ⟨h.chg.drewN n, h.a, h.b, h.out⟩
theorem NT.start (w : World) (a b : Nat → Int) (A D : Array Value) (hA : A = arr .u64 5 a) (hD : D = arr .u64 5 b) : NT w (((w.alloc (.cells A 49)).alloc (.cells D 49)).alloc (.cells (arr .u64 5 zI) 49)) a b := by
  rw [hA, hD]
  exact ⟨(((Chg.refl w).alloc _).alloc _).alloc _, ((Ar.new w _ _).alloc _).alloc _, (Ar.new1 w _ _ _).alloc _, Ar.new2 w _ _ _ _⟩

def auF (a b : Nat → Int) (i : Nat) : Nat → Int := fun j => if j < i then a j + b j else a j
theorem auF_zero (a b : Nat → Int) : auF a b 0 = a := by funext j; simp [auF]
theorem auF_succ (a b : Nat → Int) (i : Nat) : updI (auF a b i) i (a i + b i) = auF a b (i + 1) := by
  funext j
  unfold updI auF
  by_cases h : j = i
  · subst h; simp
  · have e : (j < i + 1) = (j < i) := by rw [eq_iff_iff]; omega
    simp [h, e]

set_option maxRecDepth 100000 in
set_option maxHeartbeats 4000000 in
theorem added_any (a b : Nat → Int) (w : World) (ha : ∀ i, i < 5 → 0 ≤ a i ∧ a i ≤ 4294967296) (hb : ∀ i, i < 5 → 0 ≤ b i ∧ b i ≤ 4294967296) : Calls Try.prog 25 #[.agg (arr .u64 5 a), .agg (arr .u64 5 b)] w fun r w' => r = .returned (.agg (arr .u64 5 (addF a b))) ∧ Chg w w' := by
  obtain ⟨A, hA⟩ : ∃ A, A = arr .u64 5 a := ⟨_, rfl⟩
  obtain ⟨D, hD⟩ : ∃ D, D = arr .u64 5 b := ⟨_, rfl⟩
  have hsA : A.size = 5 := by rw [hA]; exact arr_size _ _ _
  have hsD : D.size = 5 := by rw [hD]; exact arr_size _ _ _
  have HA : Hid (A = arr .u64 5 a ∧ D = arr .u64 5 b) := ⟨hA, hD⟩
  rw [← hA, ← hD]
  have HD : Hid (∀ i, i < 5 → (0 ≤ a i ∧ a i ≤ 4294967296) ∧ 0 ≤ b i ∧ b i ≤ 4294967296) := fun i hi => ⟨ha i hi, hb i hi⟩
  clear hA hD ha hb
  have hz := zero49.1
  go_enter Try.func25, Try.ntmps25
  go_wp2_with fail
  obtain ⟨w2, hw2⟩ : ∃ w2, w2 = ((w.alloc (.cells A 49)).alloc (.cells D 49)).alloc (.cells (arr .u64 5 zI) 49) := ⟨_, rfl⟩
  have Z2 : Hid (NT w w2 a b) := by rw [hw2]; exact NT.start w a b A D HA.out.1 HA.out.2
  rw [← hw2]
  clear hw2 hsA hsD hz
  go_loopw [6] (fun v6 wr => ∃ (i : Nat), v6 = .int .i64 i ∧ i ≤ 5 ∧ NT w wr (auF a b i) b) (fun v6 wr => 5 - (intOf v6).toNat)
  case atStart => exact ⟨0, rfl, by omega, by rw [auF_zero]; exact Z2.out⟩
  case round =>
    clear Z2
    obtain ⟨i, rfl, hi, hz0⟩ := hrel
    have Z : Hid (NT w wr (auF a b i) b) := hz0
    by_cases hlt : i < 5
    · have hd' : decide ((i : Int) < 5) = true := by simp; omega
      have li : (i : Int) < 5 := by omega
      have b1 := HD.out i hlt
      have c1 := (hz0.a.cell i).trans (arr_get .u64 5 _ hlt)
      have c2 := (hz0.b.cell i).trans (arr_get .u64 5 _ hlt)
      have f1 := hz0.a.frozen i
      have e0 : auF a b i i = a i := by simp [auF]
      rw [e0] at c1
      obtain ⟨y, hy⟩ : ∃ y, y = a i := ⟨_, rfl⟩
      obtain ⟨z, hzz⟩ : ∃ z, z = b i := ⟨_, rfl⟩
      rw [← hy] at c1 b1
      rw [← hzz] at c2 b1
      obtain ⟨x, hx⟩ : ∃ x, y + z = x := ⟨_, rfl⟩
      have wx := wrap_u (x := x) (by omega) (by omega)
      have HE : Hid (x = a i + b i) := by show x = _; rw [← hx, hy, hzz]
      clear hy hzz hz0 e0 b1
      go_wp2_with fail
      go_region_with (fail)
      all_goals go_wp2
      all_goals
        go_roundw
        case rel =>
          refine ⟨i + 1, by go_num, by omega, ?_⟩
          rw [← auF_succ a b i, ← HE.out]
          first
            | exact (Z.out.set i x).drew
            | exact Z.out.drew.set i x
        case measure => simp [intOf]; omega
    · have : i = 5 := by omega
      subst this
      have ha := hz0.a
      have e : arr .u64 5 (auF a b 5) = arr .u64 5 (addF a b) := arr_congr fun j hj => by simp [auF, addF, hj]
      rw [e] at ha
      obtain ⟨g, hg⟩ : ∃ g, g = addF a b := ⟨_, rfl⟩
      rw [← hg] at ha
      have HG : Hid (g = addF a b) := hg
      have HOo : Hid (Chg w wr ∧ Ar wr (w.heap.size + 1 + 1) (arr .u64 5 zI)) := ⟨hz0.chg, hz0.out⟩
      clear hz0 Z e hg
      obtain ⟨t1, g1⟩ := ha
      obtain ⟨t3, g3⟩ := HOo.out.2
      have hsz := sz49 g
      have hlen := len5 zI g
      have hone := arr_one .u64 5 g
      go_wp2_with (first | refine wpList_load_row rfl 49 _ rfl _ rfl _ _ _ _ g1 und49 rfl hsz ?_ | refine wpList_store_row rfl 49 _ _ rfl _ _ rfl rfl _ _ g3 hsz hlen hone ?_)
      refine bp_c (n := 5) (c := arr .u64 5 g) Try.results25 rfl rfl ?_ und49 i49 (arr_size _ _ _) ⟨by rw [HG.out], ?_⟩
      · exact HOo.out.2.row _
      · exact HOo.out.1.setRow (by omega) _

theorem stP_succ (a b : Nat → Int) (t : Nat) : stP a b (t + 1) = updI (stP a b t) ((t / 5 + t % 5) % 5) (stP a b t ((t / 5 + t % 5) % 5) + ptF a b (t / 5) (t % 5)) := rfl
theorem idx5 (i j : Nat) (hi : i < 5) (hj : j < 5) : ∃ s k : Nat, (i : Int) + j = s ∧ IntKind.i64.wrap (s : Int) = s ∧ (s : Int).tmod 5 = k ∧ IntKind.i64.wrap (k : Int) = k ∧ (k : Int) < 5 ∧ Hid (s = i + j ∧ k = (i + j) % 5) := by
  refine ⟨i + j, (i + j) % 5, by omega, wrap_i (by omega) (by omega), ?_, wrap_i (by omega) (by omega), by omega, rfl, rfl⟩
  rw [Int.tmod_eq_emod_of_nonneg (by omega)]
  omega

set_option maxRecDepth 100000 in
set_option maxHeartbeats 4000000 in
theorem product_any (a b : Nat → Int) (w : World) (ha : ∀ i, i < 5 → 0 ≤ a i ∧ a i ≤ 268435456) (hb : ∀ i, i < 5 → 0 ≤ b i ∧ b i ≤ 67108864) : Calls Try.prog 24 #[.agg (arr .u64 5 a), .agg (arr .u64 5 b)] w fun r w' => r = .returned (.agg (arr .u64 5 (prF a b))) ∧ Chg w w' := by
  obtain ⟨A, hA⟩ : ∃ A, A = arr .u64 5 a := ⟨_, rfl⟩
  obtain ⟨D, hD⟩ : ∃ D, D = arr .u64 5 b := ⟨_, rfl⟩
  have hsA : A.size = 5 := by rw [hA]; exact arr_size _ _ _
  have hsD : D.size = 5 := by rw [hD]; exact arr_size _ _ _
  have HA : Hid (A = arr .u64 5 a ∧ D = arr .u64 5 b) := ⟨hA, hD⟩
  rw [← hA, ← hD]
  have HD : Hid ((∀ i, i < 5 → 0 ≤ a i ∧ a i ≤ 268435456) ∧ ∀ i, i < 5 → 0 ≤ b i ∧ b i ≤ 67108864) := ⟨ha, hb⟩
  clear hA hD ha hb
  have hz := zero49.1
  go_enter Try.func24, Try.ntmps24
  go_wp2_with fail
  obtain ⟨w2, hw2⟩ : ∃ w2, w2 = ((((w.alloc (.cells A 49)).alloc (.cells D 49)).alloc (.cells (arr .u64 5 zI) 49)).alloc (.cells (arr .u64 5 zI) 49)) := ⟨_, rfl⟩
  obtain ⟨S, hS⟩ : ∃ S, S = w.heap.size + 1 + 1 + 1 := ⟨_, rfl⟩
  have HS : Hid (S = w.heap.size + 1 + 1 + 1) := hS
  have Z2 : Hid (NT w w2 a b ∧ Ar w2 S (arr .u64 5 (stP a b 0))) := by
    have k := NT.start w a b A D HA.out.1 HA.out.2
    rw [hw2, hS]
    exact ⟨⟨k.chg.alloc _, k.a.alloc _, k.b.alloc _, k.out.alloc _⟩, 49, heap_new3 w _ _ _ _ 49⟩
  rw [← hw2, ← hS]
  clear hw2 hsA hsD hz hS
  go_loopw [9] (fun v9 wr => ∃ (i : Nat), v9 = .int .i64 i ∧ i ≤ 5 ∧ NT w wr a b ∧ Ar wr S (arr .u64 5 (stP a b (5 * i)))) (fun v9 wr => 5 - (intOf v9).toNat)
  case atStart => exact ⟨0, rfl, by omega, Z2.out⟩
  case round =>
    clear Z2
    obtain ⟨i, rfl, hi, hz0, hz1⟩ := hrel
    by_cases hlt : i < 5
    · have hd' : decide ((i : Int) < 5) = true := by simp; omega
      have li : (i : Int) < 5 := by omega
      have Z : Hid (NT w wr a b ∧ Ar wr S (arr .u64 5 (stP a b (5 * i + 0)))) := ⟨hz0, hz1⟩
      clear hz0 hz1
      go_wp2_with fail
      go_loopw [12] (fun v12 wr => ∃ (j : Nat), v12 = .int .i64 j ∧ j ≤ 5 ∧ NT w wr a b ∧ Ar wr S (arr .u64 5 (stP a b (5 * i + j)))) (fun v12 wr => 5 - (intOf v12).toNat)
      case atStart => exact ⟨0, rfl, by omega, Z.out⟩
      case round =>
        clear Z
        obtain ⟨j, rfl, hj, hz0, hz1⟩ := hrel
        by_cases hjt : j < 5
        · have hd2 : decide ((j : Int) < 5) = true := by simp; omega
          have lj : (j : Int) < 5 := by omega
          have Z : Hid (NT w wr a b ∧ Ar wr S (arr .u64 5 (stP a b (5 * i + j)))) := ⟨hz0, hz1⟩
          have b1 := HD.out.1 i hlt
          have b2 := HD.out.2 j hjt
          have c1 := (hz0.a.cell i).trans (arr_get .u64 5 _ hlt)
          have c2 := (hz0.b.cell j).trans (arr_get .u64 5 _ hjt)
          obtain ⟨y, hy⟩ : ∃ y, y = a i := ⟨_, rfl⟩
          obtain ⟨z, hzz⟩ : ∃ z, z = b j := ⟨_, rfl⟩
          rw [← hy] at c1 b1
          rw [← hzz] at c2 b2
          have m0 : 0 ≤ y * z := Int.mul_nonneg b1.1 b2.1
          have m1 : y * z ≤ 268435456 * 67108864 := Int.mul_le_mul b1.2 b2.2 b2.1 (by decide)
          obtain ⟨p, hp⟩ : ∃ p, y * z = p := ⟨_, rfl⟩
          rw [hp] at m0 m1
          have wp := wrap_u (x := p) m0 (by omega)
          obtain ⟨p5, hp5⟩ : ∃ p5, p * 5 = p5 := ⟨_, rfl⟩
          have wp5 := wrap_u (x := p5) (by omega) (by omega)
          obtain ⟨s, k, e1, e2, e3, e4, lk, HQ⟩ := idx5 i j hlt hjt
          obtain ⟨bb, hbb⟩ : ∃ bb : Bool, decide ((s : Int) ≥ 5) = bb := ⟨_, rfl⟩
          have hbb' : decide ((5 : Int) ≤ s) = bb := hbb
          obtain ⟨q, hq⟩ : ∃ q, q = ptF a b i j := ⟨_, rfl⟩
          have HQ2 : Hid (q = if bb = true then p5 else p) := by
            show q = _
            rw [hq, ptF, ← hbb, ← hp5, ← hp, hy, hzz]
            have := HQ.out.1
            by_cases h5 : 5 ≤ i + j
            · rw [if_pos h5, if_pos (by simp; omega)]
            · rw [if_neg h5, if_neg (by simp; omega)]
          have HQ3 : Hid (q = ptF a b i j) := hq
          have bst := stP_le HD.out.1 HD.out.2 (5 * i + j) (by omega) k
          have hk5 : k < 5 := by omega
          obtain ⟨x, hx⟩ : ∃ x, x = stP a b (5 * i + j) k := ⟨_, rfl⟩
          rw [← hx] at bst
          have HXk : Hid (x = stP a b (5 * i + j) k) := hx
          have bq : 0 ≤ q ∧ q ≤ 90071992547409920 := by
            have := HQ2.out
            cases bb <;> simp at this <;> omega
          obtain ⟨x', hx'⟩ : ∃ x', x + q = x' := ⟨_, rfl⟩
          have wx' := wrap_u (x := x') (by omega) (by omega)
          clear hy hzz hz0 hz1 b1 b2 m0 m1 hq hx
          go_upto_region 8 with fail
          go_cut [8] from 15 to 27 (fun v8 wc => v8 = .int .u64 p ∧ ∃ m, wc = wr.drewN m)
          case first =>
            go_quiet (fail)
            all_goals go_wp2_with fail
            all_goals go_meet
            all_goals exact ⟨rfl, nq, rfl⟩
          obtain ⟨rfl, nm, hwc⟩ := hcut
          have Z3 : Hid (NT w wc a b ∧ Ar wc S (arr .u64 5 (stP a b (5 * i + j)))) := by
            rw [hwc]
            exact ⟨Z.out.1.drewN nm, Z.out.2⟩
          clear hwc Z c1 c2
          obtain ⟨w3, hw3⟩ : ∃ w3, w3 = wc := ⟨_, rfl⟩
          rw [← hw3] at Z3 ⊢
          clear hw3 wc
          go_upto_if 25 with fail
          go_cut [8] from 26 to 27 (fun v8 wc => v8 = .int .u64 q ∧ wc = w3)
          case first =>
            cases bb with
            | true =>
              have hq2 : p5 = q := by rw [HQ2.out, if_pos rfl]
              go_wp2_with fail
              go_meet
              exact ⟨by first | rfl | rw [hq2], rfl⟩
            | false =>
              have hq2 : p = q := by rw [HQ2.out, if_neg (by decide)]
              go_wp2_with fail
              go_meet
              exact ⟨by first | rfl | rw [hq2], rfl⟩
          obtain ⟨rfl, hwc⟩ := hcut
          rw [hwc]
          clear hwc wc
          have c3 := (Z3.out.2.cell k).trans (arr_get .u64 5 _ hk5)
          rw [← HXk.out] at c3
          have f3 := Z3.out.2.frozen k
          go_wp2_with fail
          go_roundw
          case rel =>
            refine ⟨j + 1, by go_num, by omega, ?_, ?_⟩
            · have hs := HS.out
              have k0 := Z3.out.1
              exact ⟨k0.chg.setCell (by dsimp only; omega) _, k0.a.other (by dsimp only; omega) _, k0.b.other (by dsimp only; omega) _, k0.out.other (by dsimp only; omega) _⟩
            · have hh := Z3.out.2.set k (.int .u64 x')
              rw [arr_set] at hh
              have e : stP a b (5 * i + (j + 1)) = upd (stP a b (5 * i + j)) k x' := by
                rw [upd_updI, show 5 * i + (j + 1) = 5 * i + j + 1 from rfl, stP_succ, show (5 * i + j) / 5 = i by omega, show (5 * i + j) % 5 = j by omega, ← HQ.out.2, ← HQ3.out, ← HXk.out, hx']
              rw [e]
              exact hh
          case measure => simp [intOf]; omega
        · have : j = 5 := by omega
          subst this
          have Z : Hid (NT w wr a b ∧ Ar wr S (arr .u64 5 (stP a b (5 * i + 5)))) := ⟨hz0, hz1⟩
          clear hz0 hz1
          go_wp2_with fail
          go_roundw
          case rel => exact ⟨i + 1, by go_num, by omega, Z.out⟩
          case measure => simp [intOf]; omega
    · have : i = 5 := by omega
      subst this
      obtain ⟨d1, hd1⟩ : ∃ d, d = stP a b 25 := ⟨_, rfl⟩
      obtain ⟨d2, hd2⟩ : ∃ d, d = redF d1 := ⟨_, rfl⟩
      obtain ⟨d3, hd3⟩ : ∃ d, d = redF d2 := ⟨_, rfl⟩
      have hb1 : ∀ k, k < 5 → 0 ≤ d1 k ∧ d1 k ≤ 4611686018427387904 := fun k hk => by
        have := stP_le HD.out.1 HD.out.2 25 (Nat.le_refl _) k
        rw [hd1]
        omega
      have hb2 : ∀ k, k < 5 → 0 ≤ d2 k ∧ d2 k ≤ 4611686018427387904 := fun k hk => by
        have o1 := crO_nonneg (d := d1) (n := 5) (fun j hj => (hb1 j hj).1)
        have o2 := crO_le (d := d1) (n := 5) (fun j hj => (hb1 j hj).2)
        have o3 := crD_bound d1 k
        have o4 := crD_bound d1 0
        rw [hd2]
        unfold redF updI
        split <;> omega
      have HG : Hid (d3 = prF a b) := by show d3 = _; rw [hd3, hd2, hd1]; rfl
      have HC1 : Hid (∀ u, Calls Try.prog 39 #[.agg (arr .u64 5 d1)] u fun r w' => r = .returned (.agg (arr .u64 5 d2)) ∧ Chg u w') := by rw [hd2]; exact fun u => reduced_any d1 u hb1
      have HC2 : Hid (∀ u, Calls Try.prog 39 #[.agg (arr .u64 5 d2)] u fun r w' => r = .returned (.agg (arr .u64 5 d3)) ∧ Chg u w') := by rw [hd3]; exact fun u => reduced_any d2 u hb2
      have ha : Ar wr S (arr .u64 5 d1) := by rw [hd1]; exact hz1
      have HOo : Hid (Chg w wr ∧ Ar wr (w.heap.size + 1 + 1) (arr .u64 5 zI)) := ⟨hz0.chg, hz0.out⟩
      clear hz0 hz1 hd1 hd2 hd3 hb1 hb2
      obtain ⟨t1, g1⟩ := ha
      have hsz := sz49 d1
      go_wp2_with (first | refine wpList_load_row rfl 49 _ rfl _ rfl _ _ _ _ g1 und49 rfl hsz ?_)
      go_at_call 39
      refine (HC1.out _).mono ?_
      rintro r u1 ⟨rfl, hc1⟩
      go_wp2_with fail
      go_at_call 39
      refine (HC2.out _).mono ?_
      rintro r u2 ⟨rfl, hc2⟩
      have HO2 : Hid (Chg w u2 ∧ Ar u2 (w.heap.size + 1 + 1) (arr .u64 5 zI)) := ⟨(HOo.out.1.trans hc1).trans hc2, (HOo.out.2.chg hc1).chg hc2⟩
      obtain ⟨t3, g3⟩ := HO2.out.2
      have hsz3 := sz49 d3
      have hlen := len5 zI d3
      have hone := arr_one .u64 5 d3
      clear hc1 hc2 g1 HOo hsz
      go_wp2_with (first | refine wpList_store_row rfl 49 _ _ rfl _ _ rfl rfl _ _ g3 hsz3 hlen hone ?_)
      refine bp_c (n := 5) (c := arr .u64 5 d3) Try.results24 rfl rfl ?_ und49 i49 (arr_size _ _ _) ⟨by rw [HG.out], ?_⟩
      · exact HO2.out.2.row _
      · exact HO2.out.1.setRow (by omega) _
end Go.Proofs.Ytkdidacebfkdmaa
