/-
  Numbers of five digits: added, multiplied.
  A quarter of the words: the program's closure, and the document's quarter.
  The document's words of four bytes.
  The document's block of the stream.
-/
import Derived.Test.YtobglgddbhddnaaGreatJ22
import Derived.Test.YtobglgddbhddnaaGreatJ20
import Derived.Test.YtobglgddbhddnaaGreatJ21
import Derived.Deep.RegionHeld3
namespace Go.Proofs.YtobglgddbhddnaaGreat.Cha
open Go.RowKit
set_option linter.unusedVariables false

/-- Two numbers being worked on, and their result. -/
structure NT (w wr : World) (a b : Nat → Int) : Prop where
  chg : Chg w wr
  a : Ar wr w.heap.size (arr .u64 5 a)
  b : Ar wr (w.heap.size + 1) (arr .u64 5 b)
  out : Ar wr (w.heap.size + 1 + 1) (arr .u64 5 zI)
theorem NT.set {w wr : World} {a b : Nat → Int} (h : NT w wr a b) (i : Nat) (x : Int) : NT w (wr.setCell ⟨w.heap.size, i, none⟩ (.int .u64 x)) (updI a i x) b := by
  refine ⟨h.chg.setCell (Nat.le_refl _) _, ?_, h.b.other (by dsimp only; omega) _, h.out.other (by dsimp only; omega) _⟩
  have := h.a.set i (.int .u64 x)
  rwa [arr_set] at this
theorem NT.drew {w wr : World} {a b : Nat → Int} (h : NT w wr a b) : NT w wr.drew a b := ⟨h.chg.drew, h.a, h.b, h.out⟩
theorem NT.drewN {w wr : World} {a b : Nat → Int} (h : NT w wr a b) (n : Nat) : NT w (wr.drewN n) a b := ⟨h.chg.drewN n, h.a, h.b, h.out⟩
theorem NT.start (w : World) (a b : Nat → Int) (A D : Array Value) (hA : A = arr .u64 5 a) (hD : D = arr .u64 5 b) : NT w (((w.alloc (.cells A 118)).alloc (.cells D 118)).alloc (.cells (arr .u64 5 zI) 118)) a b := by
  rw [hA, hD]
  exact ⟨(((Chg.refl w).alloc _).alloc _).alloc _, ((Ar.new w _ _).alloc _).alloc _, (Ar.new1 w _ _ _).alloc _, Ar.new2 w _ _ _ _⟩

def auF (a b : Nat → Int) (i : Nat) : Nat → Int := fun j => if j < i then a j + b j else a j
theorem auF_zero (a b : Nat → Int) : auF a b 0 = a := by funext j; simp [auF]
theorem auF_succ (a b : Nat → Int) (i : Nat) : updI (auF a b i) i (a i + b i) = auF a b (i + 1) := by
  funext j
  unfold updI auF
  by_cases h : j = i
  · subst h; simp
  · have e : (j < i + 1) = (j < i) := by rw [eq_iff_iff]; omega
    simp [h, e]

set_option maxRecDepth 100000 in
set_option maxHeartbeats 4000000 in
theorem added_any (a b : Nat → Int) (w : World) (ha : ∀ i, i < 5 → 0 ≤ a i ∧ a i ≤ 4294967296) (hb : ∀ i, i < 5 → 0 ≤ b i ∧ b i ≤ 4294967296) : Calls Tryz.prog 88 #[.agg (arr .u64 5 a), .agg (arr .u64 5 b)] w fun r w' => r = .returned (.agg (arr .u64 5 (addF a b))) ∧ Chg w w' := by
  obtain ⟨A, hA⟩ : ∃ A, A = arr .u64 5 a := ⟨_, rfl⟩
  obtain ⟨D, hD⟩ : ∃ D, D = arr .u64 5 b := ⟨_, rfl⟩
  have hsA : A.size = 5 := by rw [hA]; exact arr_size _ _ _
  have hsD : D.size = 5 := by rw [hD]; exact arr_size _ _ _
  have HA : Hid (A = arr .u64 5 a ∧ D = arr .u64 5 b) := ⟨hA, hD⟩
  rw [← hA, ← hD]
  have HD : Hid (∀ i, i < 5 → (0 ≤ a i ∧ a i ≤ 4294967296) ∧ 0 ≤ b i ∧ b i ≤ 4294967296) := fun i hi => ⟨ha i hi, hb i hi⟩
  clear hA hD ha hb
  have hz := zero49.1
  go_enter Tryz.func88, Tryz.ntmps88
  go_wp2_with fail
  obtain ⟨w2, hw2⟩ : ∃ w2, w2 = ((w.alloc (.cells A 118)).alloc (.cells D 118)).alloc (.cells (arr .u64 5 zI) 118) := ⟨_, rfl⟩
  have Z2 : Hid (NT w w2 a b) := by rw [hw2]; exact NT.start w a b A D HA.out.1 HA.out.2
  rw [← hw2]
  clear hw2 hsA hsD hz
  go_loopw [6] (fun v6 wr => ∃ (i : Nat), v6 = .int .i64 i ∧ i ≤ 5 ∧ NT w wr (auF a b i) b) (fun v6 wr => 5 - (intOf v6).toNat)
  case atStart => exact ⟨0, rfl, by omega, by rw [auF_zero]; exact Z2.out⟩
  case round =>
    clear Z2
    obtain ⟨i, rfl, hi, hz0⟩ := hrel
    have Z : Hid (NT w wr (auF a b i) b) := hz0
    by_cases hlt : i < 5
    · have hd' : decide ((i : Int) < 5) = true := by simp; omega
      have li : (i : Int) < 5 := by omega
      have b1 := HD.out i hlt
      have c1 := (hz0.a.cell i).trans (arr_get .u64 5 _ hlt)
      have c2 := (hz0.b.cell i).trans (arr_get .u64 5 _ hlt)
      have f1 := hz0.a.frozen i
      have e0 : auF a b i i = a i := by simp [auF]
      rw [e0] at c1
      obtain ⟨y, hy⟩ : ∃ y, y = a i := ⟨_, rfl⟩
      obtain ⟨z, hzz⟩ : ∃ z, z = b i := ⟨_, rfl⟩
      rw [← hy] at c1 b1
      rw [← hzz] at c2 b1
      obtain ⟨x, hx⟩ : ∃ x, y + z = x := ⟨_, rfl⟩
      have wx := wrap_u (x := x) (by omega) (by omega)
      have HE : Hid (x = a i + b i) := by show x = _; rw [← hx, hy, hzz]
      clear hy hzz hz0 e0 b1
      go_wp2_with fail
      go_region_with (fail)
      all_goals go_wp2
      all_goals
        go_roundw
        case rel =>
          refine ⟨i + 1, by go_num, by omega, ?_⟩
          rw [← auF_succ a b i, ← HE.out]
          first
            | exact (Z.out.set i x).drew
            | exact Z.out.drew.set i x
        case measure => simp [intOf]; omega
    · have : i = 5 := by omega
      subst this
      have ha := hz0.a
      have e : arr .u64 5 (auF a b 5) = arr .u64 5 (addF a b) := arr_congr fun j hj => by simp [auF, addF, hj]
      rw [e] at ha
      obtain ⟨g, hg⟩ : ∃ g, g = addF a b := ⟨_, rfl⟩
      rw [← hg] at ha
      have HG : Hid (g = addF a b) := hg
      have HOo : Hid (Chg w wr ∧ Ar wr (w.heap.size + 1 + 1) (arr .u64 5 zI)) := ⟨hz0.chg, hz0.out⟩
      clear hz0 Z e hg
      obtain ⟨t1, g1⟩ := ha
      obtain ⟨t3, g3⟩ := HOo.out.2
      have hsz := sz49 g
      have hlen := len5 zI g
      have hone := arr_one .u64 5 g
      go_wp2_with (first | refine wpList_load_row rfl 118 _ rfl _ rfl _ _ _ _ g1 und49 rfl hsz ?_ | refine wpList_store_row rfl 118 _ _ rfl _ _ rfl rfl _ _ g3 hsz hlen hone ?_)
      refine bp_c (n := 5) (c := arr .u64 5 g) Tryz.results88 rfl rfl ?_ und49 i49 (arr_size _ _ _) ⟨by rw [HG.out], ?_⟩
      · exact HOo.out.2.row _
      · exact HOo.out.1.setRow (by omega) _

theorem stP_succ (a b : Nat → Int) (t : Nat) : stP a b (t + 1) = updI (stP a b t) ((t / 5 + t % 5) % 5) (stP a b t ((t / 5 + t % 5) % 5) + ptF a b (t / 5) (t % 5)) := rfl
theorem idx5 (i j : Nat) (hi : i < 5) (hj : j < 5) : ∃ s k : Nat, (i : Int) + j = s ∧ IntKind.i64.wrap (s : Int) = s ∧ (s : Int).tmod 5 = k ∧ IntKind.i64.wrap (k : Int) = k ∧ (k : Int) < 5 ∧ Hid (s = i + j ∧ k = (i + j) % 5) := by
  refine ⟨i + j, (i + j) % 5, by omega, wrap_i (by omega) (by omega), ?_, wrap_i (by omega) (by omega), by omega, rfl, rfl⟩
  rw [Int.tmod_eq_emod_of_nonneg (by omega)]
  omega

set_option maxRecDepth 100000 in
set_option maxHeartbeats 4000000 in
theorem product_any (a b : Nat → Int) (w : World) (ha : ∀ i, i < 5 → 0 ≤ a i ∧ a i ≤ 268435456) (hb : ∀ i, i < 5 → 0 ≤ b i ∧ b i ≤ 67108864) : Calls Tryz.prog 87 #[.agg (arr .u64 5 a), .agg (arr .u64 5 b)] w fun r w' => r = .returned (.agg (arr .u64 5 (prF a b))) ∧ Chg w w' := by
  obtain ⟨A, hA⟩ : ∃ A, A = arr .u64 5 a := ⟨_, rfl⟩
  obtain ⟨D, hD⟩ : ∃ D, D = arr .u64 5 b := ⟨_, rfl⟩
  have hsA : A.size = 5 := by rw [hA]; exact arr_size _ _ _
  have hsD : D.size = 5 := by rw [hD]; exact arr_size _ _ _
  have HA : Hid (A = arr .u64 5 a ∧ D = arr .u64 5 b) := ⟨hA, hD⟩
  rw [← hA, ← hD]
  have HD : Hid ((∀ i, i < 5 → 0 ≤ a i ∧ a i ≤ 268435456) ∧ ∀ i, i < 5 → 0 ≤ b i ∧ b i ≤ 67108864) := ⟨ha, hb⟩
  clear hA hD ha hb
  have hz := zero49.1
  go_enter Tryz.func87, Tryz.ntmps87
  go_wp2_with fail
  obtain ⟨w2, hw2⟩ : ∃ w2, w2 = ((((w.alloc (.cells A 118)).alloc (.cells D 118)).alloc (.cells (arr .u64 5 zI) 118)).alloc (.cells (arr .u64 5 zI) 118)) := ⟨_, rfl⟩
  obtain ⟨S, hS⟩ : ∃ S, S = w.heap.size + 1 + 1 + 1 := ⟨_, rfl⟩
  have HS : Hid (S = w.heap.size + 1 + 1 + 1) := hS
  have Z2 : Hid (NT w w2 a b ∧ Ar w2 S (arr .u64 5 (stP a b 0))) := by
    have k := NT.start w a b A D HA.out.1 HA.out.2
    rw [hw2, hS]
    exact ⟨⟨k.chg.alloc _, k.a.alloc _, k.b.alloc _, k.out.alloc _⟩, 118, heap_new3 w _ _ _ _ 118⟩
  rw [← hw2, ← hS]
  clear hw2 hsA hsD hz hS
  go_loopw [9] (fun v9 wr => ∃ (i : Nat), v9 = .int .i64 i ∧ i ≤ 5 ∧ NT w wr a b ∧ Ar wr S (arr .u64 5 (stP a b (5 * i)))) (fun v9 wr => 5 - (intOf v9).toNat)
  case atStart => exact ⟨0, rfl, by omega, Z2.out⟩
  case round =>
    clear Z2
    obtain ⟨i, rfl, hi, hz0, hz1⟩ := hrel
    by_cases hlt : i < 5
    · have hd' : decide ((i : Int) < 5) = true := by simp; omega
      have li : (i : Int) < 5 := by omega
      have Z : Hid (NT w wr a b ∧ Ar wr S (arr .u64 5 (stP a b (5 * i + 0)))) := ⟨hz0, hz1⟩
      clear hz0 hz1
      go_wp2_with fail
      go_loopw [12] (fun v12 wr => ∃ (j : Nat), v12 = .int .i64 j ∧ j ≤ 5 ∧ NT w wr a b ∧ Ar wr S (arr .u64 5 (stP a b (5 * i + j)))) (fun v12 wr => 5 - (intOf v12).toNat)
      case atStart => exact ⟨0, rfl, by omega, Z.out⟩
      case round =>
        clear Z
        obtain ⟨j, rfl, hj, hz0, hz1⟩ := hrel
        by_cases hjt : j < 5
        · have hd2 : decide ((j : Int) < 5) = true := by simp; omega
          have lj : (j : Int) < 5 := by omega
          have Z : Hid (NT w wr a b ∧ Ar wr S (arr .u64 5 (stP a b (5 * i + j)))) := ⟨hz0, hz1⟩
          have b1 := HD.out.1 i hlt
          have b2 := HD.out.2 j hjt
          have c1 := (hz0.a.cell i).trans (arr_get .u64 5 _ hlt)
          have c2 := (hz0.b.cell j).trans (arr_get .u64 5 _ hjt)
          obtain ⟨y, hy⟩ : ∃ y, y = a i := ⟨_, rfl⟩
          obtain ⟨z, hzz⟩ : ∃ z, z = b j := ⟨_, rfl⟩
          rw [← hy] at c1 b1
          rw [← hzz] at c2 b2
          have m0 : 0 ≤ y * z := Int.mul_nonneg b1.1 b2.1
          have m1 : y * z ≤ 268435456 * 67108864 := Int.mul_le_mul b1.2 b2.2 b2.1 (by decide)
          obtain ⟨p, hp⟩ : ∃ p, y * z = p := ⟨_, rfl⟩
          rw [hp] at m0 m1
          have wp := wrap_u (x := p) m0 (by omega)
          obtain ⟨p5, hp5⟩ : ∃ p5, p * 5 = p5 := ⟨_, rfl⟩
          have wp5 := wrap_u (x := p5) (by omega) (by omega)
          obtain ⟨s, k, e1, e2, e3, e4, lk, HQ⟩ := idx5 i j hlt hjt
          obtain ⟨bb, hbb⟩ : ∃ bb : Bool, decide ((s : Int) ≥ 5) = bb := ⟨_, rfl⟩
          have hbb' : decide ((5 : Int) ≤ s) = bb := hbb
          obtain ⟨q, hq⟩ : ∃ q, q = ptF a b i j := ⟨_, rfl⟩
          have HQ2 : Hid (q = if bb = true then p5 else p) := by
            show q = _
            rw [hq, ptF, ← hbb, ← hp5, ← hp, hy, hzz]
            have := HQ.out.1
            by_cases h5 : 5 ≤ i + j
            · rw [if_pos h5, if_pos (by simp; omega)]
            · rw [if_neg h5, if_neg (by simp; omega)]
          have HQ3 : Hid (q = ptF a b i j) := hq
          have bst := stP_le HD.out.1 HD.out.2 (5 * i + j) (by omega) k
          have hk5 : k < 5 := by omega
          obtain ⟨x, hx⟩ : ∃ x, x = stP a b (5 * i + j) k := ⟨_, rfl⟩
          rw [← hx] at bst
          have HXk : Hid (x = stP a b (5 * i + j) k) := hx
          have bq : 0 ≤ q ∧ q ≤ 90071992547409920 := by
            have := HQ2.out
            cases bb <;> simp at this <;> omega
          obtain ⟨x', hx'⟩ : ∃ x', x + q = x' := ⟨_, rfl⟩
          have wx' := wrap_u (x := x') (by omega) (by omega)
          clear hy hzz hz0 hz1 b1 b2 m0 m1 hq hx
          go_upto_region 8 with fail
          go_cut [8] from 15 to 27 (fun v8 wc => v8 = .int .u64 p ∧ ∃ m, wc = wr.drewN m)
          case first =>
            go_quiet (fail)
            all_goals go_wp2_with fail
            all_goals go_meet
            all_goals exact ⟨rfl, nq, rfl⟩
          obtain ⟨rfl, nm, hwc⟩ := hcut
          have Z3 : Hid (NT w wc a b ∧ Ar wc S (arr .u64 5 (stP a b (5 * i + j)))) := by
            rw [hwc]
            exact ⟨Z.out.1.drewN nm, Z.out.2⟩
          clear hwc Z c1 c2
          obtain ⟨w3, hw3⟩ : ∃ w3, w3 = wc := ⟨_, rfl⟩
          rw [← hw3] at Z3 ⊢
          clear hw3 wc
          go_upto_if 25 with fail
          go_cut [8] from 26 to 27 (fun v8 wc => v8 = .int .u64 q ∧ wc = w3)
          case first =>
            cases bb with
            | true =>
              have hq2 : p5 = q := by rw [HQ2.out, if_pos rfl]
              go_wp2_with fail
              go_meet
              exact ⟨by first | rfl | rw [hq2], rfl⟩
            | false =>
              have hq2 : p = q := by rw [HQ2.out, if_neg (by decide)]
              go_wp2_with fail
              go_meet
              exact ⟨by first | rfl | rw [hq2], rfl⟩
          obtain ⟨rfl, hwc⟩ := hcut
          rw [hwc]
          clear hwc wc
          have c3 := (Z3.out.2.cell k).trans (arr_get .u64 5 _ hk5)
          rw [← HXk.out] at c3
          have f3 := Z3.out.2.frozen k
          go_wp2_with fail
          go_roundw
          case rel =>
            refine ⟨j + 1, by go_num, by omega, ?_, ?_⟩
            · have hs := HS.out
              have k0 := Z3.out.1
              exact ⟨k0.chg.setCell (by dsimp only; omega) _, k0.a.other (by dsimp only; omega) _, k0.b.other (by dsimp only; omega) _, k0.out.other (by dsimp only; omega) _⟩
            · have hh := Z3.out.2.set k (.int .u64 x')
              rw [arr_set] at hh
              have e : stP a b (5 * i + (j + 1)) = upd (stP a b (5 * i + j)) k x' := by
                rw [upd_updI, show 5 * i + (j + 1) = 5 * i + j + 1 from rfl, stP_succ, show (5 * i + j) / 5 = i by omega, show (5 * i + j) % 5 = j by omega, ← HQ.out.2, ← HQ3.out, ← HXk.out, hx']
              rw [e]
              exact hh
          case measure => simp [intOf]; omega
        · have : j = 5 := by omega
          subst this
          have Z : Hid (NT w wr a b ∧ Ar wr S (arr .u64 5 (stP a b (5 * i + 5)))) := ⟨hz0, hz1⟩
          clear hz0 hz1
          go_wp2_with fail
          go_roundw
          case rel => exact ⟨i + 1, by go_num, by omega, Z.out⟩
          case measure => simp [intOf]; omega
    · have : i = 5 := by omega
      subst this
      obtain ⟨d1, hd1⟩ : ∃ d, d = stP a b 25 := ⟨_, rfl⟩
      obtain ⟨d2, hd2⟩ : ∃ d, d = redF d1 := ⟨_, rfl⟩
      obtain ⟨d3, hd3⟩ : ∃ d, d = redF d2 := ⟨_, rfl⟩
      have hb1 : ∀ k, k < 5 → 0 ≤ d1 k ∧ d1 k ≤ 4611686018427387904 := fun k hk => by
        have := stP_le HD.out.1 HD.out.2 25 (Nat.le_refl _) k
        rw [hd1]
        omega
      have hb2 : ∀ k, k < 5 → 0 ≤ d2 k ∧ d2 k ≤ 4611686018427387904 := fun k hk => by
        have o1 := crO_nonneg (d := d1) (n := 5) (fun j hj => (hb1 j hj).1)
        have o2 := crO_le (d := d1) (n := 5) (fun j hj => (hb1 j hj).2)
        have o3 := crD_bound d1 k
        have o4 := crD_bound d1 0
        rw [hd2]
        unfold redF updI
        split <;> omega
      have HG : Hid (d3 = prF a b) := by show d3 = _; rw [hd3, hd2, hd1]; rfl
      have HC1 : Hid (∀ u, Calls Tryz.prog 98 #[.agg (arr .u64 5 d1)] u fun r w' => r = .returned (.agg (arr .u64 5 d2)) ∧ Chg u w') := by rw [hd2]; exact fun u => reduced_any d1 u hb1
      have HC2 : Hid (∀ u, Calls Tryz.prog 98 #[.agg (arr .u64 5 d2)] u fun r w' => r = .returned (.agg (arr .u64 5 d3)) ∧ Chg u w') := by rw [hd3]; exact fun u => reduced_any d2 u hb2
      have ha : Ar wr S (arr .u64 5 d1) := by rw [hd1]; exact hz1
      have HOo : Hid (Chg w wr ∧ Ar wr (w.heap.size + 1 + 1) (arr .u64 5 zI)) := ⟨hz0.chg, hz0.out⟩
      clear hz0 hz1 hd1 hd2 hd3 hb1 hb2
      obtain ⟨t1, g1⟩ := ha
      have hsz := sz49 d1
      go_wp2_with (first | refine wpList_load_row rfl 118 _ rfl _ rfl _ _ _ _ g1 und49 rfl hsz ?_)
      go_at_call 98
      refine (HC1.out _).mono ?_
      rintro r u1 ⟨rfl, hc1⟩
      go_wp2_with fail
      go_at_call 98
      refine (HC2.out _).mono ?_
      rintro r u2 ⟨rfl, hc2⟩
      have HO2 : Hid (Chg w u2 ∧ Ar u2 (w.heap.size + 1 + 1) (arr .u64 5 zI)) := ⟨(HOo.out.1.trans hc1).trans hc2, (HOo.out.2.chg hc1).chg hc2⟩
      obtain ⟨t3, g3⟩ := HO2.out.2
      have hsz3 := sz49 d3
      have hlen := len5 zI d3
      have hone := arr_one .u64 5 d3
      clear hc1 hc2 g1 HOo hsz
      go_wp2_with (first | refine wpList_store_row rfl 118 _ _ rfl _ _ rfl rfl _ _ g3 hsz3 hlen hone ?_)
      refine bp_c (n := 5) (c := arr .u64 5 d3) Tryz.results87 rfl rfl ?_ und49 i49 (arr_size _ _ _) ⟨by rw [HG.out], ?_⟩
      · exact HO2.out.2.row _
      · exact HO2.out.1.setRow (by omega) _
end Go.Proofs.YtobglgddbhddnaaGreat.Cha

namespace Go.Proofs.YtobglgddbhddnaaGreat.Cha
open Go.RowKit
set_option linter.unusedVariables false

set_option maxRecDepth 100000 in
set_option maxHeartbeats 4000000 in
theorem refQuarter_any (f0 : Nat → Wd) (a b c d : Nat) (w : World) (ha : a < 16) (hb : b < 16) (hc : c < 16) (hd : d < 16) :
    Calls Tryz.prog 50 #[.agg (wa 16 f0), .int .i64 (a : Int), .int .i64 (b : Int), .int .i64 (c : Int), .int .i64 (d : Int)] w fun r w' => r = .returned (.agg (wa 16 (qr f0 a b c d))) ∧ Chg w w' := by
  have HB : Hid (a < 16 ∧ b < 16 ∧ c < 16 ∧ d < 16) := ⟨ha, hb, hc, hd⟩
  have la : (a : Int) < 16 := by omega
  have lb : (b : Int) < 16 := by omega
  have lc : (c : Int) < 16 := by omega
  have ld : (d : Int) < 16 := by omega
  have hsA := wa_size 16 f0
  obtain ⟨A, hA⟩ : ∃ A, A = wa 16 f0 := ⟨_, rfl⟩
  have HA : Hid (A = wa 16 f0) := hA
  rw [← hA] at hsA ⊢
  clear hA ha hb hc hd
  have hz := zero42.1
  go_enter Tryz.func50, Tryz.ntmps50
  go_upto_region 1 with fail
  obtain ⟨w0, hw0⟩ : ∃ w0, w0 = (w.alloc (.cells A 84)).alloc (.cells (wa 16 zW) 84) := ⟨_, rfl⟩
  have Y : Hid (Chg w w0 ∧ Ar w0 (w.heap.size + 1) (wa 16 zW)) := by
    rw [hw0]
    exact ⟨((Chg.refl w).alloc _).alloc _, Ar.new1 w _ _ _⟩
  have Z0 : Hid (QS w0 w0 w.heap.size f0) := by
    refine ⟨Ap.Chg.refl _ _, ?_⟩
    rw [hw0, HA.out]
    exact (Ar.new w _ _).alloc _
  rw [← hw0]
  clear hw0 hz hsA
  obtain ⟨x, hx⟩ : ∃ x, x = f0 a := ⟨_, rfl⟩
  obtain ⟨y, hy⟩ : ∃ y, y = f0 b := ⟨_, rfl⟩
  have c1 := (Z0.out.ws.cell a).trans (wa_get 16 f0 HB.out.1)
  have c2 := (Z0.out.ws.cell b).trans (wa_get 16 f0 HB.out.2.1)
  have k1 := Z0.out.ws.frozen a
  rw [← hx] at c1
  rw [← hy] at c2
  obtain ⟨z, Hz, ez⟩ := nmAdd x y
  obtain ⟨f1, hf⟩ : ∃ g, g = sa f0 a b := ⟨_, rfl⟩
  have HF0 : Hid (f1 = updW f0 a z) := by show f1 = _; rw [hf, sa, ← hx, ← hy, Hz.out]
  have HG0 : Hid (f1 = sa f0 a b) := hf
  clear hx hy Hz hf
  go_cut [] from 11 to 19 (fun wc => QS w0 wc w.heap.size f1)
  case first =>
    go_region_with (fail)
    all_goals go_wp2_with fail
    all_goals go_meet
    all_goals
      rw [HF0.out]
      first
        | exact (Z0.out.set a z).drew
        | exact (Z0.out.drew.set a z)
        | exact ((Z0.out.drewN _).set a z)
  have Z1 : Hid (QS w0 wc w.heap.size f1) := hcut
  clear hcut c1 c2 k1
  obtain ⟨w1, hw1⟩ : ∃ w', w' = wc := ⟨_, rfl⟩
  rw [← hw1] at Z1 ⊢
  clear hw1 wc
  go_upto_region 2 with fail
  obtain ⟨x, hx⟩ : ∃ x, x = f1 d := ⟨_, rfl⟩
  obtain ⟨y, hy⟩ : ∃ y, y = f1 a := ⟨_, rfl⟩
  have c1 := (Z1.out.ws.cell d).trans (wa_get 16 f1 HB.out.2.2.2)
  have c2 := (Z1.out.ws.cell a).trans (wa_get 16 f1 HB.out.1)
  have k1 := Z1.out.ws.frozen d
  rw [← hx] at c1
  rw [← hy] at c2
  obtain ⟨z0, Hz0, ez0⟩ := nmXor x y
  obtain ⟨z, hz⟩ : ∃ z, z = z0.rotateLeft 16 := ⟨_, rfl⟩
  obtain ⟨f2, hf⟩ : ∃ g, g = sx f1 d a 16 := ⟨_, rfl⟩
  have HF1 : Hid (f2 = updW f1 d z) := by show f2 = _; rw [hf, sx, ← hx, ← hy, hz, Hz0.out]
  have HG1 : Hid (f2 = sx f1 d a 16) := hf
  have HC : Hid (∀ u, Calls Tryz.prog 68 #[.int .u32 (z0.toNat : Int), .int .i64 16] u fun r w' => r = .returned (.int .u32 (z.toNat : Int)) ∧ ∃ m, w' = u.drewN m) := by rw [hz]; exact fun u => left_any z0 16 u (by decide) (by decide)
  clear hx hy Hz0 hf hz
  go_cut [] from 20 to 29 (fun wc => QS w0 wc w.heap.size f2)
  case first =>
    go_region_with (go_at_call 68; refine (HC.out _).mono ?_; rintro r u ⟨rfl, mq, hu⟩; rw [hu])
    all_goals go_wp2_with fail
    all_goals go_meet
    all_goals
      rw [HF1.out]
      first
        | exact (Z1.out.set d z).drew
        | exact (Z1.out.drew.set d z)
        | exact ((Z1.out.drewN _).set d z)
  have Z2 : Hid (QS w0 wc w.heap.size f2) := hcut
  clear hcut c1 c2 k1
  obtain ⟨w2, hw2⟩ : ∃ w', w' = wc := ⟨_, rfl⟩
  rw [← hw2] at Z2 ⊢
  clear hw2 wc
  go_upto_region 3 with fail
  obtain ⟨x, hx⟩ : ∃ x, x = f2 c := ⟨_, rfl⟩
  obtain ⟨y, hy⟩ : ∃ y, y = f2 d := ⟨_, rfl⟩
  have c1 := (Z2.out.ws.cell c).trans (wa_get 16 f2 HB.out.2.2.1)
  have c2 := (Z2.out.ws.cell d).trans (wa_get 16 f2 HB.out.2.2.2)
  have k1 := Z2.out.ws.frozen c
  rw [← hx] at c1
  rw [← hy] at c2
  obtain ⟨z, Hz, ez⟩ := nmAdd x y
  obtain ⟨f3, hf⟩ : ∃ g, g = sa f2 c d := ⟨_, rfl⟩
  have HF2 : Hid (f3 = updW f2 c z) := by show f3 = _; rw [hf, sa, ← hx, ← hy, Hz.out]
  have HG2 : Hid (f3 = sa f2 c d) := hf
  clear hx hy Hz hf
  go_cut [] from 30 to 38 (fun wc => QS w0 wc w.heap.size f3)
  case first =>
    go_region_with (fail)
    all_goals go_wp2_with fail
    all_goals go_meet
    all_goals
      rw [HF2.out]
      first
        | exact (Z2.out.set c z).drew
        | exact (Z2.out.drew.set c z)
        | exact ((Z2.out.drewN _).set c z)
  have Z3 : Hid (QS w0 wc w.heap.size f3) := hcut
  clear hcut c1 c2 k1
  obtain ⟨w3, hw3⟩ : ∃ w', w' = wc := ⟨_, rfl⟩
  rw [← hw3] at Z3 ⊢
  clear hw3 wc
  go_upto_region 4 with fail
  obtain ⟨x, hx⟩ : ∃ x, x = f3 b := ⟨_, rfl⟩
  obtain ⟨y, hy⟩ : ∃ y, y = f3 c := ⟨_, rfl⟩
  have c1 := (Z3.out.ws.cell b).trans (wa_get 16 f3 HB.out.2.1)
  have c2 := (Z3.out.ws.cell c).trans (wa_get 16 f3 HB.out.2.2.1)
  have k1 := Z3.out.ws.frozen b
  rw [← hx] at c1
  rw [← hy] at c2
  obtain ⟨z0, Hz0, ez0⟩ := nmXor x y
  obtain ⟨z, hz⟩ : ∃ z, z = z0.rotateLeft 12 := ⟨_, rfl⟩
  obtain ⟨f4, hf⟩ : ∃ g, g = sx f3 b c 12 := ⟨_, rfl⟩
  have HF3 : Hid (f4 = updW f3 b z) := by show f4 = _; rw [hf, sx, ← hx, ← hy, hz, Hz0.out]
  have HG3 : Hid (f4 = sx f3 b c 12) := hf
  have HC : Hid (∀ u, Calls Tryz.prog 68 #[.int .u32 (z0.toNat : Int), .int .i64 12] u fun r w' => r = .returned (.int .u32 (z.toNat : Int)) ∧ ∃ m, w' = u.drewN m) := by rw [hz]; exact fun u => left_any z0 12 u (by decide) (by decide)
  clear hx hy Hz0 hf hz
  go_cut [] from 39 to 48 (fun wc => QS w0 wc w.heap.size f4)
  case first =>
    go_region_with (go_at_call 68; refine (HC.out _).mono ?_; rintro r u ⟨rfl, mq, hu⟩; rw [hu])
    all_goals go_wp2_with fail
    all_goals go_meet
    all_goals
      rw [HF3.out]
      first
        | exact (Z3.out.set b z).drew
        | exact (Z3.out.drew.set b z)
        | exact ((Z3.out.drewN _).set b z)
  have Z4 : Hid (QS w0 wc w.heap.size f4) := hcut
  clear hcut c1 c2 k1
  obtain ⟨w4, hw4⟩ : ∃ w', w' = wc := ⟨_, rfl⟩
  rw [← hw4] at Z4 ⊢
  clear hw4 wc
  go_upto_region 5 with fail
  obtain ⟨x, hx⟩ : ∃ x, x = f4 a := ⟨_, rfl⟩
  obtain ⟨y, hy⟩ : ∃ y, y = f4 b := ⟨_, rfl⟩
  have c1 := (Z4.out.ws.cell a).trans (wa_get 16 f4 HB.out.1)
  have c2 := (Z4.out.ws.cell b).trans (wa_get 16 f4 HB.out.2.1)
  have k1 := Z4.out.ws.frozen a
  rw [← hx] at c1
  rw [← hy] at c2
  obtain ⟨z, Hz, ez⟩ := nmAdd x y
  obtain ⟨f5, hf⟩ : ∃ g, g = sa f4 a b := ⟨_, rfl⟩
  have HF4 : Hid (f5 = updW f4 a z) := by show f5 = _; rw [hf, sa, ← hx, ← hy, Hz.out]
  have HG4 : Hid (f5 = sa f4 a b) := hf
  clear hx hy Hz hf
  go_cut [] from 49 to 57 (fun wc => QS w0 wc w.heap.size f5)
  case first =>
    go_region_with (fail)
    all_goals go_wp2_with fail
    all_goals go_meet
    all_goals
      rw [HF4.out]
      first
        | exact (Z4.out.set a z).drew
        | exact (Z4.out.drew.set a z)
        | exact ((Z4.out.drewN _).set a z)
  have Z5 : Hid (QS w0 wc w.heap.size f5) := hcut
  clear hcut c1 c2 k1
  obtain ⟨w5, hw5⟩ : ∃ w', w' = wc := ⟨_, rfl⟩
  rw [← hw5] at Z5 ⊢
  clear hw5 wc
  go_upto_region 6 with fail
  obtain ⟨x, hx⟩ : ∃ x, x = f5 d := ⟨_, rfl⟩
  obtain ⟨y, hy⟩ : ∃ y, y = f5 a := ⟨_, rfl⟩
  have c1 := (Z5.out.ws.cell d).trans (wa_get 16 f5 HB.out.2.2.2)
  have c2 := (Z5.out.ws.cell a).trans (wa_get 16 f5 HB.out.1)
  have k1 := Z5.out.ws.frozen d
  rw [← hx] at c1
  rw [← hy] at c2
  obtain ⟨z0, Hz0, ez0⟩ := nmXor x y
  obtain ⟨z, hz⟩ : ∃ z, z = z0.rotateLeft 8 := ⟨_, rfl⟩
  obtain ⟨f6, hf⟩ : ∃ g, g = sx f5 d a 8 := ⟨_, rfl⟩
  have HF5 : Hid (f6 = updW f5 d z) := by show f6 = _; rw [hf, sx, ← hx, ← hy, hz, Hz0.out]
  have HG5 : Hid (f6 = sx f5 d a 8) := hf
  have HC : Hid (∀ u, Calls Tryz.prog 68 #[.int .u32 (z0.toNat : Int), .int .i64 8] u fun r w' => r = .returned (.int .u32 (z.toNat : Int)) ∧ ∃ m, w' = u.drewN m) := by rw [hz]; exact fun u => left_any z0 8 u (by decide) (by decide)
  clear hx hy Hz0 hf hz
  go_cut [] from 58 to 67 (fun wc => QS w0 wc w.heap.size f6)
  case first =>
    go_region_with (go_at_call 68; refine (HC.out _).mono ?_; rintro r u ⟨rfl, mq, hu⟩; rw [hu])
    all_goals go_wp2_with fail
    all_goals go_meet
    all_goals
      rw [HF5.out]
      first
        | exact (Z5.out.set d z).drew
        | exact (Z5.out.drew.set d z)
        | exact ((Z5.out.drewN _).set d z)
  have Z6 : Hid (QS w0 wc w.heap.size f6) := hcut
  clear hcut c1 c2 k1
  obtain ⟨w6, hw6⟩ : ∃ w', w' = wc := ⟨_, rfl⟩
  rw [← hw6] at Z6 ⊢
  clear hw6 wc
  go_upto_region 7 with fail
  obtain ⟨x, hx⟩ : ∃ x, x = f6 c := ⟨_, rfl⟩
  obtain ⟨y, hy⟩ : ∃ y, y = f6 d := ⟨_, rfl⟩
  have c1 := (Z6.out.ws.cell c).trans (wa_get 16 f6 HB.out.2.2.1)
  have c2 := (Z6.out.ws.cell d).trans (wa_get 16 f6 HB.out.2.2.2)
  have k1 := Z6.out.ws.frozen c
  rw [← hx] at c1
  rw [← hy] at c2
  obtain ⟨z, Hz, ez⟩ := nmAdd x y
  obtain ⟨f7, hf⟩ : ∃ g, g = sa f6 c d := ⟨_, rfl⟩
  have HF6 : Hid (f7 = updW f6 c z) := by show f7 = _; rw [hf, sa, ← hx, ← hy, Hz.out]
  have HG6 : Hid (f7 = sa f6 c d) := hf
  clear hx hy Hz hf
  go_cut [] from 68 to 76 (fun wc => QS w0 wc w.heap.size f7)
  case first =>
    go_region_with (fail)
    all_goals go_wp2_with fail
    all_goals go_meet
    all_goals
      rw [HF6.out]
      first
        | exact (Z6.out.set c z).drew
        | exact (Z6.out.drew.set c z)
        | exact ((Z6.out.drewN _).set c z)
  have Z7 : Hid (QS w0 wc w.heap.size f7) := hcut
  clear hcut c1 c2 k1
  obtain ⟨w7, hw7⟩ : ∃ w', w' = wc := ⟨_, rfl⟩
  rw [← hw7] at Z7 ⊢
  clear hw7 wc
  go_upto_region 8 with fail
  obtain ⟨x, hx⟩ : ∃ x, x = f7 b := ⟨_, rfl⟩
  obtain ⟨y, hy⟩ : ∃ y, y = f7 c := ⟨_, rfl⟩
  have c1 := (Z7.out.ws.cell b).trans (wa_get 16 f7 HB.out.2.1)
  have c2 := (Z7.out.ws.cell c).trans (wa_get 16 f7 HB.out.2.2.1)
  have k1 := Z7.out.ws.frozen b
  rw [← hx] at c1
  rw [← hy] at c2
  obtain ⟨z0, Hz0, ez0⟩ := nmXor x y
  obtain ⟨z, hz⟩ : ∃ z, z = z0.rotateLeft 7 := ⟨_, rfl⟩
  obtain ⟨f8, hf⟩ : ∃ g, g = sx f7 b c 7 := ⟨_, rfl⟩
  have HF7 : Hid (f8 = updW f7 b z) := by show f8 = _; rw [hf, sx, ← hx, ← hy, hz, Hz0.out]
  have HG7 : Hid (f8 = sx f7 b c 7) := hf
  have HC : Hid (∀ u, Calls Tryz.prog 68 #[.int .u32 (z0.toNat : Int), .int .i64 7] u fun r w' => r = .returned (.int .u32 (z.toNat : Int)) ∧ ∃ m, w' = u.drewN m) := by rw [hz]; exact fun u => left_any z0 7 u (by decide) (by decide)
  clear hx hy Hz0 hf hz
  go_cut [] from 77 to 86 (fun wc => QS w0 wc w.heap.size f8)
  case first =>
    go_region_with (go_at_call 68; refine (HC.out _).mono ?_; rintro r u ⟨rfl, mq, hu⟩; rw [hu])
    all_goals go_wp2_with fail
    all_goals go_meet
    all_goals
      rw [HF7.out]
      first
        | exact (Z7.out.set b z).drew
        | exact (Z7.out.drew.set b z)
        | exact ((Z7.out.drewN _).set b z)
  have Z8 : Hid (QS w0 wc w.heap.size f8) := hcut
  clear hcut c1 c2 k1
  obtain ⟨w8, hw8⟩ : ∃ w', w' = wc := ⟨_, rfl⟩
  rw [← hw8] at Z8 ⊢
  clear hw8 wc
  go_upto_region 9 with fail
  have hq : Hid (qr f0 a b c d = f8) := by
    show qr f0 a b c d = f8
    rw [HG7.out, HG6.out, HG5.out, HG4.out, HG3.out, HG2.out, HG1.out, HG0.out]
    rfl
  have K2 : Hid (Ar w8 (w.heap.size + 1) (wa 16 zW)) := Y.out.2.ap Z8.out.chg (by unfold Ap.One; omega)
  obtain ⟨t1, g1⟩ := Z8.out.ws
  obtain ⟨t3, g3⟩ := K2.out
  have hsz := szW f8
  have hlen := lenW 16 zW f8
  have hone := wa_one 16 f8
  go_wp2_with (first | refine wpList_load_row rfl 84 _ rfl _ rfl _ _ _ _ g1 und42 rfl hsz ?_ | refine wpList_store_row rfl 84 _ _ rfl _ _ rfl rfl _ _ g3 hsz hlen hone ?_)
  refine bp_c (n := 16) (c := wa 16 f8) Tryz.results50 rfl rfl ?_ und42 i42 (wa_size _ _) ⟨by rw [hq.out], ?_⟩
  · exact K2.out.row _
  · exact (Y.out.1.ap Z8.out.chg (fun i e => by cases e; exact Nat.le_refl _)).setRow (by omega) _
end Go.Proofs.YtobglgddbhddnaaGreat.Cha

namespace Go.Proofs.YtobglgddbhddnaaGreat.Cha
open Go.RowKit
set_option linter.unusedVariables false

theorem nmShlK (b : By) (s : Nat) (d : Int) (hs : s ≤ 24) (hd : d = (2 : Int) ^ s) : ∃ z : Wd, Hid (z = zx b <<< s) ∧ (b.toNat : Int) * d = (z.toNat : Int) := by
  refine ⟨_, rfl, ?_⟩
  rw [← zx_num, IntKind.wrap_u32, hd]
  have hb := b.isLt
  have h1 : (2 : Int) ^ s ≤ 2 ^ 24 := by exact_mod_cast Nat.pow_le_pow_right (n := 2) (by decide) hs
  have h2 : (0 : Int) < 2 ^ s := Int.pow_pos (by decide)
  have h3 : (b.toNat : Int) * 2 ^ s ≤ 255 * 2 ^ s := Int.mul_le_mul_of_nonneg_right (by omega) (by omega)
  have h4 : 0 ≤ (b.toNat : Int) * 2 ^ s := Int.mul_nonneg (by omega) (by omega)
  rw [Int.emod_eq_of_lt h4 (by omega)]
theorem wrW (z : Wd) : IntKind.u32.wrap (z.toNat : Int) = z.toNat := by
  have := z.isLt
  rw [IntKind.wrap_u32]
  omega
theorem wrB (z : By) : IntKind.u32.wrap (z.toNat : Int) = z.toNat := by
  have := z.isLt
  rw [IntKind.wrap_u32]
  omega
theorem nmZx (b : By) : ∃ z : Wd, Hid (z = zx b) ∧ (b.toNat : Int) = (z.toNat : Int) := by
  refine ⟨_, rfl, ?_⟩
  have hb := b.isLt
  rw [zx, BitVec.toNat_setWidth, Nat.mod_eq_of_lt (show b.toNat < 2 ^ 32 by omega)]

set_option maxRecDepth 100000 in
set_option maxHeartbeats 4000000 in
theorem word_any (b o c : Nat) (f : Nat → By) (w : World) (h : Bs w b o 4 f) : Calls Tryz.prog 49 #[.slice (some ⟨b, o, none⟩) 4 c] w fun r w' => r = .returned (.int .u32 ((wordB f 0).toNat : Int)) ∧ Chg w w' := by
  have c0 := h 0 (by decide)
  have c1 := h 1 (by decide)
  have c2 := h 2 (by decide)
  have c3 := h 3 (by decide)
  rw [Nat.add_zero] at c0
  obtain ⟨x0, hx0⟩ : ∃ x, x = f 0 := ⟨_, rfl⟩
  obtain ⟨x1, hx1⟩ : ∃ x, x = f 1 := ⟨_, rfl⟩
  obtain ⟨x2, hx2⟩ : ∃ x, x = f 2 := ⟨_, rfl⟩
  obtain ⟨x3, hx3⟩ : ∃ x, x = f 3 := ⟨_, rfl⟩
  rw [← hx0] at c0
  rw [← hx1] at c1
  rw [← hx2] at c2
  rw [← hx3] at c3
  obtain ⟨z0, H0, e0⟩ := nmZx x0
  obtain ⟨z1, H1, e1⟩ := nmShlK x1 8 256 (by decide) rfl
  obtain ⟨z2, H2, e2⟩ := nmShlK x2 16 65536 (by decide) rfl
  obtain ⟨z3, H3, e3⟩ := nmShlK x3 24 16777216 (by decide) rfl
  obtain ⟨y1, K1, d1⟩ := nmOr z0 z1
  obtain ⟨y2, K2, d2⟩ := nmOr y1 z2
  obtain ⟨y3, K3, d3⟩ := nmOr y2 z3
  rw [← e0] at d1
  have HW : Hid (y3 = wordB f 0) := by
    show y3 = _
    rw [K3.out, K2.out, K1.out, H0.out, H1.out, H2.out, H3.out, hx0, hx1, hx2, hx3]
    rfl
  clear hx0 hx1 hx2 hx3 h H0 H1 H2 H3 K1 K2 K3 e0
  go_enter Tryz.func49, Tryz.ntmps49
  go_wp2_with fail
  refine wp_region_noPanic ?_
  go_region_held3 (fun w' => w'.cell? ⟨b, o, none⟩ = some (.int .u8 (x0.toNat : Int)) ∧ w'.cell? ⟨b, o + 1, none⟩ = some (.int .u8 (x1.toNat : Int)) ∧ w'.cell? ⟨b, o + 2, none⟩ = some (.int .u8 (x2.toNat : Int)) ∧ w'.cell? ⟨b, o + 3, none⟩ = some (.int .u8 (x3.toNat : Int))) ((exact ⟨c0, c1, c2, c3⟩)) (fail)
  all_goals refine NoPanic.normal ?_
  all_goals go_wp2
  all_goals
    go_ret
    rw [← HW.out]
    refine ⟨ret32 ?_, (Chg.refl w).drew⟩
    rw [wrB x0, wrB x1, wrB x2, wrB x3, e1, e2, e3, wrW z1, wrW z2, wrW z3, d1, d2, d3]
end Go.Proofs.YtobglgddbhddnaaGreat.Cha

namespace Go.Proofs.YtobglgddbhddnaaGreat.Cha
open Go.RowKit
set_option linter.unusedVariables false

/-- The first words: so many of the key, the count, so many of the nonce. -/
def iniR (key : Nat → By) (i : Nat) (c : Wd) (nonce : Nat → By) (k : Nat) : Nat → Wd := fun j =>
  if j < 4 then con j else if j < 4 + i then wordB key (j - 4) else if j < 12 then 0#32 else if j = 12 then c else if j < 13 + k then wordB nonce (j - 13) else 0#32
theorem iniR_start (key nonce : Nat → By) : EqN 16 con (iniR key 0 0#32 nonce 0) := by
  intro j hj
  unfold iniR
  split
  · rfl
  · rename_i h
    have e : con j = 0#32 := by unfold con; rw [if_neg (by omega), if_neg (by omega), if_neg (by omega), if_neg (by omega)]
    rw [e]
    by_cases h1 : j < 12
    · rw [if_pos h1]
    · rw [if_neg h1]
      by_cases h2 : j = 12
      · rw [if_pos h2]
      · rw [if_neg h2, if_neg (show ¬ j < 13 + 0 by omega)]
theorem iniR_key (key nonce : Nat → By) (c : Wd) {i : Nat} (hi : i < 8) : updW (iniR key i c nonce 0) (4 + i) (wordB key i) = iniR key (i + 1) c nonce 0 := by
  funext j
  unfold updW
  by_cases h : j = 4 + i
  · subst h
    unfold iniR
    rw [if_pos rfl, if_neg (by omega), if_pos (by omega), show 4 + i - 4 = i by omega]
  · rw [if_neg h]
    unfold iniR
    by_cases h1 : j < 4 + i
    · rw [if_pos h1, if_pos (show j < 4 + (i + 1) by omega)]
    · rw [if_neg h1, if_neg (show ¬ j < 4 + (i + 1) by omega)]
theorem iniR_count (key nonce : Nat → By) (c : Wd) : updW (iniR key 8 0#32 nonce 0) 12 c = iniR key 8 c nonce 0 := by
  funext j
  unfold updW iniR
  by_cases h : j = 12
  · subst h; simp
  · simp [h]
theorem iniR_nonce (key nonce : Nat → By) (c : Wd) {i : Nat} (hi : i < 3) : updW (iniR key 8 c nonce i) (13 + i) (wordB nonce i) = iniR key 8 c nonce (i + 1) := by
  funext j
  unfold updW
  by_cases h : j = 13 + i
  · subst h
    unfold iniR
    rw [if_pos rfl, if_neg (by omega), if_neg (by omega), if_neg (by omega), if_neg (by omega), if_pos (by omega), show 13 + i - 13 = i by omega]
  · rw [if_neg h]
    unfold iniR
    by_cases h1 : j < 13 + i
    · rw [if_pos h1, if_pos (show j < 13 + (i + 1) by omega)]
    · rw [if_neg h1, if_neg (show ¬ j < 13 + (i + 1) by omega)]
theorem iniR_all (key nonce : Nat → By) (c : Wd) : EqN 16 (iniR key 8 c nonce 3) (ini key c nonce) := by
  intro j hj
  unfold iniR ini
  by_cases h0 : j < 4
  · rw [if_pos h0, if_pos h0]
  · rw [if_neg h0, if_neg h0]
    by_cases h1 : j < 12
    · rw [if_pos (show j < 4 + 8 by omega), if_pos h1]
    · rw [if_neg (show ¬ j < 4 + 8 by omega), if_neg h1, if_neg h1]
      by_cases h2 : j = 12
      · rw [if_pos h2, if_pos h2]
      · rw [if_neg h2, if_neg h2, if_pos (show j < 13 + 3 by omega)]
theorem wordB_at (f : Nat → By) (i : Nat) : wordB (fun j => f (4 * i + j)) 0 = wordB f i := rfl

/-- What stands while the document makes a block. -/
structure RkS (w wr : World) (key nonce : Nat → By) (f : Nat → Wd) : Prop where
  chg : Chg w wr
  key : Ar wr w.heap.size (ba 32 key)
  non : Ar wr (w.heap.size + 1) (ba 12 nonce)
  res : Ar wr (w.heap.size + 1 + 1) (ba 64 zB)
  ws : Ar wr (w.heap.size + 1 + 1 + 1) (wa 16 f)
theorem RkS.to {w wr u : World} {key nonce : Nat → By} {f : Nat → Wd} (h : RkS w wr key nonce f) (k : Chg wr u) : RkS w u key nonce f := ⟨h.chg.trans k, h.key.chg k, h.non.chg k, h.res.chg k, h.ws.chg k⟩
theorem RkS.set {w wr : World} {key nonce : Nat → By} {f : Nat → Wd} (h : RkS w wr key nonce f) (i : Nat) (x : Wd) : RkS w (wr.setCell ⟨w.heap.size + 1 + 1 + 1, i, none⟩ (.int .u32 (x.toNat : Int))) key nonce (updW f i x) := by
  refine ⟨h.chg.setCell (by dsimp only; omega) _, h.key.other (by dsimp only; omega) _, h.non.other (by dsimp only; omega) _, h.res.other (by dsimp only; omega) _, ?_⟩
  have := h.ws.set i (.int .u32 (x.toNat : Int))
  rwa [wa_set] at this
theorem RkS.row {w wr : World} {key nonce : Nat → By} {f : Nat → Wd} (h : RkS w wr key nonce f) (g : Nat → Wd) : RkS w (wr.setRow (w.heap.size + 1 + 1 + 1) (wa 16 g)) key nonce g :=
  ⟨h.chg.setRow (by omega) _, h.key.rowOther (by omega) _, h.non.rowOther (by omega) _, h.res.rowOther (by omega) _, h.ws.row _⟩

theorem addr_add (b o i : Nat) : (⟨b, o, none⟩ : Addr).add i = ⟨b, o + i, none⟩ := by unfold Addr.add; split <;> simp_all
theorem run_sliceArr {t n : Nat} (hu : Tryz.prog.underlying t = some (.array n 5)) (b p q : Nat) (h1 : p ≤ q) (h2 : q ≤ n) (h3 : p < n) (w : World) : (Instr.sliceAt t (.pointer (some ⟨b, 0, none⟩)) (some (.int .i64 (p : Int))) (some (.int .i64 (q : Int))) none).run Tryz.prog w = .ok (.slice (some ⟨b, p, none⟩) (q - p) (n - p)) w := by
  have h4 : (p : Int) ≤ q := by omega
  have h5 : (q : Int) ≤ n := by omega
  have h6 : ¬ n = p := by omega
  simp [go_sem, Instr.sliceAt, Instr.sliceBounds, Instr.sliceBound, run_underlying hu, asIntOf, Sem.run_bind, h1, h2, h6, addr_add]
theorem _root_.Go.Proofs.YtobglgddbhddnaaGreat.Ar.bsAt {w : World} {b n : Nat} {f : Nat → By} (h : Ar w b (ba n f)) (p m : Nat) (hp : p + m ≤ n) : Bs w b p m (fun j => f (p + j)) := fun j hj => (h.cell (p + j)).trans (ba_get n f (by omega))
theorem modf (r d : Nat) (hr : r < 4) (hd : d ≤ 3) : ∃ ra rm : Nat, (r : Int) + d = ra ∧ IntKind.i64.wrap (ra : Int) = ra ∧ (ra : Int).tmod 4 = rm ∧ IntKind.i64.wrap (rm : Int) = rm ∧ Hid (rm = (r + d) % 4) := by
  refine ⟨r + d, (r + d) % 4, by omega, wrap_i (by omega) (by omega), ?_, wrap_i (by omega) (by omega), rfl⟩
  rw [Int.tmod_eq_emod_of_nonneg (by omega)]
  omega
end Go.Proofs.YtobglgddbhddnaaGreat.Cha
