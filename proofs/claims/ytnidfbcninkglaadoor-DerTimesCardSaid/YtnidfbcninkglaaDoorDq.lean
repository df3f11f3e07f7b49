/-
  A time written, the document's.
-/
import Derived.Test.YtnidfbcninkglaaDoorDp
namespace Go.Proofs.YtnidfbcninkglaaDoor
open Go.RowKit
set_option linter.unusedVariables false
set_option maxRecDepth 100000

structure TmP (w w' : World) (v : Value) (t : Int) : Prop where
  ex : ∃ l, OwnN w w' v l ∧ PutT t l

set_option maxHeartbeats 16000000 in
theorem rputTime_a (t D r G : Int) (w : World) (h0 : -62135596800 ≤ t) (h1 : t ≤ 253402300799) (hD : D = (t + 62135596800) / 86400 - 719162) (hr : r = (t + 62135596800) % 86400) (ht : 0 ≤ t) (q1 : t / 86400 = D) (q2 : t % 86400 = r)
    (q3 : D / 366 = G) (hG : -1964 ≤ G ∧ G ≤ 8013) :
    Calls Tryd.prog 29 #[.int .i64 t] w fun e w' => ∃ v', e = .returned v' ∧ TmP w w' v' t := by
  have d0 : decide (t < -62135596800) = false := by simp; omega
  have d9 : decide (253402300799 < t) = false := by simp; omega
  have hD0 : -719162 ≤ D := by omega
  have hD1 : D ≤ 2932896 := by omega
  have hr0 : 0 ≤ r := by omega
  have hr1 : r < 86400 := by omega
  obtain ⟨hG0, hG1⟩ := hG
  have HP : Hid (∀ y m d, Cal (D + 719162) y m d → PutT t (if 1950 ≤ y ∧ y ≤ 2049 then encL 23 ((textL y m d r).drop 2) else encL 24 (textL y m d r))) := by
    intro y m d hc
    show (if _ then _ else _)
    rw [if_neg (by omega)]
    exact ⟨y, m, d, by rw [show (t + 62135596800) / 86400 = D + 719162 by omega]; exact hc, by rw [hr]⟩
  clear hD hr
  go_enter Tryd.func29, Tryd.ntmps29
  go_wp2
  simp only [q1, q2, q3]
  go_loop [5] (fun x => ∃ y : Int, 1 ≤ y ∧ y ≤ 9999 ∧ x = .int .i64 y) (fun x => (9999 - intOf x).toNat)
  case atStart => exact ⟨_, by omega, by omega, rfl⟩
  case round =>
    obtain ⟨y, hy1, hy2, rfl⟩ := hrel
    obtain ⟨D1, hD1⟩ : ∃ D1, D1 = dby (y + 1) - 719162 := ⟨_, rfl⟩
    have hDb := dby_bd (y + 1) (by omega) (by omega)
    have HC : Hid (∀ u, Calls Tryd.prog 51 #[.int .i64 (y + 1)] u fun e w' => e = .returned (.int .i64 D1) ∧ w' = u) := fun u => by rw [hD1]; exact days_any (y + 1) (by omega) (by omega) u
    have HD1 : Hid (D1 = dby (y + 1) - 719162) := hD1
    have hD1b : -719162 ≤ D1 ∧ D1 ≤ 2932897 := by omega
    obtain ⟨hD1b1, hD1b2⟩ := hD1b
    clear hD1 hDb
    by_cases hc : D1 ≤ D
    · have hy9 : y < 9999 := by
        have h9 := HD1.out
        by_cases e : y = 9999
        · subst e
          have : dby (9999 + 1) = 3652059 := by decide
          omega
        · omega
      have d1 : decide (D1 ≤ D) = true := by simpa using hc
      clear hc
      go_wp2_with (go_at_call 51; refine (HC.out _).mono ?_; rintro e w9 ⟨rfl, hw9⟩; obtain rfl := hw9.symm)
      go_round
      case rel => exact ⟨y + 1, by omega, by omega, rfl⟩
      case measure => simp [intOf]; omega
    · have d1 : decide (D1 ≤ D) = false := by simpa using hc
      have HY0 : Hid (D < dby (y + 1) - 719162) := by show _ < _; rw [← HD1.out]; omega
      clear hc
      go_wp2_with (go_at_call 51; refine (HC.out _).mono ?_; rintro e w9 ⟨rfl, hw9⟩; obtain rfl := hw9.symm)
      clear HC
      obtain ⟨ys, hys⟩ : ∃ ys, ys = y := ⟨_, rfl⟩
      go_loop [5] (fun x => ∃ y : Int, 1 ≤ y ∧ y ≤ 9999 ∧ x = .int .i64 y ∧ Hid (D < dby (y + 1) - 719162)) (fun x => (intOf x).toNat)
      case atStart => exact ⟨_, hy1, hy2, rfl, HY0⟩
      case round =>
        clear hys HY0 HD1 d1 hD1b1 hD1b2 hy1 hy2
        obtain ⟨y, hy1, hy2, rfl, HY0⟩ := hrel
        obtain ⟨D2, hD2⟩ : ∃ D2, D2 = dby y - 719162 := ⟨_, rfl⟩
        have hDb := dby_bd y (by omega) (by omega)
        have HC : Hid (∀ u, Calls Tryd.prog 51 #[.int .i64 y] u fun e w' => e = .returned (.int .i64 D2) ∧ w' = u) := fun u => by rw [hD2]; exact days_any y (by omega) (by omega) u
        have HD2 : Hid (D2 = dby y - 719162) := hD2
        have hD2b : -719162 ≤ D2 ∧ D2 ≤ 2932897 := by omega
        obtain ⟨hD2b1, hD2b2⟩ := hD2b
        clear hD2 hDb
        by_cases hc : D < D2
        · have hy9 : 1 < y := by
            have h9 := HD2.out
            by_cases e : y = 1
            · subst e
              have : dby 1 = 0 := by decide
              omega
            · omega
          have d2 : decide (D < D2) = true := by simpa using hc
          have HY1 : Hid (D < dby (y - 1 + 1) - 719162) := by
            show _ < _
            rw [show y - 1 + 1 = y by omega, ← HD2.out]
            exact hc
          clear hc
          go_wp2_with (go_at_call 51; refine (HC.out _).mono ?_; rintro e w9 ⟨rfl, hw9⟩; obtain rfl := hw9.symm)
          go_round
          case rel => exact ⟨y - 1, by omega, by omega, rfl, HY1⟩
          case measure => simp [intOf]; omega
        · have d2 : decide (D < D2) = false := by simpa using hc
          have hs := dby_succ y hy1
          have hlp := lpI_01 y
          have HX : Hid (D - D2 < 365 + lpI y) := by show _ < _; have := HD2.out; have := HY0.out; omega
          have hX2 : D - D2 < 366 := by have := HX.out; omega
          have hX3 : 0 ≤ D - D2 := by omega
          clear hs hlp hc
          go_wp2_with (go_at_call 51; refine (HC.out _).mono ?_; rintro e w9 ⟨rfl, hw9⟩; obtain rfl := hw9.symm)
          go_loop [3, 6] (fun x k => ∃ m c : Int, 1 ≤ m ∧ m ≤ 12 ∧ k = .int .i64 m ∧ Hid (c = cum y m) ∧ 0 ≤ c ∧ c ≤ D - D2 ∧ x = .int .i64 (D - D2 - c)) (fun _ k => (12 - intOf k).toNat)
          case atStart => exact ⟨1, 0, by omega, by omega, rfl, (rfl : (0 : Int) = cum y 1), by omega, by omega, by simp⟩
          case round =>
            obtain ⟨m, c, hm1, hm2, rfl, hcum, hc0, hc1, rfl⟩ := hrel
            obtain ⟨K, hK⟩ : ∃ K, K = dimI y m := ⟨_, rfl⟩
            have hKb := dim_bd y m
            have HC3 : Hid (∀ u, Calls Tryd.prog 50 #[.int .i64 y, .int .i64 m] u fun e w' => e = .returned (.int .i64 K) ∧ w' = u) := fun u => by rw [hK]; exact month_any y m (by omega) u
            have HK : Hid (K = dimI y m) := hK
            have hcs := cum_succ y m hm1 hm2
            have HCS : Hid (cum y (m + 1) = c + K) := by show _ = _; rw [hcs, ← hcum.out, HK.out]
            rw [← hK] at hKb
            clear hK hcs
            by_cases hd : K ≤ D - D2 - c
            · have hm12 : m < 12 := by
                by_cases e : m = 12
                · subst e
                  have h5 := HCS.out
                  have h6 := HX.out
                  have h7 : cum y (12 + 1) = 365 + lpI y := cum_13 y
                  omega
                · omega
              have d3 : decide (K ≤ D - D2 - c) = true := by simpa using hd
              obtain ⟨c', hc'⟩ : ∃ c', c' = c + K := ⟨_, rfl⟩
              have HC' : Hid (c' = cum y (m + 1)) := by show _ = _; rw [HCS.out, hc']
              have HE : Hid (D - D2 - c - K = D - D2 - c') := by show _ = _; omega
              have hc'0 : 0 ≤ c' := by omega
              have hc'1 : c' ≤ D - D2 := by omega
              clear hc'
              go_wp2_with (go_at_call 50; refine (HC3.out _).mono ?_; rintro e w9 ⟨rfl, hw9⟩; obtain rfl := hw9.symm)
              go_round
              case rel => exact ⟨m + 1, c', by omega, by omega, rfl, HC', hc'0, hc'1, by rw [HE.out]⟩
              case measure => simp [intOf]; omega
            · have d3 : decide (K ≤ D - D2 - c) = false := by simpa using hd
              obtain ⟨K1, hK1⟩ : ∃ K1, K1 = D - D2 - c + 1 := ⟨_, rfl⟩
              have HK1 : Hid (K1 = D - (dby y - 719162) - cum y m + 1) := by show _ = _; rw [hK1, HD2.out, hcum.out]
              have HCAL : Hid (Cal (D + 719162) y m (D - (dby y - 719162) - cum y m + 1)) := by
                refine ⟨hy1, hy2, hm1, hm2, ?_, ?_, by omega⟩
                · rw [← HK1.out, hK1]; omega
                · rw [← HK1.out, hK1, ← HK.out]; omega
              have hK10 : 1 ≤ K1 := by omega
              have hK11 : K1 ≤ 31 := by omega
              have qK : D - D2 - c + 1 = K1 := hK1.symm
              clear hd hK1
              go_upto_region 20 with (go_at_call 50; refine (HC3.out _).mono ?_; rintro e w9 ⟨rfl, hw9⟩; obtain rfl := hw9.symm)
              by_cases hsh : 1950 ≤ y ∧ y ≤ 2049
              · have e1 : decide (y < 1950) = false := by simp; omega
                have e2 : decide (2049 < y) = false := by simp; omega
                have HIF : Hid (1950 ≤ y ∧ y ≤ 2049) := hsh
                clear hsh
                have HO1 : Hid (OwnN w w (.slice none 0 0) []) := OwnN.nought w
                obtain ⟨acc2, hacc2⟩ : ∃ acc, acc = ([] : List Int) ++ dg2 (y % 100) := ⟨_, rfl⟩
                have HA2 : Hid (acc2 = ([] : List Int) ++ dg2 (y % 100)) := hacc2
                have HL2 : Hid (acc2.length = 2) := by show _ = _; rw [hacc2]; simp [dg2]
                clear hacc2
                go_wp2_with (first
                  | (go_at_call 55; refine (rtwo_any (y % 100) (by omega) (by omega) _).mono ?_; rintro e qw2 ⟨rfl, hr2, hc2⟩)
                  | (at_builtin; refine wpList_app _ rfl (.tmp 69) (.tmp 72) rfl _ _ ([] : List Int) (dg2 (y % 100)) rfl rfl (HO1.out.own.chg hc2) hr2 (by simp [dg2]) ?_))
                intro v2 z2 g1 g2 g3
                have HO2 : Hid (OwnN w z2 v2 acc2) := by rw [HA2.out]; exact (HO1.out.after hc2).more g1 g2 g3
                obtain ⟨o2, n2, c2, rfl, -, -, -⟩ := HO2.out.rd.shape
                clear g1 g2 g3 hr2 hc2
                obtain ⟨acc3, hacc3⟩ : ∃ acc, acc = acc2 ++ dg2 (m) := ⟨_, rfl⟩
                have HA3 : Hid (acc3 = acc2 ++ dg2 (m)) := hacc3
                have HL3 : Hid (acc3.length = 4) := by show _ = _; rw [hacc3]; rw [List.length_append, HL2.out]; rfl
                clear hacc3
                go_wp2_with (first
                  | (go_at_call 55; refine (rtwo_any (m) (by omega) (by omega) _).mono ?_; rintro e qw3 ⟨rfl, hr3, hc3⟩)
                  | (at_builtin; refine wpList_app _ rfl (.tmp 74) (.tmp 76) rfl _ _ acc2 (dg2 (m)) rfl rfl (HO2.out.own.chg hc3) hr3 (by have := HL2.out; simp only [dg2, List.length_cons, List.length_nil]; omega) ?_))
                intro v3 z3 g1 g2 g3
                have HO3 : Hid (OwnN w z3 v3 acc3) := by rw [HA3.out]; exact (HO2.out.after hc3).more g1 g2 g3
                obtain ⟨o3, n3, c3, rfl, -, -, -⟩ := HO3.out.rd.shape
                clear g1 g2 g3 hr3 hc3
                obtain ⟨acc4, hacc4⟩ : ∃ acc, acc = acc3 ++ dg2 (K1) := ⟨_, rfl⟩
                have HA4 : Hid (acc4 = acc3 ++ dg2 (K1)) := hacc4
                have HL4 : Hid (acc4.length = 6) := by show _ = _; rw [hacc4]; rw [List.length_append, HL3.out]; rfl
                clear hacc4
                go_wp2_with (first
                  | (go_at_call 55; refine (rtwo_any (K1) (by omega) (by omega) _).mono ?_; rintro e qw4 ⟨rfl, hr4, hc4⟩)
                  | (at_builtin; refine wpList_app _ rfl (.tmp 78) (.tmp 81) rfl _ _ acc3 (dg2 (K1)) rfl rfl (HO3.out.own.chg hc4) hr4 (by have := HL3.out; simp only [dg2, List.length_cons, List.length_nil]; omega) ?_))
                intro v4 z4 g1 g2 g3
                have HO4 : Hid (OwnN w z4 v4 acc4) := by rw [HA4.out]; exact (HO3.out.after hc4).more g1 g2 g3
                obtain ⟨o4, n4, c4, rfl, -, -, -⟩ := HO4.out.rd.shape
                clear g1 g2 g3 hr4 hc4
                obtain ⟨acc5, hacc5⟩ : ∃ acc, acc = acc4 ++ dg2 (r / 3600) := ⟨_, rfl⟩
                have HA5 : Hid (acc5 = acc4 ++ dg2 (r / 3600)) := hacc5
                have HL5 : Hid (acc5.length = 8) := by show _ = _; rw [hacc5]; rw [List.length_append, HL4.out]; rfl
                clear hacc5
                go_wp2_with (first
                  | (go_at_call 55; refine (rtwo_any (r / 3600) (by omega) (by omega) _).mono ?_; rintro e qw5 ⟨rfl, hr5, hc5⟩)
                  | (at_builtin; refine wpList_app _ rfl (.tmp 83) (.tmp 86) rfl _ _ acc4 (dg2 (r / 3600)) rfl rfl (HO4.out.own.chg hc5) hr5 (by have := HL4.out; simp only [dg2, List.length_cons, List.length_nil]; omega) ?_))
                intro v5 z5 g1 g2 g3
                have HO5 : Hid (OwnN w z5 v5 acc5) := by rw [HA5.out]; exact (HO4.out.after hc5).more g1 g2 g3
                obtain ⟨o5, n5, c5, rfl, -, -, -⟩ := HO5.out.rd.shape
                clear g1 g2 g3 hr5 hc5
                obtain ⟨acc6, hacc6⟩ : ∃ acc, acc = acc5 ++ dg2 (r / 60 % 60) := ⟨_, rfl⟩
                have HA6 : Hid (acc6 = acc5 ++ dg2 (r / 60 % 60)) := hacc6
                have HL6 : Hid (acc6.length = 10) := by show _ = _; rw [hacc6]; rw [List.length_append, HL5.out]; rfl
                clear hacc6
                go_wp2_with (first
                  | (go_at_call 55; refine (rtwo_any (r / 60 % 60) (by omega) (by omega) _).mono ?_; rintro e qw6 ⟨rfl, hr6, hc6⟩)
                  | (at_builtin; refine wpList_app _ rfl (.tmp 88) (.tmp 92) rfl _ _ acc5 (dg2 (r / 60 % 60)) rfl rfl (HO5.out.own.chg hc6) hr6 (by have := HL5.out; simp only [dg2, List.length_cons, List.length_nil]; omega) ?_))
                intro v6 z6 g1 g2 g3
                have HO6 : Hid (OwnN w z6 v6 acc6) := by rw [HA6.out]; exact (HO5.out.after hc6).more g1 g2 g3
                obtain ⟨o6, n6, c6, rfl, -, -, -⟩ := HO6.out.rd.shape
                clear g1 g2 g3 hr6 hc6
                obtain ⟨acc7, hacc7⟩ : ∃ acc, acc = acc6 ++ dg2 (r % 60) := ⟨_, rfl⟩
                have HA7 : Hid (acc7 = acc6 ++ dg2 (r % 60)) := hacc7
                have HL7 : Hid (acc7.length = 12) := by show _ = _; rw [hacc7]; rw [List.length_append, HL6.out]; rfl
                clear hacc7
                go_wp2_with (first
                  | (go_at_call 55; refine (rtwo_any (r % 60) (by omega) (by omega) _).mono ?_; rintro e qw7 ⟨rfl, hr7, hc7⟩)
                  | (at_builtin; refine wpList_app _ rfl (.tmp 94) (.tmp 97) rfl _ _ acc6 (dg2 (r % 60)) rfl rfl (HO6.out.own.chg hc7) hr7 (by have := HL6.out; simp only [dg2, List.length_cons, List.length_nil]; omega) ?_))
                intro v7 z7 g1 g2 g3
                have HO7 : Hid (OwnN w z7 v7 acc7) := by rw [HA7.out]; exact (HO6.out.after hc7).more g1 g2 g3
                obtain ⟨o7, n7, c7, rfl, -, -, -⟩ := HO7.out.rd.shape
                clear g1 g2 g3 hr7 hc7
                obtain ⟨acc8, hacc8⟩ : ∃ acc, acc = acc7 ++ [90] := ⟨_, rfl⟩
                have HA8 : Hid (acc8 = acc7 ++ [90]) := hacc8
                clear hacc8
                go_wp2_with (at_builtin; refine wpList_app _ rfl (.tmp 100) (.tmp 101) rfl _ _ acc7 [90] rfl rfl (HO7.out.own.chg ((Chg.refl _ _).alloc _)) (Rd.one _ _) (by have := HL7.out; simp only [List.length_cons, List.length_nil]; omega) ?_)
                intro v8 z8 g1 g2 g3
                have HO8 : Hid (OwnN w z8 v8 acc8) := by rw [HA8.out]; exact (HO7.out.after ((Chg.refl _ _).alloc _)).more g1 g2 (by simpa using g3)
                have HPT : Hid (Calls Tryd.prog 30 #[.int .u8 23, v8] z8 fun e w' => ∃ v', e = .returned v' ∧ OwnN z8 w' v' (putL 23 acc8)) := rput_any 23 (by decide) (by decide) v8 acc8 z8 HO8.out.rd
                clear g1 g2 g3
                go_wp2_with (go_at_call 30; refine HPT.out.mono ?_; rintro e z9 ⟨v9, rfl, hv9⟩)
                go_ret
                refine ⟨_, rfl, ⟨_, hv9.from HO8.out.chg, ?_⟩⟩
                have h5 := HP.out y m (D - (dby y - 719162) - cum y m + 1) HCAL.out
                rw [if_pos HIF.out] at h5
                unfold putL
                have e8 : acc8 = (textL y m (D - (dby y - 719162) - cum y m + 1) r).drop 2 := by
                  rw [HA8.out, HA7.out, HA6.out, HA5.out, HA4.out, HA3.out, HA2.out, ← HK1.out]
                  rfl
                rw [e8, if_pos ⟨by decide, by rw [List.length_drop, textL_len]; decide⟩]
                exact h5
              · have e3 : decide (y < 1950) = true ∨ (decide (y < 1950) = false ∧ decide (2049 < y) = true) := by
                  by_cases h : y < 1950
                  · exact .inl (by simpa using h)
                  · exact .inr ⟨by simpa using h, by simp; omega⟩
                have HIF : Hid (¬ (1950 ≤ y ∧ y ≤ 2049)) := hsh
                clear hsh
                rcases e3 with e1 | ⟨e1, e2⟩
                · skip
                  have HO0 : Hid (OwnN w w (.slice none 0 0) []) := OwnN.nought w
                  obtain ⟨acc1, hacc1⟩ : ∃ acc, acc = ([] : List Int) ++ dg2 (y / 100) := ⟨_, rfl⟩
                  have HA1 : Hid (acc1 = ([] : List Int) ++ dg2 (y / 100)) := hacc1
                  have HL1 : Hid (acc1.length = 2) := by show _ = _; rw [hacc1]; simp [dg2]
                  clear hacc1
                  go_wp2_with (first
                    | (go_at_call 55; refine (rtwo_any (y / 100) (by omega) (by omega) _).mono ?_; rintro e qw1 ⟨rfl, hr1, hc1⟩)
                    | (at_builtin; refine wpList_app _ rfl (.tmp 64) (.tmp 67) rfl _ _ ([] : List Int) (dg2 (y / 100)) rfl rfl (HO0.out.own.chg hc1) hr1 (by simp [dg2]) ?_))
                  intro v1 z1 g1 g2 g3
                  have HO1 : Hid (OwnN w z1 v1 acc1) := by rw [HA1.out]; exact (HO0.out.after hc1).more g1 g2 g3
                  obtain ⟨o1, n1, c1, rfl, -, -, -⟩ := HO1.out.rd.shape
                  clear g1 g2 g3 hr1 hc1
                  obtain ⟨acc2, hacc2⟩ : ∃ acc, acc = acc1 ++ dg2 (y % 100) := ⟨_, rfl⟩
                  have HA2 : Hid (acc2 = acc1 ++ dg2 (y % 100)) := hacc2
                  have HL2 : Hid (acc2.length = 4) := by show _ = _; rw [hacc2]; rw [List.length_append, HL1.out]; rfl
                  clear hacc2
                  go_wp2_with (first
                    | (go_at_call 55; refine (rtwo_any (y % 100) (by omega) (by omega) _).mono ?_; rintro e qw2 ⟨rfl, hr2, hc2⟩)
                    | (at_builtin; refine wpList_app _ rfl (.tmp 69) (.tmp 72) rfl _ _ acc1 (dg2 (y % 100)) rfl rfl (HO1.out.own.chg hc2) hr2 (by have := HL1.out; simp only [dg2, List.length_cons, List.length_nil]; omega) ?_))
                  intro v2 z2 g1 g2 g3
                  have HO2 : Hid (OwnN w z2 v2 acc2) := by rw [HA2.out]; exact (HO1.out.after hc2).more g1 g2 g3
                  obtain ⟨o2, n2, c2, rfl, -, -, -⟩ := HO2.out.rd.shape
                  clear g1 g2 g3 hr2 hc2
                  obtain ⟨acc3, hacc3⟩ : ∃ acc, acc = acc2 ++ dg2 (m) := ⟨_, rfl⟩
                  have HA3 : Hid (acc3 = acc2 ++ dg2 (m)) := hacc3
                  have HL3 : Hid (acc3.length = 6) := by show _ = _; rw [hacc3]; rw [List.length_append, HL2.out]; rfl
                  clear hacc3
                  go_wp2_with (first
                    | (go_at_call 55; refine (rtwo_any (m) (by omega) (by omega) _).mono ?_; rintro e qw3 ⟨rfl, hr3, hc3⟩)
                    | (at_builtin; refine wpList_app _ rfl (.tmp 74) (.tmp 76) rfl _ _ acc2 (dg2 (m)) rfl rfl (HO2.out.own.chg hc3) hr3 (by have := HL2.out; simp only [dg2, List.length_cons, List.length_nil]; omega) ?_))
                  intro v3 z3 g1 g2 g3
                  have HO3 : Hid (OwnN w z3 v3 acc3) := by rw [HA3.out]; exact (HO2.out.after hc3).more g1 g2 g3
                  obtain ⟨o3, n3, c3, rfl, -, -, -⟩ := HO3.out.rd.shape
                  clear g1 g2 g3 hr3 hc3
                  obtain ⟨acc4, hacc4⟩ : ∃ acc, acc = acc3 ++ dg2 (K1) := ⟨_, rfl⟩
                  have HA4 : Hid (acc4 = acc3 ++ dg2 (K1)) := hacc4
                  have HL4 : Hid (acc4.length = 8) := by show _ = _; rw [hacc4]; rw [List.length_append, HL3.out]; rfl
                  clear hacc4
                  go_wp2_with (first
                    | (go_at_call 55; refine (rtwo_any (K1) (by omega) (by omega) _).mono ?_; rintro e qw4 ⟨rfl, hr4, hc4⟩)
                    | (at_builtin; refine wpList_app _ rfl (.tmp 78) (.tmp 81) rfl _ _ acc3 (dg2 (K1)) rfl rfl (HO3.out.own.chg hc4) hr4 (by have := HL3.out; simp only [dg2, List.length_cons, List.length_nil]; omega) ?_))
                  intro v4 z4 g1 g2 g3
                  have HO4 : Hid (OwnN w z4 v4 acc4) := by rw [HA4.out]; exact (HO3.out.after hc4).more g1 g2 g3
                  obtain ⟨o4, n4, c4, rfl, -, -, -⟩ := HO4.out.rd.shape
                  clear g1 g2 g3 hr4 hc4
                  obtain ⟨acc5, hacc5⟩ : ∃ acc, acc = acc4 ++ dg2 (r / 3600) := ⟨_, rfl⟩
                  have HA5 : Hid (acc5 = acc4 ++ dg2 (r / 3600)) := hacc5
                  have HL5 : Hid (acc5.length = 10) := by show _ = _; rw [hacc5]; rw [List.length_append, HL4.out]; rfl
                  clear hacc5
                  go_wp2_with (first
                    | (go_at_call 55; refine (rtwo_any (r / 3600) (by omega) (by omega) _).mono ?_; rintro e qw5 ⟨rfl, hr5, hc5⟩)
                    | (at_builtin; refine wpList_app _ rfl (.tmp 83) (.tmp 86) rfl _ _ acc4 (dg2 (r / 3600)) rfl rfl (HO4.out.own.chg hc5) hr5 (by have := HL4.out; simp only [dg2, List.length_cons, List.length_nil]; omega) ?_))
                  intro v5 z5 g1 g2 g3
                  have HO5 : Hid (OwnN w z5 v5 acc5) := by rw [HA5.out]; exact (HO4.out.after hc5).more g1 g2 g3
                  obtain ⟨o5, n5, c5, rfl, -, -, -⟩ := HO5.out.rd.shape
                  clear g1 g2 g3 hr5 hc5
                  obtain ⟨acc6, hacc6⟩ : ∃ acc, acc = acc5 ++ dg2 (r / 60 % 60) := ⟨_, rfl⟩
                  have HA6 : Hid (acc6 = acc5 ++ dg2 (r / 60 % 60)) := hacc6
                  have HL6 : Hid (acc6.length = 12) := by show _ = _; rw [hacc6]; rw [List.length_append, HL5.out]; rfl
                  clear hacc6
                  go_wp2_with (first
                    | (go_at_call 55; refine (rtwo_any (r / 60 % 60) (by omega) (by omega) _).mono ?_; rintro e qw6 ⟨rfl, hr6, hc6⟩)
                    | (at_builtin; refine wpList_app _ rfl (.tmp 88) (.tmp 92) rfl _ _ acc5 (dg2 (r / 60 % 60)) rfl rfl (HO5.out.own.chg hc6) hr6 (by have := HL5.out; simp only [dg2, List.length_cons, List.length_nil]; omega) ?_))
                  intro v6 z6 g1 g2 g3
                  have HO6 : Hid (OwnN w z6 v6 acc6) := by rw [HA6.out]; exact (HO5.out.after hc6).more g1 g2 g3
                  obtain ⟨o6, n6, c6, rfl, -, -, -⟩ := HO6.out.rd.shape
                  clear g1 g2 g3 hr6 hc6
                  obtain ⟨acc7, hacc7⟩ : ∃ acc, acc = acc6 ++ dg2 (r % 60) := ⟨_, rfl⟩
                  have HA7 : Hid (acc7 = acc6 ++ dg2 (r % 60)) := hacc7
                  have HL7 : Hid (acc7.length = 14) := by show _ = _; rw [hacc7]; rw [List.length_append, HL6.out]; rfl
                  clear hacc7
                  go_wp2_with (first
                    | (go_at_call 55; refine (rtwo_any (r % 60) (by omega) (by omega) _).mono ?_; rintro e qw7 ⟨rfl, hr7, hc7⟩)
                    | (at_builtin; refine wpList_app _ rfl (.tmp 94) (.tmp 97) rfl _ _ acc6 (dg2 (r % 60)) rfl rfl (HO6.out.own.chg hc7) hr7 (by have := HL6.out; simp only [dg2, List.length_cons, List.length_nil]; omega) ?_))
                  intro v7 z7 g1 g2 g3
                  have HO7 : Hid (OwnN w z7 v7 acc7) := by rw [HA7.out]; exact (HO6.out.after hc7).more g1 g2 g3
                  obtain ⟨o7, n7, c7, rfl, -, -, -⟩ := HO7.out.rd.shape
                  clear g1 g2 g3 hr7 hc7
                  obtain ⟨acc8, hacc8⟩ : ∃ acc, acc = acc7 ++ [90] := ⟨_, rfl⟩
                  have HA8 : Hid (acc8 = acc7 ++ [90]) := hacc8
                  clear hacc8
                  go_wp2_with (at_builtin; refine wpList_app _ rfl (.tmp 100) (.tmp 101) rfl _ _ acc7 [90] rfl rfl (HO7.out.own.chg ((Chg.refl _ _).alloc _)) (Rd.one _ _) (by have := HL7.out; simp only [List.length_cons, List.length_nil]; omega) ?_)
                  intro v8 z8 g1 g2 g3
                  have HO8 : Hid (OwnN w z8 v8 acc8) := by rw [HA8.out]; exact (HO7.out.after ((Chg.refl _ _).alloc _)).more g1 g2 (by simpa using g3)
                  have HPT : Hid (Calls Tryd.prog 30 #[.int .u8 24, v8] z8 fun e w' => ∃ v', e = .returned v' ∧ OwnN z8 w' v' (putL 24 acc8)) := rput_any 24 (by decide) (by decide) v8 acc8 z8 HO8.out.rd
                  clear g1 g2 g3
                  go_wp2_with (go_at_call 30; refine HPT.out.mono ?_; rintro e z9 ⟨v9, rfl, hv9⟩)
                  go_ret
                  refine ⟨_, rfl, ⟨_, hv9.from HO8.out.chg, ?_⟩⟩
                  have h5 := HP.out y m (D - (dby y - 719162) - cum y m + 1) HCAL.out
                  rw [if_neg HIF.out] at h5
                  unfold putL
                  have e8 : acc8 = textL y m (D - (dby y - 719162) - cum y m + 1) r := by
                    rw [HA8.out, HA7.out, HA6.out, HA5.out, HA4.out, HA3.out, HA2.out, HA1.out, ← HK1.out]
                    rfl
                  rw [e8, if_pos ⟨by decide, by rw [textL_len]; decide⟩]
                  exact h5
                · skip
                  have HO0 : Hid (OwnN w w (.slice none 0 0) []) := OwnN.nought w
                  obtain ⟨acc1, hacc1⟩ : ∃ acc, acc = ([] : List Int) ++ dg2 (y / 100) := ⟨_, rfl⟩
                  have HA1 : Hid (acc1 = ([] : List Int) ++ dg2 (y / 100)) := hacc1
                  have HL1 : Hid (acc1.length = 2) := by show _ = _; rw [hacc1]; simp [dg2]
                  clear hacc1
                  go_wp2_with (first
                    | (go_at_call 55; refine (rtwo_any (y / 100) (by omega) (by omega) _).mono ?_; rintro e qw1 ⟨rfl, hr1, hc1⟩)
                    | (at_builtin; refine wpList_app _ rfl (.tmp 64) (.tmp 67) rfl _ _ ([] : List Int) (dg2 (y / 100)) rfl rfl (HO0.out.own.chg hc1) hr1 (by simp [dg2]) ?_))
                  intro v1 z1 g1 g2 g3
                  have HO1 : Hid (OwnN w z1 v1 acc1) := by rw [HA1.out]; exact (HO0.out.after hc1).more g1 g2 g3
                  obtain ⟨o1, n1, c1, rfl, -, -, -⟩ := HO1.out.rd.shape
                  clear g1 g2 g3 hr1 hc1
                  obtain ⟨acc2, hacc2⟩ : ∃ acc, acc = acc1 ++ dg2 (y % 100) := ⟨_, rfl⟩
                  have HA2 : Hid (acc2 = acc1 ++ dg2 (y % 100)) := hacc2
                  have HL2 : Hid (acc2.length = 4) := by show _ = _; rw [hacc2]; rw [List.length_append, HL1.out]; rfl
                  clear hacc2
                  go_wp2_with (first
                    | (go_at_call 55; refine (rtwo_any (y % 100) (by omega) (by omega) _).mono ?_; rintro e qw2 ⟨rfl, hr2, hc2⟩)
                    | (at_builtin; refine wpList_app _ rfl (.tmp 69) (.tmp 72) rfl _ _ acc1 (dg2 (y % 100)) rfl rfl (HO1.out.own.chg hc2) hr2 (by have := HL1.out; simp only [dg2, List.length_cons, List.length_nil]; omega) ?_))
                  intro v2 z2 g1 g2 g3
                  have HO2 : Hid (OwnN w z2 v2 acc2) := by rw [HA2.out]; exact (HO1.out.after hc2).more g1 g2 g3
                  obtain ⟨o2, n2, c2, rfl, -, -, -⟩ := HO2.out.rd.shape
                  clear g1 g2 g3 hr2 hc2
                  obtain ⟨acc3, hacc3⟩ : ∃ acc, acc = acc2 ++ dg2 (m) := ⟨_, rfl⟩
                  have HA3 : Hid (acc3 = acc2 ++ dg2 (m)) := hacc3
                  have HL3 : Hid (acc3.length = 6) := by show _ = _; rw [hacc3]; rw [List.length_append, HL2.out]; rfl
                  clear hacc3
                  go_wp2_with (first
                    | (go_at_call 55; refine (rtwo_any (m) (by omega) (by omega) _).mono ?_; rintro e qw3 ⟨rfl, hr3, hc3⟩)
                    | (at_builtin; refine wpList_app _ rfl (.tmp 74) (.tmp 76) rfl _ _ acc2 (dg2 (m)) rfl rfl (HO2.out.own.chg hc3) hr3 (by have := HL2.out; simp only [dg2, List.length_cons, List.length_nil]; omega) ?_))
                  intro v3 z3 g1 g2 g3
                  have HO3 : Hid (OwnN w z3 v3 acc3) := by rw [HA3.out]; exact (HO2.out.after hc3).more g1 g2 g3
                  obtain ⟨o3, n3, c3, rfl, -, -, -⟩ := HO3.out.rd.shape
                  clear g1 g2 g3 hr3 hc3
                  obtain ⟨acc4, hacc4⟩ : ∃ acc, acc = acc3 ++ dg2 (K1) := ⟨_, rfl⟩
                  have HA4 : Hid (acc4 = acc3 ++ dg2 (K1)) := hacc4
                  have HL4 : Hid (acc4.length = 8) := by show _ = _; rw [hacc4]; rw [List.length_append, HL3.out]; rfl
                  clear hacc4
                  go_wp2_with (first
                    | (go_at_call 55; refine (rtwo_any (K1) (by omega) (by omega) _).mono ?_; rintro e qw4 ⟨rfl, hr4, hc4⟩)
                    | (at_builtin; refine wpList_app _ rfl (.tmp 78) (.tmp 81) rfl _ _ acc3 (dg2 (K1)) rfl rfl (HO3.out.own.chg hc4) hr4 (by have := HL3.out; simp only [dg2, List.length_cons, List.length_nil]; omega) ?_))
                  intro v4 z4 g1 g2 g3
                  have HO4 : Hid (OwnN w z4 v4 acc4) := by rw [HA4.out]; exact (HO3.out.after hc4).more g1 g2 g3
                  obtain ⟨o4, n4, c4, rfl, -, -, -⟩ := HO4.out.rd.shape
                  clear g1 g2 g3 hr4 hc4
                  obtain ⟨acc5, hacc5⟩ : ∃ acc, acc = acc4 ++ dg2 (r / 3600) := ⟨_, rfl⟩
                  have HA5 : Hid (acc5 = acc4 ++ dg2 (r / 3600)) := hacc5
                  have HL5 : Hid (acc5.length = 10) := by show _ = _; rw [hacc5]; rw [List.length_append, HL4.out]; rfl
                  clear hacc5
                  go_wp2_with (first
                    | (go_at_call 55; refine (rtwo_any (r / 3600) (by omega) (by omega) _).mono ?_; rintro e qw5 ⟨rfl, hr5, hc5⟩)
                    | (at_builtin; refine wpList_app _ rfl (.tmp 83) (.tmp 86) rfl _ _ acc4 (dg2 (r / 3600)) rfl rfl (HO4.out.own.chg hc5) hr5 (by have := HL4.out; simp only [dg2, List.length_cons, List.length_nil]; omega) ?_))
                  intro v5 z5 g1 g2 g3
                  have HO5 : Hid (OwnN w z5 v5 acc5) := by rw [HA5.out]; exact (HO4.out.after hc5).more g1 g2 g3
                  obtain ⟨o5, n5, c5, rfl, -, -, -⟩ := HO5.out.rd.shape
                  clear g1 g2 g3 hr5 hc5
                  obtain ⟨acc6, hacc6⟩ : ∃ acc, acc = acc5 ++ dg2 (r / 60 % 60) := ⟨_, rfl⟩
                  have HA6 : Hid (acc6 = acc5 ++ dg2 (r / 60 % 60)) := hacc6
                  have HL6 : Hid (acc6.length = 12) := by show _ = _; rw [hacc6]; rw [List.length_append, HL5.out]; rfl
                  clear hacc6
                  go_wp2_with (first
                    | (go_at_call 55; refine (rtwo_any (r / 60 % 60) (by omega) (by omega) _).mono ?_; rintro e qw6 ⟨rfl, hr6, hc6⟩)
                    | (at_builtin; refine wpList_app _ rfl (.tmp 88) (.tmp 92) rfl _ _ acc5 (dg2 (r / 60 % 60)) rfl rfl (HO5.out.own.chg hc6) hr6 (by have := HL5.out; simp only [dg2, List.length_cons, List.length_nil]; omega) ?_))
                  intro v6 z6 g1 g2 g3
                  have HO6 : Hid (OwnN w z6 v6 acc6) := by rw [HA6.out]; exact (HO5.out.after hc6).more g1 g2 g3
                  obtain ⟨o6, n6, c6, rfl, -, -, -⟩ := HO6.out.rd.shape
                  clear g1 g2 g3 hr6 hc6
                  obtain ⟨acc7, hacc7⟩ : ∃ acc, acc = acc6 ++ dg2 (r % 60) := ⟨_, rfl⟩
                  have HA7 : Hid (acc7 = acc6 ++ dg2 (r % 60)) := hacc7
                  have HL7 : Hid (acc7.length = 14) := by show _ = _; rw [hacc7]; rw [List.length_append, HL6.out]; rfl
                  clear hacc7
                  go_wp2_with (first
                    | (go_at_call 55; refine (rtwo_any (r % 60) (by omega) (by omega) _).mono ?_; rintro e qw7 ⟨rfl, hr7, hc7⟩)
                    | (at_builtin; refine wpList_app _ rfl (.tmp 94) (.tmp 97) rfl _ _ acc6 (dg2 (r % 60)) rfl rfl (HO6.out.own.chg hc7) hr7 (by have := HL6.out; simp only [dg2, List.length_cons, List.length_nil]; omega) ?_))
                  intro v7 z7 g1 g2 g3
                  have HO7 : Hid (OwnN w z7 v7 acc7) := by rw [HA7.out]; exact (HO6.out.after hc7).more g1 g2 g3
                  obtain ⟨o7, n7, c7, rfl, -, -, -⟩ := HO7.out.rd.shape
                  clear g1 g2 g3 hr7 hc7
                  obtain ⟨acc8, hacc8⟩ : ∃ acc, acc = acc7 ++ [90] := ⟨_, rfl⟩
                  have HA8 : Hid (acc8 = acc7 ++ [90]) := hacc8
                  clear hacc8
                  go_wp2_with (at_builtin; refine wpList_app _ rfl (.tmp 100) (.tmp 101) rfl _ _ acc7 [90] rfl rfl (HO7.out.own.chg ((Chg.refl _ _).alloc _)) (Rd.one _ _) (by have := HL7.out; simp only [List.length_cons, List.length_nil]; omega) ?_)
                  intro v8 z8 g1 g2 g3
                  have HO8 : Hid (OwnN w z8 v8 acc8) := by rw [HA8.out]; exact (HO7.out.after ((Chg.refl _ _).alloc _)).more g1 g2 (by simpa using g3)
                  have HPT : Hid (Calls Tryd.prog 30 #[.int .u8 24, v8] z8 fun e w' => ∃ v', e = .returned v' ∧ OwnN z8 w' v' (putL 24 acc8)) := rput_any 24 (by decide) (by decide) v8 acc8 z8 HO8.out.rd
                  clear g1 g2 g3
                  go_wp2_with (go_at_call 30; refine HPT.out.mono ?_; rintro e z9 ⟨v9, rfl, hv9⟩)
                  go_ret
                  refine ⟨_, rfl, ⟨_, hv9.from HO8.out.chg, ?_⟩⟩
                  have h5 := HP.out y m (D - (dby y - 719162) - cum y m + 1) HCAL.out
                  rw [if_neg HIF.out] at h5
                  unfold putL
                  have e8 : acc8 = textL y m (D - (dby y - 719162) - cum y m + 1) r := by
                    rw [HA8.out, HA7.out, HA6.out, HA5.out, HA4.out, HA3.out, HA2.out, HA1.out, ← HK1.out]
                    rfl
                  rw [e8, if_pos ⟨by decide, by rw [textL_len]; decide⟩]
                  exact h5

set_option maxHeartbeats 16000000 in
theorem rputTime_b (t D r G : Int) (w : World) (h0 : -62135596800 ≤ t) (h1 : t ≤ 253402300799) (hD : D = (t + 62135596800) / 86400 - 719162) (hr : r = (t + 62135596800) % 86400) (ht : t < 0) (q1 : t.tdiv 86400 = D) (q2 : t.tmod 86400 = r)
    (q3 : D.tdiv 366 = G) (hG : -1964 ≤ G ∧ G ≤ 8013) :
    Calls Tryd.prog 29 #[.int .i64 t] w fun e w' => ∃ v', e = .returned v' ∧ TmP w w' v' t := by
  have d0 : decide (t < -62135596800) = false := by simp; omega
  have d9 : decide (253402300799 < t) = false := by simp; omega
  have hD0 : -719162 ≤ D := by omega
  have hD1 : D ≤ 2932896 := by omega
  have hr0 : 0 ≤ r := by omega
  have hr1 : r < 86400 := by omega
  obtain ⟨hG0, hG1⟩ := hG
  have HP : Hid (∀ y m d, Cal (D + 719162) y m d → PutT t (if 1950 ≤ y ∧ y ≤ 2049 then encL 23 ((textL y m d r).drop 2) else encL 24 (textL y m d r))) := by
    intro y m d hc
    show (if _ then _ else _)
    rw [if_neg (by omega)]
    exact ⟨y, m, d, by rw [show (t + 62135596800) / 86400 = D + 719162 by omega]; exact hc, by rw [hr]⟩
  clear hD hr
  go_enter Tryd.func29, Tryd.ntmps29
  go_wp2
  go_loop [5] (fun x => ∃ y : Int, 1 ≤ y ∧ y ≤ 9999 ∧ x = .int .i64 y) (fun x => (9999 - intOf x).toNat)
  case atStart => exact ⟨_, by omega, by omega, rfl⟩
  case round =>
    obtain ⟨y, hy1, hy2, rfl⟩ := hrel
    obtain ⟨D1, hD1⟩ : ∃ D1, D1 = dby (y + 1) - 719162 := ⟨_, rfl⟩
    have hDb := dby_bd (y + 1) (by omega) (by omega)
    have HC : Hid (∀ u, Calls Tryd.prog 51 #[.int .i64 (y + 1)] u fun e w' => e = .returned (.int .i64 D1) ∧ w' = u) := fun u => by rw [hD1]; exact days_any (y + 1) (by omega) (by omega) u
    have HD1 : Hid (D1 = dby (y + 1) - 719162) := hD1
    have hD1b : -719162 ≤ D1 ∧ D1 ≤ 2932897 := by omega
    obtain ⟨hD1b1, hD1b2⟩ := hD1b
    clear hD1 hDb
    by_cases hc : D1 ≤ D
    · have hy9 : y < 9999 := by
        have h9 := HD1.out
        by_cases e : y = 9999
        · subst e
          have : dby (9999 + 1) = 3652059 := by decide
          omega
        · omega
      have d1 : decide (D1 ≤ D) = true := by simpa using hc
      clear hc
      go_wp2_with (go_at_call 51; refine (HC.out _).mono ?_; rintro e w9 ⟨rfl, hw9⟩; obtain rfl := hw9.symm)
      go_round
      case rel => exact ⟨y + 1, by omega, by omega, rfl⟩
      case measure => simp [intOf]; omega
    · have d1 : decide (D1 ≤ D) = false := by simpa using hc
      have HY0 : Hid (D < dby (y + 1) - 719162) := by show _ < _; rw [← HD1.out]; omega
      clear hc
      go_wp2_with (go_at_call 51; refine (HC.out _).mono ?_; rintro e w9 ⟨rfl, hw9⟩; obtain rfl := hw9.symm)
      clear HC
      obtain ⟨ys, hys⟩ : ∃ ys, ys = y := ⟨_, rfl⟩
      go_loop [5] (fun x => ∃ y : Int, 1 ≤ y ∧ y ≤ 9999 ∧ x = .int .i64 y ∧ Hid (D < dby (y + 1) - 719162)) (fun x => (intOf x).toNat)
      case atStart => exact ⟨_, hy1, hy2, rfl, HY0⟩
      case round =>
        clear hys HY0 HD1 d1 hD1b1 hD1b2 hy1 hy2
        obtain ⟨y, hy1, hy2, rfl, HY0⟩ := hrel
        obtain ⟨D2, hD2⟩ : ∃ D2, D2 = dby y - 719162 := ⟨_, rfl⟩
        have hDb := dby_bd y (by omega) (by omega)
        have HC : Hid (∀ u, Calls Tryd.prog 51 #[.int .i64 y] u fun e w' => e = .returned (.int .i64 D2) ∧ w' = u) := fun u => by rw [hD2]; exact days_any y (by omega) (by omega) u
        have HD2 : Hid (D2 = dby y - 719162) := hD2
        have hD2b : -719162 ≤ D2 ∧ D2 ≤ 2932897 := by omega
        obtain ⟨hD2b1, hD2b2⟩ := hD2b
        clear hD2 hDb
        by_cases hc : D < D2
        · have hy9 : 1 < y := by
            have h9 := HD2.out
            by_cases e : y = 1
            · subst e
              have : dby 1 = 0 := by decide
              omega
            · omega
          have d2 : decide (D < D2) = true := by simpa using hc
          have HY1 : Hid (D < dby (y - 1 + 1) - 719162) := by
            show _ < _
            rw [show y - 1 + 1 = y by omega, ← HD2.out]
            exact hc
          clear hc
          go_wp2_with (go_at_call 51; refine (HC.out _).mono ?_; rintro e w9 ⟨rfl, hw9⟩; obtain rfl := hw9.symm)
          go_round
          case rel => exact ⟨y - 1, by omega, by omega, rfl, HY1⟩
          case measure => simp [intOf]; omega
        · have d2 : decide (D < D2) = false := by simpa using hc
          have hs := dby_succ y hy1
          have hlp := lpI_01 y
          have HX : Hid (D - D2 < 365 + lpI y) := by show _ < _; have := HD2.out; have := HY0.out; omega
          have hX2 : D - D2 < 366 := by have := HX.out; omega
          have hX3 : 0 ≤ D - D2 := by omega
          clear hs hlp hc
          go_wp2_with (go_at_call 51; refine (HC.out _).mono ?_; rintro e w9 ⟨rfl, hw9⟩; obtain rfl := hw9.symm)
          go_loop [3, 6] (fun x k => ∃ m c : Int, 1 ≤ m ∧ m ≤ 12 ∧ k = .int .i64 m ∧ Hid (c = cum y m) ∧ 0 ≤ c ∧ c ≤ D - D2 ∧ x = .int .i64 (D - D2 - c)) (fun _ k => (12 - intOf k).toNat)
          case atStart => exact ⟨1, 0, by omega, by omega, rfl, (rfl : (0 : Int) = cum y 1), by omega, by omega, by simp⟩
          case round =>
            obtain ⟨m, c, hm1, hm2, rfl, hcum, hc0, hc1, rfl⟩ := hrel
            obtain ⟨K, hK⟩ : ∃ K, K = dimI y m := ⟨_, rfl⟩
            have hKb := dim_bd y m
            have HC3 : Hid (∀ u, Calls Tryd.prog 50 #[.int .i64 y, .int .i64 m] u fun e w' => e = .returned (.int .i64 K) ∧ w' = u) := fun u => by rw [hK]; exact month_any y m (by omega) u
            have HK : Hid (K = dimI y m) := hK
            have hcs := cum_succ y m hm1 hm2
            have HCS : Hid (cum y (m + 1) = c + K) := by show _ = _; rw [hcs, ← hcum.out, HK.out]
            rw [← hK] at hKb
            clear hK hcs
            by_cases hd : K ≤ D - D2 - c
            · have hm12 : m < 12 := by
                by_cases e : m = 12
                · subst e
                  have h5 := HCS.out
                  have h6 := HX.out
                  have h7 : cum y (12 + 1) = 365 + lpI y := cum_13 y
                  omega
                · omega
              have d3 : decide (K ≤ D - D2 - c) = true := by simpa using hd
              obtain ⟨c', hc'⟩ : ∃ c', c' = c + K := ⟨_, rfl⟩
              have HC' : Hid (c' = cum y (m + 1)) := by show _ = _; rw [HCS.out, hc']
              have HE : Hid (D - D2 - c - K = D - D2 - c') := by show _ = _; omega
              have hc'0 : 0 ≤ c' := by omega
              have hc'1 : c' ≤ D - D2 := by omega
              clear hc'
              go_wp2_with (go_at_call 50; refine (HC3.out _).mono ?_; rintro e w9 ⟨rfl, hw9⟩; obtain rfl := hw9.symm)
              go_round
              case rel => exact ⟨m + 1, c', by omega, by omega, rfl, HC', hc'0, hc'1, by rw [HE.out]⟩
              case measure => simp [intOf]; omega
            · have d3 : decide (K ≤ D - D2 - c) = false := by simpa using hd
              obtain ⟨K1, hK1⟩ : ∃ K1, K1 = D - D2 - c + 1 := ⟨_, rfl⟩
              have HK1 : Hid (K1 = D - (dby y - 719162) - cum y m + 1) := by show _ = _; rw [hK1, HD2.out, hcum.out]
              have HCAL : Hid (Cal (D + 719162) y m (D - (dby y - 719162) - cum y m + 1)) := by
                refine ⟨hy1, hy2, hm1, hm2, ?_, ?_, by omega⟩
                · rw [← HK1.out, hK1]; omega
                · rw [← HK1.out, hK1, ← HK.out]; omega
              have hK10 : 1 ≤ K1 := by omega
              have hK11 : K1 ≤ 31 := by omega
              have qK : D - D2 - c + 1 = K1 := hK1.symm
              clear hd hK1
              go_upto_region 20 with (go_at_call 50; refine (HC3.out _).mono ?_; rintro e w9 ⟨rfl, hw9⟩; obtain rfl := hw9.symm)
              by_cases hsh : 1950 ≤ y ∧ y ≤ 2049
              · have e1 : decide (y < 1950) = false := by simp; omega
                have e2 : decide (2049 < y) = false := by simp; omega
                have HIF : Hid (1950 ≤ y ∧ y ≤ 2049) := hsh
                clear hsh
                have HO1 : Hid (OwnN w w (.slice none 0 0) []) := OwnN.nought w
                obtain ⟨acc2, hacc2⟩ : ∃ acc, acc = ([] : List Int) ++ dg2 (y % 100) := ⟨_, rfl⟩
                have HA2 : Hid (acc2 = ([] : List Int) ++ dg2 (y % 100)) := hacc2
                have HL2 : Hid (acc2.length = 2) := by show _ = _; rw [hacc2]; simp [dg2]
                clear hacc2
                go_wp2_with (first
                  | (go_at_call 55; refine (rtwo_any (y % 100) (by omega) (by omega) _).mono ?_; rintro e qw2 ⟨rfl, hr2, hc2⟩)
                  | (at_builtin; refine wpList_app _ rfl (.tmp 69) (.tmp 72) rfl _ _ ([] : List Int) (dg2 (y % 100)) rfl rfl (HO1.out.own.chg hc2) hr2 (by simp [dg2]) ?_))
                intro v2 z2 g1 g2 g3
                have HO2 : Hid (OwnN w z2 v2 acc2) := by rw [HA2.out]; exact (HO1.out.after hc2).more g1 g2 g3
                obtain ⟨o2, n2, c2, rfl, -, -, -⟩ := HO2.out.rd.shape
                clear g1 g2 g3 hr2 hc2
                obtain ⟨acc3, hacc3⟩ : ∃ acc, acc = acc2 ++ dg2 (m) := ⟨_, rfl⟩
                have HA3 : Hid (acc3 = acc2 ++ dg2 (m)) := hacc3
                have HL3 : Hid (acc3.length = 4) := by show _ = _; rw [hacc3]; rw [List.length_append, HL2.out]; rfl
                clear hacc3
                go_wp2_with (first
                  | (go_at_call 55; refine (rtwo_any (m) (by omega) (by omega) _).mono ?_; rintro e qw3 ⟨rfl, hr3, hc3⟩)
                  | (at_builtin; refine wpList_app _ rfl (.tmp 74) (.tmp 76) rfl _ _ acc2 (dg2 (m)) rfl rfl (HO2.out.own.chg hc3) hr3 (by have := HL2.out; simp only [dg2, List.length_cons, List.length_nil]; omega) ?_))
                intro v3 z3 g1 g2 g3
                have HO3 : Hid (OwnN w z3 v3 acc3) := by rw [HA3.out]; exact (HO2.out.after hc3).more g1 g2 g3
                obtain ⟨o3, n3, c3, rfl, -, -, -⟩ := HO3.out.rd.shape
                clear g1 g2 g3 hr3 hc3
                obtain ⟨acc4, hacc4⟩ : ∃ acc, acc = acc3 ++ dg2 (K1) := ⟨_, rfl⟩
                have HA4 : Hid (acc4 = acc3 ++ dg2 (K1)) := hacc4
                have HL4 : Hid (acc4.length = 6) := by show _ = _; rw [hacc4]; rw [List.length_append, HL3.out]; rfl
                clear hacc4
                go_wp2_with (first
                  | (go_at_call 55; refine (rtwo_any (K1) (by omega) (by omega) _).mono ?_; rintro e qw4 ⟨rfl, hr4, hc4⟩)
                  | (at_builtin; refine wpList_app _ rfl (.tmp 78) (.tmp 81) rfl _ _ acc3 (dg2 (K1)) rfl rfl (HO3.out.own.chg hc4) hr4 (by have := HL3.out; simp only [dg2, List.length_cons, List.length_nil]; omega) ?_))
                intro v4 z4 g1 g2 g3
                have HO4 : Hid (OwnN w z4 v4 acc4) := by rw [HA4.out]; exact (HO3.out.after hc4).more g1 g2 g3
                obtain ⟨o4, n4, c4, rfl, -, -, -⟩ := HO4.out.rd.shape
                clear g1 g2 g3 hr4 hc4
                obtain ⟨acc5, hacc5⟩ : ∃ acc, acc = acc4 ++ dg2 (r / 3600) := ⟨_, rfl⟩
                have HA5 : Hid (acc5 = acc4 ++ dg2 (r / 3600)) := hacc5
                have HL5 : Hid (acc5.length = 8) := by show _ = _; rw [hacc5]; rw [List.length_append, HL4.out]; rfl
                clear hacc5
                go_wp2_with (first
                  | (go_at_call 55; refine (rtwo_any (r / 3600) (by omega) (by omega) _).mono ?_; rintro e qw5 ⟨rfl, hr5, hc5⟩)
                  | (at_builtin; refine wpList_app _ rfl (.tmp 83) (.tmp 86) rfl _ _ acc4 (dg2 (r / 3600)) rfl rfl (HO4.out.own.chg hc5) hr5 (by have := HL4.out; simp only [dg2, List.length_cons, List.length_nil]; omega) ?_))
                intro v5 z5 g1 g2 g3
                have HO5 : Hid (OwnN w z5 v5 acc5) := by rw [HA5.out]; exact (HO4.out.after hc5).more g1 g2 g3
                obtain ⟨o5, n5, c5, rfl, -, -, -⟩ := HO5.out.rd.shape
                clear g1 g2 g3 hr5 hc5
                obtain ⟨acc6, hacc6⟩ : ∃ acc, acc = acc5 ++ dg2 (r / 60 % 60) := ⟨_, rfl⟩
                have HA6 : Hid (acc6 = acc5 ++ dg2 (r / 60 % 60)) := hacc6
                have HL6 : Hid (acc6.length = 10) := by show _ = _; rw [hacc6]; rw [List.length_append, HL5.out]; rfl
                clear hacc6
                go_wp2_with (first
                  | (go_at_call 55; refine (rtwo_any (r / 60 % 60) (by omega) (by omega) _).mono ?_; rintro e qw6 ⟨rfl, hr6, hc6⟩)
                  | (at_builtin; refine wpList_app _ rfl (.tmp 88) (.tmp 92) rfl _ _ acc5 (dg2 (r / 60 % 60)) rfl rfl (HO5.out.own.chg hc6) hr6 (by have := HL5.out; simp only [dg2, List.length_cons, List.length_nil]; omega) ?_))
                intro v6 z6 g1 g2 g3
                have HO6 : Hid (OwnN w z6 v6 acc6) := by rw [HA6.out]; exact (HO5.out.after hc6).more g1 g2 g3
                obtain ⟨o6, n6, c6, rfl, -, -, -⟩ := HO6.out.rd.shape
                clear g1 g2 g3 hr6 hc6
                obtain ⟨acc7, hacc7⟩ : ∃ acc, acc = acc6 ++ dg2 (r % 60) := ⟨_, rfl⟩
                have HA7 : Hid (acc7 = acc6 ++ dg2 (r % 60)) := hacc7
                have HL7 : Hid (acc7.length = 12) := by show _ = _; rw [hacc7]; rw [List.length_append, HL6.out]; rfl
                clear hacc7
                go_wp2_with (first
                  | (go_at_call 55; refine (rtwo_any (r % 60) (by omega) (by omega) _).mono ?_; rintro e qw7 ⟨rfl, hr7, hc7⟩)
                  | (at_builtin; refine wpList_app _ rfl (.tmp 94) (.tmp 97) rfl _ _ acc6 (dg2 (r % 60)) rfl rfl (HO6.out.own.chg hc7) hr7 (by have := HL6.out; simp only [dg2, List.length_cons, List.length_nil]; omega) ?_))
                intro v7 z7 g1 g2 g3
                have HO7 : Hid (OwnN w z7 v7 acc7) := by rw [HA7.out]; exact (HO6.out.after hc7).more g1 g2 g3
                obtain ⟨o7, n7, c7, rfl, -, -, -⟩ := HO7.out.rd.shape
                clear g1 g2 g3 hr7 hc7
                obtain ⟨acc8, hacc8⟩ : ∃ acc, acc = acc7 ++ [90] := ⟨_, rfl⟩
                have HA8 : Hid (acc8 = acc7 ++ [90]) := hacc8
                clear hacc8
                go_wp2_with (at_builtin; refine wpList_app _ rfl (.tmp 100) (.tmp 101) rfl _ _ acc7 [90] rfl rfl (HO7.out.own.chg ((Chg.refl _ _).alloc _)) (Rd.one _ _) (by have := HL7.out; simp only [List.length_cons, List.length_nil]; omega) ?_)
                intro v8 z8 g1 g2 g3
                have HO8 : Hid (OwnN w z8 v8 acc8) := by rw [HA8.out]; exact (HO7.out.after ((Chg.refl _ _).alloc _)).more g1 g2 (by simpa using g3)
                have HPT : Hid (Calls Tryd.prog 30 #[.int .u8 23, v8] z8 fun e w' => ∃ v', e = .returned v' ∧ OwnN z8 w' v' (putL 23 acc8)) := rput_any 23 (by decide) (by decide) v8 acc8 z8 HO8.out.rd
                clear g1 g2 g3
                go_wp2_with (go_at_call 30; refine HPT.out.mono ?_; rintro e z9 ⟨v9, rfl, hv9⟩)
                go_ret
                refine ⟨_, rfl, ⟨_, hv9.from HO8.out.chg, ?_⟩⟩
                have h5 := HP.out y m (D - (dby y - 719162) - cum y m + 1) HCAL.out
                rw [if_pos HIF.out] at h5
                unfold putL
                have e8 : acc8 = (textL y m (D - (dby y - 719162) - cum y m + 1) r).drop 2 := by
                  rw [HA8.out, HA7.out, HA6.out, HA5.out, HA4.out, HA3.out, HA2.out, ← HK1.out]
                  rfl
                rw [e8, if_pos ⟨by decide, by rw [List.length_drop, textL_len]; decide⟩]
                exact h5
              · have e3 : decide (y < 1950) = true ∨ (decide (y < 1950) = false ∧ decide (2049 < y) = true) := by
                  by_cases h : y < 1950
                  · exact .inl (by simpa using h)
                  · exact .inr ⟨by simpa using h, by simp; omega⟩
                have HIF : Hid (¬ (1950 ≤ y ∧ y ≤ 2049)) := hsh
                clear hsh
                rcases e3 with e1 | ⟨e1, e2⟩
                · skip
                  have HO0 : Hid (OwnN w w (.slice none 0 0) []) := OwnN.nought w
                  obtain ⟨acc1, hacc1⟩ : ∃ acc, acc = ([] : List Int) ++ dg2 (y / 100) := ⟨_, rfl⟩
                  have HA1 : Hid (acc1 = ([] : List Int) ++ dg2 (y / 100)) := hacc1
                  have HL1 : Hid (acc1.length = 2) := by show _ = _; rw [hacc1]; simp [dg2]
                  clear hacc1
                  go_wp2_with (first
                    | (go_at_call 55; refine (rtwo_any (y / 100) (by omega) (by omega) _).mono ?_; rintro e qw1 ⟨rfl, hr1, hc1⟩)
                    | (at_builtin; refine wpList_app _ rfl (.tmp 64) (.tmp 67) rfl _ _ ([] : List Int) (dg2 (y / 100)) rfl rfl (HO0.out.own.chg hc1) hr1 (by simp [dg2]) ?_))
                  intro v1 z1 g1 g2 g3
                  have HO1 : Hid (OwnN w z1 v1 acc1) := by rw [HA1.out]; exact (HO0.out.after hc1).more g1 g2 g3
                  obtain ⟨o1, n1, c1, rfl, -, -, -⟩ := HO1.out.rd.shape
                  clear g1 g2 g3 hr1 hc1
                  obtain ⟨acc2, hacc2⟩ : ∃ acc, acc = acc1 ++ dg2 (y % 100) := ⟨_, rfl⟩
                  have HA2 : Hid (acc2 = acc1 ++ dg2 (y % 100)) := hacc2
                  have HL2 : Hid (acc2.length = 4) := by show _ = _; rw [hacc2]; rw [List.length_append, HL1.out]; rfl
                  clear hacc2
                  go_wp2_with (first
                    | (go_at_call 55; refine (rtwo_any (y % 100) (by omega) (by omega) _).mono ?_; rintro e qw2 ⟨rfl, hr2, hc2⟩)
                    | (at_builtin; refine wpList_app _ rfl (.tmp 69) (.tmp 72) rfl _ _ acc1 (dg2 (y % 100)) rfl rfl (HO1.out.own.chg hc2) hr2 (by have := HL1.out; simp only [dg2, List.length_cons, List.length_nil]; omega) ?_))
                  intro v2 z2 g1 g2 g3
                  have HO2 : Hid (OwnN w z2 v2 acc2) := by rw [HA2.out]; exact (HO1.out.after hc2).more g1 g2 g3
                  obtain ⟨o2, n2, c2, rfl, -, -, -⟩ := HO2.out.rd.shape
                  clear g1 g2 g3 hr2 hc2
                  obtain ⟨acc3, hacc3⟩ : ∃ acc, acc = acc2 ++ dg2 (m) := ⟨_, rfl⟩
                  have HA3 : Hid (acc3 = acc2 ++ dg2 (m)) := hacc3
                  have HL3 : Hid (acc3.length = 6) := by show _ = _; rw [hacc3]; rw [List.length_append, HL2.out]; rfl
                  clear hacc3
                  go_wp2_with (first
                    | (go_at_call 55; refine (rtwo_any (m) (by omega) (by omega) _).mono ?_; rintro e qw3 ⟨rfl, hr3, hc3⟩)
                    | (at_builtin; refine wpList_app _ rfl (.tmp 74) (.tmp 76) rfl _ _ acc2 (dg2 (m)) rfl rfl (HO2.out.own.chg hc3) hr3 (by have := HL2.out; simp only [dg2, List.length_cons, List.length_nil]; omega) ?_))
                  intro v3 z3 g1 g2 g3
                  have HO3 : Hid (OwnN w z3 v3 acc3) := by rw [HA3.out]; exact (HO2.out.after hc3).more g1 g2 g3
                  obtain ⟨o3, n3, c3, rfl, -, -, -⟩ := HO3.out.rd.shape
                  clear g1 g2 g3 hr3 hc3
                  obtain ⟨acc4, hacc4⟩ : ∃ acc, acc = acc3 ++ dg2 (K1) := ⟨_, rfl⟩
                  have HA4 : Hid (acc4 = acc3 ++ dg2 (K1)) := hacc4
                  have HL4 : Hid (acc4.length = 8) := by show _ = _; rw [hacc4]; rw [List.length_append, HL3.out]; rfl
                  clear hacc4
                  go_wp2_with (first
                    | (go_at_call 55; refine (rtwo_any (K1) (by omega) (by omega) _).mono ?_; rintro e qw4 ⟨rfl, hr4, hc4⟩)
                    | (at_builtin; refine wpList_app _ rfl (.tmp 78) (.tmp 81) rfl _ _ acc3 (dg2 (K1)) rfl rfl (HO3.out.own.chg hc4) hr4 (by have := HL3.out; simp only [dg2, List.length_cons, List.length_nil]; omega) ?_))
                  intro v4 z4 g1 g2 g3
                  have HO4 : Hid (OwnN w z4 v4 acc4) := by rw [HA4.out]; exact (HO3.out.after hc4).more g1 g2 g3
                  obtain ⟨o4, n4, c4, rfl, -, -, -⟩ := HO4.out.rd.shape
                  clear g1 g2 g3 hr4 hc4
                  obtain ⟨acc5, hacc5⟩ : ∃ acc, acc = acc4 ++ dg2 (r / 3600) := ⟨_, rfl⟩
                  have HA5 : Hid (acc5 = acc4 ++ dg2 (r / 3600)) := hacc5
                  have HL5 : Hid (acc5.length = 10) := by show _ = _; rw [hacc5]; rw [List.length_append, HL4.out]; rfl
                  clear hacc5
                  go_wp2_with (first
                    | (go_at_call 55; refine (rtwo_any (r / 3600) (by omega) (by omega) _).mono ?_; rintro e qw5 ⟨rfl, hr5, hc5⟩)
                    | (at_builtin; refine wpList_app _ rfl (.tmp 83) (.tmp 86) rfl _ _ acc4 (dg2 (r / 3600)) rfl rfl (HO4.out.own.chg hc5) hr5 (by have := HL4.out; simp only [dg2, List.length_cons, List.length_nil]; omega) ?_))
                  intro v5 z5 g1 g2 g3
                  have HO5 : Hid (OwnN w z5 v5 acc5) := by rw [HA5.out]; exact (HO4.out.after hc5).more g1 g2 g3
                  obtain ⟨o5, n5, c5, rfl, -, -, -⟩ := HO5.out.rd.shape
                  clear g1 g2 g3 hr5 hc5
                  obtain ⟨acc6, hacc6⟩ : ∃ acc, acc = acc5 ++ dg2 (r / 60 % 60) := ⟨_, rfl⟩
                  have HA6 : Hid (acc6 = acc5 ++ dg2 (r / 60 % 60)) := hacc6
                  have HL6 : Hid (acc6.length = 12) := by show _ = _; rw [hacc6]; rw [List.length_append, HL5.out]; rfl
                  clear hacc6
                  go_wp2_with (first
                    | (go_at_call 55; refine (rtwo_any (r / 60 % 60) (by omega) (by omega) _).mono ?_; rintro e qw6 ⟨rfl, hr6, hc6⟩)
                    | (at_builtin; refine wpList_app _ rfl (.tmp 88) (.tmp 92) rfl _ _ acc5 (dg2 (r / 60 % 60)) rfl rfl (HO5.out.own.chg hc6) hr6 (by have := HL5.out; simp only [dg2, List.length_cons, List.length_nil]; omega) ?_))
                  intro v6 z6 g1 g2 g3
                  have HO6 : Hid (OwnN w z6 v6 acc6) := by rw [HA6.out]; exact (HO5.out.after hc6).more g1 g2 g3
                  obtain ⟨o6, n6, c6, rfl, -, -, -⟩ := HO6.out.rd.shape
                  clear g1 g2 g3 hr6 hc6
                  obtain ⟨acc7, hacc7⟩ : ∃ acc, acc = acc6 ++ dg2 (r % 60) := ⟨_, rfl⟩
                  have HA7 : Hid (acc7 = acc6 ++ dg2 (r % 60)) := hacc7
                  have HL7 : Hid (acc7.length = 14) := by show _ = _; rw [hacc7]; rw [List.length_append, HL6.out]; rfl
                  clear hacc7
                  go_wp2_with (first
                    | (go_at_call 55; refine (rtwo_any (r % 60) (by omega) (by omega) _).mono ?_; rintro e qw7 ⟨rfl, hr7, hc7⟩)
                    | (at_builtin; refine wpList_app _ rfl (.tmp 94) (.tmp 97) rfl _ _ acc6 (dg2 (r % 60)) rfl rfl (HO6.out.own.chg hc7) hr7 (by have := HL6.out; simp only [dg2, List.length_cons, List.length_nil]; omega) ?_))
                  intro v7 z7 g1 g2 g3
                  have HO7 : Hid (OwnN w z7 v7 acc7) := by rw [HA7.out]; exact (HO6.out.after hc7).more g1 g2 g3
                  obtain ⟨o7, n7, c7, rfl, -, -, -⟩ := HO7.out.rd.shape
                  clear g1 g2 g3 hr7 hc7
                  obtain ⟨acc8, hacc8⟩ : ∃ acc, acc = acc7 ++ [90] := ⟨_, rfl⟩
                  have HA8 : Hid (acc8 = acc7 ++ [90]) := hacc8
                  clear hacc8
                  go_wp2_with (at_builtin; refine wpList_app _ rfl (.tmp 100) (.tmp 101) rfl _ _ acc7 [90] rfl rfl (HO7.out.own.chg ((Chg.refl _ _).alloc _)) (Rd.one _ _) (by have := HL7.out; simp only [List.length_cons, List.length_nil]; omega) ?_)
                  intro v8 z8 g1 g2 g3
                  have HO8 : Hid (OwnN w z8 v8 acc8) := by rw [HA8.out]; exact (HO7.out.after ((Chg.refl _ _).alloc _)).more g1 g2 (by simpa using g3)
                  have HPT : Hid (Calls Tryd.prog 30 #[.int .u8 24, v8] z8 fun e w' => ∃ v', e = .returned v' ∧ OwnN z8 w' v' (putL 24 acc8)) := rput_any 24 (by decide) (by decide) v8 acc8 z8 HO8.out.rd
                  clear g1 g2 g3
                  go_wp2_with (go_at_call 30; refine HPT.out.mono ?_; rintro e z9 ⟨v9, rfl, hv9⟩)
                  go_ret
                  refine ⟨_, rfl, ⟨_, hv9.from HO8.out.chg, ?_⟩⟩
                  have h5 := HP.out y m (D - (dby y - 719162) - cum y m + 1) HCAL.out
                  rw [if_neg HIF.out] at h5
                  unfold putL
                  have e8 : acc8 = textL y m (D - (dby y - 719162) - cum y m + 1) r := by
                    rw [HA8.out, HA7.out, HA6.out, HA5.out, HA4.out, HA3.out, HA2.out, HA1.out, ← HK1.out]
                    rfl
                  rw [e8, if_pos ⟨by decide, by rw [textL_len]; decide⟩]
                  exact h5
                · skip
                  have HO0 : Hid (OwnN w w (.slice none 0 0) []) := OwnN.nought w
                  obtain ⟨acc1, hacc1⟩ : ∃ acc, acc = ([] : List Int) ++ dg2 (y / 100) := ⟨_, rfl⟩
                  have HA1 : Hid (acc1 = ([] : List Int) ++ dg2 (y / 100)) := hacc1
                  have HL1 : Hid (acc1.length = 2) := by show _ = _; rw [hacc1]; simp [dg2]
                  clear hacc1
                  go_wp2_with (first
                    | (go_at_call 55; refine (rtwo_any (y / 100) (by omega) (by omega) _).mono ?_; rintro e qw1 ⟨rfl, hr1, hc1⟩)
                    | (at_builtin; refine wpList_app _ rfl (.tmp 64) (.tmp 67) rfl _ _ ([] : List Int) (dg2 (y / 100)) rfl rfl (HO0.out.own.chg hc1) hr1 (by simp [dg2]) ?_))
                  intro v1 z1 g1 g2 g3
                  have HO1 : Hid (OwnN w z1 v1 acc1) := by rw [HA1.out]; exact (HO0.out.after hc1).more g1 g2 g3
                  obtain ⟨o1, n1, c1, rfl, -, -, -⟩ := HO1.out.rd.shape
                  clear g1 g2 g3 hr1 hc1
                  obtain ⟨acc2, hacc2⟩ : ∃ acc, acc = acc1 ++ dg2 (y % 100) := ⟨_, rfl⟩
                  have HA2 : Hid (acc2 = acc1 ++ dg2 (y % 100)) := hacc2
                  have HL2 : Hid (acc2.length = 4) := by show _ = _; rw [hacc2]; rw [List.length_append, HL1.out]; rfl
                  clear hacc2
                  go_wp2_with (first
                    | (go_at_call 55; refine (rtwo_any (y % 100) (by omega) (by omega) _).mono ?_; rintro e qw2 ⟨rfl, hr2, hc2⟩)
                    | (at_builtin; refine wpList_app _ rfl (.tmp 69) (.tmp 72) rfl _ _ acc1 (dg2 (y % 100)) rfl rfl (HO1.out.own.chg hc2) hr2 (by have := HL1.out; simp only [dg2, List.length_cons, List.length_nil]; omega) ?_))
                  intro v2 z2 g1 g2 g3
                  have HO2 : Hid (OwnN w z2 v2 acc2) := by rw [HA2.out]; exact (HO1.out.after hc2).more g1 g2 g3
                  obtain ⟨o2, n2, c2, rfl, -, -, -⟩ := HO2.out.rd.shape
                  clear g1 g2 g3 hr2 hc2
                  obtain ⟨acc3, hacc3⟩ : ∃ acc, acc = acc2 ++ dg2 (m) := ⟨_, rfl⟩
                  have HA3 : Hid (acc3 = acc2 ++ dg2 (m)) := hacc3
                  have HL3 : Hid (acc3.length = 6) := by show _ = _; rw [hacc3]; rw [List.length_append, HL2.out]; rfl
                  clear hacc3
                  go_wp2_with (first
                    | (go_at_call 55; refine (rtwo_any (m) (by omega) (by omega) _).mono ?_; rintro e qw3 ⟨rfl, hr3, hc3⟩)
                    | (at_builtin; refine wpList_app _ rfl (.tmp 74) (.tmp 76) rfl _ _ acc2 (dg2 (m)) rfl rfl (HO2.out.own.chg hc3) hr3 (by have := HL2.out; simp only [dg2, List.length_cons, List.length_nil]; omega) ?_))
                  intro v3 z3 g1 g2 g3
                  have HO3 : Hid (OwnN w z3 v3 acc3) := by rw [HA3.out]; exact (HO2.out.after hc3).more g1 g2 g3
                  obtain ⟨o3, n3, c3, rfl, -, -, -⟩ := HO3.out.rd.shape
                  clear g1 g2 g3 hr3 hc3
                  obtain ⟨acc4, hacc4⟩ : ∃ acc, acc = acc3 ++ dg2 (K1) := ⟨_, rfl⟩
                  have HA4 : Hid (acc4 = acc3 ++ dg2 (K1)) := hacc4
                  have HL4 : Hid (acc4.length = 8) := by show _ = _; rw [hacc4]; rw [List.length_append, HL3.out]; rfl
                  clear hacc4
                  go_wp2_with (first
                    | (go_at_call 55; refine (rtwo_any (K1) (by omega) (by omega) _).mono ?_; rintro e qw4 ⟨rfl, hr4, hc4⟩)
                    | (at_builtin; refine wpList_app _ rfl (.tmp 78) (.tmp 81) rfl _ _ acc3 (dg2 (K1)) rfl rfl (HO3.out.own.chg hc4) hr4 (by have := HL3.out; simp only [dg2, List.length_cons, List.length_nil]; omega) ?_))
                  intro v4 z4 g1 g2 g3
                  have HO4 : Hid (OwnN w z4 v4 acc4) := by rw [HA4.out]; exact (HO3.out.after hc4).more g1 g2 g3
                  obtain ⟨o4, n4, c4, rfl, -, -, -⟩ := HO4.out.rd.shape
                  clear g1 g2 g3 hr4 hc4
                  obtain ⟨acc5, hacc5⟩ : ∃ acc, acc = acc4 ++ dg2 (r / 3600) := ⟨_, rfl⟩
                  have HA5 : Hid (acc5 = acc4 ++ dg2 (r / 3600)) := hacc5
                  have HL5 : Hid (acc5.length = 10) := by show _ = _; rw [hacc5]; rw [List.length_append, HL4.out]; rfl
                  clear hacc5
                  go_wp2_with (first
                    | (go_at_call 55; refine (rtwo_any (r / 3600) (by omega) (by omega) _).mono ?_; rintro e qw5 ⟨rfl, hr5, hc5⟩)
                    | (at_builtin; refine wpList_app _ rfl (.tmp 83) (.tmp 86) rfl _ _ acc4 (dg2 (r / 3600)) rfl rfl (HO4.out.own.chg hc5) hr5 (by have := HL4.out; simp only [dg2, List.length_cons, List.length_nil]; omega) ?_))
                  intro v5 z5 g1 g2 g3
                  have HO5 : Hid (OwnN w z5 v5 acc5) := by rw [HA5.out]; exact (HO4.out.after hc5).more g1 g2 g3
                  obtain ⟨o5, n5, c5, rfl, -, -, -⟩ := HO5.out.rd.shape
                  clear g1 g2 g3 hr5 hc5
                  obtain ⟨acc6, hacc6⟩ : ∃ acc, acc = acc5 ++ dg2 (r / 60 % 60) := ⟨_, rfl⟩
                  have HA6 : Hid (acc6 = acc5 ++ dg2 (r / 60 % 60)) := hacc6
                  have HL6 : Hid (acc6.length = 12) := by show _ = _; rw [hacc6]; rw [List.length_append, HL5.out]; rfl
                  clear hacc6
                  go_wp2_with (first
                    | (go_at_call 55; refine (rtwo_any (r / 60 % 60) (by omega) (by omega) _).mono ?_; rintro e qw6 ⟨rfl, hr6, hc6⟩)
                    | (at_builtin; refine wpList_app _ rfl (.tmp 88) (.tmp 92) rfl _ _ acc5 (dg2 (r / 60 % 60)) rfl rfl (HO5.out.own.chg hc6) hr6 (by have := HL5.out; simp only [dg2, List.length_cons, List.length_nil]; omega) ?_))
                  intro v6 z6 g1 g2 g3
                  have HO6 : Hid (OwnN w z6 v6 acc6) := by rw [HA6.out]; exact (HO5.out.after hc6).more g1 g2 g3
                  obtain ⟨o6, n6, c6, rfl, -, -, -⟩ := HO6.out.rd.shape
                  clear g1 g2 g3 hr6 hc6
                  obtain ⟨acc7, hacc7⟩ : ∃ acc, acc = acc6 ++ dg2 (r % 60) := ⟨_, rfl⟩
                  have HA7 : Hid (acc7 = acc6 ++ dg2 (r % 60)) := hacc7
                  have HL7 : Hid (acc7.length = 14) := by show _ = _; rw [hacc7]; rw [List.length_append, HL6.out]; rfl
                  clear hacc7
                  go_wp2_with (first
                    | (go_at_call 55; refine (rtwo_any (r % 60) (by omega) (by omega) _).mono ?_; rintro e qw7 ⟨rfl, hr7, hc7⟩)
                    | (at_builtin; refine wpList_app _ rfl (.tmp 94) (.tmp 97) rfl _ _ acc6 (dg2 (r % 60)) rfl rfl (HO6.out.own.chg hc7) hr7 (by have := HL6.out; simp only [dg2, List.length_cons, List.length_nil]; omega) ?_))
                  intro v7 z7 g1 g2 g3
                  have HO7 : Hid (OwnN w z7 v7 acc7) := by rw [HA7.out]; exact (HO6.out.after hc7).more g1 g2 g3
                  obtain ⟨o7, n7, c7, rfl, -, -, -⟩ := HO7.out.rd.shape
                  clear g1 g2 g3 hr7 hc7
                  obtain ⟨acc8, hacc8⟩ : ∃ acc, acc = acc7 ++ [90] := ⟨_, rfl⟩
                  have HA8 : Hid (acc8 = acc7 ++ [90]) := hacc8
                  clear hacc8
                  go_wp2_with (at_builtin; refine wpList_app _ rfl (.tmp 100) (.tmp 101) rfl _ _ acc7 [90] rfl rfl (HO7.out.own.chg ((Chg.refl _ _).alloc _)) (Rd.one _ _) (by have := HL7.out; simp only [List.length_cons, List.length_nil]; omega) ?_)
                  intro v8 z8 g1 g2 g3
                  have HO8 : Hid (OwnN w z8 v8 acc8) := by rw [HA8.out]; exact (HO7.out.after ((Chg.refl _ _).alloc _)).more g1 g2 (by simpa using g3)
                  have HPT : Hid (Calls Tryd.prog 30 #[.int .u8 24, v8] z8 fun e w' => ∃ v', e = .returned v' ∧ OwnN z8 w' v' (putL 24 acc8)) := rput_any 24 (by decide) (by decide) v8 acc8 z8 HO8.out.rd
                  clear g1 g2 g3
                  go_wp2_with (go_at_call 30; refine HPT.out.mono ?_; rintro e z9 ⟨v9, rfl, hv9⟩)
                  go_ret
                  refine ⟨_, rfl, ⟨_, hv9.from HO8.out.chg, ?_⟩⟩
                  have h5 := HP.out y m (D - (dby y - 719162) - cum y m + 1) HCAL.out
                  rw [if_neg HIF.out] at h5
                  unfold putL
                  have e8 : acc8 = textL y m (D - (dby y - 719162) - cum y m + 1) r := by
                    rw [HA8.out, HA7.out, HA6.out, HA5.out, HA4.out, HA3.out, HA2.out, HA1.out, ← HK1.out]
                    rfl
                  rw [e8, if_pos ⟨by decide, by rw [textL_len]; decide⟩]
                  exact h5

set_option maxHeartbeats 16000000 in
theorem rputTime_c (t D r G : Int) (w : World) (h0 : -62135596800 ≤ t) (h1 : t ≤ 253402300799) (hD : D = (t + 62135596800) / 86400 - 719162) (hr : r = (t + 62135596800) % 86400) (ht : t < 0) (q1 : t.tdiv 86400 = D + 1) (q2 : t.tmod 86400 = r - 86400)
    (q3 : D.tdiv 366 = G) (hG : -1964 ≤ G ∧ G ≤ 8013) :
    Calls Tryd.prog 29 #[.int .i64 t] w fun e w' => ∃ v', e = .returned v' ∧ TmP w w' v' t := by
  have d0 : decide (t < -62135596800) = false := by simp; omega
  have d9 : decide (253402300799 < t) = false := by simp; omega
  have hD0 : -719162 ≤ D := by omega
  have hD1 : D ≤ 2932896 := by omega
  have hr0 : 0 ≤ r := by omega
  have hr1 : r < 86400 := by omega
  obtain ⟨hG0, hG1⟩ := hG
  have HP : Hid (∀ y m d, Cal (D + 719162) y m d → PutT t (if 1950 ≤ y ∧ y ≤ 2049 then encL 23 ((textL y m d r).drop 2) else encL 24 (textL y m d r))) := by
    intro y m d hc
    show (if _ then _ else _)
    rw [if_neg (by omega)]
    exact ⟨y, m, d, by rw [show (t + 62135596800) / 86400 = D + 719162 by omega]; exact hc, by rw [hr]⟩
  clear hD hr
  have dq : decide (r - 86400 < 0) = true := by simp; omega
  go_enter Tryd.func29, Tryd.ntmps29
  go_wp2
  go_loop [5] (fun x => ∃ y : Int, 1 ≤ y ∧ y ≤ 9999 ∧ x = .int .i64 y) (fun x => (9999 - intOf x).toNat)
  case atStart => exact ⟨_, by omega, by omega, rfl⟩
  case round =>
    obtain ⟨y, hy1, hy2, rfl⟩ := hrel
    obtain ⟨D1, hD1⟩ : ∃ D1, D1 = dby (y + 1) - 719162 := ⟨_, rfl⟩
    have hDb := dby_bd (y + 1) (by omega) (by omega)
    have HC : Hid (∀ u, Calls Tryd.prog 51 #[.int .i64 (y + 1)] u fun e w' => e = .returned (.int .i64 D1) ∧ w' = u) := fun u => by rw [hD1]; exact days_any (y + 1) (by omega) (by omega) u
    have HD1 : Hid (D1 = dby (y + 1) - 719162) := hD1
    have hD1b : -719162 ≤ D1 ∧ D1 ≤ 2932897 := by omega
    obtain ⟨hD1b1, hD1b2⟩ := hD1b
    clear hD1 hDb
    by_cases hc : D1 ≤ D
    · have hy9 : y < 9999 := by
        have h9 := HD1.out
        by_cases e : y = 9999
        · subst e
          have : dby (9999 + 1) = 3652059 := by decide
          omega
        · omega
      have d1 : decide (D1 ≤ D) = true := by simpa using hc
      clear hc
      go_wp2_with (go_at_call 51; refine (HC.out _).mono ?_; rintro e w9 ⟨rfl, hw9⟩; obtain rfl := hw9.symm)
      go_round
      case rel => exact ⟨y + 1, by omega, by omega, rfl⟩
      case measure => simp [intOf]; omega
    · have d1 : decide (D1 ≤ D) = false := by simpa using hc
      have HY0 : Hid (D < dby (y + 1) - 719162) := by show _ < _; rw [← HD1.out]; omega
      clear hc
      go_wp2_with (go_at_call 51; refine (HC.out _).mono ?_; rintro e w9 ⟨rfl, hw9⟩; obtain rfl := hw9.symm)
      clear HC
      obtain ⟨ys, hys⟩ : ∃ ys, ys = y := ⟨_, rfl⟩
      go_loop [5] (fun x => ∃ y : Int, 1 ≤ y ∧ y ≤ 9999 ∧ x = .int .i64 y ∧ Hid (D < dby (y + 1) - 719162)) (fun x => (intOf x).toNat)
      case atStart => exact ⟨_, hy1, hy2, rfl, HY0⟩
      case round =>
        clear hys HY0 HD1 d1 hD1b1 hD1b2 hy1 hy2
        obtain ⟨y, hy1, hy2, rfl, HY0⟩ := hrel
        obtain ⟨D2, hD2⟩ : ∃ D2, D2 = dby y - 719162 := ⟨_, rfl⟩
        have hDb := dby_bd y (by omega) (by omega)
        have HC : Hid (∀ u, Calls Tryd.prog 51 #[.int .i64 y] u fun e w' => e = .returned (.int .i64 D2) ∧ w' = u) := fun u => by rw [hD2]; exact days_any y (by omega) (by omega) u
        have HD2 : Hid (D2 = dby y - 719162) := hD2
        have hD2b : -719162 ≤ D2 ∧ D2 ≤ 2932897 := by omega
        obtain ⟨hD2b1, hD2b2⟩ := hD2b
        clear hD2 hDb
        by_cases hc : D < D2
        · have hy9 : 1 < y := by
            have h9 := HD2.out
            by_cases e : y = 1
            · subst e
              have : dby 1 = 0 := by decide
              omega
            · omega
          have d2 : decide (D < D2) = true := by simpa using hc
          have HY1 : Hid (D < dby (y - 1 + 1) - 719162) := by
            show _ < _
            rw [show y - 1 + 1 = y by omega, ← HD2.out]
            exact hc
          clear hc
          go_wp2_with (go_at_call 51; refine (HC.out _).mono ?_; rintro e w9 ⟨rfl, hw9⟩; obtain rfl := hw9.symm)
          go_round
          case rel => exact ⟨y - 1, by omega, by omega, rfl, HY1⟩
          case measure => simp [intOf]; omega
        · have d2 : decide (D < D2) = false := by simpa using hc
          have hs := dby_succ y hy1
          have hlp := lpI_01 y
          have HX : Hid (D - D2 < 365 + lpI y) := by show _ < _; have := HD2.out; have := HY0.out; omega
          have hX2 : D - D2 < 366 := by have := HX.out; omega
          have hX3 : 0 ≤ D - D2 := by omega
          clear hs hlp hc
          go_wp2_with (go_at_call 51; refine (HC.out _).mono ?_; rintro e w9 ⟨rfl, hw9⟩; obtain rfl := hw9.symm)
          go_loop [3, 6] (fun x k => ∃ m c : Int, 1 ≤ m ∧ m ≤ 12 ∧ k = .int .i64 m ∧ Hid (c = cum y m) ∧ 0 ≤ c ∧ c ≤ D - D2 ∧ x = .int .i64 (D - D2 - c)) (fun _ k => (12 - intOf k).toNat)
          case atStart => exact ⟨1, 0, by omega, by omega, rfl, (rfl : (0 : Int) = cum y 1), by omega, by omega, by simp⟩
          case round =>
            obtain ⟨m, c, hm1, hm2, rfl, hcum, hc0, hc1, rfl⟩ := hrel
            obtain ⟨K, hK⟩ : ∃ K, K = dimI y m := ⟨_, rfl⟩
            have hKb := dim_bd y m
            have HC3 : Hid (∀ u, Calls Tryd.prog 50 #[.int .i64 y, .int .i64 m] u fun e w' => e = .returned (.int .i64 K) ∧ w' = u) := fun u => by rw [hK]; exact month_any y m (by omega) u
            have HK : Hid (K = dimI y m) := hK
            have hcs := cum_succ y m hm1 hm2
            have HCS : Hid (cum y (m + 1) = c + K) := by show _ = _; rw [hcs, ← hcum.out, HK.out]
            rw [← hK] at hKb
            clear hK hcs
            by_cases hd : K ≤ D - D2 - c
            · have hm12 : m < 12 := by
                by_cases e : m = 12
                · subst e
                  have h5 := HCS.out
                  have h6 := HX.out
                  have h7 : cum y (12 + 1) = 365 + lpI y := cum_13 y
                  omega
                · omega
              have d3 : decide (K ≤ D - D2 - c) = true := by simpa using hd
              obtain ⟨c', hc'⟩ : ∃ c', c' = c + K := ⟨_, rfl⟩
              have HC' : Hid (c' = cum y (m + 1)) := by show _ = _; rw [HCS.out, hc']
              have HE : Hid (D - D2 - c - K = D - D2 - c') := by show _ = _; omega
              have hc'0 : 0 ≤ c' := by omega
              have hc'1 : c' ≤ D - D2 := by omega
              clear hc'
              go_wp2_with (go_at_call 50; refine (HC3.out _).mono ?_; rintro e w9 ⟨rfl, hw9⟩; obtain rfl := hw9.symm)
              go_round
              case rel => exact ⟨m + 1, c', by omega, by omega, rfl, HC', hc'0, hc'1, by rw [HE.out]⟩
              case measure => simp [intOf]; omega
            · have d3 : decide (K ≤ D - D2 - c) = false := by simpa using hd
              obtain ⟨K1, hK1⟩ : ∃ K1, K1 = D - D2 - c + 1 := ⟨_, rfl⟩
              have HK1 : Hid (K1 = D - (dby y - 719162) - cum y m + 1) := by show _ = _; rw [hK1, HD2.out, hcum.out]
              have HCAL : Hid (Cal (D + 719162) y m (D - (dby y - 719162) - cum y m + 1)) := by
                refine ⟨hy1, hy2, hm1, hm2, ?_, ?_, by omega⟩
                · rw [← HK1.out, hK1]; omega
                · rw [← HK1.out, hK1, ← HK.out]; omega
              have hK10 : 1 ≤ K1 := by omega
              have hK11 : K1 ≤ 31 := by omega
              have qK : D - D2 - c + 1 = K1 := hK1.symm
              clear hd hK1
              go_upto_region 20 with (go_at_call 50; refine (HC3.out _).mono ?_; rintro e w9 ⟨rfl, hw9⟩; obtain rfl := hw9.symm)
              by_cases hsh : 1950 ≤ y ∧ y ≤ 2049
              · have e1 : decide (y < 1950) = false := by simp; omega
                have e2 : decide (2049 < y) = false := by simp; omega
                have HIF : Hid (1950 ≤ y ∧ y ≤ 2049) := hsh
                clear hsh
                have HO1 : Hid (OwnN w w (.slice none 0 0) []) := OwnN.nought w
                obtain ⟨acc2, hacc2⟩ : ∃ acc, acc = ([] : List Int) ++ dg2 (y % 100) := ⟨_, rfl⟩
                have HA2 : Hid (acc2 = ([] : List Int) ++ dg2 (y % 100)) := hacc2
                have HL2 : Hid (acc2.length = 2) := by show _ = _; rw [hacc2]; simp [dg2]
                clear hacc2
                go_wp2_with (first
                  | (go_at_call 55; refine (rtwo_any (y % 100) (by omega) (by omega) _).mono ?_; rintro e qw2 ⟨rfl, hr2, hc2⟩)
                  | (at_builtin; refine wpList_app _ rfl (.tmp 69) (.tmp 72) rfl _ _ ([] : List Int) (dg2 (y % 100)) rfl rfl (HO1.out.own.chg hc2) hr2 (by simp [dg2]) ?_))
                intro v2 z2 g1 g2 g3
                have HO2 : Hid (OwnN w z2 v2 acc2) := by rw [HA2.out]; exact (HO1.out.after hc2).more g1 g2 g3
                obtain ⟨o2, n2, c2, rfl, -, -, -⟩ := HO2.out.rd.shape
                clear g1 g2 g3 hr2 hc2
                obtain ⟨acc3, hacc3⟩ : ∃ acc, acc = acc2 ++ dg2 (m) := ⟨_, rfl⟩
                have HA3 : Hid (acc3 = acc2 ++ dg2 (m)) := hacc3
                have HL3 : Hid (acc3.length = 4) := by show _ = _; rw [hacc3]; rw [List.length_append, HL2.out]; rfl
                clear hacc3
                go_wp2_with (first
                  | (go_at_call 55; refine (rtwo_any (m) (by omega) (by omega) _).mono ?_; rintro e qw3 ⟨rfl, hr3, hc3⟩)
                  | (at_builtin; refine wpList_app _ rfl (.tmp 74) (.tmp 76) rfl _ _ acc2 (dg2 (m)) rfl rfl (HO2.out.own.chg hc3) hr3 (by have := HL2.out; simp only [dg2, List.length_cons, List.length_nil]; omega) ?_))
                intro v3 z3 g1 g2 g3
                have HO3 : Hid (OwnN w z3 v3 acc3) := by rw [HA3.out]; exact (HO2.out.after hc3).more g1 g2 g3
                obtain ⟨o3, n3, c3, rfl, -, -, -⟩ := HO3.out.rd.shape
                clear g1 g2 g3 hr3 hc3
                obtain ⟨acc4, hacc4⟩ : ∃ acc, acc = acc3 ++ dg2 (K1) := ⟨_, rfl⟩
                have HA4 : Hid (acc4 = acc3 ++ dg2 (K1)) := hacc4
                have HL4 : Hid (acc4.length = 6) := by show _ = _; rw [hacc4]; rw [List.length_append, HL3.out]; rfl
                clear hacc4
                go_wp2_with (first
                  | (go_at_call 55; refine (rtwo_any (K1) (by omega) (by omega) _).mono ?_; rintro e qw4 ⟨rfl, hr4, hc4⟩)
                  | (at_builtin; refine wpList_app _ rfl (.tmp 78) (.tmp 81) rfl _ _ acc3 (dg2 (K1)) rfl rfl (HO3.out.own.chg hc4) hr4 (by have := HL3.out; simp only [dg2, List.length_cons, List.length_nil]; omega) ?_))
                intro v4 z4 g1 g2 g3
                have HO4 : Hid (OwnN w z4 v4 acc4) := by rw [HA4.out]; exact (HO3.out.after hc4).more g1 g2 g3
                obtain ⟨o4, n4, c4, rfl, -, -, -⟩ := HO4.out.rd.shape
                clear g1 g2 g3 hr4 hc4
                obtain ⟨acc5, hacc5⟩ : ∃ acc, acc = acc4 ++ dg2 (r / 3600) := ⟨_, rfl⟩
                have HA5 : Hid (acc5 = acc4 ++ dg2 (r / 3600)) := hacc5
                have HL5 : Hid (acc5.length = 8) := by show _ = _; rw [hacc5]; rw [List.length_append, HL4.out]; rfl
                clear hacc5
                go_wp2_with (first
                  | (go_at_call 55; refine (rtwo_any (r / 3600) (by omega) (by omega) _).mono ?_; rintro e qw5 ⟨rfl, hr5, hc5⟩)
                  | (at_builtin; refine wpList_app _ rfl (.tmp 83) (.tmp 86) rfl _ _ acc4 (dg2 (r / 3600)) rfl rfl (HO4.out.own.chg hc5) hr5 (by have := HL4.out; simp only [dg2, List.length_cons, List.length_nil]; omega) ?_))
                intro v5 z5 g1 g2 g3
                have HO5 : Hid (OwnN w z5 v5 acc5) := by rw [HA5.out]; exact (HO4.out.after hc5).more g1 g2 g3
                obtain ⟨o5, n5, c5, rfl, -, -, -⟩ := HO5.out.rd.shape
                clear g1 g2 g3 hr5 hc5
                obtain ⟨acc6, hacc6⟩ : ∃ acc, acc = acc5 ++ dg2 (r / 60 % 60) := ⟨_, rfl⟩
                have HA6 : Hid (acc6 = acc5 ++ dg2 (r / 60 % 60)) := hacc6
                have HL6 : Hid (acc6.length = 10) := by show _ = _; rw [hacc6]; rw [List.length_append, HL5.out]; rfl
                clear hacc6
                go_wp2_with (first
                  | (go_at_call 55; refine (rtwo_any (r / 60 % 60) (by omega) (by omega) _).mono ?_; rintro e qw6 ⟨rfl, hr6, hc6⟩)
                  | (at_builtin; refine wpList_app _ rfl (.tmp 88) (.tmp 92) rfl _ _ acc5 (dg2 (r / 60 % 60)) rfl rfl (HO5.out.own.chg hc6) hr6 (by have := HL5.out; simp only [dg2, List.length_cons, List.length_nil]; omega) ?_))
                intro v6 z6 g1 g2 g3
                have HO6 : Hid (OwnN w z6 v6 acc6) := by rw [HA6.out]; exact (HO5.out.after hc6).more g1 g2 g3
                obtain ⟨o6, n6, c6, rfl, -, -, -⟩ := HO6.out.rd.shape
                clear g1 g2 g3 hr6 hc6
                obtain ⟨acc7, hacc7⟩ : ∃ acc, acc = acc6 ++ dg2 (r % 60) := ⟨_, rfl⟩
                have HA7 : Hid (acc7 = acc6 ++ dg2 (r % 60)) := hacc7
                have HL7 : Hid (acc7.length = 12) := by show _ = _; rw [hacc7]; rw [List.length_append, HL6.out]; rfl
                clear hacc7
                go_wp2_with (first
                  | (go_at_call 55; refine (rtwo_any (r % 60) (by omega) (by omega) _).mono ?_; rintro e qw7 ⟨rfl, hr7, hc7⟩)
                  | (at_builtin; refine wpList_app _ rfl (.tmp 94) (.tmp 97) rfl _ _ acc6 (dg2 (r % 60)) rfl rfl (HO6.out.own.chg hc7) hr7 (by have := HL6.out; simp only [dg2, List.length_cons, List.length_nil]; omega) ?_))
                intro v7 z7 g1 g2 g3
                have HO7 : Hid (OwnN w z7 v7 acc7) := by rw [HA7.out]; exact (HO6.out.after hc7).more g1 g2 g3
                obtain ⟨o7, n7, c7, rfl, -, -, -⟩ := HO7.out.rd.shape
                clear g1 g2 g3 hr7 hc7
                obtain ⟨acc8, hacc8⟩ : ∃ acc, acc = acc7 ++ [90] := ⟨_, rfl⟩
                have HA8 : Hid (acc8 = acc7 ++ [90]) := hacc8
                clear hacc8
                go_wp2_with (at_builtin; refine wpList_app _ rfl (.tmp 100) (.tmp 101) rfl _ _ acc7 [90] rfl rfl (HO7.out.own.chg ((Chg.refl _ _).alloc _)) (Rd.one _ _) (by have := HL7.out; simp only [List.length_cons, List.length_nil]; omega) ?_)
                intro v8 z8 g1 g2 g3
                have HO8 : Hid (OwnN w z8 v8 acc8) := by rw [HA8.out]; exact (HO7.out.after ((Chg.refl _ _).alloc _)).more g1 g2 (by simpa using g3)
                have HPT : Hid (Calls Tryd.prog 30 #[.int .u8 23, v8] z8 fun e w' => ∃ v', e = .returned v' ∧ OwnN z8 w' v' (putL 23 acc8)) := rput_any 23 (by decide) (by decide) v8 acc8 z8 HO8.out.rd
                clear g1 g2 g3
                go_wp2_with (go_at_call 30; refine HPT.out.mono ?_; rintro e z9 ⟨v9, rfl, hv9⟩)
                go_ret
                refine ⟨_, rfl, ⟨_, hv9.from HO8.out.chg, ?_⟩⟩
                have h5 := HP.out y m (D - (dby y - 719162) - cum y m + 1) HCAL.out
                rw [if_pos HIF.out] at h5
                unfold putL
                have e8 : acc8 = (textL y m (D - (dby y - 719162) - cum y m + 1) r).drop 2 := by
                  rw [HA8.out, HA7.out, HA6.out, HA5.out, HA4.out, HA3.out, HA2.out, ← HK1.out]
                  rfl
                rw [e8, if_pos ⟨by decide, by rw [List.length_drop, textL_len]; decide⟩]
                exact h5
              · have e3 : decide (y < 1950) = true ∨ (decide (y < 1950) = false ∧ decide (2049 < y) = true) := by
                  by_cases h : y < 1950
                  · exact .inl (by simpa using h)
                  · exact .inr ⟨by simpa using h, by simp; omega⟩
                have HIF : Hid (¬ (1950 ≤ y ∧ y ≤ 2049)) := hsh
                clear hsh
                rcases e3 with e1 | ⟨e1, e2⟩
                · skip
                  have HO0 : Hid (OwnN w w (.slice none 0 0) []) := OwnN.nought w
                  obtain ⟨acc1, hacc1⟩ : ∃ acc, acc = ([] : List Int) ++ dg2 (y / 100) := ⟨_, rfl⟩
                  have HA1 : Hid (acc1 = ([] : List Int) ++ dg2 (y / 100)) := hacc1
                  have HL1 : Hid (acc1.length = 2) := by show _ = _; rw [hacc1]; simp [dg2]
                  clear hacc1
                  go_wp2_with (first
                    | (go_at_call 55; refine (rtwo_any (y / 100) (by omega) (by omega) _).mono ?_; rintro e qw1 ⟨rfl, hr1, hc1⟩)
                    | (at_builtin; refine wpList_app _ rfl (.tmp 64) (.tmp 67) rfl _ _ ([] : List Int) (dg2 (y / 100)) rfl rfl (HO0.out.own.chg hc1) hr1 (by simp [dg2]) ?_))
                  intro v1 z1 g1 g2 g3
                  have HO1 : Hid (OwnN w z1 v1 acc1) := by rw [HA1.out]; exact (HO0.out.after hc1).more g1 g2 g3
                  obtain ⟨o1, n1, c1, rfl, -, -, -⟩ := HO1.out.rd.shape
                  clear g1 g2 g3 hr1 hc1
                  obtain ⟨acc2, hacc2⟩ : ∃ acc, acc = acc1 ++ dg2 (y % 100) := ⟨_, rfl⟩
                  have HA2 : Hid (acc2 = acc1 ++ dg2 (y % 100)) := hacc2
                  have HL2 : Hid (acc2.length = 4) := by show _ = _; rw [hacc2]; rw [List.length_append, HL1.out]; rfl
                  clear hacc2
                  go_wp2_with (first
                    | (go_at_call 55; refine (rtwo_any (y % 100) (by omega) (by omega) _).mono ?_; rintro e qw2 ⟨rfl, hr2, hc2⟩)
                    | (at_builtin; refine wpList_app _ rfl (.tmp 69) (.tmp 72) rfl _ _ acc1 (dg2 (y % 100)) rfl rfl (HO1.out.own.chg hc2) hr2 (by have := HL1.out; simp only [dg2, List.length_cons, List.length_nil]; omega) ?_))
                  intro v2 z2 g1 g2 g3
                  have HO2 : Hid (OwnN w z2 v2 acc2) := by rw [HA2.out]; exact (HO1.out.after hc2).more g1 g2 g3
                  obtain ⟨o2, n2, c2, rfl, -, -, -⟩ := HO2.out.rd.shape
                  clear g1 g2 g3 hr2 hc2
                  obtain ⟨acc3, hacc3⟩ : ∃ acc, acc = acc2 ++ dg2 (m) := ⟨_, rfl⟩
                  have HA3 : Hid (acc3 = acc2 ++ dg2 (m)) := hacc3
                  have HL3 : Hid (acc3.length = 6) := by show _ = _; rw [hacc3]; rw [List.length_append, HL2.out]; rfl
                  clear hacc3
                  go_wp2_with (first
                    | (go_at_call 55; refine (rtwo_any (m) (by omega) (by omega) _).mono ?_; rintro e qw3 ⟨rfl, hr3, hc3⟩)
                    | (at_builtin; refine wpList_app _ rfl (.tmp 74) (.tmp 76) rfl _ _ acc2 (dg2 (m)) rfl rfl (HO2.out.own.chg hc3) hr3 (by have := HL2.out; simp only [dg2, List.length_cons, List.length_nil]; omega) ?_))
                  intro v3 z3 g1 g2 g3
                  have HO3 : Hid (OwnN w z3 v3 acc3) := by rw [HA3.out]; exact (HO2.out.after hc3).more g1 g2 g3
                  obtain ⟨o3, n3, c3, rfl, -, -, -⟩ := HO3.out.rd.shape
                  clear g1 g2 g3 hr3 hc3
                  obtain ⟨acc4, hacc4⟩ : ∃ acc, acc = acc3 ++ dg2 (K1) := ⟨_, rfl⟩
                  have HA4 : Hid (acc4 = acc3 ++ dg2 (K1)) := hacc4
                  have HL4 : Hid (acc4.length = 8) := by show _ = _; rw [hacc4]; rw [List.length_append, HL3.out]; rfl
                  clear hacc4
                  go_wp2_with (first
                    | (go_at_call 55; refine (rtwo_any (K1) (by omega) (by omega) _).mono ?_; rintro e qw4 ⟨rfl, hr4, hc4⟩)
                    | (at_builtin; refine wpList_app _ rfl (.tmp 78) (.tmp 81) rfl _ _ acc3 (dg2 (K1)) rfl rfl (HO3.out.own.chg hc4) hr4 (by have := HL3.out; simp only [dg2, List.length_cons, List.length_nil]; omega) ?_))
                  intro v4 z4 g1 g2 g3
                  have HO4 : Hid (OwnN w z4 v4 acc4) := by rw [HA4.out]; exact (HO3.out.after hc4).more g1 g2 g3
                  obtain ⟨o4, n4, c4, rfl, -, -, -⟩ := HO4.out.rd.shape
                  clear g1 g2 g3 hr4 hc4
                  obtain ⟨acc5, hacc5⟩ : ∃ acc, acc = acc4 ++ dg2 (r / 3600) := ⟨_, rfl⟩
                  have HA5 : Hid (acc5 = acc4 ++ dg2 (r / 3600)) := hacc5
                  have HL5 : Hid (acc5.length = 10) := by show _ = _; rw [hacc5]; rw [List.length_append, HL4.out]; rfl
                  clear hacc5
                  go_wp2_with (first
                    | (go_at_call 55; refine (rtwo_any (r / 3600) (by omega) (by omega) _).mono ?_; rintro e qw5 ⟨rfl, hr5, hc5⟩)
                    | (at_builtin; refine wpList_app _ rfl (.tmp 83) (.tmp 86) rfl _ _ acc4 (dg2 (r / 3600)) rfl rfl (HO4.out.own.chg hc5) hr5 (by have := HL4.out; simp only [dg2, List.length_cons, List.length_nil]; omega) ?_))
                  intro v5 z5 g1 g2 g3
                  have HO5 : Hid (OwnN w z5 v5 acc5) := by rw [HA5.out]; exact (HO4.out.after hc5).more g1 g2 g3
                  obtain ⟨o5, n5, c5, rfl, -, -, -⟩ := HO5.out.rd.shape
                  clear g1 g2 g3 hr5 hc5
                  obtain ⟨acc6, hacc6⟩ : ∃ acc, acc = acc5 ++ dg2 (r / 60 % 60) := ⟨_, rfl⟩
                  have HA6 : Hid (acc6 = acc5 ++ dg2 (r / 60 % 60)) := hacc6
                  have HL6 : Hid (acc6.length = 12) := by show _ = _; rw [hacc6]; rw [List.length_append, HL5.out]; rfl
                  clear hacc6
                  go_wp2_with (first
                    | (go_at_call 55; refine (rtwo_any (r / 60 % 60) (by omega) (by omega) _).mono ?_; rintro e qw6 ⟨rfl, hr6, hc6⟩)
                    | (at_builtin; refine wpList_app _ rfl (.tmp 88) (.tmp 92) rfl _ _ acc5 (dg2 (r / 60 % 60)) rfl rfl (HO5.out.own.chg hc6) hr6 (by have := HL5.out; simp only [dg2, List.length_cons, List.length_nil]; omega) ?_))
                  intro v6 z6 g1 g2 g3
                  have HO6 : Hid (OwnN w z6 v6 acc6) := by rw [HA6.out]; exact (HO5.out.after hc6).more g1 g2 g3
                  obtain ⟨o6, n6, c6, rfl, -, -, -⟩ := HO6.out.rd.shape
                  clear g1 g2 g3 hr6 hc6
                  obtain ⟨acc7, hacc7⟩ : ∃ acc, acc = acc6 ++ dg2 (r % 60) := ⟨_, rfl⟩
                  have HA7 : Hid (acc7 = acc6 ++ dg2 (r % 60)) := hacc7
                  have HL7 : Hid (acc7.length = 14) := by show _ = _; rw [hacc7]; rw [List.length_append, HL6.out]; rfl
                  clear hacc7
                  go_wp2_with (first
                    | (go_at_call 55; refine (rtwo_any (r % 60) (by omega) (by omega) _).mono ?_; rintro e qw7 ⟨rfl, hr7, hc7⟩)
                    | (at_builtin; refine wpList_app _ rfl (.tmp 94) (.tmp 97) rfl _ _ acc6 (dg2 (r % 60)) rfl rfl (HO6.out.own.chg hc7) hr7 (by have := HL6.out; simp only [dg2, List.length_cons, List.length_nil]; omega) ?_))
                  intro v7 z7 g1 g2 g3
                  have HO7 : Hid (OwnN w z7 v7 acc7) := by rw [HA7.out]; exact (HO6.out.after hc7).more g1 g2 g3
                  obtain ⟨o7, n7, c7, rfl, -, -, -⟩ := HO7.out.rd.shape
                  clear g1 g2 g3 hr7 hc7
                  obtain ⟨acc8, hacc8⟩ : ∃ acc, acc = acc7 ++ [90] := ⟨_, rfl⟩
                  have HA8 : Hid (acc8 = acc7 ++ [90]) := hacc8
                  clear hacc8
                  go_wp2_with (at_builtin; refine wpList_app _ rfl (.tmp 100) (.tmp 101) rfl _ _ acc7 [90] rfl rfl (HO7.out.own.chg ((Chg.refl _ _).alloc _)) (Rd.one _ _) (by have := HL7.out; simp only [List.length_cons, List.length_nil]; omega) ?_)
                  intro v8 z8 g1 g2 g3
                  have HO8 : Hid (OwnN w z8 v8 acc8) := by rw [HA8.out]; exact (HO7.out.after ((Chg.refl _ _).alloc _)).more g1 g2 (by simpa using g3)
                  have HPT : Hid (Calls Tryd.prog 30 #[.int .u8 24, v8] z8 fun e w' => ∃ v', e = .returned v' ∧ OwnN z8 w' v' (putL 24 acc8)) := rput_any 24 (by decide) (by decide) v8 acc8 z8 HO8.out.rd
                  clear g1 g2 g3
                  go_wp2_with (go_at_call 30; refine HPT.out.mono ?_; rintro e z9 ⟨v9, rfl, hv9⟩)
                  go_ret
                  refine ⟨_, rfl, ⟨_, hv9.from HO8.out.chg, ?_⟩⟩
                  have h5 := HP.out y m (D - (dby y - 719162) - cum y m + 1) HCAL.out
                  rw [if_neg HIF.out] at h5
                  unfold putL
                  have e8 : acc8 = textL y m (D - (dby y - 719162) - cum y m + 1) r := by
                    rw [HA8.out, HA7.out, HA6.out, HA5.out, HA4.out, HA3.out, HA2.out, HA1.out, ← HK1.out]
                    rfl
                  rw [e8, if_pos ⟨by decide, by rw [textL_len]; decide⟩]
                  exact h5
                · skip
                  have HO0 : Hid (OwnN w w (.slice none 0 0) []) := OwnN.nought w
                  obtain ⟨acc1, hacc1⟩ : ∃ acc, acc = ([] : List Int) ++ dg2 (y / 100) := ⟨_, rfl⟩
                  have HA1 : Hid (acc1 = ([] : List Int) ++ dg2 (y / 100)) := hacc1
                  have HL1 : Hid (acc1.length = 2) := by show _ = _; rw [hacc1]; simp [dg2]
                  clear hacc1
                  go_wp2_with (first
                    | (go_at_call 55; refine (rtwo_any (y / 100) (by omega) (by omega) _).mono ?_; rintro e qw1 ⟨rfl, hr1, hc1⟩)
                    | (at_builtin; refine wpList_app _ rfl (.tmp 64) (.tmp 67) rfl _ _ ([] : List Int) (dg2 (y / 100)) rfl rfl (HO0.out.own.chg hc1) hr1 (by simp [dg2]) ?_))
                  intro v1 z1 g1 g2 g3
                  have HO1 : Hid (OwnN w z1 v1 acc1) := by rw [HA1.out]; exact (HO0.out.after hc1).more g1 g2 g3
                  obtain ⟨o1, n1, c1, rfl, -, -, -⟩ := HO1.out.rd.shape
                  clear g1 g2 g3 hr1 hc1
                  obtain ⟨acc2, hacc2⟩ : ∃ acc, acc = acc1 ++ dg2 (y % 100) := ⟨_, rfl⟩
                  have HA2 : Hid (acc2 = acc1 ++ dg2 (y % 100)) := hacc2
                  have HL2 : Hid (acc2.length = 4) := by show _ = _; rw [hacc2]; rw [List.length_append, HL1.out]; rfl
                  clear hacc2
                  go_wp2_with (first
                    | (go_at_call 55; refine (rtwo_any (y % 100) (by omega) (by omega) _).mono ?_; rintro e qw2 ⟨rfl, hr2, hc2⟩)
                    | (at_builtin; refine wpList_app _ rfl (.tmp 69) (.tmp 72) rfl _ _ acc1 (dg2 (y % 100)) rfl rfl (HO1.out.own.chg hc2) hr2 (by have := HL1.out; simp only [dg2, List.length_cons, List.length_nil]; omega) ?_))
                  intro v2 z2 g1 g2 g3
                  have HO2 : Hid (OwnN w z2 v2 acc2) := by rw [HA2.out]; exact (HO1.out.after hc2).more g1 g2 g3
                  obtain ⟨o2, n2, c2, rfl, -, -, -⟩ := HO2.out.rd.shape
                  clear g1 g2 g3 hr2 hc2
                  obtain ⟨acc3, hacc3⟩ : ∃ acc, acc = acc2 ++ dg2 (m) := ⟨_, rfl⟩
                  have HA3 : Hid (acc3 = acc2 ++ dg2 (m)) := hacc3
                  have HL3 : Hid (acc3.length = 6) := by show _ = _; rw [hacc3]; rw [List.length_append, HL2.out]; rfl
                  clear hacc3
                  go_wp2_with (first
                    | (go_at_call 55; refine (rtwo_any (m) (by omega) (by omega) _).mono ?_; rintro e qw3 ⟨rfl, hr3, hc3⟩)
                    | (at_builtin; refine wpList_app _ rfl (.tmp 74) (.tmp 76) rfl _ _ acc2 (dg2 (m)) rfl rfl (HO2.out.own.chg hc3) hr3 (by have := HL2.out; simp only [dg2, List.length_cons, List.length_nil]; omega) ?_))
                  intro v3 z3 g1 g2 g3
                  have HO3 : Hid (OwnN w z3 v3 acc3) := by rw [HA3.out]; exact (HO2.out.after hc3).more g1 g2 g3
                  obtain ⟨o3, n3, c3, rfl, -, -, -⟩ := HO3.out.rd.shape
                  clear g1 g2 g3 hr3 hc3
                  obtain ⟨acc4, hacc4⟩ : ∃ acc, acc = acc3 ++ dg2 (K1) := ⟨_, rfl⟩
                  have HA4 : Hid (acc4 = acc3 ++ dg2 (K1)) := hacc4
                  have HL4 : Hid (acc4.length = 8) := by show _ = _; rw [hacc4]; rw [List.length_append, HL3.out]; rfl
                  clear hacc4
                  go_wp2_with (first
                    | (go_at_call 55; refine (rtwo_any (K1) (by omega) (by omega) _).mono ?_; rintro e qw4 ⟨rfl, hr4, hc4⟩)
                    | (at_builtin; refine wpList_app _ rfl (.tmp 78) (.tmp 81) rfl _ _ acc3 (dg2 (K1)) rfl rfl (HO3.out.own.chg hc4) hr4 (by have := HL3.out; simp only [dg2, List.length_cons, List.length_nil]; omega) ?_))
                  intro v4 z4 g1 g2 g3
                  have HO4 : Hid (OwnN w z4 v4 acc4) := by rw [HA4.out]; exact (HO3.out.after hc4).more g1 g2 g3
                  obtain ⟨o4, n4, c4, rfl, -, -, -⟩ := HO4.out.rd.shape
                  clear g1 g2 g3 hr4 hc4
                  obtain ⟨acc5, hacc5⟩ : ∃ acc, acc = acc4 ++ dg2 (r / 3600) := ⟨_, rfl⟩
                  have HA5 : Hid (acc5 = acc4 ++ dg2 (r / 3600)) := hacc5
                  have HL5 : Hid (acc5.length = 10) := by show _ = _; rw [hacc5]; rw [List.length_append, HL4.out]; rfl
                  clear hacc5
                  go_wp2_with (first
                    | (go_at_call 55; refine (rtwo_any (r / 3600) (by omega) (by omega) _).mono ?_; rintro e qw5 ⟨rfl, hr5, hc5⟩)
                    | (at_builtin; refine wpList_app _ rfl (.tmp 83) (.tmp 86) rfl _ _ acc4 (dg2 (r / 3600)) rfl rfl (HO4.out.own.chg hc5) hr5 (by have := HL4.out; simp only [dg2, List.length_cons, List.length_nil]; omega) ?_))
                  intro v5 z5 g1 g2 g3
                  have HO5 : Hid (OwnN w z5 v5 acc5) := by rw [HA5.out]; exact (HO4.out.after hc5).more g1 g2 g3
                  obtain ⟨o5, n5, c5, rfl, -, -, -⟩ := HO5.out.rd.shape
                  clear g1 g2 g3 hr5 hc5
                  obtain ⟨acc6, hacc6⟩ : ∃ acc, acc = acc5 ++ dg2 (r / 60 % 60) := ⟨_, rfl⟩
                  have HA6 : Hid (acc6 = acc5 ++ dg2 (r / 60 % 60)) := hacc6
                  have HL6 : Hid (acc6.length = 12) := by show _ = _; rw [hacc6]; rw [List.length_append, HL5.out]; rfl
                  clear hacc6
                  go_wp2_with (first
                    | (go_at_call 55; refine (rtwo_any (r / 60 % 60) (by omega) (by omega) _).mono ?_; rintro e qw6 ⟨rfl, hr6, hc6⟩)
                    | (at_builtin; refine wpList_app _ rfl (.tmp 88) (.tmp 92) rfl _ _ acc5 (dg2 (r / 60 % 60)) rfl rfl (HO5.out.own.chg hc6) hr6 (by have := HL5.out; simp only [dg2, List.length_cons, List.length_nil]; omega) ?_))
                  intro v6 z6 g1 g2 g3
                  have HO6 : Hid (OwnN w z6 v6 acc6) := by rw [HA6.out]; exact (HO5.out.after hc6).more g1 g2 g3
                  obtain ⟨o6, n6, c6, rfl, -, -, -⟩ := HO6.out.rd.shape
                  clear g1 g2 g3 hr6 hc6
                  obtain ⟨acc7, hacc7⟩ : ∃ acc, acc = acc6 ++ dg2 (r % 60) := ⟨_, rfl⟩
                  have HA7 : Hid (acc7 = acc6 ++ dg2 (r % 60)) := hacc7
                  have HL7 : Hid (acc7.length = 14) := by show _ = _; rw [hacc7]; rw [List.length_append, HL6.out]; rfl
                  clear hacc7
                  go_wp2_with (first
                    | (go_at_call 55; refine (rtwo_any (r % 60) (by omega) (by omega) _).mono ?_; rintro e qw7 ⟨rfl, hr7, hc7⟩)
                    | (at_builtin; refine wpList_app _ rfl (.tmp 94) (.tmp 97) rfl _ _ acc6 (dg2 (r % 60)) rfl rfl (HO6.out.own.chg hc7) hr7 (by have := HL6.out; simp only [dg2, List.length_cons, List.length_nil]; omega) ?_))
                  intro v7 z7 g1 g2 g3
                  have HO7 : Hid (OwnN w z7 v7 acc7) := by rw [HA7.out]; exact (HO6.out.after hc7).more g1 g2 g3
                  obtain ⟨o7, n7, c7, rfl, -, -, -⟩ := HO7.out.rd.shape
                  clear g1 g2 g3 hr7 hc7
                  obtain ⟨acc8, hacc8⟩ : ∃ acc, acc = acc7 ++ [90] := ⟨_, rfl⟩
                  have HA8 : Hid (acc8 = acc7 ++ [90]) := hacc8
                  clear hacc8
                  go_wp2_with (at_builtin; refine wpList_app _ rfl (.tmp 100) (.tmp 101) rfl _ _ acc7 [90] rfl rfl (HO7.out.own.chg ((Chg.refl _ _).alloc _)) (Rd.one _ _) (by have := HL7.out; simp only [List.length_cons, List.length_nil]; omega) ?_)
                  intro v8 z8 g1 g2 g3
                  have HO8 : Hid (OwnN w z8 v8 acc8) := by rw [HA8.out]; exact (HO7.out.after ((Chg.refl _ _).alloc _)).more g1 g2 (by simpa using g3)
                  have HPT : Hid (Calls Tryd.prog 30 #[.int .u8 24, v8] z8 fun e w' => ∃ v', e = .returned v' ∧ OwnN z8 w' v' (putL 24 acc8)) := rput_any 24 (by decide) (by decide) v8 acc8 z8 HO8.out.rd
                  clear g1 g2 g3
                  go_wp2_with (go_at_call 30; refine HPT.out.mono ?_; rintro e z9 ⟨v9, rfl, hv9⟩)
                  go_ret
                  refine ⟨_, rfl, ⟨_, hv9.from HO8.out.chg, ?_⟩⟩
                  have h5 := HP.out y m (D - (dby y - 719162) - cum y m + 1) HCAL.out
                  rw [if_neg HIF.out] at h5
                  unfold putL
                  have e8 : acc8 = textL y m (D - (dby y - 719162) - cum y m + 1) r := by
                    rw [HA8.out, HA7.out, HA6.out, HA5.out, HA4.out, HA3.out, HA2.out, HA1.out, ← HK1.out]
                    rfl
                  rw [e8, if_pos ⟨by decide, by rw [textL_len]; decide⟩]
                  exact h5

theorem tmod_neg (a b : Int) (ha : a < 0) (hb : 0 < b) : a.tmod b = if a % b = 0 then 0 else a % b - b := by
  rw [Int.tmod_eq_emod]
  by_cases h : a % b = 0
  · have hd : b ∣ a := Int.dvd_of_emod_eq_zero h
    rw [if_pos (.inr hd), if_pos h, h]
    rfl
  · have hd : ¬ (0 ≤ a ∨ b ∣ a) := by
      rintro (h' | h')
      · omega
      · exact h (Int.emod_eq_zero_of_dvd h')
    rw [if_neg hd, if_neg h]
    omega

set_option maxHeartbeats 1600000 in
theorem rputTime_any (t : Int) (w : World) : Calls Tryd.prog 29 #[.int .i64 t] w fun e w' => ∃ v', e = .returned v' ∧ TmP w w' v' t := by
  by_cases h0 : t < -62135596800
  · have HP : Hid (PutT t []) := by
      show (if _ then _ else _)
      rw [if_pos (.inl h0)]
    have d0 : decide (t < -62135596800) = true := by simpa using h0
    go_enter Tryd.func29, Tryd.ntmps29
    go_wp2
    go_ret
    exact ⟨_, rfl, ⟨[], OwnN.nought w, HP.out⟩⟩
  · by_cases h1 : 253402300799 < t
    · have HP : Hid (PutT t []) := by
        show (if _ then _ else _)
        rw [if_pos (.inr h1)]
      have d0 : decide (t < -62135596800) = false := by simpa using h0
      have d1 : decide (253402300799 < t) = true := by simpa using h1
      go_enter Tryd.func29, Tryd.ntmps29
      go_wp2
      go_ret
      exact ⟨_, rfl, ⟨[], OwnN.nought w, HP.out⟩⟩
    · obtain ⟨D, hD⟩ : ∃ D, D = (t + 62135596800) / 86400 - 719162 := ⟨_, rfl⟩
      obtain ⟨r, hr⟩ : ∃ r, r = (t + 62135596800) % 86400 := ⟨_, rfl⟩
      by_cases ht : 0 ≤ t
      · exact rputTime_a t D r (D / 366) w (by omega) (by omega) hD hr ht (by omega) (by omega) rfl (by omega)
      · have e1 := Int.mul_tdiv_add_tmod t 86400
        have e2 := tmod_neg t 86400 (by omega) (by decide)
        have e4 := Int.mul_tdiv_add_tmod D 366
        have e5 := tmod_neg D 366 (by omega) (by decide)
        have e6 : -366 < D.tmod 366 ∧ D.tmod 366 ≤ 0 := by rw [e5]; split <;> omega
        clear e5
        by_cases hz : t % 86400 = 0
        · rw [if_pos hz] at e2
          exact rputTime_b t D r (D.tdiv 366) w (by omega) (by omega) hD hr (by omega) (by omega) (by omega) rfl (by omega)
        · rw [if_neg hz] at e2
          exact rputTime_c t D r (D.tdiv 366) w (by omega) (by omega) hD hr (by omega) (by omega) (by omega) rfl (by omega)
end Go.Proofs.YtnidfbcninkglaaDoor
