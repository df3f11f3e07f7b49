/-
  A time written.
-/
import Derived.Test.YtnidfbcninkglaaDoorTx
namespace Go.Proofs.YtnidfbcninkglaaDoor
open Go.RowKit
set_option linter.unusedVariables false
set_option maxRecDepth 100000

theorem PtR.two {w : World} {v : Value} {xs : List Int} (h : Rd w v xs) : PtR (w.alloc (.cells #[v] 22)) (.slice (some ⟨w.heap.size, 0, none⟩) 1 1) [xs] := PtR.one h
theorem flat1 (xs : List Int) : [xs].flatten = xs := by simp
theorem drop_own {w : World} {b o n c : Nat} {xs : List Int} (h : Bs w b o xs) (hn : n = xs.length) (hc : n ≤ c) (hm : c ≤ 9223372036854775807) (k : Nat) (hk : k ≤ n) : Rd w (.slice (some ⟨b, o + k, none⟩) (n - k) (c - k)) (xs.drop k) :=
  Bs.rd (h.drop k) (by rw [List.length_drop]; omega) (by omega) (by omega)

structure TimP (w w' : World) (v : Value) (t : Int) : Prop where
  ex : ∃ l, OwnN w w' v l ∧ PutT t l

set_option maxHeartbeats 3200000 in
theorem putTime_any (t : Int) (w : World) :
    Calls Tryd.prog 28 #[.int .i64 t] w fun e w' => ∃ v', e = .returned v' ∧ TimP w w' v' t := by
  by_cases h0 : t < -62135596800
  · have HP : Hid (PutT t []) := by
      show (if _ then _ else _)
      rw [if_pos (.inl h0)]
    have d0 : decide (t < -62135596800) = true := by simpa using h0
    go_enter Tryd.func28, Tryd.ntmps28
    go_wp2
    go_ret
    exact ⟨_, rfl, ⟨[], OwnN.nought w, HP.out⟩⟩
  · have d0 : decide (t < -62135596800) = false := by simpa using h0
    by_cases h1 : 253402300799 < t
    · have HP : Hid (PutT t []) := by
        show (if _ then _ else _)
        rw [if_pos (.inr h1)]
      have d1 : decide (253402300799 < t) = true := by simpa using h1
      go_enter Tryd.func28, Tryd.ntmps28
      go_wp2
      go_ret
      exact ⟨_, rfl, ⟨[], OwnN.nought w, HP.out⟩⟩
    · have d1 : decide (253402300799 < t) = false := by simpa using h1
      obtain ⟨r, hr⟩ : ∃ r, r = (t + 62135596800) % 86400 := ⟨_, rfl⟩
      have hr0 : 0 ≤ r := by omega
      have hr1 : r < 86400 := by omega
      have HC : Hid (Calls Tryd.prog 52 #[.int .i64 t] w fun e w' => ∃ y m d, e = .returned (.agg #[.int .i64 y, .int .i64 m, .int .i64 d, .int .i64 (r / 3600), .int .i64 (r / 60 % 60), .int .i64 (r % 60)]) ∧ Cal ((t + 62135596800) / 86400) y m d ∧ Chg Non w w') := by
        have := momentAt_any t (by omega) (by omega) w
        unfold mom at this
        rw [← hr] at this
        exact this
      have HP : Hid (∀ y m d, Cal ((t + 62135596800) / 86400) y m d → PutT t (if 1950 ≤ y ∧ y ≤ 2049 then encL 23 ((textL y m d r).drop 2) else encL 24 (textL y m d r))) := by
        intro y m d hc
        show (if _ then _ else _)
        rw [if_neg (by omega)]
        exact ⟨y, m, d, hc, by rw [hr]⟩
      clear hr
      go_enter Tryd.func28, Tryd.ntmps28
      go_wp2_with (go_at_call 52; refine HC.out.mono ?_)
      rintro e w1 y m d rfl hcal hc1
      have hcal' := hcal
      obtain ⟨hy1, hy2, hm1, hm2, hd1, hd2, -⟩ := hcal'
      have hd3 : d ≤ 31 := by have := dim_bd y m; omega
      have HCAL : Hid (Cal ((t + 62135596800) / 86400) y m d) := hcal
      have HC1 : Hid (Chg Non w w1) := hc1
      have HTX : Hid (∀ u, Calls Tryd.prog 53 #[.agg #[.int .i64 y, .int .i64 m, .int .i64 d, .int .i64 (r / 3600), .int .i64 (r / 60 % 60), .int .i64 (r % 60)]] u fun e w' => ∃ v', e = .returned v' ∧ OwnN u w' v' (textL y m d r)) := fun u => text_any y m d r hy1 hy2 hm1 hm2 hd1 hd3 hr0 hr1 u
      clear hcal hc1 hd2 HC
      go_wp2_with (go_at_call 53; refine (HTX.out _).mono ?_)
      rintro e w3 ⟨v3, rfl, hv3⟩
      have hl15 := textL_len y m d r
      obtain ⟨b, o, c, rfl, g1, g2, g3⟩ := hv3.rd.bs (by intro e; rw [e] at hl15; simp at hl15)
      rw [hl15] at g1 ⊢
      have hcy : w3.cell? ⟨w1.heap.size, 0, none⟩ = some (.int .i64 y) := by
        rw [World.cell?_of_block (hv3.chg.block w1.heap.size (by simp) (fun x => x))]
        simp
      have HW3 : Hid (Chg Non w w3) := (HC1.out.alloc _).two hv3.chg
      have HB3 : Hid (Bs w3 b o (textL y m d r)) := g3
      have HL15 : Hid ((textL y m d r).length = 15) := hl15
      have hc2 : ¬ c = 2 := by omega
      obtain ⟨q, hq⟩ : ∃ q, shortB y = q := ⟨_, rfl⟩
      have HQ : Hid (shortB y = q) := hq
      clear hv3 g3 hl15 hq HTX
      cases q
      · have HIF : Hid (¬ (1950 ≤ y ∧ y ≤ 2049)) := by
          show ¬ _
          have := HQ.out
          unfold shortB at this
          simp at this
          omega
        have HPT : Hid (Calls Tryd.prog 15 #[.int .u8 24, .slice (some ⟨w3.heap.size, 0, none⟩) 1 1] (w3.alloc (.cells #[.slice (some ⟨b, o, none⟩) 15 c] 22)) fun e w' => ∃ v', e = .returned v' ∧ OwnN (w3.alloc (.cells #[.slice (some ⟨b, o, none⟩) 15 c] 22)) w' v' (putL 24 (textL y m d r))) := by
          have := put_any 24 (by decide) (by decide) _ _ _ (PtR.one (HB3.out.rd (n := 15) (c := c) HL15.out.symm g1 g2))
          rw [flat1] at this
          exact this
        go_wp2_with (first | (go_at_call 54; refine (short_any y _).mono ?_; rintro e w9 ⟨rfl, hw9⟩; obtain rfl := hw9.symm; rw [HQ.out]) | (go_at_call 15; refine HPT.out.mono ?_; rintro e w4 ⟨v4, rfl, hv4⟩))
        go_ret
        refine ⟨_, rfl, ⟨_, hv4.from (HW3.out.alloc _), ?_⟩⟩
        have h5 := HP.out y m d HCAL.out
        rw [if_neg HIF.out] at h5
        unfold putL
        rw [if_pos ⟨by decide, by rw [HL15.out]; decide⟩]
        exact h5
      · have HIF : Hid (1950 ≤ y ∧ y ≤ 2049) := by
          have := HQ.out
          unfold shortB at this
          simp at this
          exact this
        have HPT : Hid (Calls Tryd.prog 15 #[.int .u8 23, .slice (some ⟨w3.heap.size, 0, none⟩) 1 1] (w3.alloc (.cells #[.slice (some ⟨b, o + 2, none⟩) 13 (c - 2)] 22)) fun e w' => ∃ v', e = .returned v' ∧ OwnN (w3.alloc (.cells #[.slice (some ⟨b, o + 2, none⟩) 13 (c - 2)] 22)) w' v' (putL 23 ((textL y m d r).drop 2))) := by
          have := put_any 23 (by decide) (by decide) _ _ _ (PtR.one (drop_own (n := 15) (c := c) HB3.out HL15.out.symm g1 g2 2 (by omega)))
          rw [flat1] at this
          exact this
        go_wp2_with (first | (go_at_call 54; refine (short_any y _).mono ?_; rintro e w9 ⟨rfl, hw9⟩; obtain rfl := hw9.symm; rw [HQ.out]) | (go_at_call 15; refine HPT.out.mono ?_; rintro e w4 ⟨v4, rfl, hv4⟩))
        go_ret
        refine ⟨_, rfl, ⟨_, hv4.from (HW3.out.alloc _), ?_⟩⟩
        have h5 := HP.out y m d HCAL.out
        rw [if_pos HIF.out] at h5
        unfold putL
        rw [if_pos ⟨by decide, by rw [List.length_drop, HL15.out]; decide⟩]
        exact h5
end Go.Proofs.YtnidfbcninkglaaDoor
