/-
  A length, as the program reads it.
-/
import Derived.Test.YtnidfbcninkglaaDoorVb
namespace Go.Proofs.YtnidfbcninkglaaDoor
open Go.RowKit
set_option linter.unusedVariables false
set_option maxRecDepth 100000

theorem wraps_i63 (n : Int) (h₀ : 0 ≤ n) (h₁ : n < 2 ^ 63) : IntKind.i64.wrap n = n := by rw [IntKind.wrap_i64]; omega
theorem or8 (a b : Nat) (ha : a < 256) (hb : b < 256) : bits .or .i64 ((a : Int) * 256) (b : Int) = ((256 * a + b : Nat) : Int) := by
  have := bits_join .i64 63 (by decide) wraps_i63 8 ((a : Int) * 256) (b : Int) (by omega) (by omega) (by omega) (by omega) (by omega) (by omega)
  rw [this]
  omega
theorem or0 (b : Nat) (hb : b < 256) : bits .or .i64 0 (b : Int) = (b : Int) := by
  have := or8 0 b (by omega) hb
  simpa using this

set_option maxHeartbeats 4000000 in
theorem length_any (v : Value) (xs : List Int) (hb : Byt xs) (w : World) (hv : Rd w v xs) :
    Calls Tryd.prog 59 #[v] w fun e w' => e = .returned (.tuple #[.int .i64 ((lenL xs).2.1 : Nat), .int .i64 ((lenL xs).2.2 : Nat), .int .i64 (lenL xs).1]) ∧ Chg Non w w' := by
  match xs, hb, hv with
  | [], hb, hv =>
    obtain ⟨ao, c, rfl, hc⟩ := hv.empty
    go_enter Tryd.func59, Tryd.ntmps59
    go_wp2
    refine bp3 Tryd.results59 rfl ?_
    exact ⟨rfl, Chg.refl _ _⟩
  | x :: r, hb, hv =>
    obtain ⟨b, o, c, rfl, h1, h2, h3⟩ := hv.bs (by simp)
    have hx := h3.at0
    obtain ⟨h4, h5⟩ := hb.head
    obtain ⟨n, hn⟩ : ∃ n, n = (x :: r).length := ⟨_, rfl⟩
    have hn1 : n = r.length + 1 := by simpa using hn
    have HN : Hid (n = r.length + 1) := hn1
    have i0 : ((n : Int) == 0) = false := by rw [hn]; simp; omega
    rw [← hn] at h1 ⊢
    have H3 : Hid (Bs w b o (x :: r)) := h3
    have i1 : 1 ≤ n := by omega
    clear hv h3 hn
    by_cases e1 : x < 128
    · obtain ⟨y, rfl⟩ := Int.eq_ofNat_of_zero_le h4
      have E : lenL ((y : Int) :: r) = (0, 1, y) := by simp [lenL, e1]
      rw [E]
      have d1 : decide ((y : Int) < 128) = true := by simpa using e1
      clear E hn1 hb e1
      go_enter Tryd.func59, Tryd.ntmps59
      go_upto_region 4 with fail
      go_quiet (fail)
      go_wp2
      refine bp3 Tryd.results59 rfl ?_
      exact ⟨rfl, (Chg.refl _ _).drewN _⟩
    · have d1 : decide (x < 128) = false := by simpa using e1
      by_cases e2 : x = 129
      · subst e2
        by_cases hr : r = []
        · subst hr
          have E : lenL [129] = (141, 0, 0) := by simp [lenL]
          rw [E]
          obtain rfl : n = 1 := by simpa using hn1
          clear E hb HN H3 i0 i1 hn1 e1
          go_enter Tryd.func59, Tryd.ntmps59
          go_wp2
          refine bp3 Tryd.results59 rfl ?_
          exact ⟨rfl, Chg.refl _ _⟩
        · obtain ⟨y, s, rfl⟩ : ∃ y s, r = y :: s := by cases r with | nil => exact absurd rfl hr | cons y s => exact ⟨y, s, rfl⟩
          obtain ⟨h6, h7⟩ := hb.tail.head
          obtain ⟨y, rfl⟩ := Int.eq_ofNat_of_zero_le h6
          have hy := H3.out.at1
          have hn2 : 2 ≤ n := by simp at hn1; omega
          have d2 : decide ((n : Int) < 2) = false := by simp; omega
          have i2 : ¬ c = 1 := by omega
          have HB : Hid (Calls Tryd.prog 41 #[.int .i64 y] w fun e w' => e = .returned (.slice (some ⟨w.heap.size, 0, none⟩) (lenB y).length (lenB y).length) ∧ Rd w' (.slice (some ⟨w.heap.size, 0, none⟩) (lenB y).length (lenB y).length) (lenB y) ∧ Chg Non w w') := lenB_any y (by omega) w
          have hor := or0 y (by omega)
          by_cases e3 : y < 128
          · have E : lenL (129 :: (y : Int) :: s) = (143, 0, 0) := by have : (y : Int) < 128 := by omega
                                                                      simp [lenL, this]
            rw [E]
            have hH : (lenB y).length = 1 := by rw [lenB_len, if_pos e3]
            rw [hH] at HB
            clear hn1 hb hH E e1 HN H3 hr e3
            go_enter Tryd.func59, Tryd.ntmps59
            go_wp2
            refine wp_loop_rounds 2 ?_
            rw [rounds_succ]
            go_wp2
            rw [rounds_succ]
            go_wp2_with (go_at_call 41; refine HB.out.mono ?_; rintro e w1 ⟨rfl, hr1, hc1⟩)
            refine bp3 Tryd.results59 rfl ?_
            exact ⟨rfl, hc1⟩
          · have E : lenL (129 :: (y : Int) :: s) = (0, 2, y) := by have : ¬ (y : Int) < 128 := by omega
                                                                    simp [lenL, this]
            rw [E]
            have hH : (lenB y).length = 2 := by rw [lenB_len, if_neg e3, if_pos (by omega)]
            rw [hH] at HB
            clear hn1 hb hH E e1 HN H3 hr e3
            go_enter Tryd.func59, Tryd.ntmps59
            go_wp2
            refine wp_loop_rounds 2 ?_
            rw [rounds_succ]
            go_wp2
            rw [rounds_succ]
            go_wp2_with (go_at_call 41; refine HB.out.mono ?_; rintro e w1 ⟨rfl, hr1, hc1⟩)
            refine bp3 Tryd.results59 rfl ?_
            exact ⟨rfl, hc1⟩
      · have d2 : (x != 129) = true := by simpa using e2
        by_cases e3 : x = 130
        · subst e3
          by_cases hr : r.length < 2
          · have E : lenL (130 :: r) = (141, 0, 0) := by
              match r, hr with
              | [], _ => simp [lenL]
              | [y], _ => simp [lenL]
            rw [E]
            have d3 : decide ((n : Int) < 3) = true := by simp; omega
            clear E hb HN H3 hn1 e1 e2 hr
            go_enter Tryd.func59, Tryd.ntmps59
            go_wp2
            refine bp3 Tryd.results59 rfl ?_
            exact ⟨rfl, Chg.refl _ _⟩
          · obtain ⟨y, z, s, rfl⟩ : ∃ y z s, r = y :: z :: s := by
              match r, hr with
              | [], h => exact absurd (by simp) h
              | [y], h => exact absurd (by simp) h
              | y :: z :: s, _ => exact ⟨y, z, s, rfl⟩
            obtain ⟨h6, h7⟩ := hb.tail.head
            obtain ⟨y, rfl⟩ := Int.eq_ofNat_of_zero_le h6
            obtain ⟨h8, h9⟩ := hb.tail.tail.head
            obtain ⟨z, rfl⟩ := Int.eq_ofNat_of_zero_le h8
            have hy := H3.out.at1
            have hz : w.cell? ⟨b, o + 1 + 1, none⟩ = some (.int .u8 z) := H3.out.tail.at1
            have hn2 : 3 ≤ n := by simp at hn1; omega
            have d3 : decide ((n : Int) < 3) = false := by simp; omega
            have i2 : ¬ c = 1 := by omega
            obtain ⟨q, hq⟩ : ∃ q, q = 256 * y + z := ⟨_, rfl⟩
            have hor := or0 y (by omega)
            have hor2 : bits .or .i64 ((y : Int) * 256) (z : Int) = (q : Int) := by rw [or8 y z (by omega) (by omega), hq]
            have HB : Hid (Calls Tryd.prog 41 #[.int .i64 q] w fun e w' => e = .returned (.slice (some ⟨w.heap.size, 0, none⟩) (lenB q).length (lenB q).length) ∧ Rd w' (.slice (some ⟨w.heap.size, 0, none⟩) (lenB q).length (lenB q).length) (lenB q) ∧ Chg Non w w') := lenB_any q (by omega) w
            by_cases e3 : y = 0
            · have E : lenL (130 :: (y : Int) :: (z : Int) :: s) = (143, 0, 0) := by rw [e3]; simp [lenL]
              rw [E]
              obtain ⟨H, hH⟩ : ∃ H, H = (lenB q).length := ⟨_, rfl⟩
              have hH3 : ((H : Int) != 3) = true := by
                have : H ≤ 2 := by rw [hH, lenB_len, hq, e3]; split; omega; rw [if_pos (by omega)]; omega
                simp; omega
              rw [← hH] at HB
              clear hn1 hb hH E e1 e2 HN H3 hr e3 hq
              go_enter Tryd.func59, Tryd.ntmps59
              go_wp2
              refine wp_loop_rounds 3 ?_
              rw [rounds_succ]
              go_wp2
              rw [rounds_succ]
              go_wp2
              rw [rounds_succ]
              go_wp2_with (go_at_call 41; refine HB.out.mono ?_; rintro e w1 ⟨rfl, hr1, hc1⟩)
              refine bp3 Tryd.results59 rfl ?_
              exact ⟨rfl, hc1⟩
            · have E : lenL (130 :: (y : Int) :: (z : Int) :: s) = (0, 3, q) := by
                have h5 : ¬ (y : Int) = 0 := by omega
                have h6 : lenL (130 :: (y : Int) :: (z : Int) :: s) = if (y : Int) = 0 then (143, 0, 0) else (0, 3, (256 * (y : Int) + (z : Int)).toNat) := rfl
                have h7 : (256 * (y : Int) + (z : Int)).toNat = q := by omega
                rw [h6, if_neg h5, h7]
              rw [E]
              have hH : (lenB q).length = 3 := by rw [lenB_len, if_neg (by omega), if_neg (by omega)]
              rw [hH] at HB
              clear hn1 hb hH E e1 e2 HN H3 hr e3 hq
              go_enter Tryd.func59, Tryd.ntmps59
              go_wp2
              refine wp_loop_rounds 3 ?_
              rw [rounds_succ]
              go_wp2
              rw [rounds_succ]
              go_wp2
              rw [rounds_succ]
              go_wp2_with (go_at_call 41; refine HB.out.mono ?_; rintro e w1 ⟨rfl, hr1, hc1⟩)
              refine bp3 Tryd.results59 rfl ?_
              exact ⟨rfl, hc1⟩
        · have E : lenL (x :: r) = (143, 0, 0) := by simp [lenL, e1, e2, e3]
          have d3 : (x != 130) = true := by simpa using e3
          rw [E]
          clear E hb HN H3 hn1 e1 e2 e3
          go_enter Tryd.func59, Tryd.ntmps59
          go_wp2
          refine bp3 Tryd.results59 rfl ?_
          exact ⟨rfl, Chg.refl _ _⟩
end Go.Proofs.YtnidfbcninkglaaDoor
