/-
  The document's product of two bytes, and its box.
-/
import Derived.Test.YtfnibmfmjglmlaaByt
namespace Go.Proofs.Ytfnibmfmjglmlaa
open Go.RowKit
set_option linter.unusedVariables false

def dblN (a : By) : Nat → By
  | 0 => a
  | i + 1 => dbl (dblN a i)
def tmN (a b : By) : Nat → By
  | 0 => 0#8
  | i + 1 => if b.getLsbD i then tmN a b i ^^^ dblN a i else tmN a b i
/-- The product. -/
def tms (a b : By) : By := tmN a b 8

theorem bit_num (b : By) (i : Nat) (hi : i < 8) : (Go.bits .and .u8 ((b.toNat : Int) / 2 ^ i) 1 == 1) = b.getLsbD i := by
  have h : ∀ i, i < 8 → ∀ j, j < 256 → (Go.bits .and .u8 (((BitVec.ofNat 8 j).toNat : Int) / 2 ^ i) 1 == 1) = (BitVec.ofNat 8 j).getLsbD i := by decide +kernel
  exact all_bytes (p := fun b => (Go.bits .and .u8 ((b.toNat : Int) / 2 ^ i) 1 == 1) = b.getLsbD i) (h i hi) b

set_option maxRecDepth 100000 in
theorem times_any (a b : By) (w : World) : Calls Try.prog 27 #[.int .u8 (a.toNat : Int), .int .u8 (b.toNat : Int)] w fun r w' => r = .returned (.int .u8 ((tms a b).toNat : Int)) ∧ w' = w := by
  go_enter Try.func27, Try.ntmps27
  go_wp2_with fail
  go_loopw [0, 5, 6] (fun v0 v5 v6 wr => ∃ (i : Nat), v6 = .int .i64 i ∧ i ≤ 8 ∧ v0 = .int .u8 ((dblN a i).toNat : Int) ∧ v5 = .int .u8 ((tmN a b i).toNat : Int) ∧ wr = w) (fun v0 v5 v6 wr => 8 - (intOf v6).toNat)
  case atStart => exact ⟨0, rfl, by omega, rfl, rfl, rfl⟩
  case round =>
    obtain ⟨i, rfl, hi, rfl, rfl, rfl⟩ := hrel
    by_cases h8 : i < 8
    · have hd : decide ((i : Int) < 8) = true := by simp; omega
      have hb := bit_num b i h8
      obtain ⟨A, hA⟩ : ∃ A, A = dblN a i := ⟨_, rfl⟩
      obtain ⟨O, hO⟩ : ∃ O, O = tmN a b i := ⟨_, rfl⟩
      have HA : Hid (dblN a (i + 1) = dbl A) := by show dblN a (i + 1) = _; rw [hA, dblN]
      have HO : Hid (tmN a b (i + 1) = if b.getLsbD i then O ^^^ A else O) := by show tmN a b (i + 1) = _; rw [hO, hA, tmN]
      rw [← hA, ← hO]
      clear hA hO
      have li : (i : Int) < 8 := by omega
      cases hc : b.getLsbD i with
      | true =>
        rw [hc] at hb
        have HO2 : Hid (tmN a b (i + 1) = O ^^^ A) := by show _ = _; rw [HO.out, hc]; rfl
        clear HO hc
        go_wp2_with fail
        all_goals
          rename_i h
          go_roundw
          case rel => exact ⟨i + 1, by go_num, by omega, by rw [HA.out]; first | rw [dbl_num1 A h] | rw [dbl_num0 A h], by rw [HO2.out, xorB], by trivial⟩
          case measure => simp [intOf]; omega
      | false =>
        rw [hc] at hb
        have HO2 : Hid (tmN a b (i + 1) = O) := by show _ = _; rw [HO.out, hc]; rfl
        clear HO hc
        go_wp2_with fail
        all_goals
          rename_i h
          go_roundw
          case rel => exact ⟨i + 1, by go_num, by omega, by rw [HA.out]; first | rw [dbl_num1 A h] | rw [dbl_num0 A h], by rw [HO2.out], by trivial⟩
          case measure => simp [intOf]; omega
    · have : i = 8 := by omega
      subst this
      go_wp2
      go_ret
      exact ⟨rfl, rfl⟩

def bxN (b : By) : Nat → By
  | 0 => 1#8
  | j + 1 => if j < 7 then tms (tms (bxN b j) (bxN b j)) b else tms (bxN b j) (bxN b j)
theorem bxN_sb (x : By) : bo (bxN x 8) = sb x := by
  revert x
  refine all_bytes ?_
  decide +kernel

set_option maxRecDepth 100000 in
theorem box_any (x : By) (w : World) : Calls Try.prog 48 #[.int .u8 (x.toNat : Int)] w fun r w' => r = .returned (.int .u8 ((sb x).toNat : Int)) ∧ Chg w w' := by
  go_enter Try.func48, Try.ntmps48
  go_wp2_with fail
  go_loopw [3, 4] (fun v3 v4 wr => ∃ (j : Nat), v4 = .int .i64 (7 - (j : Int)) ∧ j ≤ 8 ∧ v3 = .int .u8 ((bxN x j).toNat : Int) ∧ wr = w) (fun v3 v4 wr => (intOf v4 + 1).toNat)
  case atStart => exact ⟨0, rfl, by omega, rfl, rfl⟩
  case round =>
    obtain ⟨j, rfl, hj, rfl, rfl⟩ := hrel
    obtain ⟨C, hC⟩ : ∃ C, C = bxN x j := ⟨_, rfl⟩
    have HC : Hid (C = bxN x j) := hC
    rw [← hC]
    clear hC
    by_cases h8 : j < 8
    · obtain ⟨q, hq⟩ : ∃ q : Nat, (7 : Int) - j = q := ⟨7 - j, by omega⟩
      rw [hq]
      have h1 : decide ((0 : Int) ≤ q) = true := by simp
      have lq : (q : Int) < 64 := by omega
      have HN : Hid (bxN x (j + 1) = if j < 7 then tms (tms C C) x else tms C C) := by show bxN x (j + 1) = _; rw [HC.out, bxN]
      by_cases h7 : j < 7
      · have hb : (Go.bits .and .i64 ((254 : Int) / 2 ^ q) 1 == 1) = true := by
          have : q = 7 ∨ q = 6 ∨ q = 5 ∨ q = 4 ∨ q = 3 ∨ q = 2 ∨ q = 1 := by omega
          rcases this with rfl | rfl | rfl | rfl | rfl | rfl | rfl <;> decide
        have HN2 : Hid (bxN x (j + 1) = tms (tms C C) x) := by show _ = _; rw [HN.out, if_pos h7]
        clear HN
        go_wp2_with (go_at_call 27; refine (times_any _ _ _).mono ?_; rintro r w1 ⟨rfl, hw1⟩; rw [hw1])
        go_roundw
        case rel => exact ⟨j + 1, by go_num, by omega, by rw [HN2.out], by trivial⟩
        case measure => simp [intOf]
      · have hq0 : q = 0 := by omega
        subst hq0
        have HN2 : Hid (bxN x (j + 1) = tms C C) := by show _ = _; rw [HN.out, if_neg h7]
        clear HN
        go_wp2_with (go_at_call 27; refine (times_any _ _ _).mono ?_; rintro r w1 ⟨rfl, hw1⟩; rw [hw1])
        go_roundw
        case rel => exact ⟨j + 1, by go_num, by omega, by rw [HN2.out], by trivial⟩
        case measure => simp [intOf]
    · have : j = 8 := by omega
      subst this
      have HS : Hid (((bo C).toNat : Int) = ((sb x).toNat : Int)) := by show _ = _; rw [HC.out, bxN_sb]
      have HW : Hid (Chg wr wr) := Chg.refl wr
      go_wp2_with fail
      go_at_call 56
      refine (left_any C 1 _ (by decide) (by decide)).mono ?_
      rintro r w1 ⟨rfl, m1, rfl⟩
      go_wp2_with fail
      go_at_call 56
      refine (left_any C 2 _ (by decide) (by decide)).mono ?_
      rintro r w1 ⟨rfl, m2, rfl⟩
      go_wp2_with fail
      go_at_call 56
      refine (left_any C 3 _ (by decide) (by decide)).mono ?_
      rintro r w1 ⟨rfl, m3, rfl⟩
      go_wp2_with fail
      go_at_call 56
      refine (left_any C 4 _ (by decide) (by decide)).mono ?_
      rintro r w1 ⟨rfl, m4, rfl⟩
      go_wp2
      go_ret
      exact ⟨ret8 ((bo_num C).trans HS.out), HW.out.drewN _⟩
end Go.Proofs.Ytfnibmfmjglmlaa
