/-
  The document's product of two bytes, and its box.
  The live question's answer, reckoned: a fixed block under a fixed key.
  The live question of the locks, reckoned: a key of noughts, the block that is counted 1.
  The live question of the locks: head.
-/
import Derived.Test.YtobglgddbhddnaaGreatJ01
import Derived.Test.YtobglgddbhddnaaGreatJ00
import Derived.Test.YtobglgddbhddnaaGreatJ10
namespace Go.Proofs.YtobglgddbhddnaaGreat
open Go.RowKit
set_option linter.unusedVariables false

def dblN (a : By) : Nat → By
  | 0 => a
  | i + 1 => dbl (dblN a i)
def tmN (a b : By) : Nat → By
  | 0 => 0#8
  | i + 1 => if b.getLsbD i then tmN a b i ^^^ dblN a i else tmN a b i
/-- The product. -/
def tms (a b : By) : By := tmN a b 8

theorem bit_num (b : By) (i : Nat) (hi : i < 8) : (Go.bits .and .u8 ((b.toNat : Int) / 2 ^ i) 1 == 1) = b.getLsbD i := by
  have h : ∀ i, i < 8 → ∀ j, j < 256 → (Go.bits .and .u8 (((BitVec.ofNat 8 j).toNat : Int) / 2 ^ i) 1 == 1) = (BitVec.ofNat 8 j).getLsbD i := by decide +kernel
  exact all_bytes (p := fun b => (Go.bits .and .u8 ((b.toNat : Int) / 2 ^ i) 1 == 1) = b.getLsbD i) (h i hi) b

set_option maxRecDepth 100000 in
theorem times_any (a b : By) (w : World) : Calls Tryz.prog 36 #[.int .u8 (a.toNat : Int), .int .u8 (b.toNat : Int)] w fun r w' => r = .returned (.int .u8 ((tms a b).toNat : Int)) ∧ w' = w := by
  go_enter Tryz.func36, Tryz.ntmps36
  go_wp2_with fail
  go_loopw [0, 5, 6] (fun v0 v5 v6 wr => ∃ (i : Nat), v6 = .int .i64 i ∧ i ≤ 8 ∧ v0 = .int .u8 ((dblN a i).toNat : Int) ∧ v5 = .int .u8 ((tmN a b i).toNat : Int) ∧ wr = w) (fun v0 v5 v6 wr => 8 - (intOf v6).toNat)
  case atStart => exact ⟨0, rfl, by omega, rfl, rfl, rfl⟩
  case round =>
    obtain ⟨i, rfl, hi, rfl, rfl, rfl⟩ := hrel
    by_cases h8 : i < 8
    · have hd : decide ((i : Int) < 8) = true := by simp; omega
      have hb := bit_num b i h8
      obtain ⟨A, hA⟩ : ∃ A, A = dblN a i := ⟨_, rfl⟩
      obtain ⟨O, hO⟩ : ∃ O, O = tmN a b i := ⟨_, rfl⟩
      have HA : Hid (dblN a (i + 1) = dbl A) := by show dblN a (i + 1) = _; rw [hA, dblN]
      have HO : Hid (tmN a b (i + 1) = if b.getLsbD i then O ^^^ A else O) := by show tmN a b (i + 1) = _; rw [hO, hA, tmN]
      rw [← hA, ← hO]
      clear hA hO
      have li : (i : Int) < 8 := by omega
      cases hc : b.getLsbD i with
      | true =>
        rw [hc] at hb
        have HO2 : Hid (tmN a b (i + 1) = O ^^^ A) := by show _ = _; rw [HO.out, hc]; rfl
        clear HO hc
        go_wp2_with fail
        all_goals
          rename_i h
          go_roundw
          case rel => exact ⟨i + 1, by go_num, by omega, by rw [HA.out]; first | rw [dbl_num1 A h] | rw [dbl_num0 A h], by rw [HO2.out, xorB], by trivial⟩
          case measure => simp [intOf]; omega
      | false =>
        rw [hc] at hb
        have HO2 : Hid (tmN a b (i + 1) = O) := by show _ = _; rw [HO.out, hc]; rfl
        clear HO hc
        go_wp2_with fail
        all_goals
          rename_i h
          go_roundw
          case rel => exact ⟨i + 1, by go_num, by omega, by rw [HA.out]; first | rw [dbl_num1 A h] | rw [dbl_num0 A h], by rw [HO2.out], by trivial⟩
          case measure => simp [intOf]; omega
    · have : i = 8 := by omega
      subst this
      go_wp2
      go_ret
      exact ⟨rfl, rfl⟩

def bxN (b : By) : Nat → By
  | 0 => 1#8
  | j + 1 => if j < 7 then tms (tms (bxN b j) (bxN b j)) b else tms (bxN b j) (bxN b j)
theorem bxN_sb (x : By) : bo (bxN x 8) = sb x := by
  revert x
  refine all_bytes ?_
  decide +kernel

set_option maxRecDepth 100000 in
theorem box_any (x : By) (w : World) : Calls Tryz.prog 53 #[.int .u8 (x.toNat : Int)] w fun r w' => r = .returned (.int .u8 ((sb x).toNat : Int)) ∧ Chg w w' := by
  go_enter Tryz.func53, Tryz.ntmps53
  go_wp2_with fail
  go_loopw [3, 4] (fun v3 v4 wr => ∃ (j : Nat), v4 = .int .i64 (7 - (j : Int)) ∧ j ≤ 8 ∧ v3 = .int .u8 ((bxN x j).toNat : Int) ∧ wr = w) (fun v3 v4 wr => (intOf v4 + 1).toNat)
  case atStart => exact ⟨0, rfl, by omega, rfl, rfl⟩
  case round =>
    obtain ⟨j, rfl, hj, rfl, rfl⟩ := hrel
    obtain ⟨C, hC⟩ : ∃ C, C = bxN x j := ⟨_, rfl⟩
    have HC : Hid (C = bxN x j) := hC
    rw [← hC]
    clear hC
    by_cases h8 : j < 8
    · obtain ⟨q, hq⟩ : ∃ q : Nat, (7 : Int) - j = q := ⟨7 - j, by omega⟩
      rw [hq]
      have h1 : decide ((0 : Int) ≤ q) = true := by simp
      have lq : (q : Int) < 64 := by omega
      have HN : Hid (bxN x (j + 1) = if j < 7 then tms (tms C C) x else tms C C) := by show bxN x (j + 1) = _; rw [HC.out, bxN]
      by_cases h7 : j < 7
      · have hb : (Go.bits .and .i64 ((254 : Int) / 2 ^ q) 1 == 1) = true := by
          have : q = 7 ∨ q = 6 ∨ q = 5 ∨ q = 4 ∨ q = 3 ∨ q = 2 ∨ q = 1 := by omega
          rcases this with rfl | rfl | rfl | rfl | rfl | rfl | rfl <;> decide
        have HN2 : Hid (bxN x (j + 1) = tms (tms C C) x) := by show _ = _; rw [HN.out, if_pos h7]
        clear HN
        go_wp2_with (go_at_call 36; refine (times_any _ _ _).mono ?_; rintro r w1 ⟨rfl, hw1⟩; rw [hw1])
        go_roundw
        case rel => exact ⟨j + 1, by go_num, by omega, by rw [HN2.out], by trivial⟩
        case measure => simp [intOf]
      · have hq0 : q = 0 := by omega
        subst hq0
        have HN2 : Hid (bxN x (j + 1) = tms C C) := by show _ = _; rw [HN.out, if_neg h7]
        clear HN
        go_wp2_with (go_at_call 36; refine (times_any _ _ _).mono ?_; rintro r w1 ⟨rfl, hw1⟩; rw [hw1])
        go_roundw
        case rel => exact ⟨j + 1, by go_num, by omega, by rw [HN2.out], by trivial⟩
        case measure => simp [intOf]
    · have : j = 8 := by omega
      subst this
      have HS : Hid (((bo C).toNat : Int) = ((sb x).toNat : Int)) := by show _ = _; rw [HC.out, bxN_sb]
      have HW : Hid (Chg wr wr) := Chg.refl wr
      go_wp2_with fail
      go_at_call 70
      refine (left_any C 1 _ (by decide) (by decide)).mono ?_
      rintro r w1 ⟨rfl, m1, rfl⟩
      go_wp2_with fail
      go_at_call 70
      refine (left_any C 2 _ (by decide) (by decide)).mono ?_
      rintro r w1 ⟨rfl, m2, rfl⟩
      go_wp2_with fail
      go_at_call 70
      refine (left_any C 3 _ (by decide) (by decide)).mono ?_
      rintro r w1 ⟨rfl, m3, rfl⟩
      go_wp2_with fail
      go_at_call 70
      refine (left_any C 4 _ (by decide) (by decide)).mono ?_
      rintro r w1 ⟨rfl, m4, rfl⟩
      go_wp2
      go_ret
      exact ⟨ret8 ((bo_num C).trans HS.out), HW.out.drewN _⟩
end Go.Proofs.YtobglgddbhddnaaGreat

namespace Go.Proofs.YtobglgddbhddnaaGreat
set_option linter.unusedVariables false

def ofL (l : List Nat) : Nat → By := fun i => BitVec.ofNat 8 (l.getD i 0)
def hK : List Nat := [0, 1, 2, 3, 4, 5, 6, 7, 8, 9, 10, 11, 12, 13, 14, 15, 214, 170, 116, 253, 210, 175, 114, 250, 218, 166, 120, 241, 214, 171, 118, 254, 182, 146, 207, 11, 100, 61, 189, 241, 190, 155, 197, 0, 104, 48, 179, 254, 182, 255, 116, 78, 210, 194, 201, 191, 108, 89, 12, 191, 4, 105, 191, 65, 71, 247, 247, 188, 149, 53, 62, 3, 249, 108, 50, 188, 253, 5, 141, 253, 60, 170, 163, 232, 169, 159, 157, 235, 80, 243, 175, 87, 173, 246, 34, 170, 94, 57, 15, 125, 247, 166, 146, 150, 167, 85, 61, 193, 10, 163, 31, 107, 20, 249, 112, 26, 227, 95, 226, 140, 68, 10, 223, 77, 78, 169, 192, 38, 71, 67, 135, 53, 164, 28, 101, 185, 224, 22, 186, 244, 174, 191, 122, 210, 84, 153, 50, 209, 240, 133, 87, 104, 16, 147, 237, 156, 190, 44, 151, 78, 19, 17, 29, 127, 227, 148, 74, 23, 243, 7, 167, 139, 77, 43, 48, 197]
def hKey : Nat → By := fun i => BitVec.ofNat 8 i
def hBlk : Nat → By := fun i => BitVec.ofNat 8 (17 * i)
def hAns : Nat → By := ofL [105, 196, 224, 216, 106, 123, 4, 48, 216, 205, 183, 128, 112, 180, 197, 90]
def hS0 : List Nat := [0, 16, 32, 48, 64, 80, 96, 112, 128, 144, 160, 176, 192, 208, 224, 240]
def hS1 : List Nat := [137, 216, 16, 232, 133, 90, 206, 104, 45, 24, 67, 216, 203, 18, 143, 228]
def hS2 : List Nat := [73, 21, 89, 143, 85, 229, 215, 160, 218, 202, 148, 250, 31, 10, 99, 247]
def hS3 : List Nat := [250, 99, 106, 40, 37, 179, 57, 201, 64, 102, 138, 49, 87, 36, 77, 23]
def hS4 : List Nat := [36, 114, 64, 35, 105, 102, 179, 250, 110, 210, 117, 50, 136, 66, 91, 108]
def hS5 : List Nat := [200, 22, 119, 188, 155, 122, 201, 59, 37, 2, 121, 146, 176, 38, 25, 150]
def hS6 : List Nat := [198, 47, 225, 9, 247, 94, 237, 195, 204, 121, 57, 93, 132, 249, 207, 93]
def hS7 : List Nat := [209, 135, 108, 15, 121, 196, 48, 10, 180, 85, 148, 173, 214, 111, 244, 31]
def hS8 : List Nat := [253, 227, 186, 210, 5, 229, 208, 215, 53, 71, 150, 78, 241, 254, 55, 241]
def hS9 : List Nat := [189, 110, 124, 61, 242, 181, 119, 158, 11, 97, 33, 110, 139, 16, 182, 137]

theorem hKs : Ks 4 44 hKey (ofL hK) := by
  refine ⟨?_, ?_⟩
  · decide +kernel
  · have h : ∀ i, i < 44 → 4 ≤ i → ∀ r, r < 4 → ofL hK (4 * i + r) = ofL hK (4 * (i - 4) + r) ^^^ tw 4 (ofL hK) i r := by decide +kernel
    exact fun i h1 h2 r hr => h i h2 h1 r hr
theorem hR0 : E16 (rnds (ofL hK) hBlk 0) (ofL hS0) := by
  have h : ∀ j, j < 16 → xr hBlk (rk (ofL hK) 0) j = ofL hS0 j := by decide +kernel
  exact h
theorem hR1 : E16 (rnds (ofL hK) hBlk 1) (ofL hS1) := by
  have h : ∀ j, j < 16 → xr (mc (mv (ofL hS0))) (rk (ofL hK) 1) j = ofL hS1 j := by decide +kernel
  exact (hR0.mv.mc.xr (E16.refl (rk (ofL hK) 1))).trans h
theorem hR2 : E16 (rnds (ofL hK) hBlk 2) (ofL hS2) := by
  have h : ∀ j, j < 16 → xr (mc (mv (ofL hS1))) (rk (ofL hK) 2) j = ofL hS2 j := by decide +kernel
  exact (hR1.mv.mc.xr (E16.refl (rk (ofL hK) 2))).trans h
theorem hR3 : E16 (rnds (ofL hK) hBlk 3) (ofL hS3) := by
  have h : ∀ j, j < 16 → xr (mc (mv (ofL hS2))) (rk (ofL hK) 3) j = ofL hS3 j := by decide +kernel
  exact (hR2.mv.mc.xr (E16.refl (rk (ofL hK) 3))).trans h
theorem hR4 : E16 (rnds (ofL hK) hBlk 4) (ofL hS4) := by
  have h : ∀ j, j < 16 → xr (mc (mv (ofL hS3))) (rk (ofL hK) 4) j = ofL hS4 j := by decide +kernel
  exact (hR3.mv.mc.xr (E16.refl (rk (ofL hK) 4))).trans h
theorem hR5 : E16 (rnds (ofL hK) hBlk 5) (ofL hS5) := by
  have h : ∀ j, j < 16 → xr (mc (mv (ofL hS4))) (rk (ofL hK) 5) j = ofL hS5 j := by decide +kernel
  exact (hR4.mv.mc.xr (E16.refl (rk (ofL hK) 5))).trans h
theorem hR6 : E16 (rnds (ofL hK) hBlk 6) (ofL hS6) := by
  have h : ∀ j, j < 16 → xr (mc (mv (ofL hS5))) (rk (ofL hK) 6) j = ofL hS6 j := by decide +kernel
  exact (hR5.mv.mc.xr (E16.refl (rk (ofL hK) 6))).trans h
theorem hR7 : E16 (rnds (ofL hK) hBlk 7) (ofL hS7) := by
  have h : ∀ j, j < 16 → xr (mc (mv (ofL hS6))) (rk (ofL hK) 7) j = ofL hS7 j := by decide +kernel
  exact (hR6.mv.mc.xr (E16.refl (rk (ofL hK) 7))).trans h
theorem hR8 : E16 (rnds (ofL hK) hBlk 8) (ofL hS8) := by
  have h : ∀ j, j < 16 → xr (mc (mv (ofL hS7))) (rk (ofL hK) 8) j = ofL hS8 j := by decide +kernel
  exact (hR7.mv.mc.xr (E16.refl (rk (ofL hK) 8))).trans h
theorem hR9 : E16 (rnds (ofL hK) hBlk 9) (ofL hS9) := by
  have h : ∀ j, j < 16 → xr (mc (mv (ofL hS8))) (rk (ofL hK) 9) j = ofL hS9 j := by decide +kernel
  exact (hR8.mv.mc.xr (E16.refl (rk (ofL hK) 9))).trans h
theorem hEnc {k : Nat → By} (h : Ks 4 44 hKey k) : E16 (enc 10 k hBlk) hAns := by
  have hk := h.unique (by decide) hKs (fun _ _ => rfl)
  have h1 : E16 (enc 10 k hBlk) (enc 10 (ofL hK) hBlk) := E16.enc (fun j hj => hk j (by omega)) (E16.refl _)
  have h2 : ∀ j, j < 16 → xr (mv (ofL hS9)) (rk (ofL hK) 10) j = hAns j := by decide +kernel
  exact h1.trans ((hR9.mv.xr (E16.refl (rk (ofL hK) 10))).trans h2)
end Go.Proofs.YtobglgddbhddnaaGreat

namespace Go.Proofs.YtobglgddbhddnaaGreat
set_option linter.unusedVariables false

def gK : List Nat := [0, 0, 0, 0, 0, 0, 0, 0, 0, 0, 0, 0, 0, 0, 0, 0, 98, 99, 99, 99, 98, 99, 99, 99, 98, 99, 99, 99, 98, 99, 99, 99, 155, 152, 152, 201, 249, 251, 251, 170, 155, 152, 152, 201, 249, 251, 251, 170, 144, 151, 52, 80, 105, 108, 207, 250, 242, 244, 87, 51, 11, 15, 172, 153, 238, 6, 218, 123, 135, 106, 21, 129, 117, 158, 66, 178, 126, 145, 238, 43, 127, 46, 43, 136, 248, 68, 62, 9, 141, 218, 124, 187, 243, 75, 146, 144, 236, 97, 75, 133, 20, 37, 117, 140, 153, 255, 9, 55, 106, 180, 155, 167, 33, 117, 23, 135, 53, 80, 98, 11, 172, 175, 107, 60, 198, 27, 240, 155, 14, 249, 3, 51, 59, 169, 97, 56, 151, 6, 10, 4, 81, 29, 250, 159, 177, 212, 216, 226, 138, 125, 185, 218, 29, 123, 179, 222, 76, 102, 73, 65, 180, 239, 91, 203, 62, 146, 226, 17, 35, 233, 81, 207, 111, 143, 24, 142]
def gBlk : Nat → By := fun i => if i = 15 then 1#8 else 0#8
def gAns : Nat → By := ofL [88, 226, 252, 206, 250, 126, 48, 97, 54, 127, 29, 87, 164, 231, 69, 90]
def gS0 : List Nat := [0, 0, 0, 0, 0, 0, 0, 0, 0, 0, 0, 0, 0, 0, 0, 1]
def gS1 : List Nat := [30, 31, 33, 62, 1, 0, 0, 0, 1, 0, 0, 0, 1, 0, 0, 0]
def gS2 : List Nat := [218, 234, 234, 153, 117, 86, 239, 81, 88, 93, 195, 21, 90, 218, 36, 75]
def gS3 : List Nat := [107, 120, 64, 75, 68, 221, 91, 251, 137, 115, 23, 228, 120, 135, 219, 170]
def gS4 : List Nat := [20, 71, 112, 136, 49, 23, 38, 231, 31, 3, 241, 64, 146, 108, 39, 163]
def gS5 : List Nat := [48, 221, 102, 216, 232, 254, 86, 127, 35, 221, 233, 210, 104, 84, 147, 4]
def gS6 : List Nat := [222, 216, 197, 211, 220, 57, 47, 229, 84, 30, 4, 241, 188, 21, 162, 105]
def gS7 : List Nat := [38, 184, 247, 169, 232, 26, 72, 30, 120, 21, 53, 10, 27, 34, 38, 25]
def gS8 : List Nat := [68, 36, 6, 182, 217, 81, 56, 157, 64, 77, 99, 196, 149, 251, 52, 133]
def gS9 : List Nat := [131, 247, 93, 208, 136, 243, 141, 226, 47, 131, 137, 25, 89, 53, 127, 54]

theorem gKs : Ks 4 44 (fun _ => 0#8) (ofL gK) := by
  refine ⟨?_, ?_⟩
  · decide +kernel
  · have h : ∀ i, i < 44 → 4 ≤ i → ∀ r, r < 4 → ofL gK (4 * i + r) = ofL gK (4 * (i - 4) + r) ^^^ tw 4 (ofL gK) i r := by decide +kernel
    exact fun i h1 h2 => h i h2 h1
theorem gR0 : E16 (rnds (ofL gK) gBlk 0) (ofL gS0) := by
  have h : ∀ j, j < 16 → xr gBlk (rk (ofL gK) 0) j = ofL gS0 j := by decide +kernel
  exact h
theorem gR1 : E16 (rnds (ofL gK) gBlk 1) (ofL gS1) := by
  have h : ∀ j, j < 16 → xr (mc (mv (ofL gS0))) (rk (ofL gK) 1) j = ofL gS1 j := by decide +kernel
  exact (gR0.mv.mc.xr (E16.refl (rk (ofL gK) 1))).trans h
theorem gR2 : E16 (rnds (ofL gK) gBlk 2) (ofL gS2) := by
  have h : ∀ j, j < 16 → xr (mc (mv (ofL gS1))) (rk (ofL gK) 2) j = ofL gS2 j := by decide +kernel
  exact (gR1.mv.mc.xr (E16.refl (rk (ofL gK) 2))).trans h
theorem gR3 : E16 (rnds (ofL gK) gBlk 3) (ofL gS3) := by
  have h : ∀ j, j < 16 → xr (mc (mv (ofL gS2))) (rk (ofL gK) 3) j = ofL gS3 j := by decide +kernel
  exact (gR2.mv.mc.xr (E16.refl (rk (ofL gK) 3))).trans h
theorem gR4 : E16 (rnds (ofL gK) gBlk 4) (ofL gS4) := by
  have h : ∀ j, j < 16 → xr (mc (mv (ofL gS3))) (rk (ofL gK) 4) j = ofL gS4 j := by decide +kernel
  exact (gR3.mv.mc.xr (E16.refl (rk (ofL gK) 4))).trans h
theorem gR5 : E16 (rnds (ofL gK) gBlk 5) (ofL gS5) := by
  have h : ∀ j, j < 16 → xr (mc (mv (ofL gS4))) (rk (ofL gK) 5) j = ofL gS5 j := by decide +kernel
  exact (gR4.mv.mc.xr (E16.refl (rk (ofL gK) 5))).trans h
theorem gR6 : E16 (rnds (ofL gK) gBlk 6) (ofL gS6) := by
  have h : ∀ j, j < 16 → xr (mc (mv (ofL gS5))) (rk (ofL gK) 6) j = ofL gS6 j := by decide +kernel
  exact (gR5.mv.mc.xr (E16.refl (rk (ofL gK) 6))).trans h
theorem gR7 : E16 (rnds (ofL gK) gBlk 7) (ofL gS7) := by
  have h : ∀ j, j < 16 → xr (mc (mv (ofL gS6))) (rk (ofL gK) 7) j = ofL gS7 j := by decide +kernel
  exact (gR6.mv.mc.xr (E16.refl (rk (ofL gK) 7))).trans h
theorem gR8 : E16 (rnds (ofL gK) gBlk 8) (ofL gS8) := by
  have h : ∀ j, j < 16 → xr (mc (mv (ofL gS7))) (rk (ofL gK) 8) j = ofL gS8 j := by decide +kernel
  exact (gR7.mv.mc.xr (E16.refl (rk (ofL gK) 8))).trans h
theorem gR9 : E16 (rnds (ofL gK) gBlk 9) (ofL gS9) := by
  have h : ∀ j, j < 16 → xr (mc (mv (ofL gS8))) (rk (ofL gK) 9) j = ofL gS9 j := by decide +kernel
  exact (gR8.mv.mc.xr (E16.refl (rk (ofL gK) 9))).trans h
theorem gEnc {k : Nat → By} (h : Ks 4 44 (fun _ => 0#8) k) : E16 (enc 10 k gBlk) gAns := by
  have hk := h.unique (by decide) gKs (fun _ _ => rfl)
  have h1 : E16 (enc 10 k gBlk) (enc 10 (ofL gK) gBlk) := E16.enc (fun j hj => hk j (by omega)) (E16.refl _)
  have h2 : ∀ j, j < 16 → xr (mv (ofL gS9)) (rk (ofL gK) 10) j = gAns j := by decide +kernel
  exact h1.trans ((gR9.mv.xr (E16.refl (rk (ofL gK) 10))).trans h2)
end Go.Proofs.YtobglgddbhddnaaGreat

namespace Go.Proofs.YtobglgddbhddnaaGreat
open Go.RowKit
set_option linter.unusedVariables false

theorem nb_zero : nb 0 = 0 := rfl
theorem lens_zero : lens 0 0 = 0#128 := by decide +kernel
theorem ghash_nil (h ta tx : Nat → By) (j : Nat) (hj : j < 16) : ghash h ta 0 tx 0 j = 0#8 := by
  unfold ghash
  rw [nb_zero, lens_zero]
  show byt (pr (0#128 ^^^ 0#128) (pol h)) j = 0#8
  rw [BitVec.xor_self, pr_zero_left]
  have : ∀ j, j < 16 → byt 0#128 j = 0#8 := by decide +kernel
  exact this j hj
theorem head_tag {k : Nat → By} (hk : Ks 4 44 zB k) (ta tx : Nat → By) : nums 16 (sealF 10 k zB ta 0 tx 0) = nums 16 gAns := by
  refine nums_congr fun j hj => ?_
  rw [sealF, if_neg (by omega), tagF, xr, Nat.sub_zero, ghash_nil _ _ _ _ hj, BitVec.zero_xor, ← gEnc (k := k) hk j hj]
  refine E16.enc (fun _ _ => rfl) (fun i hi => ?_) j hj
  unfold ctrB gBlk zB
  by_cases h1 : i = 15
  · rw [if_neg (by omega), if_pos h1]
  · rw [if_neg h1]
    split <;> rfl

end Go.Proofs.YtobglgddbhddnaaGreat
