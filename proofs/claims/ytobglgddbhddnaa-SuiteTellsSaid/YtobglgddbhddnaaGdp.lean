/-
  The live question of the locks, reckoned: a key of noughts, the block that is counted 1.
-/
import Derived.Test.YtobglgddbhddnaaHdp
namespace Go.Proofs.Ytobglgddbhddnaa
set_option linter.unusedVariables false

def gK : List Nat := [0, 0, 0, 0, 0, 0, 0, 0, 0, 0, 0, 0, 0, 0, 0, 0, 98, 99, 99, 99, 98, 99, 99, 99, 98, 99, 99, 99, 98, 99, 99, 99, 155, 152, 152, 201, 249, 251, 251, 170, 155, 152, 152, 201, 249, 251, 251, 170, 144, 151, 52, 80, 105, 108, 207, 250, 242, 244, 87, 51, 11, 15, 172, 153, 238, 6, 218, 123, 135, 106, 21, 129, 117, 158, 66, 178, 126, 145, 238, 43, 127, 46, 43, 136, 248, 68, 62, 9, 141, 218, 124, 187, 243, 75, 146, 144, 236, 97, 75, 133, 20, 37, 117, 140, 153, 255, 9, 55, 106, 180, 155, 167, 33, 117, 23, 135, 53, 80, 98, 11, 172, 175, 107, 60, 198, 27, 240, 155, 14, 249, 3, 51, 59, 169, 97, 56, 151, 6, 10, 4, 81, 29, 250, 159, 177, 212, 216, 226, 138, 125, 185, 218, 29, 123, 179, 222, 76, 102, 73, 65, 180, 239, 91, 203, 62, 146, 226, 17, 35, 233, 81, 207, 111, 143, 24, 142]
def gBlk : Nat → By := fun i => if i = 15 then 1#8 else 0#8
def gAns : Nat → By := ofL [88, 226, 252, 206, 250, 126, 48, 97, 54, 127, 29, 87, 164, 231, 69, 90]
def gS0 : List Nat := [0, 0, 0, 0, 0, 0, 0, 0, 0, 0, 0, 0, 0, 0, 0, 1]
def gS1 : List Nat := [30, 31, 33, 62, 1, 0, 0, 0, 1, 0, 0, 0, 1, 0, 0, 0]
def gS2 : List Nat := [218, 234, 234, 153, 117, 86, 239, 81, 88, 93, 195, 21, 90, 218, 36, 75]
def gS3 : List Nat := [107, 120, 64, 75, 68, 221, 91, 251, 137, 115, 23, 228, 120, 135, 219, 170]
def gS4 : List Nat := [20, 71, 112, 136, 49, 23, 38, 231, 31, 3, 241, 64, 146, 108, 39, 163]
def gS5 : List Nat := [48, 221, 102, 216, 232, 254, 86, 127, 35, 221, 233, 210, 104, 84, 147, 4]
def gS6 : List Nat := [222, 216, 197, 211, 220, 57, 47, 229, 84, 30, 4, 241, 188, 21, 162, 105]
def gS7 : List Nat := [38, 184, 247, 169, 232, 26, 72, 30, 120, 21, 53, 10, 27, 34, 38, 25]
def gS8 : List Nat := [68, 36, 6, 182, 217, 81, 56, 157, 64, 77, 99, 196, 149, 251, 52, 133]
def gS9 : List Nat := [131, 247, 93, 208, 136, 243, 141, 226, 47, 131, 137, 25, 89, 53, 127, 54]

theorem gKs : Ks 4 44 (fun _ => 0#8) (ofL gK) := by
  refine ⟨?_, ?_⟩
  · decide +kernel
  · have h : ∀ i, i < 44 → 4 ≤ i → ∀ r, r < 4 → ofL gK (4 * i + r) = ofL gK (4 * (i - 4) + r) ^^^ tw 4 (ofL gK) i r := by decide +kernel
    exact fun i h1 h2 => h i h2 h1
theorem gR0 : E16 (rnds (ofL gK) gBlk 0) (ofL gS0) := by
  have h : ∀ j, j < 16 → xr gBlk (rk (ofL gK) 0) j = ofL gS0 j := by decide +kernel
  exact h
theorem gR1 : E16 (rnds (ofL gK) gBlk 1) (ofL gS1) := by
  have h : ∀ j, j < 16 → xr (mc (mv (ofL gS0))) (rk (ofL gK) 1) j = ofL gS1 j := by decide +kernel
  exact (gR0.mv.mc.xr (E16.refl (rk (ofL gK) 1))).trans h
theorem gR2 : E16 (rnds (ofL gK) gBlk 2) (ofL gS2) := by
  have h : ∀ j, j < 16 → xr (mc (mv (ofL gS1))) (rk (ofL gK) 2) j = ofL gS2 j := by decide +kernel
  exact (gR1.mv.mc.xr (E16.refl (rk (ofL gK) 2))).trans h
theorem gR3 : E16 (rnds (ofL gK) gBlk 3) (ofL gS3) := by
  have h : ∀ j, j < 16 → xr (mc (mv (ofL gS2))) (rk (ofL gK) 3) j = ofL gS3 j := by decide +kernel
  exact (gR2.mv.mc.xr (E16.refl (rk (ofL gK) 3))).trans h
theorem gR4 : E16 (rnds (ofL gK) gBlk 4) (ofL gS4) := by
  have h : ∀ j, j < 16 → xr (mc (mv (ofL gS3))) (rk (ofL gK) 4) j = ofL gS4 j := by decide +kernel
  exact (gR3.mv.mc.xr (E16.refl (rk (ofL gK) 4))).trans h
theorem gR5 : E16 (rnds (ofL gK) gBlk 5) (ofL gS5) := by
  have h : ∀ j, j < 16 → xr (mc (mv (ofL gS4))) (rk (ofL gK) 5) j = ofL gS5 j := by decide +kernel
  exact (gR4.mv.mc.xr (E16.refl (rk (ofL gK) 5))).trans h
theorem gR6 : E16 (rnds (ofL gK) gBlk 6) (ofL gS6) := by
  have h : ∀ j, j < 16 → xr (mc (mv (ofL gS5))) (rk (ofL gK) 6) j = ofL gS6 j := by decide +kernel
  exact (gR5.mv.mc.xr (E16.refl (rk (ofL gK) 6))).trans h
theorem gR7 : E16 (rnds (ofL gK) gBlk 7) (ofL gS7) := by
  have h : ∀ j, j < 16 → xr (mc (mv (ofL gS6))) (rk (ofL gK) 7) j = ofL gS7 j := by decide +kernel
  exact (gR6.mv.mc.xr (E16.refl (rk (ofL gK) 7))).trans h
theorem gR8 : E16 (rnds (ofL gK) gBlk 8) (ofL gS8) := by
  have h : ∀ j, j < 16 → xr (mc (mv (ofL gS7))) (rk (ofL gK) 8) j = ofL gS8 j := by decide +kernel
  exact (gR7.mv.mc.xr (E16.refl (rk (ofL gK) 8))).trans h
theorem gR9 : E16 (rnds (ofL gK) gBlk 9) (ofL gS9) := by
  have h : ∀ j, j < 16 → xr (mc (mv (ofL gS8))) (rk (ofL gK) 9) j = ofL gS9 j := by decide +kernel
  exact (gR8.mv.mc.xr (E16.refl (rk (ofL gK) 9))).trans h
theorem gEnc {k : Nat → By} (h : Ks 4 44 (fun _ => 0#8) k) : E16 (enc 10 k gBlk) gAns := by
  have hk := h.unique (by decide) gKs (fun _ _ => rfl)
  have h1 : E16 (enc 10 k gBlk) (enc 10 (ofL gK) gBlk) := E16.enc (fun j hj => hk j (by omega)) (E16.refl _)
  have h2 : ∀ j, j < 16 → xr (mv (ofL gS9)) (rk (ofL gK) 10) j = gAns j := by decide +kernel
  exact h1.trans ((gR9.mv.xr (E16.refl (rk (ofL gK) 10))).trans h2)
end Go.Proofs.Ytobglgddbhddnaa
