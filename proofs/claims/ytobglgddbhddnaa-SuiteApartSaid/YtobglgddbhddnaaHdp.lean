/-
  The live question's answer, reckoned: a fixed block under a fixed key.
-/
import Derived.Test.YtobglgddbhddnaaPl
namespace Go.Proofs.Ytobglgddbhddnaa
set_option linter.unusedVariables false

def ofL (l : List Nat) : Nat → By := fun i => BitVec.ofNat 8 (l.getD i 0)
def hK : List Nat := [0, 1, 2, 3, 4, 5, 6, 7, 8, 9, 10, 11, 12, 13, 14, 15, 214, 170, 116, 253, 210, 175, 114, 250, 218, 166, 120, 241, 214, 171, 118, 254, 182, 146, 207, 11, 100, 61, 189, 241, 190, 155, 197, 0, 104, 48, 179, 254, 182, 255, 116, 78, 210, 194, 201, 191, 108, 89, 12, 191, 4, 105, 191, 65, 71, 247, 247, 188, 149, 53, 62, 3, 249, 108, 50, 188, 253, 5, 141, 253, 60, 170, 163, 232, 169, 159, 157, 235, 80, 243, 175, 87, 173, 246, 34, 170, 94, 57, 15, 125, 247, 166, 146, 150, 167, 85, 61, 193, 10, 163, 31, 107, 20, 249, 112, 26, 227, 95, 226, 140, 68, 10, 223, 77, 78, 169, 192, 38, 71, 67, 135, 53, 164, 28, 101, 185, 224, 22, 186, 244, 174, 191, 122, 210, 84, 153, 50, 209, 240, 133, 87, 104, 16, 147, 237, 156, 190, 44, 151, 78, 19, 17, 29, 127, 227, 148, 74, 23, 243, 7, 167, 139, 77, 43, 48, 197]
def hKey : Nat → By := fun i => BitVec.ofNat 8 i
def hBlk : Nat → By := fun i => BitVec.ofNat 8 (17 * i)
def hAns : Nat → By := ofL [105, 196, 224, 216, 106, 123, 4, 48, 216, 205, 183, 128, 112, 180, 197, 90]
def hS0 : List Nat := [0, 16, 32, 48, 64, 80, 96, 112, 128, 144, 160, 176, 192, 208, 224, 240]
def hS1 : List Nat := [137, 216, 16, 232, 133, 90, 206, 104, 45, 24, 67, 216, 203, 18, 143, 228]
def hS2 : List Nat := [73, 21, 89, 143, 85, 229, 215, 160, 218, 202, 148, 250, 31, 10, 99, 247]
def hS3 : List Nat := [250, 99, 106, 40, 37, 179, 57, 201, 64, 102, 138, 49, 87, 36, 77, 23]
def hS4 : List Nat := [36, 114, 64, 35, 105, 102, 179, 250, 110, 210, 117, 50, 136, 66, 91, 108]
def hS5 : List Nat := [200, 22, 119, 188, 155, 122, 201, 59, 37, 2, 121, 146, 176, 38, 25, 150]
def hS6 : List Nat := [198, 47, 225, 9, 247, 94, 237, 195, 204, 121, 57, 93, 132, 249, 207, 93]
def hS7 : List Nat := [209, 135, 108, 15, 121, 196, 48, 10, 180, 85, 148, 173, 214, 111, 244, 31]
def hS8 : List Nat := [253, 227, 186, 210, 5, 229, 208, 215, 53, 71, 150, 78, 241, 254, 55, 241]
def hS9 : List Nat := [189, 110, 124, 61, 242, 181, 119, 158, 11, 97, 33, 110, 139, 16, 182, 137]

theorem hKs : Ks 4 44 hKey (ofL hK) := by
  refine ⟨?_, ?_⟩
  · decide +kernel
  · have h : ∀ i, i < 44 → 4 ≤ i → ∀ r, r < 4 → ofL hK (4 * i + r) = ofL hK (4 * (i - 4) + r) ^^^ tw 4 (ofL hK) i r := by decide +kernel
    exact fun i h1 h2 r hr => h i h2 h1 r hr
theorem hR0 : E16 (rnds (ofL hK) hBlk 0) (ofL hS0) := by
  have h : ∀ j, j < 16 → xr hBlk (rk (ofL hK) 0) j = ofL hS0 j := by decide +kernel
  exact h
theorem hR1 : E16 (rnds (ofL hK) hBlk 1) (ofL hS1) := by
  have h : ∀ j, j < 16 → xr (mc (mv (ofL hS0))) (rk (ofL hK) 1) j = ofL hS1 j := by decide +kernel
  exact (hR0.mv.mc.xr (E16.refl (rk (ofL hK) 1))).trans h
theorem hR2 : E16 (rnds (ofL hK) hBlk 2) (ofL hS2) := by
  have h : ∀ j, j < 16 → xr (mc (mv (ofL hS1))) (rk (ofL hK) 2) j = ofL hS2 j := by decide +kernel
  exact (hR1.mv.mc.xr (E16.refl (rk (ofL hK) 2))).trans h
theorem hR3 : E16 (rnds (ofL hK) hBlk 3) (ofL hS3) := by
  have h : ∀ j, j < 16 → xr (mc (mv (ofL hS2))) (rk (ofL hK) 3) j = ofL hS3 j := by decide +kernel
  exact (hR2.mv.mc.xr (E16.refl (rk (ofL hK) 3))).trans h
theorem hR4 : E16 (rnds (ofL hK) hBlk 4) (ofL hS4) := by
  have h : ∀ j, j < 16 → xr (mc (mv (ofL hS3))) (rk (ofL hK) 4) j = ofL hS4 j := by decide +kernel
  exact (hR3.mv.mc.xr (E16.refl (rk (ofL hK) 4))).trans h
theorem hR5 : E16 (rnds (ofL hK) hBlk 5) (ofL hS5) := by
  have h : ∀ j, j < 16 → xr (mc (mv (ofL hS4))) (rk (ofL hK) 5) j = ofL hS5 j := by decide +kernel
  exact (hR4.mv.mc.xr (E16.refl (rk (ofL hK) 5))).trans h
theorem hR6 : E16 (rnds (ofL hK) hBlk 6) (ofL hS6) := by
  have h : ∀ j, j < 16 → xr (mc (mv (ofL hS5))) (rk (ofL hK) 6) j = ofL hS6 j := by decide +kernel
  exact (hR5.mv.mc.xr (E16.refl (rk (ofL hK) 6))).trans h
theorem hR7 : E16 (rnds (ofL hK) hBlk 7) (ofL hS7) := by
  have h : ∀ j, j < 16 → xr (mc (mv (ofL hS6))) (rk (ofL hK) 7) j = ofL hS7 j := by decide +kernel
  exact (hR6.mv.mc.xr (E16.refl (rk (ofL hK) 7))).trans h
theorem hR8 : E16 (rnds (ofL hK) hBlk 8) (ofL hS8) := by
  have h : ∀ j, j < 16 → xr (mc (mv (ofL hS7))) (rk (ofL hK) 8) j = ofL hS8 j := by decide +kernel
  exact (hR7.mv.mc.xr (E16.refl (rk (ofL hK) 8))).trans h
theorem hR9 : E16 (rnds (ofL hK) hBlk 9) (ofL hS9) := by
  have h : ∀ j, j < 16 → xr (mc (mv (ofL hS8))) (rk (ofL hK) 9) j = ofL hS9 j := by decide +kernel
  exact (hR8.mv.mc.xr (E16.refl (rk (ofL hK) 9))).trans h
theorem hEnc {k : Nat → By} (h : Ks 4 44 hKey k) : E16 (enc 10 k hBlk) hAns := by
  have hk := h.unique (by decide) hKs (fun _ _ => rfl)
  have h1 : E16 (enc 10 k hBlk) (enc 10 (ofL hK) hBlk) := E16.enc (fun j hj => hk j (by omega)) (E16.refl _)
  have h2 : ∀ j, j < 16 → xr (mv (ofL hS9)) (rk (ofL hK) 10) j = hAns j := by decide +kernel
  exact h1.trans ((hR9.mv.xr (E16.refl (rk (ofL hK) 10))).trans h2)
end Go.Proofs.Ytobglgddbhddnaa
