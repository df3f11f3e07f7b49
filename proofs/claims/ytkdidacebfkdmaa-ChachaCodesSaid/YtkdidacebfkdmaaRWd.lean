/-
  The document's words of four bytes.
-/
import Derived.Test.YtkdidacebfkdmaaRQt
import Derived.Test.YtkdidacebfkdmaaBlk
import Derived.Deep.RegionHeld3
namespace Go.Proofs.Ytkdidacebfkdmaa
open Go.RowKit
set_option linter.unusedVariables false

theorem nmShlK (b : By) (s : Nat) (d : Int) (hs : s ≤ 24) (hd : d = (2 : Int) ^ s) : ∃ z : Wd, Hid (z = zx b <<< s) ∧ (b.toNat : Int) * d = (z.toNat : Int) := by
  refine ⟨_, rfl, ?_⟩
  rw [← zx_num, IntKind.wrap_u32, hd]
  have hb := b.isLt
  have h1 : (2 : Int) ^ s ≤ 2 ^ 24 := by exact_mod_cast Nat.pow_le_pow_right (n := 2) (by decide) hs
  have h2 : (0 : Int) < 2 ^ s := Int.pow_pos (by decide)
  have h3 : (b.toNat : Int) * 2 ^ s ≤ 255 * 2 ^ s := Int.mul_le_mul_of_nonneg_right (by omega) (by omega)
  have h4 : 0 ≤ (b.toNat : Int) * 2 ^ s := Int.mul_nonneg (by omega) (by omega)
  rw [Int.emod_eq_of_lt h4 (by omega)]
theorem wrW (z : Wd) : IntKind.u32.wrap (z.toNat : Int) = z.toNat := by
  have := z.isLt
  rw [IntKind.wrap_u32]
  omega
theorem wrB (z : By) : IntKind.u32.wrap (z.toNat : Int) = z.toNat := by
  have := z.isLt
  rw [IntKind.wrap_u32]
  omega
theorem nmZx (b : By) : ∃ z : Wd, Hid (z = zx b) ∧ (b.toNat : Int) = (z.toNat : Int) := by
  refine ⟨_, rfl, ?_⟩
  have hb := b.isLt
  rw [zx, BitVec.toNat_setWidth, Nat.mod_eq_of_lt (show b.toNat < 2 ^ 32 by omega)]

set_option maxRecDepth 100000 in
set_option maxHeartbeats 4000000 in
theorem word_any (b o c : Nat) (f : Nat → By) (w : World) (h : Bs w b o 4 f) : Calls Try.prog 21 #[.slice (some ⟨b, o, none⟩) 4 c] w fun r w' => r = .returned (.int .u32 ((wordB f 0).toNat : Int)) ∧ Chg w w' := by
  have c0 := h 0 (by decide)
  have c1 := h 1 (by decide)
  have c2 := h 2 (by decide)
  have c3 := h 3 (by decide)
  rw [Nat.add_zero] at c0
  obtain ⟨x0, hx0⟩ : ∃ x, x = f 0 := ⟨_, rfl⟩
  obtain ⟨x1, hx1⟩ : ∃ x, x = f 1 := ⟨_, rfl⟩
  obtain ⟨x2, hx2⟩ : ∃ x, x = f 2 := ⟨_, rfl⟩
  obtain ⟨x3, hx3⟩ : ∃ x, x = f 3 := ⟨_, rfl⟩
  rw [← hx0] at c0
  rw [← hx1] at c1
  rw [← hx2] at c2
  rw [← hx3] at c3
  obtain ⟨z0, H0, e0⟩ := nmZx x0
  obtain ⟨z1, H1, e1⟩ := nmShlK x1 8 256 (by decide) rfl
  obtain ⟨z2, H2, e2⟩ := nmShlK x2 16 65536 (by decide) rfl
  obtain ⟨z3, H3, e3⟩ := nmShlK x3 24 16777216 (by decide) rfl
  obtain ⟨y1, K1, d1⟩ := nmOr z0 z1
  obtain ⟨y2, K2, d2⟩ := nmOr y1 z2
  obtain ⟨y3, K3, d3⟩ := nmOr y2 z3
  rw [← e0] at d1
  have HW : Hid (y3 = wordB f 0) := by
    show y3 = _
    rw [K3.out, K2.out, K1.out, H0.out, H1.out, H2.out, H3.out, hx0, hx1, hx2, hx3]
    rfl
  clear hx0 hx1 hx2 hx3 h H0 H1 H2 H3 K1 K2 K3 e0
  go_enter Try.func21, Try.ntmps21
  go_wp2_with fail
  refine wp_region_noPanic ?_
  go_region_held3 (fun w' => w'.cell? ⟨b, o, none⟩ = some (.int .u8 (x0.toNat : Int)) ∧ w'.cell? ⟨b, o + 1, none⟩ = some (.int .u8 (x1.toNat : Int)) ∧ w'.cell? ⟨b, o + 2, none⟩ = some (.int .u8 (x2.toNat : Int)) ∧ w'.cell? ⟨b, o + 3, none⟩ = some (.int .u8 (x3.toNat : Int))) ((exact ⟨c0, c1, c2, c3⟩)) (fail)
  all_goals refine NoPanic.normal ?_
  all_goals go_wp2
  all_goals
    go_ret
    rw [← HW.out]
    refine ⟨ret32 ?_, (Chg.refl w).drew⟩
    rw [wrB x0, wrB x1, wrB x2, wrB x3, e1, e2, e3, wrW z1, wrW z2, wrW z3, d1, d2, d3]
end Go.Proofs.Ytkdidacebfkdmaa
