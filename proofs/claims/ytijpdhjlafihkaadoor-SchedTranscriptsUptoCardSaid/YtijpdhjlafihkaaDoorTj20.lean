/-
  Same: are texts the same?
-/
import Derived.Test.YtijpdhjlafihkaaDoorTj16
namespace Go.Proofs.YtijpdhjlafihkaaDoor
open Go.RowKit
set_option linter.unusedVariables false
set_option maxRecDepth 100000

def Byte (x : Int) : Prop := 0 ≤ x ∧ x < 256
theorem wraps_u8 : ∀ n : Int, 0 ≤ n → n < 2 ^ 8 → IntKind.u8.wrap n = n := by
  intro n h0 h1
  rw [IntKind.wrap_u8]
  omega
theorem xor8_nat (a b : Nat) (ha : a < 2 ^ 8) (hb : b < 2 ^ 8) : Go.bits .xor .u8 a b = ((a ^^^ b : Nat) : Int) := by
  have ha' : a % 2 ^ IntKind.u8.bits = a := Nat.mod_eq_of_lt ha
  have hb' : b % 2 ^ IntKind.u8.bits = b := Nat.mod_eq_of_lt hb
  have hl := Nat.xor_lt_two_pow ha hb
  simp only [bits, BitVec.ofInt_natCast, BitVec.toNat_xor, BitVec.toNat_ofNat, ha', hb']
  exact wraps_u8 _ (by omega) (by omega)
theorem xor8 {x y : Int} (hx : Byte x) (hy : Byte y) : Byte (Go.bits .xor .u8 x y) ∧ (Go.bits .xor .u8 x y = 0 ↔ x = y) := by
  obtain ⟨a, rfl⟩ : ∃ a : Nat, x = a := ⟨x.toNat, by have := hx.1; omega⟩
  obtain ⟨b, rfl⟩ : ∃ a : Nat, y = a := ⟨y.toNat, by have := hy.1; omega⟩
  have ha : a < 2 ^ 8 := by have := hx.2; omega
  have hb : b < 2 ^ 8 := by have := hy.2; omega
  have h := xor8_nat a b ha hb
  rw [h]
  have hl := Nat.xor_lt_two_pow ha hb
  refine ⟨⟨by omega, by omega⟩, ?_⟩
  constructor
  · intro e
    have e' : a ^^^ b = 0 := by omega
    have e2 : a ^^^ b ^^^ b = 0 ^^^ b := by rw [e']
    rw [Nat.xor_assoc, Nat.xor_self, Nat.xor_zero, Nat.zero_xor] at e2
    rw [e2]
  · intro e
    have e' : a = b := by omega
    rw [e', Nat.xor_self]
    rfl
theorem or8 {x y : Int} (hx : Byte x) (hy : Byte y) : Byte (Go.bits .or .u8 x y) ∧ (Go.bits .or .u8 x y = 0 ↔ x = 0 ∧ y = 0) := by
  obtain ⟨a, rfl⟩ : ∃ a : Nat, x = a := ⟨x.toNat, by have := hx.1; omega⟩
  obtain ⟨b, rfl⟩ : ∃ a : Nat, y = a := ⟨y.toNat, by have := hy.1; omega⟩
  have ha : a < 2 ^ 8 := by have := hx.2; omega
  have hb : b < 2 ^ 8 := by have := hy.2; omega
  have h := (bits_nat .u8 8 (by decide) wraps_u8 a b ha hb).2
  rw [h]
  have hl := Nat.or_lt_two_pow ha hb
  refine ⟨⟨by omega, by omega⟩, ?_⟩
  rw [show ((a ||| b : Nat) : Int) = 0 ↔ a ||| b = 0 by omega, Nat.or_eq_zero_iff]
  omega
theorem Rd.cell {w : World} {so : Option Addr} {n c : Nat} {xs : List Int} (h : Ap.Rd w (.slice so n c) xs) (hl : xs.length < 4611686018427387904) {i : Nat} (hi : i < xs.length) : ∃ g off, so = some ⟨g, off, none⟩ ∧ w.cell? ⟨g, off + i, none⟩ = some (.int .u8 (gd xs i)) := by
  rcases Rd.slA h hl with ⟨_, e⟩ | ⟨_, _, _, e⟩ | ⟨b, o, cap, e1, _, _, hb⟩
  · rw [e] at hi
    exact absurd hi (Nat.not_lt_zero i)
  · rw [e] at hi
    exact absurd hi (Nat.not_lt_zero i)
  · injection e1 with e1 _ _
    exact ⟨b, o, e1, hb i hi⟩
end Go.Proofs.YtijpdhjlafihkaaDoor
