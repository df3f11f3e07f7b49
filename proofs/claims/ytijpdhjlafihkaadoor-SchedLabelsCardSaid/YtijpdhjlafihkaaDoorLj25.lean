/-
  Keys made of a key, as plain lists.
-/
import Derived.Test.YtijpdhjlafihkaaDoorLj24
import Derived.Test.YtijpdhjlafihkaaDoorLj21
namespace Go.Proofs.YtijpdhjlafihkaaDoor
open Go.RowKit
set_option linter.unusedVariables false
set_option maxRecDepth 100000

/-- What a turn makes, and all that turns have made. -/
def tL (q : Int) (key info : List Int) : Nat → List Int
  | 0 => []
  | i + 1 => macL q key (tL q key info i ++ info ++ [IntKind.u8.wrap ((i + 1 : Nat) : Int)])
def aL (q : Int) (key info : List Int) : Nat → List Int
  | 0 => []
  | i + 1 => aL q key info i ++ tL q key info (i + 1)
def expL (q : Int) (key info : List Int) (n : Nat) : List Int := (aL q key info 255).take n

theorem macL_len (q : Int) (key msg : List Int) : (macL q key msg).length = sizeOfH q := sumL_len q _
theorem tL_len (q : Int) (key info : List Int) (i : Nat) : (tL q key info (i + 1)).length = sizeOfH q := macL_len q _ _
theorem aL_len (q : Int) (key info : List Int) (i : Nat) : (aL q key info i).length = sizeOfH q * i := by
  induction i with
  | zero => rfl
  | succ i ih => rw [aL, List.length_append, ih, tL_len, Nat.mul_succ]
theorem aL_pre (q : Int) (key info : List Int) (i j : Nat) : ∃ l, aL q key info (i + j) = aL q key info i ++ l := by
  induction j with
  | zero => exact ⟨[], by simp⟩
  | succ j ih =>
    obtain ⟨l, h⟩ := ih
    exact ⟨l ++ tL q key info (i + j + 1), by rw [← Nat.add_assoc, aL, h, List.append_assoc]⟩
theorem aL_take (q : Int) (key info : List Int) (i r : Nat) (hi : i < 255) (hr : r ≤ sizeOfH q) : expL q key info (sizeOfH q * i + r) = aL q key info i ++ (tL q key info (i + 1)).take r := by
  obtain ⟨l, h⟩ := aL_pre q key info (i + 1) (254 - i)
  have e : i + 1 + (254 - i) = 255 := by omega
  rw [e, show aL q key info (i + 1) = aL q key info i ++ tL q key info (i + 1) from rfl] at h
  rw [expL, h, List.append_assoc, ← aL_len q key info i, List.take_length_add_append, List.take_append_of_le_length (by rw [tL_len]; exact hr)]
theorem expL_at (q : Int) (key info : List Int) (i : Nat) (hi : i ≤ 255) : expL q key info (sizeOfH q * i) = aL q key info i := by
  obtain ⟨l, h⟩ := aL_pre q key info i (255 - i)
  have e : i + (255 - i) = 255 := by omega
  rw [e] at h
  rw [expL, h, ← aL_len q key info i, List.take_left']
  rfl
theorem expL_len (q : Int) (key info : List Int) (n : Nat) (hn : n ≤ 255 * sizeOfH q) : (expL q key info n).length = n := by
  rw [expL, List.length_take, aL_len]
  have : sizeOfH q * 255 = 255 * sizeOfH q := Nat.mul_comm _ _
  omega
theorem expL_take (q : Int) (key info : List Int) (n k : Nat) (hk : k ≤ n) : (expL q key info n).take k = expL q key info k := by
  rw [expL, expL, List.take_take, Nat.min_eq_left hk]
/-- One turn more. -/
theorem expL_more (q : Int) (key info : List Int) (n i : Nat) (hi : i < 255) (hS : sizeOfH q * i < n) : expL q key info (min (sizeOfH q * i) n) ++ (tL q key info (i + 1)).take (min (sizeOfH q) (n - sizeOfH q * i)) = expL q key info (min (sizeOfH q * (i + 1)) n) := by
  rw [Nat.min_eq_left (by omega), expL_at q key info i (by omega)]
  have e : min (sizeOfH q * (i + 1)) n = sizeOfH q * i + min (sizeOfH q) (n - sizeOfH q * i) := by
    rw [Nat.mul_succ]
    omega
  rw [e, aL_take q key info i _ hi (by omega)]
end Go.Proofs.YtijpdhjlafihkaaDoor
namespace Go.Proofs.YtijpdhjlafihkaaDoor
open Go.RowKit
set_option linter.unusedVariables false
set_option maxRecDepth 100000

def Byte (x : Int) : Prop := 0 ≤ x ∧ x < 256
theorem wraps_u8 : ∀ n : Int, 0 ≤ n → n < 2 ^ 8 → IntKind.u8.wrap n = n := by
  intro n h0 h1
  rw [IntKind.wrap_u8]
  omega
theorem xor8_nat (a b : Nat) (ha : a < 2 ^ 8) (hb : b < 2 ^ 8) : Go.bits .xor .u8 a b = ((a ^^^ b : Nat) : Int) := by
  have ha' : a % 2 ^ IntKind.u8.bits = a := Nat.mod_eq_of_lt ha
  have hb' : b % 2 ^ IntKind.u8.bits = b := Nat.mod_eq_of_lt hb
  have hl := Nat.xor_lt_two_pow ha hb
  simp only [bits, BitVec.ofInt_natCast, BitVec.toNat_xor, BitVec.toNat_ofNat, ha', hb']
  exact wraps_u8 _ (by omega) (by omega)
theorem xor8 {x y : Int} (hx : Byte x) (hy : Byte y) : Byte (Go.bits .xor .u8 x y) ∧ (Go.bits .xor .u8 x y = 0 ↔ x = y) := by
  obtain ⟨a, rfl⟩ : ∃ a : Nat, x = a := ⟨x.toNat, by have := hx.1; omega⟩
  obtain ⟨b, rfl⟩ : ∃ a : Nat, y = a := ⟨y.toNat, by have := hy.1; omega⟩
  have ha : a < 2 ^ 8 := by have := hx.2; omega
  have hb : b < 2 ^ 8 := by have := hy.2; omega
  have h := xor8_nat a b ha hb
  rw [h]
  have hl := Nat.xor_lt_two_pow ha hb
  refine ⟨⟨by omega, by omega⟩, ?_⟩
  constructor
  · intro e
    have e' : a ^^^ b = 0 := by omega
    have e2 : a ^^^ b ^^^ b = 0 ^^^ b := by rw [e']
    rw [Nat.xor_assoc, Nat.xor_self, Nat.xor_zero, Nat.zero_xor] at e2
    rw [e2]
  · intro e
    have e' : a = b := by omega
    rw [e', Nat.xor_self]
    rfl
theorem or8 {x y : Int} (hx : Byte x) (hy : Byte y) : Byte (Go.bits .or .u8 x y) ∧ (Go.bits .or .u8 x y = 0 ↔ x = 0 ∧ y = 0) := by
  obtain ⟨a, rfl⟩ : ∃ a : Nat, x = a := ⟨x.toNat, by have := hx.1; omega⟩
  obtain ⟨b, rfl⟩ : ∃ a : Nat, y = a := ⟨y.toNat, by have := hy.1; omega⟩
  have ha : a < 2 ^ 8 := by have := hx.2; omega
  have hb : b < 2 ^ 8 := by have := hy.2; omega
  have h := (bits_nat .u8 8 (by decide) wraps_u8 a b ha hb).2
  rw [h]
  have hl := Nat.or_lt_two_pow ha hb
  refine ⟨⟨by omega, by omega⟩, ?_⟩
  rw [show ((a ||| b : Nat) : Int) = 0 ↔ a ||| b = 0 by omega, Nat.or_eq_zero_iff]
  omega
theorem Rd.cell {w : World} {so : Option Addr} {n c : Nat} {xs : List Int} (h : Ap.Rd w (.slice so n c) xs) (hl : xs.length < 4611686018427387904) {i : Nat} (hi : i < xs.length) : ∃ g off, so = some ⟨g, off, none⟩ ∧ w.cell? ⟨g, off + i, none⟩ = some (.int .u8 (gd xs i)) := by
  rcases Rd.slA h hl with ⟨_, e⟩ | ⟨_, _, _, e⟩ | ⟨b, o, cap, e1, _, _, hb⟩
  · rw [e] at hi
    exact absurd hi (Nat.not_lt_zero i)
  · rw [e] at hi
    exact absurd hi (Nat.not_lt_zero i)
  · injection e1 with e1 _ _
    exact ⟨b, o, e1, hb i hi⟩
end Go.Proofs.YtijpdhjlafihkaaDoor
