/-
  How many bits a number has: no more than the function length says.
-/
import Derived.Test.YtnahkcapbbjfdaaBit
import Derived.Lib.BitFns
import Derived.Deep.Light
namespace Go.Proofs.Ytnahkcapbbjfdaa
open Go.RowKit
set_option linter.unusedVariables false

theorem len8_fin : ∀ n : Fin 256, (Lib.len8 (n.val : Int)).toNat ≤ 8 ∧ 0 ≤ Lib.len8 (n.val : Int) ∧ n.val < 2 ^ (Lib.len8 (n.val : Int)).toNat := by decide +kernel
theorem len8_of' (y : Int) (h0 : 0 ≤ y) (h1 : y ≤ 255) : ∃ m : Nat, Lib.len8 y = m ∧ m ≤ 8 ∧ y < 2 ^ m := by
  have e := len8_fin ⟨y.toNat, by omega⟩
  simp only [Int.toNat_of_nonneg h0] at e
  refine ⟨(Lib.len8 y).toNat, by omega, e.1, ?_⟩
  have := e.2.2
  generalize (Lib.len8 y).toNat = m at *
  have h2 : ((y.toNat : Nat) : Int) < ((2 ^ m : Nat) : Int) := by exact_mod_cast this
  rw [Int.toNat_of_nonneg h0] at h2
  exact_mod_cast h2

theorem tab_get (y : Int) (h : y.toNat < Lib.len8tab.size) : ((Lib.len8tab[y.toNat]'h).toNat : Int) = Lib.len8 y := by
  show _ = ((((Lib.len8tab[y.toNat]?).getD 0).toNat : Nat) : Int)
  rw [getElem?_pos Lib.len8tab y.toNat h]
  rfl
theorem tab_size : (Lib.len8tab.size : Int) = 256 := by rw [Lib.len8tab_size]; rfl
theorem wrapK (k m : Nat) (hk : k ≤ 56) (hm : m ≤ 8) : wrap64 ((k : Int) + wrap64 (m : Int)) = ((k + m : Nat) : Int) := by
  unfold wrap64
  omega
theorem wrapM (m : Nat) (hm : m ≤ 8) : wrap64 (wrap64 (m : Int)) = ((0 + m : Nat) : Int) := by
  unfold wrap64
  omega
theorem up_pow (x y : Int) (k m : Nat) (hxy : x < 2 ^ k * (y + 1)) (hy : y < 2 ^ m) : x < 2 ^ (k + m) := by
  rw [Int.pow_add]
  have hp : (0 : Int) < 2 ^ k := Int.pow_pos (by decide)
  generalize (2 : Int) ^ k = c at *
  generalize (2 : Int) ^ m = d at *
  exact Int.lt_of_lt_of_le hxy (Int.mul_le_mul_of_nonneg_left (by omega) (by omega))

set_option maxRecDepth 100000 in
set_option maxHeartbeats 8000000 in
theorem len64_any (x : Int) (h0 : 0 ≤ x) (h1 : x ≤ 18446744073709551615) (w : World) : Calls Try.prog 73 #[.int .u64 x] w fun r w' => ∃ n : Nat, r = .returned (.int .i64 n) ∧ w' = w ∧ n ≤ 64 ∧ x < 2 ^ n := by
  go_enter Try.func73, Try.ntmps73
  go_wp2
  all_goals first
    | go_ret
    | (exfalso
       go_light
       have hs := tab_size
       omega)
  all_goals go_light
  all_goals first
    | (obtain ⟨m, e, hm, hy⟩ := len8_of' (x / 4294967296 / 65536 / 256) (by omega) (by omega)
       refine ⟨56 + m, congrArg Ending.returned (congrArg (Value.int IntKind.i64) ?_), rfl, by omega, up_pow x (x / 4294967296 / 65536 / 256) 56 m (by rw [show ((2 : Int) ^ 56) = 72057594037927936 from rfl]; omega) hy⟩
       rw [tab_get (x / 4294967296 / 65536 / 256) _, e]
       exact wrapK 56 m (by decide) hm)
    | (obtain ⟨m, e, hm, hy⟩ := len8_of' (x / 4294967296 / 65536) (by omega) (by omega)
       refine ⟨48 + m, congrArg Ending.returned (congrArg (Value.int IntKind.i64) ?_), rfl, by omega, up_pow x (x / 4294967296 / 65536) 48 m (by rw [show ((2 : Int) ^ 48) = 281474976710656 from rfl]; omega) hy⟩
       rw [tab_get (x / 4294967296 / 65536) _, e]
       exact wrapK 48 m (by decide) hm)
    | (obtain ⟨m, e, hm, hy⟩ := len8_of' (x / 4294967296 / 256) (by omega) (by omega)
       refine ⟨40 + m, congrArg Ending.returned (congrArg (Value.int IntKind.i64) ?_), rfl, by omega, up_pow x (x / 4294967296 / 256) 40 m (by rw [show ((2 : Int) ^ 40) = 1099511627776 from rfl]; omega) hy⟩
       rw [tab_get (x / 4294967296 / 256) _, e]
       exact wrapK 40 m (by decide) hm)
    | (obtain ⟨m, e, hm, hy⟩ := len8_of' (x / 4294967296) (by omega) (by omega)
       refine ⟨32 + m, congrArg Ending.returned (congrArg (Value.int IntKind.i64) ?_), rfl, by omega, up_pow x (x / 4294967296) 32 m (by rw [show ((2 : Int) ^ 32) = 4294967296 from rfl]; omega) hy⟩
       rw [tab_get (x / 4294967296) _, e]
       exact wrapK 32 m (by decide) hm)
    | (obtain ⟨m, e, hm, hy⟩ := len8_of' (x / 65536 / 256) (by omega) (by omega)
       refine ⟨24 + m, congrArg Ending.returned (congrArg (Value.int IntKind.i64) ?_), rfl, by omega, up_pow x (x / 65536 / 256) 24 m (by rw [show ((2 : Int) ^ 24) = 16777216 from rfl]; omega) hy⟩
       rw [tab_get (x / 65536 / 256) _, e]
       exact wrapK 24 m (by decide) hm)
    | (obtain ⟨m, e, hm, hy⟩ := len8_of' (x / 65536) (by omega) (by omega)
       refine ⟨16 + m, congrArg Ending.returned (congrArg (Value.int IntKind.i64) ?_), rfl, by omega, up_pow x (x / 65536) 16 m (by rw [show ((2 : Int) ^ 16) = 65536 from rfl]; omega) hy⟩
       rw [tab_get (x / 65536) _, e]
       exact wrapK 16 m (by decide) hm)
    | (obtain ⟨m, e, hm, hy⟩ := len8_of' (x / 256) (by omega) (by omega)
       refine ⟨8 + m, congrArg Ending.returned (congrArg (Value.int IntKind.i64) ?_), rfl, by omega, up_pow x (x / 256) 8 m (by rw [show ((2 : Int) ^ 8) = 256 from rfl]; omega) hy⟩
       rw [tab_get (x / 256) _, e]
       exact wrapK 8 m (by decide) hm)
    | (obtain ⟨m, e, hm, hy⟩ := len8_of' (x) (by omega) (by omega)
       refine ⟨0 + m, congrArg Ending.returned (congrArg (Value.int IntKind.i64) ?_), rfl, by omega, up_pow x (x) 0 m (by rw [show ((2 : Int) ^ 0) = 1 from rfl]; omega) hy⟩
       rw [tab_get (x) _, e]
       exact wrapM m hm)
end Go.Proofs.Ytnahkcapbbjfdaa
