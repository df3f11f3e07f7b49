/-
  Words turned and shifted: what the functions turn, turnTwice, turnThrice of both kinds of words answer.
-/
import Derived.Test.YtijpdhjlafihkaaDoorTj00
import Derived.Laws.BitsLemmas
namespace Go.Proofs.YtijpdhjlafihkaaDoor
open Go.RowKit
set_option linter.unusedVariables false
set_option maxRecDepth 100000

theorem wrap_i {x : Int} (h0 : -9223372036854775808 ≤ x) (h1 : x < 9223372036854775808) : IntKind.i64.wrap x = x := by rw [IntKind.wrap_i64]; omega
theorem and63 {n : Nat} (h : n < 64) : Go.bits .and .i64 (n : Int) 63 = n := by
  have := bits_mask .i64 63 (by decide) (fun n h0 h1 => wrap_i (by omega) (by omega)) 6 (by decide) n (by omega) (by omega)
  rw [show ((2:Int)^6 - 1) = 63 from rfl] at this
  rw [this]
  omega

theorem Chg.drewN {a b : World} (h : Chg a b) (n : Nat) : Chg a (b.drewN n) := ⟨h.os, h.tape, h.output, h.size, h.block⟩

/-- A word turned right. -/
def rot (κ : IntKind) (n : Nat) (x : Int) : Int := Go.bits .or κ (x / 2 ^ n) (κ.wrap (x * 2 ^ (κ.bits - n)))
/-- What a word becomes on its way into the rounds' words: turned twice, shifted once. -/
def turn2 (κ : IntKind) (a b c : Nat) (x : Int) : Int := Go.bits .xor κ (Go.bits .xor κ (rot κ a x) (rot κ b x)) (x / 2 ^ c)
/-- Turned thrice. -/
def turn3 (κ : IntKind) (a b c : Nat) (x : Int) : Int := Go.bits .xor κ (Go.bits .xor κ (rot κ a x) (rot κ b x)) (rot κ c x)

set_option maxRecDepth 100000 in
theorem turn32_any (x : Int) (n : Nat) (w : World) (h0 : 0 < n) (h : n < 32) :
    Calls Tryd.prog 78 #[.int .u32 x, .int .i64 n, .int .i64 32] w fun r w' => r = .returned (.int .u32 (rot .u32 n x)) ∧ ∃ m, w' = w.drewN m := by
  obtain ⟨q, hq⟩ : ∃ q : Nat, (32 : Int) - n = q := ⟨32 - n, by omega⟩
  have e1 := and63 (n := n) (by omega)
  have e2 := and63 (n := q) (by omega)
  have e3 := wrap_i (x := q) (by omega) (by omega)
  have l1 : (n : Int) ≤ 32 := by omega
  have l2 : (q : Int) ≤ 32 := by omega
  have HR : Hid (rot .u32 n x = Go.bits .or .u32 (x / 2 ^ n) (IntKind.u32.wrap (x * 2 ^ q))) := by
    show rot .u32 n x = _
    have : IntKind.u32.bits - n = q := by simp only [IntKind.bits]; omega
    rw [rot, this]
  clear h0 h
  go_enter Tryd.func78, Tryd.ntmps78
  go_wp2_with fail
  go_quiet (fail)
  all_goals go_wp2
  all_goals
    go_ret
    refine ⟨?_, nq, rfl⟩
    rw [HR.out]
    rfl

set_option maxRecDepth 100000 in
theorem refTurn32_any (x : Int) (n : Nat) (w : World) (h0 : 0 < n) (h : n < 32) :
    Calls Tryd.prog 64 #[.int .u32 x, .int .i64 n] w fun r w' => r = .returned (.int .u32 (rot .u32 n x)) ∧ ∃ m, w' = w.drewN m := by
  obtain ⟨q, hq⟩ : ∃ q : Nat, (32 : Int) - n = q := ⟨32 - n, by omega⟩
  have e3 := wrap_i (x := q) (by omega) (by omega)
  have l1 : (n : Int) ≤ 32 := by omega
  have l2 : (q : Int) ≤ 32 := by omega
  have HR : Hid (rot .u32 n x = Go.bits .or .u32 (x / 2 ^ n) (IntKind.u32.wrap (x * 2 ^ q))) := by
    show rot .u32 n x = _
    have : IntKind.u32.bits - n = q := by simp only [IntKind.bits]; omega
    rw [rot, this]
  clear h0 h
  go_enter Tryd.func64, Tryd.ntmps64
  go_wp2_with fail
  go_quiet (fail)
  all_goals go_wp2
  all_goals
    go_ret
    refine ⟨?_, nq, rfl⟩
    rw [HR.out]
    rfl

set_option maxRecDepth 100000 in
theorem turnTwice32_any (x : Int) (a b c : Nat) (w : World) (ha : 0 < a ∧ a < 32) (hb : 0 < b ∧ b < 32) (hc : c < 32) :
    Calls Tryd.prog 77 #[.int .u32 x, .agg #[.int .i64 a, .int .i64 b, .int .i64 c], .int .i64 32] w fun r w' => r = .returned (.int .u32 (turn2 .u32 a b c x)) ∧ Chg w w' := by
  have e1 := and63 (n := c) (by omega)
  have l1 : (c : Int) ≤ 32 := by omega
  have HR : Hid (turn2 .u32 a b c x = Go.bits .xor .u32 (Go.bits .xor .u32 (rot .u32 a x) (rot .u32 b x)) (x / 2 ^ c)) := by
    show turn2 _ _ _ _ _ = _
    rw [turn2]
  have HA : Hid (∀ w, Calls Tryd.prog 78 #[.int .u32 x, .int .i64 a, .int .i64 32] w fun r w' => r = .returned (.int .u32 (rot .u32 a x)) ∧ ∃ m, w' = w.drewN m) := fun w => turn32_any x a w ha.1 ha.2
  have HB : Hid (∀ w, Calls Tryd.prog 78 #[.int .u32 x, .int .i64 b, .int .i64 32] w fun r w' => r = .returned (.int .u32 (rot .u32 b x)) ∧ ∃ m, w' = w.drewN m) := fun w => turn32_any x b w hb.1 hb.2
  clear ha hb hc
  go_enter Tryd.func77, Tryd.ntmps77
  go_wp2_with fail
  go_quiet (first | (go_at_call_of 78 (Value.int .i64 a); exact Calls.quiet_of (HA.out _)) | (go_at_call 78; exact Calls.quiet_of (HB.out _)))
  all_goals go_wp2
  all_goals
    go_ret
    refine ⟨?_, ((Chg.refl w).alloc _).drewN nq⟩
    rw [HR.out]
    rfl

set_option maxRecDepth 100000 in
theorem turnThrice32_any (x : Int) (a b c : Nat) (w : World) (ha : 0 < a ∧ a < 32) (hb : 0 < b ∧ b < 32) (hc : 0 < c ∧ c < 32) :
    Calls Tryd.prog 73 #[.int .u32 x, .agg #[.int .i64 a, .int .i64 b, .int .i64 c], .int .i64 32] w fun r w' => r = .returned (.int .u32 (turn3 .u32 a b c x)) ∧ Chg w w' := by
  have HR : Hid (turn3 .u32 a b c x = Go.bits .xor .u32 (Go.bits .xor .u32 (rot .u32 a x) (rot .u32 b x)) (rot .u32 c x)) := by
    show turn3 _ _ _ _ _ = _
    rw [turn3]
  have HA : Hid (∀ w, Calls Tryd.prog 78 #[.int .u32 x, .int .i64 a, .int .i64 32] w fun r w' => r = .returned (.int .u32 (rot .u32 a x)) ∧ ∃ m, w' = w.drewN m) := fun w => turn32_any x a w ha.1 ha.2
  have HB : Hid (∀ w, Calls Tryd.prog 78 #[.int .u32 x, .int .i64 b, .int .i64 32] w fun r w' => r = .returned (.int .u32 (rot .u32 b x)) ∧ ∃ m, w' = w.drewN m) := fun w => turn32_any x b w hb.1 hb.2
  have HC : Hid (∀ w, Calls Tryd.prog 78 #[.int .u32 x, .int .i64 c, .int .i64 32] w fun r w' => r = .returned (.int .u32 (rot .u32 c x)) ∧ ∃ m, w' = w.drewN m) := fun w => turn32_any x c w hc.1 hc.2
  clear ha hb hc
  go_enter Tryd.func73, Tryd.ntmps73
  go_wp2_with fail
  go_quiet (first | (go_at_call_of 78 (Value.int .i64 a); exact Calls.quiet_of (HA.out _)) | (go_at_call_of 78 (Value.int .i64 b); exact Calls.quiet_of (HB.out _)) | (go_at_call 78; exact Calls.quiet_of (HC.out _)))
  all_goals go_wp2
  all_goals
    go_ret
    refine ⟨?_, ((Chg.refl w).alloc _).drewN nq⟩
    rw [HR.out]
    rfl

set_option maxRecDepth 100000 in
theorem turn64_any (x : Int) (n : Nat) (w : World) (h0 : 0 < n) (h : n < 64) :
    Calls Tryd.prog 80 #[.int .u64 x, .int .i64 n, .int .i64 64] w fun r w' => r = .returned (.int .u64 (rot .u64 n x)) ∧ ∃ m, w' = w.drewN m := by
  obtain ⟨q, hq⟩ : ∃ q : Nat, (64 : Int) - n = q := ⟨64 - n, by omega⟩
  have e1 := and63 (n := n) (by omega)
  have e2 := and63 (n := q) (by omega)
  have e3 := wrap_i (x := q) (by omega) (by omega)
  have l1 : (n : Int) ≤ 64 := by omega
  have l2 : (q : Int) ≤ 64 := by omega
  have HR : Hid (rot .u64 n x = Go.bits .or .u64 (x / 2 ^ n) (IntKind.u64.wrap (x * 2 ^ q))) := by
    show rot .u64 n x = _
    have : IntKind.u64.bits - n = q := by simp only [IntKind.bits]; omega
    rw [rot, this]
  clear h0 h
  go_enter Tryd.func80, Tryd.ntmps80
  go_wp2_with fail
  go_quiet (fail)
  all_goals go_wp2
  all_goals
    go_ret
    refine ⟨?_, nq, rfl⟩
    rw [HR.out]
    rfl

set_option maxRecDepth 100000 in
theorem refTurn64_any (x : Int) (n : Nat) (w : World) (h0 : 0 < n) (h : n < 64) :
    Calls Tryd.prog 65 #[.int .u64 x, .int .i64 n] w fun r w' => r = .returned (.int .u64 (rot .u64 n x)) ∧ ∃ m, w' = w.drewN m := by
  obtain ⟨q, hq⟩ : ∃ q : Nat, (64 : Int) - n = q := ⟨64 - n, by omega⟩
  have e3 := wrap_i (x := q) (by omega) (by omega)
  have l1 : (n : Int) ≤ 64 := by omega
  have l2 : (q : Int) ≤ 64 := by omega
  have HR : Hid (rot .u64 n x = Go.bits .or .u64 (x / 2 ^ n) (IntKind.u64.wrap (x * 2 ^ q))) := by
    show rot .u64 n x = _
    have : IntKind.u64.bits - n = q := by simp only [IntKind.bits]; omega
    rw [rot, this]
  clear h0 h
  go_enter Tryd.func65, Tryd.ntmps65
  go_wp2_with fail
  go_quiet (fail)
  all_goals go_wp2
  all_goals
    go_ret
    refine ⟨?_, nq, rfl⟩
    rw [HR.out]
    rfl

set_option maxRecDepth 100000 in
theorem turnTwice64_any (x : Int) (a b c : Nat) (w : World) (ha : 0 < a ∧ a < 64) (hb : 0 < b ∧ b < 64) (hc : c < 64) :
    Calls Tryd.prog 79 #[.int .u64 x, .agg #[.int .i64 a, .int .i64 b, .int .i64 c], .int .i64 64] w fun r w' => r = .returned (.int .u64 (turn2 .u64 a b c x)) ∧ Chg w w' := by
  have e1 := and63 (n := c) (by omega)
  have l1 : (c : Int) ≤ 64 := by omega
  have HR : Hid (turn2 .u64 a b c x = Go.bits .xor .u64 (Go.bits .xor .u64 (rot .u64 a x) (rot .u64 b x)) (x / 2 ^ c)) := by
    show turn2 _ _ _ _ _ = _
    rw [turn2]
  have HA : Hid (∀ w, Calls Tryd.prog 80 #[.int .u64 x, .int .i64 a, .int .i64 64] w fun r w' => r = .returned (.int .u64 (rot .u64 a x)) ∧ ∃ m, w' = w.drewN m) := fun w => turn64_any x a w ha.1 ha.2
  have HB : Hid (∀ w, Calls Tryd.prog 80 #[.int .u64 x, .int .i64 b, .int .i64 64] w fun r w' => r = .returned (.int .u64 (rot .u64 b x)) ∧ ∃ m, w' = w.drewN m) := fun w => turn64_any x b w hb.1 hb.2
  clear ha hb hc
  go_enter Tryd.func79, Tryd.ntmps79
  go_wp2_with fail
  go_quiet (first | (go_at_call_of 80 (Value.int .i64 a); exact Calls.quiet_of (HA.out _)) | (go_at_call 80; exact Calls.quiet_of (HB.out _)))
  all_goals go_wp2
  all_goals
    go_ret
    refine ⟨?_, ((Chg.refl w).alloc _).drewN nq⟩
    rw [HR.out]
    rfl

set_option maxRecDepth 100000 in
theorem turnThrice64_any (x : Int) (a b c : Nat) (w : World) (ha : 0 < a ∧ a < 64) (hb : 0 < b ∧ b < 64) (hc : 0 < c ∧ c < 64) :
    Calls Tryd.prog 75 #[.int .u64 x, .agg #[.int .i64 a, .int .i64 b, .int .i64 c], .int .i64 64] w fun r w' => r = .returned (.int .u64 (turn3 .u64 a b c x)) ∧ Chg w w' := by
  have HR : Hid (turn3 .u64 a b c x = Go.bits .xor .u64 (Go.bits .xor .u64 (rot .u64 a x) (rot .u64 b x)) (rot .u64 c x)) := by
    show turn3 _ _ _ _ _ = _
    rw [turn3]
  have HA : Hid (∀ w, Calls Tryd.prog 80 #[.int .u64 x, .int .i64 a, .int .i64 64] w fun r w' => r = .returned (.int .u64 (rot .u64 a x)) ∧ ∃ m, w' = w.drewN m) := fun w => turn64_any x a w ha.1 ha.2
  have HB : Hid (∀ w, Calls Tryd.prog 80 #[.int .u64 x, .int .i64 b, .int .i64 64] w fun r w' => r = .returned (.int .u64 (rot .u64 b x)) ∧ ∃ m, w' = w.drewN m) := fun w => turn64_any x b w hb.1 hb.2
  have HC : Hid (∀ w, Calls Tryd.prog 80 #[.int .u64 x, .int .i64 c, .int .i64 64] w fun r w' => r = .returned (.int .u64 (rot .u64 c x)) ∧ ∃ m, w' = w.drewN m) := fun w => turn64_any x c w hc.1 hc.2
  clear ha hb hc
  go_enter Tryd.func75, Tryd.ntmps75
  go_wp2_with fail
  go_quiet (first | (go_at_call_of 80 (Value.int .i64 a); exact Calls.quiet_of (HA.out _)) | (go_at_call_of 80 (Value.int .i64 b); exact Calls.quiet_of (HB.out _)) | (go_at_call 80; exact Calls.quiet_of (HC.out _)))
  all_goals go_wp2
  all_goals
    go_ret
    refine ⟨?_, ((Chg.refl w).alloc _).drewN nq⟩
    rw [HR.out]
    rfl

end Go.Proofs.YtijpdhjlafihkaaDoor
