/-
  Two blocks are compared.
-/
import Derived.Test.YtobglgddbhddnaaBxs
namespace Go.Proofs.Ytobglgddbhddnaa
open Go.RowKit
set_option linter.unusedVariables false

theorem run_part5 (n : Nat) (f : Nat → By) {i : Nat} (hi : i < n) (w : World) : (part 5 (ba n f) i).run Try.prog w = .ok (.int .u8 ((f i).toNat : Int)) w := by
  simp [part, ba_get n f hi, Sem.run_bind]
theorem und5 : Try.prog.underlying 5 = some (.int .u8) := by kernel_rfl

theorem run_eq16 (f g : Nat → By) (d : Nat) (w : World) : (Op.equalIn (d + 2) 60 (.agg (ba 16 f)) (.agg (ba 16 g))).run Try.prog w = .ok ((List.range 16).all fun i => f i == g i) w := by
  unfold Op.equalIn
  simp only [Sem.run_bind, run_underlying und32, Result.andThen_ok, size5, Nat.mul_one]
  rw [Std.Legacy.Range.forIn_eq_forIn_range']
  have e : List.range' [0:16].start [0:16].size [0:16].step = List.range 16 := by decide
  rw [e]
  have hm : ∀ i ∈ List.range 16, i < 16 := fun i hi => List.mem_range.1 hi
  generalize List.range 16 = l at hm
  clear e
  induction l generalizing w with
  | nil => simp
  | cons i l ih =>
    have hi := hm i (by simp)
    simp only [List.forIn_cons, Sem.run_bind, run_part5 16 f hi, run_part5 16 g hi, Result.andThen_ok, run_equalIn_int _ d 5 .u8 .u8 _ _ und5]
    have hb : (((f i).toNat : Int) == ((g i).toNat : Int)) = (f i == g i) := by
      by_cases h : f i = g i
      · simp [h]
      · have h2 : ¬ ((f i).toNat : Int) = ((g i).toNat : Int) := fun e => h (BitVec.eq_of_toNat_eq (by omega))
        rw [beq_false_of_ne h2, beq_false_of_ne h]
    rw [hb]
    cases hc : (f i == g i) with
    | true =>
      simp only [List.all_cons, hc, Bool.true_and, Bool.not_true, Bool.false_eq_true, if_false, Sem.run_pure, Result.andThen_ok]
      exact ih w (fun j hj => hm j (by simp [hj]))
    | false =>
      simp only [List.all_cons, hc, Bool.false_and, Bool.not_false, if_true, Sem.run_pure, Result.andThen_ok]

/-- Are two blocks alike? -/
def eqB (f g : Nat → By) : Bool := (List.range 16).all fun i => f i == g i
theorem eqB_iff (f g : Nat → By) : eqB f g = true ↔ E16 f g := by
  unfold eqB E16
  rw [List.all_eq_true]
  constructor
  · intro h i hi
    exact eq_of_beq (h i (List.mem_range.2 hi))
  · intro h i hi
    rw [h i (List.mem_range.1 hi)]
    exact beq_self_eq_true _
theorem run_eqB (f g : Nat → By) (w : World) : (Op.equalIn 10000 60 (.agg (ba 16 f)) (.agg (ba 16 g))).run Try.prog w = .ok (eqB f g) w := run_eq16 f g 9998 w
end Go.Proofs.Ytobglgddbhddnaa
