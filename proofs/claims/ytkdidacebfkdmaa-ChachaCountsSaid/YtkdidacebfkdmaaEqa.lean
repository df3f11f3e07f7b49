/-
  Blocks compared; whole arrays within a region that draws; the key and the nonce that a law holds.
-/
import Derived.Test.YtkdidacebfkdmaaHd
import Derived.Test.YtkdidacebfkdmaaRgo
import Derived.Test.YtkdidacebfkdmaaStr
namespace Go.Proofs.Ytkdidacebfkdmaa
open Go.RowKit
set_option linter.unusedVariables false

theorem size5 (w : World) : (sizeOf 5).run Try.prog w = .ok 1 w := by
  have h : (Try.prog.info? 5).map (·.size) = some 1 := by kernel_rfl
  cases hq : Try.prog.info? 5 with
  | none => simp [hq] at h
  | some i =>
    rw [hq] at h
    have h : i.size = 1 := Option.some.inj h
    simp [sizeOf, typeInfo, hq, h]
theorem und5 : Try.prog.underlying 5 = some (.int .u8) := by kernel_rfl
theorem run_part5 (n : Nat) (f : Nat → By) {i : Nat} (hi : i < n) (w : World) : (part 5 (ba n f) i).run Try.prog w = .ok (.int .u8 ((f i).toNat : Int)) w := by
  simp [part, ba_get n f hi, Sem.run_bind]

theorem run_eqN {t n : Nat} (hu : Try.prog.underlying t = some (.array n 5)) (hl : List.range' [0:n].start [0:n].size [0:n].step = List.range n) (f g : Nat → By) (d : Nat) (w : World) : (Op.equalIn (d + 2) t (.agg (ba n f)) (.agg (ba n g))).run Try.prog w = .ok ((List.range n).all fun i => f i == g i) w := by
  unfold Op.equalIn
  simp only [Sem.run_bind, run_underlying hu, Result.andThen_ok, size5, Nat.mul_one]
  rw [Std.Legacy.Range.forIn_eq_forIn_range', hl]
  have hm : ∀ i ∈ List.range n, i < n := fun i hi => List.mem_range.1 hi
  generalize List.range n = l at hm
  clear hl
  induction l generalizing w with
  | nil => simp
  | cons i l ih =>
    have hi := hm i (by simp)
    simp only [List.forIn_cons, Sem.run_bind, run_part5 n f hi, run_part5 n g hi, Result.andThen_ok, run_equalIn_int _ d 5 .u8 .u8 _ _ und5]
    have hb : (((f i).toNat : Int) == ((g i).toNat : Int)) = (f i == g i) := by
      by_cases h : f i = g i
      · simp [h]
      · have h2 : ¬ ((f i).toNat : Int) = ((g i).toNat : Int) := fun e => h (BitVec.eq_of_toNat_eq (by omega))
        rw [beq_false_of_ne h2, beq_false_of_ne h]
    rw [hb]
    cases hc : (f i == g i) with
    | true =>
      simp only [List.all_cons, hc, Bool.true_and, Bool.not_true, Bool.false_eq_true, if_false, Sem.run_pure, Result.andThen_ok]
      exact ih w (fun j hj => hm j (by simp [hj]))
    | false =>
      simp only [List.all_cons, hc, Bool.false_and, Bool.not_false, if_true, Sem.run_pure, Result.andThen_ok]

theorem all_self (n : Nat) (f : Nat → By) : ((List.range n).all fun i => f i == f i) = true := by
  rw [List.all_eq_true]
  intro i _
  exact beq_self_eq_true _
theorem run_eq64 (f : Nat → By) (w : World) : (Op.equalIn 10000 28 (.agg (ba 64 f)) (.agg (ba 64 f))).run Try.prog w = .ok true w := by
  have := run_eqN und28 (by decide) f f 9998 w
  rw [all_self] at this
  exact this
theorem run_eq16 (f : Nat → By) (w : World) : (Op.equalIn 10000 31 (.agg (ba 16 f)) (.agg (ba 16 f))).run Try.prog w = .ok true w := by
  have := run_eqN und32 (by decide) f f 9998 w
  rw [all_self] at this
  exact this

theorem rangeA {w : World} {B n : Nat} {f : Nat → By} (h : Ar w B (ba n f)) : w.rangeAt B 0 (ba n f).toList := by
  intro j v hv
  rw [Nat.zero_add, h.cell]
  simpa using hv
theorem info32 (f : Nat → By) : (Try.prog.info? 22).map (·.size) = some (ba 32 f).toList.length := by rw [Array.length_toList, ba_size]; exact i22
theorem info12 (f : Nat → By) : (Try.prog.info? 24).map (·.size) = some (ba 12 f).toList.length := by rw [Array.length_toList, ba_size]; exact i24

/-- The key and the nonce, boxed. -/
structure KN (w wr : World) (key nonce : Nat → By) : Prop where
  chg : Chg w wr
  ky : Ar wr w.heap.size (ba 32 key)
  non : Ar wr (w.heap.size + 1) (ba 12 nonce)
theorem KN.to {w wr u : World} {key nonce : Nat → By} (h : KN w wr key nonce) (k : Chg wr u) : KN w u key nonce := ⟨h.chg.trans k, h.ky.chg k, h.non.chg k⟩

theorem stF_back (n : Nat) (key nonce txt : Nat → By) (c : Wd) : nums n (stF key c nonce (stF key c nonce txt)) = nums n txt := by
  refine nums_congr fun i _ => ?_
  unfold stF
  rw [BitVec.xor_assoc, BitVec.xor_self, BitVec.xor_zero]
end Go.Proofs.Ytkdidacebfkdmaa
