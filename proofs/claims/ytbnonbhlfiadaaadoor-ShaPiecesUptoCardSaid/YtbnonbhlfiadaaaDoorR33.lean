/-
  What ShaPieces asks at the end: the operations of its last region.
-/
import Derived.Test.YtbnonbhlfiadaaaDoorInv
namespace Go.Proofs.YtbnonbhlfiadaaaDoor
open Go.RowKit
set_option linter.unusedVariables false

def regOf (n : Nat) : Code → Option Code
  | .region i ops b => if i = n then some (.region i ops b) else none
  | .block _ b => regOf n b
  | .seq a b => match regOf n a with
    | some c => some c
    | none => regOf n b
  | .cond _ a b => match regOf n a with
    | some c => some c
    | none => regOf n b
  | .loop b => regOf n b
  | _ => none
def reg (f : Func) (n : Nat) : Code := match f.body with
  | some c => (regOf n c).getD .skip
  | none => .skip
def opsOf : Code → Array Oper
  | .region _ ops _ => ops
  | _ => #[]
theorem reg33 : reg Tryd.f4 33 = .region 33 (opsOf (reg Tryd.f4 33)) true := by kernel_rfl
theorem size33 : (opsOf (reg Tryd.f4 33)).size = 29 := by kernel_rfl
theorem dag33 : dagB (opsOf (reg Tryd.f4 33)) = true := by kernel_rfl
theorem op_of {ops : Array Oper} {i : Nat} {d : Option Tmp} {x : Op} {g : Option (Nat × Bool)} (h : (ops[i]?).map (fun o => (o.dst, o.op, o.guard)) = some (d, x, g)) : ∃ o, ops[i]? = some o ∧ o.dst = d ∧ o.op = x ∧ o.guard = g := by
  cases ho : ops[i]? with
  | none => rw [ho] at h; cases h
  | some o =>
    rw [ho] at h
    simp only [Option.map_some, Option.some.injEq, Prod.mk.injEq] at h
    exact ⟨o, rfl, h.1, h.2.1, h.2.2⟩
theorem at33_0 : ((opsOf (reg Tryd.f4 33))[0]?).map (fun o => (o.dst, o.op, o.guard)) = some (some 109, Op.move (.tmp 8), none) := by kernel_rfl
theorem at33_1 : ((opsOf (reg Tryd.f4 33))[1]?).map (fun o => (o.dst, o.op, o.guard)) = some (some 110, Op.call { callee := .value (.func 18), args := #[.tmp 109], argTypes := #[30] }, none) := by kernel_rfl
theorem at33_2 : ((opsOf (reg Tryd.f4 33))[2]?).map (fun o => (o.dst, o.op, o.guard)) = some (some 111, Op.move (.tmp 0), none) := by kernel_rfl
theorem at33_3 : ((opsOf (reg Tryd.f4 33))[3]?).map (fun o => (o.dst, o.op, o.guard)) = some (some 112, Op.binOp .eql 22 (.tmp 110) (.tmp 111) 22, none) := by kernel_rfl
theorem at33_4 : ((opsOf (reg Tryd.f4 33))[4]?).map (fun o => (o.dst, o.op, o.guard)) = some (some 113, Op.move (.tmp 112), none) := by kernel_rfl
theorem at33_5 : ((opsOf (reg Tryd.f4 33))[5]?).map (fun o => (o.dst, o.op, o.guard)) = some (some 114, Op.move (.tmp 8), some (4, true)) := by kernel_rfl
theorem at33_6 : ((opsOf (reg Tryd.f4 33))[6]?).map (fun o => (o.dst, o.op, o.guard)) = some (some 115, Op.call { callee := .value (.func 16), args := #[.tmp 114], argTypes := #[30] }, some (4, true)) := by kernel_rfl
theorem at33_7 : ((opsOf (reg Tryd.f4 33))[7]?).map (fun o => (o.dst, o.op, o.guard)) = some (some 116, Op.convert 23 9 (.tmp 115), some (4, true)) := by kernel_rfl
theorem at33_8 : ((opsOf (reg Tryd.f4 33))[8]?).map (fun o => (o.dst, o.op, o.guard)) = some (some 117, Op.move (.tmp 0), some (4, true)) := by kernel_rfl
theorem at33_9 : ((opsOf (reg Tryd.f4 33))[9]?).map (fun o => (o.dst, o.op, o.guard)) = some (some 118, Op.move (.tmp 9), some (4, true)) := by kernel_rfl
theorem at33_10 : ((opsOf (reg Tryd.f4 33))[10]?).map (fun o => (o.dst, o.op, o.guard)) = some (some 119, Op.buildSlice 29 1 #[(0, .tmp 118)], some (4, true)) := by kernel_rfl
theorem at33_11 : ((opsOf (reg Tryd.f4 33))[11]?).map (fun o => (o.dst, o.op, o.guard)) = some (some 120, Op.call { callee := .value (.func 8), args := #[.tmp 117, .tmp 119], argTypes := #[22, 29] }, some (4, true)) := by kernel_rfl
theorem at33_12 : ((opsOf (reg Tryd.f4 33))[12]?).map (fun o => (o.dst, o.op, o.guard)) = some (some 121, Op.convert 23 9 (.tmp 120), some (4, true)) := by kernel_rfl
theorem at33_13 : ((opsOf (reg Tryd.f4 33))[13]?).map (fun o => (o.dst, o.op, o.guard)) = some (some 122, Op.binOp .eql 9 (.tmp 116) (.tmp 121) 9, some (4, true)) := by kernel_rfl
theorem at33_14 : ((opsOf (reg Tryd.f4 33))[14]?).map (fun o => (o.dst, o.op, o.guard)) = some (some 123, Op.pick (.tmp 113) (.tmp 122) (.const (.bool false)), none) := by kernel_rfl
theorem at33_15 : ((opsOf (reg Tryd.f4 33))[15]?).map (fun o => (o.dst, o.op, o.guard)) = some (some 124, Op.move (.tmp 123), none) := by kernel_rfl
theorem at33_16 : ((opsOf (reg Tryd.f4 33))[16]?).map (fun o => (o.dst, o.op, o.guard)) = some (some 125, Op.move (.tmp 0), some (15, true)) := by kernel_rfl
theorem at33_17 : ((opsOf (reg Tryd.f4 33))[17]?).map (fun o => (o.dst, o.op, o.guard)) = some (some 126, Op.move (.tmp 1), some (15, true)) := by kernel_rfl
theorem at33_18 : ((opsOf (reg Tryd.f4 33))[18]?).map (fun o => (o.dst, o.op, o.guard)) = some (some 127, Op.call { callee := .value (.func 8), args := #[.tmp 125, .tmp 126], argTypes := #[22, 29] }, some (15, true)) := by kernel_rfl
theorem at33_19 : ((opsOf (reg Tryd.f4 33))[19]?).map (fun o => (o.dst, o.op, o.guard)) = some (some 128, Op.convert 23 9 (.tmp 127), some (15, true)) := by kernel_rfl
theorem at33_20 : ((opsOf (reg Tryd.f4 33))[20]?).map (fun o => (o.dst, o.op, o.guard)) = some (some 129, Op.move (.tmp 0), some (15, true)) := by kernel_rfl
theorem at33_21 : ((opsOf (reg Tryd.f4 33))[21]?).map (fun o => (o.dst, o.op, o.guard)) = some (some 130, Op.move (.tmp 1), some (15, true)) := by kernel_rfl
theorem at33_22 : ((opsOf (reg Tryd.f4 33))[22]?).map (fun o => (o.dst, o.op, o.guard)) = some (some 131, Op.call { callee := .value (.func 19), args := #[.tmp 130], argTypes := #[29] }, some (15, true)) := by kernel_rfl
theorem at33_23 : ((opsOf (reg Tryd.f4 33))[23]?).map (fun o => (o.dst, o.op, o.guard)) = some (some 132, Op.buildSlice 29 1 #[(0, .tmp 131)], some (15, true)) := by kernel_rfl
theorem at33_24 : ((opsOf (reg Tryd.f4 33))[24]?).map (fun o => (o.dst, o.op, o.guard)) = some (some 133, Op.call { callee := .value (.func 8), args := #[.tmp 129, .tmp 132], argTypes := #[22, 29] }, some (15, true)) := by kernel_rfl
theorem at33_25 : ((opsOf (reg Tryd.f4 33))[25]?).map (fun o => (o.dst, o.op, o.guard)) = some (some 134, Op.convert 23 9 (.tmp 133), some (15, true)) := by kernel_rfl
theorem at33_26 : ((opsOf (reg Tryd.f4 33))[26]?).map (fun o => (o.dst, o.op, o.guard)) = some (some 135, Op.binOp .eql 9 (.tmp 128) (.tmp 134) 9, some (15, true)) := by kernel_rfl
theorem at33_27 : ((opsOf (reg Tryd.f4 33))[27]?).map (fun o => (o.dst, o.op, o.guard)) = some (some 136, Op.pick (.tmp 124) (.tmp 135) (.const (.bool false)), none) := by kernel_rfl
theorem at33_28 : ((opsOf (reg Tryd.f4 33))[28]?).map (fun o => (o.dst, o.op, o.guard)) = some (some 6, Op.assign (.tmp 136), none) := by kernel_rfl

theorem step_val {P : Program} {ops : Array Oper} {Q : Exit → Act → World → Prop} {K : Act → World → Prop} {a : Act} {w w' : World} {i d : Nat} {o : Oper} {v : Value} (ho : ops[i]? = some o) (hw : Region.wanted o (yielded ops a.tmps) = true) (hd : o.dst = some d) (hrun : (execOp a.eval o).run P w = .ok (.value v) w') (hK : K (a.put (some d) v) w') : wpOp P ops Q i K a w := by
  unfold wpOp
  rw [ho]
  simp only [hw, if_true]
  refine .inl ?_
  unfold Oper.wp
  rw [hrun, Oper.upon_value, hd]
  exact hK
theorem step_call {P : Program} {ops : Array Oper} {Q : Exit → Act → World → Prop} {K : Act → World → Prop} {a : Act} {w : World} {i d f : Nat} {o : Oper} {vs : Array Value} (ho : ops[i]? = some o) (hw : Region.wanted o (yielded ops a.tmps) = true) (hd : o.dst = some d) (hrun : (execOp a.eval o).run P w = .ok (.enter f vs) w) (hc : Calls P f vs w fun e w' => ∃ v, e = .returned v ∧ K (a.put (some d) v) w') : wpOp P ops Q i K a w := by
  unfold wpOp
  rw [ho]
  simp only [hw, if_true]
  refine .inl ?_
  unfold Oper.wp
  rw [hrun]
  show Calls P f vs w _
  refine hc.mono ?_
  rintro e w' ⟨v, rfl, h⟩
  rw [hd]
  exact h
theorem wanted_none {o : Oper} {y : Nat → Option Bool} (h : o.guard = none) : Region.wanted o y = true := by
  unfold Region.wanted
  rw [h]
theorem wanted_some {o oj : Oper} {ops : Array Oper} {A : Array Value} {j d : Nat} (h : o.guard = some (j, true)) (hj : ops[j]? = some oj) (hd : oj.dst = some d) (hs : d < A.size) (hv : A.getD d undef = .bool true) : Region.wanted o (yielded ops A) = true := by
  unfold Region.wanted
  rw [h]
  show (yielded ops A j == some true) = true
  unfold yielded
  rw [hj]
  simp only [Option.bind_some, hd]
  have : A[d]? = some (.bool true) := by
    rw [Array.getElem?_eq_getElem hs]
    simp only [Array.getD, hs, dif_pos] at hv
    rw [← hv]
    rfl
  rw [this]
  rfl

theorem run_go (a : Act) (o : Oper) (f : Nat) (fn : Func) (xs : Array Operand) (ts : Array TypeId) (w : World) (hf : Tryd.prog.funcs[f]? = some fn) (hn : (fn.name == "runtime.NumGoroutine") = false) (hb : fn.body.isNone = false) (h : o.op = .call { callee := .value (.func f), args := xs, argTypes := ts }) : (execOp a.eval o).run Tryd.prog w = .ok (.enter f (xs.map a.eval)) w := by
  have he : a.eval (.func f) = .func (.func f) #[] #[] := rfl
  have hn' : ¬ fn.name = "runtime.NumGoroutine" := by simpa using hn
  have hb' : ¬ fn.body = none := fun e => by rw [e] at hb; cases hb
  simp [execOp, h, resolve, invoke, he, Deferred.ofValue, callFunc, hf, hn', hb']
end Go.Proofs.YtbnonbhlfiadaaaDoor
