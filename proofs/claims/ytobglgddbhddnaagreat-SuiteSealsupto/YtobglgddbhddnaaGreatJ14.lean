/-
  The document's Encrypt: boxes, rows moved.
  The document's Encrypt: columns mixed.
-/
import Derived.Test.YtobglgddbhddnaaGreatJ13
import Derived.Test.YtobglgddbhddnaaGreatJ02
namespace Go.Proofs.YtobglgddbhddnaaGreat
open Go.RowKit
set_option linter.unusedVariables false

set_option maxRecDepth 100000 in
set_option maxHeartbeats 8000000 in
/-- Boxes, rows moved. -/
theorem re3_any {Q : Exit → Act → World → Prop} {t1 t2 t4 t5 t6 t9 t10 t11 t12 t13 t14 t15 t16 t17 t18 t19 t20 t21 t22 t23 t24 t25 t26 t27 t28 t29 t30 t31 t32 t33 t34 t35 t36 t37 t38 t39 t40 t41 t42 t43 t44 t45 t46 t47 t48 t49 t50 t51 t52 t53 t54 t55 t56 t57 t58 t59 t60 t61 t62 t63 t64 t65 t66 t67 t68 t69 t70 t71 t72 t73 t74 t75 t76 t77 t78 t79 t80 t81 t82 t83 t84 t85 t86 t87 t88 t89 t90 t91 t92 t93 t94 t95 t96 t97 t98 t99 t100 t101 t102 t103 t104 t105 t106 t107 t108 t109 t110 t111 t112 t113 t114 t115 t116 t117 t118 t119 t120 t121 t122 t123 t124 t125 t126 t127 t128 t129 t130 t131 t132 t133 t134 t135 t136 t137 t138 t139 t140 t141 t142 t143 : Value} {K R cb : Nat} {k f : Nat → By} {w0 w : World} (h : RE w0 w K R k f) (hc : Ar w cb (ba 16 zB)) (hcb : w0.heap.size + 1 < cb)
    (hQ : ∀ (u8 u9 u41 u42 u43 u44 u45 u46 u47 u48 u49 u50 u51 u52 u53 u54 u55 u56 u57 u58 u59 u60 u61 u62 u63 u64 u65 u66 u67 : Value) (w' : World), RE w0 w' K R k f ∧ Ar w' cb (ba 16 (mv f)) → Q .normal ⟨#[.pointer (some ⟨K, 0, none⟩), t1, t2, .pointer (some ⟨w0.heap.size, 0, none⟩), t4, t5, t6, .pointer (some ⟨cb, 0, none⟩), u8, u9, t10, t11, t12, t13, t14, t15, t16, t17, t18, t19, t20, t21, t22, t23, t24, t25, t26, t27, t28, t29, t30, t31, t32, t33, t34, t35, t36, t37, t38, t39, t40, u41, u42, u43, u44, u45, u46, u47, u48, u49, u50, u51, u52, u53, u54, u55, u56, u57, u58, u59, u60, u61, u62, u63, u64, u65, u66, u67, t68, t69, t70, t71, t72, t73, t74, t75, t76, t77, t78, t79, t80, t81, t82, t83, t84, t85, t86, t87, t88, t89, t90, t91, t92, t93, t94, t95, t96, t97, t98, t99, t100, t101, t102, t103, t104, t105, t106, t107, t108, t109, t110, t111, t112, t113, t114, t115, t116, t117, t118, t119, t120, t121, t122, t123, t124, t125, t126, t127, t128, t129, t130, t131, t132, t133, t134, t135, t136, t137, t138, t139, t140, t141, t142, t143], []⟩ w') :
    (blk Tryz.f39 4).wp Tryz.prog Q ⟨#[.pointer (some ⟨K, 0, none⟩), t1, t2, .pointer (some ⟨w0.heap.size, 0, none⟩), t4, t5, t6, .pointer (some ⟨cb, 0, none⟩), .int .i64 0, t9, t10, t11, t12, t13, t14, t15, t16, t17, t18, t19, t20, t21, t22, t23, t24, t25, t26, t27, t28, t29, t30, t31, t32, t33, t34, t35, t36, t37, t38, t39, t40, t41, t42, t43, t44, t45, t46, t47, t48, t49, t50, t51, t52, t53, t54, t55, t56, t57, t58, t59, t60, t61, t62, t63, t64, t65, t66, t67, t68, t69, t70, t71, t72, t73, t74, t75, t76, t77, t78, t79, t80, t81, t82, t83, t84, t85, t86, t87, t88, t89, t90, t91, t92, t93, t94, t95, t96, t97, t98, t99, t100, t101, t102, t103, t104, t105, t106, t107, t108, t109, t110, t111, t112, t113, t114, t115, t116, t117, t118, t119, t120, t121, t122, t123, t124, t125, t126, t127, t128, t129, t130, t131, t132, t133, t134, t135, t136, t137, t138, t139, t140, t141, t142, t143], []⟩ w := by
  show Code.wp Tryz.prog (Code.block _ (Code.loop _)) Q _ _
  have HQ := (show Hid (∀ (u8 u9 u41 u42 u43 u44 u45 u46 u47 u48 u49 u50 u51 u52 u53 u54 u55 u56 u57 u58 u59 u60 u61 u62 u63 u64 u65 u66 u67 : Value) (w' : World), RE w0 w' K R k f ∧ Ar w' cb (ba 16 (mv f)) → Q .normal ⟨#[.pointer (some ⟨K, 0, none⟩), t1, t2, .pointer (some ⟨w0.heap.size, 0, none⟩), t4, t5, t6, .pointer (some ⟨cb, 0, none⟩), u8, u9, t10, t11, t12, t13, t14, t15, t16, t17, t18, t19, t20, t21, t22, t23, t24, t25, t26, t27, t28, t29, t30, t31, t32, t33, t34, t35, t36, t37, t38, t39, t40, u41, u42, u43, u44, u45, u46, u47, u48, u49, u50, u51, u52, u53, u54, u55, u56, u57, u58, u59, u60, u61, u62, u63, u64, u65, u66, u67, t68, t69, t70, t71, t72, t73, t74, t75, t76, t77, t78, t79, t80, t81, t82, t83, t84, t85, t86, t87, t88, t89, t90, t91, t92, t93, t94, t95, t96, t97, t98, t99, t100, t101, t102, t103, t104, t105, t106, t107, t108, t109, t110, t111, t112, t113, t114, t115, t116, t117, t118, t119, t120, t121, t122, t123, t124, t125, t126, t127, t128, t129, t130, t131, t132, t133, t134, t135, t136, t137, t138, t139, t140, t141, t142, t143], []⟩ w') from hQ)
  clear hQ
  have H0 : Hid (RE w0 w K R k f ∧ Ar w cb (ba 16 zB) ∧ w0.heap.size + 1 < cb) := ⟨h, hc, hcb⟩
  clear h hc hcb
  go_wp2_with fail
  go_loopw [8] (fun v wr => ∃ (c : Nat), v = .int .i64 c ∧ c ≤ 4 ∧ RE w0 wr K R k f ∧ Ar wr cb (ba 16 (upTo (4 * c) (mv f) zB))) (fun v wr => 4 - (intOf v).toNat)
  case atStart => exact ⟨0, rfl, by omega, H0.out.1, by rw [Nat.mul_zero, upTo_zero]; exact H0.out.2.1⟩
  case round =>
    obtain ⟨c, rfl, hcl, hz, hc⟩ := hrel
    have H : Hid (RE w0 wr K R k f ∧ Ar wr cb (ba 16 (upTo (4 * c) (mv f) zB))) := ⟨hz, hc⟩
    clear hz hc
    by_cases h4 : c < 4
    · have hd : decide ((c : Int) < 4) = true := by simp; omega
      obtain ⟨t, ht⟩ : ∃ t : Nat, 4 * (c : Int) = t := ⟨4 * c, by omega⟩
      have wt := wrap_i (x := (t : Int)) (by omega) (by omega)
      have HT : Hid (t = 4 * c) := by show t = _; omega
      go_wp2_with fail
      go_loopw [9] (fun v wr => ∃ (r : Nat), v = .int .i64 r ∧ r ≤ 4 ∧ RE w0 wr K R k f ∧ Ar wr cb (ba 16 (upTo (4 * c + r) (mv f) zB))) (fun v wr => 4 - (intOf v).toNat)
      case atStart => exact ⟨0, rfl, by omega, H.out⟩
      case round =>
        clear H
        obtain ⟨r, rfl, hr, hz, hc⟩ := hrel
        have H : Hid (RE w0 wr K R k f ∧ Ar wr cb (ba 16 (upTo (4 * c + r) (mv f) zB))) := ⟨hz, hc⟩
        by_cases hr4 : r < 4
        · have hdr : decide ((r : Int) < 4) = true := by simp; omega
          obtain ⟨tr, htr⟩ : ∃ tr : Nat, (t : Int) + r = tr := ⟨t + r, by omega⟩
          have wtr := wrap_i (x := (tr : Int)) (by omega) (by omega)
          obtain ⟨s, hs⟩ : ∃ s : Nat, (c : Int) + r = s := ⟨c + r, by omega⟩
          have ws := wrap_i (x := (s : Int)) (by omega) (by omega)
          obtain ⟨q, hq⟩ : ∃ q : Nat, q = s % 4 := ⟨_, rfl⟩
          have hmod : (s : Int).tmod 4 = q := by rw [Int.tmod_eq_emod_of_nonneg (by omega), hq]; rfl
          have wq' := wrap_i (x := (q : Int)) (by omega) (by omega)
          obtain ⟨q4, hq4⟩ : ∃ q4 : Nat, 4 * (q : Int) = q4 := ⟨4 * q, by omega⟩
          have wq4 := wrap_i (x := (q4 : Int)) (by omega) (by omega)
          obtain ⟨j, hj⟩ : ∃ j : Nat, (q4 : Int) + r = j := ⟨q4 + r, by omega⟩
          have wj := wrap_i (x := (j : Int)) (by omega) (by omega)
          have lj : j < 16 := by omega
          have lj' : (j : Int) < 16 := by omega
          have ltr : tr < 16 := by have := HT.out; omega
          have ltr' : (tr : Int) < 16 := by omega
          have c1 := (hz.b.cell j).trans (ba_get 16 _ lj)
          have c2 := rkB hz.key (f j)
          have c3 := (hc.cell tr).trans (ba_get 16 _ ltr)
          have f3 := hc.frozen tr
          obtain ⟨x3, hx3⟩ : ∃ x, x = upTo (4 * c + r) (mv f) zB tr := ⟨_, rfl⟩
          rw [← hx3] at c3
          have HTR : Hid (tr = 4 * c + r) := by have := HT.out; show tr = _; omega
          obtain ⟨y, hy⟩ : ∃ y, y = sb (f j) := ⟨_, rfl⟩
          have HY : Hid (y = mv f (4 * c + r)) := by
            show y = _
            have e : 4 * (((4 * c + r) / 4 + (4 * c + r) % 4) % 4) + (4 * c + r) % 4 = j := by omega
            rw [hy, mv, e]
          obtain ⟨X, hX⟩ : ∃ X, X = (f j).toNat := ⟨_, rfl⟩
          have lX : X < 256 := by rw [hX]; exact (f j).isLt
          rw [← hX] at c1 c2
          rw [← hy] at c2
          have lX' : (X : Int) < 256 := by omega
          clear hX hy hz hc hq hx3
          go_wp2_with fail
          refine wp_region_noPanic ?_
          go_region_with (fail)
          all_goals refine NoPanic.normal ?_
          all_goals go_wp2
          all_goals
            go_roundw
            case rel =>
              have hlt := H0.out.2.2
              refine ⟨r + 1, by go_num, by omega, H.out.1.other hlt _ _, ?_⟩
              have hh := H.out.2.set tr (.int .u8 (y.toNat : Int))
              rw [ba_set, HTR.out, HY.out, upTo_upd (4 * c + r) (mv f) zB] at hh
              rw [HY.out, HTR.out]
              exact hh.drew
            case measure => simp [intOf]; omega
        · have : r = 4 := by omega
          subst this
          clear hz hc
          go_wp2
          go_roundw
          case rel =>
            have e : 4 * c + 4 = 4 * (c + 1) := by omega
            rw [e] at H
            exact ⟨c + 1, by go_num, by omega, H.out⟩
          case measure => simp [intOf]; omega
    · have : c = 4 := by omega
      subst this
      have HE : Hid (RE w0 wr K R k f ∧ Ar wr cb (ba 16 (mv f))) := by
        have := H.out
        rw [upTo_all] at this
        exact this
      clear H
      go_wp2
      exact HQ.out _ _ _ _ _ _ _ _ _ _ _ _ _ _ _ _ _ _ _ _ _ _ _ _ _ _ _ _ _ _  HE.out
end Go.Proofs.YtobglgddbhddnaaGreat

namespace Go.Proofs.YtobglgddbhddnaaGreat
open Go.RowKit
set_option linter.unusedVariables false

theorem modf (r d : Nat) (hr : r < 4) (hd : d ≤ 3) : ∃ ra rm : Nat, (r : Int) + d = ra ∧ IntKind.i64.wrap (ra : Int) = ra ∧ (ra : Int).tmod 4 = rm ∧ IntKind.i64.wrap (rm : Int) = rm ∧ (rm : Int) < 4 ∧ rm < 4 ∧ Hid (rm = (r + d) % 4) := by
  refine ⟨r + d, (r + d) % 4, by omega, wrap_i (by omega) (by omega), ?_, wrap_i (by omega) (by omega), by omega, by omega, rfl⟩
  rw [Int.tmod_eq_emod_of_nonneg (by omega)]
  rfl

theorem op_st5 {o : Oper} {a : Act} {w : World} {K : Act → World → Prop} {Q : Exit → Act → World → Prop} (x y : Operand) (ho : o.op = .store 5 x y) (b i : Nat) (v : By) (hx : a.eval x = .pointer (some ⟨b, i, none⟩)) (hy : a.eval y = .int .u8 (v.toNat : Int)) (hc : ∃ u, w.cell? ⟨b, i, none⟩ = some u) (hf : w.frozen? ⟨b, i, none⟩ = false) (hK : K (a.put o.dst undef) (w.setCell ⟨b, i, none⟩ (.int .u8 (v.toNat : Int)))) : o.wp Tryz.prog a w K Q := by
  obtain ⟨u, hc⟩ := hc
  unfold Oper.wp
  revert hx hy
  generalize hρ : a.eval = ρ
  intro hx hy
  simp [go_sem, execOp, ho, hx, hy, hc, hf]
  exact hK

/-- A region of a function's code, found by its number. -/
def regOf (n : Nat) : Code → Option Code
  | .region i ops b => if i = n then some (.region i ops b) else none
  | .block _ b => regOf n b
  | .seq a b => match regOf n a with
    | some c => some c
    | none => regOf n b
  | .cond _ a b => match regOf n a with
    | some c => some c
    | none => regOf n b
  | .loop b => regOf n b
  | _ => none
def reg (f : Func) (n : Nat) : Code := match f.body with
  | some c => (regOf n c).getD .skip
  | none => .skip

set_option maxRecDepth 100000 in
set_option maxHeartbeats 8000000 in
theorem reg29_any {Q : Exit → Act → World → Prop} {t0 t1 t2 t3 t4 t5 t6 t8 t9 t12 t15 t16 t17 t18 t19 t20 t21 t22 t23 t24 t25 t26 t27 t28 t29 t30 t31 t32 t33 t34 t35 t36 t37 t38 t39 t40 t41 t42 t43 t44 t45 t46 t47 t48 t49 t50 t51 t52 t53 t54 t55 t56 t57 t58 t59 t60 t61 t62 t63 t64 t65 t66 t67 t68 t69 t70 t71 t72 t73 t74 t75 t76 t77 t78 t79 t80 t81 t82 t83 t84 t85 t86 t87 t88 t89 t90 t91 t92 t93 t94 t95 t96 t97 t98 t125 t126 t127 t128 t129 t130 t131 t132 t133 t134 t135 t136 t137 t138 t139 t140 t141 t142 t143 t99 t100 t101 t102 t103 t104 t105 t106 t107 t108 t109 t110 t111 t112 t113 t114 t115 t116 t117 t118 t119 t120 t121 t122 t123 t124 : Value} {c r t tr r2a r2 r3a r3 ab cb : Nat} {x0 x1 x2 x3 D0 D1 s1 s2 s3 s4 : By} {w : World}
    (ht : 4 * (c : Int) = t) (wt : IntKind.i64.wrap (t : Int) = t) (htr : (t : Int) + r = tr) (wtr : IntKind.i64.wrap (tr : Int) = tr) (lr : (r : Int) < 4) (ltr : (tr : Int) < 16)
    (hr2a : (r : Int) + 2 = r2a) (wr2a : IntKind.i64.wrap (r2a : Int) = r2a) (hr2m : (r2a : Int).tmod 4 = r2) (wr2 : IntKind.i64.wrap (r2 : Int) = r2) (lr2 : (r2 : Int) < 4)
    (hr3a : (r : Int) + 3 = r3a) (wr3a : IntKind.i64.wrap (r3a : Int) = r3a) (hr3m : (r3a : Int).tmod 4 = r3) (wr3 : IntKind.i64.wrap (r3 : Int) = r3) (lr3 : (r3 : Int) < 4)
    (hab : ab < w.heap.size) (c0 : w.cell? ⟨ab, r, none⟩ = some (.int .u8 (x0.toNat : Int))) (c2 : w.cell? ⟨ab, r2, none⟩ = some (.int .u8 (x2.toNat : Int))) (c3 : w.cell? ⟨ab, r3, none⟩ = some (.int .u8 (x3.toNat : Int)))
    (HD : Hid (D0 = dbl x0 ∧ D1 = dbl x1)) (es1 : Go.bits .xor .u8 (D0.toNat : Int) (D1.toNat : Int) = (s1.toNat : Int)) (es2 : Go.bits .xor .u8 (s1.toNat : Int) (x1.toNat : Int) = (s2.toNat : Int)) (es3 : Go.bits .xor .u8 (s2.toNat : Int) (x2.toNat : Int) = (s3.toNat : Int)) (es4 : Go.bits .xor .u8 (s3.toNat : Int) (x3.toNat : Int) = (s4.toNat : Int))
    (cv : Value) (k1 : w.cell? ⟨cb, tr, none⟩ = some cv) (f1 : w.frozen? ⟨cb, tr, none⟩ = false) (hcb : cb < w.heap.size)
    (hQ : ∀ (u99 u100 u101 u102 u103 u104 u105 u106 u107 u108 u109 u110 u111 u112 u113 u114 u115 u116 u117 u118 u119 u120 u121 u122 u123 u124 : Value) (u : World), Chg w u → Q .normal ⟨#[t0, t1, t2, t3, t4, t5, t6, .pointer (some ⟨cb, 0, none⟩), t8, t9, .int .i64 (c : Int), .pointer (some ⟨ab, 0, none⟩), t12, .int .i64 (r : Int), .int .u8 (x1.toNat : Int), t15, t16, t17, t18, t19, t20, t21, t22, t23, t24, t25, t26, t27, t28, t29, t30, t31, t32, t33, t34, t35, t36, t37, t38, t39, t40, t41, t42, t43, t44, t45, t46, t47, t48, t49, t50, t51, t52, t53, t54, t55, t56, t57, t58, t59, t60, t61, t62, t63, t64, t65, t66, t67, t68, t69, t70, t71, t72, t73, t74, t75, t76, t77, t78, t79, t80, t81, t82, t83, t84, t85, t86, t87, t88, t89, t90, t91, t92, t93, t94, t95, t96, t97, t98, u99, u100, u101, u102, u103, u104, u105, u106, u107, u108, u109, u110, u111, u112, u113, u114, u115, u116, u117, u118, u119, u120, u121, u122, u123, u124, t125, t126, t127, t128, t129, t130, t131, t132, t133, t134, t135, t136, t137, t138, t139, t140, t141, t142, t143], []⟩ (u.setCell ⟨cb, tr, none⟩ (.int .u8 (s4.toNat : Int)))) :
    (reg Tryz.f39 29).wp Tryz.prog Q ⟨#[t0, t1, t2, t3, t4, t5, t6, .pointer (some ⟨cb, 0, none⟩), t8, t9, .int .i64 (c : Int), .pointer (some ⟨ab, 0, none⟩), t12, .int .i64 (r : Int), .int .u8 (x1.toNat : Int), t15, t16, t17, t18, t19, t20, t21, t22, t23, t24, t25, t26, t27, t28, t29, t30, t31, t32, t33, t34, t35, t36, t37, t38, t39, t40, t41, t42, t43, t44, t45, t46, t47, t48, t49, t50, t51, t52, t53, t54, t55, t56, t57, t58, t59, t60, t61, t62, t63, t64, t65, t66, t67, t68, t69, t70, t71, t72, t73, t74, t75, t76, t77, t78, t79, t80, t81, t82, t83, t84, t85, t86, t87, t88, t89, t90, t91, t92, t93, t94, t95, t96, t97, t98, t99, t100, t101, t102, t103, t104, t105, t106, t107, t108, t109, t110, t111, t112, t113, t114, t115, t116, t117, t118, t119, t120, t121, t122, t123, t124, t125, t126, t127, t128, t129, t130, t131, t132, t133, t134, t135, t136, t137, t138, t139, t140, t141, t142, t143], []⟩ w := by
  show Code.wp Tryz.prog (Code.region 29 _ true) Q _ _
  refine wp_region_vals 26 (fun j => match j with
    | 0 => .int .i64 (c : Int)
    | 1 => .int .i64 (t : Int)
    | 2 => .int .i64 (r : Int)
    | 3 => .int .i64 (tr : Int)
    | 4 => .int .i64 (r : Int)
    | 5 => .pointer (some ⟨ab, r, none⟩)
    | 6 => .int .u8 (x0.toNat : Int)
    | 7 => .int .u8 (D0.toNat : Int)
    | 8 => .int .u8 (x1.toNat : Int)
    | 9 => .int .u8 (D1.toNat : Int)
    | 10 => .int .u8 (s1.toNat : Int)
    | 11 => .int .u8 (x1.toNat : Int)
    | 12 => .int .u8 (s2.toNat : Int)
    | 13 => .int .i64 (r : Int)
    | 14 => .int .i64 (r2a : Int)
    | 15 => .int .i64 (r2 : Int)
    | 16 => .pointer (some ⟨ab, r2, none⟩)
    | 17 => .int .u8 (x2.toNat : Int)
    | 18 => .int .u8 (s3.toNat : Int)
    | 19 => .int .i64 (r : Int)
    | 20 => .int .i64 (r3a : Int)
    | 21 => .int .i64 (r3 : Int)
    | 22 => .pointer (some ⟨ab, r3, none⟩)
    | 23 => .int .u8 (x3.toNat : Int)
    | 24 => .int .u8 (s4.toNat : Int)
    | _ => .pointer (some ⟨cb, tr, none⟩)) (by kernel_rfl) (by kernel_rfl) (by kernel_rfl) (by kernel_rfl) (by kernel_rfl) (by kernel_rfl) ?_ ?_
  · intro i o ac u hi ho hf hg hc
    have hcs : i = 0 ∨ i = 1 ∨ i = 2 ∨ i = 3 ∨ i = 4 ∨ i = 5 ∨ i = 6 ∨ i = 7 ∨ i = 8 ∨ i = 9 ∨ i = 10 ∨ i = 11 ∨ i = 12 ∨ i = 13 ∨ i = 14 ∨ i = 15 ∨ i = 16 ∨ i = 17 ∨ i = 18 ∨ i = 19 ∨ i = 20 ∨ i = 21 ∨ i = 22 ∨ i = 23 ∨ i = 24 ∨ i = 25 := by omega
    rcases hcs with rfl | rfl | rfl | rfl | rfl | rfl | rfl | rfl | rfl | rfl | rfl | rfl | rfl | rfl | rfl | rfl | rfl | rfl | rfl | rfl | rfl | rfl | rfl | rfl | rfl | rfl
    · injection ho with ho
      subst ho
      have e1 : ac.eval (.tmp 10) = .int .i64 (c : Int) := hf 10 (by kernel_rfl)
      exact op_val (by simp [execOp, e1]) (Chg.refl _)
    · injection ho with ho
      subst ho
      have e1 : ac.eval (.const (.int .i64 4)) = .int .i64 4 := rfl
      have e2 : ac.eval (.tmp 99) = .int .i64 (c : Int) := hg 0 (by kernel_rfl) (by decide)
      exact op_val (by revert e1 e2; generalize ac.eval = ρ; intro e1 e2; simp [go_sem, execOp, e1, e2, ht, wt]) (Chg.refl _)
    · injection ho with ho
      subst ho
      have e1 : ac.eval (.tmp 13) = .int .i64 (r : Int) := hf 13 (by kernel_rfl)
      exact op_val (by simp [execOp, e1]) (Chg.refl _)
    · injection ho with ho
      subst ho
      have e1 : ac.eval (.tmp 100) = .int .i64 (t : Int) := hg 1 (by kernel_rfl) (by decide)
      have e2 : ac.eval (.tmp 101) = .int .i64 (r : Int) := hg 2 (by kernel_rfl) (by decide)
      exact op_val (by revert e1 e2; generalize ac.eval = ρ; intro e1 e2; simp [go_sem, execOp, e1, e2, htr, wtr]) (Chg.refl _)
    · injection ho with ho
      subst ho
      have e1 : ac.eval (.tmp 13) = .int .i64 (r : Int) := hf 13 (by kernel_rfl)
      exact op_val (by simp [execOp, e1]) (Chg.refl _)
    · injection ho with ho
      subst ho
      have e1 : ac.eval (.tmp 11) = .pointer (some ⟨ab, 0, none⟩) := hf 11 (by kernel_rfl)
      have e2 : ac.eval (.tmp 103) = .int .i64 (r : Int) := hg 4 (by kernel_rfl) (by decide)
      exact op_val (by revert e1 e2; generalize ac.eval = ρ; intro e1 e2; simp [go_sem, execOp, e1, e2, lr]) (Chg.refl _)
    · injection ho with ho
      subst ho
      have ca : u.cell? ⟨ab, r, none⟩ = some (.int .u8 (x0.toNat : Int)) := (World.cell?_of_block (hc.block ab hab)).trans c0
      have e1 : ac.eval (.tmp 104) = .pointer (some ⟨ab, r, none⟩) := hg 5 (by kernel_rfl) (by decide)
      exact op_val (by revert e1; generalize ac.eval = ρ; intro e1; simp [go_sem, execOp, e1, ca]) (Chg.refl _)
    · injection ho with ho
      subst ho
      have e1 : ac.eval (.tmp 105) = .int .u8 (x0.toNat : Int) := hg 6 (by kernel_rfl) (by decide)
      exact op_go 54 Tryz.f54 #[.tmp 105] #[5] rfl Tryz.func54 (by kernel_rfl) (by kernel_rfl) (by simp [e1]) ((refDouble_any x0 _).mono (fun e w2 h => ⟨h.1.trans (by show Ending.returned (Value.int .u8 ((dbl x0).toNat : Int)) = Ending.returned (Value.int .u8 (D0.toNat : Int)); rw [HD.out.1]), h.2 ▸ Chg.refl _⟩))
    · injection ho with ho
      subst ho
      have e1 : ac.eval (.tmp 14) = .int .u8 (x1.toNat : Int) := hf 14 (by kernel_rfl)
      exact op_val (by simp [execOp, e1]) (Chg.refl _)
    · injection ho with ho
      subst ho
      have e1 : ac.eval (.tmp 107) = .int .u8 (x1.toNat : Int) := hg 8 (by kernel_rfl) (by decide)
      exact op_go 54 Tryz.f54 #[.tmp 107] #[5] rfl Tryz.func54 (by kernel_rfl) (by kernel_rfl) (by simp [e1]) ((refDouble_any x1 _).mono (fun e w2 h => ⟨h.1.trans (by show Ending.returned (Value.int .u8 ((dbl x1).toNat : Int)) = Ending.returned (Value.int .u8 (D1.toNat : Int)); rw [HD.out.2]), h.2 ▸ Chg.refl _⟩))
    · injection ho with ho
      subst ho
      have e1 : ac.eval (.tmp 106) = .int .u8 (D0.toNat : Int) := hg 7 (by kernel_rfl) (by decide)
      have e2 : ac.eval (.tmp 108) = .int .u8 (D1.toNat : Int) := hg 9 (by kernel_rfl) (by decide)
      exact op_val (by revert e1 e2; generalize ac.eval = ρ; intro e1 e2; simp [go_sem, execOp, e1, e2, es1]) (Chg.refl _)
    · injection ho with ho
      subst ho
      have e1 : ac.eval (.tmp 14) = .int .u8 (x1.toNat : Int) := hf 14 (by kernel_rfl)
      exact op_val (by simp [execOp, e1]) (Chg.refl _)
    · injection ho with ho
      subst ho
      have e1 : ac.eval (.tmp 109) = .int .u8 (s1.toNat : Int) := hg 10 (by kernel_rfl) (by decide)
      have e2 : ac.eval (.tmp 110) = .int .u8 (x1.toNat : Int) := hg 11 (by kernel_rfl) (by decide)
      exact op_val (by revert e1 e2; generalize ac.eval = ρ; intro e1 e2; simp [go_sem, execOp, e1, e2, es2]) (Chg.refl _)
    · injection ho with ho
      subst ho
      have e1 : ac.eval (.tmp 13) = .int .i64 (r : Int) := hf 13 (by kernel_rfl)
      exact op_val (by simp [execOp, e1]) (Chg.refl _)
    · injection ho with ho
      subst ho
      have e1 : ac.eval (.tmp 112) = .int .i64 (r : Int) := hg 13 (by kernel_rfl) (by decide)
      have e2 : ac.eval (.const (.int .i64 2)) = .int .i64 2 := rfl
      exact op_val (by revert e1 e2; generalize ac.eval = ρ; intro e1 e2; simp [go_sem, execOp, e1, e2, hr2a, wr2a]) (Chg.refl _)
    · injection ho with ho
      subst ho
      have e1 : ac.eval (.tmp 113) = .int .i64 (r2a : Int) := hg 14 (by kernel_rfl) (by decide)
      have e2 : ac.eval (.const (.int .i64 4)) = .int .i64 4 := rfl
      exact op_val (by revert e1 e2; generalize ac.eval = ρ; intro e1 e2; simp [go_sem, execOp, e1, e2, hr2m]) (Chg.refl _)
    · injection ho with ho
      subst ho
      have e1 : ac.eval (.tmp 11) = .pointer (some ⟨ab, 0, none⟩) := hf 11 (by kernel_rfl)
      have e2 : ac.eval (.tmp 114) = .int .i64 (r2 : Int) := hg 15 (by kernel_rfl) (by decide)
      exact op_val (by revert e1 e2; generalize ac.eval = ρ; intro e1 e2; simp [go_sem, execOp, e1, e2, lr2]) (Chg.refl _)
    · injection ho with ho
      subst ho
      have ca : u.cell? ⟨ab, r2, none⟩ = some (.int .u8 (x2.toNat : Int)) := (World.cell?_of_block (hc.block ab hab)).trans c2
      have e1 : ac.eval (.tmp 115) = .pointer (some ⟨ab, r2, none⟩) := hg 16 (by kernel_rfl) (by decide)
      exact op_val (by revert e1; generalize ac.eval = ρ; intro e1; simp [go_sem, execOp, e1, ca]) (Chg.refl _)
    · injection ho with ho
      subst ho
      have e1 : ac.eval (.tmp 111) = .int .u8 (s2.toNat : Int) := hg 12 (by kernel_rfl) (by decide)
      have e2 : ac.eval (.tmp 116) = .int .u8 (x2.toNat : Int) := hg 17 (by kernel_rfl) (by decide)
      exact op_val (by revert e1 e2; generalize ac.eval = ρ; intro e1 e2; simp [go_sem, execOp, e1, e2, es3]) (Chg.refl _)
    · injection ho with ho
      subst ho
      have e1 : ac.eval (.tmp 13) = .int .i64 (r : Int) := hf 13 (by kernel_rfl)
      exact op_val (by simp [execOp, e1]) (Chg.refl _)
    · injection ho with ho
      subst ho
      have e1 : ac.eval (.tmp 118) = .int .i64 (r : Int) := hg 19 (by kernel_rfl) (by decide)
      have e2 : ac.eval (.const (.int .i64 3)) = .int .i64 3 := rfl
      exact op_val (by revert e1 e2; generalize ac.eval = ρ; intro e1 e2; simp [go_sem, execOp, e1, e2, hr3a, wr3a]) (Chg.refl _)
    · injection ho with ho
      subst ho
      have e1 : ac.eval (.tmp 119) = .int .i64 (r3a : Int) := hg 20 (by kernel_rfl) (by decide)
      have e2 : ac.eval (.const (.int .i64 4)) = .int .i64 4 := rfl
      exact op_val (by revert e1 e2; generalize ac.eval = ρ; intro e1 e2; simp [go_sem, execOp, e1, e2, hr3m]) (Chg.refl _)
    · injection ho with ho
      subst ho
      have e1 : ac.eval (.tmp 11) = .pointer (some ⟨ab, 0, none⟩) := hf 11 (by kernel_rfl)
      have e2 : ac.eval (.tmp 120) = .int .i64 (r3 : Int) := hg 21 (by kernel_rfl) (by decide)
      exact op_val (by revert e1 e2; generalize ac.eval = ρ; intro e1 e2; simp [go_sem, execOp, e1, e2, lr3]) (Chg.refl _)
    · injection ho with ho
      subst ho
      have ca : u.cell? ⟨ab, r3, none⟩ = some (.int .u8 (x3.toNat : Int)) := (World.cell?_of_block (hc.block ab hab)).trans c3
      have e1 : ac.eval (.tmp 121) = .pointer (some ⟨ab, r3, none⟩) := hg 22 (by kernel_rfl) (by decide)
      exact op_val (by revert e1; generalize ac.eval = ρ; intro e1; simp [go_sem, execOp, e1, ca]) (Chg.refl _)
    · injection ho with ho
      subst ho
      have e1 : ac.eval (.tmp 117) = .int .u8 (s3.toNat : Int) := hg 18 (by kernel_rfl) (by decide)
      have e2 : ac.eval (.tmp 122) = .int .u8 (x3.toNat : Int) := hg 23 (by kernel_rfl) (by decide)
      exact op_val (by revert e1 e2; generalize ac.eval = ρ; intro e1 e2; simp [go_sem, execOp, e1, e2, es4]) (Chg.refl _)
    · injection ho with ho
      subst ho
      have e1 : ac.eval (.tmp 7) = .pointer (some ⟨cb, 0, none⟩) := hf 7 (by kernel_rfl)
      have e2 : ac.eval (.tmp 102) = .int .i64 (tr : Int) := hg 3 (by kernel_rfl) (by decide)
      exact op_val (by revert e1 e2; generalize ac.eval = ρ; intro e1 e2; simp [go_sem, execOp, e1, e2, ltr]) (Chg.refl _)
  · intro o u ho hc
    injection ho with ho
    subst ho
    refine op_st5 (.tmp 124) (.tmp 123) rfl cb tr s4 rfl rfl ⟨cv, (World.cell?_of_block (hc.block cb hcb)).trans k1⟩ ?_ ?_
    · rw [← f1]
      exact World.frozen?_of_block (hc.block cb hcb)
    · exact hQ _ _ _ _ _ _ _ _ _ _ _ _ _ _ _ _ _ _ _ _ _ _ _ _ _ _ _ ((Chg.refl w).drew.trans hc)

set_option maxRecDepth 100000 in
set_option maxHeartbeats 8000000 in
/-- Columns mixed. -/
theorem re5_any {Q : Exit → Act → World → Prop} {t1 t2 t4 t5 t6 t8 t9 t11 t12 t13 t14 t15 t16 t17 t18 t19 t20 t21 t22 t23 t24 t25 t26 t27 t28 t29 t30 t31 t32 t33 t34 t35 t36 t37 t38 t39 t40 t41 t42 t43 t44 t45 t46 t47 t48 t49 t50 t51 t52 t53 t54 t55 t56 t57 t58 t59 t60 t61 t62 t63 t64 t65 t66 t67 t68 t69 t70 t71 t72 t73 t74 t75 t76 t77 t78 t79 t80 t81 t82 t83 t84 t85 t86 t87 t88 t89 t90 t91 t92 t93 t94 t95 t96 t97 t98 t99 t100 t101 t102 t103 t104 t105 t106 t107 t108 t109 t110 t111 t112 t113 t114 t115 t116 t117 t118 t119 t120 t121 t122 t123 t124 t125 t126 t127 t128 t129 t130 t131 t132 t133 t134 t135 t136 t137 t138 t139 t140 t141 t142 t143 : Value} {K R cb : Nat} {k f g : Nat → By} {w0 w : World} (h : RE w0 w K R k f) (hc : Ar w cb (ba 16 g)) (hcb : w0.heap.size + 1 < cb)
    (hQ : ∀ (u10 u11 u12 u13 u14 u74 u75 u76 u77 u78 u79 u80 u81 u82 u83 u84 u85 u86 u87 u88 u89 u90 u91 u92 u93 u94 u95 u96 u97 u98 u99 u100 u101 u102 u103 u104 u105 u106 u107 u108 u109 u110 u111 u112 u113 u114 u115 u116 u117 u118 u119 u120 u121 u122 u123 u124 : Value) (w' : World), RE w0 w' K R k f ∧ Ar w' cb (ba 16 (mc g)) → Q .normal ⟨#[.pointer (some ⟨K, 0, none⟩), t1, t2, .pointer (some ⟨w0.heap.size, 0, none⟩), t4, t5, t6, .pointer (some ⟨cb, 0, none⟩), t8, t9, u10, u11, u12, u13, u14, t15, t16, t17, t18, t19, t20, t21, t22, t23, t24, t25, t26, t27, t28, t29, t30, t31, t32, t33, t34, t35, t36, t37, t38, t39, t40, t41, t42, t43, t44, t45, t46, t47, t48, t49, t50, t51, t52, t53, t54, t55, t56, t57, t58, t59, t60, t61, t62, t63, t64, t65, t66, t67, t68, t69, t70, t71, t72, t73, u74, u75, u76, u77, u78, u79, u80, u81, u82, u83, u84, u85, u86, u87, u88, u89, u90, u91, u92, u93, u94, u95, u96, u97, u98, u99, u100, u101, u102, u103, u104, u105, u106, u107, u108, u109, u110, u111, u112, u113, u114, u115, u116, u117, u118, u119, u120, u121, u122, u123, u124, t125, t126, t127, t128, t129, t130, t131, t132, t133, t134, t135, t136, t137, t138, t139, t140, t141, t142, t143], []⟩ w') :
    (blk Tryz.f39 8).wp Tryz.prog Q ⟨#[.pointer (some ⟨K, 0, none⟩), t1, t2, .pointer (some ⟨w0.heap.size, 0, none⟩), t4, t5, t6, .pointer (some ⟨cb, 0, none⟩), t8, t9, .int .i64 0, t11, t12, t13, t14, t15, t16, t17, t18, t19, t20, t21, t22, t23, t24, t25, t26, t27, t28, t29, t30, t31, t32, t33, t34, t35, t36, t37, t38, t39, t40, t41, t42, t43, t44, t45, t46, t47, t48, t49, t50, t51, t52, t53, t54, t55, t56, t57, t58, t59, t60, t61, t62, t63, t64, t65, t66, t67, t68, t69, t70, t71, t72, t73, t74, t75, t76, t77, t78, t79, t80, t81, t82, t83, t84, t85, t86, t87, t88, t89, t90, t91, t92, t93, t94, t95, t96, t97, t98, t99, t100, t101, t102, t103, t104, t105, t106, t107, t108, t109, t110, t111, t112, t113, t114, t115, t116, t117, t118, t119, t120, t121, t122, t123, t124, t125, t126, t127, t128, t129, t130, t131, t132, t133, t134, t135, t136, t137, t138, t139, t140, t141, t142, t143], []⟩ w := by
  show Code.wp Tryz.prog (Code.block _ (Code.loop _)) Q _ _
  have HQ := (show Hid (∀ (u10 u11 u12 u13 u14 u74 u75 u76 u77 u78 u79 u80 u81 u82 u83 u84 u85 u86 u87 u88 u89 u90 u91 u92 u93 u94 u95 u96 u97 u98 u99 u100 u101 u102 u103 u104 u105 u106 u107 u108 u109 u110 u111 u112 u113 u114 u115 u116 u117 u118 u119 u120 u121 u122 u123 u124 : Value) (w' : World), RE w0 w' K R k f ∧ Ar w' cb (ba 16 (mc g)) → Q .normal ⟨#[.pointer (some ⟨K, 0, none⟩), t1, t2, .pointer (some ⟨w0.heap.size, 0, none⟩), t4, t5, t6, .pointer (some ⟨cb, 0, none⟩), t8, t9, u10, u11, u12, u13, u14, t15, t16, t17, t18, t19, t20, t21, t22, t23, t24, t25, t26, t27, t28, t29, t30, t31, t32, t33, t34, t35, t36, t37, t38, t39, t40, t41, t42, t43, t44, t45, t46, t47, t48, t49, t50, t51, t52, t53, t54, t55, t56, t57, t58, t59, t60, t61, t62, t63, t64, t65, t66, t67, t68, t69, t70, t71, t72, t73, u74, u75, u76, u77, u78, u79, u80, u81, u82, u83, u84, u85, u86, u87, u88, u89, u90, u91, u92, u93, u94, u95, u96, u97, u98, u99, u100, u101, u102, u103, u104, u105, u106, u107, u108, u109, u110, u111, u112, u113, u114, u115, u116, u117, u118, u119, u120, u121, u122, u123, u124, t125, t126, t127, t128, t129, t130, t131, t132, t133, t134, t135, t136, t137, t138, t139, t140, t141, t142, t143], []⟩ w') from hQ)
  clear hQ
  have H0 : Hid (RE w0 w K R k f ∧ Ar w cb (ba 16 g) ∧ w0.heap.size + 1 < cb) := ⟨h, hc, hcb⟩
  clear h hc hcb
  have hz := zero46.1
  go_wp2_with fail
  go_loopw [10] (fun v wr => ∃ (c : Nat), v = .int .i64 c ∧ c ≤ 4 ∧ RE w0 wr K R k f ∧ Ar wr cb (ba 16 (upTo (4 * c) (mc g) g))) (fun v wr => 4 - (intOf v).toNat)
  case atStart => exact ⟨0, rfl, by omega, H0.out.1, by rw [Nat.mul_zero, upTo_zero]; exact H0.out.2.1⟩
  case round =>
    obtain ⟨c, rfl, hcl, hz0, hc⟩ := hrel
    have H : Hid (RE w0 wr K R k f ∧ Ar wr cb (ba 16 (upTo (4 * c) (mc g) g))) := ⟨hz0, hc⟩
    clear hz0 hc
    by_cases h4 : c < 4
    · have hd : decide ((c : Int) < 4) = true := by simp; omega
      obtain ⟨t, ht⟩ : ∃ t : Nat, 4 * (c : Int) = t := ⟨4 * c, by omega⟩
      have wt := wrap_i (x := (t : Int)) (by omega) (by omega)
      have HT : Hid (t = 4 * c) := by show t = _; omega
      go_wp2_with fail
      obtain ⟨ab, hab⟩ : ∃ ab, ab = wr.heap.size := ⟨_, rfl⟩
      obtain ⟨w2, hw2⟩ : ∃ w2, w2 = wr.alloc (.cells (ba 4 zB) 70) := ⟨_, rfl⟩
      obtain ⟨a, ha⟩ : ∃ a : Nat → By, a = fun r => g (4 * c + r) := ⟨_, rfl⟩
      have HA : Hid (a = fun r => g (4 * c + r)) := ha
      have Z2 : Hid (RE w0 w2 K R k f ∧ Ar w2 cb (ba 16 (upTo (4 * c) (mc g) g)) ∧ Ar w2 ab (ba 4 zB) ∧ cb < ab ∧ w0.heap.size + 1 < ab) := by
        have e1 := H.out.2.lt
        have e2 := H0.out.2.2
        rw [hw2, hab]
        exact ⟨H.out.1.to ((Chg.refl wr).alloc _), H.out.2.alloc _, Ar.new wr _ _, e1, by omega⟩
      rw [← hw2, ← hab]
      clear hw2 hab H ha
      go_loopw [12] (fun v wr => ∃ (r : Nat), v = .int .i64 r ∧ r ≤ 4 ∧ RE w0 wr K R k f ∧ Ar wr cb (ba 16 (upTo (4 * c) (mc g) g)) ∧ Ar wr ab (ba 4 (upTo r a zB))) (fun v wr => 4 - (intOf v).toNat)
      case atStart => exact ⟨0, rfl, by omega, Z2.out.1, Z2.out.2.1, by rw [upTo_zero]; exact Z2.out.2.2.1⟩
      case round =>
        obtain ⟨r, rfl, hr, hz1, hc1, ha1⟩ := hrel
        have H : Hid (RE w0 wr K R k f ∧ Ar wr cb (ba 16 (upTo (4 * c) (mc g) g)) ∧ Ar wr ab (ba 4 (upTo r a zB))) := ⟨hz1, hc1, ha1⟩
        by_cases hr4 : r < 4
        · have hdr : decide ((r : Int) < 4) = true := by simp; omega
          have lr : (r : Int) < 4 := by omega
          obtain ⟨tr, htr⟩ : ∃ tr : Nat, (t : Int) + r = tr := ⟨t + r, by omega⟩
          have wtr := wrap_i (x := (tr : Int)) (by omega) (by omega)
          have ltr : (tr : Int) < 16 := by omega
          have etr : tr = 4 * c + r := by have := HT.out; omega
          have c1 := (hc1.cell tr).trans (ba_get 16 _ (by omega))
          have e1 : upTo (4 * c) (mc g) g tr = a r := by
            have : ¬ tr < 4 * c := by omega
            rw [HA.out]
            simp only [upTo, this, if_false]
            rw [etr]
          rw [e1] at c1
          have c2 := (ha1.cell r).trans (ba_get 4 _ hr4)
          have f2 := ha1.frozen r
          obtain ⟨x, hx⟩ : ∃ x, x = a r := ⟨_, rfl⟩
          obtain ⟨y, hy⟩ : ∃ y, y = upTo r a zB r := ⟨_, rfl⟩
          rw [← hx] at c1
          rw [← hy] at c2
          have HX : Hid (x = a r) := hx
          clear hx hy hz1 hc1 ha1 e1 etr
          go_wp2_with fail
          go_roundw
          case rel =>
            have hlt := Z2.out.2.2.2
            refine ⟨r + 1, by go_num, by omega, H.out.1.otherN hlt.2 _ _, H.out.2.1.other (by dsimp only; omega) _, ?_⟩
            have hh := H.out.2.2.set r (.int .u8 (x.toNat : Int))
            rw [ba_set, HX.out, upTo_upd r a zB] at hh
            rw [HX.out]
            exact hh
          case measure => simp [intOf]; omega
        · have : r = 4 := by omega
          subst this
          have Z3 : Hid (RE w0 wr K R k f ∧ Ar wr cb (ba 16 (upTo (4 * c + 0) (mc g) g)) ∧ Ar wr ab (ba 4 a)) := by
            have := H.out
            rw [upTo_all] at this
            exact this
          clear hz1 hc1 ha1 H
          obtain ⟨wo, hwo⟩ : ∃ wo, wo = wr := ⟨_, rfl⟩
          rw [← hwo] at Z3 ⊢
          clear hwo
          go_wp2_with fail
          go_loopw [13] (fun v wr => ∃ (r : Nat), v = .int .i64 r ∧ r ≤ 4 ∧ RE w0 wr K R k f ∧ Ar wr cb (ba 16 (upTo (4 * c + r) (mc g) g)) ∧ Ar wr ab (ba 4 a)) (fun v wr => 4 - (intOf v).toNat)
          case atStart => exact ⟨0, rfl, by omega, Z3.out⟩
          case round =>
            clear Z3
            obtain ⟨r, rfl, hr, hz1, hc1, ha1⟩ := hrel
            have Z : Hid (RE w0 wr K R k f ∧ Ar wr cb (ba 16 (upTo (4 * c + r) (mc g) g)) ∧ Ar wr ab (ba 4 a)) := ⟨hz1, hc1, ha1⟩
            by_cases hr4 : r < 4
            · have hdr : decide ((r : Int) < 4) = true := by simp; omega
              have lr : (r : Int) < 4 := by omega
              obtain ⟨tr, htr⟩ : ∃ tr : Nat, (t : Int) + r = tr := ⟨t + r, by omega⟩
              have wtr := wrap_i (x := (tr : Int)) (by omega) (by omega)
              have ltr : (tr : Int) < 16 := by omega
              have HTR : Hid (tr = 4 * c + r ∧ tr < 16) := by have := HT.out; show _ ∧ _; omega
              obtain ⟨r1a, r1, hr1a, wr1a, hr1m, wr1, lr1, ln1, Hr1⟩ := modf r 1 hr4 (by decide)
              replace hr1a : (r : Int) + 1 = r1a := hr1a
              obtain ⟨r2a, r2, hr2a, wr2a, hr2m, wr2, lr2, ln2, Hr2⟩ := modf r 2 hr4 (by decide)
              replace hr2a : (r : Int) + 2 = r2a := hr2a
              obtain ⟨r3a, r3, hr3a, wr3a, hr3m, wr3, lr3, ln3, Hr3⟩ := modf r 3 hr4 (by decide)
              replace hr3a : (r : Int) + 3 = r3a := hr3a
              have c0 := (ha1.cell r).trans (ba_get 4 a hr4)
              have c1 := (ha1.cell r1).trans (ba_get 4 a ln1)
              have c2 := (ha1.cell r2).trans (ba_get 4 a ln2)
              have c3 := (ha1.cell r3).trans (ba_get 4 a ln3)
              obtain ⟨x0, hx0⟩ : ∃ x, x = a r := ⟨_, rfl⟩
              obtain ⟨x1, hx1⟩ : ∃ x, x = a r1 := ⟨_, rfl⟩
              obtain ⟨x2, hx2⟩ : ∃ x, x = a r2 := ⟨_, rfl⟩
              obtain ⟨x3, hx3⟩ : ∃ x, x = a r3 := ⟨_, rfl⟩
              rw [← hx0] at c0
              rw [← hx1] at c1
              rw [← hx2] at c2
              rw [← hx3] at c3
              obtain ⟨D0, hD0⟩ : ∃ D, D = dbl x0 := ⟨_, rfl⟩
              obtain ⟨D1, hD1⟩ : ∃ D, D = dbl x1 := ⟨_, rfl⟩
              have HD : Hid (D0 = dbl x0 ∧ D1 = dbl x1) := ⟨hD0, hD1⟩
              obtain ⟨s1, Hs1, es1⟩ := nameXor D0 D1
              obtain ⟨s2, Hs2, es2⟩ := nameXor s1 x1
              obtain ⟨s3, Hs3, es3⟩ := nameXor s2 x2
              obtain ⟨s4, Hs4, es4⟩ := nameXor s3 x3
              have HS : Hid (s4 = mc g (4 * c + r)) := by
                show s4 = _
                rw [mc_mx g c r hr4, Hs4.out, Hs3.out, Hs2.out, Hs1.out, hD0, hD1, hx0, hx1, hx2, hx3, HA.out, mx]
                rw [Hr1.out, Hr2.out, Hr3.out]
              obtain ⟨cv, k1, f1⟩ : ∃ v, wr.cell? ⟨cb, tr, none⟩ = some v ∧ wr.frozen? ⟨cb, tr, none⟩ = false := ⟨_, (hc1.cell tr).trans (ba_get 16 _ HTR.out.2), hc1.frozen tr⟩
              clear hz1 hc1 ha1 hx0 hx1 hx2 hx3 hD0 hD1 Hs1 Hs2 Hs3 Hs4 ln1 ln2 ln3 Hr1 Hr2 Hr3
              go_upto_region 29 with fail
              refine reg29_any ht wt htr wtr lr ltr hr2a wr2a hr2m wr2 lr2 hr3a wr3a hr3m wr3 lr3 Z.out.2.2.lt c0 c2 c3 HD es1 es2 es3 es4 cv k1 f1 Z.out.2.1.lt ?_
              intro y99 y100 y101 y102 y103 y104 y105 y106 y107 y108 y109 y110 y111 y112 y113 y114 y115 y116 y117 y118 y119 y120 y121 y122 y123 y124 u hcw
              have HC : Hid (Chg wr u) := hcw
              clear hcw k1 f1 c0 c1 c2 c3
              go_wp2_with fail
              go_roundw
              case rel =>
                have hcw := HC.out
                have hlt := Z2.out.2.2.2
                have hl0 := H0.out.2.2
                refine ⟨r + 1, by go_num, by omega, (Z.out.1.to hcw).otherN hl0 _ _, ?_, (Z.out.2.2.chg hcw).other (by dsimp only; omega) _⟩
                have hh := (Z.out.2.1.chg hcw).set tr (.int .u8 (s4.toNat : Int))
                rw [ba_set, HS.out, HTR.out.1, upTo_upd (4 * c + r) (mc g) g] at hh
                rw [HS.out, HTR.out.1]
                exact hh
              case measure => simp [intOf]; omega
            · have : r = 4 := by omega
              subst this
              clear hz1 hc1 ha1
              go_wp2
              go_roundw
              case rel =>
                have e : 4 * c + 4 = 4 * (c + 1) := by omega
                have := Z.out
                rw [e] at this
                exact ⟨c + 1, by go_num, by omega, this.1, this.2.1⟩
              case measure => simp [intOf]; omega
    · have : c = 4 := by omega
      subst this
      have HE : Hid (RE w0 wr K R k f ∧ Ar wr cb (ba 16 (mc g))) := by
        have := H.out
        rw [upTo_all] at this
        exact this
      clear H hz
      go_wp2
      exact HQ.out _ _ _ _ _ _ _ _ _ _ _ _ _ _ _ _ _ _ _ _ _ _ _ _ _ _ _ _ _ _ _ _ _ _ _ _ _ _ _ _ _ _ _ _ _ _ _ _ _ _ _ _ _ _ _ _ _  HE.out
end Go.Proofs.YtobglgddbhddnaaGreat
