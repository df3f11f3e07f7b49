/-
  The document's New: its regions that draw.
  The document's New: its regions that draw.
  The document's key as it is built.
-/
import Derived.Test.YtobglgddbhddnaaGreatJ16
import Derived.Test.YtobglgddbhddnaaGreatJ13
namespace Go.Proofs.YtobglgddbhddnaaGreat
open Go.RowKit
set_option linter.unusedVariables false

set_option maxRecDepth 100000 in
set_option maxHeartbeats 8000000 in
theorem reg14_any {Q : Exit → Act → World → Prop} {t0 t1 t2 t3 t4 t6 t8 t10 t11 t12 t13 t14 t15 t16 t17 t18 t19 t20 t21 t22 t23 t24 t25 t26 t27 t28 t29 t30 t31 t32 t33 t34 t35 t36 t37 t38 t39 t40 t41 t42 t43 t44 t45 t46 t47 t48 t49 t50 t51 t52 t53 t54 t55 t56 t57 t58 t59 t60 t61 t62 t63 t64 t65 t66 t67 t68 t69 t70 t71 t72 t73 t74 t75 t76 t77 t78 t79 t80 t81 t82 t83 t84 t85 t86 t87 t88 t89 t90 t91 t92 t93 t94 t95 t96 t97 t98 t99 t100 t101 t102 t103 t104 t105 t106 t107 t108 t109 t110 t111 t112 t113 t114 t115 t116 t117 t118 t119 t120 t121 t122 t123 t124 t125 t126 t127 t128 t129 t130 t131 t132 t133 t134 t135 t136 t137 t138 t139 t140 t141 t142 t143 t144 t145 t146 t147 t148 t149 t150 t151 t152 t153 t154 t155 t156 t157 t158 t159 t160 t161 t162 t163 t164 t165 t166 t167 t168 t169 t170 t171 t172 t173 t174 t175 t176 t177 t178 t179 t180 t181 t182 t183 t184 t185 t186 t187 t188 t189 t190 t191 t192 t193 t194 t195 : Value} {K tb : Nat} {a0 a1 a2 a3 b0 b1 b2 b3 p y : By} {f : Nat → By} {w : World} (htb : tb < w.heap.size) (hKl : K < w.heap.size)
    (c0 : w.cell? ⟨tb, 0, none⟩ = some (.int .u8 (a0.toNat : Int))) (c1 : w.cell? ⟨tb, 1, none⟩ = some (.int .u8 (a1.toNat : Int))) (c2 : w.cell? ⟨tb, 2, none⟩ = some (.int .u8 (a2.toNat : Int))) (c3 : w.cell? ⟨tb, 3, none⟩ = some (.int .u8 (a3.toNat : Int)))
    (d0 : w.cell? ⟨K, 241 + a0.toNat, none⟩ = some (.int .u8 (b0.toNat : Int))) (d1 : w.cell? ⟨K, 241 + a1.toNat, none⟩ = some (.int .u8 (b1.toNat : Int))) (d2 : w.cell? ⟨K, 241 + a2.toNat, none⟩ = some (.int .u8 (b2.toNat : Int))) (d3 : w.cell? ⟨K, 241 + a3.toNat, none⟩ = some (.int .u8 (b3.toNat : Int)))
    (ey : Go.bits .xor .u8 (b1.toNat : Int) (p.toNat : Int) = (y.toNat : Int)) (hT : Ar w tb (ba 4 f))
    (hQ : ∀ (u76 u77 u78 u79 u80 u81 u82 u83 u84 u85 u86 u87 u88 u89 u90 u91 u92 u93 u94 u95 u96 u97 u98 u99 u100 u101 u102 u103 u104 u105 u106 : Value) (u : World), Chg w u → Q .normal ⟨#[t0, t1, t2, t3, t4, .pointer (some ⟨K, 0, none⟩), t6, .int .u8 (p.toNat : Int), t8, .pointer (some ⟨tb, 0, none⟩), t10, t11, t12, t13, t14, t15, t16, t17, t18, t19, t20, t21, t22, t23, t24, t25, t26, t27, t28, t29, t30, t31, t32, t33, t34, t35, t36, t37, t38, t39, t40, t41, t42, t43, t44, t45, t46, t47, t48, t49, t50, t51, t52, t53, t54, t55, t56, t57, t58, t59, t60, t61, t62, t63, t64, t65, t66, t67, t68, t69, t70, t71, t72, t73, t74, t75, u76, u77, u78, u79, u80, u81, u82, u83, u84, u85, u86, u87, u88, u89, u90, u91, u92, u93, u94, u95, u96, u97, u98, u99, u100, u101, u102, u103, u104, u105, u106, t107, t108, t109, t110, t111, t112, t113, t114, t115, t116, t117, t118, t119, t120, t121, t122, t123, t124, t125, t126, t127, t128, t129, t130, t131, t132, t133, t134, t135, t136, t137, t138, t139, t140, t141, t142, t143, t144, t145, t146, t147, t148, t149, t150, t151, t152, t153, t154, t155, t156, t157, t158, t159, t160, t161, t162, t163, t164, t165, t166, t167, t168, t169, t170, t171, t172, t173, t174, t175, t176, t177, t178, t179, t180, t181, t182, t183, t184, t185, t186, t187, t188, t189, t190, t191, t192, t193, t194, t195], []⟩ (u.setRow tb (ba 4 (fn4 y b2 b3 b0)))) :
    (reg Tryz.f23 14).wp Tryz.prog Q ⟨#[t0, t1, t2, t3, t4, .pointer (some ⟨K, 0, none⟩), t6, .int .u8 (p.toNat : Int), t8, .pointer (some ⟨tb, 0, none⟩), t10, t11, t12, t13, t14, t15, t16, t17, t18, t19, t20, t21, t22, t23, t24, t25, t26, t27, t28, t29, t30, t31, t32, t33, t34, t35, t36, t37, t38, t39, t40, t41, t42, t43, t44, t45, t46, t47, t48, t49, t50, t51, t52, t53, t54, t55, t56, t57, t58, t59, t60, t61, t62, t63, t64, t65, t66, t67, t68, t69, t70, t71, t72, t73, t74, t75, t76, t77, t78, t79, t80, t81, t82, t83, t84, t85, t86, t87, t88, t89, t90, t91, t92, t93, t94, t95, t96, t97, t98, t99, t100, t101, t102, t103, t104, t105, t106, t107, t108, t109, t110, t111, t112, t113, t114, t115, t116, t117, t118, t119, t120, t121, t122, t123, t124, t125, t126, t127, t128, t129, t130, t131, t132, t133, t134, t135, t136, t137, t138, t139, t140, t141, t142, t143, t144, t145, t146, t147, t148, t149, t150, t151, t152, t153, t154, t155, t156, t157, t158, t159, t160, t161, t162, t163, t164, t165, t166, t167, t168, t169, t170, t171, t172, t173, t174, t175, t176, t177, t178, t179, t180, t181, t182, t183, t184, t185, t186, t187, t188, t189, t190, t191, t192, t193, t194, t195], []⟩ w := by
  show Code.wp Tryz.prog (Code.region 14 _ true) Q _ _
  refine wp_region_vals 31 (fun j => match j with
    | 0 => .pointer (some ⟨K, 0, none⟩)
    | 1 => .pointer (some ⟨tb, 1, none⟩)
    | 2 => .int .u8 (a1.toNat : Int)
    | 3 => .pointer (some ⟨K, 0, none⟩)
    | 4 => .pointer (some ⟨K, 241, none⟩)
    | 5 => .pointer (some ⟨K, 241 + a1.toNat, none⟩)
    | 6 => .int .u8 (b1.toNat : Int)
    | 7 => .int .u8 (p.toNat : Int)
    | 8 => .int .u8 (y.toNat : Int)
    | 9 => .pointer (some ⟨K, 0, none⟩)
    | 10 => .pointer (some ⟨tb, 2, none⟩)
    | 11 => .int .u8 (a2.toNat : Int)
    | 12 => .pointer (some ⟨K, 0, none⟩)
    | 13 => .pointer (some ⟨K, 241, none⟩)
    | 14 => .pointer (some ⟨K, 241 + a2.toNat, none⟩)
    | 15 => .int .u8 (b2.toNat : Int)
    | 16 => .pointer (some ⟨K, 0, none⟩)
    | 17 => .pointer (some ⟨tb, 3, none⟩)
    | 18 => .int .u8 (a3.toNat : Int)
    | 19 => .pointer (some ⟨K, 0, none⟩)
    | 20 => .pointer (some ⟨K, 241, none⟩)
    | 21 => .pointer (some ⟨K, 241 + a3.toNat, none⟩)
    | 22 => .int .u8 (b3.toNat : Int)
    | 23 => .pointer (some ⟨K, 0, none⟩)
    | 24 => .pointer (some ⟨tb, 0, none⟩)
    | 25 => .int .u8 (a0.toNat : Int)
    | 26 => .pointer (some ⟨K, 0, none⟩)
    | 27 => .pointer (some ⟨K, 241, none⟩)
    | 28 => .pointer (some ⟨K, 241 + a0.toNat, none⟩)
    | 29 => .int .u8 (b0.toNat : Int)
    | _ => .agg (ba 4 (fn4 y b2 b3 b0))) (by kernel_rfl) (by kernel_rfl) (by kernel_rfl) (by kernel_rfl) (by kernel_rfl) (by kernel_rfl) ?_ ?_
  · intro i o ac u hi ho hf hg hc
    have hcs : i = 0 ∨ i = 1 ∨ i = 2 ∨ i = 3 ∨ i = 4 ∨ i = 5 ∨ i = 6 ∨ i = 7 ∨ i = 8 ∨ i = 9 ∨ i = 10 ∨ i = 11 ∨ i = 12 ∨ i = 13 ∨ i = 14 ∨ i = 15 ∨ i = 16 ∨ i = 17 ∨ i = 18 ∨ i = 19 ∨ i = 20 ∨ i = 21 ∨ i = 22 ∨ i = 23 ∨ i = 24 ∨ i = 25 ∨ i = 26 ∨ i = 27 ∨ i = 28 ∨ i = 29 ∨ i = 30 := by omega
    rcases hcs with rfl | rfl | rfl | rfl | rfl | rfl | rfl | rfl | rfl | rfl | rfl | rfl | rfl | rfl | rfl | rfl | rfl | rfl | rfl | rfl | rfl | rfl | rfl | rfl | rfl | rfl | rfl | rfl | rfl | rfl | rfl
    · injection ho with ho
      subst ho
      have e1 : ac.eval (.tmp 5) = .pointer (some ⟨K, 0, none⟩) := hf 5 (by kernel_rfl)
      exact op_val (by simp [execOp, e1]) (Chg.refl _)
    · injection ho with ho
      subst ho
      have e1 : ac.eval (.tmp 9) = .pointer (some ⟨tb, 0, none⟩) := hf 9 (by kernel_rfl)
      have e2 : ac.eval (.const (.int .i64 1)) = .int .i64 1 := rfl
      exact op_val (by revert e1 e2; generalize ac.eval = ρ; intro e1 e2; simp [go_sem, execOp, e1, e2]) (Chg.refl _)
    · injection ho with ho
      subst ho
      have ca : u.cell? ⟨tb, 1, none⟩ = some (.int .u8 (a1.toNat : Int)) := (World.cell?_of_block (hc.block tb htb)).trans c1
      have e1 : ac.eval (.tmp 77) = .pointer (some ⟨tb, 1, none⟩) := hg 1 (by kernel_rfl) (by decide)
      exact op_val (by revert e1; generalize ac.eval = ρ; intro e1; simp [go_sem, execOp, e1, ca]) (Chg.refl _)
    · injection ho with ho
      subst ho
      have e1 : ac.eval (.tmp 76) = .pointer (some ⟨K, 0, none⟩) := hg 0 (by kernel_rfl) (by decide)
      exact op_val (by revert e1; generalize ac.eval = ρ; intro e1; simp [go_sem, execOp, e1]) (Chg.refl _)
    · injection ho with ho
      subst ho
      have e1 : ac.eval (.tmp 79) = .pointer (some ⟨K, 0, none⟩) := hg 3 (by kernel_rfl) (by decide)
      exact op_val (by revert e1; generalize ac.eval = ρ; intro e1; simp [go_sem, execOp, e1]) (Chg.refl _)
    · injection ho with ho
      subst ho
      have la : ¬ (256 : Int) ≤ (a1.toNat : Int) := by have := a1.isLt; omega
      have e1 : ac.eval (.tmp 80) = .pointer (some ⟨K, 241, none⟩) := hg 4 (by kernel_rfl) (by decide)
      have e2 : ac.eval (.tmp 78) = .int .u8 (a1.toNat : Int) := hg 2 (by kernel_rfl) (by decide)
      exact op_val (by revert e1 e2; generalize ac.eval = ρ; intro e1 e2; simp [go_sem, execOp, e1, e2, la]) (Chg.refl _)
    · injection ho with ho
      subst ho
      have ca : u.cell? ⟨K, 241 + a1.toNat, none⟩ = some (.int .u8 (b1.toNat : Int)) := (World.cell?_of_block (hc.block K hKl)).trans d1
      have e1 : ac.eval (.tmp 81) = .pointer (some ⟨K, 241 + a1.toNat, none⟩) := hg 5 (by kernel_rfl) (by decide)
      exact op_val (by revert e1; generalize ac.eval = ρ; intro e1; simp [go_sem, execOp, e1, ca]) (Chg.refl _)
    · injection ho with ho
      subst ho
      have e1 : ac.eval (.tmp 7) = .int .u8 (p.toNat : Int) := hf 7 (by kernel_rfl)
      exact op_val (by simp [execOp, e1]) (Chg.refl _)
    · injection ho with ho
      subst ho
      have e1 : ac.eval (.tmp 82) = .int .u8 (b1.toNat : Int) := hg 6 (by kernel_rfl) (by decide)
      have e2 : ac.eval (.tmp 83) = .int .u8 (p.toNat : Int) := hg 7 (by kernel_rfl) (by decide)
      exact op_val (by revert e1 e2; generalize ac.eval = ρ; intro e1 e2; simp [go_sem, execOp, e1, e2, ey]) (Chg.refl _)
    · injection ho with ho
      subst ho
      have e1 : ac.eval (.tmp 5) = .pointer (some ⟨K, 0, none⟩) := hf 5 (by kernel_rfl)
      exact op_val (by simp [execOp, e1]) (Chg.refl _)
    · injection ho with ho
      subst ho
      have e1 : ac.eval (.tmp 9) = .pointer (some ⟨tb, 0, none⟩) := hf 9 (by kernel_rfl)
      have e2 : ac.eval (.const (.int .i64 2)) = .int .i64 2 := rfl
      exact op_val (by revert e1 e2; generalize ac.eval = ρ; intro e1 e2; simp [go_sem, execOp, e1, e2]) (Chg.refl _)
    · injection ho with ho
      subst ho
      have ca : u.cell? ⟨tb, 2, none⟩ = some (.int .u8 (a2.toNat : Int)) := (World.cell?_of_block (hc.block tb htb)).trans c2
      have e1 : ac.eval (.tmp 86) = .pointer (some ⟨tb, 2, none⟩) := hg 10 (by kernel_rfl) (by decide)
      exact op_val (by revert e1; generalize ac.eval = ρ; intro e1; simp [go_sem, execOp, e1, ca]) (Chg.refl _)
    · injection ho with ho
      subst ho
      have e1 : ac.eval (.tmp 85) = .pointer (some ⟨K, 0, none⟩) := hg 9 (by kernel_rfl) (by decide)
      exact op_val (by revert e1; generalize ac.eval = ρ; intro e1; simp [go_sem, execOp, e1]) (Chg.refl _)
    · injection ho with ho
      subst ho
      have e1 : ac.eval (.tmp 88) = .pointer (some ⟨K, 0, none⟩) := hg 12 (by kernel_rfl) (by decide)
      exact op_val (by revert e1; generalize ac.eval = ρ; intro e1; simp [go_sem, execOp, e1]) (Chg.refl _)
    · injection ho with ho
      subst ho
      have la : ¬ (256 : Int) ≤ (a2.toNat : Int) := by have := a2.isLt; omega
      have e1 : ac.eval (.tmp 89) = .pointer (some ⟨K, 241, none⟩) := hg 13 (by kernel_rfl) (by decide)
      have e2 : ac.eval (.tmp 87) = .int .u8 (a2.toNat : Int) := hg 11 (by kernel_rfl) (by decide)
      exact op_val (by revert e1 e2; generalize ac.eval = ρ; intro e1 e2; simp [go_sem, execOp, e1, e2, la]) (Chg.refl _)
    · injection ho with ho
      subst ho
      have ca : u.cell? ⟨K, 241 + a2.toNat, none⟩ = some (.int .u8 (b2.toNat : Int)) := (World.cell?_of_block (hc.block K hKl)).trans d2
      have e1 : ac.eval (.tmp 90) = .pointer (some ⟨K, 241 + a2.toNat, none⟩) := hg 14 (by kernel_rfl) (by decide)
      exact op_val (by revert e1; generalize ac.eval = ρ; intro e1; simp [go_sem, execOp, e1, ca]) (Chg.refl _)
    · injection ho with ho
      subst ho
      have e1 : ac.eval (.tmp 5) = .pointer (some ⟨K, 0, none⟩) := hf 5 (by kernel_rfl)
      exact op_val (by simp [execOp, e1]) (Chg.refl _)
    · injection ho with ho
      subst ho
      have e1 : ac.eval (.tmp 9) = .pointer (some ⟨tb, 0, none⟩) := hf 9 (by kernel_rfl)
      have e2 : ac.eval (.const (.int .i64 3)) = .int .i64 3 := rfl
      exact op_val (by revert e1 e2; generalize ac.eval = ρ; intro e1 e2; simp [go_sem, execOp, e1, e2]) (Chg.refl _)
    · injection ho with ho
      subst ho
      have ca : u.cell? ⟨tb, 3, none⟩ = some (.int .u8 (a3.toNat : Int)) := (World.cell?_of_block (hc.block tb htb)).trans c3
      have e1 : ac.eval (.tmp 93) = .pointer (some ⟨tb, 3, none⟩) := hg 17 (by kernel_rfl) (by decide)
      exact op_val (by revert e1; generalize ac.eval = ρ; intro e1; simp [go_sem, execOp, e1, ca]) (Chg.refl _)
    · injection ho with ho
      subst ho
      have e1 : ac.eval (.tmp 92) = .pointer (some ⟨K, 0, none⟩) := hg 16 (by kernel_rfl) (by decide)
      exact op_val (by revert e1; generalize ac.eval = ρ; intro e1; simp [go_sem, execOp, e1]) (Chg.refl _)
    · injection ho with ho
      subst ho
      have e1 : ac.eval (.tmp 95) = .pointer (some ⟨K, 0, none⟩) := hg 19 (by kernel_rfl) (by decide)
      exact op_val (by revert e1; generalize ac.eval = ρ; intro e1; simp [go_sem, execOp, e1]) (Chg.refl _)
    · injection ho with ho
      subst ho
      have la : ¬ (256 : Int) ≤ (a3.toNat : Int) := by have := a3.isLt; omega
      have e1 : ac.eval (.tmp 96) = .pointer (some ⟨K, 241, none⟩) := hg 20 (by kernel_rfl) (by decide)
      have e2 : ac.eval (.tmp 94) = .int .u8 (a3.toNat : Int) := hg 18 (by kernel_rfl) (by decide)
      exact op_val (by revert e1 e2; generalize ac.eval = ρ; intro e1 e2; simp [go_sem, execOp, e1, e2, la]) (Chg.refl _)
    · injection ho with ho
      subst ho
      have ca : u.cell? ⟨K, 241 + a3.toNat, none⟩ = some (.int .u8 (b3.toNat : Int)) := (World.cell?_of_block (hc.block K hKl)).trans d3
      have e1 : ac.eval (.tmp 97) = .pointer (some ⟨K, 241 + a3.toNat, none⟩) := hg 21 (by kernel_rfl) (by decide)
      exact op_val (by revert e1; generalize ac.eval = ρ; intro e1; simp [go_sem, execOp, e1, ca]) (Chg.refl _)
    · injection ho with ho
      subst ho
      have e1 : ac.eval (.tmp 5) = .pointer (some ⟨K, 0, none⟩) := hf 5 (by kernel_rfl)
      exact op_val (by simp [execOp, e1]) (Chg.refl _)
    · injection ho with ho
      subst ho
      have e1 : ac.eval (.tmp 9) = .pointer (some ⟨tb, 0, none⟩) := hf 9 (by kernel_rfl)
      have e2 : ac.eval (.const (.int .i64 0)) = .int .i64 0 := rfl
      exact op_val (by revert e1 e2; generalize ac.eval = ρ; intro e1 e2; simp [go_sem, execOp, e1, e2]) (Chg.refl _)
    · injection ho with ho
      subst ho
      have ca : u.cell? ⟨tb, 0, none⟩ = some (.int .u8 (a0.toNat : Int)) := (World.cell?_of_block (hc.block tb htb)).trans c0
      have e1 : ac.eval (.tmp 100) = .pointer (some ⟨tb, 0, none⟩) := hg 24 (by kernel_rfl) (by decide)
      exact op_val (by revert e1; generalize ac.eval = ρ; intro e1; simp [go_sem, execOp, e1, ca]) (Chg.refl _)
    · injection ho with ho
      subst ho
      have e1 : ac.eval (.tmp 99) = .pointer (some ⟨K, 0, none⟩) := hg 23 (by kernel_rfl) (by decide)
      exact op_val (by revert e1; generalize ac.eval = ρ; intro e1; simp [go_sem, execOp, e1]) (Chg.refl _)
    · injection ho with ho
      subst ho
      have e1 : ac.eval (.tmp 102) = .pointer (some ⟨K, 0, none⟩) := hg 26 (by kernel_rfl) (by decide)
      exact op_val (by revert e1; generalize ac.eval = ρ; intro e1; simp [go_sem, execOp, e1]) (Chg.refl _)
    · injection ho with ho
      subst ho
      have la : ¬ (256 : Int) ≤ (a0.toNat : Int) := by have := a0.isLt; omega
      have e1 : ac.eval (.tmp 103) = .pointer (some ⟨K, 241, none⟩) := hg 27 (by kernel_rfl) (by decide)
      have e2 : ac.eval (.tmp 101) = .int .u8 (a0.toNat : Int) := hg 25 (by kernel_rfl) (by decide)
      exact op_val (by revert e1 e2; generalize ac.eval = ρ; intro e1 e2; simp [go_sem, execOp, e1, e2, la]) (Chg.refl _)
    · injection ho with ho
      subst ho
      have ca : u.cell? ⟨K, 241 + a0.toNat, none⟩ = some (.int .u8 (b0.toNat : Int)) := (World.cell?_of_block (hc.block K hKl)).trans d0
      have e1 : ac.eval (.tmp 104) = .pointer (some ⟨K, 241 + a0.toNat, none⟩) := hg 28 (by kernel_rfl) (by decide)
      exact op_val (by revert e1; generalize ac.eval = ρ; intro e1; simp [go_sem, execOp, e1, ca]) (Chg.refl _)
    · injection ho with ho
      subst ho
      have e1 : ac.eval (.tmp 84) = .int .u8 (y.toNat : Int) := hg 8 (by kernel_rfl) (by decide)
      have e2 : ac.eval (.tmp 91) = .int .u8 (b2.toNat : Int) := hg 15 (by kernel_rfl) (by decide)
      have e3 : ac.eval (.tmp 98) = .int .u8 (b3.toNat : Int) := hg 22 (by kernel_rfl) (by decide)
      have e4 : ac.eval (.tmp 105) = .int .u8 (b0.toNat : Int) := hg 29 (by kernel_rfl) (by decide)
      exact op_val (by revert e1 e2 e3 e4; generalize ac.eval = ρ; intro e1 e2 e3 e4; simp [go_sem, execOp, e1, e2, e3, e4, zero46.1, built4, ba_size, ba4_ne]) (Chg.refl _)
  · intro o u ho hc
    injection ho with ho
    subst ho
    have hT' := hT.chg ((Chg.refl w).drew.trans hc)
    refine wp_store_mid 70 (.tmp 9) (.tmp 106) rfl _ _ (ba 4 (fn4 y b2 b3 b0)) rfl rfl (by rw [ba_size]; exact there4 hT' _ _ (by omega)) (by rw [ba_size]; exact i46) (ba_one _ _) ?_
    rw [setCells_over hT' _ _ _ (by omega), over_all]
    exact hQ _ _ _ _ _ _ _ _ _ _ _ _ _ _ _ _ _ _ _ _ _ _ _ _ _ _ _ _ _ _ _ _ ((Chg.refl w).drew.trans hc)

end Go.Proofs.YtobglgddbhddnaaGreat

namespace Go.Proofs.YtobglgddbhddnaaGreat
open Go.RowKit
set_option linter.unusedVariables false

set_option maxRecDepth 100000 in
set_option maxHeartbeats 8000000 in
theorem reg17_any {Q : Exit → Act → World → Prop} {t0 t1 t2 t3 t4 t6 t7 t8 t10 t11 t12 t13 t14 t15 t16 t17 t18 t19 t20 t21 t22 t23 t24 t25 t26 t27 t28 t29 t30 t31 t32 t33 t34 t35 t36 t37 t38 t39 t40 t41 t42 t43 t44 t45 t46 t47 t48 t49 t50 t51 t52 t53 t54 t55 t56 t57 t58 t59 t60 t61 t62 t63 t64 t65 t66 t67 t68 t69 t70 t71 t72 t73 t74 t75 t76 t77 t78 t79 t80 t81 t82 t83 t84 t85 t86 t87 t88 t89 t90 t91 t92 t93 t94 t95 t96 t97 t98 t99 t100 t101 t102 t103 t104 t105 t106 t107 t108 t109 t110 t111 t112 t113 t114 t115 t116 t117 t118 t119 t120 t121 t122 t123 t124 t125 t126 t127 t128 t129 t130 t131 t132 t133 t134 t135 t136 t137 t138 t139 t140 t141 t142 t143 t144 t145 t146 t147 t148 t149 t150 t151 t152 t153 t154 t155 t156 t157 t158 t159 t160 t161 t162 t163 t164 t165 t166 t167 t168 t169 t170 t171 t172 t173 t174 t175 t176 t177 t178 t179 t180 t181 t182 t183 t184 t185 t186 t187 t188 t189 t190 t191 t192 t193 t194 t195 : Value} {K tb : Nat} {a0 a1 a2 a3 b0 b1 b2 b3 : By} {f : Nat → By} {w : World} (htb : tb < w.heap.size) (hKl : K < w.heap.size)
    (c0 : w.cell? ⟨tb, 0, none⟩ = some (.int .u8 (a0.toNat : Int))) (c1 : w.cell? ⟨tb, 1, none⟩ = some (.int .u8 (a1.toNat : Int))) (c2 : w.cell? ⟨tb, 2, none⟩ = some (.int .u8 (a2.toNat : Int))) (c3 : w.cell? ⟨tb, 3, none⟩ = some (.int .u8 (a3.toNat : Int)))
    (d0 : w.cell? ⟨K, 241 + a0.toNat, none⟩ = some (.int .u8 (b0.toNat : Int))) (d1 : w.cell? ⟨K, 241 + a1.toNat, none⟩ = some (.int .u8 (b1.toNat : Int))) (d2 : w.cell? ⟨K, 241 + a2.toNat, none⟩ = some (.int .u8 (b2.toNat : Int))) (d3 : w.cell? ⟨K, 241 + a3.toNat, none⟩ = some (.int .u8 (b3.toNat : Int)))
    (hT : Ar w tb (ba 4 f))
    (hQ : ∀ (u116 u117 u118 u119 u120 u121 u122 u123 u124 u125 u126 u127 u128 u129 u130 u131 u132 u133 u134 u135 u136 u137 u138 u139 u140 u141 u142 u143 u144 : Value) (u : World), Chg w u → Q .normal ⟨#[t0, t1, t2, t3, t4, .pointer (some ⟨K, 0, none⟩), t6, t7, t8, .pointer (some ⟨tb, 0, none⟩), t10, t11, t12, t13, t14, t15, t16, t17, t18, t19, t20, t21, t22, t23, t24, t25, t26, t27, t28, t29, t30, t31, t32, t33, t34, t35, t36, t37, t38, t39, t40, t41, t42, t43, t44, t45, t46, t47, t48, t49, t50, t51, t52, t53, t54, t55, t56, t57, t58, t59, t60, t61, t62, t63, t64, t65, t66, t67, t68, t69, t70, t71, t72, t73, t74, t75, t76, t77, t78, t79, t80, t81, t82, t83, t84, t85, t86, t87, t88, t89, t90, t91, t92, t93, t94, t95, t96, t97, t98, t99, t100, t101, t102, t103, t104, t105, t106, t107, t108, t109, t110, t111, t112, t113, t114, t115, u116, u117, u118, u119, u120, u121, u122, u123, u124, u125, u126, u127, u128, u129, u130, u131, u132, u133, u134, u135, u136, u137, u138, u139, u140, u141, u142, u143, u144, t145, t146, t147, t148, t149, t150, t151, t152, t153, t154, t155, t156, t157, t158, t159, t160, t161, t162, t163, t164, t165, t166, t167, t168, t169, t170, t171, t172, t173, t174, t175, t176, t177, t178, t179, t180, t181, t182, t183, t184, t185, t186, t187, t188, t189, t190, t191, t192, t193, t194, t195], []⟩ (u.setRow tb (ba 4 (fn4 b0 b1 b2 b3)))) :
    (reg Tryz.f23 17).wp Tryz.prog Q ⟨#[t0, t1, t2, t3, t4, .pointer (some ⟨K, 0, none⟩), t6, t7, t8, .pointer (some ⟨tb, 0, none⟩), t10, t11, t12, t13, t14, t15, t16, t17, t18, t19, t20, t21, t22, t23, t24, t25, t26, t27, t28, t29, t30, t31, t32, t33, t34, t35, t36, t37, t38, t39, t40, t41, t42, t43, t44, t45, t46, t47, t48, t49, t50, t51, t52, t53, t54, t55, t56, t57, t58, t59, t60, t61, t62, t63, t64, t65, t66, t67, t68, t69, t70, t71, t72, t73, t74, t75, t76, t77, t78, t79, t80, t81, t82, t83, t84, t85, t86, t87, t88, t89, t90, t91, t92, t93, t94, t95, t96, t97, t98, t99, t100, t101, t102, t103, t104, t105, t106, t107, t108, t109, t110, t111, t112, t113, t114, t115, t116, t117, t118, t119, t120, t121, t122, t123, t124, t125, t126, t127, t128, t129, t130, t131, t132, t133, t134, t135, t136, t137, t138, t139, t140, t141, t142, t143, t144, t145, t146, t147, t148, t149, t150, t151, t152, t153, t154, t155, t156, t157, t158, t159, t160, t161, t162, t163, t164, t165, t166, t167, t168, t169, t170, t171, t172, t173, t174, t175, t176, t177, t178, t179, t180, t181, t182, t183, t184, t185, t186, t187, t188, t189, t190, t191, t192, t193, t194, t195], []⟩ w := by
  show Code.wp Tryz.prog (Code.region 17 _ true) Q _ _
  refine wp_region_vals 29 (fun j => match j with
    | 0 => .pointer (some ⟨K, 0, none⟩)
    | 1 => .pointer (some ⟨tb, 0, none⟩)
    | 2 => .int .u8 (a0.toNat : Int)
    | 3 => .pointer (some ⟨K, 0, none⟩)
    | 4 => .pointer (some ⟨K, 241, none⟩)
    | 5 => .pointer (some ⟨K, 241 + a0.toNat, none⟩)
    | 6 => .int .u8 (b0.toNat : Int)
    | 7 => .pointer (some ⟨K, 0, none⟩)
    | 8 => .pointer (some ⟨tb, 1, none⟩)
    | 9 => .int .u8 (a1.toNat : Int)
    | 10 => .pointer (some ⟨K, 0, none⟩)
    | 11 => .pointer (some ⟨K, 241, none⟩)
    | 12 => .pointer (some ⟨K, 241 + a1.toNat, none⟩)
    | 13 => .int .u8 (b1.toNat : Int)
    | 14 => .pointer (some ⟨K, 0, none⟩)
    | 15 => .pointer (some ⟨tb, 2, none⟩)
    | 16 => .int .u8 (a2.toNat : Int)
    | 17 => .pointer (some ⟨K, 0, none⟩)
    | 18 => .pointer (some ⟨K, 241, none⟩)
    | 19 => .pointer (some ⟨K, 241 + a2.toNat, none⟩)
    | 20 => .int .u8 (b2.toNat : Int)
    | 21 => .pointer (some ⟨K, 0, none⟩)
    | 22 => .pointer (some ⟨tb, 3, none⟩)
    | 23 => .int .u8 (a3.toNat : Int)
    | 24 => .pointer (some ⟨K, 0, none⟩)
    | 25 => .pointer (some ⟨K, 241, none⟩)
    | 26 => .pointer (some ⟨K, 241 + a3.toNat, none⟩)
    | 27 => .int .u8 (b3.toNat : Int)
    | _ => .agg (ba 4 (fn4 b0 b1 b2 b3))) (by kernel_rfl) (by kernel_rfl) (by kernel_rfl) (by kernel_rfl) (by kernel_rfl) (by kernel_rfl) ?_ ?_
  · intro i o ac u hi ho hf hg hc
    have hcs : i = 0 ∨ i = 1 ∨ i = 2 ∨ i = 3 ∨ i = 4 ∨ i = 5 ∨ i = 6 ∨ i = 7 ∨ i = 8 ∨ i = 9 ∨ i = 10 ∨ i = 11 ∨ i = 12 ∨ i = 13 ∨ i = 14 ∨ i = 15 ∨ i = 16 ∨ i = 17 ∨ i = 18 ∨ i = 19 ∨ i = 20 ∨ i = 21 ∨ i = 22 ∨ i = 23 ∨ i = 24 ∨ i = 25 ∨ i = 26 ∨ i = 27 ∨ i = 28 := by omega
    rcases hcs with rfl | rfl | rfl | rfl | rfl | rfl | rfl | rfl | rfl | rfl | rfl | rfl | rfl | rfl | rfl | rfl | rfl | rfl | rfl | rfl | rfl | rfl | rfl | rfl | rfl | rfl | rfl | rfl | rfl
    · injection ho with ho
      subst ho
      have e1 : ac.eval (.tmp 5) = .pointer (some ⟨K, 0, none⟩) := hf 5 (by kernel_rfl)
      exact op_val (by simp [execOp, e1]) (Chg.refl _)
    · injection ho with ho
      subst ho
      have e1 : ac.eval (.tmp 9) = .pointer (some ⟨tb, 0, none⟩) := hf 9 (by kernel_rfl)
      have e2 : ac.eval (.const (.int .i64 0)) = .int .i64 0 := rfl
      exact op_val (by revert e1 e2; generalize ac.eval = ρ; intro e1 e2; simp [go_sem, execOp, e1, e2]) (Chg.refl _)
    · injection ho with ho
      subst ho
      have ca : u.cell? ⟨tb, 0, none⟩ = some (.int .u8 (a0.toNat : Int)) := (World.cell?_of_block (hc.block tb htb)).trans c0
      have e1 : ac.eval (.tmp 117) = .pointer (some ⟨tb, 0, none⟩) := hg 1 (by kernel_rfl) (by decide)
      exact op_val (by revert e1; generalize ac.eval = ρ; intro e1; simp [go_sem, execOp, e1, ca]) (Chg.refl _)
    · injection ho with ho
      subst ho
      have e1 : ac.eval (.tmp 116) = .pointer (some ⟨K, 0, none⟩) := hg 0 (by kernel_rfl) (by decide)
      exact op_val (by revert e1; generalize ac.eval = ρ; intro e1; simp [go_sem, execOp, e1]) (Chg.refl _)
    · injection ho with ho
      subst ho
      have e1 : ac.eval (.tmp 119) = .pointer (some ⟨K, 0, none⟩) := hg 3 (by kernel_rfl) (by decide)
      exact op_val (by revert e1; generalize ac.eval = ρ; intro e1; simp [go_sem, execOp, e1]) (Chg.refl _)
    · injection ho with ho
      subst ho
      have la : ¬ (256 : Int) ≤ (a0.toNat : Int) := by have := a0.isLt; omega
      have e1 : ac.eval (.tmp 120) = .pointer (some ⟨K, 241, none⟩) := hg 4 (by kernel_rfl) (by decide)
      have e2 : ac.eval (.tmp 118) = .int .u8 (a0.toNat : Int) := hg 2 (by kernel_rfl) (by decide)
      exact op_val (by revert e1 e2; generalize ac.eval = ρ; intro e1 e2; simp [go_sem, execOp, e1, e2, la]) (Chg.refl _)
    · injection ho with ho
      subst ho
      have ca : u.cell? ⟨K, 241 + a0.toNat, none⟩ = some (.int .u8 (b0.toNat : Int)) := (World.cell?_of_block (hc.block K hKl)).trans d0
      have e1 : ac.eval (.tmp 121) = .pointer (some ⟨K, 241 + a0.toNat, none⟩) := hg 5 (by kernel_rfl) (by decide)
      exact op_val (by revert e1; generalize ac.eval = ρ; intro e1; simp [go_sem, execOp, e1, ca]) (Chg.refl _)
    · injection ho with ho
      subst ho
      have e1 : ac.eval (.tmp 5) = .pointer (some ⟨K, 0, none⟩) := hf 5 (by kernel_rfl)
      exact op_val (by simp [execOp, e1]) (Chg.refl _)
    · injection ho with ho
      subst ho
      have e1 : ac.eval (.tmp 9) = .pointer (some ⟨tb, 0, none⟩) := hf 9 (by kernel_rfl)
      have e2 : ac.eval (.const (.int .i64 1)) = .int .i64 1 := rfl
      exact op_val (by revert e1 e2; generalize ac.eval = ρ; intro e1 e2; simp [go_sem, execOp, e1, e2]) (Chg.refl _)
    · injection ho with ho
      subst ho
      have ca : u.cell? ⟨tb, 1, none⟩ = some (.int .u8 (a1.toNat : Int)) := (World.cell?_of_block (hc.block tb htb)).trans c1
      have e1 : ac.eval (.tmp 124) = .pointer (some ⟨tb, 1, none⟩) := hg 8 (by kernel_rfl) (by decide)
      exact op_val (by revert e1; generalize ac.eval = ρ; intro e1; simp [go_sem, execOp, e1, ca]) (Chg.refl _)
    · injection ho with ho
      subst ho
      have e1 : ac.eval (.tmp 123) = .pointer (some ⟨K, 0, none⟩) := hg 7 (by kernel_rfl) (by decide)
      exact op_val (by revert e1; generalize ac.eval = ρ; intro e1; simp [go_sem, execOp, e1]) (Chg.refl _)
    · injection ho with ho
      subst ho
      have e1 : ac.eval (.tmp 126) = .pointer (some ⟨K, 0, none⟩) := hg 10 (by kernel_rfl) (by decide)
      exact op_val (by revert e1; generalize ac.eval = ρ; intro e1; simp [go_sem, execOp, e1]) (Chg.refl _)
    · injection ho with ho
      subst ho
      have la : ¬ (256 : Int) ≤ (a1.toNat : Int) := by have := a1.isLt; omega
      have e1 : ac.eval (.tmp 127) = .pointer (some ⟨K, 241, none⟩) := hg 11 (by kernel_rfl) (by decide)
      have e2 : ac.eval (.tmp 125) = .int .u8 (a1.toNat : Int) := hg 9 (by kernel_rfl) (by decide)
      exact op_val (by revert e1 e2; generalize ac.eval = ρ; intro e1 e2; simp [go_sem, execOp, e1, e2, la]) (Chg.refl _)
    · injection ho with ho
      subst ho
      have ca : u.cell? ⟨K, 241 + a1.toNat, none⟩ = some (.int .u8 (b1.toNat : Int)) := (World.cell?_of_block (hc.block K hKl)).trans d1
      have e1 : ac.eval (.tmp 128) = .pointer (some ⟨K, 241 + a1.toNat, none⟩) := hg 12 (by kernel_rfl) (by decide)
      exact op_val (by revert e1; generalize ac.eval = ρ; intro e1; simp [go_sem, execOp, e1, ca]) (Chg.refl _)
    · injection ho with ho
      subst ho
      have e1 : ac.eval (.tmp 5) = .pointer (some ⟨K, 0, none⟩) := hf 5 (by kernel_rfl)
      exact op_val (by simp [execOp, e1]) (Chg.refl _)
    · injection ho with ho
      subst ho
      have e1 : ac.eval (.tmp 9) = .pointer (some ⟨tb, 0, none⟩) := hf 9 (by kernel_rfl)
      have e2 : ac.eval (.const (.int .i64 2)) = .int .i64 2 := rfl
      exact op_val (by revert e1 e2; generalize ac.eval = ρ; intro e1 e2; simp [go_sem, execOp, e1, e2]) (Chg.refl _)
    · injection ho with ho
      subst ho
      have ca : u.cell? ⟨tb, 2, none⟩ = some (.int .u8 (a2.toNat : Int)) := (World.cell?_of_block (hc.block tb htb)).trans c2
      have e1 : ac.eval (.tmp 131) = .pointer (some ⟨tb, 2, none⟩) := hg 15 (by kernel_rfl) (by decide)
      exact op_val (by revert e1; generalize ac.eval = ρ; intro e1; simp [go_sem, execOp, e1, ca]) (Chg.refl _)
    · injection ho with ho
      subst ho
      have e1 : ac.eval (.tmp 130) = .pointer (some ⟨K, 0, none⟩) := hg 14 (by kernel_rfl) (by decide)
      exact op_val (by revert e1; generalize ac.eval = ρ; intro e1; simp [go_sem, execOp, e1]) (Chg.refl _)
    · injection ho with ho
      subst ho
      have e1 : ac.eval (.tmp 133) = .pointer (some ⟨K, 0, none⟩) := hg 17 (by kernel_rfl) (by decide)
      exact op_val (by revert e1; generalize ac.eval = ρ; intro e1; simp [go_sem, execOp, e1]) (Chg.refl _)
    · injection ho with ho
      subst ho
      have la : ¬ (256 : Int) ≤ (a2.toNat : Int) := by have := a2.isLt; omega
      have e1 : ac.eval (.tmp 134) = .pointer (some ⟨K, 241, none⟩) := hg 18 (by kernel_rfl) (by decide)
      have e2 : ac.eval (.tmp 132) = .int .u8 (a2.toNat : Int) := hg 16 (by kernel_rfl) (by decide)
      exact op_val (by revert e1 e2; generalize ac.eval = ρ; intro e1 e2; simp [go_sem, execOp, e1, e2, la]) (Chg.refl _)
    · injection ho with ho
      subst ho
      have ca : u.cell? ⟨K, 241 + a2.toNat, none⟩ = some (.int .u8 (b2.toNat : Int)) := (World.cell?_of_block (hc.block K hKl)).trans d2
      have e1 : ac.eval (.tmp 135) = .pointer (some ⟨K, 241 + a2.toNat, none⟩) := hg 19 (by kernel_rfl) (by decide)
      exact op_val (by revert e1; generalize ac.eval = ρ; intro e1; simp [go_sem, execOp, e1, ca]) (Chg.refl _)
    · injection ho with ho
      subst ho
      have e1 : ac.eval (.tmp 5) = .pointer (some ⟨K, 0, none⟩) := hf 5 (by kernel_rfl)
      exact op_val (by simp [execOp, e1]) (Chg.refl _)
    · injection ho with ho
      subst ho
      have e1 : ac.eval (.tmp 9) = .pointer (some ⟨tb, 0, none⟩) := hf 9 (by kernel_rfl)
      have e2 : ac.eval (.const (.int .i64 3)) = .int .i64 3 := rfl
      exact op_val (by revert e1 e2; generalize ac.eval = ρ; intro e1 e2; simp [go_sem, execOp, e1, e2]) (Chg.refl _)
    · injection ho with ho
      subst ho
      have ca : u.cell? ⟨tb, 3, none⟩ = some (.int .u8 (a3.toNat : Int)) := (World.cell?_of_block (hc.block tb htb)).trans c3
      have e1 : ac.eval (.tmp 138) = .pointer (some ⟨tb, 3, none⟩) := hg 22 (by kernel_rfl) (by decide)
      exact op_val (by revert e1; generalize ac.eval = ρ; intro e1; simp [go_sem, execOp, e1, ca]) (Chg.refl _)
    · injection ho with ho
      subst ho
      have e1 : ac.eval (.tmp 137) = .pointer (some ⟨K, 0, none⟩) := hg 21 (by kernel_rfl) (by decide)
      exact op_val (by revert e1; generalize ac.eval = ρ; intro e1; simp [go_sem, execOp, e1]) (Chg.refl _)
    · injection ho with ho
      subst ho
      have e1 : ac.eval (.tmp 140) = .pointer (some ⟨K, 0, none⟩) := hg 24 (by kernel_rfl) (by decide)
      exact op_val (by revert e1; generalize ac.eval = ρ; intro e1; simp [go_sem, execOp, e1]) (Chg.refl _)
    · injection ho with ho
      subst ho
      have la : ¬ (256 : Int) ≤ (a3.toNat : Int) := by have := a3.isLt; omega
      have e1 : ac.eval (.tmp 141) = .pointer (some ⟨K, 241, none⟩) := hg 25 (by kernel_rfl) (by decide)
      have e2 : ac.eval (.tmp 139) = .int .u8 (a3.toNat : Int) := hg 23 (by kernel_rfl) (by decide)
      exact op_val (by revert e1 e2; generalize ac.eval = ρ; intro e1 e2; simp [go_sem, execOp, e1, e2, la]) (Chg.refl _)
    · injection ho with ho
      subst ho
      have ca : u.cell? ⟨K, 241 + a3.toNat, none⟩ = some (.int .u8 (b3.toNat : Int)) := (World.cell?_of_block (hc.block K hKl)).trans d3
      have e1 : ac.eval (.tmp 142) = .pointer (some ⟨K, 241 + a3.toNat, none⟩) := hg 26 (by kernel_rfl) (by decide)
      exact op_val (by revert e1; generalize ac.eval = ρ; intro e1; simp [go_sem, execOp, e1, ca]) (Chg.refl _)
    · injection ho with ho
      subst ho
      have e1 : ac.eval (.tmp 122) = .int .u8 (b0.toNat : Int) := hg 6 (by kernel_rfl) (by decide)
      have e2 : ac.eval (.tmp 129) = .int .u8 (b1.toNat : Int) := hg 13 (by kernel_rfl) (by decide)
      have e3 : ac.eval (.tmp 136) = .int .u8 (b2.toNat : Int) := hg 20 (by kernel_rfl) (by decide)
      have e4 : ac.eval (.tmp 143) = .int .u8 (b3.toNat : Int) := hg 27 (by kernel_rfl) (by decide)
      exact op_val (by revert e1 e2 e3 e4; generalize ac.eval = ρ; intro e1 e2 e3 e4; simp [go_sem, execOp, e1, e2, e3, e4, zero46.1, built4, ba_size, ba4_ne]) (Chg.refl _)
  · intro o u ho hc
    injection ho with ho
    subst ho
    have hT' := hT.chg ((Chg.refl w).drew.trans hc)
    refine wp_store_mid 70 (.tmp 9) (.tmp 144) rfl _ _ (ba 4 (fn4 b0 b1 b2 b3)) rfl rfl (by rw [ba_size]; exact there4 hT' _ _ (by omega)) (by rw [ba_size]; exact i46) (ba_one _ _) ?_
    rw [setCells_over hT' _ _ _ (by omega), over_all]
    exact hQ _ _ _ _ _ _ _ _ _ _ _ _ _ _ _ _ _ _ _ _ _ _ _ _ _ _ _ _ _ _ ((Chg.refl w).drew.trans hc)

end Go.Proofs.YtobglgddbhddnaaGreat

namespace Go.Proofs.YtobglgddbhddnaaGreat
open Go.RowKit
set_option linter.unusedVariables false

/-- The cells of a key that is not there yet. -/
def rkeyZ : Array Value := ba 240 zB ++ #[.int .i64 0] ++ ba 256 zB
theorem rkeyZ_size : rkeyZ.size = 497 := by simp [rkeyZ, ba_size]

theorem fold_get (o : Nat) (l : List Value) : ∀ (k : Nat) (c : Array Value) (j : Nat), ((l.zipIdx k).foldl (fun (cs : Array Value) (x : Value × Nat) => cs.setIfInBounds (o + x.2) x.1) c)[j]? = if o + k ≤ j ∧ j < o + k + l.length ∧ j < c.size then l[j - (o + k)]? else c[j]? := by
  induction l with
  | nil =>
    intro k c j
    have : ¬ (o + k ≤ j ∧ j < o + k + ([] : List Value).length ∧ j < c.size) := by simp; omega
    rw [if_neg this]
    rfl
  | cons v l ih =>
    intro k c j
    rw [List.zipIdx_cons, List.foldl_cons, ih, Array.size_setIfInBounds]
    dsimp only
    by_cases h1 : j = o + k
    · subst h1
      have e1 : ¬ (o + (k + 1) ≤ o + k ∧ o + k < o + (k + 1) + l.length ∧ o + k < c.size) := by omega
      rw [if_neg e1]
      by_cases h2 : o + k < c.size
      · have e2 : o + k ≤ o + k ∧ o + k < o + k + (v :: l).length ∧ o + k < c.size := by simp; omega
        rw [if_pos e2, Array.getElem?_setIfInBounds_self_of_lt h2, Nat.sub_self]
        rfl
      · have e2 : ¬ (o + k ≤ o + k ∧ o + k < o + k + (v :: l).length ∧ o + k < c.size) := by omega
        rw [if_neg e2, Array.getElem?_eq_none (by rw [Array.size_setIfInBounds]; omega), Array.getElem?_eq_none (by omega)]
    · rw [Array.getElem?_setIfInBounds_ne (fun x => h1 x.symm)]
      by_cases h2 : o + (k + 1) ≤ j ∧ j < o + (k + 1) + l.length ∧ j < c.size
      · have e2 : o + k ≤ j ∧ j < o + k + (v :: l).length ∧ j < c.size := by simp only [List.length_cons]; omega
        rw [if_pos h2, if_pos e2, show j - (o + k) = (j - (o + (k + 1))) + 1 by omega, List.getElem?_cons_succ]
      · have e2 : ¬ (o + k ≤ j ∧ j < o + k + (v :: l).length ∧ j < c.size) := by simp only [List.length_cons]; omega
        rw [if_neg h2, if_neg e2]

theorem built50 (R : Nat) : Array.foldl (fun (cs : Array Value) (x : Value × Nat) => cs.setIfInBounds (241 + x.snd) x.fst) (rkeyZ.setIfInBounds 240 (Value.int IntKind.i64 (R : Int))) (ba 256 sbF).zipIdx 0 256 = rkeyC R zB := by
  have hs : (ba 256 sbF).zipIdx.size = 256 := by rw [Array.size_zipIdx, ba_size]
  have e : Array.foldl (fun (cs : Array Value) (x : Value × Nat) => cs.setIfInBounds (241 + x.snd) x.fst) (rkeyZ.setIfInBounds 240 (Value.int IntKind.i64 (R : Int))) (ba 256 sbF).zipIdx 0 256 = ((ba 256 sbF).toList.zipIdx 0).foldl (fun (cs : Array Value) (x : Value × Nat) => cs.setIfInBounds (241 + x.2) x.1) (rkeyZ.setIfInBounds 240 (Value.int IntKind.i64 (R : Int))) := by
    have h := Array.foldl_toList (fun (cs : Array Value) (x : Value × Nat) => cs.setIfInBounds (241 + x.snd) x.fst) (init := rkeyZ.setIfInBounds 240 (Value.int IntKind.i64 (R : Int))) (xs := (ba 256 sbF).zipIdx)
    rw [hs] at h
    rw [← h, Array.toList_zipIdx]
  rw [e]
  have hz : ∀ j, j < 240 → rkeyZ[j]? = some (.int .u8 0) := fun j hj => by
    unfold rkeyZ
    rw [Array.getElem?_append_left (by simp [ba_size]; omega), Array.getElem?_append_left (by rw [ba_size]; exact hj), ba_get 240 zB hj]
    rfl
  apply Array.ext_getElem?
  intro j
  rw [fold_get, Array.size_setIfInBounds, rkeyZ_size, Array.length_toList, ba_size]
  by_cases h1 : j < 240
  · have e1 : ¬ (241 + 0 ≤ j ∧ j < 241 + 0 + 256 ∧ j < 497) := by omega
    rw [if_neg e1, Array.getElem?_setIfInBounds_ne (by omega), hz j h1, rkeyC_get R zB h1]
    rfl
  · by_cases h2 : j = 240
    · subst h2
      rw [if_neg (by omega), Array.getElem?_setIfInBounds_self_of_lt (by rw [rkeyZ_size]; omega), rkeyC_N]
    · by_cases h3 : j < 497
      · rw [if_pos (by omega)]
        obtain ⟨x, hx⟩ : ∃ x, j = 241 + x := ⟨j - 241, by omega⟩
        subst hx
        have hb := rkeyC_box R zB (BitVec.ofNat 8 x)
        rw [BitVec.toNat_ofNat, Nat.mod_eq_of_lt (by omega)] at hb
        rw [hb, show 241 + x - (241 + 0) = x by omega, Array.getElem?_toList, ba_get 256 sbF (by omega)]
        rfl
      · rw [if_neg (by omega), Array.getElem?_eq_none (by rw [Array.size_setIfInBounds, rkeyZ_size]; omega), Array.getElem?_eq_none (by rw [rkeyC_size]; omega)]
end Go.Proofs.YtobglgddbhddnaaGreat
