/-
  The document's New: its regions that draw.
-/
import Derived.Test.YtfnibmfmjglmlaaREc
import Derived.Test.YtfnibmfmjglmlaaWds
namespace Go.Proofs.Ytfnibmfmjglmlaa
open Go.RowKit
set_option linter.unusedVariables false

theorem setCells_over {w : World} {g n : Nat} {f : Nat → By} (h : Ar w g (ba n f)) (o m : Nat) (x : Nat → By) (hm : o + m ≤ n) : w.setCells g o (ba m x).toList = w.setRow g (ba n (over o m x f)) := by
  have hl : (ba m x).toList.length = m := by rw [Array.length_toList, ba_size]
  have hone : ∀ v ∈ (ba m x).toList, v.oneCell' = true := fun v hv => (Array.all_eq_true_iff_forall_mem.1 (ba_one m x)) v (by simpa using hv)
  have h1 := run_storeCells_cells (P := Try.prog) g o (ba m x).toList 0 w (fun j hj => by
    rw [Nat.add_zero, h.cell, ba_get n f (by omega)]; rfl) (fun j hj => by rw [Nat.add_zero]; exact h.frozen _) hone
  obtain ⟨t, h⟩ := h
  have h2 := run_storeCells_at Try.prog g o t (ba m x).toList 0 (ba n f) w h (by rw [hl, ba_size]; omega) hone
  rw [h1] at h2
  injection h2 with _ h2
  simp only [Nat.add_zero] at h2
  rw [h2, ← ba_over n o m x f hm]
theorem ba4_ne : ¬ ba 4 zB = #[] := fun e => by
  have := congrArg Array.size e
  rw [ba_size] at this
  cases this
theorem there4 {w : World} {g n : Nat} {f : Nat → By} (h : Ar w g (ba n f)) (o m : Nat) (hm : o + m ≤ n) : w.there g o m := fun j hj => by
  rw [h.cell, ba_get n f (by omega)]
  exact ⟨rfl, h.frozen _⟩
theorem over_all (m : Nat) (x f : Nat → By) : ba m (over 0 m x f) = ba m x := ba_congr fun j hj => by
  have : 0 ≤ j ∧ j < 0 + m := by omega
  simp only [over, this, if_true, and_self, Nat.sub_zero]

set_option maxRecDepth 100000 in
set_option maxHeartbeats 8000000 in
theorem reg11_any {Q : Exit → Act → World → Prop} {t1 t2 t3 t4 t5 t7 t9 t10 t11 t12 t13 t14 t15 t16 t17 t18 t19 t20 t21 t22 t23 t24 t25 t26 t27 t28 t29 t30 t31 t32 t33 t34 t35 t36 t37 t38 t39 t40 t41 t42 t43 t44 t45 t46 t47 t48 t49 t50 t51 t52 t53 t54 t55 t56 t57 t58 t59 t60 t61 t62 t63 t64 t65 t66 t67 t68 t69 t70 t71 t72 t73 t74 t75 t76 t77 t78 t79 t80 t81 t82 t83 t84 t85 t86 t87 t88 t89 t90 t91 t92 t93 t94 t95 t96 t97 t98 t99 t100 t101 t102 t103 t104 t105 t106 t107 t108 t109 t110 t111 t112 t113 t114 t115 t116 t117 t118 t119 t120 t121 t122 t123 t124 t125 t126 t127 t128 t129 t130 t131 t132 t133 t134 t135 t136 t137 t138 t139 t140 t141 t142 t143 t144 t145 t146 t147 t148 t149 t150 t151 t152 t153 t154 t155 t156 t157 t158 t159 t160 t161 t162 t163 t164 t165 t166 t167 t168 t169 t170 t171 t172 t173 t174 t175 t176 t177 t178 t179 t180 t181 t182 t183 t184 t185 t186 t187 t188 t189 t190 t191 t192 t193 t194 t195 : Value} {i j0 j1 j2 j3 kb ko L cap wb : Nat} {x0 x1 x2 x3 : By} {f : Nat → By} {w : World}
    (h0 : 4 * (i : Int) = j0) (w0 : IntKind.i64.wrap (j0 : Int) = j0) (h1 : (j0 : Int) + 1 = j1) (w1 : IntKind.i64.wrap (j1 : Int) = j1) (h2 : (j0 : Int) + 2 = j2) (w2 : IntKind.i64.wrap (j2 : Int) = j2) (h3 : (j0 : Int) + 3 = j3) (w3 : IntKind.i64.wrap (j3 : Int) = j3)
    (l0 : j0 < L) (l1 : j1 < L) (l2 : j2 < L) (l3 : j3 < L) (li : (i : Int) < 60) (hkb : kb < w.heap.size)
    (c0 : w.cell? ⟨kb, ko + j0, none⟩ = some (.int .u8 (x0.toNat : Int))) (c1 : w.cell? ⟨kb, ko + j1, none⟩ = some (.int .u8 (x1.toNat : Int))) (c2 : w.cell? ⟨kb, ko + j2, none⟩ = some (.int .u8 (x2.toNat : Int))) (c3 : w.cell? ⟨kb, ko + j3, none⟩ = some (.int .u8 (x3.toNat : Int)))
    (hW : Ar w wb (ba 240 f))
    (hQ : ∀ (u42 u43 u44 u45 u46 u47 u48 u49 u50 u51 u52 u53 u54 u55 u56 u57 u58 u59 u60 u61 u62 u63 u64 u65 u66 u67 : Value) (u : World), Chg w u → Q .normal ⟨#[.slice (some ⟨kb, ko, none⟩) L cap, t1, t2, t3, t4, t5, .pointer (some ⟨wb, 0, none⟩), t7, .int .i64 (i : Int), t9, t10, t11, t12, t13, t14, t15, t16, t17, t18, t19, t20, t21, t22, t23, t24, t25, t26, t27, t28, t29, t30, t31, t32, t33, t34, t35, t36, t37, t38, t39, t40, t41, u42, u43, u44, u45, u46, u47, u48, u49, u50, u51, u52, u53, u54, u55, u56, u57, u58, u59, u60, u61, u62, u63, u64, u65, u66, u67, t68, t69, t70, t71, t72, t73, t74, t75, t76, t77, t78, t79, t80, t81, t82, t83, t84, t85, t86, t87, t88, t89, t90, t91, t92, t93, t94, t95, t96, t97, t98, t99, t100, t101, t102, t103, t104, t105, t106, t107, t108, t109, t110, t111, t112, t113, t114, t115, t116, t117, t118, t119, t120, t121, t122, t123, t124, t125, t126, t127, t128, t129, t130, t131, t132, t133, t134, t135, t136, t137, t138, t139, t140, t141, t142, t143, t144, t145, t146, t147, t148, t149, t150, t151, t152, t153, t154, t155, t156, t157, t158, t159, t160, t161, t162, t163, t164, t165, t166, t167, t168, t169, t170, t171, t172, t173, t174, t175, t176, t177, t178, t179, t180, t181, t182, t183, t184, t185, t186, t187, t188, t189, t190, t191, t192, t193, t194, t195], []⟩ (u.setRow wb (ba 240 (over (i * 4) 4 (fn4 x0 x1 x2 x3) f)))) :
    (reg Try.f11 11).wp Try.prog Q ⟨#[.slice (some ⟨kb, ko, none⟩) L cap, t1, t2, t3, t4, t5, .pointer (some ⟨wb, 0, none⟩), t7, .int .i64 (i : Int), t9, t10, t11, t12, t13, t14, t15, t16, t17, t18, t19, t20, t21, t22, t23, t24, t25, t26, t27, t28, t29, t30, t31, t32, t33, t34, t35, t36, t37, t38, t39, t40, t41, t42, t43, t44, t45, t46, t47, t48, t49, t50, t51, t52, t53, t54, t55, t56, t57, t58, t59, t60, t61, t62, t63, t64, t65, t66, t67, t68, t69, t70, t71, t72, t73, t74, t75, t76, t77, t78, t79, t80, t81, t82, t83, t84, t85, t86, t87, t88, t89, t90, t91, t92, t93, t94, t95, t96, t97, t98, t99, t100, t101, t102, t103, t104, t105, t106, t107, t108, t109, t110, t111, t112, t113, t114, t115, t116, t117, t118, t119, t120, t121, t122, t123, t124, t125, t126, t127, t128, t129, t130, t131, t132, t133, t134, t135, t136, t137, t138, t139, t140, t141, t142, t143, t144, t145, t146, t147, t148, t149, t150, t151, t152, t153, t154, t155, t156, t157, t158, t159, t160, t161, t162, t163, t164, t165, t166, t167, t168, t169, t170, t171, t172, t173, t174, t175, t176, t177, t178, t179, t180, t181, t182, t183, t184, t185, t186, t187, t188, t189, t190, t191, t192, t193, t194, t195], []⟩ w := by
  show Code.wp Try.prog (Code.region 11 _ true) Q _ _
  refine wp_region_vals 26 (fun j => match j with
    | 0 => .int .i64 (i : Int)
    | 1 => .slice (some ⟨kb, ko, none⟩) L cap
    | 2 => .int .i64 (i : Int)
    | 3 => .int .i64 (j0 : Int)
    | 4 => .pointer (some ⟨kb, ko + j0, none⟩)
    | 5 => .int .u8 (x0.toNat : Int)
    | 6 => .slice (some ⟨kb, ko, none⟩) L cap
    | 7 => .int .i64 (i : Int)
    | 8 => .int .i64 (j0 : Int)
    | 9 => .int .i64 (j1 : Int)
    | 10 => .pointer (some ⟨kb, ko + j1, none⟩)
    | 11 => .int .u8 (x1.toNat : Int)
    | 12 => .slice (some ⟨kb, ko, none⟩) L cap
    | 13 => .int .i64 (i : Int)
    | 14 => .int .i64 (j0 : Int)
    | 15 => .int .i64 (j2 : Int)
    | 16 => .pointer (some ⟨kb, ko + j2, none⟩)
    | 17 => .int .u8 (x2.toNat : Int)
    | 18 => .slice (some ⟨kb, ko, none⟩) L cap
    | 19 => .int .i64 (i : Int)
    | 20 => .int .i64 (j0 : Int)
    | 21 => .int .i64 (j3 : Int)
    | 22 => .pointer (some ⟨kb, ko + j3, none⟩)
    | 23 => .int .u8 (x3.toNat : Int)
    | 24 => .agg (ba 4 (fn4 x0 x1 x2 x3))
    | _ => .pointer (some ⟨wb, i * 4, none⟩)) (by kernel_rfl) (by kernel_rfl) (by kernel_rfl) (by kernel_rfl) (by kernel_rfl) (by kernel_rfl) ?_ ?_
  · intro i o ac u hi ho hf hg hc
    have hcs : i = 0 ∨ i = 1 ∨ i = 2 ∨ i = 3 ∨ i = 4 ∨ i = 5 ∨ i = 6 ∨ i = 7 ∨ i = 8 ∨ i = 9 ∨ i = 10 ∨ i = 11 ∨ i = 12 ∨ i = 13 ∨ i = 14 ∨ i = 15 ∨ i = 16 ∨ i = 17 ∨ i = 18 ∨ i = 19 ∨ i = 20 ∨ i = 21 ∨ i = 22 ∨ i = 23 ∨ i = 24 ∨ i = 25 := by omega
    rcases hcs with rfl | rfl | rfl | rfl | rfl | rfl | rfl | rfl | rfl | rfl | rfl | rfl | rfl | rfl | rfl | rfl | rfl | rfl | rfl | rfl | rfl | rfl | rfl | rfl | rfl | rfl
    · injection ho with ho
      subst ho
      have e1 : ac.eval (.tmp 8) = .int .i64 (i : Int) := hf 8 (by kernel_rfl)
      exact op_val (by simp [execOp, e1]) (Chg.refl _)
    · injection ho with ho
      subst ho
      have e1 : ac.eval (.tmp 0) = .slice (some ⟨kb, ko, none⟩) L cap := hf 0 (by kernel_rfl)
      exact op_val (by simp [execOp, e1]) (Chg.refl _)
    · injection ho with ho
      subst ho
      have e1 : ac.eval (.tmp 8) = .int .i64 (i : Int) := hf 8 (by kernel_rfl)
      exact op_val (by simp [execOp, e1]) (Chg.refl _)
    · injection ho with ho
      subst ho
      have e1 : ac.eval (.const (.int .i64 4)) = .int .i64 4 := rfl
      have e2 : ac.eval (.tmp 44) = .int .i64 (i : Int) := hg 2 (by kernel_rfl) (by decide)
      exact op_val (by revert e1 e2; generalize ac.eval = ρ; intro e1 e2; simp [go_sem, execOp, e1, e2, h0, w0]) (Chg.refl _)
    · injection ho with ho
      subst ho
      have e1 : ac.eval (.tmp 43) = .slice (some ⟨kb, ko, none⟩) L cap := hg 1 (by kernel_rfl) (by decide)
      have e2 : ac.eval (.tmp 45) = .int .i64 (j0 : Int) := hg 3 (by kernel_rfl) (by decide)
      exact op_val (by revert e1 e2; generalize ac.eval = ρ; intro e1 e2; simp [go_sem, execOp, e1, e2, l0]) (Chg.refl _)
    · injection ho with ho
      subst ho
      have ca : u.cell? ⟨kb, ko + j0, none⟩ = some (.int .u8 (x0.toNat : Int)) := (World.cell?_of_block (hc.block kb hkb)).trans c0
      have e1 : ac.eval (.tmp 46) = .pointer (some ⟨kb, ko + j0, none⟩) := hg 4 (by kernel_rfl) (by decide)
      exact op_val (by revert e1; generalize ac.eval = ρ; intro e1; simp [go_sem, execOp, e1, ca]) (Chg.refl _)
    · injection ho with ho
      subst ho
      have e1 : ac.eval (.tmp 0) = .slice (some ⟨kb, ko, none⟩) L cap := hf 0 (by kernel_rfl)
      exact op_val (by simp [execOp, e1]) (Chg.refl _)
    · injection ho with ho
      subst ho
      have e1 : ac.eval (.tmp 8) = .int .i64 (i : Int) := hf 8 (by kernel_rfl)
      exact op_val (by simp [execOp, e1]) (Chg.refl _)
    · injection ho with ho
      subst ho
      have e1 : ac.eval (.const (.int .i64 4)) = .int .i64 4 := rfl
      have e2 : ac.eval (.tmp 49) = .int .i64 (i : Int) := hg 7 (by kernel_rfl) (by decide)
      exact op_val (by revert e1 e2; generalize ac.eval = ρ; intro e1 e2; simp [go_sem, execOp, e1, e2, h0, w0]) (Chg.refl _)
    · injection ho with ho
      subst ho
      have e1 : ac.eval (.tmp 50) = .int .i64 (j0 : Int) := hg 8 (by kernel_rfl) (by decide)
      have e2 : ac.eval (.const (.int .i64 1)) = .int .i64 1 := rfl
      exact op_val (by revert e1 e2; generalize ac.eval = ρ; intro e1 e2; simp [go_sem, execOp, e1, e2, h1, w1]) (Chg.refl _)
    · injection ho with ho
      subst ho
      have e1 : ac.eval (.tmp 48) = .slice (some ⟨kb, ko, none⟩) L cap := hg 6 (by kernel_rfl) (by decide)
      have e2 : ac.eval (.tmp 51) = .int .i64 (j1 : Int) := hg 9 (by kernel_rfl) (by decide)
      exact op_val (by revert e1 e2; generalize ac.eval = ρ; intro e1 e2; simp [go_sem, execOp, e1, e2, l1]) (Chg.refl _)
    · injection ho with ho
      subst ho
      have ca : u.cell? ⟨kb, ko + j1, none⟩ = some (.int .u8 (x1.toNat : Int)) := (World.cell?_of_block (hc.block kb hkb)).trans c1
      have e1 : ac.eval (.tmp 52) = .pointer (some ⟨kb, ko + j1, none⟩) := hg 10 (by kernel_rfl) (by decide)
      exact op_val (by revert e1; generalize ac.eval = ρ; intro e1; simp [go_sem, execOp, e1, ca]) (Chg.refl _)
    · injection ho with ho
      subst ho
      have e1 : ac.eval (.tmp 0) = .slice (some ⟨kb, ko, none⟩) L cap := hf 0 (by kernel_rfl)
      exact op_val (by simp [execOp, e1]) (Chg.refl _)
    · injection ho with ho
      subst ho
      have e1 : ac.eval (.tmp 8) = .int .i64 (i : Int) := hf 8 (by kernel_rfl)
      exact op_val (by simp [execOp, e1]) (Chg.refl _)
    · injection ho with ho
      subst ho
      have e1 : ac.eval (.const (.int .i64 4)) = .int .i64 4 := rfl
      have e2 : ac.eval (.tmp 55) = .int .i64 (i : Int) := hg 13 (by kernel_rfl) (by decide)
      exact op_val (by revert e1 e2; generalize ac.eval = ρ; intro e1 e2; simp [go_sem, execOp, e1, e2, h0, w0]) (Chg.refl _)
    · injection ho with ho
      subst ho
      have e1 : ac.eval (.tmp 56) = .int .i64 (j0 : Int) := hg 14 (by kernel_rfl) (by decide)
      have e2 : ac.eval (.const (.int .i64 2)) = .int .i64 2 := rfl
      exact op_val (by revert e1 e2; generalize ac.eval = ρ; intro e1 e2; simp [go_sem, execOp, e1, e2, h2, w2]) (Chg.refl _)
    · injection ho with ho
      subst ho
      have e1 : ac.eval (.tmp 54) = .slice (some ⟨kb, ko, none⟩) L cap := hg 12 (by kernel_rfl) (by decide)
      have e2 : ac.eval (.tmp 57) = .int .i64 (j2 : Int) := hg 15 (by kernel_rfl) (by decide)
      exact op_val (by revert e1 e2; generalize ac.eval = ρ; intro e1 e2; simp [go_sem, execOp, e1, e2, l2]) (Chg.refl _)
    · injection ho with ho
      subst ho
      have ca : u.cell? ⟨kb, ko + j2, none⟩ = some (.int .u8 (x2.toNat : Int)) := (World.cell?_of_block (hc.block kb hkb)).trans c2
      have e1 : ac.eval (.tmp 58) = .pointer (some ⟨kb, ko + j2, none⟩) := hg 16 (by kernel_rfl) (by decide)
      exact op_val (by revert e1; generalize ac.eval = ρ; intro e1; simp [go_sem, execOp, e1, ca]) (Chg.refl _)
    · injection ho with ho
      subst ho
      have e1 : ac.eval (.tmp 0) = .slice (some ⟨kb, ko, none⟩) L cap := hf 0 (by kernel_rfl)
      exact op_val (by simp [execOp, e1]) (Chg.refl _)
    · injection ho with ho
      subst ho
      have e1 : ac.eval (.tmp 8) = .int .i64 (i : Int) := hf 8 (by kernel_rfl)
      exact op_val (by simp [execOp, e1]) (Chg.refl _)
    · injection ho with ho
      subst ho
      have e1 : ac.eval (.const (.int .i64 4)) = .int .i64 4 := rfl
      have e2 : ac.eval (.tmp 61) = .int .i64 (i : Int) := hg 19 (by kernel_rfl) (by decide)
      exact op_val (by revert e1 e2; generalize ac.eval = ρ; intro e1 e2; simp [go_sem, execOp, e1, e2, h0, w0]) (Chg.refl _)
    · injection ho with ho
      subst ho
      have e1 : ac.eval (.tmp 62) = .int .i64 (j0 : Int) := hg 20 (by kernel_rfl) (by decide)
      have e2 : ac.eval (.const (.int .i64 3)) = .int .i64 3 := rfl
      exact op_val (by revert e1 e2; generalize ac.eval = ρ; intro e1 e2; simp [go_sem, execOp, e1, e2, h3, w3]) (Chg.refl _)
    · injection ho with ho
      subst ho
      have e1 : ac.eval (.tmp 60) = .slice (some ⟨kb, ko, none⟩) L cap := hg 18 (by kernel_rfl) (by decide)
      have e2 : ac.eval (.tmp 63) = .int .i64 (j3 : Int) := hg 21 (by kernel_rfl) (by decide)
      exact op_val (by revert e1 e2; generalize ac.eval = ρ; intro e1 e2; simp [go_sem, execOp, e1, e2, l3]) (Chg.refl _)
    · injection ho with ho
      subst ho
      have ca : u.cell? ⟨kb, ko + j3, none⟩ = some (.int .u8 (x3.toNat : Int)) := (World.cell?_of_block (hc.block kb hkb)).trans c3
      have e1 : ac.eval (.tmp 64) = .pointer (some ⟨kb, ko + j3, none⟩) := hg 22 (by kernel_rfl) (by decide)
      exact op_val (by revert e1; generalize ac.eval = ρ; intro e1; simp [go_sem, execOp, e1, ca]) (Chg.refl _)
    · injection ho with ho
      subst ho
      have e1 : ac.eval (.tmp 47) = .int .u8 (x0.toNat : Int) := hg 5 (by kernel_rfl) (by decide)
      have e2 : ac.eval (.tmp 53) = .int .u8 (x1.toNat : Int) := hg 11 (by kernel_rfl) (by decide)
      have e3 : ac.eval (.tmp 59) = .int .u8 (x2.toNat : Int) := hg 17 (by kernel_rfl) (by decide)
      have e4 : ac.eval (.tmp 65) = .int .u8 (x3.toNat : Int) := hg 23 (by kernel_rfl) (by decide)
      exact op_val (by revert e1 e2 e3 e4; generalize ac.eval = ρ; intro e1 e2 e3 e4; simp [go_sem, execOp, e1, e2, e3, e4, zero46.1, built4, ba_size, ba4_ne]) (Chg.refl _)
    · injection ho with ho
      subst ho
      have e1 : ac.eval (.tmp 6) = .pointer (some ⟨wb, 0, none⟩) := hf 6 (by kernel_rfl)
      have e2 : ac.eval (.tmp 42) = .int .i64 (i : Int) := hg 0 (by kernel_rfl) (by decide)
      exact op_val (by revert e1 e2; generalize ac.eval = ρ; intro e1 e2; simp [go_sem, execOp, e1, e2, li]) (Chg.refl _)
  · intro o u ho hc
    injection ho with ho
    subst ho
    have hW' := hW.chg ((Chg.refl w).drew.trans hc)
    refine wp_store_mid 51 (.tmp 67) (.tmp 66) rfl _ _ (ba 4 (fn4 x0 x1 x2 x3)) rfl rfl (by rw [ba_size]; exact there4 hW' _ _ (by omega)) (by rw [ba_size]; exact i46) (ba_one _ _) ?_
    rw [setCells_over hW' _ _ _ (by omega)]
    exact hQ _ _ _ _ _ _ _ _ _ _ _ _ _ _ _ _ _ _ _ _ _ _ _ _ _ _ _ ((Chg.refl w).drew.trans hc)

end Go.Proofs.Ytfnibmfmjglmlaa
