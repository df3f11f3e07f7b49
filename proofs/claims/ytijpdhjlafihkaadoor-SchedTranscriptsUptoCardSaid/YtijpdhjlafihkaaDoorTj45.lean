/-
  The document's state is laid anew (64 bits).
-/
import Derived.Test.YtijpdhjlafihkaaDoorTj35
namespace Go.Proofs.YtijpdhjlafihkaaDoor
open Go.RowKit
set_option linter.unusedVariables false
set_option maxRecDepth 100000

set_option maxRecDepth 100000 in
set_option maxHeartbeats 8000000 in
/-- The state is laid anew, word by word. -/
theorem summed64_any {Q : Exit → Act → World → Prop} {t0 t1 t2 t4 t5 t6 t7 t8 t9 t10 t11 t12 t14 t15 t16 t17 t18 t20 t21 t22 t23 t24 t25 t26 t27 t28 t29 t30 t31 t32 t33 t34 t35 t36 t37 t38 t39 t40 t41 t42 t43 t44 t45 t46 t47 t48 t49 t50 t51 t52 t53 t54 t55 t56 t57 t58 t59 t60 t61 t62 t63 t64 t65 t66 t67 t68 t69 t70 t71 t72 t73 t74 t75 t76 t77 t78 t79 t80 t81 t82 t83 t84 t85 t86 t87 t88 t89 t90 t91 t92 t93 t94 t95 t96 t97 t98 t99 t100 t101 t102 t103 t104 t105 t106 t107 t108 t109 t110 t111 t112 t113 t114 t115 t116 t117 t118 t119 t120 t121 t122 t123 t124 t125 t126 t127 t128 t129 t130 t131 t132 t133 t134 t135 t136 t137 t138 t139 t140 t141 t142 t143 t144 t145 t146 t147 t148 t149 t150 t151 t152 t153 t154 t155 t156 t157 t158 t159 t160 t161 t162 t163 t164 t165 t166 t167 t168 t169 t170 t171 t172 t173 t174 t175 t176 t177 t178 t179 t180 t181 t182 t183 t184 t185 t186 t187 t188 t189 t190 t191 t192 t193 t194 t195 t196 t197 t198 t199 t200 t201 t202 t203 t204 t205 t206 t207 t208 t209 t210 : Value} (Sb Vb : Nat) (s V : Nat → Int) (w : World) (h : Ar w Sb (arr .u64 8 s)) (hv : Ar w Vb (arr .u64 8 V)) (nv : Vb ≠ Sb)
    (hQ : ∀ (u19 u179 u180 u181 u182 u183 u184 u185 u186 u187 u188 u189 u190 u191 : Value) (w' : World), Cb Sb w w' ∧ Ar w' Sb (arr .u64 8 (fun i => IntKind.u64.wrap (s i + V i))) → Q .normal ⟨#[t0, t1, t2, .pointer (some ⟨Sb, 0, none⟩), t4, t5, t6, t7, t8, t9, t10, t11, t12, .pointer (some ⟨Vb, 0, none⟩), t14, t15, t16, t17, t18, u19, t20, t21, t22, t23, t24, t25, t26, t27, t28, t29, t30, t31, t32, t33, t34, t35, t36, t37, t38, t39, t40, t41, t42, t43, t44, t45, t46, t47, t48, t49, t50, t51, t52, t53, t54, t55, t56, t57, t58, t59, t60, t61, t62, t63, t64, t65, t66, t67, t68, t69, t70, t71, t72, t73, t74, t75, t76, t77, t78, t79, t80, t81, t82, t83, t84, t85, t86, t87, t88, t89, t90, t91, t92, t93, t94, t95, t96, t97, t98, t99, t100, t101, t102, t103, t104, t105, t106, t107, t108, t109, t110, t111, t112, t113, t114, t115, t116, t117, t118, t119, t120, t121, t122, t123, t124, t125, t126, t127, t128, t129, t130, t131, t132, t133, t134, t135, t136, t137, t138, t139, t140, t141, t142, t143, t144, t145, t146, t147, t148, t149, t150, t151, t152, t153, t154, t155, t156, t157, t158, t159, t160, t161, t162, t163, t164, t165, t166, t167, t168, t169, t170, t171, t172, t173, t174, t175, t176, t177, t178, u179, u180, u181, u182, u183, u184, u185, u186, u187, u188, u189, u190, u191, t192, t193, t194, t195, t196, t197, t198, t199, t200, t201, t202, t203, t204, t205, t206, t207, t208, t209, t210], []⟩ w') :
    (blk Tryd.f48 10).wp Tryd.prog Q ⟨#[t0, t1, t2, .pointer (some ⟨Sb, 0, none⟩), t4, t5, t6, t7, t8, t9, t10, t11, t12, .pointer (some ⟨Vb, 0, none⟩), t14, t15, t16, t17, t18, .int .i64 0, t20, t21, t22, t23, t24, t25, t26, t27, t28, t29, t30, t31, t32, t33, t34, t35, t36, t37, t38, t39, t40, t41, t42, t43, t44, t45, t46, t47, t48, t49, t50, t51, t52, t53, t54, t55, t56, t57, t58, t59, t60, t61, t62, t63, t64, t65, t66, t67, t68, t69, t70, t71, t72, t73, t74, t75, t76, t77, t78, t79, t80, t81, t82, t83, t84, t85, t86, t87, t88, t89, t90, t91, t92, t93, t94, t95, t96, t97, t98, t99, t100, t101, t102, t103, t104, t105, t106, t107, t108, t109, t110, t111, t112, t113, t114, t115, t116, t117, t118, t119, t120, t121, t122, t123, t124, t125, t126, t127, t128, t129, t130, t131, t132, t133, t134, t135, t136, t137, t138, t139, t140, t141, t142, t143, t144, t145, t146, t147, t148, t149, t150, t151, t152, t153, t154, t155, t156, t157, t158, t159, t160, t161, t162, t163, t164, t165, t166, t167, t168, t169, t170, t171, t172, t173, t174, t175, t176, t177, t178, t179, t180, t181, t182, t183, t184, t185, t186, t187, t188, t189, t190, t191, t192, t193, t194, t195, t196, t197, t198, t199, t200, t201, t202, t203, t204, t205, t206, t207, t208, t209, t210], []⟩ w := by
  show Code.wp Tryd.prog (Code.block _ (Code.loop _)) Q _ _
  have HQ := (show Hid (∀ (u19 u179 u180 u181 u182 u183 u184 u185 u186 u187 u188 u189 u190 u191 : Value) (w' : World), Cb Sb w w' ∧ Ar w' Sb (arr .u64 8 (fun i => IntKind.u64.wrap (s i + V i))) → Q .normal ⟨#[t0, t1, t2, .pointer (some ⟨Sb, 0, none⟩), t4, t5, t6, t7, t8, t9, t10, t11, t12, .pointer (some ⟨Vb, 0, none⟩), t14, t15, t16, t17, t18, u19, t20, t21, t22, t23, t24, t25, t26, t27, t28, t29, t30, t31, t32, t33, t34, t35, t36, t37, t38, t39, t40, t41, t42, t43, t44, t45, t46, t47, t48, t49, t50, t51, t52, t53, t54, t55, t56, t57, t58, t59, t60, t61, t62, t63, t64, t65, t66, t67, t68, t69, t70, t71, t72, t73, t74, t75, t76, t77, t78, t79, t80, t81, t82, t83, t84, t85, t86, t87, t88, t89, t90, t91, t92, t93, t94, t95, t96, t97, t98, t99, t100, t101, t102, t103, t104, t105, t106, t107, t108, t109, t110, t111, t112, t113, t114, t115, t116, t117, t118, t119, t120, t121, t122, t123, t124, t125, t126, t127, t128, t129, t130, t131, t132, t133, t134, t135, t136, t137, t138, t139, t140, t141, t142, t143, t144, t145, t146, t147, t148, t149, t150, t151, t152, t153, t154, t155, t156, t157, t158, t159, t160, t161, t162, t163, t164, t165, t166, t167, t168, t169, t170, t171, t172, t173, t174, t175, t176, t177, t178, u179, u180, u181, u182, u183, u184, u185, u186, u187, u188, u189, u190, u191, t192, t193, t194, t195, t196, t197, t198, t199, t200, t201, t202, t203, t204, t205, t206, t207, t208, t209, t210], []⟩ w') from hQ)
  clear hQ
  have H0 : Hid (Ar w Sb (arr .u64 8 (halfR s (fun i => IntKind.u64.wrap (s i + V i)) 0)) ∧ Ar w Vb (arr .u64 8 V) ∧ Vb ≠ Sb) := ⟨h, hv, nv⟩
  clear h hv nv
  go_wp2_with fail
  go_loopw [19] (fun v wr => ∃ (e : Nat), v = .int .i64 e ∧ e ≤ 8 ∧ Cb Sb w wr ∧ Ar wr Sb (arr .u64 8 (halfR s (fun i => IntKind.u64.wrap (s i + V i)) e))) (fun v wr => 8 - (intOf v).toNat)
  case atStart => exact ⟨0, rfl, by omega, (Chg.refl w).cb Sb, H0.out.1⟩
  case round =>
    obtain ⟨e, rfl, he, hch, h2⟩ := hrel
    have H : Hid (Cb Sb w wr ∧ Ar wr Sb (arr .u64 8 (halfR s (fun i => IntKind.u64.wrap (s i + V i)) e))) := ⟨hch, h2⟩
    have h5 := H0.out.2.1.cb hch H0.out.2.2
    have hne := H0.out.2.2
    clear H0
    by_cases he8 : e < 8
    · have hed : decide ((e : Int) < 8) = true := by simp; omega
      have le8 : (e : Int) < 8 := by omega
      obtain ⟨x, hx⟩ : ∃ x, x = s e := ⟨_, rfl⟩
      obtain ⟨y, hy⟩ : ∃ y, y = V e := ⟨_, rfl⟩
      have c0 := (h2.cell e).trans (arr_get .u64 8 (halfR s (fun i => IntKind.u64.wrap (s i + V i)) e) he8)
      rw [show halfR s (fun i => IntKind.u64.wrap (s i + V i)) e e = x by rw [hx, halfR, if_neg (by omega)]] at c0
      have f0 := h2.frozen e
      have c1 := (h5.cell e).trans (arr_get .u64 8 V he8)
      rw [← hy] at c1
      have HX : Hid (IntKind.u64.wrap (x + y) = IntKind.u64.wrap (s e + V e)) := by
        show IntKind.u64.wrap (x + y) = _
        rw [← hx, ← hy]
      clear hx hy hch h2 h5
      go_wp2_with fail
      refine wp_region_noPanic ?_
      go_region_with (fail)
      all_goals refine NoPanic.normal ?_
      all_goals go_wp2
      all_goals
        obtain ⟨k0, k2⟩ := H.out
        have hX := HX.out
        rw [IntKind.wrap_u64] at hX
        go_roundw
        case rel =>
          refine ⟨e + 1, by go_num, by omega, Cb.set k0.drew _ _, ?_⟩
          have hh := k2.drew.set e (.int .u64 ((x + y) % 18446744073709551616))
          rw [arr_set] at hh
          have e1 : upd (halfR s (fun i => IntKind.u64.wrap (s i + V i)) e) e ((x + y) % 18446744073709551616) = halfR s (fun i => IntKind.u64.wrap (s i + V i)) (e + 1) := by
            funext i
            unfold upd halfR
            by_cases hie : i = e
            · subst hie; simp [hX]
            · have e2 : (i < e + 1) ↔ i < e := by omega
              simp [hie, e2]
          rw [e1] at hh
          exact hh
        case measure => simp [intOf]; omega
    · have hed : decide ((e : Int) < 8) = false := by simp; omega
      have he' : e = 8 := by omega
      rw [he'] at h2
      have e1 : arr .u64 8 (halfR s (fun i => IntKind.u64.wrap (s i + V i)) 8) = arr .u64 8 (fun i => IntKind.u64.wrap (s i + V i)) := arr_congr fun i hi => by rw [halfR, if_pos hi]
      rw [e1] at h2
      have Z : Hid (Cb Sb w wr ∧ Ar wr Sb (arr .u64 8 (fun i => IntKind.u64.wrap (s i + V i)))) := ⟨hch, h2⟩
      clear he' hch h2 h5 H e1
      go_wp2
      exact HQ.out _ _ _ _ _ _ _ _ _ _ _ _ _ _ _ Z.out
end Go.Proofs.YtijpdhjlafihkaaDoor
