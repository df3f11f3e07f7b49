/-
  The document's rounds (32 bits).
-/
import Derived.Test.YtijpdhjlafihkaaDoorTj35
namespace Go.Proofs.YtijpdhjlafihkaaDoor
open Go.RowKit
set_option linter.unusedVariables false
set_option maxRecDepth 100000

set_option maxRecDepth 100000 in
set_option maxHeartbeats 8000000 in
/-- The rounds. -/
theorem rounds32_any {Q : Exit → Act → World → Prop} {t0 t1 t2 t4 t5 t7 t8 t9 t10 t11 t14 t15 t16 t17 t18 t19 t20 t21 t22 t23 t24 t25 t26 t27 t28 t29 t30 t31 t32 t33 t34 t35 t36 t37 t38 t39 t40 t41 t42 t43 t44 t45 t46 t47 t48 t49 t50 t51 t52 t53 t54 t55 t56 t57 t58 t59 t60 t61 t62 t63 t64 t65 t66 t67 t68 t69 t70 t71 t72 t73 t74 t75 t76 t77 t78 t79 t80 t81 t82 t83 t84 t85 t86 t87 t88 t89 t90 t91 t92 t93 t94 t95 t96 t97 t98 t99 t100 t101 t102 t103 t104 t105 t106 t107 t108 t109 t110 t111 t112 t113 t114 t115 t116 t117 t118 t119 t120 t121 t122 t123 t124 t125 t126 t127 t128 t129 t130 t131 t132 t133 t134 t135 t136 t137 t138 t139 t140 t141 t142 t143 t144 t145 t146 t147 t148 t149 t150 t151 t152 t153 t154 t155 t156 t157 t158 t159 t160 t161 t162 t163 t164 t165 t166 t167 t168 t169 t170 t171 t172 t173 t174 t175 t176 t177 t178 t179 t180 t181 t182 t183 t184 t185 t186 t187 t188 t189 t190 t191 t192 t193 t194 t195 t196 t197 t198 t199 t200 t201 t202 t203 t204 t205 t206 t207 t208 t209 t210 t211 t212 t213 t214 t215 t216 t217 t218 t219 t220 t221 t222 t223 t224 t225 t226 t227 t228 t229 t230 t231 : Value} (Kb Wb Vb : Nat) (s W : Nat → Int) (w : World) (h : Ar w Vb (arr .u32 8 (St.of s).at)) (hk : Ar w Kb (arr .u32 64 number32)) (hw : Ar w Wb (arr .u32 64 W)) (nk : Kb ≠ Vb) (nw : Wb ≠ Vb)
    (hQ : ∀ (u13 u14 u15 u16 u17 u112 u113 u114 u115 u116 u117 u118 u119 u120 u121 u122 u123 u124 u125 u126 u127 u128 u129 u130 u131 u132 u133 u134 u135 u136 u137 u138 u139 u140 u141 u142 u143 u144 u145 u146 u147 u148 u149 u150 u151 u152 u153 u154 u155 u156 u157 u158 u159 u160 u161 u162 u163 u164 u165 u166 u167 u168 u169 u170 u171 u172 u173 u174 u175 u176 u177 u178 u179 u180 u181 u182 u183 u184 u185 u186 u187 u188 u189 u190 u191 : Value) (w' : World), Cb Vb w w' ∧ Ar w' Vb (arr .u32 8 (rnds .u32 (turn3 .u32 2 13 22) (turn3 .u32 6 11 25) number32 W (St.of s) 64).at) → Q .normal ⟨#[t0, t1, t2, .pointer (some ⟨Kb, 0, none⟩), t4, t5, .pointer (some ⟨Wb, 0, none⟩), t7, t8, t9, t10, t11, .pointer (some ⟨Vb, 0, none⟩), u13, u14, u15, u16, u17, t18, t19, t20, t21, t22, t23, t24, t25, t26, t27, t28, t29, t30, t31, t32, t33, t34, t35, t36, t37, t38, t39, t40, t41, t42, t43, t44, t45, t46, t47, t48, t49, t50, t51, t52, t53, t54, t55, t56, t57, t58, t59, t60, t61, t62, t63, t64, t65, t66, t67, t68, t69, t70, t71, t72, t73, t74, t75, t76, t77, t78, t79, t80, t81, t82, t83, t84, t85, t86, t87, t88, t89, t90, t91, t92, t93, t94, t95, t96, t97, t98, t99, t100, t101, t102, t103, t104, t105, t106, t107, t108, t109, t110, t111, u112, u113, u114, u115, u116, u117, u118, u119, u120, u121, u122, u123, u124, u125, u126, u127, u128, u129, u130, u131, u132, u133, u134, u135, u136, u137, u138, u139, u140, u141, u142, u143, u144, u145, u146, u147, u148, u149, u150, u151, u152, u153, u154, u155, u156, u157, u158, u159, u160, u161, u162, u163, u164, u165, u166, u167, u168, u169, u170, u171, u172, u173, u174, u175, u176, u177, u178, u179, u180, u181, u182, u183, u184, u185, u186, u187, u188, u189, u190, u191, t192, t193, t194, t195, t196, t197, t198, t199, t200, t201, t202, t203, t204, t205, t206, t207, t208, t209, t210, t211, t212, t213, t214, t215, t216, t217, t218, t219, t220, t221, t222, t223, t224, t225, t226, t227, t228, t229, t230, t231], []⟩ w') :
    (blk Tryd.f47 6).wp Tryd.prog Q ⟨#[t0, t1, t2, .pointer (some ⟨Kb, 0, none⟩), t4, t5, .pointer (some ⟨Wb, 0, none⟩), t7, t8, t9, t10, t11, .pointer (some ⟨Vb, 0, none⟩), .int .i64 0, t14, t15, t16, t17, t18, t19, t20, t21, t22, t23, t24, t25, t26, t27, t28, t29, t30, t31, t32, t33, t34, t35, t36, t37, t38, t39, t40, t41, t42, t43, t44, t45, t46, t47, t48, t49, t50, t51, t52, t53, t54, t55, t56, t57, t58, t59, t60, t61, t62, t63, t64, t65, t66, t67, t68, t69, t70, t71, t72, t73, t74, t75, t76, t77, t78, t79, t80, t81, t82, t83, t84, t85, t86, t87, t88, t89, t90, t91, t92, t93, t94, t95, t96, t97, t98, t99, t100, t101, t102, t103, t104, t105, t106, t107, t108, t109, t110, t111, t112, t113, t114, t115, t116, t117, t118, t119, t120, t121, t122, t123, t124, t125, t126, t127, t128, t129, t130, t131, t132, t133, t134, t135, t136, t137, t138, t139, t140, t141, t142, t143, t144, t145, t146, t147, t148, t149, t150, t151, t152, t153, t154, t155, t156, t157, t158, t159, t160, t161, t162, t163, t164, t165, t166, t167, t168, t169, t170, t171, t172, t173, t174, t175, t176, t177, t178, t179, t180, t181, t182, t183, t184, t185, t186, t187, t188, t189, t190, t191, t192, t193, t194, t195, t196, t197, t198, t199, t200, t201, t202, t203, t204, t205, t206, t207, t208, t209, t210, t211, t212, t213, t214, t215, t216, t217, t218, t219, t220, t221, t222, t223, t224, t225, t226, t227, t228, t229, t230, t231], []⟩ w := by
  show Code.wp Tryd.prog (Code.block _ (Code.loop _)) Q _ _
  have HQ := (show Hid (∀ (u13 u14 u15 u16 u17 u112 u113 u114 u115 u116 u117 u118 u119 u120 u121 u122 u123 u124 u125 u126 u127 u128 u129 u130 u131 u132 u133 u134 u135 u136 u137 u138 u139 u140 u141 u142 u143 u144 u145 u146 u147 u148 u149 u150 u151 u152 u153 u154 u155 u156 u157 u158 u159 u160 u161 u162 u163 u164 u165 u166 u167 u168 u169 u170 u171 u172 u173 u174 u175 u176 u177 u178 u179 u180 u181 u182 u183 u184 u185 u186 u187 u188 u189 u190 u191 : Value) (w' : World), Cb Vb w w' ∧ Ar w' Vb (arr .u32 8 (rnds .u32 (turn3 .u32 2 13 22) (turn3 .u32 6 11 25) number32 W (St.of s) 64).at) → Q .normal ⟨#[t0, t1, t2, .pointer (some ⟨Kb, 0, none⟩), t4, t5, .pointer (some ⟨Wb, 0, none⟩), t7, t8, t9, t10, t11, .pointer (some ⟨Vb, 0, none⟩), u13, u14, u15, u16, u17, t18, t19, t20, t21, t22, t23, t24, t25, t26, t27, t28, t29, t30, t31, t32, t33, t34, t35, t36, t37, t38, t39, t40, t41, t42, t43, t44, t45, t46, t47, t48, t49, t50, t51, t52, t53, t54, t55, t56, t57, t58, t59, t60, t61, t62, t63, t64, t65, t66, t67, t68, t69, t70, t71, t72, t73, t74, t75, t76, t77, t78, t79, t80, t81, t82, t83, t84, t85, t86, t87, t88, t89, t90, t91, t92, t93, t94, t95, t96, t97, t98, t99, t100, t101, t102, t103, t104, t105, t106, t107, t108, t109, t110, t111, u112, u113, u114, u115, u116, u117, u118, u119, u120, u121, u122, u123, u124, u125, u126, u127, u128, u129, u130, u131, u132, u133, u134, u135, u136, u137, u138, u139, u140, u141, u142, u143, u144, u145, u146, u147, u148, u149, u150, u151, u152, u153, u154, u155, u156, u157, u158, u159, u160, u161, u162, u163, u164, u165, u166, u167, u168, u169, u170, u171, u172, u173, u174, u175, u176, u177, u178, u179, u180, u181, u182, u183, u184, u185, u186, u187, u188, u189, u190, u191, t192, t193, t194, t195, t196, t197, t198, t199, t200, t201, t202, t203, t204, t205, t206, t207, t208, t209, t210, t211, t212, t213, t214, t215, t216, t217, t218, t219, t220, t221, t222, t223, t224, t225, t226, t227, t228, t229, t230, t231], []⟩ w') from hQ)
  clear hQ
  have H0 : Hid (Ar w Vb (arr .u32 8 (rnds .u32 (turn3 .u32 2 13 22) (turn3 .u32 6 11 25) number32 W (St.of s) 0).at) ∧ Ar w Kb (arr .u32 64 number32) ∧ Ar w Wb (arr .u32 64 W) ∧ Kb ≠ Vb ∧ Wb ≠ Vb) := ⟨h, hk, hw, nk, nw⟩
  clear h hk hw nk nw
  go_wp2_with fail
  go_loopw [13] (fun v wr => ∃ (j : Nat), v = .int .i64 j ∧ j ≤ 64 ∧ Cb Vb w wr ∧ Ar wr Vb (arr .u32 8 (rnds .u32 (turn3 .u32 2 13 22) (turn3 .u32 6 11 25) number32 W (St.of s) j).at)) (fun v wr => 64 - (intOf v).toNat)
  case atStart => exact ⟨0, rfl, by omega, (Chg.refl w).cb Vb, H0.out.1⟩
  case round =>
    obtain ⟨j, rfl, hj, hch, h5⟩ := hrel
    have H : Hid (Cb Vb w wr ∧ Ar wr Vb (arr .u32 8 (rnds .u32 (turn3 .u32 2 13 22) (turn3 .u32 6 11 25) number32 W (St.of s) j).at)) := ⟨hch, h5⟩
    have h1 := H0.out.2.1.cb hch H0.out.2.2.2.1
    have h4 := H0.out.2.2.1.cb hch H0.out.2.2.2.2
    clear H0
    by_cases hj64 : j < 64
    · have hjd : decide ((j : Int) < 64) = true := by simp; omega
      have lj : (j : Int) < 64 := by omega
      obtain ⟨sa, sb, sc, sd, se, sf, sg, sh, hst⟩ : ∃ y0 y1 y2 y3 y4 y5 y6 y7, rnds .u32 (turn3 .u32 2 13 22) (turn3 .u32 6 11 25) number32 W (St.of s) j = ⟨y0, y1, y2, y3, y4, y5, y6, y7⟩ := ⟨_, _, _, _, _, _, _, _, rfl⟩
      rw [hst] at h5
      have b0 : wr.cell? ⟨Vb, 0, none⟩ = some (.int .u32 sa) := h5.cell 0
      have b1 : wr.cell? ⟨Vb, 1, none⟩ = some (.int .u32 sb) := h5.cell 1
      have b2 : wr.cell? ⟨Vb, 2, none⟩ = some (.int .u32 sc) := h5.cell 2
      have b3 : wr.cell? ⟨Vb, 3, none⟩ = some (.int .u32 sd) := h5.cell 3
      have b4 : wr.cell? ⟨Vb, 4, none⟩ = some (.int .u32 se) := h5.cell 4
      have b5 : wr.cell? ⟨Vb, 5, none⟩ = some (.int .u32 sf) := h5.cell 5
      have b6 : wr.cell? ⟨Vb, 6, none⟩ = some (.int .u32 sg) := h5.cell 6
      have b7 : wr.cell? ⟨Vb, 7, none⟩ = some (.int .u32 sh) := h5.cell 7
      have f0 := h5.frozen 0
      have f1 := h5.frozen 1
      have f2 := h5.frozen 2
      have f3 := h5.frozen 3
      have f4 := h5.frozen 4
      have f5 := h5.frozen 5
      have f6 := h5.frozen 6
      have f7 := h5.frozen 7
      obtain ⟨nn, hnn⟩ : ∃ x, x = number32 j := ⟨_, rfl⟩
      obtain ⟨ww, hww⟩ : ∃ x, x = W j := ⟨_, rfl⟩
      have kc := (h1.cell j).trans (arr_get .u32 64 number32 hj64)
      have wc := (h4.cell j).trans (arr_get .u32 64 W hj64)
      rw [← hnn] at kc
      rw [← hww] at wc
      have HN : Hid (nn = number32 j ∧ ww = W j ∧ rnds .u32 (turn3 .u32 2 13 22) (turn3 .u32 6 11 25) number32 W (St.of s) j = ⟨sa, sb, sc, sd, se, sf, sg, sh⟩) := ⟨hnn, hww, hst⟩
      clear hnn hww hst hch h1 h4 h5
      go_wp2_with fail
      go_region_held3 (fun w' => w'.cell? ⟨Vb, 7, none⟩ = some (.int .u32 sh) ∧ w'.cell? ⟨Vb, 5, none⟩ = some (.int .u32 sf) ∧ w'.cell? ⟨Vb, 6, none⟩ = some (.int .u32 sg) ∧ w'.cell? ⟨Kb, j, none⟩ = some (.int .u32 nn) ∧ w'.cell? ⟨Wb, j, none⟩ = some (.int .u32 ww))
        (exact ⟨b7, b5, b6, kc, wc⟩)
        (first
        | (go_at_call_of 64 (Value.int .i64 6); (refine (refTurn32_any se 6 _ (by decide) (by decide)).mono ?_; rintro e wA ⟨rfl, mA, rfl⟩))
        | (go_at_call_of 64 (Value.int .i64 11); (refine (refTurn32_any se 11 _ (by decide) (by decide)).mono ?_; rintro e wA ⟨rfl, mA, rfl⟩))
        | (go_at_call_of 64 (Value.int .i64 25); (refine (refTurn32_any se 25 _ (by decide) (by decide)).mono ?_; rintro e wA ⟨rfl, mA, rfl⟩)))
      all_goals go_wp2_with fail
      go_region_held3 (fun w' => w'.cell? ⟨Vb, 1, none⟩ = some (.int .u32 sb) ∧ w'.cell? ⟨Vb, 2, none⟩ = some (.int .u32 sc))
        (exact ⟨b1, b2⟩)
        (first
        | (go_at_call_of 64 (Value.int .i64 2); (refine (refTurn32_any sa 2 _ (by decide) (by decide)).mono ?_; rintro e wA ⟨rfl, mA, rfl⟩))
        | (go_at_call_of 64 (Value.int .i64 13); (refine (refTurn32_any sa 13 _ (by decide) (by decide)).mono ?_; rintro e wA ⟨rfl, mA, rfl⟩))
        | (go_at_call_of 64 (Value.int .i64 22); (refine (refTurn32_any sa 22 _ (by decide) (by decide)).mono ?_; rintro e wA ⟨rfl, mA, rfl⟩)))
      all_goals go_wp2
      all_goals
        obtain ⟨hnn, hww, hst⟩ := HN.out
        obtain ⟨k0, k5⟩ := H.out
        refine ⟨⟨j + 1, by go_num, by omega, (((((((Cb.set (k0.drewN _) _ _).set _ _).set _ _).set _ _).set _ _).set _ _).set _ _).set _ _, Ar.set8 (Ar.drewN k5 _) _ _ _ _ _ _ _ _ _ ?_ ?_ ?_ ?_ ?_ ?_ ?_ ?_⟩, ?_⟩
        · rw [rnds, hst, ← hnn, ← hww]
          simp only [rnd, St.at, rndX, rndY, turn3, IntKind.wrap_u32, Int.emod_add_emod, Int.add_emod_emod]
        · rw [rnds, hst]; rfl
        · rw [rnds, hst]; rfl
        · rw [rnds, hst]; rfl
        · rw [rnds, hst, ← hnn, ← hww]
          simp only [rnd, St.at, rndX, turn3, IntKind.wrap_u32, Int.emod_add_emod, Int.add_emod_emod]
        · rw [rnds, hst]; rfl
        · rw [rnds, hst]; rfl
        · rw [rnds, hst]; rfl
        · simp [intOf]; omega
    · have hjd : decide ((j : Int) < 64) = false := by simp; omega
      have hj' : j = 64 := by omega
      rw [hj'] at h5
      have Z : Hid (Cb Vb w wr ∧ Ar wr Vb (arr .u32 8 (rnds .u32 (turn3 .u32 2 13 22) (turn3 .u32 6 11 25) number32 W (St.of s) 64).at)) := ⟨hch, h5⟩
      clear hj' hch h1 h4 h5 H
      go_wp2
      exact HQ.out _ _ _ _ _ _ _ _ _ _ _ _ _ _ _ _ _ _ _ _ _ _ _ _ _ _ _ _ _ _ _ _ _ _ _ _ _ _ _ _ _ _ _ _ _ _ _ _ _ _ _ _ _ _ _ _ _ _ _ _ _ _ _ _ _ _ _ _ _ _ _ _ _ _ _ _ _ _ _ _ _ _ _ _ _ _ Z.out
end Go.Proofs.YtijpdhjlafihkaaDoor
