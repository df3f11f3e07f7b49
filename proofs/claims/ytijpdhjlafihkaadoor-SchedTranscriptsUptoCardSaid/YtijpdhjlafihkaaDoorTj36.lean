/-
  The document's loop over the first sixteen words (32 bits).
-/
import Derived.Test.YtijpdhjlafihkaaDoorTj35
namespace Go.Proofs.YtijpdhjlafihkaaDoor
open Go.RowKit
set_option linter.unusedVariables false
set_option maxRecDepth 100000

set_option maxRecDepth 100000 in
set_option maxHeartbeats 8000000 in
/-- The first sixteen words. -/
theorem first32_any {Q : Exit → Act → World → Prop} {t1 t2 t3 t4 t8 t9 t10 t11 t12 t13 t14 t15 t16 t17 t18 t19 t20 t21 t22 t23 t24 t25 t26 t27 t28 t29 t30 t31 t32 t33 t34 t35 t36 t37 t38 t39 t40 t41 t42 t43 t44 t45 t46 t47 t48 t49 t50 t51 t52 t53 t54 t55 t56 t57 t58 t59 t60 t61 t62 t63 t64 t65 t66 t67 t68 t69 t70 t71 t72 t73 t74 t75 t76 t77 t78 t79 t80 t81 t82 t83 t84 t85 t86 t87 t88 t89 t90 t91 t92 t93 t94 t95 t96 t97 t98 t99 t100 t101 t102 t103 t104 t105 t106 t107 t108 t109 t110 t111 t112 t113 t114 t115 t116 t117 t118 t119 t120 t121 t122 t123 t124 t125 t126 t127 t128 t129 t130 t131 t132 t133 t134 t135 t136 t137 t138 t139 t140 t141 t142 t143 t144 t145 t146 t147 t148 t149 t150 t151 t152 t153 t154 t155 t156 t157 t158 t159 t160 t161 t162 t163 t164 t165 t166 t167 t168 t169 t170 t171 t172 t173 t174 t175 t176 t177 t178 t179 t180 t181 t182 t183 t184 t185 t186 t187 t188 t189 t190 t191 t192 t193 t194 t195 t196 t197 t198 t199 t200 t201 t202 t203 t204 t205 t206 t207 t208 t209 t210 t211 t212 t213 t214 t215 t216 t217 t218 t219 t220 t221 t222 t223 t224 t225 t226 t227 t228 t229 t230 t231 : Value} (g off m cap fr Wb : Nat) (F d : Nat → Int) (w : World) (h : Ar w Wb (arr .u32 64 fun _ => 0)) (hb : Bs w g off m F) (ng : g ≠ Wb) (hd : d = fun j => F (fr + j)) (hfm : fr + 64 ≤ m) (hmm : m ≤ 140737488354048)
    (hQ : ∀ (u7 u8 u31 u32 u33 u34 u35 u36 u37 u38 u39 u40 u41 u42 u43 u44 u45 u46 u47 u48 u49 u50 u51 u52 u53 u54 u55 u56 u57 u58 u59 u60 u61 u62 u63 u64 u65 u66 u67 u68 u69 : Value) (w' : World), Cb Wb w w' ∧ Ar w' Wb (arr .u32 64 (firstR d 16)) → Q .normal ⟨#[.slice (some ⟨g, off, none⟩) m cap, t1, t2, t3, t4, .int .i64 fr, .pointer (some ⟨Wb, 0, none⟩), u7, u8, t9, t10, t11, t12, t13, t14, t15, t16, t17, t18, t19, t20, t21, t22, t23, t24, t25, t26, t27, t28, t29, t30, u31, u32, u33, u34, u35, u36, u37, u38, u39, u40, u41, u42, u43, u44, u45, u46, u47, u48, u49, u50, u51, u52, u53, u54, u55, u56, u57, u58, u59, u60, u61, u62, u63, u64, u65, u66, u67, u68, u69, t70, t71, t72, t73, t74, t75, t76, t77, t78, t79, t80, t81, t82, t83, t84, t85, t86, t87, t88, t89, t90, t91, t92, t93, t94, t95, t96, t97, t98, t99, t100, t101, t102, t103, t104, t105, t106, t107, t108, t109, t110, t111, t112, t113, t114, t115, t116, t117, t118, t119, t120, t121, t122, t123, t124, t125, t126, t127, t128, t129, t130, t131, t132, t133, t134, t135, t136, t137, t138, t139, t140, t141, t142, t143, t144, t145, t146, t147, t148, t149, t150, t151, t152, t153, t154, t155, t156, t157, t158, t159, t160, t161, t162, t163, t164, t165, t166, t167, t168, t169, t170, t171, t172, t173, t174, t175, t176, t177, t178, t179, t180, t181, t182, t183, t184, t185, t186, t187, t188, t189, t190, t191, t192, t193, t194, t195, t196, t197, t198, t199, t200, t201, t202, t203, t204, t205, t206, t207, t208, t209, t210, t211, t212, t213, t214, t215, t216, t217, t218, t219, t220, t221, t222, t223, t224, t225, t226, t227, t228, t229, t230, t231], []⟩ w') :
    (blk Tryd.f47 2).wp Tryd.prog Q ⟨#[.slice (some ⟨g, off, none⟩) m cap, t1, t2, t3, t4, .int .i64 fr, .pointer (some ⟨Wb, 0, none⟩), .int .i64 0, t8, t9, t10, t11, t12, t13, t14, t15, t16, t17, t18, t19, t20, t21, t22, t23, t24, t25, t26, t27, t28, t29, t30, t31, t32, t33, t34, t35, t36, t37, t38, t39, t40, t41, t42, t43, t44, t45, t46, t47, t48, t49, t50, t51, t52, t53, t54, t55, t56, t57, t58, t59, t60, t61, t62, t63, t64, t65, t66, t67, t68, t69, t70, t71, t72, t73, t74, t75, t76, t77, t78, t79, t80, t81, t82, t83, t84, t85, t86, t87, t88, t89, t90, t91, t92, t93, t94, t95, t96, t97, t98, t99, t100, t101, t102, t103, t104, t105, t106, t107, t108, t109, t110, t111, t112, t113, t114, t115, t116, t117, t118, t119, t120, t121, t122, t123, t124, t125, t126, t127, t128, t129, t130, t131, t132, t133, t134, t135, t136, t137, t138, t139, t140, t141, t142, t143, t144, t145, t146, t147, t148, t149, t150, t151, t152, t153, t154, t155, t156, t157, t158, t159, t160, t161, t162, t163, t164, t165, t166, t167, t168, t169, t170, t171, t172, t173, t174, t175, t176, t177, t178, t179, t180, t181, t182, t183, t184, t185, t186, t187, t188, t189, t190, t191, t192, t193, t194, t195, t196, t197, t198, t199, t200, t201, t202, t203, t204, t205, t206, t207, t208, t209, t210, t211, t212, t213, t214, t215, t216, t217, t218, t219, t220, t221, t222, t223, t224, t225, t226, t227, t228, t229, t230, t231], []⟩ w := by
  show Code.wp Tryd.prog (Code.block _ (Code.loop _)) Q _ _
  have HQ := (show Hid (∀ (u7 u8 u31 u32 u33 u34 u35 u36 u37 u38 u39 u40 u41 u42 u43 u44 u45 u46 u47 u48 u49 u50 u51 u52 u53 u54 u55 u56 u57 u58 u59 u60 u61 u62 u63 u64 u65 u66 u67 u68 u69 : Value) (w' : World), Cb Wb w w' ∧ Ar w' Wb (arr .u32 64 (firstR d 16)) → Q .normal ⟨#[.slice (some ⟨g, off, none⟩) m cap, t1, t2, t3, t4, .int .i64 fr, .pointer (some ⟨Wb, 0, none⟩), u7, u8, t9, t10, t11, t12, t13, t14, t15, t16, t17, t18, t19, t20, t21, t22, t23, t24, t25, t26, t27, t28, t29, t30, u31, u32, u33, u34, u35, u36, u37, u38, u39, u40, u41, u42, u43, u44, u45, u46, u47, u48, u49, u50, u51, u52, u53, u54, u55, u56, u57, u58, u59, u60, u61, u62, u63, u64, u65, u66, u67, u68, u69, t70, t71, t72, t73, t74, t75, t76, t77, t78, t79, t80, t81, t82, t83, t84, t85, t86, t87, t88, t89, t90, t91, t92, t93, t94, t95, t96, t97, t98, t99, t100, t101, t102, t103, t104, t105, t106, t107, t108, t109, t110, t111, t112, t113, t114, t115, t116, t117, t118, t119, t120, t121, t122, t123, t124, t125, t126, t127, t128, t129, t130, t131, t132, t133, t134, t135, t136, t137, t138, t139, t140, t141, t142, t143, t144, t145, t146, t147, t148, t149, t150, t151, t152, t153, t154, t155, t156, t157, t158, t159, t160, t161, t162, t163, t164, t165, t166, t167, t168, t169, t170, t171, t172, t173, t174, t175, t176, t177, t178, t179, t180, t181, t182, t183, t184, t185, t186, t187, t188, t189, t190, t191, t192, t193, t194, t195, t196, t197, t198, t199, t200, t201, t202, t203, t204, t205, t206, t207, t208, t209, t210, t211, t212, t213, t214, t215, t216, t217, t218, t219, t220, t221, t222, t223, t224, t225, t226, t227, t228, t229, t230, t231], []⟩ w') from hQ)
  clear hQ
  have H0 : Hid (Ar w Wb (arr .u32 64 (firstR d 0)) ∧ Bs w g off m F ∧ g ≠ Wb ∧ d = fun j => F (fr + j)) := ⟨h, hb, ng, hd⟩
  clear h hb ng hd
  go_wp2_with fail
  go_loopw [7] (fun v wr => ∃ (t : Nat), v = .int .i64 t ∧ t ≤ 16 ∧ Cb Wb w wr ∧ Ar wr Wb (arr .u32 64 (firstR d t))) (fun v wr => 16 - (intOf v).toNat)
  case atStart => exact ⟨0, rfl, by omega, (Chg.refl w).cb Wb, H0.out.1⟩
  case round =>
    obtain ⟨t, rfl, ht, hch, h4⟩ := hrel
    have H : Hid (Cb Wb w wr ∧ Ar wr Wb (arr .u32 64 (firstR d t))) := ⟨hch, h4⟩
    by_cases ht6 : t < 16
    · have htd : decide ((t : Int) < 16) = true := by simp; omega
      have h3 : Bs wr g off m F := fun j hj => cell_cb hch H0.out.2.2.1 (H0.out.2.1 j hj)
      obtain ⟨t4, ht4⟩ : ∃ x : Nat, 4 * (t : Int) = x := ⟨4 * t, by omega⟩
      obtain ⟨p0, hp0⟩ : ∃ x : Nat, (fr : Int) + t4 = x := ⟨fr + t4, by omega⟩
      obtain ⟨p1, hp1⟩ : ∃ x : Nat, (p0 : Int) + 1 = x := ⟨p0 + 1, by omega⟩
      obtain ⟨p2, hp2⟩ : ∃ x : Nat, (p0 : Int) + 2 = x := ⟨p0 + 2, by omega⟩
      obtain ⟨p3, hp3⟩ : ∃ x : Nat, (p0 : Int) + 3 = x := ⟨p0 + 3, by omega⟩
      have w4 := wrap_i (x := (t4 : Int)) (by omega) (by omega)
      have v0 := wrap_i (x := (p0 : Int)) (by omega) (by omega)
      have v1 := wrap_i (x := (p1 : Int)) (by omega) (by omega)
      have v2 := wrap_i (x := (p2 : Int)) (by omega) (by omega)
      have v3 := wrap_i (x := (p3 : Int)) (by omega) (by omega)
      have l0 : (p0 : Int) < m := by omega
      have l1 : (p1 : Int) < m := by omega
      have l2 : (p2 : Int) < m := by omega
      have l3 : (p3 : Int) < m := by omega
      obtain ⟨x0, hx0⟩ : ∃ x, x = F p0 := ⟨_, rfl⟩
      obtain ⟨x1, hx1⟩ : ∃ x, x = F p1 := ⟨_, rfl⟩
      obtain ⟨x2, hx2⟩ : ∃ x, x = F p2 := ⟨_, rfl⟩
      obtain ⟨x3, hx3⟩ : ∃ x, x = F p3 := ⟨_, rfl⟩
      have c0 := h3 p0 (by omega)
      have c1 := h3 p1 (by omega)
      have c2 := h3 p2 (by omega)
      have c3 := h3 p3 (by omega)
      rw [← hx0] at c0
      rw [← hx1] at c1
      rw [← hx2] at c2
      rw [← hx3] at c3
      obtain ⟨y0, hy0⟩ : ∃ y, y = firstR d t t := ⟨_, rfl⟩
      have c4 := (h4.cell t).trans (arr_get .u32 64 (firstR d t) (i := t) (by omega))
      rw [← hy0] at c4
      have f4 := h4.frozen t
      have lt64 : (t : Int) < 64 := by omega
      have HX : Hid (x0 = d (4 * t) ∧ x1 = d (4 * t + 1) ∧ x2 = d (4 * t + 2) ∧ x3 = d (4 * t + 3)) := by
        rw [H0.out.2.2.2]
        refine ⟨?_, ?_, ?_, ?_⟩
        · rw [hx0]; congr 1; omega
        · rw [hx1]; congr 1; omega
        · rw [hx2]; congr 1; omega
        · rw [hx3]; congr 1; omega
      have hne : ¬ g = Wb := H0.out.2.2.1
      clear hx0 hx1 hx2 hx3 hy0 hch h3 h4 H0
      go_wp2_with fail
      go_region_held3 (fun w' => w'.cell? ⟨g, off + p0, none⟩ = some (.int .u8 x0) ∧ w'.cell? ⟨g, off + p1, none⟩ = some (.int .u8 x1) ∧ w'.cell? ⟨g, off + p2, none⟩ = some (.int .u8 x2) ∧ w'.cell? ⟨g, off + p3, none⟩ = some (.int .u8 x3))
        (first | exact ⟨c0, c1, c2, c3⟩ | exact ⟨cell_set _ c0 (fun e => absurd e hne), cell_set _ c1 (fun e => absurd e hne), cell_set _ c2 (fun e => absurd e hne), cell_set _ c3 (fun e => absurd e hne)⟩) (fail)
      all_goals
        go_wp2
      all_goals
        obtain ⟨e0, e1, e2, e3⟩ := HX.out
        obtain ⟨k0, k4⟩ := H.out
        go_roundw
        case rel =>
          refine ⟨t + 1, by go_num, by omega, Cb.set k0.drew _ _, ?_⟩
          have hh := k4.drew.set t (.int .u32 (wordR d t))
          rw [arr_set] at hh
          have e : upd (firstR d t) t (wordR d t) = firstR d (t + 1) := by
            funext j
            unfold upd firstR
            by_cases hj : j = t
            · subst hj; simp
            · have e : (j < t + 1) ↔ j < t := by omega
              simp [hj, e]
          rw [e, wordR, ← e0, ← e1, ← e2, ← e3] at hh
          simp only [IntKind.wrap_u32] at hh ⊢
          exact hh
        case measure => simp [intOf]; omega
    · have htd : decide ((t : Int) < 16) = false := by simp; omega
      have ht' : t = 16 := by omega
      rw [ht'] at h4
      have Z : Hid (Cb Wb w wr ∧ Ar wr Wb (arr .u32 64 (firstR d 16))) := ⟨hch, h4⟩
      clear ht' hch h4 H H0
      go_wp2
      exact HQ.out _ _ _ _ _ _ _ _ _ _ _ _ _ _ _ _ _ _ _ _ _ _ _ _ _ _ _ _ _ _ _ _ _ _ _ _ _ _ _ _ _ _ Z.out
end Go.Proofs.YtijpdhjlafihkaaDoor
