/-
  The document's loop over the first sixteen words (64 bits).
-/
import Derived.Test.YtijpdhjlafihkaaDoorTj35
namespace Go.Proofs.YtijpdhjlafihkaaDoor
open Go.RowKit
set_option linter.unusedVariables false
set_option maxRecDepth 100000

set_option maxRecDepth 100000 in
set_option maxHeartbeats 8000000 in
/-- The first sixteen words. -/
theorem first64_any {Q : Exit → Act → World → Prop} {t1 t2 t3 t4 t5 t9 t10 t11 t12 t13 t14 t15 t16 t17 t18 t19 t20 t21 t22 t23 t24 t25 t26 t27 t28 t29 t30 t31 t32 t33 t34 t35 t36 t37 t38 t39 t40 t41 t42 t43 t44 t45 t46 t47 t48 t49 t50 t51 t52 t53 t54 t55 t56 t57 t58 t59 t60 t61 t62 t63 t64 t65 t66 t67 t68 t69 t70 t71 t72 t73 t74 t75 t76 t77 t78 t79 t80 t81 t82 t83 t84 t85 t86 t87 t88 t89 t90 t91 t92 t93 t94 t95 t96 t97 t98 t99 t100 t101 t102 t103 t104 t105 t106 t107 t108 t109 t110 t111 t112 t113 t114 t115 t116 t117 t118 t119 t120 t121 t122 t123 t124 t125 t126 t127 t128 t129 t130 t131 t132 t133 t134 t135 t136 t137 t138 t139 t140 t141 t142 t143 t144 t145 t146 t147 t148 t149 t150 t151 t152 t153 t154 t155 t156 t157 t158 t159 t160 t161 t162 t163 t164 t165 t166 t167 t168 t169 t170 t171 t172 t173 t174 t175 t176 t177 t178 t179 t180 t181 t182 t183 t184 t185 t186 t187 t188 t189 t190 t191 t192 t193 t194 t195 t196 t197 t198 t199 t200 t201 t202 t203 t204 t205 t206 t207 t208 t209 t210 : Value} (g off m cap fr Wb : Nat) (F d : Nat → Int) (w : World) (h : Ar w Wb (arr .u64 80 fun _ => 0)) (hb : Bs w g off m F) (ng : g ≠ Wb) (hd : d = fun j => F (fr + j)) (hfm : fr + 128 ≤ m) (hmm : m ≤ 140737488354048)
    (hQ : ∀ (u8 u9 u32 u33 u34 u35 u36 u37 u38 u39 u40 u41 u42 u43 u44 u45 u46 u47 u48 u49 u50 u51 u52 u53 u54 u55 u56 : Value) (w' : World), Cb Wb w w' ∧ Ar w' Wb (arr .u64 80 (firstW .u64 8 d 16)) → Q .normal ⟨#[.slice (some ⟨g, off, none⟩) m cap, t1, t2, t3, t4, t5, .int .i64 fr, .pointer (some ⟨Wb, 0, none⟩), u8, u9, t10, t11, t12, t13, t14, t15, t16, t17, t18, t19, t20, t21, t22, t23, t24, t25, t26, t27, t28, t29, t30, t31, u32, u33, u34, u35, u36, u37, u38, u39, u40, u41, u42, u43, u44, u45, u46, u47, u48, u49, u50, u51, u52, u53, u54, u55, u56, t57, t58, t59, t60, t61, t62, t63, t64, t65, t66, t67, t68, t69, t70, t71, t72, t73, t74, t75, t76, t77, t78, t79, t80, t81, t82, t83, t84, t85, t86, t87, t88, t89, t90, t91, t92, t93, t94, t95, t96, t97, t98, t99, t100, t101, t102, t103, t104, t105, t106, t107, t108, t109, t110, t111, t112, t113, t114, t115, t116, t117, t118, t119, t120, t121, t122, t123, t124, t125, t126, t127, t128, t129, t130, t131, t132, t133, t134, t135, t136, t137, t138, t139, t140, t141, t142, t143, t144, t145, t146, t147, t148, t149, t150, t151, t152, t153, t154, t155, t156, t157, t158, t159, t160, t161, t162, t163, t164, t165, t166, t167, t168, t169, t170, t171, t172, t173, t174, t175, t176, t177, t178, t179, t180, t181, t182, t183, t184, t185, t186, t187, t188, t189, t190, t191, t192, t193, t194, t195, t196, t197, t198, t199, t200, t201, t202, t203, t204, t205, t206, t207, t208, t209, t210], []⟩ w') :
    (blk Tryd.f48 2).wp Tryd.prog Q ⟨#[.slice (some ⟨g, off, none⟩) m cap, t1, t2, t3, t4, t5, .int .i64 fr, .pointer (some ⟨Wb, 0, none⟩), .int .i64 0, t9, t10, t11, t12, t13, t14, t15, t16, t17, t18, t19, t20, t21, t22, t23, t24, t25, t26, t27, t28, t29, t30, t31, t32, t33, t34, t35, t36, t37, t38, t39, t40, t41, t42, t43, t44, t45, t46, t47, t48, t49, t50, t51, t52, t53, t54, t55, t56, t57, t58, t59, t60, t61, t62, t63, t64, t65, t66, t67, t68, t69, t70, t71, t72, t73, t74, t75, t76, t77, t78, t79, t80, t81, t82, t83, t84, t85, t86, t87, t88, t89, t90, t91, t92, t93, t94, t95, t96, t97, t98, t99, t100, t101, t102, t103, t104, t105, t106, t107, t108, t109, t110, t111, t112, t113, t114, t115, t116, t117, t118, t119, t120, t121, t122, t123, t124, t125, t126, t127, t128, t129, t130, t131, t132, t133, t134, t135, t136, t137, t138, t139, t140, t141, t142, t143, t144, t145, t146, t147, t148, t149, t150, t151, t152, t153, t154, t155, t156, t157, t158, t159, t160, t161, t162, t163, t164, t165, t166, t167, t168, t169, t170, t171, t172, t173, t174, t175, t176, t177, t178, t179, t180, t181, t182, t183, t184, t185, t186, t187, t188, t189, t190, t191, t192, t193, t194, t195, t196, t197, t198, t199, t200, t201, t202, t203, t204, t205, t206, t207, t208, t209, t210], []⟩ w := by
  show Code.wp Tryd.prog (Code.block _ (Code.loop _)) Q _ _
  have HQ := (show Hid (∀ (u8 u9 u32 u33 u34 u35 u36 u37 u38 u39 u40 u41 u42 u43 u44 u45 u46 u47 u48 u49 u50 u51 u52 u53 u54 u55 u56 : Value) (w' : World), Cb Wb w w' ∧ Ar w' Wb (arr .u64 80 (firstW .u64 8 d 16)) → Q .normal ⟨#[.slice (some ⟨g, off, none⟩) m cap, t1, t2, t3, t4, t5, .int .i64 fr, .pointer (some ⟨Wb, 0, none⟩), u8, u9, t10, t11, t12, t13, t14, t15, t16, t17, t18, t19, t20, t21, t22, t23, t24, t25, t26, t27, t28, t29, t30, t31, u32, u33, u34, u35, u36, u37, u38, u39, u40, u41, u42, u43, u44, u45, u46, u47, u48, u49, u50, u51, u52, u53, u54, u55, u56, t57, t58, t59, t60, t61, t62, t63, t64, t65, t66, t67, t68, t69, t70, t71, t72, t73, t74, t75, t76, t77, t78, t79, t80, t81, t82, t83, t84, t85, t86, t87, t88, t89, t90, t91, t92, t93, t94, t95, t96, t97, t98, t99, t100, t101, t102, t103, t104, t105, t106, t107, t108, t109, t110, t111, t112, t113, t114, t115, t116, t117, t118, t119, t120, t121, t122, t123, t124, t125, t126, t127, t128, t129, t130, t131, t132, t133, t134, t135, t136, t137, t138, t139, t140, t141, t142, t143, t144, t145, t146, t147, t148, t149, t150, t151, t152, t153, t154, t155, t156, t157, t158, t159, t160, t161, t162, t163, t164, t165, t166, t167, t168, t169, t170, t171, t172, t173, t174, t175, t176, t177, t178, t179, t180, t181, t182, t183, t184, t185, t186, t187, t188, t189, t190, t191, t192, t193, t194, t195, t196, t197, t198, t199, t200, t201, t202, t203, t204, t205, t206, t207, t208, t209, t210], []⟩ w') from hQ)
  clear hQ
  have H0 : Hid (Ar w Wb (arr .u64 80 (firstW .u64 8 d 0)) ∧ Bs w g off m F ∧ g ≠ Wb ∧ d = fun j => F (fr + j)) := ⟨h, hb, ng, hd⟩
  clear h hb ng hd
  go_wp2_with fail
  go_loopw [8] (fun v wr => ∃ (t : Nat), v = .int .i64 t ∧ t ≤ 16 ∧ Cb Wb w wr ∧ Ar wr Wb (arr .u64 80 (firstW .u64 8 d t))) (fun v wr => 16 - (intOf v).toNat)
  case atStart => exact ⟨0, rfl, by omega, (Chg.refl w).cb Wb, H0.out.1⟩
  case round =>
    obtain ⟨t, rfl, ht, hch, h4⟩ := hrel
    have H : Hid (Cb Wb w wr ∧ Ar wr Wb (arr .u64 80 (firstW .u64 8 d t))) := ⟨hch, h4⟩
    by_cases ht6 : t < 16
    · have htd : decide ((t : Int) < 16) = true := by simp; omega
      clear hch h4
      go_wp2_with fail
      obtain ⟨w7, hw7⟩ : ∃ w7, w7 = wr := ⟨_, rfl⟩
      subst hw7
      go_loopw [9] (fun v9 wr => ∃ (c : Nat), v9 = .int .i64 c ∧ c ≤ 8 ∧ Cb Wb w wr ∧ Ar wr Wb (arr .u64 80 (upd (firstW .u64 8 d t) t (joinW .u64 (fun i => d (8 * t + i)) c)))) (fun v9 wr => 8 - (intOf v9).toNat)
      case atStart =>
        obtain ⟨k0, k4⟩ := H.out
        refine ⟨0, rfl, by omega, k0, ?_⟩
        have e : upd (firstW .u64 8 d t) t (joinW .u64 (fun i => d (8 * t + i)) 0) = firstW .u64 8 d t := by
          funext j
          unfold upd
          split
          · next h => subst h; simp [joinW, firstW]
          · rfl
        rw [e]
        exact k4
      case round =>
        clear H
        obtain ⟨c, rfl, hc, hch, h4⟩ := hrel
        have H : Hid (Cb Wb w wr ∧ Ar wr Wb (arr .u64 80 (upd (firstW .u64 8 d t) t (joinW .u64 (fun i => d (8 * t + i)) c)))) := ⟨hch, h4⟩
        by_cases hc8 : c < 8
        · have hcd : decide ((c : Int) < 8) = true := by simp; omega
          have h3 : Bs wr g off m F := fun j hj => cell_cb hch H0.out.2.2.1 (H0.out.2.1 j hj)
          obtain ⟨t8, ht8⟩ : ∃ x : Nat, 8 * (t : Int) = x := ⟨8 * t, by omega⟩
          obtain ⟨p0, hp0⟩ : ∃ x : Nat, (fr : Int) + t8 = x := ⟨fr + t8, by omega⟩
          obtain ⟨p1, hp1⟩ : ∃ x : Nat, (p0 : Int) + c = x := ⟨p0 + c, by omega⟩
          have w8 := wrap_i (x := (t8 : Int)) (by omega) (by omega)
          have v0 := wrap_i (x := (p0 : Int)) (by omega) (by omega)
          have v1 := wrap_i (x := (p1 : Int)) (by omega) (by omega)
          have l1 : (p1 : Int) < m := by omega
          obtain ⟨x, hx⟩ : ∃ x, x = F p1 := ⟨_, rfl⟩
          obtain ⟨y, hy⟩ : ∃ y, y = joinW .u64 (fun i => d (8 * t + i)) c := ⟨_, rfl⟩
          have c0 := h3 p1 (by omega)
          rw [← hx] at c0
          have c1 := (h4.cell t).trans (arr_get .u64 80 _ (i := t) (by omega))
          rw [upd_same, ← hy] at c1
          have f1 := h4.frozen t
          have lt80 : (t : Int) < 80 := by omega
          have HX : Hid (x = d (8 * t + c) ∧ y = joinW .u64 (fun i => d (8 * t + i)) c) := by
            refine ⟨?_, hy⟩
            rw [hx, H0.out.2.2.2]
            show F p1 = F (fr + (8 * t + c))
            congr 1
            omega
          have hne : ¬ g = Wb := H0.out.2.2.1
          clear hx hy hch h3 h4 H0
          go_wp2_with fail
          refine wp_region_noPanic ?_
          go_region_with (fail)
          all_goals refine NoPanic.normal ?_
          all_goals go_wp2
          all_goals
            obtain ⟨k0, k4⟩ := H.out
            go_roundw
            case rel =>
              refine ⟨c + 1, by go_num, by omega, Cb.set k0.drew _ _, ?_⟩
              have hh := k4.drew.set t (.int .u64 (Go.bits .or .u64 (IntKind.u64.wrap (y * 256)) (IntKind.u64.wrap x)))
              rw [arr_set, upd_upd] at hh
              have e : joinW .u64 (fun i => d (8 * t + i)) (c + 1) = Go.bits .or .u64 (IntKind.u64.wrap (y * 256)) (IntKind.u64.wrap x) := by rw [joinW, HX.out.1, HX.out.2]
              rw [e]
              simp only [IntKind.wrap_u64] at hh ⊢
              exact hh
            case measure => simp [intOf]; omega
        · have hcd : decide ((c : Int) < 8) = false := by simp; omega
          have hc8' : c = 8 := by omega
          have HC8 : Hid (c = 8) := hc8'
          clear hc8' hch h4
          go_wp2
          all_goals
            obtain ⟨k0, k4⟩ := H.out
            go_roundw
            case rel =>
              refine ⟨t + 1, by go_num, by omega, k0, ?_⟩
              rw [← firstW_next]
              rw [HC8.out] at k4
              exact k4
            case measure => simp [intOf]; omega
    · have htd : decide ((t : Int) < 16) = false := by simp; omega
      have ht' : t = 16 := by omega
      rw [ht'] at h4
      have Z : Hid (Cb Wb w wr ∧ Ar wr Wb (arr .u64 80 (firstW .u64 8 d 16))) := ⟨hch, h4⟩
      clear ht' hch h4 H H0
      go_wp2
      exact HQ.out _ _ _ _ _ _ _ _ _ _ _ _ _ _ _ _ _ _ _ _ _ _ _ _ _ _ _ _ Z.out
end Go.Proofs.YtijpdhjlafihkaaDoor
