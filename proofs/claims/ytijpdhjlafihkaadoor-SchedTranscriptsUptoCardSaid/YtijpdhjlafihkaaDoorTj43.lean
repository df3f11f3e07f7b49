/-
  The document's loop over the words behind the sixteenth (64 bits).
-/
import Derived.Test.YtijpdhjlafihkaaDoorTj35
namespace Go.Proofs.YtijpdhjlafihkaaDoor
open Go.RowKit
set_option linter.unusedVariables false
set_option maxRecDepth 100000

set_option maxRecDepth 100000 in
set_option maxHeartbeats 8000000 in
/-- The words behind the sixteenth. -/
theorem more64_any {Q : Exit → Act → World → Prop} {t0 t1 t2 t3 t4 t5 t6 t8 t9 t11 t12 t13 t14 t15 t16 t17 t18 t19 t20 t21 t22 t23 t24 t25 t26 t27 t28 t29 t30 t31 t32 t33 t34 t35 t36 t37 t38 t39 t40 t41 t42 t43 t44 t45 t46 t47 t48 t49 t50 t51 t52 t53 t54 t55 t56 t57 t58 t59 t60 t61 t62 t63 t64 t65 t66 t67 t68 t69 t70 t71 t72 t73 t74 t75 t76 t77 t78 t79 t80 t81 t82 t83 t84 t85 t86 t87 t88 t89 t90 t91 t92 t93 t94 t95 t96 t97 t98 t99 t100 t101 t102 t103 t104 t105 t106 t107 t108 t109 t110 t111 t112 t113 t114 t115 t116 t117 t118 t119 t120 t121 t122 t123 t124 t125 t126 t127 t128 t129 t130 t131 t132 t133 t134 t135 t136 t137 t138 t139 t140 t141 t142 t143 t144 t145 t146 t147 t148 t149 t150 t151 t152 t153 t154 t155 t156 t157 t158 t159 t160 t161 t162 t163 t164 t165 t166 t167 t168 t169 t170 t171 t172 t173 t174 t175 t176 t177 t178 t179 t180 t181 t182 t183 t184 t185 t186 t187 t188 t189 t190 t191 t192 t193 t194 t195 t196 t197 t198 t199 t200 t201 t202 t203 t204 t205 t206 t207 t208 t209 t210 : Value} (Wb : Nat) (d : Nat → Int) (w : World) (h : Ar w Wb (arr .u64 80 (firstW .u64 8 d 16)))
    (hQ : ∀ (u10 u11 u12 u57 u58 u59 u60 u61 u62 u63 u64 u65 u66 u67 u68 u69 u70 u71 u72 u73 u74 u75 u76 u77 u78 u79 u80 u81 u82 u83 u84 u85 u86 u87 u88 u89 u90 u91 u92 u93 u94 u95 u96 u97 : Value) (w' : World), Cb Wb w w' ∧ Ar w' Wb (arr .u64 80 (words64 d)) → Q .normal ⟨#[t0, t1, t2, t3, t4, t5, t6, .pointer (some ⟨Wb, 0, none⟩), t8, t9, u10, u11, u12, t13, t14, t15, t16, t17, t18, t19, t20, t21, t22, t23, t24, t25, t26, t27, t28, t29, t30, t31, t32, t33, t34, t35, t36, t37, t38, t39, t40, t41, t42, t43, t44, t45, t46, t47, t48, t49, t50, t51, t52, t53, t54, t55, t56, u57, u58, u59, u60, u61, u62, u63, u64, u65, u66, u67, u68, u69, u70, u71, u72, u73, u74, u75, u76, u77, u78, u79, u80, u81, u82, u83, u84, u85, u86, u87, u88, u89, u90, u91, u92, u93, u94, u95, u96, u97, t98, t99, t100, t101, t102, t103, t104, t105, t106, t107, t108, t109, t110, t111, t112, t113, t114, t115, t116, t117, t118, t119, t120, t121, t122, t123, t124, t125, t126, t127, t128, t129, t130, t131, t132, t133, t134, t135, t136, t137, t138, t139, t140, t141, t142, t143, t144, t145, t146, t147, t148, t149, t150, t151, t152, t153, t154, t155, t156, t157, t158, t159, t160, t161, t162, t163, t164, t165, t166, t167, t168, t169, t170, t171, t172, t173, t174, t175, t176, t177, t178, t179, t180, t181, t182, t183, t184, t185, t186, t187, t188, t189, t190, t191, t192, t193, t194, t195, t196, t197, t198, t199, t200, t201, t202, t203, t204, t205, t206, t207, t208, t209, t210], []⟩ w') :
    (blk Tryd.f48 6).wp Tryd.prog Q ⟨#[t0, t1, t2, t3, t4, t5, t6, .pointer (some ⟨Wb, 0, none⟩), t8, t9, .int .i64 16, t11, t12, t13, t14, t15, t16, t17, t18, t19, t20, t21, t22, t23, t24, t25, t26, t27, t28, t29, t30, t31, t32, t33, t34, t35, t36, t37, t38, t39, t40, t41, t42, t43, t44, t45, t46, t47, t48, t49, t50, t51, t52, t53, t54, t55, t56, t57, t58, t59, t60, t61, t62, t63, t64, t65, t66, t67, t68, t69, t70, t71, t72, t73, t74, t75, t76, t77, t78, t79, t80, t81, t82, t83, t84, t85, t86, t87, t88, t89, t90, t91, t92, t93, t94, t95, t96, t97, t98, t99, t100, t101, t102, t103, t104, t105, t106, t107, t108, t109, t110, t111, t112, t113, t114, t115, t116, t117, t118, t119, t120, t121, t122, t123, t124, t125, t126, t127, t128, t129, t130, t131, t132, t133, t134, t135, t136, t137, t138, t139, t140, t141, t142, t143, t144, t145, t146, t147, t148, t149, t150, t151, t152, t153, t154, t155, t156, t157, t158, t159, t160, t161, t162, t163, t164, t165, t166, t167, t168, t169, t170, t171, t172, t173, t174, t175, t176, t177, t178, t179, t180, t181, t182, t183, t184, t185, t186, t187, t188, t189, t190, t191, t192, t193, t194, t195, t196, t197, t198, t199, t200, t201, t202, t203, t204, t205, t206, t207, t208, t209, t210], []⟩ w := by
  show Code.wp Tryd.prog (Code.block _ (Code.loop _)) Q _ _
  have HQ := (show Hid (∀ (u10 u11 u12 u57 u58 u59 u60 u61 u62 u63 u64 u65 u66 u67 u68 u69 u70 u71 u72 u73 u74 u75 u76 u77 u78 u79 u80 u81 u82 u83 u84 u85 u86 u87 u88 u89 u90 u91 u92 u93 u94 u95 u96 u97 : Value) (w' : World), Cb Wb w w' ∧ Ar w' Wb (arr .u64 80 (words64 d)) → Q .normal ⟨#[t0, t1, t2, t3, t4, t5, t6, .pointer (some ⟨Wb, 0, none⟩), t8, t9, u10, u11, u12, t13, t14, t15, t16, t17, t18, t19, t20, t21, t22, t23, t24, t25, t26, t27, t28, t29, t30, t31, t32, t33, t34, t35, t36, t37, t38, t39, t40, t41, t42, t43, t44, t45, t46, t47, t48, t49, t50, t51, t52, t53, t54, t55, t56, u57, u58, u59, u60, u61, u62, u63, u64, u65, u66, u67, u68, u69, u70, u71, u72, u73, u74, u75, u76, u77, u78, u79, u80, u81, u82, u83, u84, u85, u86, u87, u88, u89, u90, u91, u92, u93, u94, u95, u96, u97, t98, t99, t100, t101, t102, t103, t104, t105, t106, t107, t108, t109, t110, t111, t112, t113, t114, t115, t116, t117, t118, t119, t120, t121, t122, t123, t124, t125, t126, t127, t128, t129, t130, t131, t132, t133, t134, t135, t136, t137, t138, t139, t140, t141, t142, t143, t144, t145, t146, t147, t148, t149, t150, t151, t152, t153, t154, t155, t156, t157, t158, t159, t160, t161, t162, t163, t164, t165, t166, t167, t168, t169, t170, t171, t172, t173, t174, t175, t176, t177, t178, t179, t180, t181, t182, t183, t184, t185, t186, t187, t188, t189, t190, t191, t192, t193, t194, t195, t196, t197, t198, t199, t200, t201, t202, t203, t204, t205, t206, t207, t208, t209, t210], []⟩ w') from hQ)
  clear hQ
  have H0 : Hid (Ar w Wb (arr .u64 80 (moreW .u64 (turn2 .u64 1 8 7) (turn2 .u64 19 61 6) (firstW .u64 8 d 16) 0))) := h
  clear h
  go_wp2_with fail
  go_loopw [10] (fun v wr => ∃ (i : Nat), v = .int .i64 ((16 + i : Nat) : Int) ∧ i ≤ 64 ∧ Cb Wb w wr ∧ Ar wr Wb (arr .u64 80 (moreW .u64 (turn2 .u64 1 8 7) (turn2 .u64 19 61 6) (firstW .u64 8 d 16) i))) (fun v wr => 80 - (intOf v).toNat)
  case atStart => exact ⟨0, rfl, by omega, (Chg.refl w).cb Wb, H0.out⟩
  case round =>
    clear H0
    obtain ⟨i0, rfl, hi0, hch, h4⟩ := hrel
    have H : Hid (Cb Wb w wr ∧ Ar wr Wb (arr .u64 80 (moreW .u64 (turn2 .u64 1 8 7) (turn2 .u64 19 61 6) (firstW .u64 8 d 16) i0))) := ⟨hch, h4⟩
    obtain ⟨i, hi⟩ : ∃ i : Nat, i = 16 + i0 := ⟨_, rfl⟩
    rw [← hi]
    by_cases hi64 : i < 80
    · have hid : decide ((i : Int) < 80) = true := by simp; omega
      obtain ⟨V, hV⟩ : ∃ V, V = moreW .u64 (turn2 .u64 1 8 7) (turn2 .u64 19 61 6) (firstW .u64 8 d 16) i0 := ⟨_, rfl⟩
      rw [← hV] at h4
      obtain ⟨i2, hi2⟩ : ∃ q : Nat, (i : Int) - 2 = q := ⟨i - 2, by omega⟩
      obtain ⟨i7, hi7⟩ : ∃ q : Nat, (i : Int) - 7 = q := ⟨i - 7, by omega⟩
      obtain ⟨i15, hi15⟩ : ∃ q : Nat, (i : Int) - 15 = q := ⟨i - 15, by omega⟩
      obtain ⟨i16, hi16⟩ : ∃ q : Nat, (i : Int) - 16 = q := ⟨i - 16, by omega⟩
      obtain ⟨x2, hx2⟩ : ∃ x, x = V i2 := ⟨_, rfl⟩
      obtain ⟨x7, hx7⟩ : ∃ x, x = V i7 := ⟨_, rfl⟩
      obtain ⟨x15, hx15⟩ : ∃ x, x = V i15 := ⟨_, rfl⟩
      obtain ⟨x16, hx16⟩ : ∃ x, x = V i16 := ⟨_, rfl⟩
      obtain ⟨x0, hx0⟩ : ∃ x, x = V i := ⟨_, rfl⟩
      have l0 : (i : Int) < 80 := by omega
      have l2 : (i2 : Int) < 80 := by omega
      have l7 : (i7 : Int) < 80 := by omega
      have l15 : (i15 : Int) < 80 := by omega
      have l16 : (i16 : Int) < 80 := by omega
      have v2 := wrap_i (x := (i2 : Int)) (by omega) (by omega)
      have v7 := wrap_i (x := (i7 : Int)) (by omega) (by omega)
      have v15 := wrap_i (x := (i15 : Int)) (by omega) (by omega)
      have v16 := wrap_i (x := (i16 : Int)) (by omega) (by omega)
      have g2 := (h4.cell i2).trans (arr_get .u64 80 V (by omega))
      have g7 := (h4.cell i7).trans (arr_get .u64 80 V (by omega))
      have g15 := (h4.cell i15).trans (arr_get .u64 80 V (by omega))
      have g16 := (h4.cell i16).trans (arr_get .u64 80 V (by omega))
      have g0 := (h4.cell i).trans (arr_get .u64 80 V (i := i) (by omega))
      rw [← hx2] at g2
      rw [← hx7] at g7
      rw [← hx15] at g15
      rw [← hx16] at g16
      rw [← hx0] at g0
      have f0 := h4.frozen i
      have HVx : Hid (V = moreW .u64 (turn2 .u64 1 8 7) (turn2 .u64 19 61 6) (firstW .u64 8 d 16) i0 ∧ i = 16 + i0) := ⟨hV, hi⟩
      have HX : Hid (x2 = V (i - 2) ∧ x7 = V (i - 7) ∧ x15 = V (i - 15) ∧ x16 = V (i - 16)) := by
        have e2 : i - 2 = i2 := by omega
        have e7 : i - 7 = i7 := by omega
        have e15 : i - 15 = i15 := by omega
        have e16 : i - 16 = i16 := by omega
        exact ⟨by rw [hx2, e2], by rw [hx7, e7], by rw [hx15, e15], by rw [hx16, e16]⟩
      have n7 : ¬ i7 = i := by omega
      have n16 : ¬ i16 = i := by omega
      clear hx0 hx2 hx7 hx15 hx16 hV hi hch h4
      go_wp2_with fail
      go_region_held3 (fun w' => w'.cell? ⟨Wb, i7, none⟩ = some (.int .u64 x7) ∧ w'.cell? ⟨Wb, i16, none⟩ = some (.int .u64 x16))
        (first | exact ⟨g7, g16⟩ | exact ⟨cell_set _ g7 (fun _ => n7), cell_set _ g16 (fun _ => n16)⟩)
        (first
        | (go_at_call_of 65 (Value.int .i64 19); (refine (refTurn64_any x2 19 _ (by decide) (by decide)).mono ?_; rintro e wA ⟨rfl, mA, rfl⟩))
        | (go_at_call_of 65 (Value.int .i64 61); (refine (refTurn64_any x2 61 _ (by decide) (by decide)).mono ?_; rintro e wA ⟨rfl, mA, rfl⟩))
        | (go_at_call_of 65 (Value.int .i64 1); (refine (refTurn64_any x15 1 _ (by decide) (by decide)).mono ?_; rintro e wA ⟨rfl, mA, rfl⟩))
        | (go_at_call_of 65 (Value.int .i64 8); (refine (refTurn64_any x15 8 _ (by decide) (by decide)).mono ?_; rintro e wA ⟨rfl, mA, rfl⟩)))
      all_goals go_wp2
      all_goals
        obtain ⟨hV, hi⟩ := HVx.out
        obtain ⟨e2, e7, e15, e16⟩ := HX.out
        obtain ⟨k0, k4⟩ := H.out
        refine ⟨⟨i0 + 1, by rw [hi]; go_num, by omega, Cb.set (k0.drewN _) _ _, ?_⟩, ?_⟩
        · rw [← hV] at k4
          rw [moreW, ← hV, ← hi, nextW, ← e2, ← e7, ← e15, ← e16]
          simp only [IntKind.wrap_u64, turn2, show (2 : Int) ^ 6 = 64 from rfl, show (2 : Int) ^ 7 = 128 from rfl]
          exact Ar.setN k4 i _
        · simp [intOf]; omega
    · have hid : decide ((i : Int) < 80) = false := by simp; omega
      have hi48 : i0 = 64 := by omega
      rw [hi48] at h4
      have Z : Hid (Cb Wb w wr ∧ Ar wr Wb (arr .u64 80 (words64 d))) := ⟨hch, h4⟩
      clear hi48 hch h4 H hi
      go_wp2
      exact HQ.out _ _ _ _ _ _ _ _ _ _ _ _ _ _ _ _ _ _ _ _ _ _ _ _ _ _ _ _ _ _ _ _ _ _ _ _ _ _ _ _ _ _ _ _ _ Z.out
end Go.Proofs.YtijpdhjlafihkaaDoor
