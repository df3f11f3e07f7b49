/-
  The law's loops that count bytes on.
-/
import Derived.Test.YtbnonbhlfiadaaaDoorJn
namespace Go.Proofs.YtbnonbhlfiadaaaDoor
open Go.RowKit
set_option linter.unusedVariables false

set_option maxRecDepth 100000 in
set_option maxHeartbeats 4000000 in
/-- Each byte of a slice is counted on. -/
theorem inc2_any {Q : Exit → Act → World → Prop} {t0 t1 t2 t3 t4 t5 t6 t7 t8 t9 t10 t13 t14 t15 t16 t17 t18 t19 t20 t21 t22 t23 t24 t25 t26 t27 t28 t29 t30 t31 t32 t33 t34 t35 t36 t37 t38 t39 t40 t41 t42 t43 t44 t45 t46 t47 t48 t49 t50 t51 t52 t53 t54 t55 t56 t57 t58 t59 t60 t61 t62 t63 t64 t65 t66 t67 t68 t69 t70 t71 t72 t73 t74 t75 t76 t77 t78 t79 t80 t81 t82 t83 t84 t85 t86 t87 t88 t89 t90 t91 t92 t93 t94 t95 t96 t97 t98 t99 t100 t101 t102 t103 t104 t105 t106 t107 t108 t109 t110 t111 t112 t113 t114 t115 t116 t117 t118 t119 t120 t121 t122 t123 t124 t125 t126 t127 t128 t129 t130 t131 t132 t133 t134 t135 t136 : Value} (so : Option Addr) (n cap : Nat) (w : World) (h : n = 0 ∨ ∃ g off, so = some ⟨g, off, none⟩ ∧ BRow w g off n) (hn : n < 4611686018427387904)
    (hQ : ∀ (u12 u51 u52 u53 u54 u55 u56 u57 u58 u59 u60 u61 u62 : Value) (w' : World), Ap.Chg (fun k => (Value.slice so n cap).ownBlock = some k) w w' → Q .normal ⟨#[t0, t1, t2, t3, t4, t5, t6, t7, t8, t9, t10, .slice so n cap, u12, t13, t14, t15, t16, t17, t18, t19, t20, t21, t22, t23, t24, t25, t26, t27, t28, t29, t30, t31, t32, t33, t34, t35, t36, t37, t38, t39, t40, t41, t42, t43, t44, t45, t46, t47, t48, t49, t50, u51, u52, u53, u54, u55, u56, u57, u58, u59, u60, u61, u62, t63, t64, t65, t66, t67, t68, t69, t70, t71, t72, t73, t74, t75, t76, t77, t78, t79, t80, t81, t82, t83, t84, t85, t86, t87, t88, t89, t90, t91, t92, t93, t94, t95, t96, t97, t98, t99, t100, t101, t102, t103, t104, t105, t106, t107, t108, t109, t110, t111, t112, t113, t114, t115, t116, t117, t118, t119, t120, t121, t122, t123, t124, t125, t126, t127, t128, t129, t130, t131, t132, t133, t134, t135, t136], []⟩ w') :
    (blk Tryd.f4 2).wp Tryd.prog Q ⟨#[t0, t1, t2, t3, t4, t5, t6, t7, t8, t9, t10, .slice so n cap, .int .i64 0, t13, t14, t15, t16, t17, t18, t19, t20, t21, t22, t23, t24, t25, t26, t27, t28, t29, t30, t31, t32, t33, t34, t35, t36, t37, t38, t39, t40, t41, t42, t43, t44, t45, t46, t47, t48, t49, t50, t51, t52, t53, t54, t55, t56, t57, t58, t59, t60, t61, t62, t63, t64, t65, t66, t67, t68, t69, t70, t71, t72, t73, t74, t75, t76, t77, t78, t79, t80, t81, t82, t83, t84, t85, t86, t87, t88, t89, t90, t91, t92, t93, t94, t95, t96, t97, t98, t99, t100, t101, t102, t103, t104, t105, t106, t107, t108, t109, t110, t111, t112, t113, t114, t115, t116, t117, t118, t119, t120, t121, t122, t123, t124, t125, t126, t127, t128, t129, t130, t131, t132, t133, t134, t135, t136], []⟩ w := by
  show Code.wp Tryd.prog (Code.block _ (Code.loop _)) Q _ _
  have HQ : Hid (∀ (u12 u51 u52 u53 u54 u55 u56 u57 u58 u59 u60 u61 u62 : Value) (w' : World), Ap.Chg (fun k => (Value.slice so n cap).ownBlock = some k) w w' → Q .normal ⟨#[t0, t1, t2, t3, t4, t5, t6, t7, t8, t9, t10, .slice so n cap, u12, t13, t14, t15, t16, t17, t18, t19, t20, t21, t22, t23, t24, t25, t26, t27, t28, t29, t30, t31, t32, t33, t34, t35, t36, t37, t38, t39, t40, t41, t42, t43, t44, t45, t46, t47, t48, t49, t50, u51, u52, u53, u54, u55, u56, u57, u58, u59, u60, u61, u62, t63, t64, t65, t66, t67, t68, t69, t70, t71, t72, t73, t74, t75, t76, t77, t78, t79, t80, t81, t82, t83, t84, t85, t86, t87, t88, t89, t90, t91, t92, t93, t94, t95, t96, t97, t98, t99, t100, t101, t102, t103, t104, t105, t106, t107, t108, t109, t110, t111, t112, t113, t114, t115, t116, t117, t118, t119, t120, t121, t122, t123, t124, t125, t126, t127, t128, t129, t130, t131, t132, t133, t134, t135, t136], []⟩ w') := hQ
  clear hQ
  have H0 : Hid (n = 0 ∨ ∃ g off, so = some ⟨g, off, none⟩ ∧ BRow w g off n) := h
  clear h
  go_wp2_with fail
  go_loopw [12] (fun v wr => ∃ (i : Nat), v = .int .i64 i ∧ i ≤ n ∧ Ap.Chg (fun k => (Value.slice so n cap).ownBlock = some k) w wr ∧ (n = 0 ∨ ∃ g off, so = some ⟨g, off, none⟩ ∧ BRow wr g off n)) (fun v wr => n - (intOf v).toNat)
  case atStart => exact ⟨0, rfl, by omega, Ap.Chg.refl _ w, H0.out⟩
  case round =>
    clear H0
    obtain ⟨i, rfl, hi, hch, hb⟩ := hrel
    have H : Hid (Ap.Chg (fun k => (Value.slice so n cap).ownBlock = some k) w wr) := hch
    clear hch
    by_cases hin : i < n
    · have hid : decide ((i : Int) < n) = true := by simp; omega
      have li : (i : Int) < n := by omega
      rcases hb with hb | ⟨g, off, rfl, hb⟩
      · exact absurd hin (by omega)
      · obtain ⟨⟨x, c0⟩, f0⟩ := hb.cell hin
        have HB : Hid (BRow wr g off n) := hb
        clear hb
        go_wp2
        go_roundw
        case rel => exact ⟨i + 1, by go_num, by omega, H.out.setCell (p := ⟨g, off + i, none⟩) (fun _ => rfl) _, .inr ⟨g, off, rfl, HB.out.set _ _⟩⟩
        case measure => simp [intOf]; omega
    · have hid : decide ((i : Int) < n) = false := by simp; omega
      clear hb
      go_wp2
      exact HQ.out _ _ _ _ _ _ _ _ _ _ _ _ _ _ H.out
set_option maxRecDepth 100000 in
set_option maxHeartbeats 4000000 in
/-- Each byte of a slice is counted on. -/
theorem inc4_any {Q : Exit → Act → World → Prop} {t0 t1 t2 t3 t4 t5 t6 t7 t8 t9 t10 t11 t12 t15 t16 t17 t18 t19 t20 t21 t22 t23 t24 t25 t26 t27 t28 t29 t30 t31 t32 t33 t34 t35 t36 t37 t38 t39 t40 t41 t42 t43 t44 t45 t46 t47 t48 t49 t50 t51 t52 t53 t54 t55 t56 t57 t58 t59 t60 t61 t62 t63 t64 t65 t66 t67 t68 t69 t70 t71 t72 t73 t74 t75 t76 t77 t78 t79 t80 t81 t82 t83 t84 t85 t86 t87 t88 t89 t90 t91 t92 t93 t94 t95 t96 t97 t98 t99 t100 t101 t102 t103 t104 t105 t106 t107 t108 t109 t110 t111 t112 t113 t114 t115 t116 t117 t118 t119 t120 t121 t122 t123 t124 t125 t126 t127 t128 t129 t130 t131 t132 t133 t134 t135 t136 : Value} (so : Option Addr) (n cap : Nat) (w : World) (h : n = 0 ∨ ∃ g off, so = some ⟨g, off, none⟩ ∧ BRow w g off n) (hn : n < 4611686018427387904)
    (hQ : ∀ (u14 u79 u80 u81 u82 u83 u84 u85 u86 u87 u88 u89 u90 : Value) (w' : World), Ap.Chg (fun k => (Value.slice so n cap).ownBlock = some k) w w' → Q .normal ⟨#[t0, t1, t2, t3, t4, t5, t6, t7, t8, t9, t10, t11, t12, .slice so n cap, u14, t15, t16, t17, t18, t19, t20, t21, t22, t23, t24, t25, t26, t27, t28, t29, t30, t31, t32, t33, t34, t35, t36, t37, t38, t39, t40, t41, t42, t43, t44, t45, t46, t47, t48, t49, t50, t51, t52, t53, t54, t55, t56, t57, t58, t59, t60, t61, t62, t63, t64, t65, t66, t67, t68, t69, t70, t71, t72, t73, t74, t75, t76, t77, t78, u79, u80, u81, u82, u83, u84, u85, u86, u87, u88, u89, u90, t91, t92, t93, t94, t95, t96, t97, t98, t99, t100, t101, t102, t103, t104, t105, t106, t107, t108, t109, t110, t111, t112, t113, t114, t115, t116, t117, t118, t119, t120, t121, t122, t123, t124, t125, t126, t127, t128, t129, t130, t131, t132, t133, t134, t135, t136], []⟩ w') :
    (blk Tryd.f4 4).wp Tryd.prog Q ⟨#[t0, t1, t2, t3, t4, t5, t6, t7, t8, t9, t10, t11, t12, .slice so n cap, .int .i64 0, t15, t16, t17, t18, t19, t20, t21, t22, t23, t24, t25, t26, t27, t28, t29, t30, t31, t32, t33, t34, t35, t36, t37, t38, t39, t40, t41, t42, t43, t44, t45, t46, t47, t48, t49, t50, t51, t52, t53, t54, t55, t56, t57, t58, t59, t60, t61, t62, t63, t64, t65, t66, t67, t68, t69, t70, t71, t72, t73, t74, t75, t76, t77, t78, t79, t80, t81, t82, t83, t84, t85, t86, t87, t88, t89, t90, t91, t92, t93, t94, t95, t96, t97, t98, t99, t100, t101, t102, t103, t104, t105, t106, t107, t108, t109, t110, t111, t112, t113, t114, t115, t116, t117, t118, t119, t120, t121, t122, t123, t124, t125, t126, t127, t128, t129, t130, t131, t132, t133, t134, t135, t136], []⟩ w := by
  show Code.wp Tryd.prog (Code.block _ (Code.loop _)) Q _ _
  have HQ : Hid (∀ (u14 u79 u80 u81 u82 u83 u84 u85 u86 u87 u88 u89 u90 : Value) (w' : World), Ap.Chg (fun k => (Value.slice so n cap).ownBlock = some k) w w' → Q .normal ⟨#[t0, t1, t2, t3, t4, t5, t6, t7, t8, t9, t10, t11, t12, .slice so n cap, u14, t15, t16, t17, t18, t19, t20, t21, t22, t23, t24, t25, t26, t27, t28, t29, t30, t31, t32, t33, t34, t35, t36, t37, t38, t39, t40, t41, t42, t43, t44, t45, t46, t47, t48, t49, t50, t51, t52, t53, t54, t55, t56, t57, t58, t59, t60, t61, t62, t63, t64, t65, t66, t67, t68, t69, t70, t71, t72, t73, t74, t75, t76, t77, t78, u79, u80, u81, u82, u83, u84, u85, u86, u87, u88, u89, u90, t91, t92, t93, t94, t95, t96, t97, t98, t99, t100, t101, t102, t103, t104, t105, t106, t107, t108, t109, t110, t111, t112, t113, t114, t115, t116, t117, t118, t119, t120, t121, t122, t123, t124, t125, t126, t127, t128, t129, t130, t131, t132, t133, t134, t135, t136], []⟩ w') := hQ
  clear hQ
  have H0 : Hid (n = 0 ∨ ∃ g off, so = some ⟨g, off, none⟩ ∧ BRow w g off n) := h
  clear h
  go_wp2_with fail
  go_loopw [14] (fun v wr => ∃ (i : Nat), v = .int .i64 i ∧ i ≤ n ∧ Ap.Chg (fun k => (Value.slice so n cap).ownBlock = some k) w wr ∧ (n = 0 ∨ ∃ g off, so = some ⟨g, off, none⟩ ∧ BRow wr g off n)) (fun v wr => n - (intOf v).toNat)
  case atStart => exact ⟨0, rfl, by omega, Ap.Chg.refl _ w, H0.out⟩
  case round =>
    clear H0
    obtain ⟨i, rfl, hi, hch, hb⟩ := hrel
    have H : Hid (Ap.Chg (fun k => (Value.slice so n cap).ownBlock = some k) w wr) := hch
    clear hch
    by_cases hin : i < n
    · have hid : decide ((i : Int) < n) = true := by simp; omega
      have li : (i : Int) < n := by omega
      rcases hb with hb | ⟨g, off, rfl, hb⟩
      · exact absurd hin (by omega)
      · obtain ⟨⟨x, c0⟩, f0⟩ := hb.cell hin
        have HB : Hid (BRow wr g off n) := hb
        clear hb
        go_wp2
        go_roundw
        case rel => exact ⟨i + 1, by go_num, by omega, H.out.setCell (p := ⟨g, off + i, none⟩) (fun _ => rfl) _, .inr ⟨g, off, rfl, HB.out.set _ _⟩⟩
        case measure => simp [intOf]; omega
    · have hid : decide ((i : Int) < n) = false := by simp; omega
      clear hb
      go_wp2
      exact HQ.out _ _ _ _ _ _ _ _ _ _ _ _ _ _ H.out
end Go.Proofs.YtbnonbhlfiadaaaDoor
