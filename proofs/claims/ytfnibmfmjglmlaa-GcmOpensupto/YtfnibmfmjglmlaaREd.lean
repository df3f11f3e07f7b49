/-
  The document's Encrypt: a round key.
-/
import Derived.Test.YtfnibmfmjglmlaaREa
namespace Go.Proofs.Ytfnibmfmjglmlaa
open Go.RowKit
set_option linter.unusedVariables false

set_option maxRecDepth 100000 in
set_option maxHeartbeats 8000000 in
/-- A block XOR a round key. -/
theorem re8_any {Q : Exit → Act → World → Prop} {t1 t2 t4 t5 t8 t9 t10 t11 t12 t13 t14 t16 t17 t18 t19 t20 t21 t22 t23 t24 t25 t26 t27 t28 t29 t30 t31 t32 t33 t34 t35 t36 t37 t38 t39 t40 t41 t42 t43 t44 t45 t46 t47 t48 t49 t50 t51 t52 t53 t54 t55 t56 t57 t58 t59 t60 t61 t62 t63 t64 t65 t66 t67 t68 t69 t70 t71 t72 t73 t74 t75 t76 t77 t78 t79 t80 t81 t82 t83 t84 t85 t86 t87 t88 t89 t90 t91 t92 t93 t94 t95 t96 t97 t98 t99 t100 t101 t102 t103 t104 t105 t106 t107 t108 t109 t110 t111 t112 t113 t114 t115 t116 t117 t118 t119 t120 t121 t122 t123 t124 t125 t126 t127 t128 t129 t130 t131 t132 t133 t134 t135 t136 t137 t138 t139 t140 t141 t142 t143 : Value} {K R cb q : Nat} {k f g : Nat → By} {w0 w : World} (h : RE w0 w K R k f) (hc : Ar w cb (ba 16 g)) (hcb : w0.heap.size + 1 < cb) (hq : q < 15)
    (hQ : ∀ (u15 u125 u126 u127 u128 u129 u130 u131 u132 u133 u134 u135 u136 u137 u138 u139 u140 u141 u142 : Value) (w' : World), RE w0 w' K R k (xr g (rk k q)) ∧ Ar w' cb (ba 16 g) → Q .normal ⟨#[.pointer (some ⟨K, 0, none⟩), t1, t2, .pointer (some ⟨w0.heap.size, 0, none⟩), t4, t5, .int .i64 (q : Int), .pointer (some ⟨cb, 0, none⟩), t8, t9, t10, t11, t12, t13, t14, u15, t16, t17, t18, t19, t20, t21, t22, t23, t24, t25, t26, t27, t28, t29, t30, t31, t32, t33, t34, t35, t36, t37, t38, t39, t40, t41, t42, t43, t44, t45, t46, t47, t48, t49, t50, t51, t52, t53, t54, t55, t56, t57, t58, t59, t60, t61, t62, t63, t64, t65, t66, t67, t68, t69, t70, t71, t72, t73, t74, t75, t76, t77, t78, t79, t80, t81, t82, t83, t84, t85, t86, t87, t88, t89, t90, t91, t92, t93, t94, t95, t96, t97, t98, t99, t100, t101, t102, t103, t104, t105, t106, t107, t108, t109, t110, t111, t112, t113, t114, t115, t116, t117, t118, t119, t120, t121, t122, t123, t124, u125, u126, u127, u128, u129, u130, u131, u132, u133, u134, u135, u136, u137, u138, u139, u140, u141, u142, t143], []⟩ w') :
    (blk Try.f31 14).wp Try.prog Q ⟨#[.pointer (some ⟨K, 0, none⟩), t1, t2, .pointer (some ⟨w0.heap.size, 0, none⟩), t4, t5, .int .i64 (q : Int), .pointer (some ⟨cb, 0, none⟩), t8, t9, t10, t11, t12, t13, t14, .int .i64 0, t16, t17, t18, t19, t20, t21, t22, t23, t24, t25, t26, t27, t28, t29, t30, t31, t32, t33, t34, t35, t36, t37, t38, t39, t40, t41, t42, t43, t44, t45, t46, t47, t48, t49, t50, t51, t52, t53, t54, t55, t56, t57, t58, t59, t60, t61, t62, t63, t64, t65, t66, t67, t68, t69, t70, t71, t72, t73, t74, t75, t76, t77, t78, t79, t80, t81, t82, t83, t84, t85, t86, t87, t88, t89, t90, t91, t92, t93, t94, t95, t96, t97, t98, t99, t100, t101, t102, t103, t104, t105, t106, t107, t108, t109, t110, t111, t112, t113, t114, t115, t116, t117, t118, t119, t120, t121, t122, t123, t124, t125, t126, t127, t128, t129, t130, t131, t132, t133, t134, t135, t136, t137, t138, t139, t140, t141, t142, t143], []⟩ w := by
  show Code.wp Try.prog (Code.block _ (Code.loop _)) Q _ _
  have HQ := (show Hid (∀ (u15 u125 u126 u127 u128 u129 u130 u131 u132 u133 u134 u135 u136 u137 u138 u139 u140 u141 u142 : Value) (w' : World), RE w0 w' K R k (xr g (rk k q)) ∧ Ar w' cb (ba 16 g) → Q .normal ⟨#[.pointer (some ⟨K, 0, none⟩), t1, t2, .pointer (some ⟨w0.heap.size, 0, none⟩), t4, t5, .int .i64 (q : Int), .pointer (some ⟨cb, 0, none⟩), t8, t9, t10, t11, t12, t13, t14, u15, t16, t17, t18, t19, t20, t21, t22, t23, t24, t25, t26, t27, t28, t29, t30, t31, t32, t33, t34, t35, t36, t37, t38, t39, t40, t41, t42, t43, t44, t45, t46, t47, t48, t49, t50, t51, t52, t53, t54, t55, t56, t57, t58, t59, t60, t61, t62, t63, t64, t65, t66, t67, t68, t69, t70, t71, t72, t73, t74, t75, t76, t77, t78, t79, t80, t81, t82, t83, t84, t85, t86, t87, t88, t89, t90, t91, t92, t93, t94, t95, t96, t97, t98, t99, t100, t101, t102, t103, t104, t105, t106, t107, t108, t109, t110, t111, t112, t113, t114, t115, t116, t117, t118, t119, t120, t121, t122, t123, t124, u125, u126, u127, u128, u129, u130, u131, u132, u133, u134, u135, u136, u137, u138, u139, u140, u141, u142, t143], []⟩ w') from hQ)
  clear hQ
  have H0 : Hid (RE w0 w K R k f ∧ Ar w cb (ba 16 g) ∧ w0.heap.size + 1 < cb ∧ q < 15) := ⟨h, hc, hcb, hq⟩
  have hq15 : (q : Int) < 15 := by omega
  clear h hc hcb hq
  go_wp2_with fail
  go_loopw [15] (fun v wr => ∃ (i : Nat), v = .int .i64 i ∧ i ≤ 16 ∧ RE w0 wr K R k (upTo i (xr g (rk k q)) f) ∧ Ar wr cb (ba 16 g)) (fun v wr => 16 - (intOf v).toNat)
  case atStart => exact ⟨0, rfl, by omega, by rw [upTo_zero]; exact H0.out.1, H0.out.2.1⟩
  case round =>
    obtain ⟨i, rfl, hi, hz, hc⟩ := hrel
    have H : Hid (RE w0 wr K R k (upTo i (xr g (rk k q)) f) ∧ Ar wr cb (ba 16 g)) := ⟨hz, hc⟩
    by_cases h16 : i < 16
    · have hd : decide ((i : Int) < 16) = true := by simp; omega
      have li : (i : Int) < 16 := by omega
      have c0 := (hz.b.cell i).trans (ba_get 16 _ h16)
      have f1 := hz.b.frozen i
      have c1 := (hc.cell i).trans (ba_get 16 _ h16)
      have c2 := rkK hz.key (j := q * 16 + i) (by have := H0.out.2.2.2; omega)
      obtain ⟨x, hx⟩ : ∃ x, x = g i := ⟨_, rfl⟩
      obtain ⟨y, hy⟩ : ∃ y, y = k (q * 16 + i) := ⟨_, rfl⟩
      obtain ⟨x0, hx0⟩ : ∃ x, x = upTo i (xr g (rk k q)) f i := ⟨_, rfl⟩
      rw [← hx] at c1
      rw [← hy] at c2
      rw [← hx0] at c0
      obtain ⟨z, Hz, ez⟩ := nameXor x y
      have HX : Hid (z = xr g (rk k q) i) := by show z = _; rw [Hz.out, hx, hy, xr, rk, Nat.mul_comm]
      clear hx hy hx0 hz hc Hz
      go_wp2_with fail
      refine wp_region_noPanic ?_
      go_region_with (fail)
      all_goals refine NoPanic.normal ?_
      all_goals go_wp2
      all_goals
        go_roundw
        case rel =>
          have hlt := H0.out.2.2.1
          refine ⟨i + 1, by go_num, by omega, ?_, (H.out.2.other (by dsimp only; omega) _).drew⟩
          have hh := H.out.1.set i z
          rw [HX.out, upTo_upd i (xr g (rk k q)) f, ← HX.out] at hh
          exact hh
        case measure => simp [intOf]; omega
    · have : i = 16 := by omega
      subst this
      have HE : Hid (RE w0 wr K R k (xr g (rk k q)) ∧ Ar wr cb (ba 16 g)) := ⟨⟨hz.key0, hz.chg, by have := hz.b; rwa [upTo_all] at this, hz.out⟩, hc⟩
      clear hz hc
      go_wp2
      exact HQ.out _ _ _ _ _ _ _ _ _ _ _ _ _ _ _ _ _ _ _ _  HE.out
end Go.Proofs.Ytfnibmfmjglmlaa
