/-
  A key that is filled up with noughts: the region as a whole.
-/
import Derived.Test.YtlahfenjmpomhaaDoorRg8c
namespace Go.Proofs.YtlahfenjmpomhaaDoor
open Go.RowKit
set_option linter.unusedVariables false

theorem step8 {Q : Exit → Act → World → Prop} {c : K8} {w0 : World} {T : Array Value} {l : Array Bool} {a : Act} {w : World} (F : F8 c w0 T) (i : Nat) (hi : i < 27) (hI : RF c w0 T l a w) (hn : l.getD i false = false) (hdep : ∀ j, depB (opsOf (reg Tryd.f7 8)) i j = true → l.getD j false = true) : wpOp Tryd.prog (opsOf (reg Tryd.f7 8)) Q i (fun a' w' => RF c w0 T (l.setIfInBounds i true) a' w') a w := by
  have hcs : i = 0 ∨ i = 1 ∨ i = 2 ∨ i = 3 ∨ i = 4 ∨ i = 5 ∨ i = 6 ∨ i = 7 ∨ i = 8 ∨ i = 9 ∨ i = 10 ∨ i = 11 ∨ i = 12 ∨ i = 13 ∨ i = 14 ∨ i = 15 ∨ i = 16 ∨ i = 17 ∨ i = 18 ∨ i = 19 ∨ i = 20 ∨ i = 21 ∨ i = 22 ∨ i = 23 ∨ i = 24 ∨ i = 25 ∨ i = 26 := by omega
  rcases hcs with rfl | rfl | rfl | rfl | rfl | rfl | rfl | rfl | rfl | rfl | rfl | rfl | rfl | rfl | rfl | rfl | rfl | rfl | rfl | rfl | rfl | rfl | rfl | rfl | rfl | rfl | rfl
  · exact st8_0 F hI hn hdep
  · exact st8_1 F hI hn hdep
  · exact st8_2 F hI hn hdep
  · exact st8_3 F hI hn hdep
  · exact st8_4 F hI hn hdep
  · exact st8_5 F hI hn hdep
  · exact st8_6 F hI hn hdep
  · exact st8_7 F hI hn hdep
  · exact st8_8 F hI hn hdep
  · exact st8_9 F hI hn hdep
  · exact st8_10 F hI hn hdep
  · exact st8_11 F hI hn hdep
  · exact st8_12 F hI hn hdep
  · exact st8_13 F hI hn hdep
  · exact st8_14 F hI hn hdep
  · exact st8_15 F hI hn hdep
  · exact st8_16 F hI hn hdep
  · exact st8_17 F hI hn hdep
  · exact st8_18 F hI hn hdep
  · exact st8_19 F hI hn hdep
  · exact st8_20 F hI hn hdep
  · exact st8_21 F hI hn hdep
  · exact st8_22 F hI hn hdep
  · exact st8_23 F hI hn hdep
  · exact st8_24 F hI hn hdep
  · exact st8_25 F hI hn hdep
  · exact st8_26 F hI hn hdep
set_option maxRecDepth 100000 in
set_option maxHeartbeats 8000000 in
theorem sum8_any {Q : Exit → Act → World → Prop} {t3 t4 t5 t6 t7 t8 t9 t11 t12 t13 t14 t15 t16 t17 t18 t19 t20 t21 t22 t23 t24 t25 t26 t27 t28 t29 t30 t31 t32 t33 t34 t35 t36 t37 t38 t39 t40 t41 t42 t43 t44 t45 t46 t47 t48 t49 t50 t51 t52 t53 t54 t55 t56 t57 t58 t59 t60 t61 t62 t63 t64 t65 t66 t67 t68 t69 t70 t71 t72 t73 t74 t75 t76 t77 t78 t79 t80 t81 t82 t83 t84 t85 t86 t87 t88 t89 t90 t91 t92 t93 t94 t95 t96 t97 t98 t99 t100 t101 t102 t103 t104 t105 t106 t107 t108 t109 t110 t111 t112 t113 t114 t115 t116 t117 : Value} (q : Int) (B : Nat) (ko ao : Option Addr) (km kc am ac : Nat) (xk xa : List Int) (w : World) (hv : Valid q) (hB : B = blockOf q) (ht : Tabs w) (ha : Ap.Rd w (.slice ao am ac) xa) (hal : xa.length ≤ 1048576) (hk : Ap.Rd w (.slice ko km kc) xk) (hkl : xk.length ≤ 1048576)
    (hQ : ∀ (u63 u64 u65 u66 u67 u68 u69 u70 u71 u72 u73 u74 u75 u76 u77 u78 u79 u80 u81 u82 u83 u84 u85 u86 u87 u88 : Value) (w' : World), Chg w w' → Q .normal ⟨#[.int .i64 q, .slice ko km kc, .slice ao am ac, t3, t4, t5, t6, t7, t8, t9, .int .i64 B, t11, t12, t13, .bool true, t15, t16, t17, t18, t19, t20, t21, t22, t23, t24, t25, t26, t27, t28, t29, t30, t31, t32, t33, t34, t35, t36, t37, t38, t39, t40, t41, t42, t43, t44, t45, t46, t47, t48, t49, t50, t51, t52, t53, t54, t55, t56, t57, t58, t59, t60, t61, t62, u63, u64, u65, u66, u67, u68, u69, u70, u71, u72, u73, u74, u75, u76, u77, u78, u79, u80, u81, u82, u83, u84, u85, u86, u87, u88, t89, t90, t91, t92, t93, t94, t95, t96, t97, t98, t99, t100, t101, t102, t103, t104, t105, t106, t107, t108, t109, t110, t111, t112, t113, t114, t115, t116, t117], []⟩ w') :
    (reg Tryd.f7 8).wp Tryd.prog Q ⟨#[.int .i64 q, .slice ko km kc, .slice ao am ac, t3, t4, t5, t6, t7, t8, t9, .int .i64 B, t11, t12, t13, t14, t15, t16, t17, t18, t19, t20, t21, t22, t23, t24, t25, t26, t27, t28, t29, t30, t31, t32, t33, t34, t35, t36, t37, t38, t39, t40, t41, t42, t43, t44, t45, t46, t47, t48, t49, t50, t51, t52, t53, t54, t55, t56, t57, t58, t59, t60, t61, t62, t63, t64, t65, t66, t67, t68, t69, t70, t71, t72, t73, t74, t75, t76, t77, t78, t79, t80, t81, t82, t83, t84, t85, t86, t87, t88, t89, t90, t91, t92, t93, t94, t95, t96, t97, t98, t99, t100, t101, t102, t103, t104, t105, t106, t107, t108, t109, t110, t111, t112, t113, t114, t115, t116, t117], []⟩ w := by
  rw [r8R]
  have HQ : Hid (∀ (u63 u64 u65 u66 u67 u68 u69 u70 u71 u72 u73 u74 u75 u76 u77 u78 u79 u80 u81 u82 u83 u84 u85 u86 u87 u88 : Value) (w' : World), Chg w w' → Q .normal ⟨#[.int .i64 q, .slice ko km kc, .slice ao am ac, t3, t4, t5, t6, t7, t8, t9, .int .i64 B, t11, t12, t13, .bool true, t15, t16, t17, t18, t19, t20, t21, t22, t23, t24, t25, t26, t27, t28, t29, t30, t31, t32, t33, t34, t35, t36, t37, t38, t39, t40, t41, t42, t43, t44, t45, t46, t47, t48, t49, t50, t51, t52, t53, t54, t55, t56, t57, t58, t59, t60, t61, t62, u63, u64, u65, u66, u67, u68, u69, u70, u71, u72, u73, u74, u75, u76, u77, u78, u79, u80, u81, u82, u83, u84, u85, u86, u87, u88, t89, t90, t91, t92, t93, t94, t95, t96, t97, t98, t99, t100, t101, t102, t103, t104, t105, t106, t107, t108, t109, t110, t111, t112, t113, t114, t115, t116, t117], []⟩ w') := hQ
  clear hQ
  have hkm : km = xk.length := by
    obtain ⟨o, n, cc, e, h, _⟩ := hk
    cases e
    exact h
  have F0 : F8 ⟨q, B, km, kc, ko, ao, am, ac, xk, xa, strOfNums (macL q xk xa), decide (B < km)⟩ w #[.int .i64 q, .slice ko km kc, .slice ao am ac, t3, t4, t5, t6, t7, t8, t9, .int .i64 B, t11, t12, t13, t14, t15, t16, t17, t18, t19, t20, t21, t22, t23, t24, t25, t26, t27, t28, t29, t30, t31, t32, t33, t34, t35, t36, t37, t38, t39, t40, t41, t42, t43, t44, t45, t46, t47, t48, t49, t50, t51, t52, t53, t54, t55, t56, t57, t58, t59, t60, t61, t62, t63, t64, t65, t66, t67, t68, t69, t70, t71, t72, t73, t74, t75, t76, t77, t78, t79, t80, t81, t82, t83, t84, t85, t86, t87, t88, t89, t90, t91, t92, t93, t94, t95, t96, t97, t98, t99, t100, t101, t102, t103, t104, t105, t106, t107, t108, t109, t110, t111, t112, t113, t114, t115, t116, t117] := ⟨hv, hB, ht, ha, hal, hk, hkl, hkm, rfl, rfl, rfl, rfl, rfl, rfl⟩
  clear hv hB ht ha hal hk hkl hkm
  refine wp_region_noPanic ?_
  refine wp_region_inv2 (by kernel_rfl) (RF ⟨q, B, km, kc, ko, ao, am, ac, xk, xa, strOfNums (macL q xk xa), decide (B < km)⟩ w #[.int .i64 q, .slice ko km kc, .slice ao am ac, t3, t4, t5, t6, t7, t8, t9, .int .i64 B, t11, t12, t13, t14, t15, t16, t17, t18, t19, t20, t21, t22, t23, t24, t25, t26, t27, t28, t29, t30, t31, t32, t33, t34, t35, t36, t37, t38, t39, t40, t41, t42, t43, t44, t45, t46, t47, t48, t49, t50, t51, t52, t53, t54, t55, t56, t57, t58, t59, t60, t61, t62, t63, t64, t65, t66, t67, t68, t69, t70, t71, t72, t73, t74, t75, t76, t77, t78, t79, t80, t81, t82, t83, t84, t85, t86, t87, t88, t89, t90, t91, t92, t93, t94, t95, t96, t97, t98, t99, t100, t101, t102, t103, t104, t105, t106, t107, t108, t109, t110, t111, t112, t113, t114, t115, t116, t117]) r8D ?_ ?_ ?_
  · intro l a w' i hI hi hs hn hdep
    rw [r8N] at hi
    exact step8 F0 i hi hI hn hdep
  · intro l a w' hI hall
    rw [r8N] at hall
    refine NoPanic.normal ?_
    have e := rg7Z a.tmps hI.size
    have f0 : a.tmps.getD 0 undef = .int .i64 q := hI.frame 0 (by intro j hj; revert j; decide)
    have f1 : a.tmps.getD 1 undef = .slice ko km kc := hI.frame 1 (by intro j hj; revert j; decide)
    have f2 : a.tmps.getD 2 undef = .slice ao am ac := hI.frame 2 (by intro j hj; revert j; decide)
    have f3 : a.tmps.getD 3 undef = t3 := hI.frame 3 (by intro j hj; revert j; decide)
    have f4 : a.tmps.getD 4 undef = t4 := hI.frame 4 (by intro j hj; revert j; decide)
    have f5 : a.tmps.getD 5 undef = t5 := hI.frame 5 (by intro j hj; revert j; decide)
    have f6 : a.tmps.getD 6 undef = t6 := hI.frame 6 (by intro j hj; revert j; decide)
    have f7 : a.tmps.getD 7 undef = t7 := hI.frame 7 (by intro j hj; revert j; decide)
    have f8 : a.tmps.getD 8 undef = t8 := hI.frame 8 (by intro j hj; revert j; decide)
    have f9 : a.tmps.getD 9 undef = t9 := hI.frame 9 (by intro j hj; revert j; decide)
    have f10 : a.tmps.getD 10 undef = .int .i64 B := hI.frame 10 (by intro j hj; revert j; decide)
    have f11 : a.tmps.getD 11 undef = t11 := hI.frame 11 (by intro j hj; revert j; decide)
    have f12 : a.tmps.getD 12 undef = t12 := hI.frame 12 (by intro j hj; revert j; decide)
    have f13 : a.tmps.getD 13 undef = t13 := hI.frame 13 (by intro j hj; revert j; decide)
    have f15 : a.tmps.getD 15 undef = t15 := hI.frame 15 (by intro j hj; revert j; decide)
    have f16 : a.tmps.getD 16 undef = t16 := hI.frame 16 (by intro j hj; revert j; decide)
    have f17 : a.tmps.getD 17 undef = t17 := hI.frame 17 (by intro j hj; revert j; decide)
    have f18 : a.tmps.getD 18 undef = t18 := hI.frame 18 (by intro j hj; revert j; decide)
    have f19 : a.tmps.getD 19 undef = t19 := hI.frame 19 (by intro j hj; revert j; decide)
    have f20 : a.tmps.getD 20 undef = t20 := hI.frame 20 (by intro j hj; revert j; decide)
    have f21 : a.tmps.getD 21 undef = t21 := hI.frame 21 (by intro j hj; revert j; decide)
    have f22 : a.tmps.getD 22 undef = t22 := hI.frame 22 (by intro j hj; revert j; decide)
    have f23 : a.tmps.getD 23 undef = t23 := hI.frame 23 (by intro j hj; revert j; decide)
    have f24 : a.tmps.getD 24 undef = t24 := hI.frame 24 (by intro j hj; revert j; decide)
    have f25 : a.tmps.getD 25 undef = t25 := hI.frame 25 (by intro j hj; revert j; decide)
    have f26 : a.tmps.getD 26 undef = t26 := hI.frame 26 (by intro j hj; revert j; decide)
    have f27 : a.tmps.getD 27 undef = t27 := hI.frame 27 (by intro j hj; revert j; decide)
    have f28 : a.tmps.getD 28 undef = t28 := hI.frame 28 (by intro j hj; revert j; decide)
    have f29 : a.tmps.getD 29 undef = t29 := hI.frame 29 (by intro j hj; revert j; decide)
    have f30 : a.tmps.getD 30 undef = t30 := hI.frame 30 (by intro j hj; revert j; decide)
    have f31 : a.tmps.getD 31 undef = t31 := hI.frame 31 (by intro j hj; revert j; decide)
    have f32 : a.tmps.getD 32 undef = t32 := hI.frame 32 (by intro j hj; revert j; decide)
    have f33 : a.tmps.getD 33 undef = t33 := hI.frame 33 (by intro j hj; revert j; decide)
    have f34 : a.tmps.getD 34 undef = t34 := hI.frame 34 (by intro j hj; revert j; decide)
    have f35 : a.tmps.getD 35 undef = t35 := hI.frame 35 (by intro j hj; revert j; decide)
    have f36 : a.tmps.getD 36 undef = t36 := hI.frame 36 (by intro j hj; revert j; decide)
    have f37 : a.tmps.getD 37 undef = t37 := hI.frame 37 (by intro j hj; revert j; decide)
    have f38 : a.tmps.getD 38 undef = t38 := hI.frame 38 (by intro j hj; revert j; decide)
    have f39 : a.tmps.getD 39 undef = t39 := hI.frame 39 (by intro j hj; revert j; decide)
    have f40 : a.tmps.getD 40 undef = t40 := hI.frame 40 (by intro j hj; revert j; decide)
    have f41 : a.tmps.getD 41 undef = t41 := hI.frame 41 (by intro j hj; revert j; decide)
    have f42 : a.tmps.getD 42 undef = t42 := hI.frame 42 (by intro j hj; revert j; decide)
    have f43 : a.tmps.getD 43 undef = t43 := hI.frame 43 (by intro j hj; revert j; decide)
    have f44 : a.tmps.getD 44 undef = t44 := hI.frame 44 (by intro j hj; revert j; decide)
    have f45 : a.tmps.getD 45 undef = t45 := hI.frame 45 (by intro j hj; revert j; decide)
    have f46 : a.tmps.getD 46 undef = t46 := hI.frame 46 (by intro j hj; revert j; decide)
    have f47 : a.tmps.getD 47 undef = t47 := hI.frame 47 (by intro j hj; revert j; decide)
    have f48 : a.tmps.getD 48 undef = t48 := hI.frame 48 (by intro j hj; revert j; decide)
    have f49 : a.tmps.getD 49 undef = t49 := hI.frame 49 (by intro j hj; revert j; decide)
    have f50 : a.tmps.getD 50 undef = t50 := hI.frame 50 (by intro j hj; revert j; decide)
    have f51 : a.tmps.getD 51 undef = t51 := hI.frame 51 (by intro j hj; revert j; decide)
    have f52 : a.tmps.getD 52 undef = t52 := hI.frame 52 (by intro j hj; revert j; decide)
    have f53 : a.tmps.getD 53 undef = t53 := hI.frame 53 (by intro j hj; revert j; decide)
    have f54 : a.tmps.getD 54 undef = t54 := hI.frame 54 (by intro j hj; revert j; decide)
    have f55 : a.tmps.getD 55 undef = t55 := hI.frame 55 (by intro j hj; revert j; decide)
    have f56 : a.tmps.getD 56 undef = t56 := hI.frame 56 (by intro j hj; revert j; decide)
    have f57 : a.tmps.getD 57 undef = t57 := hI.frame 57 (by intro j hj; revert j; decide)
    have f58 : a.tmps.getD 58 undef = t58 := hI.frame 58 (by intro j hj; revert j; decide)
    have f59 : a.tmps.getD 59 undef = t59 := hI.frame 59 (by intro j hj; revert j; decide)
    have f60 : a.tmps.getD 60 undef = t60 := hI.frame 60 (by intro j hj; revert j; decide)
    have f61 : a.tmps.getD 61 undef = t61 := hI.frame 61 (by intro j hj; revert j; decide)
    have f62 : a.tmps.getD 62 undef = t62 := hI.frame 62 (by intro j hj; revert j; decide)
    have f89 : a.tmps.getD 89 undef = t89 := hI.frame 89 (by intro j hj; revert j; decide)
    have f90 : a.tmps.getD 90 undef = t90 := hI.frame 90 (by intro j hj; revert j; decide)
    have f91 : a.tmps.getD 91 undef = t91 := hI.frame 91 (by intro j hj; revert j; decide)
    have f92 : a.tmps.getD 92 undef = t92 := hI.frame 92 (by intro j hj; revert j; decide)
    have f93 : a.tmps.getD 93 undef = t93 := hI.frame 93 (by intro j hj; revert j; decide)
    have f94 : a.tmps.getD 94 undef = t94 := hI.frame 94 (by intro j hj; revert j; decide)
    have f95 : a.tmps.getD 95 undef = t95 := hI.frame 95 (by intro j hj; revert j; decide)
    have f96 : a.tmps.getD 96 undef = t96 := hI.frame 96 (by intro j hj; revert j; decide)
    have f97 : a.tmps.getD 97 undef = t97 := hI.frame 97 (by intro j hj; revert j; decide)
    have f98 : a.tmps.getD 98 undef = t98 := hI.frame 98 (by intro j hj; revert j; decide)
    have f99 : a.tmps.getD 99 undef = t99 := hI.frame 99 (by intro j hj; revert j; decide)
    have f100 : a.tmps.getD 100 undef = t100 := hI.frame 100 (by intro j hj; revert j; decide)
    have f101 : a.tmps.getD 101 undef = t101 := hI.frame 101 (by intro j hj; revert j; decide)
    have f102 : a.tmps.getD 102 undef = t102 := hI.frame 102 (by intro j hj; revert j; decide)
    have f103 : a.tmps.getD 103 undef = t103 := hI.frame 103 (by intro j hj; revert j; decide)
    have f104 : a.tmps.getD 104 undef = t104 := hI.frame 104 (by intro j hj; revert j; decide)
    have f105 : a.tmps.getD 105 undef = t105 := hI.frame 105 (by intro j hj; revert j; decide)
    have f106 : a.tmps.getD 106 undef = t106 := hI.frame 106 (by intro j hj; revert j; decide)
    have f107 : a.tmps.getD 107 undef = t107 := hI.frame 107 (by intro j hj; revert j; decide)
    have f108 : a.tmps.getD 108 undef = t108 := hI.frame 108 (by intro j hj; revert j; decide)
    have f109 : a.tmps.getD 109 undef = t109 := hI.frame 109 (by intro j hj; revert j; decide)
    have f110 : a.tmps.getD 110 undef = t110 := hI.frame 110 (by intro j hj; revert j; decide)
    have f111 : a.tmps.getD 111 undef = t111 := hI.frame 111 (by intro j hj; revert j; decide)
    have f112 : a.tmps.getD 112 undef = t112 := hI.frame 112 (by intro j hj; revert j; decide)
    have f113 : a.tmps.getD 113 undef = t113 := hI.frame 113 (by intro j hj; revert j; decide)
    have f114 : a.tmps.getD 114 undef = t114 := hI.frame 114 (by intro j hj; revert j; decide)
    have f115 : a.tmps.getD 115 undef = t115 := hI.frame 115 (by intro j hj; revert j; decide)
    have f116 : a.tmps.getD 116 undef = t116 := hI.frame 116 (by intro j hj; revert j; decide)
    have f117 : a.tmps.getD 117 undef = t117 := hI.frame 117 (by intro j hj; revert j; decide)
    have f14 : a.tmps.getD 14 undef = .bool true := hI.good 26 (by decide) (hall 26 (by decide))
    rw [f0, f1, f2, f3, f4, f5, f6, f7, f8, f9, f10, f11, f12, f13, f15, f16, f17, f18, f19, f20, f21, f22, f23, f24, f25, f26, f27, f28, f29, f30, f31, f32, f33, f34, f35, f36, f37, f38, f39, f40, f41, f42, f43, f44, f45, f46, f47, f48, f49, f50, f51, f52, f53, f54, f55, f56, f57, f58, f59, f60, f61, f62, f89, f90, f91, f92, f93, f94, f95, f96, f97, f98, f99, f100, f101, f102, f103, f104, f105, f106, f107, f108, f109, f110, f111, f112, f113, f114, f115, f116, f117, f14] at e
    have ea : a = ⟨#[.int .i64 q, .slice ko km kc, .slice ao am ac, t3, t4, t5, t6, t7, t8, t9, .int .i64 B, t11, t12, t13, .bool true, t15, t16, t17, t18, t19, t20, t21, t22, t23, t24, t25, t26, t27, t28, t29, t30, t31, t32, t33, t34, t35, t36, t37, t38, t39, t40, t41, t42, t43, t44, t45, t46, t47, t48, t49, t50, t51, t52, t53, t54, t55, t56, t57, t58, t59, t60, t61, t62, a.tmps.getD 63 undef, a.tmps.getD 64 undef, a.tmps.getD 65 undef, a.tmps.getD 66 undef, a.tmps.getD 67 undef, a.tmps.getD 68 undef, a.tmps.getD 69 undef, a.tmps.getD 70 undef, a.tmps.getD 71 undef, a.tmps.getD 72 undef, a.tmps.getD 73 undef, a.tmps.getD 74 undef, a.tmps.getD 75 undef, a.tmps.getD 76 undef, a.tmps.getD 77 undef, a.tmps.getD 78 undef, a.tmps.getD 79 undef, a.tmps.getD 80 undef, a.tmps.getD 81 undef, a.tmps.getD 82 undef, a.tmps.getD 83 undef, a.tmps.getD 84 undef, a.tmps.getD 85 undef, a.tmps.getD 86 undef, a.tmps.getD 87 undef, a.tmps.getD 88 undef, t89, t90, t91, t92, t93, t94, t95, t96, t97, t98, t99, t100, t101, t102, t103, t104, t105, t106, t107, t108, t109, t110, t111, t112, t113, t114, t115, t116, t117], []⟩ := by
      obtain ⟨A, d⟩ := a
      have hd : d = [] := hI.defers
      subst hd
      exact congrArg (fun x => (⟨x, []⟩ : Act)) e
    rw [ea]
    exact HQ.out _ _ _ _ _ _ _ _ _ _ _ _ _ _ _ _ _ _ _ _ _ _ _ _ _ _ _ hI.chg
  · have hf : ∀ j, (Array.replicate (opsOf (reg Tryd.f7 8)).size false).getD j false = false := by
      intro j
      rw [Array.getD_eq_getD_getElem?, Array.getElem?_replicate]
      split <;> rfl
    refine ⟨(Chg.refl w).drew, rfl, rfl, by simp [r8N], fun k hk => rfl, fun j hj hl => ?_, fun hl => ?_, fun hl => ?_, fun _ hl => ?_, fun _ hl => ?_⟩
    all_goals
      have := (hf _).symm.trans hl
      cases this
end Go.Proofs.YtlahfenjmpomhaaDoor
