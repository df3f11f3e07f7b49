/-
  The document's Encrypt: boxes, rows moved.
-/
import Derived.Test.YtfnibmfmjglmlaaREa
namespace Go.Proofs.Ytfnibmfmjglmlaa
open Go.RowKit
set_option linter.unusedVariables false

set_option maxRecDepth 100000 in
set_option maxHeartbeats 8000000 in
/-- Boxes, rows moved. -/
theorem re3_any {Q : Exit → Act → World → Prop} {t1 t2 t4 t5 t6 t9 t10 t11 t12 t13 t14 t15 t16 t17 t18 t19 t20 t21 t22 t23 t24 t25 t26 t27 t28 t29 t30 t31 t32 t33 t34 t35 t36 t37 t38 t39 t40 t41 t42 t43 t44 t45 t46 t47 t48 t49 t50 t51 t52 t53 t54 t55 t56 t57 t58 t59 t60 t61 t62 t63 t64 t65 t66 t67 t68 t69 t70 t71 t72 t73 t74 t75 t76 t77 t78 t79 t80 t81 t82 t83 t84 t85 t86 t87 t88 t89 t90 t91 t92 t93 t94 t95 t96 t97 t98 t99 t100 t101 t102 t103 t104 t105 t106 t107 t108 t109 t110 t111 t112 t113 t114 t115 t116 t117 t118 t119 t120 t121 t122 t123 t124 t125 t126 t127 t128 t129 t130 t131 t132 t133 t134 t135 t136 t137 t138 t139 t140 t141 t142 t143 : Value} {K R cb : Nat} {k f : Nat → By} {w0 w : World} (h : RE w0 w K R k f) (hc : Ar w cb (ba 16 zB)) (hcb : w0.heap.size + 1 < cb)
    (hQ : ∀ (u8 u9 u41 u42 u43 u44 u45 u46 u47 u48 u49 u50 u51 u52 u53 u54 u55 u56 u57 u58 u59 u60 u61 u62 u63 u64 u65 u66 u67 : Value) (w' : World), RE w0 w' K R k f ∧ Ar w' cb (ba 16 (mv f)) → Q .normal ⟨#[.pointer (some ⟨K, 0, none⟩), t1, t2, .pointer (some ⟨w0.heap.size, 0, none⟩), t4, t5, t6, .pointer (some ⟨cb, 0, none⟩), u8, u9, t10, t11, t12, t13, t14, t15, t16, t17, t18, t19, t20, t21, t22, t23, t24, t25, t26, t27, t28, t29, t30, t31, t32, t33, t34, t35, t36, t37, t38, t39, t40, u41, u42, u43, u44, u45, u46, u47, u48, u49, u50, u51, u52, u53, u54, u55, u56, u57, u58, u59, u60, u61, u62, u63, u64, u65, u66, u67, t68, t69, t70, t71, t72, t73, t74, t75, t76, t77, t78, t79, t80, t81, t82, t83, t84, t85, t86, t87, t88, t89, t90, t91, t92, t93, t94, t95, t96, t97, t98, t99, t100, t101, t102, t103, t104, t105, t106, t107, t108, t109, t110, t111, t112, t113, t114, t115, t116, t117, t118, t119, t120, t121, t122, t123, t124, t125, t126, t127, t128, t129, t130, t131, t132, t133, t134, t135, t136, t137, t138, t139, t140, t141, t142, t143], []⟩ w') :
    (blk Try.f31 4).wp Try.prog Q ⟨#[.pointer (some ⟨K, 0, none⟩), t1, t2, .pointer (some ⟨w0.heap.size, 0, none⟩), t4, t5, t6, .pointer (some ⟨cb, 0, none⟩), .int .i64 0, t9, t10, t11, t12, t13, t14, t15, t16, t17, t18, t19, t20, t21, t22, t23, t24, t25, t26, t27, t28, t29, t30, t31, t32, t33, t34, t35, t36, t37, t38, t39, t40, t41, t42, t43, t44, t45, t46, t47, t48, t49, t50, t51, t52, t53, t54, t55, t56, t57, t58, t59, t60, t61, t62, t63, t64, t65, t66, t67, t68, t69, t70, t71, t72, t73, t74, t75, t76, t77, t78, t79, t80, t81, t82, t83, t84, t85, t86, t87, t88, t89, t90, t91, t92, t93, t94, t95, t96, t97, t98, t99, t100, t101, t102, t103, t104, t105, t106, t107, t108, t109, t110, t111, t112, t113, t114, t115, t116, t117, t118, t119, t120, t121, t122, t123, t124, t125, t126, t127, t128, t129, t130, t131, t132, t133, t134, t135, t136, t137, t138, t139, t140, t141, t142, t143], []⟩ w := by
  show Code.wp Try.prog (Code.block _ (Code.loop _)) Q _ _
  have HQ := (show Hid (∀ (u8 u9 u41 u42 u43 u44 u45 u46 u47 u48 u49 u50 u51 u52 u53 u54 u55 u56 u57 u58 u59 u60 u61 u62 u63 u64 u65 u66 u67 : Value) (w' : World), RE w0 w' K R k f ∧ Ar w' cb (ba 16 (mv f)) → Q .normal ⟨#[.pointer (some ⟨K, 0, none⟩), t1, t2, .pointer (some ⟨w0.heap.size, 0, none⟩), t4, t5, t6, .pointer (some ⟨cb, 0, none⟩), u8, u9, t10, t11, t12, t13, t14, t15, t16, t17, t18, t19, t20, t21, t22, t23, t24, t25, t26, t27, t28, t29, t30, t31, t32, t33, t34, t35, t36, t37, t38, t39, t40, u41, u42, u43, u44, u45, u46, u47, u48, u49, u50, u51, u52, u53, u54, u55, u56, u57, u58, u59, u60, u61, u62, u63, u64, u65, u66, u67, t68, t69, t70, t71, t72, t73, t74, t75, t76, t77, t78, t79, t80, t81, t82, t83, t84, t85, t86, t87, t88, t89, t90, t91, t92, t93, t94, t95, t96, t97, t98, t99, t100, t101, t102, t103, t104, t105, t106, t107, t108, t109, t110, t111, t112, t113, t114, t115, t116, t117, t118, t119, t120, t121, t122, t123, t124, t125, t126, t127, t128, t129, t130, t131, t132, t133, t134, t135, t136, t137, t138, t139, t140, t141, t142, t143], []⟩ w') from hQ)
  clear hQ
  have H0 : Hid (RE w0 w K R k f ∧ Ar w cb (ba 16 zB) ∧ w0.heap.size + 1 < cb) := ⟨h, hc, hcb⟩
  clear h hc hcb
  go_wp2_with fail
  go_loopw [8] (fun v wr => ∃ (c : Nat), v = .int .i64 c ∧ c ≤ 4 ∧ RE w0 wr K R k f ∧ Ar wr cb (ba 16 (upTo (4 * c) (mv f) zB))) (fun v wr => 4 - (intOf v).toNat)
  case atStart => exact ⟨0, rfl, by omega, H0.out.1, by rw [Nat.mul_zero, upTo_zero]; exact H0.out.2.1⟩
  case round =>
    obtain ⟨c, rfl, hcl, hz, hc⟩ := hrel
    have H : Hid (RE w0 wr K R k f ∧ Ar wr cb (ba 16 (upTo (4 * c) (mv f) zB))) := ⟨hz, hc⟩
    clear hz hc
    by_cases h4 : c < 4
    · have hd : decide ((c : Int) < 4) = true := by simp; omega
      obtain ⟨t, ht⟩ : ∃ t : Nat, 4 * (c : Int) = t := ⟨4 * c, by omega⟩
      have wt := wrap_i (x := (t : Int)) (by omega) (by omega)
      have HT : Hid (t = 4 * c) := by show t = _; omega
      go_wp2_with fail
      go_loopw [9] (fun v wr => ∃ (r : Nat), v = .int .i64 r ∧ r ≤ 4 ∧ RE w0 wr K R k f ∧ Ar wr cb (ba 16 (upTo (4 * c + r) (mv f) zB))) (fun v wr => 4 - (intOf v).toNat)
      case atStart => exact ⟨0, rfl, by omega, H.out⟩
      case round =>
        clear H
        obtain ⟨r, rfl, hr, hz, hc⟩ := hrel
        have H : Hid (RE w0 wr K R k f ∧ Ar wr cb (ba 16 (upTo (4 * c + r) (mv f) zB))) := ⟨hz, hc⟩
        by_cases hr4 : r < 4
        · have hdr : decide ((r : Int) < 4) = true := by simp; omega
          obtain ⟨tr, htr⟩ : ∃ tr : Nat, (t : Int) + r = tr := ⟨t + r, by omega⟩
          have wtr := wrap_i (x := (tr : Int)) (by omega) (by omega)
          obtain ⟨s, hs⟩ : ∃ s : Nat, (c : Int) + r = s := ⟨c + r, by omega⟩
          have ws := wrap_i (x := (s : Int)) (by omega) (by omega)
          obtain ⟨q, hq⟩ : ∃ q : Nat, q = s % 4 := ⟨_, rfl⟩
          have hmod : (s : Int).tmod 4 = q := by rw [Int.tmod_eq_emod_of_nonneg (by omega), hq]; rfl
          have wq' := wrap_i (x := (q : Int)) (by omega) (by omega)
          obtain ⟨q4, hq4⟩ : ∃ q4 : Nat, 4 * (q : Int) = q4 := ⟨4 * q, by omega⟩
          have wq4 := wrap_i (x := (q4 : Int)) (by omega) (by omega)
          obtain ⟨j, hj⟩ : ∃ j : Nat, (q4 : Int) + r = j := ⟨q4 + r, by omega⟩
          have wj := wrap_i (x := (j : Int)) (by omega) (by omega)
          have lj : j < 16 := by omega
          have lj' : (j : Int) < 16 := by omega
          have ltr : tr < 16 := by have := HT.out; omega
          have ltr' : (tr : Int) < 16 := by omega
          have c1 := (hz.b.cell j).trans (ba_get 16 _ lj)
          have c2 := rkB hz.key (f j)
          have c3 := (hc.cell tr).trans (ba_get 16 _ ltr)
          have f3 := hc.frozen tr
          obtain ⟨x3, hx3⟩ : ∃ x, x = upTo (4 * c + r) (mv f) zB tr := ⟨_, rfl⟩
          rw [← hx3] at c3
          have HTR : Hid (tr = 4 * c + r) := by have := HT.out; show tr = _; omega
          obtain ⟨y, hy⟩ : ∃ y, y = sb (f j) := ⟨_, rfl⟩
          have HY : Hid (y = mv f (4 * c + r)) := by
            show y = _
            have e : 4 * (((4 * c + r) / 4 + (4 * c + r) % 4) % 4) + (4 * c + r) % 4 = j := by omega
            rw [hy, mv, e]
          obtain ⟨X, hX⟩ : ∃ X, X = (f j).toNat := ⟨_, rfl⟩
          have lX : X < 256 := by rw [hX]; exact (f j).isLt
          rw [← hX] at c1 c2
          rw [← hy] at c2
          have lX' : (X : Int) < 256 := by omega
          clear hX hy hz hc hq hx3
          go_wp2_with fail
          refine wp_region_noPanic ?_
          go_region_with (fail)
          all_goals refine NoPanic.normal ?_
          all_goals go_wp2
          all_goals
            go_roundw
            case rel =>
              have hlt := H0.out.2.2
              refine ⟨r + 1, by go_num, by omega, H.out.1.other hlt _ _, ?_⟩
              have hh := H.out.2.set tr (.int .u8 (y.toNat : Int))
              rw [ba_set, HTR.out, HY.out, upTo_upd (4 * c + r) (mv f) zB] at hh
              rw [HY.out, HTR.out]
              exact hh.drew
            case measure => simp [intOf]; omega
        · have : r = 4 := by omega
          subst this
          clear hz hc
          go_wp2
          go_roundw
          case rel =>
            have e : 4 * c + 4 = 4 * (c + 1) := by omega
            rw [e] at H
            exact ⟨c + 1, by go_num, by omega, H.out⟩
          case measure => simp [intOf]; omega
    · have : c = 4 := by omega
      subst this
      have HE : Hid (RE w0 wr K R k f ∧ Ar wr cb (ba 16 (mv f))) := by
        have := H.out
        rw [upTo_all] at this
        exact this
      clear H
      go_wp2
      exact HQ.out _ _ _ _ _ _ _ _ _ _ _ _ _ _ _ _ _ _ _ _ _ _ _ _ _ _ _ _ _ _  HE.out
end Go.Proofs.Ytfnibmfmjglmlaa
