/-
  The document's Encrypt: the first round key.
-/
import Derived.Test.YtfnibmfmjglmlaaRK
namespace Go.Proofs.Ytfnibmfmjglmlaa
open Go.RowKit
set_option linter.unusedVariables false

/-- A block of a function's code, found by its number. -/
def blkOf (n : Nat) : Code → Option Code
  | .block i b => if i = n then some (.block i b) else blkOf n b
  | .seq a b => match blkOf n a with
    | some c => some c
    | none => blkOf n b
  | .cond _ a b => match blkOf n a with
    | some c => some c
    | none => blkOf n b
  | .loop b => blkOf n b
  | _ => none
def blk (f : Func) (n : Nat) : Code := match f.body with
  | some c => (blkOf n c).getD .skip
  | none => .skip

/-- What stands while the document encrypts a block. -/
structure RE (w0 w : World) (K R : Nat) (k f : Nat → By) : Prop where
  key0 : Ar w0 K (rkeyC R k)
  chg : Chg w0 w
  b : Ar w w0.heap.size (ba 16 f)
  out : Ar w (w0.heap.size + 1) (ba 16 zB)
theorem RE.key {w0 w : World} {K R : Nat} {k f : Nat → By} (h : RE w0 w K R k f) : Ar w K (rkeyC R k) := h.key0.chg h.chg
theorem RE.to {w0 w u : World} {K R : Nat} {k f : Nat → By} (h : RE w0 w K R k f) (c : Chg w u) : RE w0 u K R k f := ⟨h.key0, h.chg.trans c, h.b.chg c, h.out.chg c⟩
theorem RE.set {w0 w : World} {K R : Nat} {k f : Nat → By} (h : RE w0 w K R k f) (i : Nat) (x : By) : RE w0 (w.setCell ⟨w0.heap.size, i, none⟩ (.int .u8 (x.toNat : Int))).drew K R k (updB f i x) := by
  refine ⟨h.key0, (h.chg.setCell (Nat.le_refl _) _).drew, ?_, (h.out.other (by dsimp only; omega) _).drew⟩
  have := h.b.set i (.int .u8 (x.toNat : Int))
  rw [ba_set] at this
  exact this.drew
theorem RE.other {w0 w : World} {K R cb : Nat} {k f : Nat → By} (h : RE w0 w K R k f) (hc : w0.heap.size + 1 < cb) (i : Nat) (v : Value) : RE w0 (w.setCell ⟨cb, i, none⟩ v).drew K R k f :=
  ⟨h.key0, (h.chg.setCell (by dsimp only; omega) _).drew, (h.b.other (by dsimp only; omega) _).drew, (h.out.other (by dsimp only; omega) _).drew⟩
theorem RE.otherN {w0 w : World} {K R cb : Nat} {k f : Nat → By} (h : RE w0 w K R k f) (hc : w0.heap.size + 1 < cb) (i : Nat) (v : Value) : RE w0 (w.setCell ⟨cb, i, none⟩ v) K R k f :=
  ⟨h.key0, h.chg.setCell (by dsimp only; omega) _, h.b.other (by dsimp only; omega) _, h.out.other (by dsimp only; omega) _⟩

set_option maxRecDepth 100000 in
set_option maxHeartbeats 8000000 in
/-- A block XOR the first round key. -/
theorem re1_any {Q : Exit → Act → World → Prop} {t1 t2 t4 t6 t7 t8 t9 t10 t11 t12 t13 t14 t15 t16 t17 t18 t19 t20 t21 t22 t23 t24 t25 t26 t27 t28 t29 t30 t31 t32 t33 t34 t35 t36 t37 t38 t39 t40 t41 t42 t43 t44 t45 t46 t47 t48 t49 t50 t51 t52 t53 t54 t55 t56 t57 t58 t59 t60 t61 t62 t63 t64 t65 t66 t67 t68 t69 t70 t71 t72 t73 t74 t75 t76 t77 t78 t79 t80 t81 t82 t83 t84 t85 t86 t87 t88 t89 t90 t91 t92 t93 t94 t95 t96 t97 t98 t99 t100 t101 t102 t103 t104 t105 t106 t107 t108 t109 t110 t111 t112 t113 t114 t115 t116 t117 t118 t119 t120 t121 t122 t123 t124 t125 t126 t127 t128 t129 t130 t131 t132 t133 t134 t135 t136 t137 t138 t139 t140 t141 t142 t143 : Value} {K R : Nat} {k f : Nat → By} {w0 w : World} (h : RE w0 w K R k f)
    (hQ : ∀ (u5 u16 u17 u18 u19 u20 u21 u22 u23 u24 u25 u26 u27 u28 u29 u30 u31 u32 : Value) (w' : World), RE w0 w' K R k (xr f (rk k 0)) → Q .normal ⟨#[.pointer (some ⟨K, 0, none⟩), t1, t2, .pointer (some ⟨w0.heap.size, 0, none⟩), t4, u5, t6, t7, t8, t9, t10, t11, t12, t13, t14, t15, u16, u17, u18, u19, u20, u21, u22, u23, u24, u25, u26, u27, u28, u29, u30, u31, u32, t33, t34, t35, t36, t37, t38, t39, t40, t41, t42, t43, t44, t45, t46, t47, t48, t49, t50, t51, t52, t53, t54, t55, t56, t57, t58, t59, t60, t61, t62, t63, t64, t65, t66, t67, t68, t69, t70, t71, t72, t73, t74, t75, t76, t77, t78, t79, t80, t81, t82, t83, t84, t85, t86, t87, t88, t89, t90, t91, t92, t93, t94, t95, t96, t97, t98, t99, t100, t101, t102, t103, t104, t105, t106, t107, t108, t109, t110, t111, t112, t113, t114, t115, t116, t117, t118, t119, t120, t121, t122, t123, t124, t125, t126, t127, t128, t129, t130, t131, t132, t133, t134, t135, t136, t137, t138, t139, t140, t141, t142, t143], []⟩ w') :
    (blk Try.f31 0).wp Try.prog Q ⟨#[.pointer (some ⟨K, 0, none⟩), t1, t2, .pointer (some ⟨w0.heap.size, 0, none⟩), t4, .int .i64 0, t6, t7, t8, t9, t10, t11, t12, t13, t14, t15, t16, t17, t18, t19, t20, t21, t22, t23, t24, t25, t26, t27, t28, t29, t30, t31, t32, t33, t34, t35, t36, t37, t38, t39, t40, t41, t42, t43, t44, t45, t46, t47, t48, t49, t50, t51, t52, t53, t54, t55, t56, t57, t58, t59, t60, t61, t62, t63, t64, t65, t66, t67, t68, t69, t70, t71, t72, t73, t74, t75, t76, t77, t78, t79, t80, t81, t82, t83, t84, t85, t86, t87, t88, t89, t90, t91, t92, t93, t94, t95, t96, t97, t98, t99, t100, t101, t102, t103, t104, t105, t106, t107, t108, t109, t110, t111, t112, t113, t114, t115, t116, t117, t118, t119, t120, t121, t122, t123, t124, t125, t126, t127, t128, t129, t130, t131, t132, t133, t134, t135, t136, t137, t138, t139, t140, t141, t142, t143], []⟩ w := by
  show Code.wp Try.prog (Code.block _ (Code.loop _)) Q _ _
  have HQ := (show Hid (∀ (u5 u16 u17 u18 u19 u20 u21 u22 u23 u24 u25 u26 u27 u28 u29 u30 u31 u32 : Value) (w' : World), RE w0 w' K R k (xr f (rk k 0)) → Q .normal ⟨#[.pointer (some ⟨K, 0, none⟩), t1, t2, .pointer (some ⟨w0.heap.size, 0, none⟩), t4, u5, t6, t7, t8, t9, t10, t11, t12, t13, t14, t15, u16, u17, u18, u19, u20, u21, u22, u23, u24, u25, u26, u27, u28, u29, u30, u31, u32, t33, t34, t35, t36, t37, t38, t39, t40, t41, t42, t43, t44, t45, t46, t47, t48, t49, t50, t51, t52, t53, t54, t55, t56, t57, t58, t59, t60, t61, t62, t63, t64, t65, t66, t67, t68, t69, t70, t71, t72, t73, t74, t75, t76, t77, t78, t79, t80, t81, t82, t83, t84, t85, t86, t87, t88, t89, t90, t91, t92, t93, t94, t95, t96, t97, t98, t99, t100, t101, t102, t103, t104, t105, t106, t107, t108, t109, t110, t111, t112, t113, t114, t115, t116, t117, t118, t119, t120, t121, t122, t123, t124, t125, t126, t127, t128, t129, t130, t131, t132, t133, t134, t135, t136, t137, t138, t139, t140, t141, t142, t143], []⟩ w') from hQ)
  clear hQ
  have H0 : Hid (RE w0 w K R k f) := h
  clear h
  go_wp2_with fail
  go_loopw [5] (fun v wr => ∃ (i : Nat), v = .int .i64 i ∧ i ≤ 16 ∧ RE w0 wr K R k (upTo i (xr f (rk k 0)) f)) (fun v wr => 16 - (intOf v).toNat)
  case atStart => exact ⟨0, rfl, by omega, by rw [upTo_zero]; exact H0.out⟩
  case round =>
    obtain ⟨i, rfl, hi, hz⟩ := hrel
    have H : Hid (RE w0 wr K R k (upTo i (xr f (rk k 0)) f)) := hz
    by_cases h16 : i < 16
    · have hd : decide ((i : Int) < 16) = true := by simp; omega
      have li : (i : Int) < 16 := by omega
      have c1 := (hz.b.cell i).trans (ba_get 16 _ h16)
      have f1 := hz.b.frozen i
      have e0 : upTo i (xr f (rk k 0)) f i = f i := by simp [upTo]
      rw [e0] at c1
      have c2 := rkK hz.key (j := i) (by omega)
      obtain ⟨x, hx⟩ : ∃ x, x = f i := ⟨_, rfl⟩
      obtain ⟨y, hy⟩ : ∃ y, y = k i := ⟨_, rfl⟩
      rw [← hx] at c1
      rw [← hy] at c2
      obtain ⟨z, Hz, ez⟩ := nameXor x y
      have HX : Hid (z = xr f (rk k 0) i) := by show z = _; rw [Hz.out, hx, hy, xr, rk, Nat.mul_zero, Nat.zero_add]
      clear hx hy hz e0 Hz
      go_wp2_with fail
      refine wp_region_noPanic ?_
      go_region_with (fail)
      all_goals refine NoPanic.normal ?_
      all_goals go_wp2
      all_goals
        go_roundw
        case rel =>
          refine ⟨i + 1, by go_num, by omega, ?_⟩
          have hh := H.out.set i z
          rw [HX.out, upTo_upd i (xr f (rk k 0)) f, ← HX.out] at hh
          exact hh
        case measure => simp [intOf]; omega
    · have : i = 16 := by omega
      subst this
      have e : RE w0 wr K R k (xr f (rk k 0)) := ⟨hz.key0, hz.chg, by have := hz.b; rwa [upTo_all] at this, hz.out⟩
      have HE : Hid (RE w0 wr K R k (xr f (rk k 0))) := e
      clear e hz
      go_wp2
      exact HQ.out _ _ _ _ _ _ _ _ _ _ _ _ _ _ _ _ _ _ _ HE.out
end Go.Proofs.Ytfnibmfmjglmlaa
