/-
  The document's product: noughts above; five times the high digits.
-/
import Derived.Test.YtkdidacebfkdmaaRNd
namespace Go.Proofs.Ytkdidacebfkdmaa
open Go.RowKit
set_option linter.unusedVariables false

set_option maxRecDepth 100000 in
set_option maxHeartbeats 8000000 in
/-- Noughts above. -/
theorem rp3_any {Q : Exit → Act → World → Prop} {t0 t1 t2 t3 t4 t6 t7 t8 t10 t12 t13 t14 t15 t16 t17 t18 t19 t20 t21 t22 t23 t24 t25 t26 t27 t28 t29 t30 t31 t32 t33 t34 t35 t36 t37 t38 t39 t40 t41 t42 t43 t44 t45 t46 t47 t48 t49 t50 t51 t52 t53 t54 t55 t56 t57 t58 t59 t60 t61 t62 t63 t64 t65 t66 t67 t68 t69 t70 t71 t72 t73 t74 t75 t76 t77 t78 t79 t80 t81 t82 t83 t84 t85 t86 t87 t88 t89 t90 t91 t92 t93 t94 t95 t96 t97 t98 t99 t100 t101 t102 t103 : Value} {a r p q : Nat → Int} {H : Nat} {w w1 : World} (h : RP w w1 a r (zpF p 9)) (hH : Ar w1 H (arr .u64 18 q)) (hl : w.heap.size + 1 + 1 + 1 < H)
    (hQ : ∀ (u11 u72 u73 u74 u75 u76 u77 : Value) (w' : World), RP w w' a r (zpF p 18) ∧ Ar w' H (arr .u64 18 q) → Q .normal ⟨#[t0, t1, t2, t3, t4, .pointer (some ⟨w.heap.size + 1 + 1 + 1, 0, none⟩), t6, t7, t8, .pointer (some ⟨H, 0, none⟩), t10, u11, t12, t13, t14, t15, t16, t17, t18, t19, t20, t21, t22, t23, t24, t25, t26, t27, t28, t29, t30, t31, t32, t33, t34, t35, t36, t37, t38, t39, t40, t41, t42, t43, t44, t45, t46, t47, t48, t49, t50, t51, t52, t53, t54, t55, t56, t57, t58, t59, t60, t61, t62, t63, t64, t65, t66, t67, t68, t69, t70, t71, u72, u73, u74, u75, u76, u77, t78, t79, t80, t81, t82, t83, t84, t85, t86, t87, t88, t89, t90, t91, t92, t93, t94, t95, t96, t97, t98, t99, t100, t101, t102, t103], []⟩ w') :
    (bk Try.f31 8).wp Try.prog Q ⟨#[t0, t1, t2, t3, t4, .pointer (some ⟨w.heap.size + 1 + 1 + 1, 0, none⟩), t6, t7, t8, .pointer (some ⟨H, 0, none⟩), t10, .int .i64 9, t12, t13, t14, t15, t16, t17, t18, t19, t20, t21, t22, t23, t24, t25, t26, t27, t28, t29, t30, t31, t32, t33, t34, t35, t36, t37, t38, t39, t40, t41, t42, t43, t44, t45, t46, t47, t48, t49, t50, t51, t52, t53, t54, t55, t56, t57, t58, t59, t60, t61, t62, t63, t64, t65, t66, t67, t68, t69, t70, t71, t72, t73, t74, t75, t76, t77, t78, t79, t80, t81, t82, t83, t84, t85, t86, t87, t88, t89, t90, t91, t92, t93, t94, t95, t96, t97, t98, t99, t100, t101, t102, t103], []⟩ w1 := by
  show Code.wp Try.prog (Code.block _ (Code.loop _)) Q _ _
  have HQ := (show Hid (∀ (u11 u72 u73 u74 u75 u76 u77 : Value) (w' : World), RP w w' a r (zpF p 18) ∧ Ar w' H (arr .u64 18 q) → Q .normal ⟨#[t0, t1, t2, t3, t4, .pointer (some ⟨w.heap.size + 1 + 1 + 1, 0, none⟩), t6, t7, t8, .pointer (some ⟨H, 0, none⟩), t10, u11, t12, t13, t14, t15, t16, t17, t18, t19, t20, t21, t22, t23, t24, t25, t26, t27, t28, t29, t30, t31, t32, t33, t34, t35, t36, t37, t38, t39, t40, t41, t42, t43, t44, t45, t46, t47, t48, t49, t50, t51, t52, t53, t54, t55, t56, t57, t58, t59, t60, t61, t62, t63, t64, t65, t66, t67, t68, t69, t70, t71, u72, u73, u74, u75, u76, u77, t78, t79, t80, t81, t82, t83, t84, t85, t86, t87, t88, t89, t90, t91, t92, t93, t94, t95, t96, t97, t98, t99, t100, t101, t102, t103], []⟩ w') from hQ)
  clear hQ
  have H0 : Hid ((RP w w1 a r (zpF p 9) ∧ Ar w1 H (arr .u64 18 q)) ∧ w.heap.size + 1 + 1 + 1 < H) := ⟨⟨h, hH⟩, hl⟩
  clear h hH hl
  go_wp2_with fail
  go_loopw [11] (fun v wr => ∃ (i : Nat), v = .int .i64 i ∧ i ≤ 18 ∧ 9 ≤ i ∧ RP w wr a r (zpF p i) ∧ Ar wr H (arr .u64 18 q)) (fun v wr => 18 - (intOf v).toNat)
  case atStart => exact ⟨9, rfl, by omega, by omega, H0.out.1⟩
  case round =>
    obtain ⟨i, rfl, hi, hi8, hz0, hz1⟩ := hrel
    have Z : Hid (RP w wr a r (zpF p i) ∧ Ar wr H (arr .u64 18 q)) := ⟨hz0, hz1⟩
    have HI : Hid (9 ≤ i) := hi8
    by_cases hlt : i < 18
    · have hd : decide ((i : Int) < 18) = true := by simp; omega
      have li : (i : Int) < 18 := by omega
      have c1 := (hz0.p.cell i).trans (arr_get .u64 18 _ hlt)
      have f1 := hz0.p.frozen i
      obtain ⟨x, hx⟩ : ∃ x, x = zpF p i i := ⟨_, rfl⟩
      rw [← hx] at c1
      clear hx hz0 hz1 hi8
      go_wp2_with fail
      go_roundw
      case rel =>
        have hl := H0.out.2
        refine ⟨i + 1, by go_num, by omega, by have := HI.out; omega, ?_, Z.out.2.other (by dsimp only; omega) _⟩
        rw [← zpF_succ p HI.out]
        exact Z.out.1.set i 0
      case measure => simp [intOf]; omega
    · have : i = 18 := by omega
      subst this
      have HE : Hid (RP w wr a r (zpF p 18) ∧ Ar wr H (arr .u64 18 q)) := ⟨hz0, hz1⟩
      clear hz0 hz1 Z
      go_wp2
      exact HQ.out _ _ _ _ _ _ _ _ HE.out

set_option maxRecDepth 100000 in
set_option maxHeartbeats 8000000 in
/-- Five times the high digits are added. -/
theorem rp4_any {Q : Exit → Act → World → Prop} {t0 t1 t2 t3 t4 t6 t7 t8 t10 t11 t13 t14 t15 t16 t17 t18 t19 t20 t21 t22 t23 t24 t25 t26 t27 t28 t29 t30 t31 t32 t33 t34 t35 t36 t37 t38 t39 t40 t41 t42 t43 t44 t45 t46 t47 t48 t49 t50 t51 t52 t53 t54 t55 t56 t57 t58 t59 t60 t61 t62 t63 t64 t65 t66 t67 t68 t69 t70 t71 t72 t73 t74 t75 t76 t77 t78 t79 t80 t81 t82 t83 t84 t85 t86 t87 t88 t89 t90 t91 t92 t93 t94 t95 t96 t97 t98 t99 t100 t101 t102 t103 : Value} {a r p : Nat → Int} {H : Nat} {w w1 : World} (h : RP w w1 a r (loF p)) (hH : Ar w1 H (arr .u64 18 (hiF p))) (hl : w.heap.size + 1 + 1 + 1 < H) (hh : ∀ i, i < 10 → 0 ≤ hiF p i ∧ hiF p i < 65536) (hp : D16 18 p)
    (hQ : ∀ (u12 u78 u79 u80 u81 u82 u83 u84 u85 u86 u87 u88 u89 u90 u91 : Value) (w' : World), RP w w' a r (tpF p 10) → Q .normal ⟨#[t0, t1, t2, t3, t4, .pointer (some ⟨w.heap.size + 1 + 1 + 1, 0, none⟩), t6, t7, t8, .pointer (some ⟨H, 0, none⟩), t10, t11, u12, t13, t14, t15, t16, t17, t18, t19, t20, t21, t22, t23, t24, t25, t26, t27, t28, t29, t30, t31, t32, t33, t34, t35, t36, t37, t38, t39, t40, t41, t42, t43, t44, t45, t46, t47, t48, t49, t50, t51, t52, t53, t54, t55, t56, t57, t58, t59, t60, t61, t62, t63, t64, t65, t66, t67, t68, t69, t70, t71, t72, t73, t74, t75, t76, t77, u78, u79, u80, u81, u82, u83, u84, u85, u86, u87, u88, u89, u90, u91, t92, t93, t94, t95, t96, t97, t98, t99, t100, t101, t102, t103], []⟩ w') :
    (bk Try.f31 10).wp Try.prog Q ⟨#[t0, t1, t2, t3, t4, .pointer (some ⟨w.heap.size + 1 + 1 + 1, 0, none⟩), t6, t7, t8, .pointer (some ⟨H, 0, none⟩), t10, t11, .int .i64 0, t13, t14, t15, t16, t17, t18, t19, t20, t21, t22, t23, t24, t25, t26, t27, t28, t29, t30, t31, t32, t33, t34, t35, t36, t37, t38, t39, t40, t41, t42, t43, t44, t45, t46, t47, t48, t49, t50, t51, t52, t53, t54, t55, t56, t57, t58, t59, t60, t61, t62, t63, t64, t65, t66, t67, t68, t69, t70, t71, t72, t73, t74, t75, t76, t77, t78, t79, t80, t81, t82, t83, t84, t85, t86, t87, t88, t89, t90, t91, t92, t93, t94, t95, t96, t97, t98, t99, t100, t101, t102, t103], []⟩ w1 := by
  show Code.wp Try.prog (Code.block _ (Code.loop _)) Q _ _
  have HQ := (show Hid (∀ (u12 u78 u79 u80 u81 u82 u83 u84 u85 u86 u87 u88 u89 u90 u91 : Value) (w' : World), RP w w' a r (tpF p 10) → Q .normal ⟨#[t0, t1, t2, t3, t4, .pointer (some ⟨w.heap.size + 1 + 1 + 1, 0, none⟩), t6, t7, t8, .pointer (some ⟨H, 0, none⟩), t10, t11, u12, t13, t14, t15, t16, t17, t18, t19, t20, t21, t22, t23, t24, t25, t26, t27, t28, t29, t30, t31, t32, t33, t34, t35, t36, t37, t38, t39, t40, t41, t42, t43, t44, t45, t46, t47, t48, t49, t50, t51, t52, t53, t54, t55, t56, t57, t58, t59, t60, t61, t62, t63, t64, t65, t66, t67, t68, t69, t70, t71, t72, t73, t74, t75, t76, t77, u78, u79, u80, u81, u82, u83, u84, u85, u86, u87, u88, u89, u90, u91, t92, t93, t94, t95, t96, t97, t98, t99, t100, t101, t102, t103], []⟩ w') from hQ)
  clear hQ
  have H0 : Hid ((RP w w1 a r (tpF p 0) ∧ Ar w1 H (arr .u64 18 (hiF p))) ∧ w.heap.size + 1 + 1 + 1 < H ∧ (∀ i, i < 10 → 0 ≤ hiF p i ∧ hiF p i < 65536) ∧ D16 18 p) := ⟨⟨by rw [tpF_start]; exact h, hH⟩, hl, hh, hp⟩
  clear h hH hl hh hp
  go_wp2_with fail
  go_loopw [12] (fun v wr => ∃ (i : Nat), v = .int .i64 i ∧ i ≤ 10 ∧ RP w wr a r (tpF p i) ∧ Ar wr H (arr .u64 18 (hiF p))) (fun v wr => 10 - (intOf v).toNat)
  case atStart => exact ⟨0, rfl, by omega, H0.out.1⟩
  case round =>
    obtain ⟨i, rfl, hi, hz0, hz1⟩ := hrel
    have Z : Hid (RP w wr a r (tpF p i) ∧ Ar wr H (arr .u64 18 (hiF p))) := ⟨hz0, hz1⟩
    by_cases hlt : i < 10
    · have hd : decide ((i : Int) < 10) = true := by simp; omega
      have li : (i : Int) < 18 := by omega
      have b1 := H0.out.2.2.1 i hlt
      have b2 : 0 ≤ loF p i ∧ loF p i < 65536 := by
        have h1 := H0.out.2.2.2 i (by omega)
        have h2 := H0.out.2.2.2 8 (by decide)
        unfold loF
        split
        · exact h1
        · split <;> omega
      have c1 := (hz0.p.cell i).trans (arr_get .u64 18 _ (by omega))
      have f1 := hz0.p.frozen i
      have c2 := (hz1.cell i).trans (arr_get .u64 18 _ (by omega))
      have e0 : tpF p i i = loF p i := by unfold tpF; rw [if_neg (by omega)]
      rw [e0] at c1
      obtain ⟨x, hx⟩ : ∃ x, x = loF p i := ⟨_, rfl⟩
      obtain ⟨y, hy⟩ : ∃ y, y = hiF p i := ⟨_, rfl⟩
      rw [← hx] at c1 b2
      rw [← hy] at c2 b1
      obtain ⟨z, hz⟩ : ∃ z, 5 * y = z := ⟨_, rfl⟩
      have wz := wrap_u (x := z) (by omega) (by omega)
      obtain ⟨g, hg⟩ : ∃ g, x + z = g := ⟨_, rfl⟩
      have wg := wrap_u (x := g) (by omega) (by omega)
      have HE : Hid (updI (tpF p i) i g = tpF p (i + 1)) := tpF_succ p i g (by rw [← hx, ← hy, hz, hg])
      clear hx hy hz0 hz1 b1 b2 e0
      go_wp2_with fail
      refine wp_region_noPanic ?_
      go_region_with (fail)
      all_goals refine NoPanic.normal ?_
      all_goals go_wp2
      all_goals
        go_roundw
        case rel =>
          have hl := H0.out.2.1
          obtain ⟨k0, k1⟩ := Z.out
          refine ⟨i + 1, by go_num, by omega, ?_, (k1.other (by dsimp only; omega) _).drew⟩
          rw [← HE.out]
          first
            | exact (k0.set i g).drew
            | exact k0.drew.set i g
        case measure => simp [intOf]; omega
    · have : i = 10 := by omega
      subst this
      have HE : Hid (RP w wr a r (tpF p 10)) := hz0
      clear hz0 hz1 Z
      go_wp2
      exact HQ.out _ _ _ _ _ _ _ _ _ _ _ _ _ _ _ _ HE.out
end Go.Proofs.Ytkdidacebfkdmaa
