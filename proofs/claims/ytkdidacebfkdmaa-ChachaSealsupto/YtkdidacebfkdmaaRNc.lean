/-
  The document's product: the digits multiplied.
-/
import Derived.Test.YtkdidacebfkdmaaRNb
namespace Go.Proofs.Ytkdidacebfkdmaa
open Go.RowKit
set_option linter.unusedVariables false

set_option maxRecDepth 100000 in
set_option maxHeartbeats 8000000 in
/-- Digits multiplied. -/
theorem rp1_any {Q : Exit → Act → World → Prop} {t0 t1 t4 t7 t8 t9 t10 t11 t12 t13 t14 t15 t16 t17 t18 t19 t20 t21 t22 t23 t24 t25 t26 t27 t28 t29 t30 t31 t32 t33 t34 t35 t36 t37 t38 t39 t40 t41 t42 t43 t44 t45 t46 t47 t48 t49 t50 t51 t52 t53 t54 t55 t56 t57 t58 t59 t60 t61 t62 t63 t64 t65 t66 t67 t68 t69 t70 t71 t72 t73 t74 t75 t76 t77 t78 t79 t80 t81 t82 t83 t84 t85 t86 t87 t88 t89 t90 t91 t92 t93 t94 t95 t96 t97 t98 t99 t100 t101 t102 t103 : Value} {a r : Nat → Int} {w w1 : World} (h : RP w w1 a r zI) (ha : ∀ i, i < 9 → 0 ≤ a i ∧ a i ≤ 131072) (hr : D16 8 r)
    (hQ : ∀ (u6 u7 u15 u16 u17 u18 u19 u20 u21 u22 u23 u24 u25 u26 u27 u28 u29 u30 u31 u32 u33 u34 u35 u36 u37 u38 u39 : Value) (w' : World), RP w w' a r (cvF a r 72) → Q .normal ⟨#[t0, t1, .pointer (some ⟨w.heap.size, 0, none⟩), .pointer (some ⟨w.heap.size + 1, 0, none⟩), t4, .pointer (some ⟨w.heap.size + 1 + 1 + 1, 0, none⟩), u6, u7, t8, t9, t10, t11, t12, t13, t14, u15, u16, u17, u18, u19, u20, u21, u22, u23, u24, u25, u26, u27, u28, u29, u30, u31, u32, u33, u34, u35, u36, u37, u38, u39, t40, t41, t42, t43, t44, t45, t46, t47, t48, t49, t50, t51, t52, t53, t54, t55, t56, t57, t58, t59, t60, t61, t62, t63, t64, t65, t66, t67, t68, t69, t70, t71, t72, t73, t74, t75, t76, t77, t78, t79, t80, t81, t82, t83, t84, t85, t86, t87, t88, t89, t90, t91, t92, t93, t94, t95, t96, t97, t98, t99, t100, t101, t102, t103], []⟩ w') :
    (bk Try.f31 0).wp Try.prog Q ⟨#[t0, t1, .pointer (some ⟨w.heap.size, 0, none⟩), .pointer (some ⟨w.heap.size + 1, 0, none⟩), t4, .pointer (some ⟨w.heap.size + 1 + 1 + 1, 0, none⟩), .int .i64 0, t7, t8, t9, t10, t11, t12, t13, t14, t15, t16, t17, t18, t19, t20, t21, t22, t23, t24, t25, t26, t27, t28, t29, t30, t31, t32, t33, t34, t35, t36, t37, t38, t39, t40, t41, t42, t43, t44, t45, t46, t47, t48, t49, t50, t51, t52, t53, t54, t55, t56, t57, t58, t59, t60, t61, t62, t63, t64, t65, t66, t67, t68, t69, t70, t71, t72, t73, t74, t75, t76, t77, t78, t79, t80, t81, t82, t83, t84, t85, t86, t87, t88, t89, t90, t91, t92, t93, t94, t95, t96, t97, t98, t99, t100, t101, t102, t103], []⟩ w1 := by
  show Code.wp Try.prog (Code.block _ (Code.loop _)) Q _ _
  have HQ := (show Hid (∀ (u6 u7 u15 u16 u17 u18 u19 u20 u21 u22 u23 u24 u25 u26 u27 u28 u29 u30 u31 u32 u33 u34 u35 u36 u37 u38 u39 : Value) (w' : World), RP w w' a r (cvF a r 72) → Q .normal ⟨#[t0, t1, .pointer (some ⟨w.heap.size, 0, none⟩), .pointer (some ⟨w.heap.size + 1, 0, none⟩), t4, .pointer (some ⟨w.heap.size + 1 + 1 + 1, 0, none⟩), u6, u7, t8, t9, t10, t11, t12, t13, t14, u15, u16, u17, u18, u19, u20, u21, u22, u23, u24, u25, u26, u27, u28, u29, u30, u31, u32, u33, u34, u35, u36, u37, u38, u39, t40, t41, t42, t43, t44, t45, t46, t47, t48, t49, t50, t51, t52, t53, t54, t55, t56, t57, t58, t59, t60, t61, t62, t63, t64, t65, t66, t67, t68, t69, t70, t71, t72, t73, t74, t75, t76, t77, t78, t79, t80, t81, t82, t83, t84, t85, t86, t87, t88, t89, t90, t91, t92, t93, t94, t95, t96, t97, t98, t99, t100, t101, t102, t103], []⟩ w') from hQ)
  clear hQ
  have H0 : Hid (RP w w1 a r (cvF a r (8 * 0)) ∧ (∀ i, i < 9 → 0 ≤ a i ∧ a i ≤ 131072) ∧ D16 8 r) := ⟨h, ha, hr⟩
  clear h ha hr
  go_wp2_with fail
  go_loopw [6] (fun v wr => ∃ (i : Nat), v = .int .i64 i ∧ i ≤ 9 ∧ RP w wr a r (cvF a r (8 * i))) (fun v wr => 9 - (intOf v).toNat)
  case atStart => exact ⟨0, rfl, by omega, H0.out.1⟩
  case round =>
    obtain ⟨i, rfl, hi, hz0⟩ := hrel
    by_cases hlt : i < 9
    · have hd : decide ((i : Int) < 9) = true := by simp; omega
      have li : (i : Int) < 9 := by omega
      have Z : Hid (RP w wr a r (cvF a r (8 * i + 0))) := hz0
      clear hz0
      go_wp2_with fail
      go_loopw [7] (fun v wr => ∃ (k : Nat), v = .int .i64 k ∧ k ≤ 8 ∧ RP w wr a r (cvF a r (8 * i + k))) (fun v wr => 8 - (intOf v).toNat)
      case atStart => exact ⟨0, rfl, by omega, Z.out⟩
      case round =>
        clear Z
        obtain ⟨k, rfl, hk, hz0⟩ := hrel
        by_cases hkt : k < 8
        · have hd2 : decide ((k : Int) < 8) = true := by simp; omega
          have lk : (k : Int) < 8 := by omega
          have Z : Hid (RP w wr a r (cvF a r (8 * i + k))) := hz0
          obtain ⟨s, e1, e2, ls, ls', HS⟩ := addr_sum i k hlt hkt
          have b1 := H0.out.2.1 i hlt
          have b2 := H0.out.2.2 k hkt
          have b3 := cvF_le H0.out.2.1 H0.out.2.2 (8 * i + k) (by omega) s
          have c1 := (hz0.p.cell s).trans (arr_get .u64 18 _ ls')
          have f1 := hz0.p.frozen s
          have c2 := (hz0.a.cell i).trans (arr_get .u64 9 _ hlt)
          have c3 := (hz0.r.cell k).trans (arr_get .u64 8 _ hkt)
          obtain ⟨x, hx⟩ : ∃ x, x = cvF a r (8 * i + k) s := ⟨_, rfl⟩
          obtain ⟨y, hy⟩ : ∃ y, y = a i := ⟨_, rfl⟩
          obtain ⟨z, hzz⟩ : ∃ z, z = r k := ⟨_, rfl⟩
          rw [← hx] at c1 b3
          rw [← hy] at c2 b1
          rw [← hzz] at c3 b2
          have m0 : 0 ≤ y * z := Int.mul_nonneg b1.1 b2.1
          have m1 : y * z ≤ 131072 * 65536 := Int.mul_le_mul b1.2 (by omega) b2.1 (by decide)
          obtain ⟨q, hq⟩ : ∃ q, y * z = q := ⟨_, rfl⟩
          rw [hq] at m0 m1
          have wq := wrap_u (x := q) m0 (by omega)
          obtain ⟨x', hx'⟩ : ∃ x', x + q = x' := ⟨_, rfl⟩
          have wx := wrap_u (x := x') (by omega) (by omega)
          have HE : Hid (cvF a r (8 * i + (k + 1)) = updI (cvF a r (8 * i + k)) s x') := by
            show _ = _
            rw [show 8 * i + (k + 1) = 8 * i + k + 1 from rfl, cvF_succ, show (8 * i + k) / 8 = i by omega, show (8 * i + k) % 8 = k by omega, ← HS.out, ← hx, ← hy, ← hzz, hq, hx']
          clear hx hy hzz hz0 b1 b2 b3 m0 m1 ls'
          go_wp2_with fail
          refine wp_region_noPanic ?_
          go_region_with (fail)
          all_goals refine NoPanic.normal ?_
          all_goals go_wp2
          all_goals
            go_roundw
            case rel =>
              refine ⟨k + 1, by go_num, by omega, ?_⟩
              rw [HE.out]
              first
                | exact (Z.out.set s x').drew
                | exact Z.out.drew.set s x'
            case measure => simp [intOf]; omega
        · have : k = 8 := by omega
          subst this
          have Z : Hid (RP w wr a r (cvF a r (8 * (i + 1)))) := hz0
          clear hz0
          go_wp2_with fail
          go_roundw
          case rel => exact ⟨i + 1, by go_num, by omega, Z.out⟩
          case measure => simp [intOf]; omega
    · have : i = 9 := by omega
      subst this
      have HE : Hid (RP w wr a r (cvF a r 72)) := hz0
      clear hz0
      go_wp2
      exact HQ.out _ _ _ _ _ _ _ _ _ _ _ _ _ _ _ _ _ _ _ _ _ _ _ _ _ _ _ _ HE.out
end Go.Proofs.Ytkdidacebfkdmaa
