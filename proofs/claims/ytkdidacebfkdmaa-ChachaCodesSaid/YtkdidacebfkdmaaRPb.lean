/-
  The document's code of a text: a piece is added.
-/
import Derived.Test.YtkdidacebfkdmaaRPa
namespace Go.Proofs.Ytkdidacebfkdmaa
open Go.RowKit
set_option linter.unusedVariables false

theorem addG_succ (a : Nat → Int) (f : Nat → By) (t : Nat) (x : Int) (hx : x = addF a (gF f t) (t / 2) + nmF f t * 2 ^ (8 * (t % 2))) : updI (addF a (gF f t)) (t / 2) x = addF a (gF f (t + 1)) := by
  funext j
  rw [gF_succ]
  unfold updI addF
  dsimp only
  by_cases h : j = t / 2
  · subst h
    rw [if_pos rfl, if_pos rfl, hx]
    unfold addF
    omega
  · rw [if_neg h, if_neg h]
theorem addG_zero (a : Nat → Int) (f : Nat → By) : addF a (gF f 0) = a := by
  funext j
  show a j + 0 = a j
  omega

set_option maxRecDepth 100000 in
set_option maxHeartbeats 8000000 in
/-- The bytes of a piece are added. -/
theorem ry2_any {Q : Exit → Act → World → Prop} {t0 t2 t3 t4 t5 t6 t7 t11 t12 t13 t14 t15 t16 t17 t18 t19 t20 t21 t22 t23 t24 t25 t26 t27 t28 t29 t30 t31 t32 t33 t34 t35 t36 t37 t38 t39 t40 t41 t42 t43 t44 t45 t46 t47 t48 t49 t50 t51 t52 t53 t54 t55 t56 t57 t58 t59 t60 t61 t62 t63 t64 t65 t66 t67 t68 t69 t70 t71 t72 t73 t74 t75 t76 t77 t78 t79 t80 t81 t82 t83 t84 t85 t86 t87 t88 t89 t90 t91 t92 t93 t94 t95 t96 t97 t98 t99 t100 t101 t102 t103 t104 t105 t106 t107 t108 t109 t110 t111 t112 t113 t114 t115 t116 t117 t118 t119 t120 t121 t122 t123 t124 t125 t126 t127 t128 t129 t130 t131 t132 t133 t134 t135 t136 t137 t138 : Value} {key txt f : Nat → By} {r a : Nat → Int} {tb tt n cap fr l AB : Nat} {w w1 : World} (h : RY w w1 key r) (hA : Ar w1 AB (arr .u64 9 a)) (hAB : w.heap.size + 1 + 1 < AB) (hb : Bs w tb tt n txt) (ha : D16 9 a) (hf : ∀ j, f j = txt (fr + j)) (hl : l = min 16 (n - fr)) (hfr : fr < n) (hn : n ≤ 281474976710656)
    (hQ : ∀ (u10 u57 u58 u59 u60 u61 u62 u63 u64 u65 u66 u67 u68 u69 u70 u71 u72 u73 u74 u75 u76 u77 u78 u79 u80 u81 u82 u83 u84 u85 u86 u87 : Value) (w' : World), RY w w' key r ∧ Ar w' AB (arr .u64 9 (addF a (gF f l))) → Q .normal ⟨#[t0, .slice (some ⟨tb, tt, none⟩) n cap, t2, t3, t4, t5, t6, t7, .pointer (some ⟨AB, 0, none⟩), .int .i64 (fr : Int), u10, t11, t12, t13, t14, t15, t16, t17, t18, t19, t20, t21, t22, t23, t24, t25, t26, t27, t28, t29, t30, t31, t32, t33, t34, t35, t36, t37, t38, t39, t40, t41, t42, t43, t44, t45, t46, t47, t48, t49, t50, t51, t52, t53, t54, t55, t56, u57, u58, u59, u60, u61, u62, u63, u64, u65, u66, u67, u68, u69, u70, u71, u72, u73, u74, u75, u76, u77, u78, u79, u80, u81, u82, u83, u84, u85, u86, u87, t88, t89, t90, t91, t92, t93, t94, t95, t96, t97, t98, t99, t100, t101, t102, t103, t104, t105, t106, t107, t108, t109, t110, t111, t112, t113, t114, t115, t116, t117, t118, t119, t120, t121, t122, t123, t124, t125, t126, t127, t128, t129, t130, t131, t132, t133, t134, t135, t136, t137, t138], []⟩ w') :
    (bk Try.f14 4).wp Try.prog Q ⟨#[t0, .slice (some ⟨tb, tt, none⟩) n cap, t2, t3, t4, t5, t6, t7, .pointer (some ⟨AB, 0, none⟩), .int .i64 (fr : Int), .int .i64 0, t11, t12, t13, t14, t15, t16, t17, t18, t19, t20, t21, t22, t23, t24, t25, t26, t27, t28, t29, t30, t31, t32, t33, t34, t35, t36, t37, t38, t39, t40, t41, t42, t43, t44, t45, t46, t47, t48, t49, t50, t51, t52, t53, t54, t55, t56, t57, t58, t59, t60, t61, t62, t63, t64, t65, t66, t67, t68, t69, t70, t71, t72, t73, t74, t75, t76, t77, t78, t79, t80, t81, t82, t83, t84, t85, t86, t87, t88, t89, t90, t91, t92, t93, t94, t95, t96, t97, t98, t99, t100, t101, t102, t103, t104, t105, t106, t107, t108, t109, t110, t111, t112, t113, t114, t115, t116, t117, t118, t119, t120, t121, t122, t123, t124, t125, t126, t127, t128, t129, t130, t131, t132, t133, t134, t135, t136, t137, t138], []⟩ w1 := by
  show Code.wp Try.prog (Code.block _ (Code.loop _)) Q _ _
  have HQ := (show Hid (∀ (u10 u57 u58 u59 u60 u61 u62 u63 u64 u65 u66 u67 u68 u69 u70 u71 u72 u73 u74 u75 u76 u77 u78 u79 u80 u81 u82 u83 u84 u85 u86 u87 : Value) (w' : World), RY w w' key r ∧ Ar w' AB (arr .u64 9 (addF a (gF f l))) → Q .normal ⟨#[t0, .slice (some ⟨tb, tt, none⟩) n cap, t2, t3, t4, t5, t6, t7, .pointer (some ⟨AB, 0, none⟩), .int .i64 (fr : Int), u10, t11, t12, t13, t14, t15, t16, t17, t18, t19, t20, t21, t22, t23, t24, t25, t26, t27, t28, t29, t30, t31, t32, t33, t34, t35, t36, t37, t38, t39, t40, t41, t42, t43, t44, t45, t46, t47, t48, t49, t50, t51, t52, t53, t54, t55, t56, u57, u58, u59, u60, u61, u62, u63, u64, u65, u66, u67, u68, u69, u70, u71, u72, u73, u74, u75, u76, u77, u78, u79, u80, u81, u82, u83, u84, u85, u86, u87, t88, t89, t90, t91, t92, t93, t94, t95, t96, t97, t98, t99, t100, t101, t102, t103, t104, t105, t106, t107, t108, t109, t110, t111, t112, t113, t114, t115, t116, t117, t118, t119, t120, t121, t122, t123, t124, t125, t126, t127, t128, t129, t130, t131, t132, t133, t134, t135, t136, t137, t138], []⟩ w') from hQ)
  clear hQ
  have H0 : Hid ((RY w w1 key r ∧ Ar w1 AB (arr .u64 9 (addF a (gF f 0)))) ∧ Bs w tb tt n txt ∧ D16 9 a) := ⟨⟨h, by rw [addG_zero]; exact hA⟩, hb, ha⟩
  have HAB : Hid (w.heap.size + 1 + 1 < AB) := hAB
  have HF : Hid ((∀ j, f j = txt (fr + j)) ∧ l = min 16 (n - fr) ∧ fr < n ∧ n ≤ 281474976710656) := ⟨hf, hl, hfr, hn⟩
  clear h hA hb ha hf hl hfr hn hAB
  go_wp2_with fail
  go_loopw [10] (fun v wr => ∃ (t : Nat), v = .int .i64 t ∧ t ≤ l ∧ RY w wr key r ∧ Ar wr AB (arr .u64 9 (addF a (gF f t)))) (fun v wr => l - (intOf v).toNat)
  case atStart => exact ⟨0, rfl, by omega, H0.out.1⟩
  case round =>
    obtain ⟨t, rfl, ht, hz0, hz1⟩ := hrel
    have Z : Hid (RY w wr key r ∧ Ar wr AB (arr .u64 9 (addF a (gF f t)))) := ⟨hz0, hz1⟩
    have hF := HF.out
    obtain ⟨fi, hfi⟩ : ∃ fi : Nat, (fr : Int) + t = fi := ⟨fr + t, by omega⟩
    have wfi := wrap_i (x := (fi : Int)) (by omega) (by omega)
    by_cases hlt : t < l
    · have HLT : Hid (t < l) := hlt
      have hd : decide ((t : Int) < 16) = true := by simp; omega
      have hd2 : decide ((fi : Int) < n) = true := by simp; omega
      have lfi : (fi : Int) < n := by omega
      have lfi' : fi < n := by omega
      have lt16 : t < 16 := by omega
      obtain ⟨q, r2, s, e1, e2, e3, v1, v2, v3, ls, ls', HQ⟩ := dm2 t (by omega)
      have lq : (q : Int) < 9 := by have := HQ.out.1; omega
      have c1 := (hz1.cell q).trans (arr_get .u64 9 _ (by omega))
      have f1 := hz1.frozen q
      have c2 := (H0.out.2.1.chg hz0.chg) fi lfi'
      obtain ⟨k, hk⟩ : ∃ k, k = txt fi := ⟨_, rfl⟩
      rw [← hk] at c2
      obtain ⟨x, hx⟩ : ∃ x, x = addF a (gF f t) q := ⟨_, rfl⟩
      rw [← hx] at c1
      have bx : 0 ≤ x ∧ x < 131072 := by
        have h1 := H0.out.2.2 q (by omega)
        have h2 := (gF_le f t q).1
        rw [hx]
        unfold addF
        omega
      obtain ⟨y, hy⟩ : ∃ y, (k.toNat : Int) * 2 ^ s = y := ⟨_, rfl⟩
      have hk8 := k.isLt
      have wk : IntKind.u64.wrap (k.toNat : Int) = k.toNat := wrap_u (by omega) (by omega)
      have by0 : 0 ≤ y ∧ y < 65536 := by
        have := HQ.out.2.2
        rcases this with ⟨_, h⟩ | ⟨_, h⟩ <;> rw [h] at hy <;> omega
      have wy := wrap_u (x := y) (by omega) (by omega)
      have my : y % 18446744073709551616 = y := by omega
      obtain ⟨g, hg⟩ : ∃ g, x + y = g := ⟨_, rfl⟩
      have wg := wrap_u (x := g) (by omega) (by omega)
      have HE : Hid (updI (addF a (gF f t)) q g = addF a (gF f (t + 1))) := by
        show _ = _
        rw [HQ.out.1]
        refine addG_succ a f t g ?_
        have e : nmF f t = (k.toNat : Int) := by
          unfold nmF
          rw [hF.1 t, hk, show fr + t = fi by omega]
        rw [← HQ.out.1, ← HQ.out.2.1, ← hx, e, hy, hg]
      clear hx by0 hk8 hk bx hz0 hz1 hF
      go_wp2_with fail
      refine wp_region_noPanic ?_
      go_region_with (fail)
      all_goals refine NoPanic.normal ?_
      all_goals go_wp2
      all_goals
        go_roundw
        case rel =>
          refine ⟨t + 1, by go_num, HLT.out, ?_, ?_⟩
          · exact (Z.out.1.other HAB.out q _).drew
          · have hh := Z.out.2.set q (.int .u64 g)
            rw [arr_set, upd_updI, HE.out] at hh
            first
              | exact hh.drew
              | (rw [hy, my, hg, wg]; exact hh.drew)
              | (rw [hy, my, hg]; exact hh.drew)
              | (rw [wk, hy, my, hg, wg]; exact hh.drew)
        case measure => have := HLT.out; simp [intOf]; omega
    · have htl : t = l := by omega
      subst htl
      have HE : Hid (RY w wr key r ∧ Ar wr AB (arr .u64 9 (addF a (gF f t)))) := ⟨hz0, hz1⟩
      by_cases h16 : t < 16
      · have hd : decide ((t : Int) < 16) = true := by simp; omega
        have hd2 : decide ((fi : Int) < n) = false := by simp; omega
        have hn3 : ¬ fi < n := by omega
        clear hz0 hz1 Z hF
        go_wp2
        exact HQ.out _ _ _ _ _ _ _ _ _ _ _ _ _ _ _ _ _ _ _ _ _ _ _ _ _ _ _ _ _ _ _ _ _ HE.out
      · have hd : decide ((t : Int) < 16) = false := by simp; omega
        clear hz0 hz1 Z hF
        go_wp2
        exact HQ.out _ _ _ _ _ _ _ _ _ _ _ _ _ _ _ _ _ _ _ _ _ _ _ _ _ _ _ _ _ _ _ _ _ HE.out
end Go.Proofs.Ytkdidacebfkdmaa
