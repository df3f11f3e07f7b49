/-
  A key that is longer than a block counts by its sum: what the law asks of it.
-/
import Derived.Test.YtlahfenjmpomhaaDoorInv
import Derived.Test.YtlahfenjmpomhaaDoorUnd
import Derived.Test.YtlahfenjmpomhaaDoorHlp
namespace Go.Proofs.YtlahfenjmpomhaaDoor
open Go.RowKit
set_option linter.unusedVariables false

theorem mac_summed (q : Int) (hv : Valid q) (xl xa : List Int) (h : blockOf q < xl.length) : macL q (sumL q xl) xa = macL q xl xa := by
  have e1 : keyOf q xl = sumL q xl := by rw [keyOf, if_pos h]
  have e2 : keyOf q (sumL q xl) = sumL q xl := by
    rw [keyOf, if_neg]
    rw [sumL_len]
    rcases hv with rfl | rfl | rfl <;> decide
  have e3 : ∀ y, blkK q (sumL q xl) y = blkK q xl y := by
    intro y
    unfold blkK
    refine List.map_congr_left fun j _ => ?_
    unfold blkF
    rw [e1, e2]
  rw [macL, macL, e3, e3]
theorem rg7R : reg Tryd.f7 7 = .region 7 (opsOf (reg Tryd.f7 7)) true := by kernel_rfl
theorem rg7N : (opsOf (reg Tryd.f7 7)).size = 17 := by kernel_rfl
theorem rg7D : dagB (opsOf (reg Tryd.f7 7)) = true := by kernel_rfl
theorem rg7A0 : ((opsOf (reg Tryd.f7 7))[0]?).map (fun o => (o.dst, o.op, o.guard)) = some (some 47, Op.move (.tmp 0), none) := by kernel_rfl
theorem rg7A1 : ((opsOf (reg Tryd.f7 7))[1]?).map (fun o => (o.dst, o.op, o.guard)) = some (some 48, Op.move (.tmp 11), none) := by kernel_rfl
theorem rg7A2 : ((opsOf (reg Tryd.f7 7))[2]?).map (fun o => (o.dst, o.op, o.guard)) = some (some 49, Op.move (.tmp 2), none) := by kernel_rfl
theorem rg7A3 : ((opsOf (reg Tryd.f7 7))[3]?).map (fun o => (o.dst, o.op, o.guard)) = some (some 50, Op.buildSlice 24 1 #[(0, .tmp 49)], none) := by kernel_rfl
theorem rg7A4 : ((opsOf (reg Tryd.f7 7))[4]?).map (fun o => (o.dst, o.op, o.guard)) = some (some 51, Op.call { callee := .value (.func 9), args := #[.tmp 47, .tmp 48, .tmp 50], argTypes := #[22, 23, 24] }, none) := by kernel_rfl
theorem rg7A5 : ((opsOf (reg Tryd.f7 7))[5]?).map (fun o => (o.dst, o.op, o.guard)) = some (some 52, Op.convert 23 9 (.tmp 51), none) := by kernel_rfl
theorem rg7A6 : ((opsOf (reg Tryd.f7 7))[6]?).map (fun o => (o.dst, o.op, o.guard)) = some (some 53, Op.move (.tmp 0), none) := by kernel_rfl
theorem rg7A7 : ((opsOf (reg Tryd.f7 7))[7]?).map (fun o => (o.dst, o.op, o.guard)) = some (some 54, Op.move (.tmp 0), none) := by kernel_rfl
theorem rg7A8 : ((opsOf (reg Tryd.f7 7))[8]?).map (fun o => (o.dst, o.op, o.guard)) = some (some 55, Op.move (.tmp 11), none) := by kernel_rfl
theorem rg7A9 : ((opsOf (reg Tryd.f7 7))[9]?).map (fun o => (o.dst, o.op, o.guard)) = some (some 56, Op.buildSlice 24 1 #[(0, .tmp 55)], none) := by kernel_rfl
theorem rg7A10 : ((opsOf (reg Tryd.f7 7))[10]?).map (fun o => (o.dst, o.op, o.guard)) = some (some 57, Op.call { callee := .value (.func 17), args := #[.tmp 54, .tmp 56], argTypes := #[22, 24] }, none) := by kernel_rfl
theorem rg7A11 : ((opsOf (reg Tryd.f7 7))[11]?).map (fun o => (o.dst, o.op, o.guard)) = some (some 58, Op.move (.tmp 2), none) := by kernel_rfl
theorem rg7A12 : ((opsOf (reg Tryd.f7 7))[12]?).map (fun o => (o.dst, o.op, o.guard)) = some (some 59, Op.buildSlice 24 1 #[(0, .tmp 58)], none) := by kernel_rfl
theorem rg7A13 : ((opsOf (reg Tryd.f7 7))[13]?).map (fun o => (o.dst, o.op, o.guard)) = some (some 60, Op.call { callee := .value (.func 9), args := #[.tmp 53, .tmp 57, .tmp 59], argTypes := #[22, 23, 24] }, none) := by kernel_rfl
theorem rg7A14 : ((opsOf (reg Tryd.f7 7))[14]?).map (fun o => (o.dst, o.op, o.guard)) = some (some 61, Op.convert 23 9 (.tmp 60), none) := by kernel_rfl
theorem rg7A15 : ((opsOf (reg Tryd.f7 7))[15]?).map (fun o => (o.dst, o.op, o.guard)) = some (some 62, Op.binOp .eql 9 (.tmp 52) (.tmp 61) 9, none) := by kernel_rfl
theorem rg7A16 : ((opsOf (reg Tryd.f7 7))[16]?).map (fun o => (o.dst, o.op, o.guard)) = some (some 13, Op.assign (.tmp 62), none) := by kernel_rfl
def rg7S (j : Nat) : Nat := match j with
  | 0 => 47
  | 1 => 48
  | 2 => 49
  | 3 => 50
  | 4 => 51
  | 5 => 52
  | 6 => 53
  | 7 => 54
  | 8 => 55
  | 9 => 56
  | 10 => 57
  | 11 => 58
  | 12 => 59
  | 13 => 60
  | 14 => 61
  | 15 => 62
  | 16 => 13
  | _ => 0
def rg7G (q : Int) (lo ao : Option Addr) (lm lc am ac : Nat) (xl xa : List Int) (s : ByteArray) (j : Nat) (v : Value) (w : World) : Prop := match j with
  | 0 => v = .int .i64 q
  | 1 => v = .slice lo lm lc
  | 2 => v = .slice ao am ac
  | 3 => (∃ o k c, v = .slice o k c) ∧ Pt w v [xa]
  | 4 => (∃ o k c, v = .slice o k c) ∧ TxV w v s
  | 5 => v = .string s
  | 6 => v = .int .i64 q
  | 7 => v = .int .i64 q
  | 8 => v = .slice lo lm lc
  | 9 => (∃ o k c, v = .slice o k c) ∧ Pt w v [xl]
  | 10 => (∃ o k c, v = .slice o k c) ∧ Ap.Rd w v (sumL q xl)
  | 11 => v = .slice ao am ac
  | 12 => (∃ o k c, v = .slice o k c) ∧ Pt w v [xa]
  | 13 => (∃ o k c, v = .slice o k c) ∧ TxV w v s
  | 14 => v = .string s
  | _ => v = .bool true
theorem rg7M (q : Int) (lo ao : Option Addr) (lm lc am ac : Nat) (xl xa : List Int) (s : ByteArray) : ∀ j v u u', rg7G q lo ao lm lc am ac xl xa s j v u → Chg u u' → rg7G q lo ao lm lc am ac xl xa s j v u' := by
  intro j v u u' h k
  unfold rg7G at *
  split at h <;> first | exact h | exact ⟨h.1, h.2.chg k⟩ | exact ⟨h.1, Rd.chg h.2 k⟩
theorem rg7I : ∀ j k, j < 17 → k < 17 → rg7S j = rg7S k → j = k := fun j k hj hk h => (show ∀ j, j < 17 → ∀ k, k < 17 → rg7S j = rg7S k → j = k by decide) j hj k hk h
theorem rg7L : ∀ j, j < 17 → rg7S j < 118 := by decide
set_option maxRecDepth 100000 in
theorem rg7Z (A : Array Value) (h : A.size = 118) : A = #[A.getD 0 undef, A.getD 1 undef, A.getD 2 undef, A.getD 3 undef, A.getD 4 undef, A.getD 5 undef, A.getD 6 undef, A.getD 7 undef, A.getD 8 undef, A.getD 9 undef, A.getD 10 undef, A.getD 11 undef, A.getD 12 undef, A.getD 13 undef, A.getD 14 undef, A.getD 15 undef, A.getD 16 undef, A.getD 17 undef, A.getD 18 undef, A.getD 19 undef, A.getD 20 undef, A.getD 21 undef, A.getD 22 undef, A.getD 23 undef, A.getD 24 undef, A.getD 25 undef, A.getD 26 undef, A.getD 27 undef, A.getD 28 undef, A.getD 29 undef, A.getD 30 undef, A.getD 31 undef, A.getD 32 undef, A.getD 33 undef, A.getD 34 undef, A.getD 35 undef, A.getD 36 undef, A.getD 37 undef, A.getD 38 undef, A.getD 39 undef, A.getD 40 undef, A.getD 41 undef, A.getD 42 undef, A.getD 43 undef, A.getD 44 undef, A.getD 45 undef, A.getD 46 undef, A.getD 47 undef, A.getD 48 undef, A.getD 49 undef, A.getD 50 undef, A.getD 51 undef, A.getD 52 undef, A.getD 53 undef, A.getD 54 undef, A.getD 55 undef, A.getD 56 undef, A.getD 57 undef, A.getD 58 undef, A.getD 59 undef, A.getD 60 undef, A.getD 61 undef, A.getD 62 undef, A.getD 63 undef, A.getD 64 undef, A.getD 65 undef, A.getD 66 undef, A.getD 67 undef, A.getD 68 undef, A.getD 69 undef, A.getD 70 undef, A.getD 71 undef, A.getD 72 undef, A.getD 73 undef, A.getD 74 undef, A.getD 75 undef, A.getD 76 undef, A.getD 77 undef, A.getD 78 undef, A.getD 79 undef, A.getD 80 undef, A.getD 81 undef, A.getD 82 undef, A.getD 83 undef, A.getD 84 undef, A.getD 85 undef, A.getD 86 undef, A.getD 87 undef, A.getD 88 undef, A.getD 89 undef, A.getD 90 undef, A.getD 91 undef, A.getD 92 undef, A.getD 93 undef, A.getD 94 undef, A.getD 95 undef, A.getD 96 undef, A.getD 97 undef, A.getD 98 undef, A.getD 99 undef, A.getD 100 undef, A.getD 101 undef, A.getD 102 undef, A.getD 103 undef, A.getD 104 undef, A.getD 105 undef, A.getD 106 undef, A.getD 107 undef, A.getD 108 undef, A.getD 109 undef, A.getD 110 undef, A.getD 111 undef, A.getD 112 undef, A.getD 113 undef, A.getD 114 undef, A.getD 115 undef, A.getD 116 undef, A.getD 117 undef] := by
  have e : A = ((List.range 118).map (fun i => A.getD i undef)).toArray := Array.ext (by simp [h]) (by intro i h1 h2; simp [h1])
  exact e.trans rfl

set_option maxRecDepth 100000 in
set_option maxHeartbeats 8000000 in
theorem sum7_any {Q : Exit → Act → World → Prop} {t1 t3 t4 t5 t6 t7 t8 t9 t10 t12 t13 t14 t15 t16 t17 t18 t19 t20 t21 t22 t23 t24 t25 t26 t27 t28 t29 t30 t31 t32 t33 t34 t35 t36 t37 t38 t39 t40 t41 t42 t43 t44 t45 t46 t47 t48 t49 t50 t51 t52 t53 t54 t55 t56 t57 t58 t59 t60 t61 t62 t63 t64 t65 t66 t67 t68 t69 t70 t71 t72 t73 t74 t75 t76 t77 t78 t79 t80 t81 t82 t83 t84 t85 t86 t87 t88 t89 t90 t91 t92 t93 t94 t95 t96 t97 t98 t99 t100 t101 t102 t103 t104 t105 t106 t107 t108 t109 t110 t111 t112 t113 t114 t115 t116 t117 : Value} (q : Int) (lo ao : Option Addr) (lm lc am ac : Nat) (xl xa : List Int) (w : World) (hv : Valid q) (ht : Tabs w) (ha : Ap.Rd w (.slice ao am ac) xa) (hal : xa.length ≤ 140737488351232) (hlo : Ap.Rd w (.slice lo lm lc) xl) (hll : xl.length ≤ 140737488351232) (hlong : blockOf q < xl.length)
    (hQ : ∀ (u47 u48 u49 u50 u51 u52 u53 u54 u55 u56 u57 u58 u59 u60 u61 u62 : Value) (w' : World), Chg w w' → Q .normal ⟨#[.int .i64 q, t1, .slice ao am ac, t3, t4, t5, t6, t7, t8, t9, t10, .slice lo lm lc, t12, .bool true, t14, t15, t16, t17, t18, t19, t20, t21, t22, t23, t24, t25, t26, t27, t28, t29, t30, t31, t32, t33, t34, t35, t36, t37, t38, t39, t40, t41, t42, t43, t44, t45, t46, u47, u48, u49, u50, u51, u52, u53, u54, u55, u56, u57, u58, u59, u60, u61, u62, t63, t64, t65, t66, t67, t68, t69, t70, t71, t72, t73, t74, t75, t76, t77, t78, t79, t80, t81, t82, t83, t84, t85, t86, t87, t88, t89, t90, t91, t92, t93, t94, t95, t96, t97, t98, t99, t100, t101, t102, t103, t104, t105, t106, t107, t108, t109, t110, t111, t112, t113, t114, t115, t116, t117], []⟩ w') :
    (reg Tryd.f7 7).wp Tryd.prog Q ⟨#[.int .i64 q, t1, .slice ao am ac, t3, t4, t5, t6, t7, t8, t9, t10, .slice lo lm lc, t12, t13, t14, t15, t16, t17, t18, t19, t20, t21, t22, t23, t24, t25, t26, t27, t28, t29, t30, t31, t32, t33, t34, t35, t36, t37, t38, t39, t40, t41, t42, t43, t44, t45, t46, t47, t48, t49, t50, t51, t52, t53, t54, t55, t56, t57, t58, t59, t60, t61, t62, t63, t64, t65, t66, t67, t68, t69, t70, t71, t72, t73, t74, t75, t76, t77, t78, t79, t80, t81, t82, t83, t84, t85, t86, t87, t88, t89, t90, t91, t92, t93, t94, t95, t96, t97, t98, t99, t100, t101, t102, t103, t104, t105, t106, t107, t108, t109, t110, t111, t112, t113, t114, t115, t116, t117], []⟩ w := by
  rw [rg7R]
  have HQ : Hid (∀ (u47 u48 u49 u50 u51 u52 u53 u54 u55 u56 u57 u58 u59 u60 u61 u62 : Value) (w' : World), Chg w w' → Q .normal ⟨#[.int .i64 q, t1, .slice ao am ac, t3, t4, t5, t6, t7, t8, t9, t10, .slice lo lm lc, t12, .bool true, t14, t15, t16, t17, t18, t19, t20, t21, t22, t23, t24, t25, t26, t27, t28, t29, t30, t31, t32, t33, t34, t35, t36, t37, t38, t39, t40, t41, t42, t43, t44, t45, t46, u47, u48, u49, u50, u51, u52, u53, u54, u55, u56, u57, u58, u59, u60, u61, u62, t63, t64, t65, t66, t67, t68, t69, t70, t71, t72, t73, t74, t75, t76, t77, t78, t79, t80, t81, t82, t83, t84, t85, t86, t87, t88, t89, t90, t91, t92, t93, t94, t95, t96, t97, t98, t99, t100, t101, t102, t103, t104, t105, t106, t107, t108, t109, t110, t111, t112, t113, t114, t115, t116, t117], []⟩ w') := hQ
  clear hQ
  obtain ⟨s, hs⟩ : ∃ s, s = strOfNums (macL q xl xa) := ⟨_, rfl⟩
  have HM : Hid (∀ u vk v xk, Chg w u → Ap.Rd u vk xk → xk.length ≤ 140737488351232 → macL q xk xa = macL q xl xa → Pt u v [xa] → Calls Tryd.prog 9 #[.int .i64 q, vk, v] u fun r w' => ∃ o k c, r = .returned (.slice o k c) ∧ Chg u w' ∧ TxV w' (.slice o k c) s) := by
    intro u vk v xk hu hk hkl he hp
    refine (mac_both q vk v xk [xa] u (ht.chg hu) hk hkl hp).mono ?_
    rintro r w' ⟨o, k, c, rfl, k1, k2⟩
    rw [show [xa].flatten = xa by simp, he] at k2
    rw [hs]
    exact ⟨o, k, c, rfl, k1, TxV.of k2⟩
  have HO : Hid (∀ u v, Chg w u → Pt u v [xl] → Calls Tryd.prog 17 #[.int .i64 q, v] u fun r w' => ∃ o k c, r = .returned (.slice o k c) ∧ Chg u w' ∧ Ap.Rd w' (.slice o k c) (sumL q xl)) := by
    intro u v hu hp
    refine (of_any q v [xl] u hv (ht.chg hu) hp).mono ?_
    rintro r w' ⟨b, rfl, _, k1, k2⟩
    rw [show [xl].flatten = xl by simp] at k2
    exact ⟨_, _, _, rfl, k1, Rd.ofArr k2 (Nat.le_trans (size_le q) (by omega))⟩
  have HPa : Hid (∀ u, Chg w u → Pt (u.alloc (.cells #[.slice ao am ac] 23)) (.slice (some ⟨u.heap.size, 0, none⟩) 1 1) [xa]) := fun u hu => Pt.made1 (Chg.refl u) (Rd.slA (Rd.chg ha hu) (by omega)) 23
  have HPl : Hid (∀ u, Chg w u → Pt (u.alloc (.cells #[.slice lo lm lc] 23)) (.slice (some ⟨u.heap.size, 0, none⟩) 1 1) [xl]) := fun u hu => Pt.made1 (Chg.refl u) (Rd.slA (Rd.chg hlo hu) (by omega)) 23
  have HL : Hid (Ap.Rd w (.slice lo lm lc) xl ∧ xl.length ≤ 140737488351232 ∧ macL q (sumL q xl) xa = macL q xl xa) := ⟨hlo, hll, mac_summed q hv xl xa hlong⟩
  clear hv ht ha hal hlo hll hlong hs
  refine wp_region_noPanic ?_
  refine wp_region_inv (by kernel_rfl) (RI 17 118 rg7S (rg7G q lo ao lm lc am ac xl xa s) w #[.int .i64 q, t1, .slice ao am ac, t3, t4, t5, t6, t7, t8, t9, t10, .slice lo lm lc, t12, t13, t14, t15, t16, t17, t18, t19, t20, t21, t22, t23, t24, t25, t26, t27, t28, t29, t30, t31, t32, t33, t34, t35, t36, t37, t38, t39, t40, t41, t42, t43, t44, t45, t46, t47, t48, t49, t50, t51, t52, t53, t54, t55, t56, t57, t58, t59, t60, t61, t62, t63, t64, t65, t66, t67, t68, t69, t70, t71, t72, t73, t74, t75, t76, t77, t78, t79, t80, t81, t82, t83, t84, t85, t86, t87, t88, t89, t90, t91, t92, t93, t94, t95, t96, t97, t98, t99, t100, t101, t102, t103, t104, t105, t106, t107, t108, t109, t110, t111, t112, t113, t114, t115, t116, t117]) rg7D ?_ ?_ ?_
  · intro l a w' i hI hi hdep
    rw [rg7N] at hi
    have hcs : i = 0 ∨ i = 1 ∨ i = 2 ∨ i = 3 ∨ i = 4 ∨ i = 5 ∨ i = 6 ∨ i = 7 ∨ i = 8 ∨ i = 9 ∨ i = 10 ∨ i = 11 ∨ i = 12 ∨ i = 13 ∨ i = 14 ∨ i = 15 ∨ i = 16 := by omega
    rcases hcs with rfl | rfl | rfl | rfl | rfl | rfl | rfl | rfl | rfl | rfl | rfl | rfl | rfl | rfl | rfl | rfl | rfl
    · obtain ⟨o, ho, hd, hop, hg⟩ := op_of rg7A0
      have hw := wanted_none (y := yielded (opsOf (reg Tryd.f7 7)) a.tmps) hg
      have e1 : a.eval (.tmp 0) = .int .i64 q := hI.frame 0 (by intro j hj; revert j; decide)
      refine step_val ho hw hd (v := a.eval (.tmp 0)) (by unfold execOp; rw [hop]; rfl) (hI.put rg7I rg7L (rg7M q lo ao lm lc am ac xl xa s) 0 (by decide) _ (Chg.refl _) e1)
    · obtain ⟨o, ho, hd, hop, hg⟩ := op_of rg7A1
      have hw := wanted_none (y := yielded (opsOf (reg Tryd.f7 7)) a.tmps) hg
      have e1 : a.eval (.tmp 11) = .slice lo lm lc := hI.frame 11 (by intro j hj; revert j; decide)
      refine step_val ho hw hd (v := a.eval (.tmp 11)) (by unfold execOp; rw [hop]; rfl) (hI.put rg7I rg7L (rg7M q lo ao lm lc am ac xl xa s) 1 (by decide) _ (Chg.refl _) e1)
    · obtain ⟨o, ho, hd, hop, hg⟩ := op_of rg7A2
      have hw := wanted_none (y := yielded (opsOf (reg Tryd.f7 7)) a.tmps) hg
      have e1 : a.eval (.tmp 2) = .slice ao am ac := hI.frame 2 (by intro j hj; revert j; decide)
      refine step_val ho hw hd (v := a.eval (.tmp 2)) (by unfold execOp; rw [hop]; rfl) (hI.put rg7I rg7L (rg7M q lo ao lm lc am ac xl xa s) 2 (by decide) _ (Chg.refl _) e1)
    · obtain ⟨o, ho, hd, hop, hg⟩ := op_of rg7A3
      have hw := wanted_none (y := yielded (opsOf (reg Tryd.f7 7)) a.tmps) hg
      have e1 : a.eval (.tmp 49) = .slice ao am ac := hI.good 2 (by decide) (hdep 2 (by kernel_rfl))
      refine step_val ho hw hd (v := .slice (some ⟨w'.heap.size, 0, none⟩) 1 1) (w' := w'.alloc (.cells #[.slice ao am ac] 23)) (by revert e1; generalize a.eval = ρ; intro e1; simp [go_sem, execOp, hop, e1]) (hI.put rg7I rg7L (rg7M q lo ao lm lc am ac xl xa s) 3 (by decide) _ ((Chg.refl _).alloc _) ⟨⟨_, _, _, rfl⟩, HPa.out _ hI.chg⟩)
    · obtain ⟨o, ho, hd, hop, hg⟩ := op_of rg7A4
      have hw := wanted_none (y := yielded (opsOf (reg Tryd.f7 7)) a.tmps) hg
      have e1 : a.eval (.tmp 47) = .int .i64 q := hI.good 0 (by decide) (hdep 0 (by kernel_rfl))
      have e2 : a.eval (.tmp 48) = .slice lo lm lc := hI.good 1 (by decide) (hdep 1 (by kernel_rfl))
      obtain ⟨⟨oe3, ke3, ce3, e3'⟩, xe3⟩ := hI.good 3 (by decide) (hdep 3 (by kernel_rfl))
      have e3 : a.eval (.tmp 50) = .slice oe3 ke3 ce3 := e3'
      rw [show a.tmps.getD (rg7S 3) undef = .slice oe3 ke3 ce3 from e3'] at xe3
      have hrun := run_go a o 9 Tryd.f9 #[.tmp 47, .tmp 48, .tmp 50] #[22, 23, 24] w' Tryd.func9 (by kernel_rfl) (by kernel_rfl) hop
      rw [show (#[.tmp 47, .tmp 48, .tmp 50] : Array Operand).map a.eval = #[a.eval (.tmp 47), a.eval (.tmp 48), a.eval (.tmp 50)] from by simp, e1, e2, e3] at hrun
      refine step_call ho hw hd hrun ((HM.out _ _ _ xl hI.chg (Rd.chg HL.out.1 hI.chg) HL.out.2.1 rfl xe3).mono ?_)
      rintro e w2 ⟨o2, k2, c2, rfl, hc2, ht2⟩
      exact ⟨_, rfl, hI.put rg7I rg7L (rg7M q lo ao lm lc am ac xl xa s) 4 (by decide) _ hc2 ⟨⟨_, _, _, rfl⟩, ht2⟩⟩
    · obtain ⟨o, ho, hd, hop, hg⟩ := op_of rg7A5
      have hw := wanted_none (y := yielded (opsOf (reg Tryd.f7 7)) a.tmps) hg
      obtain ⟨⟨oe1, ke1, ce1, e1'⟩, xe1⟩ := hI.good 4 (by decide) (hdep 4 (by kernel_rfl))
      have e1 : a.eval (.tmp 51) = .slice oe1 ke1 ce1 := e1'
      rw [show a.tmps.getD (rg7S 4) undef = .slice oe1 ke1 ce1 from e1'] at xe1
      have hc := xe1 w' (Chg.refl _)
      refine step_val ho hw hd (v := .string s) (w' := w') (by simp [execOp, hop, e1, hc]) (hI.put rg7I rg7L (rg7M q lo ao lm lc am ac xl xa s) 5 (by decide) _ (Chg.refl _) rfl)
    · obtain ⟨o, ho, hd, hop, hg⟩ := op_of rg7A6
      have hw := wanted_none (y := yielded (opsOf (reg Tryd.f7 7)) a.tmps) hg
      have e1 : a.eval (.tmp 0) = .int .i64 q := hI.frame 0 (by intro j hj; revert j; decide)
      refine step_val ho hw hd (v := a.eval (.tmp 0)) (by unfold execOp; rw [hop]; rfl) (hI.put rg7I rg7L (rg7M q lo ao lm lc am ac xl xa s) 6 (by decide) _ (Chg.refl _) e1)
    · obtain ⟨o, ho, hd, hop, hg⟩ := op_of rg7A7
      have hw := wanted_none (y := yielded (opsOf (reg Tryd.f7 7)) a.tmps) hg
      have e1 : a.eval (.tmp 0) = .int .i64 q := hI.frame 0 (by intro j hj; revert j; decide)
      refine step_val ho hw hd (v := a.eval (.tmp 0)) (by unfold execOp; rw [hop]; rfl) (hI.put rg7I rg7L (rg7M q lo ao lm lc am ac xl xa s) 7 (by decide) _ (Chg.refl _) e1)
    · obtain ⟨o, ho, hd, hop, hg⟩ := op_of rg7A8
      have hw := wanted_none (y := yielded (opsOf (reg Tryd.f7 7)) a.tmps) hg
      have e1 : a.eval (.tmp 11) = .slice lo lm lc := hI.frame 11 (by intro j hj; revert j; decide)
      refine step_val ho hw hd (v := a.eval (.tmp 11)) (by unfold execOp; rw [hop]; rfl) (hI.put rg7I rg7L (rg7M q lo ao lm lc am ac xl xa s) 8 (by decide) _ (Chg.refl _) e1)
    · obtain ⟨o, ho, hd, hop, hg⟩ := op_of rg7A9
      have hw := wanted_none (y := yielded (opsOf (reg Tryd.f7 7)) a.tmps) hg
      have e1 : a.eval (.tmp 55) = .slice lo lm lc := hI.good 8 (by decide) (hdep 8 (by kernel_rfl))
      refine step_val ho hw hd (v := .slice (some ⟨w'.heap.size, 0, none⟩) 1 1) (w' := w'.alloc (.cells #[.slice lo lm lc] 23)) (by revert e1; generalize a.eval = ρ; intro e1; simp [go_sem, execOp, hop, e1]) (hI.put rg7I rg7L (rg7M q lo ao lm lc am ac xl xa s) 9 (by decide) _ ((Chg.refl _).alloc _) ⟨⟨_, _, _, rfl⟩, HPl.out _ hI.chg⟩)
    · obtain ⟨o, ho, hd, hop, hg⟩ := op_of rg7A10
      have hw := wanted_none (y := yielded (opsOf (reg Tryd.f7 7)) a.tmps) hg
      have e1 : a.eval (.tmp 54) = .int .i64 q := hI.good 7 (by decide) (hdep 7 (by kernel_rfl))
      obtain ⟨⟨oe2, ke2, ce2, e2'⟩, xe2⟩ := hI.good 9 (by decide) (hdep 9 (by kernel_rfl))
      have e2 : a.eval (.tmp 56) = .slice oe2 ke2 ce2 := e2'
      rw [show a.tmps.getD (rg7S 9) undef = .slice oe2 ke2 ce2 from e2'] at xe2
      have hrun := run_go a o 17 Tryd.f17 #[.tmp 54, .tmp 56] #[22, 24] w' Tryd.func17 (by kernel_rfl) (by kernel_rfl) hop
      rw [show (#[.tmp 54, .tmp 56] : Array Operand).map a.eval = #[a.eval (.tmp 54), a.eval (.tmp 56)] from by simp, e1, e2] at hrun
      refine step_call ho hw hd hrun ((HO.out _ _ hI.chg xe2).mono ?_)
      rintro e w2 ⟨o2, k2, c2, rfl, hc2, ht2⟩
      exact ⟨_, rfl, hI.put rg7I rg7L (rg7M q lo ao lm lc am ac xl xa s) 10 (by decide) _ hc2 ⟨⟨_, _, _, rfl⟩, ht2⟩⟩
    · obtain ⟨o, ho, hd, hop, hg⟩ := op_of rg7A11
      have hw := wanted_none (y := yielded (opsOf (reg Tryd.f7 7)) a.tmps) hg
      have e1 : a.eval (.tmp 2) = .slice ao am ac := hI.frame 2 (by intro j hj; revert j; decide)
      refine step_val ho hw hd (v := a.eval (.tmp 2)) (by unfold execOp; rw [hop]; rfl) (hI.put rg7I rg7L (rg7M q lo ao lm lc am ac xl xa s) 11 (by decide) _ (Chg.refl _) e1)
    · obtain ⟨o, ho, hd, hop, hg⟩ := op_of rg7A12
      have hw := wanted_none (y := yielded (opsOf (reg Tryd.f7 7)) a.tmps) hg
      have e1 : a.eval (.tmp 58) = .slice ao am ac := hI.good 11 (by decide) (hdep 11 (by kernel_rfl))
      refine step_val ho hw hd (v := .slice (some ⟨w'.heap.size, 0, none⟩) 1 1) (w' := w'.alloc (.cells #[.slice ao am ac] 23)) (by revert e1; generalize a.eval = ρ; intro e1; simp [go_sem, execOp, hop, e1]) (hI.put rg7I rg7L (rg7M q lo ao lm lc am ac xl xa s) 12 (by decide) _ ((Chg.refl _).alloc _) ⟨⟨_, _, _, rfl⟩, HPa.out _ hI.chg⟩)
    · obtain ⟨o, ho, hd, hop, hg⟩ := op_of rg7A13
      have hw := wanted_none (y := yielded (opsOf (reg Tryd.f7 7)) a.tmps) hg
      have e1 : a.eval (.tmp 53) = .int .i64 q := hI.good 6 (by decide) (hdep 6 (by kernel_rfl))
      obtain ⟨⟨oe2, ke2, ce2, e2'⟩, xe2⟩ := hI.good 10 (by decide) (hdep 10 (by kernel_rfl))
      have e2 : a.eval (.tmp 57) = .slice oe2 ke2 ce2 := e2'
      rw [show a.tmps.getD (rg7S 10) undef = .slice oe2 ke2 ce2 from e2'] at xe2
      obtain ⟨⟨oe3, ke3, ce3, e3'⟩, xe3⟩ := hI.good 12 (by decide) (hdep 12 (by kernel_rfl))
      have e3 : a.eval (.tmp 59) = .slice oe3 ke3 ce3 := e3'
      rw [show a.tmps.getD (rg7S 12) undef = .slice oe3 ke3 ce3 from e3'] at xe3
      have hrun := run_go a o 9 Tryd.f9 #[.tmp 53, .tmp 57, .tmp 59] #[22, 23, 24] w' Tryd.func9 (by kernel_rfl) (by kernel_rfl) hop
      rw [show (#[.tmp 53, .tmp 57, .tmp 59] : Array Operand).map a.eval = #[a.eval (.tmp 53), a.eval (.tmp 57), a.eval (.tmp 59)] from by simp, e1, e2, e3] at hrun
      refine step_call ho hw hd hrun ((HM.out _ _ _ (sumL q xl) hI.chg xe2 (by rw [sumL_len]; have := size_le q; omega) HL.out.2.2 xe3).mono ?_)
      rintro e w2 ⟨o2, k2, c2, rfl, hc2, ht2⟩
      exact ⟨_, rfl, hI.put rg7I rg7L (rg7M q lo ao lm lc am ac xl xa s) 13 (by decide) _ hc2 ⟨⟨_, _, _, rfl⟩, ht2⟩⟩
    · obtain ⟨o, ho, hd, hop, hg⟩ := op_of rg7A14
      have hw := wanted_none (y := yielded (opsOf (reg Tryd.f7 7)) a.tmps) hg
      obtain ⟨⟨oe1, ke1, ce1, e1'⟩, xe1⟩ := hI.good 13 (by decide) (hdep 13 (by kernel_rfl))
      have e1 : a.eval (.tmp 60) = .slice oe1 ke1 ce1 := e1'
      rw [show a.tmps.getD (rg7S 13) undef = .slice oe1 ke1 ce1 from e1'] at xe1
      have hc := xe1 w' (Chg.refl _)
      refine step_val ho hw hd (v := .string s) (w' := w') (by simp [execOp, hop, e1, hc]) (hI.put rg7I rg7L (rg7M q lo ao lm lc am ac xl xa s) 14 (by decide) _ (Chg.refl _) rfl)
    · obtain ⟨o, ho, hd, hop, hg⟩ := op_of rg7A15
      have hw := wanted_none (y := yielded (opsOf (reg Tryd.f7 7)) a.tmps) hg
      have e1 : a.eval (.tmp 52) = .string s := hI.good 5 (by decide) (hdep 5 (by kernel_rfl))
      have e2 : a.eval (.tmp 61) = .string s := hI.good 14 (by decide) (hdep 14 (by kernel_rfl))
      refine step_val ho hw hd (v := .bool true) (w' := w') (by revert e1 e2; generalize a.eval = ρ; intro e1 e2; simp [go_sem, execOp, hop, e1, e2]) (hI.put rg7I rg7L (rg7M q lo ao lm lc am ac xl xa s) 15 (by decide) _ (Chg.refl _) rfl)
    · obtain ⟨o, ho, hd, hop, hg⟩ := op_of rg7A16
      have hw := wanted_none (y := yielded (opsOf (reg Tryd.f7 7)) a.tmps) hg
      have e1 : a.eval (.tmp 62) = .bool true := hI.good 15 (by decide) (hdep 15 (by kernel_rfl))
      refine step_val ho hw hd (v := a.eval (.tmp 62)) (by unfold execOp; rw [hop]; rfl) (hI.put rg7I rg7L (rg7M q lo ao lm lc am ac xl xa s) 16 (by decide) _ (Chg.refl _) e1)
  · intro l a w' hI hall
    rw [rg7N] at hall
    refine NoPanic.normal ?_
    have e := rg7Z a.tmps hI.size
    have f0 : a.tmps.getD 0 undef = .int .i64 q := hI.frame 0 (by intro j hj; revert j; decide)
    have f1 : a.tmps.getD 1 undef = t1 := hI.frame 1 (by intro j hj; revert j; decide)
    have f2 : a.tmps.getD 2 undef = .slice ao am ac := hI.frame 2 (by intro j hj; revert j; decide)
    have f3 : a.tmps.getD 3 undef = t3 := hI.frame 3 (by intro j hj; revert j; decide)
    have f4 : a.tmps.getD 4 undef = t4 := hI.frame 4 (by intro j hj; revert j; decide)
    have f5 : a.tmps.getD 5 undef = t5 := hI.frame 5 (by intro j hj; revert j; decide)
    have f6 : a.tmps.getD 6 undef = t6 := hI.frame 6 (by intro j hj; revert j; decide)
    have f7 : a.tmps.getD 7 undef = t7 := hI.frame 7 (by intro j hj; revert j; decide)
    have f8 : a.tmps.getD 8 undef = t8 := hI.frame 8 (by intro j hj; revert j; decide)
    have f9 : a.tmps.getD 9 undef = t9 := hI.frame 9 (by intro j hj; revert j; decide)
    have f10 : a.tmps.getD 10 undef = t10 := hI.frame 10 (by intro j hj; revert j; decide)
    have f11 : a.tmps.getD 11 undef = .slice lo lm lc := hI.frame 11 (by intro j hj; revert j; decide)
    have f12 : a.tmps.getD 12 undef = t12 := hI.frame 12 (by intro j hj; revert j; decide)
    have f14 : a.tmps.getD 14 undef = t14 := hI.frame 14 (by intro j hj; revert j; decide)
    have f15 : a.tmps.getD 15 undef = t15 := hI.frame 15 (by intro j hj; revert j; decide)
    have f16 : a.tmps.getD 16 undef = t16 := hI.frame 16 (by intro j hj; revert j; decide)
    have f17 : a.tmps.getD 17 undef = t17 := hI.frame 17 (by intro j hj; revert j; decide)
    have f18 : a.tmps.getD 18 undef = t18 := hI.frame 18 (by intro j hj; revert j; decide)
    have f19 : a.tmps.getD 19 undef = t19 := hI.frame 19 (by intro j hj; revert j; decide)
    have f20 : a.tmps.getD 20 undef = t20 := hI.frame 20 (by intro j hj; revert j; decide)
    have f21 : a.tmps.getD 21 undef = t21 := hI.frame 21 (by intro j hj; revert j; decide)
    have f22 : a.tmps.getD 22 undef = t22 := hI.frame 22 (by intro j hj; revert j; decide)
    have f23 : a.tmps.getD 23 undef = t23 := hI.frame 23 (by intro j hj; revert j; decide)
    have f24 : a.tmps.getD 24 undef = t24 := hI.frame 24 (by intro j hj; revert j; decide)
    have f25 : a.tmps.getD 25 undef = t25 := hI.frame 25 (by intro j hj; revert j; decide)
    have f26 : a.tmps.getD 26 undef = t26 := hI.frame 26 (by intro j hj; revert j; decide)
    have f27 : a.tmps.getD 27 undef = t27 := hI.frame 27 (by intro j hj; revert j; decide)
    have f28 : a.tmps.getD 28 undef = t28 := hI.frame 28 (by intro j hj; revert j; decide)
    have f29 : a.tmps.getD 29 undef = t29 := hI.frame 29 (by intro j hj; revert j; decide)
    have f30 : a.tmps.getD 30 undef = t30 := hI.frame 30 (by intro j hj; revert j; decide)
    have f31 : a.tmps.getD 31 undef = t31 := hI.frame 31 (by intro j hj; revert j; decide)
    have f32 : a.tmps.getD 32 undef = t32 := hI.frame 32 (by intro j hj; revert j; decide)
    have f33 : a.tmps.getD 33 undef = t33 := hI.frame 33 (by intro j hj; revert j; decide)
    have f34 : a.tmps.getD 34 undef = t34 := hI.frame 34 (by intro j hj; revert j; decide)
    have f35 : a.tmps.getD 35 undef = t35 := hI.frame 35 (by intro j hj; revert j; decide)
    have f36 : a.tmps.getD 36 undef = t36 := hI.frame 36 (by intro j hj; revert j; decide)
    have f37 : a.tmps.getD 37 undef = t37 := hI.frame 37 (by intro j hj; revert j; decide)
    have f38 : a.tmps.getD 38 undef = t38 := hI.frame 38 (by intro j hj; revert j; decide)
    have f39 : a.tmps.getD 39 undef = t39 := hI.frame 39 (by intro j hj; revert j; decide)
    have f40 : a.tmps.getD 40 undef = t40 := hI.frame 40 (by intro j hj; revert j; decide)
    have f41 : a.tmps.getD 41 undef = t41 := hI.frame 41 (by intro j hj; revert j; decide)
    have f42 : a.tmps.getD 42 undef = t42 := hI.frame 42 (by intro j hj; revert j; decide)
    have f43 : a.tmps.getD 43 undef = t43 := hI.frame 43 (by intro j hj; revert j; decide)
    have f44 : a.tmps.getD 44 undef = t44 := hI.frame 44 (by intro j hj; revert j; decide)
    have f45 : a.tmps.getD 45 undef = t45 := hI.frame 45 (by intro j hj; revert j; decide)
    have f46 : a.tmps.getD 46 undef = t46 := hI.frame 46 (by intro j hj; revert j; decide)
    have f63 : a.tmps.getD 63 undef = t63 := hI.frame 63 (by intro j hj; revert j; decide)
    have f64 : a.tmps.getD 64 undef = t64 := hI.frame 64 (by intro j hj; revert j; decide)
    have f65 : a.tmps.getD 65 undef = t65 := hI.frame 65 (by intro j hj; revert j; decide)
    have f66 : a.tmps.getD 66 undef = t66 := hI.frame 66 (by intro j hj; revert j; decide)
    have f67 : a.tmps.getD 67 undef = t67 := hI.frame 67 (by intro j hj; revert j; decide)
    have f68 : a.tmps.getD 68 undef = t68 := hI.frame 68 (by intro j hj; revert j; decide)
    have f69 : a.tmps.getD 69 undef = t69 := hI.frame 69 (by intro j hj; revert j; decide)
    have f70 : a.tmps.getD 70 undef = t70 := hI.frame 70 (by intro j hj; revert j; decide)
    have f71 : a.tmps.getD 71 undef = t71 := hI.frame 71 (by intro j hj; revert j; decide)
    have f72 : a.tmps.getD 72 undef = t72 := hI.frame 72 (by intro j hj; revert j; decide)
    have f73 : a.tmps.getD 73 undef = t73 := hI.frame 73 (by intro j hj; revert j; decide)
    have f74 : a.tmps.getD 74 undef = t74 := hI.frame 74 (by intro j hj; revert j; decide)
    have f75 : a.tmps.getD 75 undef = t75 := hI.frame 75 (by intro j hj; revert j; decide)
    have f76 : a.tmps.getD 76 undef = t76 := hI.frame 76 (by intro j hj; revert j; decide)
    have f77 : a.tmps.getD 77 undef = t77 := hI.frame 77 (by intro j hj; revert j; decide)
    have f78 : a.tmps.getD 78 undef = t78 := hI.frame 78 (by intro j hj; revert j; decide)
    have f79 : a.tmps.getD 79 undef = t79 := hI.frame 79 (by intro j hj; revert j; decide)
    have f80 : a.tmps.getD 80 undef = t80 := hI.frame 80 (by intro j hj; revert j; decide)
    have f81 : a.tmps.getD 81 undef = t81 := hI.frame 81 (by intro j hj; revert j; decide)
    have f82 : a.tmps.getD 82 undef = t82 := hI.frame 82 (by intro j hj; revert j; decide)
    have f83 : a.tmps.getD 83 undef = t83 := hI.frame 83 (by intro j hj; revert j; decide)
    have f84 : a.tmps.getD 84 undef = t84 := hI.frame 84 (by intro j hj; revert j; decide)
    have f85 : a.tmps.getD 85 undef = t85 := hI.frame 85 (by intro j hj; revert j; decide)
    have f86 : a.tmps.getD 86 undef = t86 := hI.frame 86 (by intro j hj; revert j; decide)
    have f87 : a.tmps.getD 87 undef = t87 := hI.frame 87 (by intro j hj; revert j; decide)
    have f88 : a.tmps.getD 88 undef = t88 := hI.frame 88 (by intro j hj; revert j; decide)
    have f89 : a.tmps.getD 89 undef = t89 := hI.frame 89 (by intro j hj; revert j; decide)
    have f90 : a.tmps.getD 90 undef = t90 := hI.frame 90 (by intro j hj; revert j; decide)
    have f91 : a.tmps.getD 91 undef = t91 := hI.frame 91 (by intro j hj; revert j; decide)
    have f92 : a.tmps.getD 92 undef = t92 := hI.frame 92 (by intro j hj; revert j; decide)
    have f93 : a.tmps.getD 93 undef = t93 := hI.frame 93 (by intro j hj; revert j; decide)
    have f94 : a.tmps.getD 94 undef = t94 := hI.frame 94 (by intro j hj; revert j; decide)
    have f95 : a.tmps.getD 95 undef = t95 := hI.frame 95 (by intro j hj; revert j; decide)
    have f96 : a.tmps.getD 96 undef = t96 := hI.frame 96 (by intro j hj; revert j; decide)
    have f97 : a.tmps.getD 97 undef = t97 := hI.frame 97 (by intro j hj; revert j; decide)
    have f98 : a.tmps.getD 98 undef = t98 := hI.frame 98 (by intro j hj; revert j; decide)
    have f99 : a.tmps.getD 99 undef = t99 := hI.frame 99 (by intro j hj; revert j; decide)
    have f100 : a.tmps.getD 100 undef = t100 := hI.frame 100 (by intro j hj; revert j; decide)
    have f101 : a.tmps.getD 101 undef = t101 := hI.frame 101 (by intro j hj; revert j; decide)
    have f102 : a.tmps.getD 102 undef = t102 := hI.frame 102 (by intro j hj; revert j; decide)
    have f103 : a.tmps.getD 103 undef = t103 := hI.frame 103 (by intro j hj; revert j; decide)
    have f104 : a.tmps.getD 104 undef = t104 := hI.frame 104 (by intro j hj; revert j; decide)
    have f105 : a.tmps.getD 105 undef = t105 := hI.frame 105 (by intro j hj; revert j; decide)
    have f106 : a.tmps.getD 106 undef = t106 := hI.frame 106 (by intro j hj; revert j; decide)
    have f107 : a.tmps.getD 107 undef = t107 := hI.frame 107 (by intro j hj; revert j; decide)
    have f108 : a.tmps.getD 108 undef = t108 := hI.frame 108 (by intro j hj; revert j; decide)
    have f109 : a.tmps.getD 109 undef = t109 := hI.frame 109 (by intro j hj; revert j; decide)
    have f110 : a.tmps.getD 110 undef = t110 := hI.frame 110 (by intro j hj; revert j; decide)
    have f111 : a.tmps.getD 111 undef = t111 := hI.frame 111 (by intro j hj; revert j; decide)
    have f112 : a.tmps.getD 112 undef = t112 := hI.frame 112 (by intro j hj; revert j; decide)
    have f113 : a.tmps.getD 113 undef = t113 := hI.frame 113 (by intro j hj; revert j; decide)
    have f114 : a.tmps.getD 114 undef = t114 := hI.frame 114 (by intro j hj; revert j; decide)
    have f115 : a.tmps.getD 115 undef = t115 := hI.frame 115 (by intro j hj; revert j; decide)
    have f116 : a.tmps.getD 116 undef = t116 := hI.frame 116 (by intro j hj; revert j; decide)
    have f117 : a.tmps.getD 117 undef = t117 := hI.frame 117 (by intro j hj; revert j; decide)
    have f13 : a.tmps.getD 13 undef = .bool true := hI.good 16 (by decide) (hall 16 (by decide))
    rw [f0, f1, f2, f3, f4, f5, f6, f7, f8, f9, f10, f11, f12, f14, f15, f16, f17, f18, f19, f20, f21, f22, f23, f24, f25, f26, f27, f28, f29, f30, f31, f32, f33, f34, f35, f36, f37, f38, f39, f40, f41, f42, f43, f44, f45, f46, f63, f64, f65, f66, f67, f68, f69, f70, f71, f72, f73, f74, f75, f76, f77, f78, f79, f80, f81, f82, f83, f84, f85, f86, f87, f88, f89, f90, f91, f92, f93, f94, f95, f96, f97, f98, f99, f100, f101, f102, f103, f104, f105, f106, f107, f108, f109, f110, f111, f112, f113, f114, f115, f116, f117, f13] at e
    have ea : a = ⟨#[.int .i64 q, t1, .slice ao am ac, t3, t4, t5, t6, t7, t8, t9, t10, .slice lo lm lc, t12, .bool true, t14, t15, t16, t17, t18, t19, t20, t21, t22, t23, t24, t25, t26, t27, t28, t29, t30, t31, t32, t33, t34, t35, t36, t37, t38, t39, t40, t41, t42, t43, t44, t45, t46, a.tmps.getD 47 undef, a.tmps.getD 48 undef, a.tmps.getD 49 undef, a.tmps.getD 50 undef, a.tmps.getD 51 undef, a.tmps.getD 52 undef, a.tmps.getD 53 undef, a.tmps.getD 54 undef, a.tmps.getD 55 undef, a.tmps.getD 56 undef, a.tmps.getD 57 undef, a.tmps.getD 58 undef, a.tmps.getD 59 undef, a.tmps.getD 60 undef, a.tmps.getD 61 undef, a.tmps.getD 62 undef, t63, t64, t65, t66, t67, t68, t69, t70, t71, t72, t73, t74, t75, t76, t77, t78, t79, t80, t81, t82, t83, t84, t85, t86, t87, t88, t89, t90, t91, t92, t93, t94, t95, t96, t97, t98, t99, t100, t101, t102, t103, t104, t105, t106, t107, t108, t109, t110, t111, t112, t113, t114, t115, t116, t117], []⟩ := by
      obtain ⟨A, d⟩ := a
      have hd : d = [] := hI.defers
      subst hd
      exact congrArg (fun x => (⟨x, []⟩ : Act)) e
    rw [ea]
    exact HQ.out _ _ _ _ _ _ _ _ _ _ _ _ _ _ _ _ _ hI.chg
  · refine ⟨(Chg.refl w).drew, rfl, rfl, by simp [rg7N], fun k hk => rfl, fun j hj hl => ?_⟩
    rw [rg7N] at hl
    simp [Array.getD_eq_getD_getElem?, hj] at hl
end Go.Proofs.YtlahfenjmpomhaaDoor
