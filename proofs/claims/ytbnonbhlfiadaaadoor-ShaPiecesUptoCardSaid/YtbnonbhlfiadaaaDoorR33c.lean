/-
  What ShaPieces asks at the end, whatever order its operations come up in.
-/
import Derived.Test.YtbnonbhlfiadaaaDoorR33b
namespace Go.Proofs.YtbnonbhlfiadaaaDoor
open Go.RowKit
set_option linter.unusedVariables false

set_option maxRecDepth 100000 in
theorem arr137 (A : Array Value) (h : A.size = 137) : A = #[A.getD 0 undef, A.getD 1 undef, A.getD 2 undef, A.getD 3 undef, A.getD 4 undef, A.getD 5 undef, A.getD 6 undef, A.getD 7 undef, A.getD 8 undef, A.getD 9 undef, A.getD 10 undef, A.getD 11 undef, A.getD 12 undef, A.getD 13 undef, A.getD 14 undef, A.getD 15 undef, A.getD 16 undef, A.getD 17 undef, A.getD 18 undef, A.getD 19 undef, A.getD 20 undef, A.getD 21 undef, A.getD 22 undef, A.getD 23 undef, A.getD 24 undef, A.getD 25 undef, A.getD 26 undef, A.getD 27 undef, A.getD 28 undef, A.getD 29 undef, A.getD 30 undef, A.getD 31 undef, A.getD 32 undef, A.getD 33 undef, A.getD 34 undef, A.getD 35 undef, A.getD 36 undef, A.getD 37 undef, A.getD 38 undef, A.getD 39 undef, A.getD 40 undef, A.getD 41 undef, A.getD 42 undef, A.getD 43 undef, A.getD 44 undef, A.getD 45 undef, A.getD 46 undef, A.getD 47 undef, A.getD 48 undef, A.getD 49 undef, A.getD 50 undef, A.getD 51 undef, A.getD 52 undef, A.getD 53 undef, A.getD 54 undef, A.getD 55 undef, A.getD 56 undef, A.getD 57 undef, A.getD 58 undef, A.getD 59 undef, A.getD 60 undef, A.getD 61 undef, A.getD 62 undef, A.getD 63 undef, A.getD 64 undef, A.getD 65 undef, A.getD 66 undef, A.getD 67 undef, A.getD 68 undef, A.getD 69 undef, A.getD 70 undef, A.getD 71 undef, A.getD 72 undef, A.getD 73 undef, A.getD 74 undef, A.getD 75 undef, A.getD 76 undef, A.getD 77 undef, A.getD 78 undef, A.getD 79 undef, A.getD 80 undef, A.getD 81 undef, A.getD 82 undef, A.getD 83 undef, A.getD 84 undef, A.getD 85 undef, A.getD 86 undef, A.getD 87 undef, A.getD 88 undef, A.getD 89 undef, A.getD 90 undef, A.getD 91 undef, A.getD 92 undef, A.getD 93 undef, A.getD 94 undef, A.getD 95 undef, A.getD 96 undef, A.getD 97 undef, A.getD 98 undef, A.getD 99 undef, A.getD 100 undef, A.getD 101 undef, A.getD 102 undef, A.getD 103 undef, A.getD 104 undef, A.getD 105 undef, A.getD 106 undef, A.getD 107 undef, A.getD 108 undef, A.getD 109 undef, A.getD 110 undef, A.getD 111 undef, A.getD 112 undef, A.getD 113 undef, A.getD 114 undef, A.getD 115 undef, A.getD 116 undef, A.getD 117 undef, A.getD 118 undef, A.getD 119 undef, A.getD 120 undef, A.getD 121 undef, A.getD 122 undef, A.getD 123 undef, A.getD 124 undef, A.getD 125 undef, A.getD 126 undef, A.getD 127 undef, A.getD 128 undef, A.getD 129 undef, A.getD 130 undef, A.getD 131 undef, A.getD 132 undef, A.getD 133 undef, A.getD 134 undef, A.getD 135 undef, A.getD 136 undef] := by
  have e : A = ((List.range 137).map (fun i => A.getD i undef)).toArray := Array.ext (by simp [h]) (by intro i h1 h2; simp [h1])
  exact e.trans rfl

set_option maxRecDepth 100000 in
set_option maxHeartbeats 8000000 in
theorem last_any {Q : Exit → Act → World → Prop} {t2 t3 t4 t5 t6 t7 t10 t11 t12 t13 t14 t15 t16 t17 t18 t19 t20 t21 t22 t23 t24 t25 t26 t27 t28 t29 t30 t31 t32 t33 t34 t35 t36 t37 t38 t39 t40 t41 t42 t43 t44 t45 t46 t47 t48 t49 t50 t51 t52 t53 t54 t55 t56 t57 t58 t59 t60 t61 t62 t63 t64 t65 t66 t67 t68 t69 t70 t71 t72 t73 t74 t75 t76 t77 t78 t79 t80 t81 t82 t83 t84 t85 t86 t87 t88 t89 t90 t91 t92 t93 t94 t95 t96 t97 t98 t99 t100 t101 t102 t103 t104 t105 t106 t107 t108 t109 t110 t111 t112 t113 t114 t115 t116 t117 t118 t119 t120 t121 t122 t123 t124 t125 t126 t127 t128 t129 t130 t131 t132 t133 t134 t135 t136 : Value} (q : Int) (D : Nat) (all : List Int) (xss : List (List Int)) (so p : Option Addr) (sm sc n cap : Nat) (w : World) (hv : Valid q) (ht : Tabs w) (hd : DgC w D q all (cnt all)) (ha : Ap.Rd w (.slice so sm sc) all) (hal : all.length < 4611686018427387904) (hp : PtR w (.slice p n cap) xss) (hl : xss.flatten.length ≤ 140737488351232)
    (hQ : ∀ (u109 u110 u111 u112 u113 u114 u115 u116 u117 u118 u119 u120 u121 u122 u123 u124 u125 u126 u127 u128 u129 u130 u131 u132 u133 u134 u135 u136 : Value) (w' : World), Chg w w' → Q .normal ⟨#[.int .i64 q, .slice p n cap, t2, t3, t4, t5, .bool true, t7, .pointer (some ⟨D, 0, none⟩), .slice so sm sc, t10, t11, t12, t13, t14, t15, t16, t17, t18, t19, t20, t21, t22, t23, t24, t25, t26, t27, t28, t29, t30, t31, t32, t33, t34, t35, t36, t37, t38, t39, t40, t41, t42, t43, t44, t45, t46, t47, t48, t49, t50, t51, t52, t53, t54, t55, t56, t57, t58, t59, t60, t61, t62, t63, t64, t65, t66, t67, t68, t69, t70, t71, t72, t73, t74, t75, t76, t77, t78, t79, t80, t81, t82, t83, t84, t85, t86, t87, t88, t89, t90, t91, t92, t93, t94, t95, t96, t97, t98, t99, t100, t101, t102, t103, t104, t105, t106, t107, t108, u109, u110, u111, u112, u113, u114, u115, u116, u117, u118, u119, u120, u121, u122, u123, u124, u125, u126, u127, u128, u129, u130, u131, u132, u133, u134, u135, u136], []⟩ w') :
    (reg Tryd.f4 33).wp Tryd.prog Q ⟨#[.int .i64 q, .slice p n cap, t2, t3, t4, t5, t6, t7, .pointer (some ⟨D, 0, none⟩), .slice so sm sc, t10, t11, t12, t13, t14, t15, t16, t17, t18, t19, t20, t21, t22, t23, t24, t25, t26, t27, t28, t29, t30, t31, t32, t33, t34, t35, t36, t37, t38, t39, t40, t41, t42, t43, t44, t45, t46, t47, t48, t49, t50, t51, t52, t53, t54, t55, t56, t57, t58, t59, t60, t61, t62, t63, t64, t65, t66, t67, t68, t69, t70, t71, t72, t73, t74, t75, t76, t77, t78, t79, t80, t81, t82, t83, t84, t85, t86, t87, t88, t89, t90, t91, t92, t93, t94, t95, t96, t97, t98, t99, t100, t101, t102, t103, t104, t105, t106, t107, t108, t109, t110, t111, t112, t113, t114, t115, t116, t117, t118, t119, t120, t121, t122, t123, t124, t125, t126, t127, t128, t129, t130, t131, t132, t133, t134, t135, t136], []⟩ w := by
  rw [reg33]
  have HQ : Hid (∀ (u109 u110 u111 u112 u113 u114 u115 u116 u117 u118 u119 u120 u121 u122 u123 u124 u125 u126 u127 u128 u129 u130 u131 u132 u133 u134 u135 u136 : Value) (w' : World), Chg w w' → Q .normal ⟨#[.int .i64 q, .slice p n cap, t2, t3, t4, t5, .bool true, t7, .pointer (some ⟨D, 0, none⟩), .slice so sm sc, t10, t11, t12, t13, t14, t15, t16, t17, t18, t19, t20, t21, t22, t23, t24, t25, t26, t27, t28, t29, t30, t31, t32, t33, t34, t35, t36, t37, t38, t39, t40, t41, t42, t43, t44, t45, t46, t47, t48, t49, t50, t51, t52, t53, t54, t55, t56, t57, t58, t59, t60, t61, t62, t63, t64, t65, t66, t67, t68, t69, t70, t71, t72, t73, t74, t75, t76, t77, t78, t79, t80, t81, t82, t83, t84, t85, t86, t87, t88, t89, t90, t91, t92, t93, t94, t95, t96, t97, t98, t99, t100, t101, t102, t103, t104, t105, t106, t107, t108, u109, u110, u111, u112, u113, u114, u115, u116, u117, u118, u119, u120, u121, u122, u123, u124, u125, u126, u127, u128, u129, u130, u131, u132, u133, u134, u135, u136], []⟩ w') := hQ
  clear hQ
  obtain ⟨s1, hs1⟩ : ∃ s, s = strOfNums (sumL q all) := ⟨_, rfl⟩
  obtain ⟨s2, hs2⟩ : ∃ s, s = strOfNums (sumL q xss.flatten) := ⟨_, rfl⟩
  have HH : Hid (∀ u, Chg w u → Calls Tryd.prog 18 #[.pointer (some ⟨D, 0, none⟩)] u fun r w' => r = .returned (.int .i64 q) ∧ w' = u) := by
    intro u hu
    obtain ⟨rest, h1, _⟩ := hd.chg hu
    exact hash_any D q _ u h1 (dig_hash _ _ _ _ _)
  have HSm : Hid (∀ u, Chg w u → Calls Tryd.prog 16 #[.pointer (some ⟨D, 0, none⟩)] u fun r w' => ∃ o k c, r = .returned (.slice o k c) ∧ Chg u w' ∧ TxV w' (.slice o k c) s1) := by
    intro u hu
    refine (sum_any D q all u hv (ht.chg hu) (hd.chg hu)).mono ?_
    rintro r w' ⟨b, rfl, _, k2, k3⟩
    refine ⟨_, _, _, rfl, k2, fun u2 hu2 => ?_⟩
    rw [hs1]
    exact run_strA u2 b _ _ (k3.chg hu2)
  have HOf : Hid (∀ u v, Chg w u → Pt u v [all] → Calls Tryd.prog 8 #[.int .i64 q, v] u fun r w' => ∃ o k c, r = .returned (.slice o k c) ∧ Chg u w' ∧ TxV w' (.slice o k c) s1) := by
    intro u v hu hp
    have := of_both q v [all] u (ht.chg hu) hp
    rw [show [all].flatten = all by simp, ← hs1] at this
    exact this
  have HPt : Hid (∀ u, Chg w u → Pt (u.alloc (.cells #[.slice so sm sc] 23)) (.slice (some ⟨u.heap.size, 0, none⟩) 1 1) [all]) := fun u hu => Pt.made1 (Chg.refl u) (Rd.slA (Rd.chg ha hu) hal) 23
  have HOl : Hid (∀ u, Chg w u → Calls Tryd.prog 8 #[.int .i64 q, .slice p n cap] u fun r w' => ∃ o k c, r = .returned (.slice o k c) ∧ Chg u w' ∧ TxV w' (.slice o k c) s2) := by
    intro u hu
    have := of_both q (.slice p n cap) xss u (ht.chg hu) ((hp.chg hu).pt (fun xs hx => by have := flat_mem hx; omega))
    rw [← hs2] at this
    exact this
  have HJ : Hid (∀ u, Chg w u → Calls Tryd.prog 19 #[.slice p n cap] u fun r w' => ∃ o k c, r = .returned (.slice o k c) ∧ Chg u w' ∧ Ap.Rd w' (.slice o k c) xss.flatten) := by
    intro u hu
    refine (join_any (.slice p n cap) xss u (hp.chg hu) hl).mono ?_
    rintro r w' ⟨v', rfl, ho⟩
    obtain ⟨o, k, c, rfl, -⟩ := ho.own.rd.shape
    exact ⟨o, k, c, rfl, Chg.ofAp ho.chg, ho.own.rd⟩
  have HOj : Hid (∀ u v, Chg w u → Pt u v [xss.flatten] → Calls Tryd.prog 8 #[.int .i64 q, v] u fun r w' => ∃ o k c, r = .returned (.slice o k c) ∧ Chg u w' ∧ TxV w' (.slice o k c) s2) := by
    intro u v hu hp
    have := of_both q v [xss.flatten] u (ht.chg hu) hp
    rw [show [xss.flatten].flatten = xss.flatten by simp, ← hs2] at this
    exact this
  have HPj : Hid (∀ u o k c, Ap.Rd u (.slice o k c) xss.flatten → Pt (u.alloc (.cells #[.slice o k c] 23)) (.slice (some ⟨u.heap.size, 0, none⟩) 1 1) [xss.flatten]) := fun u o k c hr => Pt.made1 (Chg.refl u) (Rd.slA hr (by omega)) 23
  clear hv ht hd ha hal hp hl hs1 hs2
  refine wp_region_noPanic ?_
  refine wp_region_inv (by kernel_rfl) (I33 q D so p sm sc n cap all xss s1 s2 w #[.int .i64 q, .slice p n cap, t2, t3, t4, t5, t6, t7, .pointer (some ⟨D, 0, none⟩), .slice so sm sc, t10, t11, t12, t13, t14, t15, t16, t17, t18, t19, t20, t21, t22, t23, t24, t25, t26, t27, t28, t29, t30, t31, t32, t33, t34, t35, t36, t37, t38, t39, t40, t41, t42, t43, t44, t45, t46, t47, t48, t49, t50, t51, t52, t53, t54, t55, t56, t57, t58, t59, t60, t61, t62, t63, t64, t65, t66, t67, t68, t69, t70, t71, t72, t73, t74, t75, t76, t77, t78, t79, t80, t81, t82, t83, t84, t85, t86, t87, t88, t89, t90, t91, t92, t93, t94, t95, t96, t97, t98, t99, t100, t101, t102, t103, t104, t105, t106, t107, t108, t109, t110, t111, t112, t113, t114, t115, t116, t117, t118, t119, t120, t121, t122, t123, t124, t125, t126, t127, t128, t129, t130, t131, t132, t133, t134, t135, t136]) dag33 ?_ ?_ ?_
  · intro l a w' i hI hi hdep
    rw [size33] at hi
    have h29 : i = 0 ∨ i = 1 ∨ i = 2 ∨ i = 3 ∨ i = 4 ∨ i = 5 ∨ i = 6 ∨ i = 7 ∨ i = 8 ∨ i = 9 ∨ i = 10 ∨ i = 11 ∨ i = 12 ∨ i = 13 ∨ i = 14 ∨ i = 15 ∨ i = 16 ∨ i = 17 ∨ i = 18 ∨ i = 19 ∨ i = 20 ∨ i = 21 ∨ i = 22 ∨ i = 23 ∨ i = 24 ∨ i = 25 ∨ i = 26 ∨ i = 27 ∨ i = 28 := by omega
    rcases h29 with rfl | rfl | rfl | rfl | rfl | rfl | rfl | rfl | rfl | rfl | rfl | rfl | rfl | rfl | rfl | rfl | rfl | rfl | rfl | rfl | rfl | rfl | rfl | rfl | rfl | rfl | rfl | rfl | rfl
    · obtain ⟨o, ho, hd, hop, hg⟩ := op_of at33_0
      have hw := wanted_none (y := yielded (opsOf (reg Tryd.f4 33)) a.tmps) hg
      have e1 : a.eval (.tmp 8) = .pointer (some ⟨D, 0, none⟩) := hI.frame 8 (by decide) (by decide)
      refine step_val ho hw hd (v := a.eval (.tmp 8)) (by unfold execOp; rw [hop]; rfl) (I33.put _ _ _ _ _ _ _ _ _ _ _ _ _ _ _ _ _ _ hI 0 (by decide) _ (Chg.refl _) e1)
    · obtain ⟨o, ho, hd, hop, hg⟩ := op_of at33_1
      have hw := wanted_none (y := yielded (opsOf (reg Tryd.f4 33)) a.tmps) hg
      have e1 : a.eval (.tmp 109) = .pointer (some ⟨D, 0, none⟩) := hI.good 0 (by decide) (hdep 0 (by kernel_rfl))
      have hrun := run_go a o 18 Tryd.f18 #[.tmp 109] #[30] w' Tryd.func18 (by kernel_rfl) (by kernel_rfl) hop
      rw [show (#[.tmp 109] : Array Operand).map a.eval = #[a.eval (.tmp 109)] from by simp, e1] at hrun
      refine step_call ho hw hd hrun ((HH.out _ hI.chg).mono ?_)
      rintro e w2 ⟨rfl, rfl⟩
      exact ⟨_, rfl, I33.put _ _ _ _ _ _ _ _ _ _ _ _ _ _ _ _ _ _ hI 1 (by decide) _ (Chg.refl _) rfl⟩
    · obtain ⟨o, ho, hd, hop, hg⟩ := op_of at33_2
      have hw := wanted_none (y := yielded (opsOf (reg Tryd.f4 33)) a.tmps) hg
      have e1 : a.eval (.tmp 0) = .int .i64 q := hI.frame 0 (by decide) (by decide)
      refine step_val ho hw hd (v := a.eval (.tmp 0)) (by unfold execOp; rw [hop]; rfl) (I33.put _ _ _ _ _ _ _ _ _ _ _ _ _ _ _ _ _ _ hI 2 (by decide) _ (Chg.refl _) e1)
    · obtain ⟨o, ho, hd, hop, hg⟩ := op_of at33_3
      have hw := wanted_none (y := yielded (opsOf (reg Tryd.f4 33)) a.tmps) hg
      have e1 : a.eval (.tmp 110) = .int .i64 q := hI.good 1 (by decide) (hdep 1 (by kernel_rfl))
      have e2 : a.eval (.tmp 111) = .int .i64 q := hI.good 2 (by decide) (hdep 2 (by kernel_rfl))
      refine step_val ho hw hd (v := .bool true) (w' := w') (by revert e1 e2; generalize a.eval = ρ; intro e1 e2; simp [go_sem, execOp, hop, e1, e2]) (I33.put _ _ _ _ _ _ _ _ _ _ _ _ _ _ _ _ _ _ hI 3 (by decide) _ (Chg.refl _) rfl)
    · obtain ⟨o, ho, hd, hop, hg⟩ := op_of at33_4
      have hw := wanted_none (y := yielded (opsOf (reg Tryd.f4 33)) a.tmps) hg
      have e1 : a.eval (.tmp 112) = .bool true := hI.good 3 (by decide) (hdep 3 (by kernel_rfl))
      refine step_val ho hw hd (v := a.eval (.tmp 112)) (by unfold execOp; rw [hop]; rfl) (I33.put _ _ _ _ _ _ _ _ _ _ _ _ _ _ _ _ _ _ hI 4 (by decide) _ (Chg.refl _) e1)
    · obtain ⟨o, ho, hd, hop, hg⟩ := op_of at33_5
      obtain ⟨oj, hoj, hdj, -, -⟩ := op_of at33_4
      have gj : a.tmps.getD 113 undef = .bool true := hI.good 4 (by decide) (hdep 4 (by kernel_rfl))
      have hw := wanted_some (ops := (opsOf (reg Tryd.f4 33))) hg hoj hdj (by rw [hI.size]; decide) gj
      have e1 : a.eval (.tmp 8) = .pointer (some ⟨D, 0, none⟩) := hI.frame 8 (by decide) (by decide)
      refine step_val ho hw hd (v := a.eval (.tmp 8)) (by unfold execOp; rw [hop]; rfl) (I33.put _ _ _ _ _ _ _ _ _ _ _ _ _ _ _ _ _ _ hI 5 (by decide) _ (Chg.refl _) e1)
    · obtain ⟨o, ho, hd, hop, hg⟩ := op_of at33_6
      obtain ⟨oj, hoj, hdj, -, -⟩ := op_of at33_4
      have gj : a.tmps.getD 113 undef = .bool true := hI.good 4 (by decide) (hdep 4 (by kernel_rfl))
      have hw := wanted_some (ops := (opsOf (reg Tryd.f4 33))) hg hoj hdj (by rw [hI.size]; decide) gj
      have e1 : a.eval (.tmp 114) = .pointer (some ⟨D, 0, none⟩) := hI.good 5 (by decide) (hdep 5 (by kernel_rfl))
      have hrun := run_go a o 16 Tryd.f16 #[.tmp 114] #[30] w' Tryd.func16 (by kernel_rfl) (by kernel_rfl) hop
      rw [show (#[.tmp 114] : Array Operand).map a.eval = #[a.eval (.tmp 114)] from by simp, e1] at hrun
      refine step_call ho hw hd hrun ((HSm.out _ hI.chg).mono ?_)
      rintro e w2 ⟨o2, k2, c2, rfl, hc2, ht2⟩
      exact ⟨_, rfl, I33.put _ _ _ _ _ _ _ _ _ _ _ _ _ _ _ _ _ _ hI 6 (by decide) _ hc2 ⟨⟨_, _, _, rfl⟩, ht2⟩⟩
    · obtain ⟨o, ho, hd, hop, hg⟩ := op_of at33_7
      obtain ⟨oj, hoj, hdj, -, -⟩ := op_of at33_4
      have gj : a.tmps.getD 113 undef = .bool true := hI.good 4 (by decide) (hdep 4 (by kernel_rfl))
      have hw := wanted_some (ops := (opsOf (reg Tryd.f4 33))) hg hoj hdj (by rw [hI.size]; decide) gj
      obtain ⟨⟨oe1, ke1, ce1, e1'⟩, xe1⟩ := hI.good 6 (by decide) (hdep 6 (by kernel_rfl))
      have e1 : a.eval (.tmp 115) = .slice oe1 ke1 ce1 := e1'
      rw [show a.tmps.getD (dst33 6) undef = .slice oe1 ke1 ce1 from e1'] at xe1
      have hc := xe1 w' (Chg.refl _)
      refine step_val ho hw hd (v := .string s1) (w' := w') (by simp [execOp, hop, e1, hc]) (I33.put _ _ _ _ _ _ _ _ _ _ _ _ _ _ _ _ _ _ hI 7 (by decide) _ (Chg.refl _) rfl)
    · obtain ⟨o, ho, hd, hop, hg⟩ := op_of at33_8
      obtain ⟨oj, hoj, hdj, -, -⟩ := op_of at33_4
      have gj : a.tmps.getD 113 undef = .bool true := hI.good 4 (by decide) (hdep 4 (by kernel_rfl))
      have hw := wanted_some (ops := (opsOf (reg Tryd.f4 33))) hg hoj hdj (by rw [hI.size]; decide) gj
      have e1 : a.eval (.tmp 0) = .int .i64 q := hI.frame 0 (by decide) (by decide)
      refine step_val ho hw hd (v := a.eval (.tmp 0)) (by unfold execOp; rw [hop]; rfl) (I33.put _ _ _ _ _ _ _ _ _ _ _ _ _ _ _ _ _ _ hI 8 (by decide) _ (Chg.refl _) e1)
    · obtain ⟨o, ho, hd, hop, hg⟩ := op_of at33_9
      obtain ⟨oj, hoj, hdj, -, -⟩ := op_of at33_4
      have gj : a.tmps.getD 113 undef = .bool true := hI.good 4 (by decide) (hdep 4 (by kernel_rfl))
      have hw := wanted_some (ops := (opsOf (reg Tryd.f4 33))) hg hoj hdj (by rw [hI.size]; decide) gj
      have e1 : a.eval (.tmp 9) = .slice so sm sc := hI.frame 9 (by decide) (by decide)
      refine step_val ho hw hd (v := a.eval (.tmp 9)) (by unfold execOp; rw [hop]; rfl) (I33.put _ _ _ _ _ _ _ _ _ _ _ _ _ _ _ _ _ _ hI 9 (by decide) _ (Chg.refl _) e1)
    · obtain ⟨o, ho, hd, hop, hg⟩ := op_of at33_10
      obtain ⟨oj, hoj, hdj, -, -⟩ := op_of at33_4
      have gj : a.tmps.getD 113 undef = .bool true := hI.good 4 (by decide) (hdep 4 (by kernel_rfl))
      have hw := wanted_some (ops := (opsOf (reg Tryd.f4 33))) hg hoj hdj (by rw [hI.size]; decide) gj
      have e1 : a.eval (.tmp 118) = .slice so sm sc := hI.good 9 (by decide) (hdep 9 (by kernel_rfl))
      refine step_val ho hw hd (v := .slice (some ⟨w'.heap.size, 0, none⟩) 1 1) (w' := w'.alloc (.cells #[.slice so sm sc] 23)) (by revert e1; generalize a.eval = ρ; intro e1; simp [go_sem, execOp, hop, e1]) (I33.put _ _ _ _ _ _ _ _ _ _ _ _ _ _ _ _ _ _ hI 10 (by decide) _ ((Chg.refl _).alloc _) ⟨⟨_, _, _, rfl⟩, HPt.out _ hI.chg⟩)
    · obtain ⟨o, ho, hd, hop, hg⟩ := op_of at33_11
      obtain ⟨oj, hoj, hdj, -, -⟩ := op_of at33_4
      have gj : a.tmps.getD 113 undef = .bool true := hI.good 4 (by decide) (hdep 4 (by kernel_rfl))
      have hw := wanted_some (ops := (opsOf (reg Tryd.f4 33))) hg hoj hdj (by rw [hI.size]; decide) gj
      have e1 : a.eval (.tmp 117) = .int .i64 q := hI.good 8 (by decide) (hdep 8 (by kernel_rfl))
      obtain ⟨⟨oe2, ke2, ce2, e2'⟩, xe2⟩ := hI.good 10 (by decide) (hdep 10 (by kernel_rfl))
      have e2 : a.eval (.tmp 119) = .slice oe2 ke2 ce2 := e2'
      rw [show a.tmps.getD (dst33 10) undef = .slice oe2 ke2 ce2 from e2'] at xe2
      have hrun := run_go a o 8 Tryd.f8 #[.tmp 117, .tmp 119] #[22, 29] w' Tryd.func8 (by kernel_rfl) (by kernel_rfl) hop
      rw [show (#[.tmp 117, .tmp 119] : Array Operand).map a.eval = #[a.eval (.tmp 117), a.eval (.tmp 119)] from by simp, e1, e2] at hrun
      refine step_call ho hw hd hrun ((HOf.out _ _ hI.chg xe2).mono ?_)
      rintro e w2 ⟨o2, k2, c2, rfl, hc2, ht2⟩
      exact ⟨_, rfl, I33.put _ _ _ _ _ _ _ _ _ _ _ _ _ _ _ _ _ _ hI 11 (by decide) _ hc2 ⟨⟨_, _, _, rfl⟩, ht2⟩⟩
    · obtain ⟨o, ho, hd, hop, hg⟩ := op_of at33_12
      obtain ⟨oj, hoj, hdj, -, -⟩ := op_of at33_4
      have gj : a.tmps.getD 113 undef = .bool true := hI.good 4 (by decide) (hdep 4 (by kernel_rfl))
      have hw := wanted_some (ops := (opsOf (reg Tryd.f4 33))) hg hoj hdj (by rw [hI.size]; decide) gj
      obtain ⟨⟨oe1, ke1, ce1, e1'⟩, xe1⟩ := hI.good 11 (by decide) (hdep 11 (by kernel_rfl))
      have e1 : a.eval (.tmp 120) = .slice oe1 ke1 ce1 := e1'
      rw [show a.tmps.getD (dst33 11) undef = .slice oe1 ke1 ce1 from e1'] at xe1
      have hc := xe1 w' (Chg.refl _)
      refine step_val ho hw hd (v := .string s1) (w' := w') (by simp [execOp, hop, e1, hc]) (I33.put _ _ _ _ _ _ _ _ _ _ _ _ _ _ _ _ _ _ hI 12 (by decide) _ (Chg.refl _) rfl)
    · obtain ⟨o, ho, hd, hop, hg⟩ := op_of at33_13
      obtain ⟨oj, hoj, hdj, -, -⟩ := op_of at33_4
      have gj : a.tmps.getD 113 undef = .bool true := hI.good 4 (by decide) (hdep 4 (by kernel_rfl))
      have hw := wanted_some (ops := (opsOf (reg Tryd.f4 33))) hg hoj hdj (by rw [hI.size]; decide) gj
      have e1 : a.eval (.tmp 116) = .string s1 := hI.good 7 (by decide) (hdep 7 (by kernel_rfl))
      have e2 : a.eval (.tmp 121) = .string s1 := hI.good 12 (by decide) (hdep 12 (by kernel_rfl))
      refine step_val ho hw hd (v := .bool true) (w' := w') (by revert e1 e2; generalize a.eval = ρ; intro e1 e2; simp [go_sem, execOp, hop, e1, e2]) (I33.put _ _ _ _ _ _ _ _ _ _ _ _ _ _ _ _ _ _ hI 13 (by decide) _ (Chg.refl _) rfl)
    · obtain ⟨o, ho, hd, hop, hg⟩ := op_of at33_14
      have hw := wanted_none (y := yielded (opsOf (reg Tryd.f4 33)) a.tmps) hg
      have e1 : a.eval (.tmp 113) = .bool true := hI.good 4 (by decide) (hdep 4 (by kernel_rfl))
      have e2 : a.eval (.tmp 122) = .bool true := hI.good 13 (by decide) (hdep 13 (by kernel_rfl))
      refine step_val ho hw hd (v := .bool true) (w' := w') (by revert e1 e2; generalize a.eval = ρ; intro e1 e2; simp [go_sem, execOp, hop, e1, e2]) (I33.put _ _ _ _ _ _ _ _ _ _ _ _ _ _ _ _ _ _ hI 14 (by decide) _ (Chg.refl _) rfl)
    · obtain ⟨o, ho, hd, hop, hg⟩ := op_of at33_15
      have hw := wanted_none (y := yielded (opsOf (reg Tryd.f4 33)) a.tmps) hg
      have e1 : a.eval (.tmp 123) = .bool true := hI.good 14 (by decide) (hdep 14 (by kernel_rfl))
      refine step_val ho hw hd (v := a.eval (.tmp 123)) (by unfold execOp; rw [hop]; rfl) (I33.put _ _ _ _ _ _ _ _ _ _ _ _ _ _ _ _ _ _ hI 15 (by decide) _ (Chg.refl _) e1)
    · obtain ⟨o, ho, hd, hop, hg⟩ := op_of at33_16
      obtain ⟨oj, hoj, hdj, -, -⟩ := op_of at33_15
      have gj : a.tmps.getD 124 undef = .bool true := hI.good 15 (by decide) (hdep 15 (by kernel_rfl))
      have hw := wanted_some (ops := (opsOf (reg Tryd.f4 33))) hg hoj hdj (by rw [hI.size]; decide) gj
      have e1 : a.eval (.tmp 0) = .int .i64 q := hI.frame 0 (by decide) (by decide)
      refine step_val ho hw hd (v := a.eval (.tmp 0)) (by unfold execOp; rw [hop]; rfl) (I33.put _ _ _ _ _ _ _ _ _ _ _ _ _ _ _ _ _ _ hI 16 (by decide) _ (Chg.refl _) e1)
    · obtain ⟨o, ho, hd, hop, hg⟩ := op_of at33_17
      obtain ⟨oj, hoj, hdj, -, -⟩ := op_of at33_15
      have gj : a.tmps.getD 124 undef = .bool true := hI.good 15 (by decide) (hdep 15 (by kernel_rfl))
      have hw := wanted_some (ops := (opsOf (reg Tryd.f4 33))) hg hoj hdj (by rw [hI.size]; decide) gj
      have e1 : a.eval (.tmp 1) = .slice p n cap := hI.frame 1 (by decide) (by decide)
      refine step_val ho hw hd (v := a.eval (.tmp 1)) (by unfold execOp; rw [hop]; rfl) (I33.put _ _ _ _ _ _ _ _ _ _ _ _ _ _ _ _ _ _ hI 17 (by decide) _ (Chg.refl _) e1)
    · obtain ⟨o, ho, hd, hop, hg⟩ := op_of at33_18
      obtain ⟨oj, hoj, hdj, -, -⟩ := op_of at33_15
      have gj : a.tmps.getD 124 undef = .bool true := hI.good 15 (by decide) (hdep 15 (by kernel_rfl))
      have hw := wanted_some (ops := (opsOf (reg Tryd.f4 33))) hg hoj hdj (by rw [hI.size]; decide) gj
      have e1 : a.eval (.tmp 125) = .int .i64 q := hI.good 16 (by decide) (hdep 16 (by kernel_rfl))
      have e2 : a.eval (.tmp 126) = .slice p n cap := hI.good 17 (by decide) (hdep 17 (by kernel_rfl))
      have hrun := run_go a o 8 Tryd.f8 #[.tmp 125, .tmp 126] #[22, 29] w' Tryd.func8 (by kernel_rfl) (by kernel_rfl) hop
      rw [show (#[.tmp 125, .tmp 126] : Array Operand).map a.eval = #[a.eval (.tmp 125), a.eval (.tmp 126)] from by simp, e1, e2] at hrun
      refine step_call ho hw hd hrun ((HOl.out _ hI.chg).mono ?_)
      rintro e w2 ⟨o2, k2, c2, rfl, hc2, ht2⟩
      exact ⟨_, rfl, I33.put _ _ _ _ _ _ _ _ _ _ _ _ _ _ _ _ _ _ hI 18 (by decide) _ hc2 ⟨⟨_, _, _, rfl⟩, ht2⟩⟩
    · obtain ⟨o, ho, hd, hop, hg⟩ := op_of at33_19
      obtain ⟨oj, hoj, hdj, -, -⟩ := op_of at33_15
      have gj : a.tmps.getD 124 undef = .bool true := hI.good 15 (by decide) (hdep 15 (by kernel_rfl))
      have hw := wanted_some (ops := (opsOf (reg Tryd.f4 33))) hg hoj hdj (by rw [hI.size]; decide) gj
      obtain ⟨⟨oe1, ke1, ce1, e1'⟩, xe1⟩ := hI.good 18 (by decide) (hdep 18 (by kernel_rfl))
      have e1 : a.eval (.tmp 127) = .slice oe1 ke1 ce1 := e1'
      rw [show a.tmps.getD (dst33 18) undef = .slice oe1 ke1 ce1 from e1'] at xe1
      have hc := xe1 w' (Chg.refl _)
      refine step_val ho hw hd (v := .string s2) (w' := w') (by simp [execOp, hop, e1, hc]) (I33.put _ _ _ _ _ _ _ _ _ _ _ _ _ _ _ _ _ _ hI 19 (by decide) _ (Chg.refl _) rfl)
    · obtain ⟨o, ho, hd, hop, hg⟩ := op_of at33_20
      obtain ⟨oj, hoj, hdj, -, -⟩ := op_of at33_15
      have gj : a.tmps.getD 124 undef = .bool true := hI.good 15 (by decide) (hdep 15 (by kernel_rfl))
      have hw := wanted_some (ops := (opsOf (reg Tryd.f4 33))) hg hoj hdj (by rw [hI.size]; decide) gj
      have e1 : a.eval (.tmp 0) = .int .i64 q := hI.frame 0 (by decide) (by decide)
      refine step_val ho hw hd (v := a.eval (.tmp 0)) (by unfold execOp; rw [hop]; rfl) (I33.put _ _ _ _ _ _ _ _ _ _ _ _ _ _ _ _ _ _ hI 20 (by decide) _ (Chg.refl _) e1)
    · obtain ⟨o, ho, hd, hop, hg⟩ := op_of at33_21
      obtain ⟨oj, hoj, hdj, -, -⟩ := op_of at33_15
      have gj : a.tmps.getD 124 undef = .bool true := hI.good 15 (by decide) (hdep 15 (by kernel_rfl))
      have hw := wanted_some (ops := (opsOf (reg Tryd.f4 33))) hg hoj hdj (by rw [hI.size]; decide) gj
      have e1 : a.eval (.tmp 1) = .slice p n cap := hI.frame 1 (by decide) (by decide)
      refine step_val ho hw hd (v := a.eval (.tmp 1)) (by unfold execOp; rw [hop]; rfl) (I33.put _ _ _ _ _ _ _ _ _ _ _ _ _ _ _ _ _ _ hI 21 (by decide) _ (Chg.refl _) e1)
    · obtain ⟨o, ho, hd, hop, hg⟩ := op_of at33_22
      obtain ⟨oj, hoj, hdj, -, -⟩ := op_of at33_15
      have gj : a.tmps.getD 124 undef = .bool true := hI.good 15 (by decide) (hdep 15 (by kernel_rfl))
      have hw := wanted_some (ops := (opsOf (reg Tryd.f4 33))) hg hoj hdj (by rw [hI.size]; decide) gj
      have e1 : a.eval (.tmp 130) = .slice p n cap := hI.good 21 (by decide) (hdep 21 (by kernel_rfl))
      have hrun := run_go a o 19 Tryd.f19 #[.tmp 130] #[29] w' Tryd.func19 (by kernel_rfl) (by kernel_rfl) hop
      rw [show (#[.tmp 130] : Array Operand).map a.eval = #[a.eval (.tmp 130)] from by simp, e1] at hrun
      refine step_call ho hw hd hrun ((HJ.out _ hI.chg).mono ?_)
      rintro e w2 ⟨o2, k2, c2, rfl, hc2, ht2⟩
      exact ⟨_, rfl, I33.put _ _ _ _ _ _ _ _ _ _ _ _ _ _ _ _ _ _ hI 22 (by decide) _ hc2 ⟨⟨_, _, _, rfl⟩, ht2⟩⟩
    · obtain ⟨o, ho, hd, hop, hg⟩ := op_of at33_23
      obtain ⟨oj, hoj, hdj, -, -⟩ := op_of at33_15
      have gj : a.tmps.getD 124 undef = .bool true := hI.good 15 (by decide) (hdep 15 (by kernel_rfl))
      have hw := wanted_some (ops := (opsOf (reg Tryd.f4 33))) hg hoj hdj (by rw [hI.size]; decide) gj
      obtain ⟨⟨oe1, ke1, ce1, e1'⟩, xe1⟩ := hI.good 22 (by decide) (hdep 22 (by kernel_rfl))
      have e1 : a.eval (.tmp 131) = .slice oe1 ke1 ce1 := e1'
      rw [show a.tmps.getD (dst33 22) undef = .slice oe1 ke1 ce1 from e1'] at xe1
      refine step_val ho hw hd (v := .slice (some ⟨w'.heap.size, 0, none⟩) 1 1) (w' := w'.alloc (.cells #[.slice oe1 ke1 ce1] 23)) (by revert e1; generalize a.eval = ρ; intro e1; simp [go_sem, execOp, hop, e1]) (I33.put _ _ _ _ _ _ _ _ _ _ _ _ _ _ _ _ _ _ hI 23 (by decide) _ ((Chg.refl _).alloc _) ⟨⟨_, _, _, rfl⟩, HPj.out _ _ _ _ xe1⟩)
    · obtain ⟨o, ho, hd, hop, hg⟩ := op_of at33_24
      obtain ⟨oj, hoj, hdj, -, -⟩ := op_of at33_15
      have gj : a.tmps.getD 124 undef = .bool true := hI.good 15 (by decide) (hdep 15 (by kernel_rfl))
      have hw := wanted_some (ops := (opsOf (reg Tryd.f4 33))) hg hoj hdj (by rw [hI.size]; decide) gj
      have e1 : a.eval (.tmp 129) = .int .i64 q := hI.good 20 (by decide) (hdep 20 (by kernel_rfl))
      obtain ⟨⟨oe2, ke2, ce2, e2'⟩, xe2⟩ := hI.good 23 (by decide) (hdep 23 (by kernel_rfl))
      have e2 : a.eval (.tmp 132) = .slice oe2 ke2 ce2 := e2'
      rw [show a.tmps.getD (dst33 23) undef = .slice oe2 ke2 ce2 from e2'] at xe2
      have hrun := run_go a o 8 Tryd.f8 #[.tmp 129, .tmp 132] #[22, 29] w' Tryd.func8 (by kernel_rfl) (by kernel_rfl) hop
      rw [show (#[.tmp 129, .tmp 132] : Array Operand).map a.eval = #[a.eval (.tmp 129), a.eval (.tmp 132)] from by simp, e1, e2] at hrun
      refine step_call ho hw hd hrun ((HOj.out _ _ hI.chg xe2).mono ?_)
      rintro e w2 ⟨o2, k2, c2, rfl, hc2, ht2⟩
      exact ⟨_, rfl, I33.put _ _ _ _ _ _ _ _ _ _ _ _ _ _ _ _ _ _ hI 24 (by decide) _ hc2 ⟨⟨_, _, _, rfl⟩, ht2⟩⟩
    · obtain ⟨o, ho, hd, hop, hg⟩ := op_of at33_25
      obtain ⟨oj, hoj, hdj, -, -⟩ := op_of at33_15
      have gj : a.tmps.getD 124 undef = .bool true := hI.good 15 (by decide) (hdep 15 (by kernel_rfl))
      have hw := wanted_some (ops := (opsOf (reg Tryd.f4 33))) hg hoj hdj (by rw [hI.size]; decide) gj
      obtain ⟨⟨oe1, ke1, ce1, e1'⟩, xe1⟩ := hI.good 24 (by decide) (hdep 24 (by kernel_rfl))
      have e1 : a.eval (.tmp 133) = .slice oe1 ke1 ce1 := e1'
      rw [show a.tmps.getD (dst33 24) undef = .slice oe1 ke1 ce1 from e1'] at xe1
      have hc := xe1 w' (Chg.refl _)
      refine step_val ho hw hd (v := .string s2) (w' := w') (by simp [execOp, hop, e1, hc]) (I33.put _ _ _ _ _ _ _ _ _ _ _ _ _ _ _ _ _ _ hI 25 (by decide) _ (Chg.refl _) rfl)
    · obtain ⟨o, ho, hd, hop, hg⟩ := op_of at33_26
      obtain ⟨oj, hoj, hdj, -, -⟩ := op_of at33_15
      have gj : a.tmps.getD 124 undef = .bool true := hI.good 15 (by decide) (hdep 15 (by kernel_rfl))
      have hw := wanted_some (ops := (opsOf (reg Tryd.f4 33))) hg hoj hdj (by rw [hI.size]; decide) gj
      have e1 : a.eval (.tmp 128) = .string s2 := hI.good 19 (by decide) (hdep 19 (by kernel_rfl))
      have e2 : a.eval (.tmp 134) = .string s2 := hI.good 25 (by decide) (hdep 25 (by kernel_rfl))
      refine step_val ho hw hd (v := .bool true) (w' := w') (by revert e1 e2; generalize a.eval = ρ; intro e1 e2; simp [go_sem, execOp, hop, e1, e2]) (I33.put _ _ _ _ _ _ _ _ _ _ _ _ _ _ _ _ _ _ hI 26 (by decide) _ (Chg.refl _) rfl)
    · obtain ⟨o, ho, hd, hop, hg⟩ := op_of at33_27
      have hw := wanted_none (y := yielded (opsOf (reg Tryd.f4 33)) a.tmps) hg
      have e1 : a.eval (.tmp 124) = .bool true := hI.good 15 (by decide) (hdep 15 (by kernel_rfl))
      have e2 : a.eval (.tmp 135) = .bool true := hI.good 26 (by decide) (hdep 26 (by kernel_rfl))
      refine step_val ho hw hd (v := .bool true) (w' := w') (by revert e1 e2; generalize a.eval = ρ; intro e1 e2; simp [go_sem, execOp, hop, e1, e2]) (I33.put _ _ _ _ _ _ _ _ _ _ _ _ _ _ _ _ _ _ hI 27 (by decide) _ (Chg.refl _) rfl)
    · obtain ⟨o, ho, hd, hop, hg⟩ := op_of at33_28
      have hw := wanted_none (y := yielded (opsOf (reg Tryd.f4 33)) a.tmps) hg
      have e1 : a.eval (.tmp 136) = .bool true := hI.good 27 (by decide) (hdep 27 (by kernel_rfl))
      refine step_val ho hw hd (v := a.eval (.tmp 136)) (by unfold execOp; rw [hop]; rfl) (I33.put _ _ _ _ _ _ _ _ _ _ _ _ _ _ _ _ _ _ hI 28 (by decide) _ (Chg.refl _) e1)
  · intro l a w' hI hall
    rw [size33] at hall
    refine NoPanic.normal ?_
    have h6 : a.tmps.getD 6 undef = .bool true := hI.good 28 (by decide) (hall 28 (by decide))
    have e := arr137 a.tmps hI.size
    rw [h6] at e
    have f0 : a.tmps.getD 0 undef = .int .i64 q := hI.frame 0 (by decide) (by decide)
    have f1 : a.tmps.getD 1 undef = .slice p n cap := hI.frame 1 (by decide) (by decide)
    have f2 : a.tmps.getD 2 undef = t2 := hI.frame 2 (by decide) (by decide)
    have f3 : a.tmps.getD 3 undef = t3 := hI.frame 3 (by decide) (by decide)
    have f4 : a.tmps.getD 4 undef = t4 := hI.frame 4 (by decide) (by decide)
    have f5 : a.tmps.getD 5 undef = t5 := hI.frame 5 (by decide) (by decide)
    have f7 : a.tmps.getD 7 undef = t7 := hI.frame 7 (by decide) (by decide)
    have f8 : a.tmps.getD 8 undef = .pointer (some ⟨D, 0, none⟩) := hI.frame 8 (by decide) (by decide)
    have f9 : a.tmps.getD 9 undef = .slice so sm sc := hI.frame 9 (by decide) (by decide)
    have f10 : a.tmps.getD 10 undef = t10 := hI.frame 10 (by decide) (by decide)
    have f11 : a.tmps.getD 11 undef = t11 := hI.frame 11 (by decide) (by decide)
    have f12 : a.tmps.getD 12 undef = t12 := hI.frame 12 (by decide) (by decide)
    have f13 : a.tmps.getD 13 undef = t13 := hI.frame 13 (by decide) (by decide)
    have f14 : a.tmps.getD 14 undef = t14 := hI.frame 14 (by decide) (by decide)
    have f15 : a.tmps.getD 15 undef = t15 := hI.frame 15 (by decide) (by decide)
    have f16 : a.tmps.getD 16 undef = t16 := hI.frame 16 (by decide) (by decide)
    have f17 : a.tmps.getD 17 undef = t17 := hI.frame 17 (by decide) (by decide)
    have f18 : a.tmps.getD 18 undef = t18 := hI.frame 18 (by decide) (by decide)
    have f19 : a.tmps.getD 19 undef = t19 := hI.frame 19 (by decide) (by decide)
    have f20 : a.tmps.getD 20 undef = t20 := hI.frame 20 (by decide) (by decide)
    have f21 : a.tmps.getD 21 undef = t21 := hI.frame 21 (by decide) (by decide)
    have f22 : a.tmps.getD 22 undef = t22 := hI.frame 22 (by decide) (by decide)
    have f23 : a.tmps.getD 23 undef = t23 := hI.frame 23 (by decide) (by decide)
    have f24 : a.tmps.getD 24 undef = t24 := hI.frame 24 (by decide) (by decide)
    have f25 : a.tmps.getD 25 undef = t25 := hI.frame 25 (by decide) (by decide)
    have f26 : a.tmps.getD 26 undef = t26 := hI.frame 26 (by decide) (by decide)
    have f27 : a.tmps.getD 27 undef = t27 := hI.frame 27 (by decide) (by decide)
    have f28 : a.tmps.getD 28 undef = t28 := hI.frame 28 (by decide) (by decide)
    have f29 : a.tmps.getD 29 undef = t29 := hI.frame 29 (by decide) (by decide)
    have f30 : a.tmps.getD 30 undef = t30 := hI.frame 30 (by decide) (by decide)
    have f31 : a.tmps.getD 31 undef = t31 := hI.frame 31 (by decide) (by decide)
    have f32 : a.tmps.getD 32 undef = t32 := hI.frame 32 (by decide) (by decide)
    have f33 : a.tmps.getD 33 undef = t33 := hI.frame 33 (by decide) (by decide)
    have f34 : a.tmps.getD 34 undef = t34 := hI.frame 34 (by decide) (by decide)
    have f35 : a.tmps.getD 35 undef = t35 := hI.frame 35 (by decide) (by decide)
    have f36 : a.tmps.getD 36 undef = t36 := hI.frame 36 (by decide) (by decide)
    have f37 : a.tmps.getD 37 undef = t37 := hI.frame 37 (by decide) (by decide)
    have f38 : a.tmps.getD 38 undef = t38 := hI.frame 38 (by decide) (by decide)
    have f39 : a.tmps.getD 39 undef = t39 := hI.frame 39 (by decide) (by decide)
    have f40 : a.tmps.getD 40 undef = t40 := hI.frame 40 (by decide) (by decide)
    have f41 : a.tmps.getD 41 undef = t41 := hI.frame 41 (by decide) (by decide)
    have f42 : a.tmps.getD 42 undef = t42 := hI.frame 42 (by decide) (by decide)
    have f43 : a.tmps.getD 43 undef = t43 := hI.frame 43 (by decide) (by decide)
    have f44 : a.tmps.getD 44 undef = t44 := hI.frame 44 (by decide) (by decide)
    have f45 : a.tmps.getD 45 undef = t45 := hI.frame 45 (by decide) (by decide)
    have f46 : a.tmps.getD 46 undef = t46 := hI.frame 46 (by decide) (by decide)
    have f47 : a.tmps.getD 47 undef = t47 := hI.frame 47 (by decide) (by decide)
    have f48 : a.tmps.getD 48 undef = t48 := hI.frame 48 (by decide) (by decide)
    have f49 : a.tmps.getD 49 undef = t49 := hI.frame 49 (by decide) (by decide)
    have f50 : a.tmps.getD 50 undef = t50 := hI.frame 50 (by decide) (by decide)
    have f51 : a.tmps.getD 51 undef = t51 := hI.frame 51 (by decide) (by decide)
    have f52 : a.tmps.getD 52 undef = t52 := hI.frame 52 (by decide) (by decide)
    have f53 : a.tmps.getD 53 undef = t53 := hI.frame 53 (by decide) (by decide)
    have f54 : a.tmps.getD 54 undef = t54 := hI.frame 54 (by decide) (by decide)
    have f55 : a.tmps.getD 55 undef = t55 := hI.frame 55 (by decide) (by decide)
    have f56 : a.tmps.getD 56 undef = t56 := hI.frame 56 (by decide) (by decide)
    have f57 : a.tmps.getD 57 undef = t57 := hI.frame 57 (by decide) (by decide)
    have f58 : a.tmps.getD 58 undef = t58 := hI.frame 58 (by decide) (by decide)
    have f59 : a.tmps.getD 59 undef = t59 := hI.frame 59 (by decide) (by decide)
    have f60 : a.tmps.getD 60 undef = t60 := hI.frame 60 (by decide) (by decide)
    have f61 : a.tmps.getD 61 undef = t61 := hI.frame 61 (by decide) (by decide)
    have f62 : a.tmps.getD 62 undef = t62 := hI.frame 62 (by decide) (by decide)
    have f63 : a.tmps.getD 63 undef = t63 := hI.frame 63 (by decide) (by decide)
    have f64 : a.tmps.getD 64 undef = t64 := hI.frame 64 (by decide) (by decide)
    have f65 : a.tmps.getD 65 undef = t65 := hI.frame 65 (by decide) (by decide)
    have f66 : a.tmps.getD 66 undef = t66 := hI.frame 66 (by decide) (by decide)
    have f67 : a.tmps.getD 67 undef = t67 := hI.frame 67 (by decide) (by decide)
    have f68 : a.tmps.getD 68 undef = t68 := hI.frame 68 (by decide) (by decide)
    have f69 : a.tmps.getD 69 undef = t69 := hI.frame 69 (by decide) (by decide)
    have f70 : a.tmps.getD 70 undef = t70 := hI.frame 70 (by decide) (by decide)
    have f71 : a.tmps.getD 71 undef = t71 := hI.frame 71 (by decide) (by decide)
    have f72 : a.tmps.getD 72 undef = t72 := hI.frame 72 (by decide) (by decide)
    have f73 : a.tmps.getD 73 undef = t73 := hI.frame 73 (by decide) (by decide)
    have f74 : a.tmps.getD 74 undef = t74 := hI.frame 74 (by decide) (by decide)
    have f75 : a.tmps.getD 75 undef = t75 := hI.frame 75 (by decide) (by decide)
    have f76 : a.tmps.getD 76 undef = t76 := hI.frame 76 (by decide) (by decide)
    have f77 : a.tmps.getD 77 undef = t77 := hI.frame 77 (by decide) (by decide)
    have f78 : a.tmps.getD 78 undef = t78 := hI.frame 78 (by decide) (by decide)
    have f79 : a.tmps.getD 79 undef = t79 := hI.frame 79 (by decide) (by decide)
    have f80 : a.tmps.getD 80 undef = t80 := hI.frame 80 (by decide) (by decide)
    have f81 : a.tmps.getD 81 undef = t81 := hI.frame 81 (by decide) (by decide)
    have f82 : a.tmps.getD 82 undef = t82 := hI.frame 82 (by decide) (by decide)
    have f83 : a.tmps.getD 83 undef = t83 := hI.frame 83 (by decide) (by decide)
    have f84 : a.tmps.getD 84 undef = t84 := hI.frame 84 (by decide) (by decide)
    have f85 : a.tmps.getD 85 undef = t85 := hI.frame 85 (by decide) (by decide)
    have f86 : a.tmps.getD 86 undef = t86 := hI.frame 86 (by decide) (by decide)
    have f87 : a.tmps.getD 87 undef = t87 := hI.frame 87 (by decide) (by decide)
    have f88 : a.tmps.getD 88 undef = t88 := hI.frame 88 (by decide) (by decide)
    have f89 : a.tmps.getD 89 undef = t89 := hI.frame 89 (by decide) (by decide)
    have f90 : a.tmps.getD 90 undef = t90 := hI.frame 90 (by decide) (by decide)
    have f91 : a.tmps.getD 91 undef = t91 := hI.frame 91 (by decide) (by decide)
    have f92 : a.tmps.getD 92 undef = t92 := hI.frame 92 (by decide) (by decide)
    have f93 : a.tmps.getD 93 undef = t93 := hI.frame 93 (by decide) (by decide)
    have f94 : a.tmps.getD 94 undef = t94 := hI.frame 94 (by decide) (by decide)
    have f95 : a.tmps.getD 95 undef = t95 := hI.frame 95 (by decide) (by decide)
    have f96 : a.tmps.getD 96 undef = t96 := hI.frame 96 (by decide) (by decide)
    have f97 : a.tmps.getD 97 undef = t97 := hI.frame 97 (by decide) (by decide)
    have f98 : a.tmps.getD 98 undef = t98 := hI.frame 98 (by decide) (by decide)
    have f99 : a.tmps.getD 99 undef = t99 := hI.frame 99 (by decide) (by decide)
    have f100 : a.tmps.getD 100 undef = t100 := hI.frame 100 (by decide) (by decide)
    have f101 : a.tmps.getD 101 undef = t101 := hI.frame 101 (by decide) (by decide)
    have f102 : a.tmps.getD 102 undef = t102 := hI.frame 102 (by decide) (by decide)
    have f103 : a.tmps.getD 103 undef = t103 := hI.frame 103 (by decide) (by decide)
    have f104 : a.tmps.getD 104 undef = t104 := hI.frame 104 (by decide) (by decide)
    have f105 : a.tmps.getD 105 undef = t105 := hI.frame 105 (by decide) (by decide)
    have f106 : a.tmps.getD 106 undef = t106 := hI.frame 106 (by decide) (by decide)
    have f107 : a.tmps.getD 107 undef = t107 := hI.frame 107 (by decide) (by decide)
    have f108 : a.tmps.getD 108 undef = t108 := hI.frame 108 (by decide) (by decide)
    rw [f0, f1, f2, f3, f4, f5, f7, f8, f9, f10, f11, f12, f13, f14, f15, f16, f17, f18, f19, f20, f21, f22, f23, f24, f25, f26, f27, f28, f29, f30, f31, f32, f33, f34, f35, f36, f37, f38, f39, f40, f41, f42, f43, f44, f45, f46, f47, f48, f49, f50, f51, f52, f53, f54, f55, f56, f57, f58, f59, f60, f61, f62, f63, f64, f65, f66, f67, f68, f69, f70, f71, f72, f73, f74, f75, f76, f77, f78, f79, f80, f81, f82, f83, f84, f85, f86, f87, f88, f89, f90, f91, f92, f93, f94, f95, f96, f97, f98, f99, f100, f101, f102, f103, f104, f105, f106, f107, f108] at e
    have ea : a = ⟨#[.int .i64 q, .slice p n cap, t2, t3, t4, t5, .bool true, t7, .pointer (some ⟨D, 0, none⟩), .slice so sm sc, t10, t11, t12, t13, t14, t15, t16, t17, t18, t19, t20, t21, t22, t23, t24, t25, t26, t27, t28, t29, t30, t31, t32, t33, t34, t35, t36, t37, t38, t39, t40, t41, t42, t43, t44, t45, t46, t47, t48, t49, t50, t51, t52, t53, t54, t55, t56, t57, t58, t59, t60, t61, t62, t63, t64, t65, t66, t67, t68, t69, t70, t71, t72, t73, t74, t75, t76, t77, t78, t79, t80, t81, t82, t83, t84, t85, t86, t87, t88, t89, t90, t91, t92, t93, t94, t95, t96, t97, t98, t99, t100, t101, t102, t103, t104, t105, t106, t107, t108, a.tmps.getD 109 undef, a.tmps.getD 110 undef, a.tmps.getD 111 undef, a.tmps.getD 112 undef, a.tmps.getD 113 undef, a.tmps.getD 114 undef, a.tmps.getD 115 undef, a.tmps.getD 116 undef, a.tmps.getD 117 undef, a.tmps.getD 118 undef, a.tmps.getD 119 undef, a.tmps.getD 120 undef, a.tmps.getD 121 undef, a.tmps.getD 122 undef, a.tmps.getD 123 undef, a.tmps.getD 124 undef, a.tmps.getD 125 undef, a.tmps.getD 126 undef, a.tmps.getD 127 undef, a.tmps.getD 128 undef, a.tmps.getD 129 undef, a.tmps.getD 130 undef, a.tmps.getD 131 undef, a.tmps.getD 132 undef, a.tmps.getD 133 undef, a.tmps.getD 134 undef, a.tmps.getD 135 undef, a.tmps.getD 136 undef], []⟩ := by
      obtain ⟨A, d⟩ := a
      have hd : d = [] := hI.defers
      subst hd
      exact congrArg (fun x => (⟨x, []⟩ : Act)) e
    rw [ea]
    exact HQ.out _ _ _ _ _ _ _ _ _ _ _ _ _ _ _ _ _ _ _ _ _ _ _ _ _ _ _ _ _ hI.chg
  · refine ⟨(Chg.refl w).drew, rfl, rfl, by simp [size33], fun k hk h6 => rfl, fun j hj hl => ?_⟩
    rw [size33] at hl
    simp [Array.getD_eq_getD_getElem?, hj] at hl
end Go.Proofs.YtbnonbhlfiadaaaDoor
