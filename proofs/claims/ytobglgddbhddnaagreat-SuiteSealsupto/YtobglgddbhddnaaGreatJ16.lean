/-
  The document's first, stream and tag.
  The document's New: its regions that draw.
-/
import Derived.Test.YtobglgddbhddnaaGreatJ13
import Derived.Test.YtobglgddbhddnaaGreatJ15
import Derived.Test.YtobglgddbhddnaaGreatJ08
import Derived.Test.YtobglgddbhddnaaGreatJ14
import Derived.Test.YtobglgddbhddnaaGreatJ09
namespace Go.Proofs.YtobglgddbhddnaaGreat
open Go.RowKit
set_option linter.unusedVariables false

set_option maxRecDepth 100000 in
set_option maxHeartbeats 4000000 in
theorem refFirst_any (nc : Nat → By) (w : World) : Calls Tryz.prog 37 #[.agg (ba 12 nc)] w fun r w' => r = .returned (.agg (ba 16 (ctrB nc 1#8))) ∧ Chg w w' := by
  have hz := zero32.1
  have hsA := ba_size 12 nc
  obtain ⟨A, hA⟩ : ∃ A, A = ba 12 nc := ⟨_, rfl⟩
  have HA : Hid (A = ba 12 nc) := hA
  rw [← hA] at hsA ⊢
  clear hA
  go_enter Tryz.func37, Tryz.ntmps37
  go_upto_region 2 with fail
  obtain ⟨w2, hw2⟩ : ∃ w2, w2 = ((w.alloc (.cells A 25)).alloc (.cells (ba 16 zB) 62)).alloc (.cells (ba 16 zB) 62) := ⟨_, rfl⟩
  have Z2 : Hid (Chg w w2 ∧ Ar w2 w.heap.size (ba 12 nc) ∧ Ar w2 (w.heap.size + 1) (ba 16 zB) ∧ Ar w2 (w.heap.size + 1 + 1) (ba 16 (upTo 0 nc zB))) := by
    rw [hw2, HA.out, upTo_zero]
    exact ⟨(((Chg.refl w).alloc _).alloc _).alloc _, ((Ar.new w _ _).alloc _).alloc _, (Ar.new1 w _ _ _).alloc _, Ar.new2 w _ _ _ _⟩
  rw [← hw2]
  clear hw2 hz hsA
  go_wp2_with fail
  go_loopw [4] (fun v wr => ∃ (i : Nat), v = .int .i64 i ∧ i ≤ 12 ∧ Chg w wr ∧ Ar wr w.heap.size (ba 12 nc) ∧ Ar wr (w.heap.size + 1) (ba 16 zB) ∧ Ar wr (w.heap.size + 1 + 1) (ba 16 (upTo i nc zB))) (fun v wr => 12 - (intOf v).toNat)
  case atStart => exact ⟨0, rfl, by omega, Z2.out⟩
  case round =>
    clear Z2
    obtain ⟨i, rfl, hi, hz⟩ := hrel
    have Z : Hid (Chg w wr ∧ Ar wr w.heap.size (ba 12 nc) ∧ Ar wr (w.heap.size + 1) (ba 16 zB) ∧ Ar wr (w.heap.size + 1 + 1) (ba 16 (upTo i nc zB))) := hz
    by_cases h12 : i < 12
    · have hd : decide ((i : Int) < 12) = true := by simp; omega
      have li : (i : Int) < 12 := by omega
      have li' : (i : Int) < 16 := by omega
      have c1 := (hz.2.1.cell i).trans (ba_get 12 nc h12)
      have c2 := (hz.2.2.2.cell i).trans (ba_get 16 _ (show i < 16 by omega))
      have f2 := hz.2.2.2.frozen i
      obtain ⟨x, hx⟩ : ∃ x, x = nc i := ⟨_, rfl⟩
      rw [← hx] at c1
      have HX : Hid (x = nc i) := hx
      clear hx hz
      go_wp2_with fail
      go_roundw
      case rel =>
        obtain ⟨k0, k1, k2, k3⟩ := Z.out
        refine ⟨i + 1, by go_num, by omega, k0.setCell (by dsimp only; omega) _, k1.other (by dsimp only; omega) _, k2.other (by dsimp only; omega) _, ?_⟩
        have hh := k3.set i (.int .u8 (x.toNat : Int))
        rw [ba_set, HX.out, upTo_upd i nc zB] at hh
        rw [HX.out]
        exact hh
      case measure => simp [intOf]; omega
    · have hi2 : i = 12 := by omega
      have hd : decide ((i : Int) < 12) = false := by simp; omega
      obtain ⟨F, hF⟩ : ∃ F, F = upTo i nc zB := ⟨_, rfl⟩
      rw [← hF] at Z hz
      have b1 := (hz.2.2.2.cell 15).trans (ba_get 16 F (by decide))
      have f1 := hz.2.2.2.frozen 15
      obtain ⟨G, hG⟩ : ∃ G, G = updB F 15 1#8 := ⟨_, rfl⟩
      have HG : Hid (ba 16 G = ba 16 (ctrB nc 1#8) ∧ G = updB F 15 1#8) := by
        refine ⟨ba_congr fun j hj => ?_, hG⟩
        rw [hG, hF, hi2, updB, upTo, ctrB]
        by_cases h1 : j = 15
        · rw [if_pos h1, if_neg (by omega), if_pos h1]
        · rw [if_neg h1]
          by_cases h2 : j < 12
          · rw [if_pos h2, if_pos h2]
          · rw [if_neg h2, if_neg h2, if_neg h1]
            rfl
      clear hz hF hi2 hG
      go_upto_region 7 with fail
      obtain ⟨w3, hw3⟩ : ∃ w3, w3 = wr.setCell ⟨w.heap.size + 1 + 1, 15, none⟩ (.int .u8 1) := ⟨_, rfl⟩
      have Z3 : Hid (Chg w w3 ∧ Ar w3 (w.heap.size + 1) (ba 16 zB) ∧ Ar w3 (w.heap.size + 1 + 1) (ba 16 G)) := by
        obtain ⟨k0, k1, k2, k3⟩ := Z.out
        rw [hw3, HG.out.2]
        have := k3.set 15 (.int .u8 ((1#8 : By).toNat : Int))
        rw [ba_set] at this
        exact ⟨k0.setCell (by dsimp only; omega) _, k2.other (by dsimp only; omega) _, this⟩
      rw [← hw3]
      obtain ⟨t1, g1⟩ := Z3.out.2.2
      obtain ⟨t3, g3⟩ := Z3.out.2.1
      have hsz := szB G zero32.2
      have hlen := lenB 16 zB G
      have hone := ba_one 16 G
      clear hw3 b1 f1 Z
      go_wp2_with (first | refine wpList_load_row rfl 62 _ rfl _ rfl _ _ _ _ g1 und32 rfl hsz ?_ | refine wpList_store_row rfl 62 _ _ rfl _ _ rfl rfl _ _ g3 hsz hlen hone ?_)
      refine bp_c (n := 16) (c := ba 16 G) Tryz.results37 rfl rfl ?_ und32 i32 (ba_size _ _) ⟨by rw [HG.out.1], ?_⟩
      · exact Z3.out.2.1.row _
      · exact Z3.out.1.setRow (by omega) _

theorem ctr_two (nc : Nat → By) : ba 16 (updB (ctrB nc 1#8) 15 2#8) = ba 16 (ctrB nc 2#8) := ba_congr fun j hj => by
  unfold updB ctrB
  by_cases h : j = 15
  · rw [if_pos h, if_neg (by omega), if_pos h]
  · rw [if_neg h]
    by_cases h2 : j < 12
    · rw [if_pos h2, if_pos h2]
    · rw [if_neg h2, if_neg h2, if_neg h, if_neg h]
theorem nums_st {R n : Nat} {k a b txt : Nat → By} (h : ba 16 a = ba 16 b) : nums n (stF R k a txt) = nums n (stF R k b txt) := nums_congr fun i _ => by
  have h1 := ba_inj h
  unfold stF pad ctr num4
  rw [h1 12 (by decide), h1 13 (by decide), h1 14 (by decide), h1 15 (by decide)]
  congr 1
  refine E16.enc (fun _ _ => rfl) (fun j hj => ?_) _ (by omega)
  unfold put4
  by_cases h2 : j < 12
  · rw [if_pos h2, if_pos h2, h1 j hj]
  · rw [if_neg h2, if_neg h2]

set_option maxRecDepth 100000 in
set_option maxHeartbeats 4000000 in
theorem refStr_any (K R nx : Nat) (k nc tx : Nat → By) (vx : Value) (w : World) (hK : Ar w K (rkeyC R k)) (hR : R = 10 ∨ R = 14) (hvx : Ap.Rd w vx (nums nx tx)) (hnx : nx ≤ 140737488351232) :
    Calls Tryz.prog 24 #[.pointer (some ⟨K, 0, none⟩), .agg (ba 12 nc), vx] w fun r w' => ∃ v, r = .returned v ∧ OwnN w w' v (nums nx (stF R k (ctrB nc 2#8) tx)) := by
  obtain ⟨xo, m2, cx, rfl, hm2, -⟩ := hvx.shape
  rw [nums_len] at hm2
  subst hm2
  have HX : Hid (Ar w K (rkeyC R k) ∧ (R = 10 ∨ R = 14) ∧ Ap.Rd w (.slice xo m2 cx) (nums m2 tx)) := ⟨hK, hR, hvx⟩
  clear hK hR hvx
  have hsA := ba_size 12 nc
  have hszA := szB nc zero38.2
  have HC1 : Hid (∀ u, Calls Tryz.prog 37 #[.agg (ba 12 nc)] u fun r w' => r = .returned (.agg (ba 16 (ctrB nc 1#8))) ∧ Chg u w') := refFirst_any nc
  obtain ⟨A, hA⟩ : ∃ A, A = ba 12 nc := ⟨_, rfl⟩
  have HA : Hid (A = ba 12 nc) := hA
  rw [← hA] at hsA hszA HC1 ⊢
  clear hA
  have hz := zero32.1
  obtain ⟨c1, hc1⟩ : ∃ c, c = ctrB nc 1#8 := ⟨_, rfl⟩
  have HCc : Hid (c1 = ctrB nc 1#8) := hc1
  rw [← hc1] at HC1
  clear hc1
  go_enter Tryz.func24, Tryz.ntmps24
  go_upto_region 1 with fail
  obtain ⟨w1, hw1⟩ : ∃ w1, w1 = w.alloc (.cells A 25) := ⟨_, rfl⟩
  have Z1 : Hid (Chg w w1 ∧ Ar w1 w.heap.size A) := by
    rw [hw1]
    exact ⟨(Chg.refl w).alloc _, Ar.new w _ _⟩
  rw [← hw1]
  obtain ⟨tA, gA⟩ := Z1.out.2
  clear hw1 hsA
  go_wp2_with (first | refine wpList_load_row rfl 25 _ rfl _ rfl _ _ _ _ gA und38 rfl hszA ?_)
  go_at_call 37
  refine (HC1.out _).mono ?_
  rintro r w2 ⟨rfl, hc2⟩
  have Z2 : Hid (Chg w w2) := Z1.out.1.trans hc2
  clear hc2 gA hszA Z1 HC1
  have s1 := szB c1 zero32.2
  have l1 := lenB 16 zB c1
  have o1 := ba_one 16 c1
  go_upto_region 2 with (first | refine wpList_store_row rfl 62 _ _ rfl _ _ rfl rfl _ _ (heap_alloc_last w2 _) s1 l1 o1 ?_)
  obtain ⟨Bj, hBj⟩ : ∃ Bj, Bj = w2.heap.size := ⟨_, rfl⟩
  obtain ⟨w3, hw3⟩ : ∃ w3, w3 = (w2.alloc (.cells (ba 16 zB) 62)).setRow w2.heap.size (ba 16 c1) := ⟨_, rfl⟩
  have Z3 : Hid (Chg w w3 ∧ Ar w3 Bj (ba 16 c1) ∧ w.heap.size ≤ Bj) := by
    have k0 := Z2.out
    rw [hw3, hBj]
    exact ⟨(k0.alloc _).setRow k0.size _, (Ar.new w2 _ _).row _, k0.size⟩
  rw [← hw3, ← hBj]
  have b1 := (Z3.out.2.1.cell 15).trans (ba_get 16 c1 (by decide))
  have f1 := Z3.out.2.1.frozen 15
  clear hw3 hBj Z2 s1 l1 o1
  dsimp only [Act.put]
  go_upto_region 3 with fail
  obtain ⟨w4, hw4⟩ : ∃ w4, w4 = w3.setCell ⟨Bj, 15, none⟩ (.int .u8 2) := ⟨_, rfl⟩
  obtain ⟨c2, hc2⟩ : ∃ c2, c2 = updB c1 15 2#8 := ⟨_, rfl⟩
  have Z4 : Hid (Chg w w4 ∧ Ar w4 Bj (ba 16 c2)) := by
    obtain ⟨k0, k1, k2⟩ := Z3.out
    rw [hw4, hc2]
    have := k1.set 15 (.int .u8 ((2#8 : By).toNat : Int))
    rw [ba_set] at this
    exact ⟨k0.setCell k2 _, this⟩
  have HC2 : Hid (ba 16 c2 = ba 16 (ctrB nc 2#8)) := by
    show ba 16 c2 = _
    rw [hc2, HCc.out, ctr_two]
  rw [← hw4]
  obtain ⟨t4, g4⟩ := Z4.out.2
  have s4 := szB c2 zero32.2
  clear hw4 hc2 b1 f1 Z3
  go_wp2_with (first | refine wpList_load_row rfl 62 _ rfl _ rfl _ _ _ _ g4 und32 rfl s4 ?_)
  go_at_call 38
  refine (refStream_any K R m2 cx k c2 tx xo w4 (HX.out.1.chg Z4.out.1) HX.out.2.1 (Rd.chg HX.out.2.2 Z4.out.1) hnx).mono ?_
  rintro r w5 ⟨v, rfl, ho⟩
  obtain ⟨vo, vm, vc, rfl, -⟩ := ho.own.rd.shape
  have Z5 : Hid (OwnN w w5 (.slice vo vm vc) (nums m2 (stF R k (ctrB nc 2#8) tx))) := by
    rw [← nums_st HC2.out]
    exact ⟨ho.own, fun b e => Nat.le_trans Z4.out.1.size (ho.new b e), Z4.out.1.trans ho.chg⟩
  clear ho
  go_wp2
  go_ret
  exact ⟨_, rfl, Z5.out⟩
end Go.Proofs.YtobglgddbhddnaaGreat

namespace Go.Proofs.YtobglgddbhddnaaGreat
open Go.RowKit
set_option linter.unusedVariables false

theorem setCells_over {w : World} {g n : Nat} {f : Nat → By} (h : Ar w g (ba n f)) (o m : Nat) (x : Nat → By) (hm : o + m ≤ n) : w.setCells g o (ba m x).toList = w.setRow g (ba n (over o m x f)) := by
  have hl : (ba m x).toList.length = m := by rw [Array.length_toList, ba_size]
  have hone : ∀ v ∈ (ba m x).toList, v.oneCell' = true := fun v hv => (Array.all_eq_true_iff_forall_mem.1 (ba_one m x)) v (by simpa using hv)
  have h1 := run_storeCells_cells (P := Tryz.prog) g o (ba m x).toList 0 w (fun j hj => by
    rw [Nat.add_zero, h.cell, ba_get n f (by omega)]; rfl) (fun j hj => by rw [Nat.add_zero]; exact h.frozen _) hone
  obtain ⟨t, h⟩ := h
  have h2 := run_storeCells_at Tryz.prog g o t (ba m x).toList 0 (ba n f) w h (by rw [hl, ba_size]; omega) hone
  rw [h1] at h2
  injection h2 with _ h2
  simp only [Nat.add_zero] at h2
  rw [h2, ← ba_over n o m x f hm]
theorem ba4_ne : ¬ ba 4 zB = #[] := fun e => by
  have := congrArg Array.size e
  rw [ba_size] at this
  cases this
theorem there4 {w : World} {g n : Nat} {f : Nat → By} (h : Ar w g (ba n f)) (o m : Nat) (hm : o + m ≤ n) : w.there g o m := fun j hj => by
  rw [h.cell, ba_get n f (by omega)]
  exact ⟨rfl, h.frozen _⟩
theorem over_all (m : Nat) (x f : Nat → By) : ba m (over 0 m x f) = ba m x := ba_congr fun j hj => by
  have : 0 ≤ j ∧ j < 0 + m := by omega
  simp only [over, this, if_true, and_self, Nat.sub_zero]

set_option maxRecDepth 100000 in
set_option maxHeartbeats 8000000 in
theorem reg11_any {Q : Exit → Act → World → Prop} {t1 t2 t3 t4 t5 t7 t9 t10 t11 t12 t13 t14 t15 t16 t17 t18 t19 t20 t21 t22 t23 t24 t25 t26 t27 t28 t29 t30 t31 t32 t33 t34 t35 t36 t37 t38 t39 t40 t41 t42 t43 t44 t45 t46 t47 t48 t49 t50 t51 t52 t53 t54 t55 t56 t57 t58 t59 t60 t61 t62 t63 t64 t65 t66 t67 t68 t69 t70 t71 t72 t73 t74 t75 t76 t77 t78 t79 t80 t81 t82 t83 t84 t85 t86 t87 t88 t89 t90 t91 t92 t93 t94 t95 t96 t97 t98 t99 t100 t101 t102 t103 t104 t105 t106 t107 t108 t109 t110 t111 t112 t113 t114 t115 t116 t117 t118 t119 t120 t121 t122 t123 t124 t125 t126 t127 t128 t129 t130 t131 t132 t133 t134 t135 t136 t137 t138 t139 t140 t141 t142 t143 t144 t145 t146 t147 t148 t149 t150 t151 t152 t153 t154 t155 t156 t157 t158 t159 t160 t161 t162 t163 t164 t165 t166 t167 t168 t169 t170 t171 t172 t173 t174 t175 t176 t177 t178 t179 t180 t181 t182 t183 t184 t185 t186 t187 t188 t189 t190 t191 t192 t193 t194 t195 : Value} {i j0 j1 j2 j3 kb ko L cap wb : Nat} {x0 x1 x2 x3 : By} {f : Nat → By} {w : World}
    (h0 : 4 * (i : Int) = j0) (w0 : IntKind.i64.wrap (j0 : Int) = j0) (h1 : (j0 : Int) + 1 = j1) (w1 : IntKind.i64.wrap (j1 : Int) = j1) (h2 : (j0 : Int) + 2 = j2) (w2 : IntKind.i64.wrap (j2 : Int) = j2) (h3 : (j0 : Int) + 3 = j3) (w3 : IntKind.i64.wrap (j3 : Int) = j3)
    (l0 : j0 < L) (l1 : j1 < L) (l2 : j2 < L) (l3 : j3 < L) (li : (i : Int) < 60) (hkb : kb < w.heap.size)
    (c0 : w.cell? ⟨kb, ko + j0, none⟩ = some (.int .u8 (x0.toNat : Int))) (c1 : w.cell? ⟨kb, ko + j1, none⟩ = some (.int .u8 (x1.toNat : Int))) (c2 : w.cell? ⟨kb, ko + j2, none⟩ = some (.int .u8 (x2.toNat : Int))) (c3 : w.cell? ⟨kb, ko + j3, none⟩ = some (.int .u8 (x3.toNat : Int)))
    (hW : Ar w wb (ba 240 f))
    (hQ : ∀ (u42 u43 u44 u45 u46 u47 u48 u49 u50 u51 u52 u53 u54 u55 u56 u57 u58 u59 u60 u61 u62 u63 u64 u65 u66 u67 : Value) (u : World), Chg w u → Q .normal ⟨#[.slice (some ⟨kb, ko, none⟩) L cap, t1, t2, t3, t4, t5, .pointer (some ⟨wb, 0, none⟩), t7, .int .i64 (i : Int), t9, t10, t11, t12, t13, t14, t15, t16, t17, t18, t19, t20, t21, t22, t23, t24, t25, t26, t27, t28, t29, t30, t31, t32, t33, t34, t35, t36, t37, t38, t39, t40, t41, u42, u43, u44, u45, u46, u47, u48, u49, u50, u51, u52, u53, u54, u55, u56, u57, u58, u59, u60, u61, u62, u63, u64, u65, u66, u67, t68, t69, t70, t71, t72, t73, t74, t75, t76, t77, t78, t79, t80, t81, t82, t83, t84, t85, t86, t87, t88, t89, t90, t91, t92, t93, t94, t95, t96, t97, t98, t99, t100, t101, t102, t103, t104, t105, t106, t107, t108, t109, t110, t111, t112, t113, t114, t115, t116, t117, t118, t119, t120, t121, t122, t123, t124, t125, t126, t127, t128, t129, t130, t131, t132, t133, t134, t135, t136, t137, t138, t139, t140, t141, t142, t143, t144, t145, t146, t147, t148, t149, t150, t151, t152, t153, t154, t155, t156, t157, t158, t159, t160, t161, t162, t163, t164, t165, t166, t167, t168, t169, t170, t171, t172, t173, t174, t175, t176, t177, t178, t179, t180, t181, t182, t183, t184, t185, t186, t187, t188, t189, t190, t191, t192, t193, t194, t195], []⟩ (u.setRow wb (ba 240 (over (i * 4) 4 (fn4 x0 x1 x2 x3) f)))) :
    (reg Tryz.f23 11).wp Tryz.prog Q ⟨#[.slice (some ⟨kb, ko, none⟩) L cap, t1, t2, t3, t4, t5, .pointer (some ⟨wb, 0, none⟩), t7, .int .i64 (i : Int), t9, t10, t11, t12, t13, t14, t15, t16, t17, t18, t19, t20, t21, t22, t23, t24, t25, t26, t27, t28, t29, t30, t31, t32, t33, t34, t35, t36, t37, t38, t39, t40, t41, t42, t43, t44, t45, t46, t47, t48, t49, t50, t51, t52, t53, t54, t55, t56, t57, t58, t59, t60, t61, t62, t63, t64, t65, t66, t67, t68, t69, t70, t71, t72, t73, t74, t75, t76, t77, t78, t79, t80, t81, t82, t83, t84, t85, t86, t87, t88, t89, t90, t91, t92, t93, t94, t95, t96, t97, t98, t99, t100, t101, t102, t103, t104, t105, t106, t107, t108, t109, t110, t111, t112, t113, t114, t115, t116, t117, t118, t119, t120, t121, t122, t123, t124, t125, t126, t127, t128, t129, t130, t131, t132, t133, t134, t135, t136, t137, t138, t139, t140, t141, t142, t143, t144, t145, t146, t147, t148, t149, t150, t151, t152, t153, t154, t155, t156, t157, t158, t159, t160, t161, t162, t163, t164, t165, t166, t167, t168, t169, t170, t171, t172, t173, t174, t175, t176, t177, t178, t179, t180, t181, t182, t183, t184, t185, t186, t187, t188, t189, t190, t191, t192, t193, t194, t195], []⟩ w := by
  show Code.wp Tryz.prog (Code.region 11 _ true) Q _ _
  refine wp_region_vals 26 (fun j => match j with
    | 0 => .int .i64 (i : Int)
    | 1 => .slice (some ⟨kb, ko, none⟩) L cap
    | 2 => .int .i64 (i : Int)
    | 3 => .int .i64 (j0 : Int)
    | 4 => .pointer (some ⟨kb, ko + j0, none⟩)
    | 5 => .int .u8 (x0.toNat : Int)
    | 6 => .slice (some ⟨kb, ko, none⟩) L cap
    | 7 => .int .i64 (i : Int)
    | 8 => .int .i64 (j0 : Int)
    | 9 => .int .i64 (j1 : Int)
    | 10 => .pointer (some ⟨kb, ko + j1, none⟩)
    | 11 => .int .u8 (x1.toNat : Int)
    | 12 => .slice (some ⟨kb, ko, none⟩) L cap
    | 13 => .int .i64 (i : Int)
    | 14 => .int .i64 (j0 : Int)
    | 15 => .int .i64 (j2 : Int)
    | 16 => .pointer (some ⟨kb, ko + j2, none⟩)
    | 17 => .int .u8 (x2.toNat : Int)
    | 18 => .slice (some ⟨kb, ko, none⟩) L cap
    | 19 => .int .i64 (i : Int)
    | 20 => .int .i64 (j0 : Int)
    | 21 => .int .i64 (j3 : Int)
    | 22 => .pointer (some ⟨kb, ko + j3, none⟩)
    | 23 => .int .u8 (x3.toNat : Int)
    | 24 => .agg (ba 4 (fn4 x0 x1 x2 x3))
    | _ => .pointer (some ⟨wb, i * 4, none⟩)) (by kernel_rfl) (by kernel_rfl) (by kernel_rfl) (by kernel_rfl) (by kernel_rfl) (by kernel_rfl) ?_ ?_
  · intro i o ac u hi ho hf hg hc
    have hcs : i = 0 ∨ i = 1 ∨ i = 2 ∨ i = 3 ∨ i = 4 ∨ i = 5 ∨ i = 6 ∨ i = 7 ∨ i = 8 ∨ i = 9 ∨ i = 10 ∨ i = 11 ∨ i = 12 ∨ i = 13 ∨ i = 14 ∨ i = 15 ∨ i = 16 ∨ i = 17 ∨ i = 18 ∨ i = 19 ∨ i = 20 ∨ i = 21 ∨ i = 22 ∨ i = 23 ∨ i = 24 ∨ i = 25 := by omega
    rcases hcs with rfl | rfl | rfl | rfl | rfl | rfl | rfl | rfl | rfl | rfl | rfl | rfl | rfl | rfl | rfl | rfl | rfl | rfl | rfl | rfl | rfl | rfl | rfl | rfl | rfl | rfl
    · injection ho with ho
      subst ho
      have e1 : ac.eval (.tmp 8) = .int .i64 (i : Int) := hf 8 (by kernel_rfl)
      exact op_val (by simp [execOp, e1]) (Chg.refl _)
    · injection ho with ho
      subst ho
      have e1 : ac.eval (.tmp 0) = .slice (some ⟨kb, ko, none⟩) L cap := hf 0 (by kernel_rfl)
      exact op_val (by simp [execOp, e1]) (Chg.refl _)
    · injection ho with ho
      subst ho
      have e1 : ac.eval (.tmp 8) = .int .i64 (i : Int) := hf 8 (by kernel_rfl)
      exact op_val (by simp [execOp, e1]) (Chg.refl _)
    · injection ho with ho
      subst ho
      have e1 : ac.eval (.const (.int .i64 4)) = .int .i64 4 := rfl
      have e2 : ac.eval (.tmp 44) = .int .i64 (i : Int) := hg 2 (by kernel_rfl) (by decide)
      exact op_val (by revert e1 e2; generalize ac.eval = ρ; intro e1 e2; simp [go_sem, execOp, e1, e2, h0, w0]) (Chg.refl _)
    · injection ho with ho
      subst ho
      have e1 : ac.eval (.tmp 43) = .slice (some ⟨kb, ko, none⟩) L cap := hg 1 (by kernel_rfl) (by decide)
      have e2 : ac.eval (.tmp 45) = .int .i64 (j0 : Int) := hg 3 (by kernel_rfl) (by decide)
      exact op_val (by revert e1 e2; generalize ac.eval = ρ; intro e1 e2; simp [go_sem, execOp, e1, e2, l0]) (Chg.refl _)
    · injection ho with ho
      subst ho
      have ca : u.cell? ⟨kb, ko + j0, none⟩ = some (.int .u8 (x0.toNat : Int)) := (World.cell?_of_block (hc.block kb hkb)).trans c0
      have e1 : ac.eval (.tmp 46) = .pointer (some ⟨kb, ko + j0, none⟩) := hg 4 (by kernel_rfl) (by decide)
      exact op_val (by revert e1; generalize ac.eval = ρ; intro e1; simp [go_sem, execOp, e1, ca]) (Chg.refl _)
    · injection ho with ho
      subst ho
      have e1 : ac.eval (.tmp 0) = .slice (some ⟨kb, ko, none⟩) L cap := hf 0 (by kernel_rfl)
      exact op_val (by simp [execOp, e1]) (Chg.refl _)
    · injection ho with ho
      subst ho
      have e1 : ac.eval (.tmp 8) = .int .i64 (i : Int) := hf 8 (by kernel_rfl)
      exact op_val (by simp [execOp, e1]) (Chg.refl _)
    · injection ho with ho
      subst ho
      have e1 : ac.eval (.const (.int .i64 4)) = .int .i64 4 := rfl
      have e2 : ac.eval (.tmp 49) = .int .i64 (i : Int) := hg 7 (by kernel_rfl) (by decide)
      exact op_val (by revert e1 e2; generalize ac.eval = ρ; intro e1 e2; simp [go_sem, execOp, e1, e2, h0, w0]) (Chg.refl _)
    · injection ho with ho
      subst ho
      have e1 : ac.eval (.tmp 50) = .int .i64 (j0 : Int) := hg 8 (by kernel_rfl) (by decide)
      have e2 : ac.eval (.const (.int .i64 1)) = .int .i64 1 := rfl
      exact op_val (by revert e1 e2; generalize ac.eval = ρ; intro e1 e2; simp [go_sem, execOp, e1, e2, h1, w1]) (Chg.refl _)
    · injection ho with ho
      subst ho
      have e1 : ac.eval (.tmp 48) = .slice (some ⟨kb, ko, none⟩) L cap := hg 6 (by kernel_rfl) (by decide)
      have e2 : ac.eval (.tmp 51) = .int .i64 (j1 : Int) := hg 9 (by kernel_rfl) (by decide)
      exact op_val (by revert e1 e2; generalize ac.eval = ρ; intro e1 e2; simp [go_sem, execOp, e1, e2, l1]) (Chg.refl _)
    · injection ho with ho
      subst ho
      have ca : u.cell? ⟨kb, ko + j1, none⟩ = some (.int .u8 (x1.toNat : Int)) := (World.cell?_of_block (hc.block kb hkb)).trans c1
      have e1 : ac.eval (.tmp 52) = .pointer (some ⟨kb, ko + j1, none⟩) := hg 10 (by kernel_rfl) (by decide)
      exact op_val (by revert e1; generalize ac.eval = ρ; intro e1; simp [go_sem, execOp, e1, ca]) (Chg.refl _)
    · injection ho with ho
      subst ho
      have e1 : ac.eval (.tmp 0) = .slice (some ⟨kb, ko, none⟩) L cap := hf 0 (by kernel_rfl)
      exact op_val (by simp [execOp, e1]) (Chg.refl _)
    · injection ho with ho
      subst ho
      have e1 : ac.eval (.tmp 8) = .int .i64 (i : Int) := hf 8 (by kernel_rfl)
      exact op_val (by simp [execOp, e1]) (Chg.refl _)
    · injection ho with ho
      subst ho
      have e1 : ac.eval (.const (.int .i64 4)) = .int .i64 4 := rfl
      have e2 : ac.eval (.tmp 55) = .int .i64 (i : Int) := hg 13 (by kernel_rfl) (by decide)
      exact op_val (by revert e1 e2; generalize ac.eval = ρ; intro e1 e2; simp [go_sem, execOp, e1, e2, h0, w0]) (Chg.refl _)
    · injection ho with ho
      subst ho
      have e1 : ac.eval (.tmp 56) = .int .i64 (j0 : Int) := hg 14 (by kernel_rfl) (by decide)
      have e2 : ac.eval (.const (.int .i64 2)) = .int .i64 2 := rfl
      exact op_val (by revert e1 e2; generalize ac.eval = ρ; intro e1 e2; simp [go_sem, execOp, e1, e2, h2, w2]) (Chg.refl _)
    · injection ho with ho
      subst ho
      have e1 : ac.eval (.tmp 54) = .slice (some ⟨kb, ko, none⟩) L cap := hg 12 (by kernel_rfl) (by decide)
      have e2 : ac.eval (.tmp 57) = .int .i64 (j2 : Int) := hg 15 (by kernel_rfl) (by decide)
      exact op_val (by revert e1 e2; generalize ac.eval = ρ; intro e1 e2; simp [go_sem, execOp, e1, e2, l2]) (Chg.refl _)
    · injection ho with ho
      subst ho
      have ca : u.cell? ⟨kb, ko + j2, none⟩ = some (.int .u8 (x2.toNat : Int)) := (World.cell?_of_block (hc.block kb hkb)).trans c2
      have e1 : ac.eval (.tmp 58) = .pointer (some ⟨kb, ko + j2, none⟩) := hg 16 (by kernel_rfl) (by decide)
      exact op_val (by revert e1; generalize ac.eval = ρ; intro e1; simp [go_sem, execOp, e1, ca]) (Chg.refl _)
    · injection ho with ho
      subst ho
      have e1 : ac.eval (.tmp 0) = .slice (some ⟨kb, ko, none⟩) L cap := hf 0 (by kernel_rfl)
      exact op_val (by simp [execOp, e1]) (Chg.refl _)
    · injection ho with ho
      subst ho
      have e1 : ac.eval (.tmp 8) = .int .i64 (i : Int) := hf 8 (by kernel_rfl)
      exact op_val (by simp [execOp, e1]) (Chg.refl _)
    · injection ho with ho
      subst ho
      have e1 : ac.eval (.const (.int .i64 4)) = .int .i64 4 := rfl
      have e2 : ac.eval (.tmp 61) = .int .i64 (i : Int) := hg 19 (by kernel_rfl) (by decide)
      exact op_val (by revert e1 e2; generalize ac.eval = ρ; intro e1 e2; simp [go_sem, execOp, e1, e2, h0, w0]) (Chg.refl _)
    · injection ho with ho
      subst ho
      have e1 : ac.eval (.tmp 62) = .int .i64 (j0 : Int) := hg 20 (by kernel_rfl) (by decide)
      have e2 : ac.eval (.const (.int .i64 3)) = .int .i64 3 := rfl
      exact op_val (by revert e1 e2; generalize ac.eval = ρ; intro e1 e2; simp [go_sem, execOp, e1, e2, h3, w3]) (Chg.refl _)
    · injection ho with ho
      subst ho
      have e1 : ac.eval (.tmp 60) = .slice (some ⟨kb, ko, none⟩) L cap := hg 18 (by kernel_rfl) (by decide)
      have e2 : ac.eval (.tmp 63) = .int .i64 (j3 : Int) := hg 21 (by kernel_rfl) (by decide)
      exact op_val (by revert e1 e2; generalize ac.eval = ρ; intro e1 e2; simp [go_sem, execOp, e1, e2, l3]) (Chg.refl _)
    · injection ho with ho
      subst ho
      have ca : u.cell? ⟨kb, ko + j3, none⟩ = some (.int .u8 (x3.toNat : Int)) := (World.cell?_of_block (hc.block kb hkb)).trans c3
      have e1 : ac.eval (.tmp 64) = .pointer (some ⟨kb, ko + j3, none⟩) := hg 22 (by kernel_rfl) (by decide)
      exact op_val (by revert e1; generalize ac.eval = ρ; intro e1; simp [go_sem, execOp, e1, ca]) (Chg.refl _)
    · injection ho with ho
      subst ho
      have e1 : ac.eval (.tmp 47) = .int .u8 (x0.toNat : Int) := hg 5 (by kernel_rfl) (by decide)
      have e2 : ac.eval (.tmp 53) = .int .u8 (x1.toNat : Int) := hg 11 (by kernel_rfl) (by decide)
      have e3 : ac.eval (.tmp 59) = .int .u8 (x2.toNat : Int) := hg 17 (by kernel_rfl) (by decide)
      have e4 : ac.eval (.tmp 65) = .int .u8 (x3.toNat : Int) := hg 23 (by kernel_rfl) (by decide)
      exact op_val (by revert e1 e2 e3 e4; generalize ac.eval = ρ; intro e1 e2 e3 e4; simp [go_sem, execOp, e1, e2, e3, e4, zero46.1, built4, ba_size, ba4_ne]) (Chg.refl _)
    · injection ho with ho
      subst ho
      have e1 : ac.eval (.tmp 6) = .pointer (some ⟨wb, 0, none⟩) := hf 6 (by kernel_rfl)
      have e2 : ac.eval (.tmp 42) = .int .i64 (i : Int) := hg 0 (by kernel_rfl) (by decide)
      exact op_val (by revert e1 e2; generalize ac.eval = ρ; intro e1 e2; simp [go_sem, execOp, e1, e2, li]) (Chg.refl _)
  · intro o u ho hc
    injection ho with ho
    subst ho
    have hW' := hW.chg ((Chg.refl w).drew.trans hc)
    refine wp_store_mid 70 (.tmp 67) (.tmp 66) rfl _ _ (ba 4 (fn4 x0 x1 x2 x3)) rfl rfl (by rw [ba_size]; exact there4 hW' _ _ (by omega)) (by rw [ba_size]; exact i46) (ba_one _ _) ?_
    rw [setCells_over hW' _ _ _ (by omega)]
    exact hQ _ _ _ _ _ _ _ _ _ _ _ _ _ _ _ _ _ _ _ _ _ _ _ _ _ _ _ ((Chg.refl w).drew.trans hc)

end Go.Proofs.YtobglgddbhddnaaGreat
