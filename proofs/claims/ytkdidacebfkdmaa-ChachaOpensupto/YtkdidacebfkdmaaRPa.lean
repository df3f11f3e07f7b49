/-
  The document's code of a text: the first half of its key.
-/
import Derived.Test.YtkdidacebfkdmaaRNg
import Derived.Lib.EndianBits
namespace Go.Proofs.Ytkdidacebfkdmaa
open Go.RowKit
set_option linter.unusedVariables false

/-- What stands while the document makes a code: the key, the result, r. -/
structure RY (w wr : World) (key : Nat → By) (r : Nat → Int) : Prop where
  chg : Chg w wr
  ky : Ar wr w.heap.size (ba 32 key)
  res : Ar wr (w.heap.size + 1) (ba 16 zB)
  r : Ar wr (w.heap.size + 1 + 1) (arr .u64 8 r)
theorem RY.to {w wr u : World} {key : Nat → By} {r : Nat → Int} (h : RY w wr key r) (k : Chg wr u) : RY w u key r := ⟨h.chg.trans k, h.ky.chg k, h.res.chg k, h.r.chg k⟩
theorem RY.set {w wr : World} {key : Nat → By} {r : Nat → Int} (h : RY w wr key r) (i : Nat) (x : Int) : RY w (wr.setCell ⟨w.heap.size + 1 + 1, i, none⟩ (.int .u64 x)) key (updI r i x) := by
  refine ⟨h.chg.setCell (by dsimp only; omega) _, h.ky.other (by dsimp only; omega) _, h.res.other (by dsimp only; omega) _, ?_⟩
  have := h.r.set i (.int .u64 x)
  rwa [arr_set] at this
theorem RY.drew {w wr : World} {key : Nat → By} {r : Nat → Int} (h : RY w wr key r) : RY w wr.drew key r := ⟨h.chg.drew, h.ky, h.res, h.r⟩
theorem RY.other {w wr : World} {key : Nat → By} {r : Nat → Int} (h : RY w wr key r) {B : Nat} (hB : w.heap.size + 1 + 1 < B) (i : Nat) (v : Value) : RY w (wr.setCell ⟨B, i, none⟩ v) key r :=
  ⟨h.chg.setCell (by dsimp only; omega) _, h.ky.other (by dsimp only; omega) _, h.res.other (by dsimp only; omega) _, h.r.other (by dsimp only; omega) _⟩
theorem RY.rowOther {w wr : World} {key : Nat → By} {r : Nat → Int} (h : RY w wr key r) {B : Nat} (hB : w.heap.size + 1 + 1 < B) (c : Array Value) : RY w (wr.setRow B c) key r :=
  ⟨h.chg.setRow (by omega) _, h.ky.rowOther (by omega) _, h.res.rowOther (by omega) _, h.r.rowOther (by omega) _⟩

/-- A place's digit of 16 bits, and how far its byte is moved. -/
theorem dm2 (i : Nat) (h : i < 1000) : ∃ q r s : Nat, (i : Int).tdiv 2 = q ∧ (i : Int).tmod 2 = r ∧ 8 * (r : Int) = s ∧ IntKind.i64.wrap (q : Int) = q ∧ IntKind.i64.wrap (r : Int) = r ∧ IntKind.i64.wrap (s : Int) = s ∧ (s : Int) < 64 ∧ s < 64 ∧ Hid (q = i / 2 ∧ s = 8 * (i % 2) ∧ (i % 2 = 0 ∧ (2 : Int) ^ s = 1 ∨ i % 2 = 1 ∧ (2 : Int) ^ s = 256)) := by
  refine ⟨i / 2, i % 2, 8 * (i % 2), by rw [Int.tdiv_eq_ediv_of_nonneg (by omega)]; omega, by rw [Int.tmod_eq_emod_of_nonneg (by omega)]; omega, by omega, wrap_i (by omega) (by omega), wrap_i (by omega) (by omega), wrap_i (by omega) (by omega), by omega, by omega, ⟨rfl, rfl, ?_⟩⟩
  rcases Nat.mod_two_eq_zero_or_one i with h | h
  · exact .inl ⟨h, by rw [h]; rfl⟩
  · exact .inr ⟨h, by rw [h]; rfl⟩
theorem or_digit {x y : Int} (hx0 : 0 ≤ x) (hx : x < 256) (hy0 : 0 ≤ y) (hy : y < 65536) (hm : y % 256 = 0) : Go.bits .or .u64 x y = x + y := by
  have h64 : (2 : Int) ^ 64 = 18446744073709551616 := rfl
  refine bits_join_low .u64 64 (by decide) (fun n h0 h1 => wrap_u h0 (by omega)) 8 x y hx0 hx (by omega) hy0 hm (by omega)
theorem or_zero' {y : Int} (hy0 : 0 ≤ y) (hy : y < 65536) : Go.bits .or .u64 0 y = y := by
  have h64 : (2 : Int) ^ 64 = 18446744073709551616 := rfl
  have h := bits_join .u64 64 (by decide) (fun n h0 h1 => wrap_u h0 (by omega)) 16 0 y (by decide) (by decide) (by decide) hy0 (by have : (2 : Int) ^ 16 = 65536 := rfl; omega) (by omega)
  rw [h]
  omega
/-- A byte of the first half, looked at once, then twice. -/
def c1F (key : Nat → By) (i : Nat) : By := if i % 4 = 3 then key i &&& 15#8 else key i
theorem c2F (key : Nat → By) {i : Nat} (hi : i < 16) : clF key i = if i % 4 = 0 ∧ 0 < i then c1F key i &&& 252#8 else c1F key i := by
  unfold clF c1F
  rw [if_pos hi]
  by_cases h3 : i % 4 = 3
  · rw [if_pos h3, if_pos h3, if_neg (by omega)]
  · rw [if_neg h3, if_neg h3]

set_option maxRecDepth 100000 in
set_option maxHeartbeats 8000000 in
/-- The first half of the key, by digits. -/
theorem ry1_any {Q : Exit → Act → World → Prop} {t0 t1 t3 t4 t7 t8 t9 t10 t11 t12 t13 t14 t15 t16 t17 t18 t19 t20 t21 t22 t23 t24 t25 t26 t27 t28 t29 t30 t31 t32 t33 t34 t35 t36 t37 t38 t39 t40 t41 t42 t43 t44 t45 t46 t47 t48 t49 t50 t51 t52 t53 t54 t55 t56 t57 t58 t59 t60 t61 t62 t63 t64 t65 t66 t67 t68 t69 t70 t71 t72 t73 t74 t75 t76 t77 t78 t79 t80 t81 t82 t83 t84 t85 t86 t87 t88 t89 t90 t91 t92 t93 t94 t95 t96 t97 t98 t99 t100 t101 t102 t103 t104 t105 t106 t107 t108 t109 t110 t111 t112 t113 t114 t115 t116 t117 t118 t119 t120 t121 t122 t123 t124 t125 t126 t127 t128 t129 t130 t131 t132 t133 t134 t135 t136 t137 t138 : Value} {key : Nat → By} {w w1 : World} (h : RY w w1 key (gF (clF key) 0))
    (hQ : ∀ (u6 u7 u16 u17 u18 u19 u20 u21 u22 u23 u24 u25 u26 u27 u28 u29 u30 u31 u32 u33 u34 u35 u36 u37 u38 u39 u40 u41 u42 u43 u44 u45 u46 u47 u48 u49 u50 : Value) (w' : World), RY w w' key (gF (clF key) 16) → Q .normal ⟨#[t0, t1, .pointer (some ⟨w.heap.size, 0, none⟩), t3, t4, .pointer (some ⟨w.heap.size + 1 + 1, 0, none⟩), u6, u7, t8, t9, t10, t11, t12, t13, t14, t15, u16, u17, u18, u19, u20, u21, u22, u23, u24, u25, u26, u27, u28, u29, u30, u31, u32, u33, u34, u35, u36, u37, u38, u39, u40, u41, u42, u43, u44, u45, u46, u47, u48, u49, u50, t51, t52, t53, t54, t55, t56, t57, t58, t59, t60, t61, t62, t63, t64, t65, t66, t67, t68, t69, t70, t71, t72, t73, t74, t75, t76, t77, t78, t79, t80, t81, t82, t83, t84, t85, t86, t87, t88, t89, t90, t91, t92, t93, t94, t95, t96, t97, t98, t99, t100, t101, t102, t103, t104, t105, t106, t107, t108, t109, t110, t111, t112, t113, t114, t115, t116, t117, t118, t119, t120, t121, t122, t123, t124, t125, t126, t127, t128, t129, t130, t131, t132, t133, t134, t135, t136, t137, t138], []⟩ w') :
    (bk Try.f14 0).wp Try.prog Q ⟨#[t0, t1, .pointer (some ⟨w.heap.size, 0, none⟩), t3, t4, .pointer (some ⟨w.heap.size + 1 + 1, 0, none⟩), .int .i64 0, t7, t8, t9, t10, t11, t12, t13, t14, t15, t16, t17, t18, t19, t20, t21, t22, t23, t24, t25, t26, t27, t28, t29, t30, t31, t32, t33, t34, t35, t36, t37, t38, t39, t40, t41, t42, t43, t44, t45, t46, t47, t48, t49, t50, t51, t52, t53, t54, t55, t56, t57, t58, t59, t60, t61, t62, t63, t64, t65, t66, t67, t68, t69, t70, t71, t72, t73, t74, t75, t76, t77, t78, t79, t80, t81, t82, t83, t84, t85, t86, t87, t88, t89, t90, t91, t92, t93, t94, t95, t96, t97, t98, t99, t100, t101, t102, t103, t104, t105, t106, t107, t108, t109, t110, t111, t112, t113, t114, t115, t116, t117, t118, t119, t120, t121, t122, t123, t124, t125, t126, t127, t128, t129, t130, t131, t132, t133, t134, t135, t136, t137, t138], []⟩ w1 := by
  show Code.wp Try.prog (Code.block _ (Code.loop _)) Q _ _
  have HQ := (show Hid (∀ (u6 u7 u16 u17 u18 u19 u20 u21 u22 u23 u24 u25 u26 u27 u28 u29 u30 u31 u32 u33 u34 u35 u36 u37 u38 u39 u40 u41 u42 u43 u44 u45 u46 u47 u48 u49 u50 : Value) (w' : World), RY w w' key (gF (clF key) 16) → Q .normal ⟨#[t0, t1, .pointer (some ⟨w.heap.size, 0, none⟩), t3, t4, .pointer (some ⟨w.heap.size + 1 + 1, 0, none⟩), u6, u7, t8, t9, t10, t11, t12, t13, t14, t15, u16, u17, u18, u19, u20, u21, u22, u23, u24, u25, u26, u27, u28, u29, u30, u31, u32, u33, u34, u35, u36, u37, u38, u39, u40, u41, u42, u43, u44, u45, u46, u47, u48, u49, u50, t51, t52, t53, t54, t55, t56, t57, t58, t59, t60, t61, t62, t63, t64, t65, t66, t67, t68, t69, t70, t71, t72, t73, t74, t75, t76, t77, t78, t79, t80, t81, t82, t83, t84, t85, t86, t87, t88, t89, t90, t91, t92, t93, t94, t95, t96, t97, t98, t99, t100, t101, t102, t103, t104, t105, t106, t107, t108, t109, t110, t111, t112, t113, t114, t115, t116, t117, t118, t119, t120, t121, t122, t123, t124, t125, t126, t127, t128, t129, t130, t131, t132, t133, t134, t135, t136, t137, t138], []⟩ w') from hQ)
  clear hQ
  have H0 : Hid (RY w w1 key (gF (clF key) 0)) := h
  clear h
  go_wp2_with fail
  go_loopw [6] (fun v wr => ∃ (i : Nat), v = .int .i64 i ∧ i ≤ 16 ∧ RY w wr key (gF (clF key) i)) (fun v wr => 16 - (intOf v).toNat)
  case atStart => exact ⟨0, rfl, by omega, H0.out⟩
  case round =>
    obtain ⟨i, rfl, hi, hz0⟩ := hrel
    have Z : Hid (RY w wr key (gF (clF key) i)) := hz0
    by_cases hlt : i < 16
    · have hd : decide ((i : Int) < 16) = true := by simp; omega
      have li : (i : Int) < 32 := by omega
      have c0 := (hz0.ky.cell i).trans (ba_get 32 _ (by omega))
      obtain ⟨k0, hk0⟩ : ∃ k0, k0 = key i := ⟨_, rfl⟩
      rw [← hk0] at c0
      obtain ⟨r4, hr4⟩ : ∃ r4 : Nat, (i : Int).tmod 4 = r4 := ⟨i % 4, by rw [Int.tmod_eq_emod_of_nonneg (by omega)]; omega⟩
      have HR4 : Hid (r4 = i % 4) := by
        rw [Int.tmod_eq_emod_of_nonneg (by omega)] at hr4
        show r4 = _
        omega
      have wr4 := wrap_i (x := (r4 : Int)) (by have := HR4.out; omega) (by have := HR4.out; omega)
      obtain ⟨b3, hb3⟩ : ∃ b3 : Bool, ((r4 : Int) == 3) = b3 := ⟨_, rfl⟩
      have HB3 : Hid (b3 = true ↔ i % 4 = 3) := by
        have := HR4.out
        show _ ↔ _
        rw [← hb3]
        simp
        omega
      obtain ⟨k1, hk1⟩ : ∃ k1, k1 = c1F key i := ⟨_, rfl⟩
      have HK1 : Hid (k1 = if i % 4 = 3 then k0 &&& 15#8 else k0) := by show k1 = _; rw [hk1, hk0]; rfl
      obtain ⟨m1, Hm1, em1⟩ := nmAndB k0 15#8
      replace em1 : Go.bits .and .u8 (k0.toNat : Int) 15 = (m1.toNat : Int) := em1
      obtain ⟨k2, hk2⟩ : ∃ k2, k2 = clF key i := ⟨_, rfl⟩
      have HK2 : Hid (k2 = if i % 4 = 0 ∧ 0 < i then k1 &&& 252#8 else k1) := by show k2 = _; rw [hk2, hk1]; exact c2F key hlt
      obtain ⟨m2, Hm2, em2⟩ := nmAndB k1 252#8
      replace em2 : Go.bits .and .u8 (k1.toNat : Int) 252 = (m2.toNat : Int) := em2
      have HK : Hid (k2 = clF key i) := hk2
      clear hk0 hk1 hk2 hz0
      go_upto_if 25 with fail
      go_cut [7] from 26 to 27 (fun v7 wc => v7 = .int .u8 (k1.toNat : Int) ∧ wc = wr)
      case first =>
        cases b3 with
        | true =>
          have e : m1 = k1 := by rw [HK1.out, if_pos (HB3.out.1 rfl), Hm1.out]
          go_wp2_with fail
          go_meet
          exact ⟨by rw [← e], rfl⟩
        | false =>
          have e : k0 = k1 := by
            rw [HK1.out, if_neg]
            intro h
            cases HB3.out.2 h
          go_wp2_with fail
          go_meet
          exact ⟨by rw [← e], rfl⟩
      obtain ⟨rfl, hwc⟩ := hcut
      rw [hwc]
      clear hwc wc
      obtain ⟨b0, hb0⟩ : ∃ b0 : Bool, ((r4 : Int) == 0) = b0 := ⟨_, rfl⟩
      obtain ⟨bp, hbp⟩ : ∃ bp : Bool, decide ((i : Int) > 0) = bp := ⟨_, rfl⟩
      have hbp' : decide ((0 : Int) < i) = bp := hbp
      have HB0 : Hid ((b0 = true ↔ i % 4 = 0) ∧ (bp = true ↔ 0 < i)) := by
        have := HR4.out
        refine ⟨?_, ?_⟩
        · rw [← hb0]
          simp
          omega
        · rw [← hbp, decide_eq_true_eq]
          omega
      go_upto_region 8 with fail
      go_cut [34] from 28 to 33 (fun v34 wc => v34 = .bool (b0 && bp) ∧ wc = wr)
      case first =>
        cases b0 with
        | true =>
          have hbn : decide (0 < i) = bp := by
            rw [← hbp]
            simp
          go_wp2_with fail
          go_meet
          exact ⟨by first | simp | simp [hbn], rfl⟩
        | false =>
          go_wp2_with fail
          go_meet
          exact ⟨by simp, rfl⟩
      obtain ⟨rfl, hwc⟩ := hcut
      rw [hwc]
      clear hwc wc
      obtain ⟨bq, hbq⟩ : ∃ bq, (b0 && bp) = bq := ⟨_, rfl⟩
      have HBQ : Hid (bq = true ↔ (i % 4 = 0 ∧ 0 < i)) := by
        show _ ↔ _
        rw [← hbq, Bool.and_eq_true, HB0.out.1, HB0.out.2]
      rw [hbq]
      clear hbq
      go_upto_if 34 with fail
      go_cut [7] from 35 to 36 (fun v7 wc => v7 = .int .u8 (k2.toNat : Int) ∧ wc = wr)
      case first =>
        cases bq with
        | true =>
          have e : m2 = k2 := by rw [HK2.out, if_pos (HBQ.out.1 rfl), Hm2.out]
          go_wp2_with fail
          go_meet
          exact ⟨by rw [← e], rfl⟩
        | false =>
          have e : k1 = k2 := by
            rw [HK2.out, if_neg]
            intro h
            cases HBQ.out.2 h
          go_wp2_with fail
          go_meet
          exact ⟨by rw [← e], rfl⟩
      obtain ⟨rfl, hwc⟩ := hcut
      rw [hwc]
      clear hwc wc
      obtain ⟨q, r2, s, e1, e2, e3, v1, v2, v3, ls, ls', HQ⟩ := dm2 i (by omega)
      have lq : (q : Int) < 8 := by have := HQ.out.1; omega
      have c1 := (Z.out.r.cell q).trans (arr_get .u64 8 _ (by omega))
      have f1 := Z.out.r.frozen q
      obtain ⟨x, hx⟩ : ∃ x, x = gF (clF key) i q := ⟨_, rfl⟩
      rw [← hx] at c1
      obtain ⟨y, hy⟩ : ∃ y, (k2.toNat : Int) * 2 ^ s = y := ⟨_, rfl⟩
      have hk8 := k2.isLt
      have wk : IntKind.u64.wrap (k2.toNat : Int) = k2.toNat := wrap_u (by omega) (by omega)
      have by0 : 0 ≤ y ∧ y < 65536 := by
        have := HQ.out.2.2
        rcases this with ⟨_, h⟩ | ⟨_, h⟩ <;> rw [h] at hy <;> omega
      have wy := wrap_u (x := y) (by omega) (by omega)
      have my : y % 18446744073709551616 = y := by omega
      obtain ⟨g, hg⟩ : ∃ g, x + y = g := ⟨_, rfl⟩
      have hor : Go.bits .or .u64 x y = g := by
        have hl := gF_le (clF key) i q
        rw [← hx] at hl
        have hq := HQ.out
        rcases hq.2.2 with ⟨h1, h2⟩ | ⟨h1, h2⟩
        · have : x = 0 := hl.2.2.2 h1 hq.1.symm
          rw [this, or_zero' by0.1 by0.2]
          omega
        · have h3 := hl.2.2.1 hq.1.symm
          rw [h2] at hy
          rw [or_digit hl.1.1 h3 by0.1 by0.2 (by omega), hg]
      have HE : Hid (updI (gF (clF key) i) q g = gF (clF key) (i + 1)) := by
        show _ = _
        rw [gF_succ, ← HQ.out.1, ← HQ.out.2.1, ← hx, ← hg, ← hy, HK.out]
        rfl
      clear hx by0 hk8 hg c0
      go_wp2_with fail
      refine wp_region_noPanic ?_
      go_region_with (fail)
      all_goals refine NoPanic.normal ?_
      all_goals go_wp2
      all_goals
        go_roundw
        case rel =>
          refine ⟨i + 1, by go_num, by omega, ?_⟩
          rw [← HE.out]
          first
            | exact (Z.out.set q g).drew
            | exact Z.out.drew.set q g
            | (rw [hy, my, hor]; exact (Z.out.set q g).drew)
            | (rw [wk, hy, my, hor]; exact (Z.out.set q g).drew)
        case measure => simp [intOf]; omega
    · have : i = 16 := by omega
      subst this
      have HE : Hid (RY w wr key (gF (clF key) 16)) := hz0
      clear hz0 Z
      go_wp2
      exact HQ.out _ _ _ _ _ _ _ _ _ _ _ _ _ _ _ _ _ _ _ _ _ _ _ _ _ _ _ _ _ _ _ _ _ _ _ _ _ _ HE.out
end Go.Proofs.Ytkdidacebfkdmaa
