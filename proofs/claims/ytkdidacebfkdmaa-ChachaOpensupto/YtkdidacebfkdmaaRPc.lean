/-
  The document's code of a text: its bytes.
-/
import Derived.Test.YtkdidacebfkdmaaRPb
import Derived.Test.YtkdidacebfkdmaaCtW
namespace Go.Proofs.Ytkdidacebfkdmaa
open Go.RowKit
set_option linter.unusedVariables false

/-- The digits of a number. -/
def dg (B x : Int) : Nat → Int := fun i => x / B ^ i % B
theorem val_dg {B : Int} (hB : 0 < B) (n : Nat) (x : Int) : val B n (dg B x) = x % B ^ n := by
  induction n with
  | zero => simp [val, Int.emod_one]
  | succ n ih =>
    simp only [val]
    rw [ih]
    unfold dg
    have hp : 0 < B ^ n := Int.pow_pos hB
    have e1 := Int.emod_add_mul_ediv x (B ^ n)
    have e2 := Int.emod_add_mul_ediv (x / B ^ n) B
    have e3 := Int.emod_add_mul_ediv x (B ^ (n + 1))
    have e4 : x / B ^ n / B = x / B ^ (n + 1) := by rw [Int.ediv_ediv_of_nonneg (by omega), Int.pow_succ]
    rw [e4] at e2
    have e5 : B ^ n * (x / B ^ n) = B ^ n * (x / B ^ n % B) + B ^ (n + 1) * (x / B ^ (n + 1)) := by
      have e6 : B ^ n * (x / B ^ n % B + B * (x / B ^ (n + 1))) = B ^ n * (x / B ^ n) := by rw [e2]
      rw [Int.mul_add, ← Int.mul_assoc, ← Int.pow_succ] at e6
      exact e6.symm
    rw [Int.mul_comm (x / B ^ n % B)]
    omega
/-- A number's byte, out of its digit of 16 bits. -/
theorem dig_byte {z : Nat → Int} (hz : D16 9 z) {i : Nat} (hi : i < 16) : z (i / 2) / 2 ^ (8 * (i % 2)) % 256 = dg 256 (val 65536 9 z) i := by
  have h := val_dig (B := 65536) (by decide) hz (i / 2) (by omega)
  unfold dg
  rw [← h]
  generalize val 65536 9 z = a
  have e : (256 : Int) ^ i = 65536 ^ (i / 2) * 2 ^ (8 * (i % 2)) := by rw [← pow_16 i, Int.mul_comm]
  have hp : (0 : Int) < 65536 ^ (i / 2) := Int.pow_pos (by decide)
  rw [e, ← Int.ediv_ediv_of_nonneg (by omega)]
  generalize a / 65536 ^ (i / 2) = x
  rcases Nat.mod_two_eq_zero_or_one i with h2 | h2 <;> rw [h2]
  · simp only [Nat.mul_zero, Int.pow_zero, Int.ediv_one]
    omega
  · simp only [Nat.mul_one, Int.reducePow]
    omega
/-- What is added, byte by byte. -/
def smF (z : Nat → Int) (key : Nat → By) : Nat → Int := fun i => dg 256 (val 65536 9 z) i + nmF (fun j => key (16 + j)) i
theorem sm_byte (z : Nat → Int) (key : Nat → By) {i : Nat} (hi : i < 16) : gD 256 0 (smF z key) i = (val 65536 9 z + sK key) / 256 ^ i % 256 := by
  have h := g_val 256 0 (smF z key) 16
  have h1 : val 256 16 (smF z key) = val 65536 9 z % 256 ^ 16 + sK key := by
    rw [← val_dg (by decide) 16 (val 65536 9 z)]
    exact val_add 16 _ _
  have h2 := val_dig (B := 256) (by decide) (d := gD 256 0 (smF z key)) (n := 16) (fun j _ => gD_bound (by decide) 0 _ j) i hi
  rw [← h2]
  have e : val 65536 9 z + sK key = val 256 16 (gD 256 0 (smF z key)) + (gO 256 0 (smF z key) 16 + val 65536 9 z / 256 ^ 16) * 256 ^ 16 := by
    have h3 := Int.emod_add_mul_ediv (val 65536 9 z) (256 ^ 16)
    rw [Int.add_mul, Int.mul_comm (val 65536 9 z / 256 ^ 16)]
    omega
  rw [e]
  have e1 : (256 : Int) ^ 16 = 256 ^ (16 - i - 1) * 256 * 256 ^ i := by rw [← Int.pow_succ, ← Int.pow_add]; congr 1; omega
  rw [e1, ← Int.mul_assoc, Int.add_mul_ediv_right _ _ (Int.ne_of_gt (Int.pow_pos (by decide))), ← Int.mul_assoc, Int.add_mul_emod_self_right]
theorem sm_le {z : Nat → Int} {key : Nat → By} : ∀ i, (0 ≤ smF z key i ∧ smF z key i ≤ 510) ∧ 0 ≤ gO 256 0 (smF z key) i ∧ gO 256 0 (smF z key) i ≤ 2 := by
  have hb : ∀ i, 0 ≤ smF z key i ∧ smF z key i ≤ 510 := fun i => by
    have h1 := nmF_bound (fun j => key (16 + j)) i
    have h2 : 0 ≤ dg 256 (val 65536 9 z) i ∧ dg 256 (val 65536 9 z) i < 256 := ⟨Int.emod_nonneg _ (by decide), Int.emod_lt_of_pos _ (by decide)⟩
    unfold smF
    omega
  intro i
  refine ⟨hb i, ?_⟩
  induction i with
  | zero => show 0 ≤ (0 : Int) ∧ (0 : Int) ≤ 2; omega
  | succ i ih =>
    have h1 := hb i
    show 0 ≤ (smF z key i + gO 256 0 (smF z key) i) / 256 ∧ (smF z key i + gO 256 0 (smF z key) i) / 256 ≤ 2
    omega
theorem mask8 {x : Int} (h0 : 0 ≤ x) (h1 : x < 18446744073709551616) : Go.bits .and .u64 x 255 = x % 256 := by
  obtain ⟨n, rfl⟩ := Int.eq_ofNat_of_zero_le h0
  have := u64_and_nat n 255 (by omega) (by decide)
  rw [show (255 : Int) = ((255 : Nat) : Int) from rfl, this, show 255 = 2 ^ 8 - 1 from rfl, Nat.and_two_pow_sub_one_eq_mod]
  omega

/-- What stands while the bytes of a code are laid. -/
structure RZ (w wr : World) (key : Nat → By) (r z : Nat → Int) (AB O : Nat) (F : Nat → By) : Prop where
  y : RY w wr key r
  a : Ar wr AB (arr .u64 9 z)
  out : Ar wr O (ba 16 F)
  la : w.heap.size + 1 + 1 < AB
  lt : AB < O
theorem RZ.set {w wr : World} {key : Nat → By} {r z : Nat → Int} {AB O : Nat} {F : Nat → By} (h : RZ w wr key r z AB O F) (i : Nat) (x : By) : RZ w (wr.setCell ⟨O, i, none⟩ (.int .u8 (x.toNat : Int))) key r z AB O (updB F i x) := by
  have hl := h.lt
  have ha := h.la
  refine ⟨h.y.other (by omega) i _, h.a.other (by dsimp only; omega) _, ?_, ha, hl⟩
  have := h.out.set i (.int .u8 (x.toNat : Int))
  rwa [ba_set] at this
theorem RZ.drewN {w wr : World} {key : Nat → By} {r z : Nat → Int} {AB O : Nat} {F : Nat → By} (h : RZ w wr key r z AB O F) (n : Nat) : RZ w (wr.drewN n) key r z AB O F := ⟨⟨h.y.chg.drewN n, h.y.ky, h.y.res, h.y.r⟩, h.a, h.out, h.la, h.lt⟩
theorem RZ.drew {w wr : World} {key : Nat → By} {r z : Nat → Int} {AB O : Nat} {F : Nat → By} (h : RZ w wr key r z AB O F) : RZ w wr.drew key r z AB O F := ⟨h.y.drew, h.a, h.out, h.la, h.lt⟩

set_option maxRecDepth 100000 in
set_option maxHeartbeats 8000000 in
/-- The bytes of a code. -/
theorem ry3_any {Q : Exit → Act → World → Prop} {t0 t1 t3 t4 t5 t6 t7 t9 t10 t11 t15 t16 t17 t18 t19 t20 t21 t22 t23 t24 t25 t26 t27 t28 t29 t30 t31 t32 t33 t34 t35 t36 t37 t38 t39 t40 t41 t42 t43 t44 t45 t46 t47 t48 t49 t50 t51 t52 t53 t54 t55 t56 t57 t58 t59 t60 t61 t62 t63 t64 t65 t66 t67 t68 t69 t70 t71 t72 t73 t74 t75 t76 t77 t78 t79 t80 t81 t82 t83 t84 t85 t86 t87 t88 t89 t90 t91 t92 t93 t94 t95 t96 t97 t98 t99 t100 t101 t102 t103 t104 t105 t106 t107 t108 t109 t110 t111 t112 t113 t114 t115 t116 t117 t118 t119 t120 t121 t122 t123 t124 t125 t126 t127 t128 t129 t130 t131 t132 t133 t134 t135 t136 t137 t138 : Value} {key F : Nat → By} {r z : Nat → Int} {AB O : Nat} {w w1 : World} (h : RZ w w1 key r z AB O zB) (hd : D16 9 z) (hF : F = byF (val 65536 9 z + sK key))
    (hQ : ∀ (u13 u14 u15 u111 u112 u113 u114 u115 u116 u117 u118 u119 u120 u121 u122 u123 u124 u125 u126 u127 u128 u129 u130 u131 u132 u133 u134 u135 u136 u137 : Value) (w' : World), RZ w w' key r z AB O F → Q .normal ⟨#[t0, t1, .pointer (some ⟨w.heap.size, 0, none⟩), t3, t4, t5, t6, t7, .pointer (some ⟨AB, 0, none⟩), t9, t10, t11, .pointer (some ⟨O, 0, none⟩), u13, u14, u15, t16, t17, t18, t19, t20, t21, t22, t23, t24, t25, t26, t27, t28, t29, t30, t31, t32, t33, t34, t35, t36, t37, t38, t39, t40, t41, t42, t43, t44, t45, t46, t47, t48, t49, t50, t51, t52, t53, t54, t55, t56, t57, t58, t59, t60, t61, t62, t63, t64, t65, t66, t67, t68, t69, t70, t71, t72, t73, t74, t75, t76, t77, t78, t79, t80, t81, t82, t83, t84, t85, t86, t87, t88, t89, t90, t91, t92, t93, t94, t95, t96, t97, t98, t99, t100, t101, t102, t103, t104, t105, t106, t107, t108, t109, t110, u111, u112, u113, u114, u115, u116, u117, u118, u119, u120, u121, u122, u123, u124, u125, u126, u127, u128, u129, u130, u131, u132, u133, u134, u135, u136, u137, t138], []⟩ w') :
    (bk Try.f14 6).wp Try.prog Q ⟨#[t0, t1, .pointer (some ⟨w.heap.size, 0, none⟩), t3, t4, t5, t6, t7, .pointer (some ⟨AB, 0, none⟩), t9, t10, t11, .pointer (some ⟨O, 0, none⟩), .int .u64 0, .int .i64 0, t15, t16, t17, t18, t19, t20, t21, t22, t23, t24, t25, t26, t27, t28, t29, t30, t31, t32, t33, t34, t35, t36, t37, t38, t39, t40, t41, t42, t43, t44, t45, t46, t47, t48, t49, t50, t51, t52, t53, t54, t55, t56, t57, t58, t59, t60, t61, t62, t63, t64, t65, t66, t67, t68, t69, t70, t71, t72, t73, t74, t75, t76, t77, t78, t79, t80, t81, t82, t83, t84, t85, t86, t87, t88, t89, t90, t91, t92, t93, t94, t95, t96, t97, t98, t99, t100, t101, t102, t103, t104, t105, t106, t107, t108, t109, t110, t111, t112, t113, t114, t115, t116, t117, t118, t119, t120, t121, t122, t123, t124, t125, t126, t127, t128, t129, t130, t131, t132, t133, t134, t135, t136, t137, t138], []⟩ w1 := by
  show Code.wp Try.prog (Code.block _ (Code.loop _)) Q _ _
  have HQ := (show Hid (∀ (u13 u14 u15 u111 u112 u113 u114 u115 u116 u117 u118 u119 u120 u121 u122 u123 u124 u125 u126 u127 u128 u129 u130 u131 u132 u133 u134 u135 u136 u137 : Value) (w' : World), RZ w w' key r z AB O F → Q .normal ⟨#[t0, t1, .pointer (some ⟨w.heap.size, 0, none⟩), t3, t4, t5, t6, t7, .pointer (some ⟨AB, 0, none⟩), t9, t10, t11, .pointer (some ⟨O, 0, none⟩), u13, u14, u15, t16, t17, t18, t19, t20, t21, t22, t23, t24, t25, t26, t27, t28, t29, t30, t31, t32, t33, t34, t35, t36, t37, t38, t39, t40, t41, t42, t43, t44, t45, t46, t47, t48, t49, t50, t51, t52, t53, t54, t55, t56, t57, t58, t59, t60, t61, t62, t63, t64, t65, t66, t67, t68, t69, t70, t71, t72, t73, t74, t75, t76, t77, t78, t79, t80, t81, t82, t83, t84, t85, t86, t87, t88, t89, t90, t91, t92, t93, t94, t95, t96, t97, t98, t99, t100, t101, t102, t103, t104, t105, t106, t107, t108, t109, t110, u111, u112, u113, u114, u115, u116, u117, u118, u119, u120, u121, u122, u123, u124, u125, u126, u127, u128, u129, u130, u131, u132, u133, u134, u135, u136, u137, t138], []⟩ w') from hQ)
  clear hQ
  have H0 : Hid (RZ w w1 key r z AB O (upTo 0 F zB) ∧ D16 9 z ∧ F = byF (val 65536 9 z + sK key)) := ⟨by rw [upTo_zero]; exact h, hd, hF⟩
  clear h hd hF
  go_wp2_with fail
  go_loopw [13, 14] (fun v13 v14 wr => ∃ (i : Nat), v14 = .int .i64 i ∧ i ≤ 16 ∧ v13 = .int .u64 (gO 256 0 (smF z key) i) ∧ RZ w wr key r z AB O (upTo i F zB)) (fun v13 v14 wr => 16 - (intOf v14).toNat)
  case atStart => exact ⟨0, rfl, by omega, rfl, H0.out.1⟩
  case round =>
    obtain ⟨i, rfl, hi, rfl, hz0⟩ := hrel
    have Z : Hid (RZ w wr key r z AB O (upTo i F zB)) := hz0
    obtain ⟨o, ho⟩ : ∃ o, o = gO 256 0 (smF z key) i := ⟨_, rfl⟩
    rw [← ho]
    by_cases hlt : i < 16
    · have hd : decide ((i : Int) < 16) = true := by simp; omega
      have li : (i : Int) < 16 := by omega
      obtain ⟨q, r2, s, e1, e2, e3, v1, v2, v3, ls, ls', HQ2⟩ := dm2 i (by omega)
      have lq : (q : Int) < 9 := by have := HQ2.out.1; omega
      obtain ⟨ki, hki⟩ : ∃ ki : Nat, (16 : Int) + i = ki := ⟨16 + i, by omega⟩
      have wki := wrap_i (x := (ki : Int)) (by omega) (by omega)
      have lki : (ki : Int) < 32 := by omega
      have c1 := (hz0.a.cell q).trans (arr_get .u64 9 _ (by omega))
      have c2 := (hz0.y.ky.cell ki).trans (ba_get 32 _ (by omega))
      have c3 := (hz0.out.cell i).trans (ba_get 16 _ hlt)
      have f3 := hz0.out.frozen i
      obtain ⟨x, hx⟩ : ∃ x, x = z q := ⟨_, rfl⟩
      obtain ⟨k, hk⟩ : ∃ k, k = (key ki).toNat := ⟨_, rfl⟩
      obtain ⟨x3, hx3⟩ : ∃ x3, x3 = upTo i F zB i := ⟨_, rfl⟩
      rw [← hx] at c1
      rw [← hk] at c2
      rw [← hx3] at c3
      have bx := H0.out.2.1 q (by omega)
      rw [← hx] at bx
      have bk : k < 256 := by rw [hk]; exact (key ki).isLt
      have hsm := sm_le (z := z) (key := key) i
      rw [← ho] at hsm
      obtain ⟨x1, hx1⟩ : ∃ x1, x / 2 ^ s = x1 := ⟨_, rfl⟩
      have bx1 : 0 ≤ x1 ∧ x1 < 65536 := by
        rcases HQ2.out.2.2 with ⟨_, h⟩ | ⟨_, h⟩ <;> rw [h] at hx1 <;> omega
      have mx1 := mask8 (x := x1) (by omega) (by omega)
      obtain ⟨a1, ha1⟩ : ∃ a1, x1 % 256 = a1 := ⟨_, rfl⟩
      rw [ha1] at mx1
      have wk : IntKind.u64.wrap (k : Int) = k := wrap_u (by omega) (by omega)
      obtain ⟨s4, hs4⟩ : ∃ s4, a1 + (k : Int) = s4 := ⟨_, rfl⟩
      have ws4 := wrap_u (x := s4) (by omega) (by omega)
      obtain ⟨s5, hs5⟩ : ∃ s5, s4 + o = s5 := ⟨_, rfl⟩
      have ws5 := wrap_u (x := s5) (by omega) (by omega)
      obtain ⟨b, hb⟩ := nmI (x := s5 % 256) (by omega) (by omega)
      have wb : IntKind.u8.wrap s5 = (b.toNat : Int) := by rw [IntKind.wrap_u8, hb]
      have mb : s5 % 256 = (b.toNat : Int) := hb.symm
      obtain ⟨o2, ho2⟩ : ∃ o2, s5 / 256 = o2 := ⟨_, rfl⟩
      have HE : Hid (b = F i ∧ o2 = gO 256 0 (smF z key) (i + 1)) := by
        have es : smF z key i = s4 := by
          unfold smF
          rw [← dig_byte H0.out.2.1 hlt, ← HQ2.out.1, ← HQ2.out.2.1, ← hx, hx1, ha1]
          unfold nmF
          dsimp only
          rw [show 16 + i = ki by omega, ← hk, hs4]
        have e5 : smF z key i + gO 256 0 (smF z key) i = s5 := by rw [es, ← ho, hs5]
        refine ⟨?_, ?_⟩
        · apply BitVec.eq_of_toNat_eq
          have h1 := sm_byte z key hlt
          have h2 := byF_num (val 65536 9 z + sK key) i
          rw [← H0.out.2.2, ← h1] at h2
          have h3 : gD 256 0 (smF z key) i = s5 % 256 := by show (smF z key i + gO 256 0 (smF z key) i) % 256 = _; rw [e5]
          rw [h3, mb] at h2
          omega
        · show o2 = (smF z key i + gO 256 0 (smF z key) i) / 256
          rw [e5, ho2]
      clear hx hk hx3 hz0 bx bk hsm bx1 hb ho
      go_upto_region 30 with fail
      go_cut [15] from 115 to 131 (fun v15 wc => v15 = .int .u64 s5 ∧ ∃ m, wc = wr.drewN m)
      case first =>
        refine wp_region_noPanic ?_
        go_region_with (fail)
        all_goals refine NoPanic.normal ?_
        all_goals go_wp2_with fail
        all_goals go_meet
        all_goals
          refine ⟨?_, 1, rfl⟩
          first
            | rfl
            | rw [wk, hs4, ws4, hs5, ws5]
            | rw [hs4, hs5]
      obtain ⟨rfl, nm, hwc⟩ := hcut
      have Z2 : Hid (RZ w wc key r z AB O (upTo i F zB)) := by rw [hwc]; exact Z.out.drewN nm
      have c4 := (Z2.out.out.cell i).trans (ba_get 16 _ hlt)
      have f4 := Z2.out.out.frozen i
      obtain ⟨x4, hx4⟩ : ∃ x4, x4 = upTo i F zB i := ⟨_, rfl⟩
      rw [← hx4] at c4
      obtain ⟨w2, hw2⟩ : ∃ w2, w2 = wc := ⟨_, rfl⟩
      rw [← hw2] at Z2 c4 f4 ⊢
      clear hwc hw2 wc Z c1 c2 c3 f3 hx4
      go_wp2_with fail
      go_roundw
      case rel =>
        refine ⟨i + 1, by go_num, by omega, by rw [HE.out.2], ?_⟩
        have hh := Z2.out.set i b
        rw [HE.out.1, upTo_upd, ← HE.out.1] at hh
        exact hh
      case measure => simp [intOf]; omega
    · have : i = 16 := by omega
      subst this
      have ho2 := hz0.out
      rw [upTo_all] at ho2
      have HE : Hid (RZ w wr key r z AB O F) := ⟨hz0.y, hz0.a, ho2, hz0.la, hz0.lt⟩
      clear hz0 Z ho2 ho
      go_wp2
      exact HQ.out _ _ _ _ _ _ _ _ _ _ _ _ _ _ _ _ _ _ _ _ _ _ _ _ _ _ _ _ _ _ _ HE.out
end Go.Proofs.Ytkdidacebfkdmaa
