/-
  The document's product: what stands above 2^130.
  The document's product: noughts above; five times the high digits.
  The document's product.
-/
import Derived.Test.YtobglgddbhddnaaGreatJ28
import Derived.Lib.EndianBits
namespace Go.Proofs.YtobglgddbhddnaaGreat.Cha
open Go.RowKit
set_option linter.unusedVariables false

theorem or14 {x y : Int} (hx0 : 0 ≤ x) (hx : x < 16384) (hy0 : 0 ≤ y) (hy : y < 65536) (hm : y % 16384 = 0) : Go.bits .or .u64 x y = x + y := by
  refine bits_join_low .u64 64 (by decide) (fun n h0 h1 => ?_) 14 x y hx0 hx ?_ hy0 hm ?_
  · have : (2 : Int) ^ 64 = 18446744073709551616 := rfl
    exact wrap_u h0 (by omega)
  · have : (2 : Int) ^ 64 = 18446744073709551616 := rfl
    omega
  · have : (2 : Int) ^ 64 = 18446744073709551616 := rfl
    omega
theorem mask2 {x : Int} (h0 : 0 ≤ x) (h1 : x < 18446744073709551616) : Go.bits .and .u64 x 3 = x % 4 := by
  obtain ⟨n, rfl⟩ := Int.eq_ofNat_of_zero_le h0
  have := u64_and_nat n 3 (by omega) (by decide)
  rw [show (3 : Int) = ((3 : Nat) : Int) from rfl, this, show 3 = 2 ^ 2 - 1 from rfl, Nat.and_two_pow_sub_one_eq_mod]
  omega
/-- The high digits, as far as they are laid. -/
def hgF (p : Nat → Int) (i : Nat) : Nat → Int := fun j => if 8 + j < i then hiF p j else 0
theorem hgF_succ (p : Nat → Int) {i m : Nat} (hm : 8 + m = i) (x : Int) (hx : x = hiF p m) : updI (hgF p i) m x = hgF p (i + 1) := by
  funext j
  unfold updI hgF
  by_cases h : j = m
  · subst h
    rw [if_pos rfl, if_pos (by omega), hx]
  · rw [if_neg h]
    by_cases h1 : 8 + j < i
    · rw [if_pos h1, if_pos (by omega)]
    · rw [if_neg h1, if_neg (by omega)]
theorem hgF_start (p : Nat → Int) : hgF p 8 = zI := by
  funext j
  unfold hgF zI
  rw [if_neg (by omega)]
theorem hgF_all (p : Nat → Int) : updI (hgF p 17) 9 (p 17 / 4) = hiF p := by
  funext j
  unfold updI hgF
  by_cases h : j = 9
  · subst h
    rfl
  · rw [if_neg h]
    by_cases h1 : 8 + j < 17
    · rw [if_pos h1]
    · rw [if_neg h1]
      unfold hiF
      rw [if_neg (by omega), if_neg h]
/-- The low digits. -/
def loF (p : Nat → Int) : Nat → Int := fun j => if j < 8 then p j else if j = 8 then p 8 % 4 else 0
def zpF (p : Nat → Int) (i : Nat) : Nat → Int := fun j => if j < i then loF p j else p j
theorem zpF_start (p : Nat → Int) : updI p 8 (p 8 % 4) = zpF p 9 := by
  funext j
  unfold updI zpF loF
  by_cases h : j = 8
  · subst h; rfl
  · rw [if_neg h]
    by_cases h1 : j < 8
    · rw [if_pos (by omega), if_pos h1]
    · rw [if_neg (by omega)]
theorem zpF_succ (p : Nat → Int) {i : Nat} (hi : 9 ≤ i) : updI (zpF p i) i 0 = zpF p (i + 1) := by
  funext j
  unfold updI zpF
  by_cases h : j = i
  · subst h
    rw [if_pos rfl, if_pos (by omega)]
    unfold loF
    rw [if_neg (by omega), if_neg (by omega)]
  · rw [if_neg h]
    by_cases h1 : j < i
    · rw [if_pos h1, if_pos (by omega)]
    · rw [if_neg h1, if_neg (by omega)]
theorem zpF_all (p : Nat → Int) : arr .u64 18 (zpF p 18) = arr .u64 18 (loF p) := arr_congr fun j hj => by unfold zpF; rw [if_pos hj]
def tpF (p : Nat → Int) (i : Nat) : Nat → Int := fun j => if j < i then tqF p j else loF p j
theorem tpF_start (p : Nat → Int) : tpF p 0 = loF p := by funext j; unfold tpF; rw [if_neg (by omega)]
theorem tpF_succ (p : Nat → Int) (i : Nat) (x : Int) (hx : x = loF p i + 5 * hiF p i) : updI (tpF p i) i x = tpF p (i + 1) := by
  funext j
  unfold updI tpF
  by_cases h : j = i
  · subst h
    rw [if_pos rfl, if_pos (by omega), hx]
    rfl
  · rw [if_neg h]
    by_cases h1 : j < i
    · rw [if_pos h1, if_pos (by omega)]
    · rw [if_neg h1, if_neg (by omega)]
theorem tpF_all (p : Nat → Int) : arr .u64 18 (tpF p 10) = arr .u64 18 (tqF p) := arr_congr fun j hj => by
  unfold tpF
  by_cases h : j < 10
  · rw [if_pos h]
  · rw [if_neg h]
    unfold tqF hiF
    rw [if_neg (by omega), if_neg (by omega)]
    unfold loF
    omega

set_option maxRecDepth 100000 in
set_option maxHeartbeats 8000000 in
/-- The high digits. -/
theorem rp2_any {Q : Exit → Act → World → Prop} {t0 t1 t2 t3 t4 t6 t7 t8 t11 t12 t13 t14 t15 t16 t17 t18 t19 t20 t21 t22 t23 t24 t25 t26 t27 t28 t29 t30 t31 t32 t33 t34 t35 t36 t37 t38 t39 t40 t41 t42 t43 t44 t45 t46 t47 t48 t49 t50 t51 t52 t53 t54 t55 t56 t57 t58 t59 t60 t61 t62 t63 t64 t65 t66 t67 t68 t69 t70 t71 t72 t73 t74 t75 t76 t77 t78 t79 t80 t81 t82 t83 t84 t85 t86 t87 t88 t89 t90 t91 t92 t93 t94 t95 t96 t97 t98 t99 t100 t101 t102 t103 : Value} {a r p : Nat → Int} {H : Nat} {w w1 : World} (h : RP w w1 a r p) (hH : Ar w1 H (arr .u64 18 zI)) (hl : w.heap.size + 1 + 1 + 1 < H) (hp : D16 18 p)
    (hQ : ∀ (u10 u46 u47 u48 u49 u50 u51 u52 u53 u54 u55 u56 u57 u58 u59 u60 u61 u62 u63 : Value) (w' : World), RP w w' a r p ∧ Ar w' H (arr .u64 18 (hgF p 17)) → Q .normal ⟨#[t0, t1, t2, t3, t4, .pointer (some ⟨w.heap.size + 1 + 1 + 1, 0, none⟩), t6, t7, t8, .pointer (some ⟨H, 0, none⟩), u10, t11, t12, t13, t14, t15, t16, t17, t18, t19, t20, t21, t22, t23, t24, t25, t26, t27, t28, t29, t30, t31, t32, t33, t34, t35, t36, t37, t38, t39, t40, t41, t42, t43, t44, t45, u46, u47, u48, u49, u50, u51, u52, u53, u54, u55, u56, u57, u58, u59, u60, u61, u62, u63, t64, t65, t66, t67, t68, t69, t70, t71, t72, t73, t74, t75, t76, t77, t78, t79, t80, t81, t82, t83, t84, t85, t86, t87, t88, t89, t90, t91, t92, t93, t94, t95, t96, t97, t98, t99, t100, t101, t102, t103], []⟩ w') :
    (bk Tryz.f51 6).wp Tryz.prog Q ⟨#[t0, t1, t2, t3, t4, .pointer (some ⟨w.heap.size + 1 + 1 + 1, 0, none⟩), t6, t7, t8, .pointer (some ⟨H, 0, none⟩), .int .i64 8, t11, t12, t13, t14, t15, t16, t17, t18, t19, t20, t21, t22, t23, t24, t25, t26, t27, t28, t29, t30, t31, t32, t33, t34, t35, t36, t37, t38, t39, t40, t41, t42, t43, t44, t45, t46, t47, t48, t49, t50, t51, t52, t53, t54, t55, t56, t57, t58, t59, t60, t61, t62, t63, t64, t65, t66, t67, t68, t69, t70, t71, t72, t73, t74, t75, t76, t77, t78, t79, t80, t81, t82, t83, t84, t85, t86, t87, t88, t89, t90, t91, t92, t93, t94, t95, t96, t97, t98, t99, t100, t101, t102, t103], []⟩ w1 := by
  show Code.wp Tryz.prog (Code.block _ (Code.loop _)) Q _ _
  have HQ := (show Hid (∀ (u10 u46 u47 u48 u49 u50 u51 u52 u53 u54 u55 u56 u57 u58 u59 u60 u61 u62 u63 : Value) (w' : World), RP w w' a r p ∧ Ar w' H (arr .u64 18 (hgF p 17)) → Q .normal ⟨#[t0, t1, t2, t3, t4, .pointer (some ⟨w.heap.size + 1 + 1 + 1, 0, none⟩), t6, t7, t8, .pointer (some ⟨H, 0, none⟩), u10, t11, t12, t13, t14, t15, t16, t17, t18, t19, t20, t21, t22, t23, t24, t25, t26, t27, t28, t29, t30, t31, t32, t33, t34, t35, t36, t37, t38, t39, t40, t41, t42, t43, t44, t45, u46, u47, u48, u49, u50, u51, u52, u53, u54, u55, u56, u57, u58, u59, u60, u61, u62, u63, t64, t65, t66, t67, t68, t69, t70, t71, t72, t73, t74, t75, t76, t77, t78, t79, t80, t81, t82, t83, t84, t85, t86, t87, t88, t89, t90, t91, t92, t93, t94, t95, t96, t97, t98, t99, t100, t101, t102, t103], []⟩ w') from hQ)
  clear hQ
  have H0 : Hid ((RP w w1 a r p ∧ Ar w1 H (arr .u64 18 (hgF p 8))) ∧ w.heap.size + 1 + 1 + 1 < H ∧ D16 18 p) := ⟨⟨h, by rw [hgF_start]; exact hH⟩, hl, hp⟩
  clear h hH hl hp
  go_wp2_with fail
  go_loopw [10] (fun v wr => ∃ (i : Nat), v = .int .i64 i ∧ i ≤ 17 ∧ 8 ≤ i ∧ RP w wr a r p ∧ Ar wr H (arr .u64 18 (hgF p i))) (fun v wr => 17 - (intOf v).toNat)
  case atStart => exact ⟨8, rfl, by omega, by omega, H0.out.1⟩
  case round =>
    obtain ⟨i, rfl, hi, hi8, hz0, hz1⟩ := hrel
    have Z : Hid (RP w wr a r p ∧ Ar wr H (arr .u64 18 (hgF p i))) := ⟨hz0, hz1⟩
    by_cases hlt : i < 17
    · have hd : decide ((i : Int) < 17) = true := by simp; omega
      have li : (i : Int) < 18 := by omega
      obtain ⟨i1, hi1⟩ : ∃ i1 : Nat, (i : Int) + 1 = i1 := ⟨i + 1, by omega⟩
      have wi1 := wrap_i (x := (i1 : Int)) (by omega) (by omega)
      have li1 : (i1 : Int) < 18 := by omega
      obtain ⟨m, hm⟩ : ∃ m : Nat, (i : Int) - 8 = m := ⟨i - 8, by omega⟩
      have wm := wrap_i (x := (m : Int)) (by omega) (by omega)
      have lm : (m : Int) < 18 := by omega
      have HI : Hid (i1 = i + 1 ∧ 8 + m = i ∧ m < 9) := by show _ ∧ _ ∧ _; omega
      have b1 := H0.out.2.2 i (by omega)
      have b2 := H0.out.2.2 i1 (by omega)
      have c1 := (hz0.p.cell i).trans (arr_get .u64 18 _ (by omega))
      have c2 := (hz0.p.cell i1).trans (arr_get .u64 18 _ (by omega))
      have c3 := (hz1.cell m).trans (arr_get .u64 18 _ (by omega))
      have f3 := hz1.frozen m
      obtain ⟨x, hx⟩ : ∃ x, x = p i := ⟨_, rfl⟩
      obtain ⟨y, hy⟩ : ∃ y, y = p i1 := ⟨_, rfl⟩
      obtain ⟨v, hv⟩ : ∃ v, v = hgF p i m := ⟨_, rfl⟩
      rw [← hx] at c1 b1
      rw [← hy] at c2 b2
      rw [← hv] at c3
      obtain ⟨x4, hx4⟩ : ∃ x4, x / 4 = x4 := ⟨_, rfl⟩
      obtain ⟨z, hz⟩ : ∃ z, y * 16384 = z := ⟨_, rfl⟩
      have wz := wrap_u (x := z) (by omega) (by omega)
      have mz : z % 18446744073709551616 = z := by omega
      have az := mask16 (x := z) (by omega) (by omega)
      obtain ⟨c, hc⟩ : ∃ c, z % 65536 = c := ⟨_, rfl⟩
      rw [hc] at az
      have ho := or14 (x := x4) (y := c) (by omega) (by omega) (by omega) (by omega) (by omega)
      obtain ⟨g, hg⟩ : ∃ g, x4 + c = g := ⟨_, rfl⟩
      rw [hg] at ho
      have HE : Hid (updI (hgF p i) m g = hgF p (i + 1)) := by
        have h1 := HI.out
        refine hgF_succ p h1.2.1 g ?_
        unfold hiF
        rw [if_pos h1.2.2, h1.2.1, ← h1.1, ← hx, ← hy]
        omega
      clear hx hy hv hz0 hz1 b1 b2 hc hg hi8
      go_wp2_with fail
      refine wp_region_noPanic ?_
      go_region_with (fail)
      all_goals refine NoPanic.normal ?_
      all_goals go_wp2
      all_goals
        go_roundw
        case rel =>
          have hl := H0.out.2.1
          obtain ⟨k0, k1⟩ := Z.out
          have hI := HI.out
          refine ⟨i + 1, by congr 1; omega, by omega, by omega, ?_, ?_⟩
          · first
              | exact (k0.other hl m _).drew
              | exact k0.drew.other hl m _
          · have hh := k1.set m (.int .u64 g)
            rw [arr_set, upd_updI, HE.out] at hh
            exact hh.drew
        case measure => simp [intOf]; omega
    · have : i = 17 := by omega
      subst this
      have HE : Hid (RP w wr a r p ∧ Ar wr H (arr .u64 18 (hgF p 17))) := ⟨hz0, hz1⟩
      clear hz0 hz1 Z
      go_wp2
      exact HQ.out _ _ _ _ _ _ _ _ _ _ _ _ _ _ _ _ _ _ _ _ HE.out
end Go.Proofs.YtobglgddbhddnaaGreat.Cha

namespace Go.Proofs.YtobglgddbhddnaaGreat.Cha
open Go.RowKit
set_option linter.unusedVariables false

set_option maxRecDepth 100000 in
set_option maxHeartbeats 8000000 in
/-- Noughts above. -/
theorem rp3_any {Q : Exit → Act → World → Prop} {t0 t1 t2 t3 t4 t6 t7 t8 t10 t12 t13 t14 t15 t16 t17 t18 t19 t20 t21 t22 t23 t24 t25 t26 t27 t28 t29 t30 t31 t32 t33 t34 t35 t36 t37 t38 t39 t40 t41 t42 t43 t44 t45 t46 t47 t48 t49 t50 t51 t52 t53 t54 t55 t56 t57 t58 t59 t60 t61 t62 t63 t64 t65 t66 t67 t68 t69 t70 t71 t72 t73 t74 t75 t76 t77 t78 t79 t80 t81 t82 t83 t84 t85 t86 t87 t88 t89 t90 t91 t92 t93 t94 t95 t96 t97 t98 t99 t100 t101 t102 t103 : Value} {a r p q : Nat → Int} {H : Nat} {w w1 : World} (h : RP w w1 a r (zpF p 9)) (hH : Ar w1 H (arr .u64 18 q)) (hl : w.heap.size + 1 + 1 + 1 < H)
    (hQ : ∀ (u11 u72 u73 u74 u75 u76 u77 : Value) (w' : World), RP w w' a r (zpF p 18) ∧ Ar w' H (arr .u64 18 q) → Q .normal ⟨#[t0, t1, t2, t3, t4, .pointer (some ⟨w.heap.size + 1 + 1 + 1, 0, none⟩), t6, t7, t8, .pointer (some ⟨H, 0, none⟩), t10, u11, t12, t13, t14, t15, t16, t17, t18, t19, t20, t21, t22, t23, t24, t25, t26, t27, t28, t29, t30, t31, t32, t33, t34, t35, t36, t37, t38, t39, t40, t41, t42, t43, t44, t45, t46, t47, t48, t49, t50, t51, t52, t53, t54, t55, t56, t57, t58, t59, t60, t61, t62, t63, t64, t65, t66, t67, t68, t69, t70, t71, u72, u73, u74, u75, u76, u77, t78, t79, t80, t81, t82, t83, t84, t85, t86, t87, t88, t89, t90, t91, t92, t93, t94, t95, t96, t97, t98, t99, t100, t101, t102, t103], []⟩ w') :
    (bk Tryz.f51 8).wp Tryz.prog Q ⟨#[t0, t1, t2, t3, t4, .pointer (some ⟨w.heap.size + 1 + 1 + 1, 0, none⟩), t6, t7, t8, .pointer (some ⟨H, 0, none⟩), t10, .int .i64 9, t12, t13, t14, t15, t16, t17, t18, t19, t20, t21, t22, t23, t24, t25, t26, t27, t28, t29, t30, t31, t32, t33, t34, t35, t36, t37, t38, t39, t40, t41, t42, t43, t44, t45, t46, t47, t48, t49, t50, t51, t52, t53, t54, t55, t56, t57, t58, t59, t60, t61, t62, t63, t64, t65, t66, t67, t68, t69, t70, t71, t72, t73, t74, t75, t76, t77, t78, t79, t80, t81, t82, t83, t84, t85, t86, t87, t88, t89, t90, t91, t92, t93, t94, t95, t96, t97, t98, t99, t100, t101, t102, t103], []⟩ w1 := by
  show Code.wp Tryz.prog (Code.block _ (Code.loop _)) Q _ _
  have HQ := (show Hid (∀ (u11 u72 u73 u74 u75 u76 u77 : Value) (w' : World), RP w w' a r (zpF p 18) ∧ Ar w' H (arr .u64 18 q) → Q .normal ⟨#[t0, t1, t2, t3, t4, .pointer (some ⟨w.heap.size + 1 + 1 + 1, 0, none⟩), t6, t7, t8, .pointer (some ⟨H, 0, none⟩), t10, u11, t12, t13, t14, t15, t16, t17, t18, t19, t20, t21, t22, t23, t24, t25, t26, t27, t28, t29, t30, t31, t32, t33, t34, t35, t36, t37, t38, t39, t40, t41, t42, t43, t44, t45, t46, t47, t48, t49, t50, t51, t52, t53, t54, t55, t56, t57, t58, t59, t60, t61, t62, t63, t64, t65, t66, t67, t68, t69, t70, t71, u72, u73, u74, u75, u76, u77, t78, t79, t80, t81, t82, t83, t84, t85, t86, t87, t88, t89, t90, t91, t92, t93, t94, t95, t96, t97, t98, t99, t100, t101, t102, t103], []⟩ w') from hQ)
  clear hQ
  have H0 : Hid ((RP w w1 a r (zpF p 9) ∧ Ar w1 H (arr .u64 18 q)) ∧ w.heap.size + 1 + 1 + 1 < H) := ⟨⟨h, hH⟩, hl⟩
  clear h hH hl
  go_wp2_with fail
  go_loopw [11] (fun v wr => ∃ (i : Nat), v = .int .i64 i ∧ i ≤ 18 ∧ 9 ≤ i ∧ RP w wr a r (zpF p i) ∧ Ar wr H (arr .u64 18 q)) (fun v wr => 18 - (intOf v).toNat)
  case atStart => exact ⟨9, rfl, by omega, by omega, H0.out.1⟩
  case round =>
    obtain ⟨i, rfl, hi, hi8, hz0, hz1⟩ := hrel
    have Z : Hid (RP w wr a r (zpF p i) ∧ Ar wr H (arr .u64 18 q)) := ⟨hz0, hz1⟩
    have HI : Hid (9 ≤ i) := hi8
    by_cases hlt : i < 18
    · have hd : decide ((i : Int) < 18) = true := by simp; omega
      have li : (i : Int) < 18 := by omega
      have c1 := (hz0.p.cell i).trans (arr_get .u64 18 _ hlt)
      have f1 := hz0.p.frozen i
      obtain ⟨x, hx⟩ : ∃ x, x = zpF p i i := ⟨_, rfl⟩
      rw [← hx] at c1
      clear hx hz0 hz1 hi8
      go_wp2_with fail
      go_roundw
      case rel =>
        have hl := H0.out.2
        refine ⟨i + 1, by go_num, by omega, by have := HI.out; omega, ?_, Z.out.2.other (by dsimp only; omega) _⟩
        rw [← zpF_succ p HI.out]
        exact Z.out.1.set i 0
      case measure => simp [intOf]; omega
    · have : i = 18 := by omega
      subst this
      have HE : Hid (RP w wr a r (zpF p 18) ∧ Ar wr H (arr .u64 18 q)) := ⟨hz0, hz1⟩
      clear hz0 hz1 Z
      go_wp2
      exact HQ.out _ _ _ _ _ _ _ _ HE.out

set_option maxRecDepth 100000 in
set_option maxHeartbeats 8000000 in
/-- Five times the high digits are added. -/
theorem rp4_any {Q : Exit → Act → World → Prop} {t0 t1 t2 t3 t4 t6 t7 t8 t10 t11 t13 t14 t15 t16 t17 t18 t19 t20 t21 t22 t23 t24 t25 t26 t27 t28 t29 t30 t31 t32 t33 t34 t35 t36 t37 t38 t39 t40 t41 t42 t43 t44 t45 t46 t47 t48 t49 t50 t51 t52 t53 t54 t55 t56 t57 t58 t59 t60 t61 t62 t63 t64 t65 t66 t67 t68 t69 t70 t71 t72 t73 t74 t75 t76 t77 t78 t79 t80 t81 t82 t83 t84 t85 t86 t87 t88 t89 t90 t91 t92 t93 t94 t95 t96 t97 t98 t99 t100 t101 t102 t103 : Value} {a r p : Nat → Int} {H : Nat} {w w1 : World} (h : RP w w1 a r (loF p)) (hH : Ar w1 H (arr .u64 18 (hiF p))) (hl : w.heap.size + 1 + 1 + 1 < H) (hh : ∀ i, i < 10 → 0 ≤ hiF p i ∧ hiF p i < 65536) (hp : D16 18 p)
    (hQ : ∀ (u12 u78 u79 u80 u81 u82 u83 u84 u85 u86 u87 u88 u89 u90 u91 : Value) (w' : World), RP w w' a r (tpF p 10) → Q .normal ⟨#[t0, t1, t2, t3, t4, .pointer (some ⟨w.heap.size + 1 + 1 + 1, 0, none⟩), t6, t7, t8, .pointer (some ⟨H, 0, none⟩), t10, t11, u12, t13, t14, t15, t16, t17, t18, t19, t20, t21, t22, t23, t24, t25, t26, t27, t28, t29, t30, t31, t32, t33, t34, t35, t36, t37, t38, t39, t40, t41, t42, t43, t44, t45, t46, t47, t48, t49, t50, t51, t52, t53, t54, t55, t56, t57, t58, t59, t60, t61, t62, t63, t64, t65, t66, t67, t68, t69, t70, t71, t72, t73, t74, t75, t76, t77, u78, u79, u80, u81, u82, u83, u84, u85, u86, u87, u88, u89, u90, u91, t92, t93, t94, t95, t96, t97, t98, t99, t100, t101, t102, t103], []⟩ w') :
    (bk Tryz.f51 10).wp Tryz.prog Q ⟨#[t0, t1, t2, t3, t4, .pointer (some ⟨w.heap.size + 1 + 1 + 1, 0, none⟩), t6, t7, t8, .pointer (some ⟨H, 0, none⟩), t10, t11, .int .i64 0, t13, t14, t15, t16, t17, t18, t19, t20, t21, t22, t23, t24, t25, t26, t27, t28, t29, t30, t31, t32, t33, t34, t35, t36, t37, t38, t39, t40, t41, t42, t43, t44, t45, t46, t47, t48, t49, t50, t51, t52, t53, t54, t55, t56, t57, t58, t59, t60, t61, t62, t63, t64, t65, t66, t67, t68, t69, t70, t71, t72, t73, t74, t75, t76, t77, t78, t79, t80, t81, t82, t83, t84, t85, t86, t87, t88, t89, t90, t91, t92, t93, t94, t95, t96, t97, t98, t99, t100, t101, t102, t103], []⟩ w1 := by
  show Code.wp Tryz.prog (Code.block _ (Code.loop _)) Q _ _
  have HQ := (show Hid (∀ (u12 u78 u79 u80 u81 u82 u83 u84 u85 u86 u87 u88 u89 u90 u91 : Value) (w' : World), RP w w' a r (tpF p 10) → Q .normal ⟨#[t0, t1, t2, t3, t4, .pointer (some ⟨w.heap.size + 1 + 1 + 1, 0, none⟩), t6, t7, t8, .pointer (some ⟨H, 0, none⟩), t10, t11, u12, t13, t14, t15, t16, t17, t18, t19, t20, t21, t22, t23, t24, t25, t26, t27, t28, t29, t30, t31, t32, t33, t34, t35, t36, t37, t38, t39, t40, t41, t42, t43, t44, t45, t46, t47, t48, t49, t50, t51, t52, t53, t54, t55, t56, t57, t58, t59, t60, t61, t62, t63, t64, t65, t66, t67, t68, t69, t70, t71, t72, t73, t74, t75, t76, t77, u78, u79, u80, u81, u82, u83, u84, u85, u86, u87, u88, u89, u90, u91, t92, t93, t94, t95, t96, t97, t98, t99, t100, t101, t102, t103], []⟩ w') from hQ)
  clear hQ
  have H0 : Hid ((RP w w1 a r (tpF p 0) ∧ Ar w1 H (arr .u64 18 (hiF p))) ∧ w.heap.size + 1 + 1 + 1 < H ∧ (∀ i, i < 10 → 0 ≤ hiF p i ∧ hiF p i < 65536) ∧ D16 18 p) := ⟨⟨by rw [tpF_start]; exact h, hH⟩, hl, hh, hp⟩
  clear h hH hl hh hp
  go_wp2_with fail
  go_loopw [12] (fun v wr => ∃ (i : Nat), v = .int .i64 i ∧ i ≤ 10 ∧ RP w wr a r (tpF p i) ∧ Ar wr H (arr .u64 18 (hiF p))) (fun v wr => 10 - (intOf v).toNat)
  case atStart => exact ⟨0, rfl, by omega, H0.out.1⟩
  case round =>
    obtain ⟨i, rfl, hi, hz0, hz1⟩ := hrel
    have Z : Hid (RP w wr a r (tpF p i) ∧ Ar wr H (arr .u64 18 (hiF p))) := ⟨hz0, hz1⟩
    by_cases hlt : i < 10
    · have hd : decide ((i : Int) < 10) = true := by simp; omega
      have li : (i : Int) < 18 := by omega
      have b1 := H0.out.2.2.1 i hlt
      have b2 : 0 ≤ loF p i ∧ loF p i < 65536 := by
        have h1 := H0.out.2.2.2 i (by omega)
        have h2 := H0.out.2.2.2 8 (by decide)
        unfold loF
        split
        · exact h1
        · split <;> omega
      have c1 := (hz0.p.cell i).trans (arr_get .u64 18 _ (by omega))
      have f1 := hz0.p.frozen i
      have c2 := (hz1.cell i).trans (arr_get .u64 18 _ (by omega))
      have e0 : tpF p i i = loF p i := by unfold tpF; rw [if_neg (by omega)]
      rw [e0] at c1
      obtain ⟨x, hx⟩ : ∃ x, x = loF p i := ⟨_, rfl⟩
      obtain ⟨y, hy⟩ : ∃ y, y = hiF p i := ⟨_, rfl⟩
      rw [← hx] at c1 b2
      rw [← hy] at c2 b1
      obtain ⟨z, hz⟩ : ∃ z, 5 * y = z := ⟨_, rfl⟩
      have wz := wrap_u (x := z) (by omega) (by omega)
      obtain ⟨g, hg⟩ : ∃ g, x + z = g := ⟨_, rfl⟩
      have wg := wrap_u (x := g) (by omega) (by omega)
      have HE : Hid (updI (tpF p i) i g = tpF p (i + 1)) := tpF_succ p i g (by rw [← hx, ← hy, hz, hg])
      clear hx hy hz0 hz1 b1 b2 e0
      go_wp2_with fail
      refine wp_region_noPanic ?_
      go_region_with (fail)
      all_goals refine NoPanic.normal ?_
      all_goals go_wp2
      all_goals
        go_roundw
        case rel =>
          have hl := H0.out.2.1
          obtain ⟨k0, k1⟩ := Z.out
          refine ⟨i + 1, by go_num, by omega, ?_, (k1.other (by dsimp only; omega) _).drew⟩
          rw [← HE.out]
          first
            | exact (k0.set i g).drew
            | exact k0.drew.set i g
        case measure => simp [intOf]; omega
    · have : i = 10 := by omega
      subst this
      have HE : Hid (RP w wr a r (tpF p 10)) := hz0
      clear hz0 hz1 Z
      go_wp2
      exact HQ.out _ _ _ _ _ _ _ _ _ _ _ _ _ _ _ _ HE.out
end Go.Proofs.YtobglgddbhddnaaGreat.Cha

namespace Go.Proofs.YtobglgddbhddnaaGreat.Cha
open Go.RowKit
set_option linter.unusedVariables false

/-- The digits behind so many turns. -/
def tnF (a r : Nat → Int) : Nat → Nat → Int
  | 0 => rcD (cvF a r 72)
  | t + 1 => trF (tnF a r t)
def coF (p : Nat → Int) (i : Nat) : Nat → Int := fun j => if j < i then p j else 0
theorem coF_zero (p : Nat → Int) : coF p 0 = zI := by funext j; unfold coF zI; rw [if_neg (by omega)]
theorem coF_succ (p : Nat → Int) (i : Nat) : updI (coF p i) i (p i) = coF p (i + 1) := by
  funext j
  unfold updI coF
  by_cases h : j = i
  · subst h
    rw [if_pos rfl, if_pos (by omega)]
  · rw [if_neg h]
    by_cases h1 : j < i
    · rw [if_pos h1, if_pos (by omega)]
    · rw [if_neg h1, if_neg (by omega)]
theorem coF_all (p : Nat → Int) : arr .u64 9 (coF p 9) = arr .u64 9 p := arr_congr fun j hj => by unfold coF; rw [if_pos hj]

set_option maxRecDepth 100000 in
set_option maxHeartbeats 8000000 in
theorem refProduct_any (a r : Nat → Int) (w : World) (ha : ∀ i, i < 9 → 0 ≤ a i ∧ a i ≤ 131072) (hr : D16 8 r) : Calls Tryz.prog 51 #[.agg (arr .u64 9 a), .agg (arr .u64 8 r)] w fun r' w' => r' = .returned (.agg (arr .u64 9 (poF a r))) ∧ Chg w w' := by
  obtain ⟨A, hA⟩ : ∃ A, A = arr .u64 9 a := ⟨_, rfl⟩
  obtain ⟨D, hD⟩ : ∃ D, D = arr .u64 8 r := ⟨_, rfl⟩
  have hsA : A.size = 9 := by rw [hA]; exact arr_size _ _ _
  have hsD : D.size = 8 := by rw [hD]; exact arr_size _ _ _
  have HA : Hid (A = arr .u64 9 a ∧ D = arr .u64 8 r) := ⟨hA, hD⟩
  rw [← hA, ← hD]
  have HD : Hid ((∀ i, i < 9 → 0 ≤ a i ∧ a i ≤ 131072) ∧ D16 8 r) := ⟨ha, hr⟩
  have HT : Hid (D16 18 (tnF a r 0) ∧ D16 18 (tnF a r 1)) := ⟨(po_ok ha hr).1, (po_ok ha hr).2.1⟩
  clear hA hD ha hr
  have hz := zero58.1
  have hz2 := zero68.1
  go_enter Tryz.func51, Tryz.ntmps51
  go_upto_region 2 with fail
  obtain ⟨w4, hw4⟩ : ∃ w4, w4 = ((((w.alloc (.cells A 88)).alloc (.cells D 87)).alloc (.cells (arr .u64 9 zI) 88)).alloc (.cells (arr .u64 18 zI) 103)) := ⟨_, rfl⟩
  have Z4 : Hid (RP w w4 a r zI) := by
    rw [hw4, HA.out.1, HA.out.2]
    exact ⟨((((Chg.refl w).alloc _).alloc _).alloc _).alloc _, (((Ar.new w _ _).alloc _).alloc _).alloc _, ((Ar.new1 w _ _ _).alloc _).alloc _, (Ar.new2 w _ _ _ _).alloc _, 103, heap_new3 w _ _ _ _ 103⟩
  rw [← hw4]
  clear hw4 hsA hsD
  go_upto_block 0 with fail
  refine rp1_any Z4.out HD.out.1 HD.out.2 ?_
  intro u6 u7 u15 u16 u17 u18 u19 u20 u21 u22 u23 u24 u25 u26 u27 u28 u29 u30 u31 u32 u33 u34 u35 u36 u37 u38 u39 w5 h5
  obtain ⟨d1, hd1⟩ : ∃ d, d = cvF a r 72 := ⟨_, rfl⟩
  obtain ⟨d2, hd2⟩ : ∃ d, d = tnF a r 0 := ⟨_, rfl⟩
  have hb1 : ∀ i, i < 18 → 0 ≤ d1 i ∧ d1 i ≤ 4611686018427387904 := fun i _ => by
    have := cvF_le HD.out.1 HD.out.2 72 (Nat.le_refl _) i
    rw [hd1]
    omega
  have HC : Hid (∀ u, Calls Tryz.prog 69 #[.agg (arr .u64 18 d1)] u fun r w' => r = .returned (.agg (arr .u64 18 d2)) ∧ Chg u w') := by
    have e : d2 = rcD d1 := by rw [hd2, hd1]; rfl
    rw [e]
    exact fun u => refCarried_any d1 u hb1
  rw [← hd1] at h5
  have Z5 : Hid (RP w w5 a r d1) := h5
  have HD2 : Hid (d2 = tnF a r 0) := hd2
  obtain ⟨t5, g5⟩ := Z5.out.p
  have hsz1 := szI d1 i68
  clear hd1 hd2 hb1 h5 Z4
  go_wp2_with (first | refine wpList_load_row rfl 103 _ rfl _ rfl _ _ _ _ g5 und68 rfl hsz1 ?_)
  go_at_call 69
  refine (HC.out _).mono ?_
  rintro r6 w6 ⟨rfl, hc6⟩
  have Z6 : Hid (RP w w6 a r d1) := Z5.out.to hc6
  obtain ⟨t6, g6⟩ := Z6.out.p
  have hsz2 := szI d2 i68
  have hlen2 := lenI 18 d1 d2
  have hone2 := arr_one .u64 18 d2
  clear hc6 g5 Z5 HC hsz1
  go_upto_region 10 with (first | refine wpList_store_row rfl 103 _ _ rfl _ _ rfl rfl _ _ g6 hsz2 hlen2 hone2 ?_)
  obtain ⟨w7, hw7⟩ : ∃ w7, w7 = w6.setRow (w.heap.size + 1 + 1 + 1) (arr .u64 18 d2) := ⟨_, rfl⟩
  have Z7 : Hid (RP w w7 a r (tnF a r 0)) := by rw [hw7, ← HD2.out]; exact Z6.out.row d2
  rw [← hw7]
  clear hw7 g6 Z6 hsz2 hlen2 hone2
  try dsimp only [Act.put]
  go_wp2_with fail
  go_loopw [8] (fun v wr => ∃ (t : Nat), v = .int .i64 t ∧ t ≤ 2 ∧ RP w wr a r (tnF a r t)) (fun v wr => 2 - (intOf v).toNat)
  case atStart => exact ⟨0, rfl, by omega, Z7.out⟩
  case round =>
    clear Z7
    obtain ⟨t, rfl, ht, hz0⟩ := hrel
    by_cases hlt : t < 2
    · have hd : decide ((t : Int) < 2) = true := by simp; omega
      obtain ⟨p, hp⟩ : ∃ p, p = tnF a r t := ⟨_, rfl⟩
      rw [← hp] at hz0
      have HP : Hid (D16 18 p ∧ trF p = tnF a r (t + 1)) := by
        refine ⟨?_, by rw [hp]; rfl⟩
        have : t = 0 ∨ t = 1 := by omega
        rcases this with rfl | rfl
        · rw [hp]; exact HT.out.1
        · rw [hp]; exact HT.out.2
      have HTr := (show Hid (_) from tr_ok HP.out.1)
      have Z : Hid (RP w wr a r p) := hz0
      clear hz0 hp
      go_upto_region 14 with fail
      obtain ⟨H, hH⟩ : ∃ H, H = wr.heap.size := ⟨_, rfl⟩
      obtain ⟨w8, hw8⟩ : ∃ w8, w8 = wr.alloc (.cells (arr .u64 18 zI) 103) := ⟨_, rfl⟩
      have Z8 : Hid ((RP w w8 a r p ∧ Ar w8 H (arr .u64 18 zI)) ∧ w.heap.size + 1 + 1 + 1 < H) := by
        have k := Z.out
        have e := k.p.lt
        rw [hw8, hH]
        exact ⟨⟨k.to ((Chg.refl wr).alloc _), Ar.new wr _ _⟩, e⟩
      rw [← hw8, ← hH]
      clear hw8 hH Z
      go_upto_block 6 with fail
      refine rp2_any Z8.out.1.1 Z8.out.1.2 Z8.out.2 HP.out.1 ?_
      intro u10 u46 u47 u48 u49 u50 u51 u52 u53 u54 u55 u56 u57 u58 u59 u60 u61 u62 u63 w9 h9
      have Z9 : Hid (RP w w9 a r p ∧ Ar w9 H (arr .u64 18 (hgF p 17))) := h9
      have HL : Hid (w.heap.size + 1 + 1 + 1 < H) := Z8.out.2
      have b17 := HP.out.1 17 (by decide)
      have b8 := HP.out.1 8 (by decide)
      have c1 := (Z9.out.1.p.cell 17).trans (arr_get .u64 18 _ (by decide))
      have c2 := (Z9.out.2.cell 9).trans (arr_get .u64 18 _ (by decide))
      have f2 := Z9.out.2.frozen 9
      obtain ⟨x, hx⟩ : ∃ x, x = p 17 := ⟨_, rfl⟩
      obtain ⟨v, hv⟩ : ∃ v, v = hgF p 17 9 := ⟨_, rfl⟩
      rw [← hx] at c1 b17
      rw [← hv] at c2
      obtain ⟨x4, hx4⟩ : ∃ x4, x / 4 = x4 := ⟨_, rfl⟩
      have HX : Hid (x4 = p 17 / 4) := by show x4 = _; rw [← hx4, hx]
      clear h9 Z8 hx hv
      go_upto_region 19 with fail
      obtain ⟨w10, hw10⟩ : ∃ u, u = w9.setCell ⟨H, 9, none⟩ (.int .u64 x4) := ⟨_, rfl⟩
      have Z10 : Hid (RP w w10 a r p ∧ Ar w10 H (arr .u64 18 (hiF p))) := by
        have hh := Z9.out.2.set 9 (.int .u64 x4)
        rw [arr_set, upd_updI, HX.out, hgF_all] at hh
        rw [hw10, HX.out]
        exact ⟨Z9.out.1.other HL.out 9 _, hh⟩
      rw [← hw10]
      clear hw10 c1 c2 f2 Z9
      have c3 := (Z10.out.1.p.cell 8).trans (arr_get .u64 18 _ (by decide))
      have f3 := Z10.out.1.p.frozen 8
      obtain ⟨y, hy⟩ : ∃ y, y = p 8 := ⟨_, rfl⟩
      rw [← hy] at c3 b8
      have my := mask2 (x := y) (by omega) (by omega)
      obtain ⟨y4, hy4⟩ : ∃ y4, y % 4 = y4 := ⟨_, rfl⟩
      rw [hy4] at my
      have HY : Hid (y4 = p 8 % 4) := by show y4 = _; rw [← hy4, hy]
      clear hy hy4
      go_upto_region 20 with fail
      obtain ⟨w11, hw11⟩ : ∃ u, u = w10.setCell ⟨w.heap.size + 1 + 1 + 1, 8, none⟩ (.int .u64 y4) := ⟨_, rfl⟩
      have Z11 : Hid (RP w w11 a r (zpF p 9) ∧ Ar w11 H (arr .u64 18 (hiF p))) := by
        have hl := HL.out
        have hh := Z10.out.1.set 8 y4
        rw [HY.out, zpF_start] at hh
        rw [hw11, HY.out]
        exact ⟨hh, Z10.out.2.other (by dsimp only; omega) _⟩
      rw [← hw11]
      clear hw11 c3 f3 Z10
      go_upto_block 8 with fail
      refine rp3_any Z11.out.1 Z11.out.2 HL.out ?_
      intro u11 u72 u73 u74 u75 u76 u77 w12 h12
      have Z12 : Hid (RP w w12 a r (loF p) ∧ Ar w12 H (arr .u64 18 (hiF p))) := by
        obtain ⟨k, k2⟩ := h12
        have kp := k.p
        rw [zpF_all] at kp
        exact ⟨⟨k.chg, k.a, k.r, k.out, kp⟩, k2⟩
      clear h12 Z11
      go_upto_block 10 with fail
      refine rp4_any Z12.out.1 Z12.out.2 HL.out HTr.out.2.2.2 HP.out.1 ?_
      intro u12 u78 u79 u80 u81 u82 u83 u84 u85 u86 u87 u88 u89 u90 u91 w13 h13
      obtain ⟨e1, he1⟩ : ∃ d, d = tqF p := ⟨_, rfl⟩
      obtain ⟨e2, he2⟩ : ∃ d, d = trF p := ⟨_, rfl⟩
      have Z13 : Hid (RP w w13 a r e1) := by
        have kp := h13.p
        rw [tpF_all, ← he1] at kp
        exact ⟨h13.chg, h13.a, h13.r, h13.out, kp⟩
      have HC : Hid (∀ u, Calls Tryz.prog 69 #[.agg (arr .u64 18 e1)] u fun r w' => r = .returned (.agg (arr .u64 18 e2)) ∧ Chg u w') := by
        have e : e2 = rcD e1 := by rw [he2, he1]; rfl
        rw [e, he1]
        exact fun u => refCarried_any (tqF p) u HTr.out.2.2.1
      have HE2 : Hid (e2 = tnF a r (t + 1)) := by show e2 = _; rw [he2, HP.out.2]
      obtain ⟨t13, g13⟩ := Z13.out.p
      have hszE := szI e1 i68
      clear h13 Z12 he1 he2
      go_wp2_with (first | refine wpList_load_row rfl 103 _ rfl _ rfl _ _ _ _ g13 und68 rfl hszE ?_)
      go_at_call 69
      refine (HC.out _).mono ?_
      rintro r14 w14 ⟨rfl, hc14⟩
      have Z14 : Hid (RP w w14 a r e1) := Z13.out.to hc14
      obtain ⟨t14, g14⟩ := Z14.out.p
      have hsz2 := szI e2 i68
      have hlen2 := lenI 18 e1 e2
      have hone2 := arr_one .u64 18 e2
      clear hc14 g13 Z13 HC hszE
      go_wp2_with (first | refine wpList_store_row rfl 103 _ _ rfl _ _ rfl rfl _ _ g14 hsz2 hlen2 hone2 ?_)
      go_roundw
      case rel =>
        refine ⟨t + 1, by go_num, by omega, ?_⟩
        rw [← HE2.out]
        exact Z14.out.row e2
      case measure => simp [intOf]; omega
    · have : t = 2 := by omega
      subst this
      rw [show ((2 : Nat) : Int) = 2 from rfl]
      obtain ⟨p, hp⟩ : ∃ p, p = poF a r := ⟨_, rfl⟩
      have HP : Hid (p = poF a r) := hp
      have Z : Hid (RP w wr a r p) := by rw [hp]; exact hz0
      clear hz0 hp
      go_wp2_with fail
      obtain ⟨G, hG⟩ : ∃ G, G = wr.heap.size := ⟨_, rfl⟩
      obtain ⟨w8, hw8⟩ : ∃ w8, w8 = wr.alloc (.cells (arr .u64 9 zI) 88) := ⟨_, rfl⟩
      have Z8 : Hid ((RP w w8 a r p ∧ Ar w8 G (arr .u64 9 (coF p 0))) ∧ w.heap.size + 1 + 1 + 1 < G) := by
        have k := Z.out
        have e := k.p.lt
        rw [hw8, hG, coF_zero]
        exact ⟨⟨k.to ((Chg.refl wr).alloc _), Ar.new wr _ _⟩, e⟩
      rw [← hw8, ← hG]
      clear hw8 hG Z hz hz2
      have HL : Hid (w.heap.size + 1 + 1 + 1 < G) := Z8.out.2
      go_loopw [14] (fun v wr => ∃ (i : Nat), v = .int .i64 i ∧ i ≤ 9 ∧ RP w wr a r p ∧ Ar wr G (arr .u64 9 (coF p i))) (fun v wr => 9 - (intOf v).toNat)
      case atStart => exact ⟨0, rfl, by omega, Z8.out.1⟩
      case round =>
        clear Z8
        obtain ⟨i, rfl, hi, hz0, hz1⟩ := hrel
        have Z : Hid (RP w wr a r p ∧ Ar wr G (arr .u64 9 (coF p i))) := ⟨hz0, hz1⟩
        by_cases hlt : i < 9
        · have hd : decide ((i : Int) < 9) = true := by simp; omega
          have li : (i : Int) < 9 := by omega
          have li' : (i : Int) < 18 := by omega
          have c1 := (hz0.p.cell i).trans (arr_get .u64 18 _ (by omega))
          have c2 := (hz1.cell i).trans (arr_get .u64 9 _ hlt)
          have f2 := hz1.frozen i
          obtain ⟨x, hx⟩ : ∃ x, x = p i := ⟨_, rfl⟩
          obtain ⟨v, hv⟩ : ∃ v, v = coF p i i := ⟨_, rfl⟩
          rw [← hx] at c1
          rw [← hv] at c2
          have HX : Hid (x = p i) := hx
          clear hx hv hz0 hz1
          go_wp2_with fail
          go_roundw
          case rel =>
            refine ⟨i + 1, by go_num, by omega, Z.out.1.other HL.out i _, ?_⟩
            have hh := Z.out.2.set i (.int .u64 x)
            rw [arr_set, upd_updI, HX.out, coF_succ, ← HX.out] at hh
            exact hh
          case measure => simp [intOf]; omega
        · have : i = 9 := by omega
          subst this
          rw [coF_all] at hz1
          have HOo : Hid (Chg w wr ∧ Ar wr (w.heap.size + 1 + 1) (arr .u64 9 zI)) := ⟨hz0.chg, hz0.out⟩
          clear hz0 Z
          obtain ⟨t1, g1⟩ := hz1
          obtain ⟨t3, g3⟩ := HOo.out.2
          have hsz := szI p i58
          have hlen := lenI 9 zI p
          have hone := arr_one .u64 9 p
          go_wp2_with (first | refine wpList_load_row rfl 88 _ rfl _ rfl _ _ _ _ g1 und58 rfl hsz ?_ | refine wpList_store_row rfl 88 _ _ rfl _ _ rfl rfl _ _ g3 hsz hlen hone ?_)
          refine bp_c (n := 9) (c := arr .u64 9 p) Tryz.results51 rfl rfl ?_ und58 i58 (arr_size _ _ _) ⟨by rw [HP.out], ?_⟩
          · exact HOo.out.2.row _
          · exact HOo.out.1.setRow (by omega) _
end Go.Proofs.YtobglgddbhddnaaGreat.Cha
