/-
  The document's product: what stands above 2^130.
-/
import Derived.Test.YtkdidacebfkdmaaRNc
import Derived.Lib.EndianBits
namespace Go.Proofs.Ytkdidacebfkdmaa
open Go.RowKit
set_option linter.unusedVariables false

theorem or14 {x y : Int} (hx0 : 0 ≤ x) (hx : x < 16384) (hy0 : 0 ≤ y) (hy : y < 65536) (hm : y % 16384 = 0) : Go.bits .or .u64 x y = x + y := by
  refine bits_join_low .u64 64 (by decide) (fun n h0 h1 => ?_) 14 x y hx0 hx ?_ hy0 hm ?_
  · have : (2 : Int) ^ 64 = 18446744073709551616 := rfl
    exact wrap_u h0 (by omega)
  · have : (2 : Int) ^ 64 = 18446744073709551616 := rfl
    omega
  · have : (2 : Int) ^ 64 = 18446744073709551616 := rfl
    omega
theorem mask2 {x : Int} (h0 : 0 ≤ x) (h1 : x < 18446744073709551616) : Go.bits .and .u64 x 3 = x % 4 := by
  obtain ⟨n, rfl⟩ := Int.eq_ofNat_of_zero_le h0
  have := u64_and_nat n 3 (by omega) (by decide)
  rw [show (3 : Int) = ((3 : Nat) : Int) from rfl, this, show 3 = 2 ^ 2 - 1 from rfl, Nat.and_two_pow_sub_one_eq_mod]
  omega
/-- The high digits, as far as they are laid. -/
def hgF (p : Nat → Int) (i : Nat) : Nat → Int := fun j => if 8 + j < i then hiF p j else 0
theorem hgF_succ (p : Nat → Int) {i m : Nat} (hm : 8 + m = i) (x : Int) (hx : x = hiF p m) : updI (hgF p i) m x = hgF p (i + 1) := by
  funext j
  unfold updI hgF
  by_cases h : j = m
  · subst h
    rw [if_pos rfl, if_pos (by omega), hx]
  · rw [if_neg h]
    by_cases h1 : 8 + j < i
    · rw [if_pos h1, if_pos (by omega)]
    · rw [if_neg h1, if_neg (by omega)]
theorem hgF_start (p : Nat → Int) : hgF p 8 = zI := by
  funext j
  unfold hgF zI
  rw [if_neg (by omega)]
theorem hgF_all (p : Nat → Int) : updI (hgF p 17) 9 (p 17 / 4) = hiF p := by
  funext j
  unfold updI hgF
  by_cases h : j = 9
  · subst h
    rfl
  · rw [if_neg h]
    by_cases h1 : 8 + j < 17
    · rw [if_pos h1]
    · rw [if_neg h1]
      unfold hiF
      rw [if_neg (by omega), if_neg h]
/-- The low digits. -/
def loF (p : Nat → Int) : Nat → Int := fun j => if j < 8 then p j else if j = 8 then p 8 % 4 else 0
def zpF (p : Nat → Int) (i : Nat) : Nat → Int := fun j => if j < i then loF p j else p j
theorem zpF_start (p : Nat → Int) : updI p 8 (p 8 % 4) = zpF p 9 := by
  funext j
  unfold updI zpF loF
  by_cases h : j = 8
  · subst h; rfl
  · rw [if_neg h]
    by_cases h1 : j < 8
    · rw [if_pos (by omega), if_pos h1]
    · rw [if_neg (by omega)]
theorem zpF_succ (p : Nat → Int) {i : Nat} (hi : 9 ≤ i) : updI (zpF p i) i 0 = zpF p (i + 1) := by
  funext j
  unfold updI zpF
  by_cases h : j = i
  · subst h
    rw [if_pos rfl, if_pos (by omega)]
    unfold loF
    rw [if_neg (by omega), if_neg (by omega)]
  · rw [if_neg h]
    by_cases h1 : j < i
    · rw [if_pos h1, if_pos (by omega)]
    · rw [if_neg h1, if_neg (by omega)]
theorem zpF_all (p : Nat → Int) : arr .u64 18 (zpF p 18) = arr .u64 18 (loF p) := arr_congr fun j hj => by unfold zpF; rw [if_pos hj]
def tpF (p : Nat → Int) (i : Nat) : Nat → Int := fun j => if j < i then tqF p j else loF p j
theorem tpF_start (p : Nat → Int) : tpF p 0 = loF p := by funext j; unfold tpF; rw [if_neg (by omega)]
theorem tpF_succ (p : Nat → Int) (i : Nat) (x : Int) (hx : x = loF p i + 5 * hiF p i) : updI (tpF p i) i x = tpF p (i + 1) := by
  funext j
  unfold updI tpF
  by_cases h : j = i
  · subst h
    rw [if_pos rfl, if_pos (by omega), hx]
    rfl
  · rw [if_neg h]
    by_cases h1 : j < i
    · rw [if_pos h1, if_pos (by omega)]
    · rw [if_neg h1, if_neg (by omega)]
theorem tpF_all (p : Nat → Int) : arr .u64 18 (tpF p 10) = arr .u64 18 (tqF p) := arr_congr fun j hj => by
  unfold tpF
  by_cases h : j < 10
  · rw [if_pos h]
  · rw [if_neg h]
    unfold tqF hiF
    rw [if_neg (by omega), if_neg (by omega)]
    unfold loF
    omega

set_option maxRecDepth 100000 in
set_option maxHeartbeats 8000000 in
/-- The high digits. -/
theorem rp2_any {Q : Exit → Act → World → Prop} {t0 t1 t2 t3 t4 t6 t7 t8 t11 t12 t13 t14 t15 t16 t17 t18 t19 t20 t21 t22 t23 t24 t25 t26 t27 t28 t29 t30 t31 t32 t33 t34 t35 t36 t37 t38 t39 t40 t41 t42 t43 t44 t45 t46 t47 t48 t49 t50 t51 t52 t53 t54 t55 t56 t57 t58 t59 t60 t61 t62 t63 t64 t65 t66 t67 t68 t69 t70 t71 t72 t73 t74 t75 t76 t77 t78 t79 t80 t81 t82 t83 t84 t85 t86 t87 t88 t89 t90 t91 t92 t93 t94 t95 t96 t97 t98 t99 t100 t101 t102 t103 : Value} {a r p : Nat → Int} {H : Nat} {w w1 : World} (h : RP w w1 a r p) (hH : Ar w1 H (arr .u64 18 zI)) (hl : w.heap.size + 1 + 1 + 1 < H) (hp : D16 18 p)
    (hQ : ∀ (u10 u46 u47 u48 u49 u50 u51 u52 u53 u54 u55 u56 u57 u58 u59 u60 u61 u62 u63 : Value) (w' : World), RP w w' a r p ∧ Ar w' H (arr .u64 18 (hgF p 17)) → Q .normal ⟨#[t0, t1, t2, t3, t4, .pointer (some ⟨w.heap.size + 1 + 1 + 1, 0, none⟩), t6, t7, t8, .pointer (some ⟨H, 0, none⟩), u10, t11, t12, t13, t14, t15, t16, t17, t18, t19, t20, t21, t22, t23, t24, t25, t26, t27, t28, t29, t30, t31, t32, t33, t34, t35, t36, t37, t38, t39, t40, t41, t42, t43, t44, t45, u46, u47, u48, u49, u50, u51, u52, u53, u54, u55, u56, u57, u58, u59, u60, u61, u62, u63, t64, t65, t66, t67, t68, t69, t70, t71, t72, t73, t74, t75, t76, t77, t78, t79, t80, t81, t82, t83, t84, t85, t86, t87, t88, t89, t90, t91, t92, t93, t94, t95, t96, t97, t98, t99, t100, t101, t102, t103], []⟩ w') :
    (bk Try.f31 6).wp Try.prog Q ⟨#[t0, t1, t2, t3, t4, .pointer (some ⟨w.heap.size + 1 + 1 + 1, 0, none⟩), t6, t7, t8, .pointer (some ⟨H, 0, none⟩), .int .i64 8, t11, t12, t13, t14, t15, t16, t17, t18, t19, t20, t21, t22, t23, t24, t25, t26, t27, t28, t29, t30, t31, t32, t33, t34, t35, t36, t37, t38, t39, t40, t41, t42, t43, t44, t45, t46, t47, t48, t49, t50, t51, t52, t53, t54, t55, t56, t57, t58, t59, t60, t61, t62, t63, t64, t65, t66, t67, t68, t69, t70, t71, t72, t73, t74, t75, t76, t77, t78, t79, t80, t81, t82, t83, t84, t85, t86, t87, t88, t89, t90, t91, t92, t93, t94, t95, t96, t97, t98, t99, t100, t101, t102, t103], []⟩ w1 := by
  show Code.wp Try.prog (Code.block _ (Code.loop _)) Q _ _
  have HQ := (show Hid (∀ (u10 u46 u47 u48 u49 u50 u51 u52 u53 u54 u55 u56 u57 u58 u59 u60 u61 u62 u63 : Value) (w' : World), RP w w' a r p ∧ Ar w' H (arr .u64 18 (hgF p 17)) → Q .normal ⟨#[t0, t1, t2, t3, t4, .pointer (some ⟨w.heap.size + 1 + 1 + 1, 0, none⟩), t6, t7, t8, .pointer (some ⟨H, 0, none⟩), u10, t11, t12, t13, t14, t15, t16, t17, t18, t19, t20, t21, t22, t23, t24, t25, t26, t27, t28, t29, t30, t31, t32, t33, t34, t35, t36, t37, t38, t39, t40, t41, t42, t43, t44, t45, u46, u47, u48, u49, u50, u51, u52, u53, u54, u55, u56, u57, u58, u59, u60, u61, u62, u63, t64, t65, t66, t67, t68, t69, t70, t71, t72, t73, t74, t75, t76, t77, t78, t79, t80, t81, t82, t83, t84, t85, t86, t87, t88, t89, t90, t91, t92, t93, t94, t95, t96, t97, t98, t99, t100, t101, t102, t103], []⟩ w') from hQ)
  clear hQ
  have H0 : Hid ((RP w w1 a r p ∧ Ar w1 H (arr .u64 18 (hgF p 8))) ∧ w.heap.size + 1 + 1 + 1 < H ∧ D16 18 p) := ⟨⟨h, by rw [hgF_start]; exact hH⟩, hl, hp⟩
  clear h hH hl hp
  go_wp2_with fail
  go_loopw [10] (fun v wr => ∃ (i : Nat), v = .int .i64 i ∧ i ≤ 17 ∧ 8 ≤ i ∧ RP w wr a r p ∧ Ar wr H (arr .u64 18 (hgF p i))) (fun v wr => 17 - (intOf v).toNat)
  case atStart => exact ⟨8, rfl, by omega, by omega, H0.out.1⟩
  case round =>
    obtain ⟨i, rfl, hi, hi8, hz0, hz1⟩ := hrel
    have Z : Hid (RP w wr a r p ∧ Ar wr H (arr .u64 18 (hgF p i))) := ⟨hz0, hz1⟩
    by_cases hlt : i < 17
    · have hd : decide ((i : Int) < 17) = true := by simp; omega
      have li : (i : Int) < 18 := by omega
      obtain ⟨i1, hi1⟩ : ∃ i1 : Nat, (i : Int) + 1 = i1 := ⟨i + 1, by omega⟩
      have wi1 := wrap_i (x := (i1 : Int)) (by omega) (by omega)
      have li1 : (i1 : Int) < 18 := by omega
      obtain ⟨m, hm⟩ : ∃ m : Nat, (i : Int) - 8 = m := ⟨i - 8, by omega⟩
      have wm := wrap_i (x := (m : Int)) (by omega) (by omega)
      have lm : (m : Int) < 18 := by omega
      have HI : Hid (i1 = i + 1 ∧ 8 + m = i ∧ m < 9) := by show _ ∧ _ ∧ _; omega
      have b1 := H0.out.2.2 i (by omega)
      have b2 := H0.out.2.2 i1 (by omega)
      have c1 := (hz0.p.cell i).trans (arr_get .u64 18 _ (by omega))
      have c2 := (hz0.p.cell i1).trans (arr_get .u64 18 _ (by omega))
      have c3 := (hz1.cell m).trans (arr_get .u64 18 _ (by omega))
      have f3 := hz1.frozen m
      obtain ⟨x, hx⟩ : ∃ x, x = p i := ⟨_, rfl⟩
      obtain ⟨y, hy⟩ : ∃ y, y = p i1 := ⟨_, rfl⟩
      obtain ⟨v, hv⟩ : ∃ v, v = hgF p i m := ⟨_, rfl⟩
      rw [← hx] at c1 b1
      rw [← hy] at c2 b2
      rw [← hv] at c3
      obtain ⟨x4, hx4⟩ : ∃ x4, x / 4 = x4 := ⟨_, rfl⟩
      obtain ⟨z, hz⟩ : ∃ z, y * 16384 = z := ⟨_, rfl⟩
      have wz := wrap_u (x := z) (by omega) (by omega)
      have mz : z % 18446744073709551616 = z := by omega
      have az := mask16 (x := z) (by omega) (by omega)
      obtain ⟨c, hc⟩ : ∃ c, z % 65536 = c := ⟨_, rfl⟩
      rw [hc] at az
      have ho := or14 (x := x4) (y := c) (by omega) (by omega) (by omega) (by omega) (by omega)
      obtain ⟨g, hg⟩ : ∃ g, x4 + c = g := ⟨_, rfl⟩
      rw [hg] at ho
      have HE : Hid (updI (hgF p i) m g = hgF p (i + 1)) := by
        have h1 := HI.out
        refine hgF_succ p h1.2.1 g ?_
        unfold hiF
        rw [if_pos h1.2.2, h1.2.1, ← h1.1, ← hx, ← hy]
        omega
      clear hx hy hv hz0 hz1 b1 b2 hc hg hi8
      go_wp2_with fail
      refine wp_region_noPanic ?_
      go_region_with (fail)
      all_goals refine NoPanic.normal ?_
      all_goals go_wp2
      all_goals
        go_roundw
        case rel =>
          have hl := H0.out.2.1
          obtain ⟨k0, k1⟩ := Z.out
          have hI := HI.out
          refine ⟨i + 1, by congr 1; omega, by omega, by omega, ?_, ?_⟩
          · first
              | exact (k0.other hl m _).drew
              | exact k0.drew.other hl m _
          · have hh := k1.set m (.int .u64 g)
            rw [arr_set, upd_updI, HE.out] at hh
            exact hh.drew
        case measure => simp [intOf]; omega
    · have : i = 17 := by omega
      subst this
      have HE : Hid (RP w wr a r p ∧ Ar wr H (arr .u64 18 (hgF p 17))) := ⟨hz0, hz1⟩
      clear hz0 hz1 Z
      go_wp2
      exact HQ.out _ _ _ _ _ _ _ _ _ _ _ _ _ _ _ _ _ _ _ _ HE.out
end Go.Proofs.Ytkdidacebfkdmaa
