/-
  A stream goes on where it was left; a code of noughts as a key is what is added: ChachaCounts walked.
  The document's code of a text: its bytes.
  The document's code of a text: Poly.
-/
import Derived.Test.YtobglgddbhddnaaGreatJ25
import Derived.Test.YtobglgddbhddnaaGreatJ26
import Derived.Test.YtobglgddbhddnaaGreatJ30
namespace Go.Proofs.YtobglgddbhddnaaGreat.Cha
open Go.RowKit
set_option linter.unusedVariables false

theorem str_app (xs ys : List Int) : strOfNums (xs ++ ys) = strOfNums xs ++ strOfNums ys := by
  apply ByteArray.ext
  simp [strOfNums]
theorem str_size (xs : List Int) : (strOfNums xs).size = xs.length := by simp [strOfNums, ByteArray.size]
theorem run_cv32 (x : Nat) (hx : x < 256) (w : World) : (convert 3 54 (.int .i64 (x : Int))).run Tryz.prog w = .ok (.int .u32 (x : Int)) w := by
  have h : IntKind.u32.wrap (x : Int) = x := by rw [IntKind.wrap_u32]; omega
  simp [go_sem, h]
theorem nmAddN (x : Wd) (n : Nat) : ∃ z : Wd, Hid (z = x + BitVec.ofNat 32 n) ∧ IntKind.u32.wrap ((x.toNat : Int) + (n : Int)) = (z.toNat : Int) := ⟨_, rfl, by rw [BitVec.toNat_add, BitVec.toNat_ofNat, IntKind.wrap_u32]; omega⟩
theorem st_more (key nonce txt : Nat → By) (c : Wd) {p bk : Nat} (hp : p = 64 * bk) (i : Nat) : stF key (c + BitVec.ofNat 32 bk) nonce (fun i => txt (p + i)) i = stF key c nonce txt (p + i) := by
  unfold stF
  rw [hp, show (64 * bk + i) / 64 = bk + i / 64 by omega, show (64 * bk + i) % 64 = i % 64 by omega, BitVec.add_assoc, BitVec.ofNat_add]

/-- A key whose first bytes are noughts. -/
def zU (i : Nat) (key : Nat → By) : Nat → By := fun j => if j < i then 0#8 else key j
theorem zU_zero (key : Nat → By) : zU 0 key = key := by funext j; simp [zU]
theorem zU_succ (key : Nat → By) (i : Nat) : updB (zU i key) i 0#8 = zU (i + 1) key := by
  funext j
  unfold updB zU
  by_cases h : j = i
  · subst h; simp
  · have e : (j < i + 1) = (j < i) := by rw [eq_iff_iff]; omega
    simp [h, e]
theorem rK_zero (key : Nat → By) : rK (zU 16 key) = 0 := by
  unfold rK
  have : val 256 16 (nmF (clF (zU 16 key))) = val 256 16 (fun _ => 0) := val_congr fun i hi => by
    unfold nmF clF zU
    rw [if_pos hi, if_pos hi]
    split
    · rfl
    · split <;> rfl
  rw [this, val_zero]
theorem pac_zero (txt : Nat → By) (n m : Nat) : pac 0 txt n m = 0 := by
  cases m with
  | zero => rfl
  | succ m => show _ * 0 % _ = 0; rw [Int.mul_zero]; rfl
/-- A number's digit. -/
theorem val_dig {B : Int} (hB : 0 < B) {d : Nat → Int} {n : Nat} (h : ∀ i, i < n → 0 ≤ d i ∧ d i < B) : ∀ i, i < n → val B n d / B ^ i % B = d i := by
  induction n with
  | zero => intro i hi; omega
  | succ n ih =>
    intro i hi
    have b := val_bound hB (fun j hj => h j (Nat.lt_succ_of_lt hj)) (n := n)
    rw [val1]
    by_cases e : i = n
    · subst e
      rw [Int.add_mul_ediv_right _ _ (Int.ne_of_gt (Int.pow_pos hB)), Int.ediv_eq_zero_of_lt b.1 b.2, Int.zero_add]
      exact Int.emod_eq_of_lt (h i hi).1 (h i hi).2
    · have e1 : B ^ n = B ^ (n - i - 1) * B * B ^ i := by rw [← Int.pow_succ, ← Int.pow_add]; congr 1; omega
      rw [e1, ← Int.mul_assoc, Int.add_mul_ediv_right _ _ (Int.ne_of_gt (Int.pow_pos hB)), ← Int.mul_assoc, Int.add_mul_emod_self_right]
      exact ih (fun j hj => h j (by omega)) i (by omega)
theorem pol_zero (key txt : Nat → By) (n : Nat) : nums 16 (polF (zU 16 key) txt n) = nums 16 (fun j => key (16 + j)) := by
  refine nums_congr fun i hi => ?_
  unfold polF polN
  rw [rK_zero, pac_zero, Int.zero_add]
  apply BitVec.eq_of_toNat_eq
  have h1 := byF_num (sK (zU 16 key)) i
  have h2 : sK (zU 16 key) / 256 ^ i % 256 = nmF (fun j => zU 16 key (16 + j)) i := val_dig (by decide) (fun j _ => nmF_bound _ j) i hi
  rw [h2] at h1
  have h3 : nmF (fun j => zU 16 key (16 + j)) i = ((key (16 + i)).toNat : Int) := by
    unfold nmF zU
    dsimp only
    rw [if_neg (by omega)]
  omega

end Go.Proofs.YtobglgddbhddnaaGreat.Cha

namespace Go.Proofs.YtobglgddbhddnaaGreat.Cha
open Go.RowKit
set_option linter.unusedVariables false

/-- The digits of a number. -/
def dg (B x : Int) : Nat → Int := fun i => x / B ^ i % B
theorem val_dg {B : Int} (hB : 0 < B) (n : Nat) (x : Int) : val B n (dg B x) = x % B ^ n := by
  induction n with
  | zero => simp [val, Int.emod_one]
  | succ n ih =>
    simp only [val]
    rw [ih]
    unfold dg
    have hp : 0 < B ^ n := Int.pow_pos hB
    have e1 := Int.emod_add_mul_ediv x (B ^ n)
    have e2 := Int.emod_add_mul_ediv (x / B ^ n) B
    have e3 := Int.emod_add_mul_ediv x (B ^ (n + 1))
    have e4 : x / B ^ n / B = x / B ^ (n + 1) := by rw [Int.ediv_ediv_of_nonneg (by omega), Int.pow_succ]
    rw [e4] at e2
    have e5 : B ^ n * (x / B ^ n) = B ^ n * (x / B ^ n % B) + B ^ (n + 1) * (x / B ^ (n + 1)) := by
      have e6 : B ^ n * (x / B ^ n % B + B * (x / B ^ (n + 1))) = B ^ n * (x / B ^ n) := by rw [e2]
      rw [Int.mul_add, ← Int.mul_assoc, ← Int.pow_succ] at e6
      exact e6.symm
    rw [Int.mul_comm (x / B ^ n % B)]
    omega
/-- A number's byte, out of its digit of 16 bits. -/
theorem dig_byte {z : Nat → Int} (hz : D16 9 z) {i : Nat} (hi : i < 16) : z (i / 2) / 2 ^ (8 * (i % 2)) % 256 = dg 256 (val 65536 9 z) i := by
  have h := val_dig (B := 65536) (by decide) hz (i / 2) (by omega)
  unfold dg
  rw [← h]
  generalize val 65536 9 z = a
  have e : (256 : Int) ^ i = 65536 ^ (i / 2) * 2 ^ (8 * (i % 2)) := by rw [← pow_16 i, Int.mul_comm]
  have hp : (0 : Int) < 65536 ^ (i / 2) := Int.pow_pos (by decide)
  rw [e, ← Int.ediv_ediv_of_nonneg (by omega)]
  generalize a / 65536 ^ (i / 2) = x
  rcases Nat.mod_two_eq_zero_or_one i with h2 | h2 <;> rw [h2]
  · simp only [Nat.mul_zero, Int.pow_zero, Int.ediv_one]
    omega
  · simp only [Nat.mul_one, Int.reducePow]
    omega
/-- What is added, byte by byte. -/
def smF (z : Nat → Int) (key : Nat → By) : Nat → Int := fun i => dg 256 (val 65536 9 z) i + nmF (fun j => key (16 + j)) i
theorem sm_byte (z : Nat → Int) (key : Nat → By) {i : Nat} (hi : i < 16) : gD 256 0 (smF z key) i = (val 65536 9 z + sK key) / 256 ^ i % 256 := by
  have h := g_val 256 0 (smF z key) 16
  have h1 : val 256 16 (smF z key) = val 65536 9 z % 256 ^ 16 + sK key := by
    rw [← val_dg (by decide) 16 (val 65536 9 z)]
    exact val_add 16 _ _
  have h2 := val_dig (B := 256) (by decide) (d := gD 256 0 (smF z key)) (n := 16) (fun j _ => gD_bound (by decide) 0 _ j) i hi
  rw [← h2]
  have e : val 65536 9 z + sK key = val 256 16 (gD 256 0 (smF z key)) + (gO 256 0 (smF z key) 16 + val 65536 9 z / 256 ^ 16) * 256 ^ 16 := by
    have h3 := Int.emod_add_mul_ediv (val 65536 9 z) (256 ^ 16)
    rw [Int.add_mul, Int.mul_comm (val 65536 9 z / 256 ^ 16)]
    omega
  rw [e]
  have e1 : (256 : Int) ^ 16 = 256 ^ (16 - i - 1) * 256 * 256 ^ i := by rw [← Int.pow_succ, ← Int.pow_add]; congr 1; omega
  rw [e1, ← Int.mul_assoc, Int.add_mul_ediv_right _ _ (Int.ne_of_gt (Int.pow_pos (by decide))), ← Int.mul_assoc, Int.add_mul_emod_self_right]
theorem sm_le {z : Nat → Int} {key : Nat → By} : ∀ i, (0 ≤ smF z key i ∧ smF z key i ≤ 510) ∧ 0 ≤ gO 256 0 (smF z key) i ∧ gO 256 0 (smF z key) i ≤ 2 := by
  have hb : ∀ i, 0 ≤ smF z key i ∧ smF z key i ≤ 510 := fun i => by
    have h1 := nmF_bound (fun j => key (16 + j)) i
    have h2 : 0 ≤ dg 256 (val 65536 9 z) i ∧ dg 256 (val 65536 9 z) i < 256 := ⟨Int.emod_nonneg _ (by decide), Int.emod_lt_of_pos _ (by decide)⟩
    unfold smF
    omega
  intro i
  refine ⟨hb i, ?_⟩
  induction i with
  | zero => show 0 ≤ (0 : Int) ∧ (0 : Int) ≤ 2; omega
  | succ i ih =>
    have h1 := hb i
    show 0 ≤ (smF z key i + gO 256 0 (smF z key) i) / 256 ∧ (smF z key i + gO 256 0 (smF z key) i) / 256 ≤ 2
    omega
theorem mask8 {x : Int} (h0 : 0 ≤ x) (h1 : x < 18446744073709551616) : Go.bits .and .u64 x 255 = x % 256 := by
  obtain ⟨n, rfl⟩ := Int.eq_ofNat_of_zero_le h0
  have := u64_and_nat n 255 (by omega) (by decide)
  rw [show (255 : Int) = ((255 : Nat) : Int) from rfl, this, show 255 = 2 ^ 8 - 1 from rfl, Nat.and_two_pow_sub_one_eq_mod]
  omega

/-- What stands while the bytes of a code are laid. -/
structure RZ (w wr : World) (key : Nat → By) (r z : Nat → Int) (AB O : Nat) (F : Nat → By) : Prop where
  y : RY w wr key r
  a : Ar wr AB (arr .u64 9 z)
  out : Ar wr O (ba 16 F)
  la : w.heap.size + 1 + 1 < AB
  lt : AB < O
theorem RZ.set {w wr : World} {key : Nat → By} {r z : Nat → Int} {AB O : Nat} {F : Nat → By} (h : RZ w wr key r z AB O F) (i : Nat) (x : By) : RZ w (wr.setCell ⟨O, i, none⟩ (.int .u8 (x.toNat : Int))) key r z AB O (updB F i x) := by
  have hl := h.lt
  have ha := h.la
  refine ⟨h.y.other (by omega) i _, h.a.other (by dsimp only; omega) _, ?_, ha, hl⟩
  have := h.out.set i (.int .u8 (x.toNat : Int))
  rwa [ba_set] at this
theorem RZ.drewN {w wr : World} {key : Nat → By} {r z : Nat → Int} {AB O : Nat} {F : Nat → By} (h : RZ w wr key r z AB O F) (n : Nat) : RZ w (wr.drewN n) key r z AB O F := ⟨⟨h.y.chg.drewN n, h.y.ky, h.y.res, h.y.r⟩, h.a, h.out, h.la, h.lt⟩
theorem RZ.drew {w wr : World} {key : Nat → By} {r z : Nat → Int} {AB O : Nat} {F : Nat → By} (h : RZ w wr key r z AB O F) : RZ w wr.drew key r z AB O F := ⟨h.y.drew, h.a, h.out, h.la, h.lt⟩

set_option maxRecDepth 100000 in
set_option maxHeartbeats 8000000 in
/-- The bytes of a code. -/
theorem ry3_any {Q : Exit → Act → World → Prop} {t0 t1 t3 t4 t5 t6 t7 t9 t10 t11 t15 t16 t17 t18 t19 t20 t21 t22 t23 t24 t25 t26 t27 t28 t29 t30 t31 t32 t33 t34 t35 t36 t37 t38 t39 t40 t41 t42 t43 t44 t45 t46 t47 t48 t49 t50 t51 t52 t53 t54 t55 t56 t57 t58 t59 t60 t61 t62 t63 t64 t65 t66 t67 t68 t69 t70 t71 t72 t73 t74 t75 t76 t77 t78 t79 t80 t81 t82 t83 t84 t85 t86 t87 t88 t89 t90 t91 t92 t93 t94 t95 t96 t97 t98 t99 t100 t101 t102 t103 t104 t105 t106 t107 t108 t109 t110 t111 t112 t113 t114 t115 t116 t117 t118 t119 t120 t121 t122 t123 t124 t125 t126 t127 t128 t129 t130 t131 t132 t133 t134 t135 t136 t137 t138 : Value} {key F : Nat → By} {r z : Nat → Int} {AB O : Nat} {w w1 : World} (h : RZ w w1 key r z AB O zB) (hd : D16 9 z) (hF : F = byF (val 65536 9 z + sK key))
    (hQ : ∀ (u13 u14 u15 u111 u112 u113 u114 u115 u116 u117 u118 u119 u120 u121 u122 u123 u124 u125 u126 u127 u128 u129 u130 u131 u132 u133 u134 u135 u136 u137 : Value) (w' : World), RZ w w' key r z AB O F → Q .normal ⟨#[t0, t1, .pointer (some ⟨w.heap.size, 0, none⟩), t3, t4, t5, t6, t7, .pointer (some ⟨AB, 0, none⟩), t9, t10, t11, .pointer (some ⟨O, 0, none⟩), u13, u14, u15, t16, t17, t18, t19, t20, t21, t22, t23, t24, t25, t26, t27, t28, t29, t30, t31, t32, t33, t34, t35, t36, t37, t38, t39, t40, t41, t42, t43, t44, t45, t46, t47, t48, t49, t50, t51, t52, t53, t54, t55, t56, t57, t58, t59, t60, t61, t62, t63, t64, t65, t66, t67, t68, t69, t70, t71, t72, t73, t74, t75, t76, t77, t78, t79, t80, t81, t82, t83, t84, t85, t86, t87, t88, t89, t90, t91, t92, t93, t94, t95, t96, t97, t98, t99, t100, t101, t102, t103, t104, t105, t106, t107, t108, t109, t110, u111, u112, u113, u114, u115, u116, u117, u118, u119, u120, u121, u122, u123, u124, u125, u126, u127, u128, u129, u130, u131, u132, u133, u134, u135, u136, u137, t138], []⟩ w') :
    (bk Tryz.f33 6).wp Tryz.prog Q ⟨#[t0, t1, .pointer (some ⟨w.heap.size, 0, none⟩), t3, t4, t5, t6, t7, .pointer (some ⟨AB, 0, none⟩), t9, t10, t11, .pointer (some ⟨O, 0, none⟩), .int .u64 0, .int .i64 0, t15, t16, t17, t18, t19, t20, t21, t22, t23, t24, t25, t26, t27, t28, t29, t30, t31, t32, t33, t34, t35, t36, t37, t38, t39, t40, t41, t42, t43, t44, t45, t46, t47, t48, t49, t50, t51, t52, t53, t54, t55, t56, t57, t58, t59, t60, t61, t62, t63, t64, t65, t66, t67, t68, t69, t70, t71, t72, t73, t74, t75, t76, t77, t78, t79, t80, t81, t82, t83, t84, t85, t86, t87, t88, t89, t90, t91, t92, t93, t94, t95, t96, t97, t98, t99, t100, t101, t102, t103, t104, t105, t106, t107, t108, t109, t110, t111, t112, t113, t114, t115, t116, t117, t118, t119, t120, t121, t122, t123, t124, t125, t126, t127, t128, t129, t130, t131, t132, t133, t134, t135, t136, t137, t138], []⟩ w1 := by
  show Code.wp Tryz.prog (Code.block _ (Code.loop _)) Q _ _
  have HQ := (show Hid (∀ (u13 u14 u15 u111 u112 u113 u114 u115 u116 u117 u118 u119 u120 u121 u122 u123 u124 u125 u126 u127 u128 u129 u130 u131 u132 u133 u134 u135 u136 u137 : Value) (w' : World), RZ w w' key r z AB O F → Q .normal ⟨#[t0, t1, .pointer (some ⟨w.heap.size, 0, none⟩), t3, t4, t5, t6, t7, .pointer (some ⟨AB, 0, none⟩), t9, t10, t11, .pointer (some ⟨O, 0, none⟩), u13, u14, u15, t16, t17, t18, t19, t20, t21, t22, t23, t24, t25, t26, t27, t28, t29, t30, t31, t32, t33, t34, t35, t36, t37, t38, t39, t40, t41, t42, t43, t44, t45, t46, t47, t48, t49, t50, t51, t52, t53, t54, t55, t56, t57, t58, t59, t60, t61, t62, t63, t64, t65, t66, t67, t68, t69, t70, t71, t72, t73, t74, t75, t76, t77, t78, t79, t80, t81, t82, t83, t84, t85, t86, t87, t88, t89, t90, t91, t92, t93, t94, t95, t96, t97, t98, t99, t100, t101, t102, t103, t104, t105, t106, t107, t108, t109, t110, u111, u112, u113, u114, u115, u116, u117, u118, u119, u120, u121, u122, u123, u124, u125, u126, u127, u128, u129, u130, u131, u132, u133, u134, u135, u136, u137, t138], []⟩ w') from hQ)
  clear hQ
  have H0 : Hid (RZ w w1 key r z AB O (upTo 0 F zB) ∧ D16 9 z ∧ F = byF (val 65536 9 z + sK key)) := ⟨by rw [upTo_zero]; exact h, hd, hF⟩
  clear h hd hF
  go_wp2_with fail
  go_loopw [13, 14] (fun v13 v14 wr => ∃ (i : Nat), v14 = .int .i64 i ∧ i ≤ 16 ∧ v13 = .int .u64 (gO 256 0 (smF z key) i) ∧ RZ w wr key r z AB O (upTo i F zB)) (fun v13 v14 wr => 16 - (intOf v14).toNat)
  case atStart => exact ⟨0, rfl, by omega, rfl, H0.out.1⟩
  case round =>
    obtain ⟨i, rfl, hi, rfl, hz0⟩ := hrel
    have Z : Hid (RZ w wr key r z AB O (upTo i F zB)) := hz0
    obtain ⟨o, ho⟩ : ∃ o, o = gO 256 0 (smF z key) i := ⟨_, rfl⟩
    rw [← ho]
    by_cases hlt : i < 16
    · have hd : decide ((i : Int) < 16) = true := by simp; omega
      have li : (i : Int) < 16 := by omega
      obtain ⟨q, r2, s, e1, e2, e3, v1, v2, v3, ls, ls', HQ2⟩ := dm2 i (by omega)
      have lq : (q : Int) < 9 := by have := HQ2.out.1; omega
      obtain ⟨ki, hki⟩ : ∃ ki : Nat, (16 : Int) + i = ki := ⟨16 + i, by omega⟩
      have wki := wrap_i (x := (ki : Int)) (by omega) (by omega)
      have lki : (ki : Int) < 32 := by omega
      have c1 := (hz0.a.cell q).trans (arr_get .u64 9 _ (by omega))
      have c2 := (hz0.y.ky.cell ki).trans (ba_get 32 _ (by omega))
      have c3 := (hz0.out.cell i).trans (ba_get 16 _ hlt)
      have f3 := hz0.out.frozen i
      obtain ⟨x, hx⟩ : ∃ x, x = z q := ⟨_, rfl⟩
      obtain ⟨k, hk⟩ : ∃ k, k = (key ki).toNat := ⟨_, rfl⟩
      obtain ⟨x3, hx3⟩ : ∃ x3, x3 = upTo i F zB i := ⟨_, rfl⟩
      rw [← hx] at c1
      rw [← hk] at c2
      rw [← hx3] at c3
      have bx := H0.out.2.1 q (by omega)
      rw [← hx] at bx
      have bk : k < 256 := by rw [hk]; exact (key ki).isLt
      have hsm := sm_le (z := z) (key := key) i
      rw [← ho] at hsm
      obtain ⟨x1, hx1⟩ : ∃ x1, x / 2 ^ s = x1 := ⟨_, rfl⟩
      have bx1 : 0 ≤ x1 ∧ x1 < 65536 := by
        rcases HQ2.out.2.2 with ⟨_, h⟩ | ⟨_, h⟩ <;> rw [h] at hx1 <;> omega
      have mx1 := mask8 (x := x1) (by omega) (by omega)
      obtain ⟨a1, ha1⟩ : ∃ a1, x1 % 256 = a1 := ⟨_, rfl⟩
      rw [ha1] at mx1
      have wk : IntKind.u64.wrap (k : Int) = k := wrap_u (by omega) (by omega)
      obtain ⟨s4, hs4⟩ : ∃ s4, a1 + (k : Int) = s4 := ⟨_, rfl⟩
      have ws4 := wrap_u (x := s4) (by omega) (by omega)
      obtain ⟨s5, hs5⟩ : ∃ s5, s4 + o = s5 := ⟨_, rfl⟩
      have ws5 := wrap_u (x := s5) (by omega) (by omega)
      obtain ⟨b, hb⟩ := nmI (x := s5 % 256) (by omega) (by omega)
      have wb : IntKind.u8.wrap s5 = (b.toNat : Int) := by rw [IntKind.wrap_u8, hb]
      have mb : s5 % 256 = (b.toNat : Int) := hb.symm
      obtain ⟨o2, ho2⟩ : ∃ o2, s5 / 256 = o2 := ⟨_, rfl⟩
      have HE : Hid (b = F i ∧ o2 = gO 256 0 (smF z key) (i + 1)) := by
        have es : smF z key i = s4 := by
          unfold smF
          rw [← dig_byte H0.out.2.1 hlt, ← HQ2.out.1, ← HQ2.out.2.1, ← hx, hx1, ha1]
          unfold nmF
          dsimp only
          rw [show 16 + i = ki by omega, ← hk, hs4]
        have e5 : smF z key i + gO 256 0 (smF z key) i = s5 := by rw [es, ← ho, hs5]
        refine ⟨?_, ?_⟩
        · apply BitVec.eq_of_toNat_eq
          have h1 := sm_byte z key hlt
          have h2 := byF_num (val 65536 9 z + sK key) i
          rw [← H0.out.2.2, ← h1] at h2
          have h3 : gD 256 0 (smF z key) i = s5 % 256 := by show (smF z key i + gO 256 0 (smF z key) i) % 256 = _; rw [e5]
          rw [h3, mb] at h2
          omega
        · show o2 = (smF z key i + gO 256 0 (smF z key) i) / 256
          rw [e5, ho2]
      clear hx hk hx3 hz0 bx bk hsm bx1 hb ho
      go_upto_region 30 with fail
      go_cut [15] from 115 to 131 (fun v15 wc => v15 = .int .u64 s5 ∧ ∃ m, wc = wr.drewN m)
      case first =>
        refine wp_region_noPanic ?_
        go_region_with (fail)
        all_goals refine NoPanic.normal ?_
        all_goals go_wp2_with fail
        all_goals go_meet
        all_goals
          refine ⟨?_, 1, rfl⟩
          first
            | rfl
            | rw [wk, hs4, ws4, hs5, ws5]
            | rw [hs4, hs5]
      obtain ⟨rfl, nm, hwc⟩ := hcut
      have Z2 : Hid (RZ w wc key r z AB O (upTo i F zB)) := by rw [hwc]; exact Z.out.drewN nm
      have c4 := (Z2.out.out.cell i).trans (ba_get 16 _ hlt)
      have f4 := Z2.out.out.frozen i
      obtain ⟨x4, hx4⟩ : ∃ x4, x4 = upTo i F zB i := ⟨_, rfl⟩
      rw [← hx4] at c4
      obtain ⟨w2, hw2⟩ : ∃ w2, w2 = wc := ⟨_, rfl⟩
      rw [← hw2] at Z2 c4 f4 ⊢
      clear hwc hw2 wc Z c1 c2 c3 f3 hx4
      go_wp2_with fail
      go_roundw
      case rel =>
        refine ⟨i + 1, by go_num, by omega, by rw [HE.out.2], ?_⟩
        have hh := Z2.out.set i b
        rw [HE.out.1, upTo_upd, ← HE.out.1] at hh
        exact hh
      case measure => simp [intOf]; omega
    · have : i = 16 := by omega
      subst this
      have ho2 := hz0.out
      rw [upTo_all] at ho2
      have HE : Hid (RZ w wr key r z AB O F) := ⟨hz0.y, hz0.a, ho2, hz0.la, hz0.lt⟩
      clear hz0 Z ho2 ho
      go_wp2
      exact HQ.out _ _ _ _ _ _ _ _ _ _ _ _ _ _ _ _ _ _ _ _ _ _ _ _ _ _ _ _ _ _ _ HE.out
end Go.Proofs.YtobglgddbhddnaaGreat.Cha

namespace Go.Proofs.YtobglgddbhddnaaGreat.Cha
open Go.RowKit
set_option linter.unusedVariables false

/-- One piece more: the digits are within their bounds, the value is the document's. -/
theorem ref_nx {key txt f : Nat → By} {a : Nat → Int} {n m l : Nat} (ha : D16 9 a) (hl : l = pcL n m) (hf : ∀ j, f j = txt (16 * m + j)) (hv : val 65536 9 a % (1361129467683753853853498429727072845819 : Int) = pac (rK key) txt n m) :
    (∀ i, i < 9 → 0 ≤ updI (addF a (gF f l)) (l / 2) (addF a (gF f l) (l / 2) + 2 ^ (8 * (l % 2))) i ∧ updI (addF a (gF f l)) (l / 2) (addF a (gF f l) (l / 2) + 2 ^ (8 * (l % 2))) i ≤ 131072) ∧ D16 8 (gF (clF key) 16) ∧
    val 65536 9 (updI (addF a (gF f l)) (l / 2) (addF a (gF f l) (l / 2) + 2 ^ (8 * (l % 2)))) * val 65536 8 (gF (clF key) 16) % (1361129467683753853853498429727072845819 : Int) = pac (rK key) txt n (m + 1) := by
  have hl16 : l ≤ 16 := by rw [hl]; unfold pcL; omega
  have hg := gF_le f l
  refine ⟨fun i hi => ?_, fun i hi => (gF_le (clF key) 16 i).1, ?_⟩
  · have h1 := ha i hi
    have h2 := hg i
    unfold updI
    split
    · rename_i e
      subst e
      unfold addF
      rcases Nat.mod_two_eq_zero_or_one l with h | h <;> rw [h]
      · have := h2.2.2.2 h rfl
        simp only [Nat.mul_zero, Int.pow_zero]
        omega
      · have := h2.2.2.1 rfl
        simp only [Nat.mul_one, Int.reducePow]
        omega
    · unfold addF
      omega
  · rw [val_upd_in _ _ (show l / 2 < 9 by omega)]
    have e1 : val 65536 9 (addF a (gF f l)) = val 65536 9 a + val 256 l (nmF f) := by
      rw [← gF_val f 9 l (by omega)]
      exact val_add 9 _ _
    have e2 : (addF a (gF f l) (l / 2) + 2 ^ (8 * (l % 2)) - addF a (gF f l) (l / 2)) * 65536 ^ (l / 2) = 256 ^ l := by
      rw [← pow_16 l]
      congr 1
      omega
    have e3 : val 65536 8 (gF (clF key) 16) = rK key := gF_val (clF key) 8 16 (by decide)
    rw [e1, e2, e3]
    show _ = (pac (rK key) txt n m + pcN txt n m) * rK key % _
    have e4 : pcN txt n m = val 256 l (nmF f) + 256 ^ l := by
      unfold pcN
      rw [← hl]
      congr 1
      exact val_congr fun i _ => by unfold nmF; rw [hf i]
    rw [e4, ← hv]
    rw [Int.add_assoc, Int.mul_emod, Int.add_emod]
    conv => rhs; rw [Int.mul_emod, Int.add_emod, Int.emod_emod]

set_option maxRecDepth 100000 in
set_option maxHeartbeats 8000000 in
theorem refPoly_any (n cap : Nat) (ao : Option Addr) (key txt : Nat → By) (w : World) (hv : Ap.Rd w (.slice ao n cap) (nums n txt)) (hn' : n ≤ 281474976710656) :
    Calls Tryz.prog 33 #[.agg (ba 32 key), .slice ao n cap] w fun r w' => r = .returned (.agg (ba 16 (polF key txt n))) ∧ Chg w w' := by
  obtain ⟨A, hA⟩ : ∃ A, A = ba 32 key := ⟨_, rfl⟩
  have hsA : A.size = 32 := by rw [hA]; exact ba_size _ _
  have HA : Hid (A = ba 32 key) := hA
  rw [← hA]
  have HX : Hid (Ap.Rd w (.slice ao n cap) (nums n txt) ∧ n ≤ 281474976710656) := ⟨hv, hn'⟩
  clear hA hv
  have hz := zero57.1
  have hz2 := zero32.1
  have hz3 := zero58.1
  go_enter Tryz.func33, Tryz.ntmps33
  go_upto_region 2 with fail
  obtain ⟨w3, hw3⟩ : ∃ w3, w3 = (((w.alloc (.cells A 40)).alloc (.cells (ba 16 zB) 62)).alloc (.cells (arr .u64 8 zI) 87)) := ⟨_, rfl⟩
  have Z3 : Hid (RY w w3 key (gF (clF key) 0)) := by
    rw [hw3, HA.out]
    exact ⟨(((Chg.refl w).alloc _).alloc _).alloc _, ((Ar.new w _ _).alloc _).alloc _, (Ar.new1 w _ _ _).alloc _, Ar.new2 w _ _ _ _⟩
  rw [← hw3]
  clear hw3 hsA
  go_upto_block 0 with fail
  refine ry1_any Z3.out ?_
  intro u6 u7 u16 u17 u18 u19 u20 u21 u22 u23 u24 u25 u26 u27 u28 u29 u30 u31 u32 u33 u34 u35 u36 u37 u38 u39 u40 u41 u42 u43 u44 u45 u46 u47 u48 u49 u50 w4 h4
  obtain ⟨r, hr⟩ : ∃ r, r = gF (clF key) 16 := ⟨_, rfl⟩
  rw [← hr] at h4
  have Z4 : Hid (RY w w4 key r) := h4
  have HR : Hid (r = gF (clF key) 16) := hr
  clear h4 hr Z3
  go_upto_region 12 with fail
  obtain ⟨AB, hAB⟩ : ∃ AB, AB = w4.heap.size := ⟨_, rfl⟩
  obtain ⟨w5, hw5⟩ : ∃ w5, w5 = w4.alloc (.cells (arr .u64 9 zI) 88) := ⟨_, rfl⟩
  have Z5 : Hid ((RY w w5 key r ∧ Ar w5 AB (arr .u64 9 zI)) ∧ w.heap.size + 1 + 1 < AB) := by
    have k := Z4.out
    have e := k.r.lt
    rw [hw5, hAB]
    exact ⟨⟨k.to ((Chg.refl w4).alloc _), Ar.new w4 _ _⟩, e⟩
  have HL : Hid (w.heap.size + 1 + 1 < AB) := Z5.out.2
  rw [← hw5, ← hAB]
  clear hw5 hAB Z4
  go_wp2_with fail
  go_loopw [9] (fun v9 wr => ∃ (m : Nat) (a : Nat → Int), v9 = .int .i64 ((16 * m : Nat) : Int) ∧ 16 * m ≤ n + 15 ∧ (RY w wr key r ∧ Ar wr AB (arr .u64 9 a)) ∧ D16 9 a ∧ val 65536 9 a < 2722258935367507707706996859454145691648 ∧ val 65536 9 a % (1361129467683753853853498429727072845819 : Int) = pac (rK key) txt n m) (fun v9 wr => n + 15 - (intOf v9).toNat)
  case atStart => exact ⟨0, zI, rfl, by omega, Z5.out.1, fun i _ => by unfold zI; omega, by rw [show val 65536 9 zI = 0 from val_zero 9]; decide, by rw [show val 65536 9 zI = 0 from val_zero 9]; rfl⟩
  case round =>
    clear Z5
    obtain ⟨m, a, rfl, hm, hz4, had, hvl, hva⟩ := hrel
    have Z : Hid (RY w wr key r ∧ Ar wr AB (arr .u64 9 a)) := hz4
    have HV : Hid (D16 9 a ∧ val 65536 9 a < 2722258935367507707706996859454145691648 ∧ val 65536 9 a % (1361129467683753853853498429727072845819 : Int) = pac (rK key) txt n m) := ⟨had, hvl, hva⟩
    clear hz4 had hvl hva
    obtain ⟨fr, hfr⟩ : ∃ fr : Nat, fr = 16 * m := ⟨_, rfl⟩
    rw [← hfr]
    have HFR : Hid (fr = 16 * m) := hfr
    have hfn : fr ≤ n + 15 := by omega
    clear hfr hm
    by_cases hlt : fr < n
    · have hd : decide ((fr : Int) < n) = true := by simp; omega
      obtain ⟨tb, tt, tc, hv, hc1, hc2, hbs⟩ := Rd.bs HX.out.1 (by omega)
      injection hv with hv1 hv2 hv3
      subst hv1 hv3
      clear hv2
      obtain ⟨l, hl⟩ : ∃ l, l = pcL n m := ⟨_, rfl⟩
      obtain ⟨f, hf⟩ : ∃ f : Nat → By, f = fun j => txt (fr + j) := ⟨_, rfl⟩
      have HLl : Hid (l = pcL n m ∧ l = min 16 (n - fr) ∧ l ≤ 16 ∧ 0 < l) := by
        have := HFR.out
        unfold pcL at hl
        show _ ∧ _ ∧ _ ∧ _
        unfold pcL
        omega
      have HFf : Hid (∀ j, f j = txt (fr + j)) := fun j => by rw [hf]
      have HNX := (show Hid (_) from ref_nx (key := key) (txt := txt) (f := f) HV.out.1 hl (fun j => by rw [hf, HFR.out]) HV.out.2.2)
      have HBS : Hid (Bs w tb tt n txt) := hbs
      have hn48 := HX.out.2
      clear hl hf hbs
      go_upto_block 4 with fail
      refine ry2_any Z.out.1 Z.out.2 HL.out HBS.out HV.out.1 HFf.out HLl.out.2.1 hlt HX.out.2 ?_
      intro u10 u57 u58 u59 u60 u61 u62 u63 u64 u65 u66 u67 u68 u69 u70 u71 u72 u73 u74 u75 u76 u77 u78 u79 u80 u81 u82 u83 u84 u85 u86 u87 w6 h6
      obtain ⟨a1, ha1⟩ : ∃ a1, a1 = addF a (gF f l) := ⟨_, rfl⟩
      rw [← ha1] at h6
      have Z6 : Hid (RY w w6 key r ∧ Ar w6 AB (arr .u64 9 a1)) := h6
      have HA1 : Hid (a1 = addF a (gF f l)) := ha1
      clear h6 ha1 Z
      obtain ⟨rest, hrest⟩ : ∃ rest : Nat, (n : Int) - fr = rest := ⟨n - fr, by omega⟩
      have wrest := wrap_i (x := (rest : Int)) (by omega) (by omega)
      obtain ⟨bb, hbb⟩ : ∃ bb : Bool, decide ((rest : Int) > 16) = bb := ⟨_, rfl⟩
      have hbb' : decide ((16 : Int) < rest) = bb := hbb
      have HBB : Hid (bb = true ↔ 16 < rest) := by
        show _ ↔ _
        rw [← hbb, decide_eq_true_eq]
        omega
      have HRE : Hid (rest = n - fr) := by show rest = _; omega
      go_upto_if 93 with fail
      go_cut [11] from 94 to 94 (fun v11 wc => v11 = .int .i64 (l : Int) ∧ wc = w6)
      case first =>
        cases bb with
        | true =>
          have H1 : Hid (16 < rest) := HBB.out.1 rfl
          go_wp2_with fail
          go_meet
          have h1 := H1.out
          have h2 := HRE.out
          have h3 := HLl.out
          refine ⟨?_, rfl⟩
          congr 1
          omega
        | false =>
          have h1 : ¬ 16 < rest := fun h => by cases HBB.out.2 h
          go_wp2_with fail
          go_meet
          have h2 := HRE.out
          have h3 := HLl.out
          refine ⟨?_, rfl⟩
          congr 1
          omega
      obtain ⟨rfl, hwc⟩ := hcut
      rw [hwc]
      clear hwc wc
      obtain ⟨q, r2, s, e1, e2, e3, v1, v2, v3, ls, ls', HQ2⟩ := dm2 l (by have := HLl.out; omega)
      have lq : (q : Int) < 9 := by have := HQ2.out.1; have := HLl.out; omega
      have c1 := (Z6.out.2.cell q).trans (arr_get .u64 9 _ (by omega))
      have f1 := Z6.out.2.frozen q
      obtain ⟨x, hx⟩ : ∃ x, x = a1 q := ⟨_, rfl⟩
      rw [← hx] at c1
      obtain ⟨a2, ha2⟩ : ∃ a2, a2 = updI a1 q (x + 2 ^ s) := ⟨_, rfl⟩
      have HA2 : Hid (a2 = updI (addF a (gF f l)) (l / 2) (addF a (gF f l) (l / 2) + 2 ^ (8 * (l % 2)))) := by
        show a2 = _
        rw [ha2, hx, ← HQ2.out.1, ← HQ2.out.2.1, HA1.out]
      have bx : 0 ≤ x ∧ x ≤ 131072 := by
        have h1 := HV.out.1 q (by omega)
        have h2 := (gF_le f l q).1
        rw [hx, HA1.out]
        unfold addF
        omega
      obtain ⟨y, hy⟩ : ∃ y : Int, (2 : Int) ^ s = y := ⟨_, rfl⟩
      have by0 : 0 ≤ y ∧ y ≤ 256 := by
        rcases HQ2.out.2.2 with ⟨_, h⟩ | ⟨_, h⟩ <;> rw [h] at hy <;> omega
      have wy := wrap_u (x := y) (by omega) (by omega)
      have my : y % 18446744073709551616 = y := by omega
      obtain ⟨g, hg⟩ : ∃ g, x + y = g := ⟨_, rfl⟩
      have wg := wrap_u (x := g) (by omega) (by omega)
      have HG : Hid (updI a1 q g = a2) := by show _ = _; rw [ha2, ← hg, hy]
      clear hx ha2 bx by0
      go_upto_region 22 with fail
      go_cut [] from 94 to 105 (fun wc => RY w wc key r ∧ Ar wc AB (arr .u64 9 a2))
      case first =>
        go_region_with (fail)
        all_goals go_wp2_with fail
        all_goals go_meet
        all_goals
          have hh := Z6.out.2.set q (.int .u64 g)
          rw [arr_set, upd_updI, HG.out] at hh
          refine ⟨(Z6.out.1.other HL.out q _).drew, ?_⟩
          first
            | exact hh.drew
            | (rw [hy, my, hg, wg]; exact hh.drew)
            | (rw [hy, my, hg]; exact hh.drew)
            | (rw [hy, wy, hg, wg]; exact hh.drew)
            | (rw [hy, hg, wg]; exact hh.drew)
            | (rw [hy, hg]; exact hh.drew)
      have Z7 : Hid (RY w wc key r ∧ Ar wc AB (arr .u64 9 a2)) := hcut
      obtain ⟨w7, hw7⟩ : ∃ w7, w7 = wc := ⟨_, rfl⟩
      rw [← hw7] at Z7 ⊢
      clear hcut hw7 wc Z6 c1 f1
      obtain ⟨a3, ha3⟩ : ∃ a3, a3 = poF a2 r := ⟨_, rfl⟩
      have HNX2 : Hid ((∀ i, i < 9 → 0 ≤ a2 i ∧ a2 i ≤ 131072) ∧ D16 8 r ∧ val 65536 9 a2 * val 65536 8 r % (1361129467683753853853498429727072845819 : Int) = pac (rK key) txt n (m + 1)) := by
        rw [HA2.out, HR.out]
        exact HNX.out
      have HPO := (show Hid (_) from po_ok HNX2.out.1 HNX2.out.2.1)
      have HC : Hid (∀ u, Calls Tryz.prog 51 #[.agg (arr .u64 9 a2), .agg (arr .u64 8 r)] u fun r' w' => r' = .returned (.agg (arr .u64 9 a3)) ∧ Chg u w') := by
        rw [ha3]
        exact fun u => refProduct_any a2 r u HNX2.out.1 HNX2.out.2.1
      have HA3 : Hid (D16 9 a3 ∧ val 65536 9 a3 < 2722258935367507707706996859454145691648 ∧ val 65536 9 a3 % (1361129467683753853853498429727072845819 : Int) = pac (rK key) txt n (m + 1)) := by
        have h := HPO.out
        rw [ha3]
        refine ⟨fun i hi => h.2.2.1 i (by omega), ?_, ?_⟩
        · have p131 : (2 : Int) ^ 131 = 2722258935367507707706996859454145691648 := by decide
          rw [← p131]
          exact h.2.2.2.2
        · rw [h.2.2.2.1, HNX2.out.2.2]
      obtain ⟨t7, g7⟩ := Z7.out.2
      obtain ⟨t8, g8⟩ := Z7.out.1.r
      have hsz2 := szI a2 i58
      have hszr := szI r i57
      clear ha3
      go_wp2_with (first | refine wpList_load_row rfl 88 _ rfl _ rfl _ _ _ _ g7 und58 rfl hsz2 ?_ | refine wpList_load_row rfl 87 _ rfl _ rfl _ _ _ _ g8 und57 rfl hszr ?_)
      go_at_call 51
      refine (HC.out _).mono ?_
      rintro r8 w8 ⟨rfl, hc8⟩
      have Z8 : Hid (RY w w8 key r ∧ Ar w8 AB (arr .u64 9 a2)) := ⟨Z7.out.1.to hc8, Z7.out.2.chg hc8⟩
      obtain ⟨t9, g9⟩ := Z8.out.2
      have hsz3 := szI a3 i58
      have hlen3 := lenI 9 a2 a3
      have hone3 := arr_one .u64 9 a3
      clear hc8 g7 g8 Z7 HC hsz2 hszr
      go_wp2_with (first | refine wpList_store_row rfl 88 _ _ rfl _ _ rfl rfl _ _ g9 hsz3 hlen3 hone3 ?_)
      go_roundw
      case rel =>
        have hf' := HFR.out
        refine ⟨m + 1, a3, by rw [hf']; go_num, by omega, ⟨Z8.out.1.rowOther HL.out _, Z8.out.2.row _⟩, HA3.out⟩
      case measure => simp [intOf]; omega
    · have hd : decide ((fr : Int) < n) = false := by simp; omega
      have HM : Hid (m = (n + 15) / 16) := by have := HFR.out; show m = _; omega
      have HC : Hid (∀ u, Calls Tryz.prog 52 #[.agg (arr .u64 9 a)] u fun r w' => ∃ z, r = .returned (.agg (arr .u64 9 z)) ∧ D16 9 z ∧ val 65536 9 z = val 65536 9 a % 1361129467683753853853498429727072845819 ∧ Chg u w') := fun u => ended_any a u HV.out.1 HV.out.2.1
      obtain ⟨t7, g7⟩ := Z.out.2
      have hsz2 := szI a i58
      go_wp2_with (first | refine wpList_load_row rfl 88 _ rfl _ rfl _ _ _ _ g7 und58 rfl hsz2 ?_)
      go_at_call 52
      refine (HC.out _).mono ?_
      rintro r8 w8 ⟨z, rfl, hzd, hzv, hc8⟩
      have Z8 : Hid (RY w w8 key r ∧ Ar w8 AB (arr .u64 9 a)) := ⟨Z.out.1.to hc8, Z.out.2.chg hc8⟩
      have HZ : Hid (D16 9 z ∧ val 65536 9 z = pac (rK key) txt n ((n + 15) / 16)) := ⟨hzd, by rw [hzv, HV.out.2.2, ← HM.out]⟩
      obtain ⟨t9, g9⟩ := Z8.out.2
      have hsz3 := szI z i58
      have hlen3 := lenI 9 a z
      have hone3 := arr_one .u64 9 z
      clear hc8 g7 Z HC hsz2 hzd hzv
      go_upto_region 25 with (first | refine wpList_store_row rfl 88 _ _ rfl _ _ rfl rfl _ _ g9 hsz3 hlen3 hone3 ?_)
      obtain ⟨w9, hw9⟩ : ∃ w9, w9 = w8.setRow AB (arr .u64 9 z) := ⟨_, rfl⟩
      have Z9 : Hid (RY w w9 key r ∧ Ar w9 AB (arr .u64 9 z)) := by rw [hw9]; exact ⟨Z8.out.1.rowOther HL.out _, Z8.out.2.row _⟩
      rw [← hw9]
      clear hw9 g9 Z8 hsz3 hlen3 hone3
      try dsimp only [Act.put]
      go_upto_region 26 with fail
      obtain ⟨O, hO⟩ : ∃ O, O = w9.heap.size := ⟨_, rfl⟩
      obtain ⟨w10, hw10⟩ : ∃ w10, w10 = w9.alloc (.cells (ba 16 zB) 62) := ⟨_, rfl⟩
      have Z10 : Hid (RZ w w10 key r z AB O zB) := by
        have k := Z9.out
        have e := k.2.lt
        rw [hw10, hO]
        exact ⟨k.1.to ((Chg.refl w9).alloc _), k.2.alloc _, Ar.new w9 _ _, HL.out, e⟩
      rw [← hw10, ← hO]
      clear hw10 hO Z9 hz hz2 hz3
      obtain ⟨F, hF⟩ : ∃ F, F = byF (val 65536 9 z + sK key) := ⟨_, rfl⟩
      have HF : Hid (F = polF key txt n) := by show F = _; rw [hF, HZ.out.2]; rfl
      go_upto_block 6 with fail
      refine ry3_any Z10.out HZ.out.1 hF ?_
      intro u13 u14 u15 u111 u112 u113 u114 u115 u116 u117 u118 u119 u120 u121 u122 u123 u124 u125 u126 u127 u128 u129 u130 u131 u132 u133 u134 u135 u136 u137 w11 h11
      have HO : Hid (Chg w w11 ∧ Ar w11 (w.heap.size + 1) (ba 16 zB)) := ⟨h11.y.chg, h11.y.res⟩
      obtain ⟨t1, g1⟩ := h11.out
      obtain ⟨t3, g3⟩ := HO.out.2
      clear h11 Z10 hF
      have hsz := szB F i32
      have hlen := lenB 16 zB F
      have hone := ba_one 16 F
      go_wp2_with (first | refine wpList_load_row rfl 62 _ rfl _ rfl _ _ _ _ g1 und32 rfl hsz ?_ | refine wpList_store_row rfl 62 _ _ rfl _ _ rfl rfl _ _ g3 hsz hlen hone ?_)
      refine bp_c (n := 16) (c := ba 16 F) Tryz.results33 rfl rfl ?_ und32 i32 (ba_size _ _) ⟨by rw [HF.out], ?_⟩
      · exact HO.out.2.row _
      · exact HO.out.1.setRow (by omega) _
end Go.Proofs.YtobglgddbhddnaaGreat.Cha
