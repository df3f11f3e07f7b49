/-
  The document's Encrypt: a round key.
  The document's Encrypt.
  The document's stream: bytes XORed with the blocks that a counter counts.
-/
import Derived.Test.YtobglgddbhddnaaGreatJ13
import Derived.Test.YtobglgddbhddnaaGreatJ14
import Derived.Test.YtobglgddbhddnaaGreatJ07
import Derived.Deep.RegionLaw
namespace Go.Proofs.YtobglgddbhddnaaGreat
open Go.RowKit
set_option linter.unusedVariables false

set_option maxRecDepth 100000 in
set_option maxHeartbeats 8000000 in
/-- A block XOR a round key. -/
theorem re8_any {Q : Exit → Act → World → Prop} {t1 t2 t4 t5 t8 t9 t10 t11 t12 t13 t14 t16 t17 t18 t19 t20 t21 t22 t23 t24 t25 t26 t27 t28 t29 t30 t31 t32 t33 t34 t35 t36 t37 t38 t39 t40 t41 t42 t43 t44 t45 t46 t47 t48 t49 t50 t51 t52 t53 t54 t55 t56 t57 t58 t59 t60 t61 t62 t63 t64 t65 t66 t67 t68 t69 t70 t71 t72 t73 t74 t75 t76 t77 t78 t79 t80 t81 t82 t83 t84 t85 t86 t87 t88 t89 t90 t91 t92 t93 t94 t95 t96 t97 t98 t99 t100 t101 t102 t103 t104 t105 t106 t107 t108 t109 t110 t111 t112 t113 t114 t115 t116 t117 t118 t119 t120 t121 t122 t123 t124 t125 t126 t127 t128 t129 t130 t131 t132 t133 t134 t135 t136 t137 t138 t139 t140 t141 t142 t143 : Value} {K R cb q : Nat} {k f g : Nat → By} {w0 w : World} (h : RE w0 w K R k f) (hc : Ar w cb (ba 16 g)) (hcb : w0.heap.size + 1 < cb) (hq : q < 15)
    (hQ : ∀ (u15 u125 u126 u127 u128 u129 u130 u131 u132 u133 u134 u135 u136 u137 u138 u139 u140 u141 u142 : Value) (w' : World), RE w0 w' K R k (xr g (rk k q)) ∧ Ar w' cb (ba 16 g) → Q .normal ⟨#[.pointer (some ⟨K, 0, none⟩), t1, t2, .pointer (some ⟨w0.heap.size, 0, none⟩), t4, t5, .int .i64 (q : Int), .pointer (some ⟨cb, 0, none⟩), t8, t9, t10, t11, t12, t13, t14, u15, t16, t17, t18, t19, t20, t21, t22, t23, t24, t25, t26, t27, t28, t29, t30, t31, t32, t33, t34, t35, t36, t37, t38, t39, t40, t41, t42, t43, t44, t45, t46, t47, t48, t49, t50, t51, t52, t53, t54, t55, t56, t57, t58, t59, t60, t61, t62, t63, t64, t65, t66, t67, t68, t69, t70, t71, t72, t73, t74, t75, t76, t77, t78, t79, t80, t81, t82, t83, t84, t85, t86, t87, t88, t89, t90, t91, t92, t93, t94, t95, t96, t97, t98, t99, t100, t101, t102, t103, t104, t105, t106, t107, t108, t109, t110, t111, t112, t113, t114, t115, t116, t117, t118, t119, t120, t121, t122, t123, t124, u125, u126, u127, u128, u129, u130, u131, u132, u133, u134, u135, u136, u137, u138, u139, u140, u141, u142, t143], []⟩ w') :
    (blk Tryz.f39 14).wp Tryz.prog Q ⟨#[.pointer (some ⟨K, 0, none⟩), t1, t2, .pointer (some ⟨w0.heap.size, 0, none⟩), t4, t5, .int .i64 (q : Int), .pointer (some ⟨cb, 0, none⟩), t8, t9, t10, t11, t12, t13, t14, .int .i64 0, t16, t17, t18, t19, t20, t21, t22, t23, t24, t25, t26, t27, t28, t29, t30, t31, t32, t33, t34, t35, t36, t37, t38, t39, t40, t41, t42, t43, t44, t45, t46, t47, t48, t49, t50, t51, t52, t53, t54, t55, t56, t57, t58, t59, t60, t61, t62, t63, t64, t65, t66, t67, t68, t69, t70, t71, t72, t73, t74, t75, t76, t77, t78, t79, t80, t81, t82, t83, t84, t85, t86, t87, t88, t89, t90, t91, t92, t93, t94, t95, t96, t97, t98, t99, t100, t101, t102, t103, t104, t105, t106, t107, t108, t109, t110, t111, t112, t113, t114, t115, t116, t117, t118, t119, t120, t121, t122, t123, t124, t125, t126, t127, t128, t129, t130, t131, t132, t133, t134, t135, t136, t137, t138, t139, t140, t141, t142, t143], []⟩ w := by
  show Code.wp Tryz.prog (Code.block _ (Code.loop _)) Q _ _
  have HQ := (show Hid (∀ (u15 u125 u126 u127 u128 u129 u130 u131 u132 u133 u134 u135 u136 u137 u138 u139 u140 u141 u142 : Value) (w' : World), RE w0 w' K R k (xr g (rk k q)) ∧ Ar w' cb (ba 16 g) → Q .normal ⟨#[.pointer (some ⟨K, 0, none⟩), t1, t2, .pointer (some ⟨w0.heap.size, 0, none⟩), t4, t5, .int .i64 (q : Int), .pointer (some ⟨cb, 0, none⟩), t8, t9, t10, t11, t12, t13, t14, u15, t16, t17, t18, t19, t20, t21, t22, t23, t24, t25, t26, t27, t28, t29, t30, t31, t32, t33, t34, t35, t36, t37, t38, t39, t40, t41, t42, t43, t44, t45, t46, t47, t48, t49, t50, t51, t52, t53, t54, t55, t56, t57, t58, t59, t60, t61, t62, t63, t64, t65, t66, t67, t68, t69, t70, t71, t72, t73, t74, t75, t76, t77, t78, t79, t80, t81, t82, t83, t84, t85, t86, t87, t88, t89, t90, t91, t92, t93, t94, t95, t96, t97, t98, t99, t100, t101, t102, t103, t104, t105, t106, t107, t108, t109, t110, t111, t112, t113, t114, t115, t116, t117, t118, t119, t120, t121, t122, t123, t124, u125, u126, u127, u128, u129, u130, u131, u132, u133, u134, u135, u136, u137, u138, u139, u140, u141, u142, t143], []⟩ w') from hQ)
  clear hQ
  have H0 : Hid (RE w0 w K R k f ∧ Ar w cb (ba 16 g) ∧ w0.heap.size + 1 < cb ∧ q < 15) := ⟨h, hc, hcb, hq⟩
  have hq15 : (q : Int) < 15 := by omega
  clear h hc hcb hq
  go_wp2_with fail
  go_loopw [15] (fun v wr => ∃ (i : Nat), v = .int .i64 i ∧ i ≤ 16 ∧ RE w0 wr K R k (upTo i (xr g (rk k q)) f) ∧ Ar wr cb (ba 16 g)) (fun v wr => 16 - (intOf v).toNat)
  case atStart => exact ⟨0, rfl, by omega, by rw [upTo_zero]; exact H0.out.1, H0.out.2.1⟩
  case round =>
    obtain ⟨i, rfl, hi, hz, hc⟩ := hrel
    have H : Hid (RE w0 wr K R k (upTo i (xr g (rk k q)) f) ∧ Ar wr cb (ba 16 g)) := ⟨hz, hc⟩
    by_cases h16 : i < 16
    · have hd : decide ((i : Int) < 16) = true := by simp; omega
      have li : (i : Int) < 16 := by omega
      have c0 := (hz.b.cell i).trans (ba_get 16 _ h16)
      have f1 := hz.b.frozen i
      have c1 := (hc.cell i).trans (ba_get 16 _ h16)
      have c2 := rkK hz.key (j := q * 16 + i) (by have := H0.out.2.2.2; omega)
      obtain ⟨x, hx⟩ : ∃ x, x = g i := ⟨_, rfl⟩
      obtain ⟨y, hy⟩ : ∃ y, y = k (q * 16 + i) := ⟨_, rfl⟩
      obtain ⟨x0, hx0⟩ : ∃ x, x = upTo i (xr g (rk k q)) f i := ⟨_, rfl⟩
      rw [← hx] at c1
      rw [← hy] at c2
      rw [← hx0] at c0
      obtain ⟨z, Hz, ez⟩ := nameXor x y
      have HX : Hid (z = xr g (rk k q) i) := by show z = _; rw [Hz.out, hx, hy, xr, rk, Nat.mul_comm]
      clear hx hy hx0 hz hc Hz
      go_wp2_with fail
      refine wp_region_noPanic ?_
      go_region_with (fail)
      all_goals refine NoPanic.normal ?_
      all_goals go_wp2
      all_goals
        go_roundw
        case rel =>
          have hlt := H0.out.2.2.1
          refine ⟨i + 1, by go_num, by omega, ?_, (H.out.2.other (by dsimp only; omega) _).drew⟩
          have hh := H.out.1.set i z
          rw [HX.out, upTo_upd i (xr g (rk k q)) f, ← HX.out] at hh
          exact hh
        case measure => simp [intOf]; omega
    · have : i = 16 := by omega
      subst this
      have HE : Hid (RE w0 wr K R k (xr g (rk k q)) ∧ Ar wr cb (ba 16 g)) := ⟨⟨hz.key0, hz.chg, by have := hz.b; rwa [upTo_all] at this, hz.out⟩, hc⟩
      clear hz hc
      go_wp2
      exact HQ.out _ _ _ _ _ _ _ _ _ _ _ _ _ _ _ _ _ _ _ _  HE.out
end Go.Proofs.YtobglgddbhddnaaGreat

namespace Go.Proofs.YtobglgddbhddnaaGreat
open Go.RowKit
set_option linter.unusedVariables false

theorem reS_next {R m : Nat} {k b : Nat → By} (h : m + 1 < R) : xr (mc (mv (rnds k b m))) (rk k (m + 1)) = rnds k b (m + 1) := rfl

/-- The block behind so many rounds. -/
def reS (R : Nat) (k b : Nat → By) (m : Nat) : Nat → By := if m = R then enc R k b else rnds k b m

set_option maxRecDepth 100000 in
set_option maxHeartbeats 8000000 in
theorem refEncrypt_any (K R : Nat) (k b : Nat → By) (w : World) (hK : Ar w K (rkeyC R k)) (hR : R = 10 ∨ R = 14) :
    Calls Tryz.prog 39 #[.pointer (some ⟨K, 0, none⟩), .agg (ba 16 b)] w fun r w' => r = .returned (.agg (ba 16 (enc R k b))) ∧ Chg w w' := by
  have hsA := ba_size 16 b
  obtain ⟨A, hA⟩ : ∃ A, A = ba 16 b := ⟨_, rfl⟩
  have HA : Hid (A = ba 16 b) := hA
  rw [← hA] at hsA ⊢
  have HK : Hid (Ar w K (rkeyC R k) ∧ (R = 10 ∨ R = 14)) := ⟨hK, hR⟩
  have hR1 : 1 ≤ R ∧ R < 15 := by omega
  clear hA hK hR
  have hz := zero32.1
  go_enter Tryz.func39, Tryz.ntmps39
  go_upto_block 0 with fail
  obtain ⟨w1, hw1⟩ : ∃ w1, w1 = (w.alloc (.cells A 62)).alloc (.cells (ba 16 zB) 62) := ⟨_, rfl⟩
  have Z1 : Hid (RE w w1 K R k b) := by
    rw [hw1, HA.out]
    exact ⟨HK.out.1, ((Chg.refl w).alloc _).alloc _, (Ar.new w _ _).alloc _, Ar.new1 w _ _ _⟩
  rw [← hw1]
  clear hw1 hsA
  refine re1_any Z1.out ?_
  intro p5 p16 p17 p18 p19 p20 p21 p22 p23 p24 p25 p26 p27 p28 p29 p30 p31 p32 w2 hz2
  have Z2 : Hid (RE w w2 K R k (reS R k b 0)) := by
    have e : reS R k b 0 = rnds k b 0 := by
      unfold reS
      rw [if_neg (by omega)]
    rw [e]
    exact hz2
  clear hz2 Z1
  go_wp2_with fail
  go_loopw [6] (fun v wr => ∃ (m : Nat), v = .int .i64 ((m + 1 : Nat) : Int) ∧ m ≤ R ∧ RE w wr K R k (reS R k b m)) (fun v wr => R + 1 - (intOf v).toNat)
  case atStart => exact ⟨0, rfl, by omega, Z2.out⟩
  case round =>
    clear Z2
    obtain ⟨m, rfl, hm, hz3⟩ := hrel
    have Z : Hid (RE w wr K R k (reS R k b m)) := hz3
    have c0 := rkR hz3.key
    obtain ⟨q, hq⟩ : ∃ q : Nat, q = m + 1 := ⟨_, rfl⟩
    rw [← hq]
    have HQ : Hid (q = m + 1) := hq
    clear hz3
    by_cases hlt : q ≤ R
    · have hd : decide ((q : Int) ≤ R) = true := by simp; omega
      obtain ⟨f, hf⟩ : ∃ f, f = reS R k b m := ⟨_, rfl⟩
      have HF : Hid (f = rnds k b m) := by
        show f = _
        rw [hf, reS, if_neg (by omega)]
      rw [← hf] at Z
      have hq15 : q < 15 := by omega
      clear hf hq
      go_upto_block 4 with fail
      obtain ⟨cb, hcb⟩ : ∃ cb, cb = wr.heap.size := ⟨_, rfl⟩
      obtain ⟨w3, hw3⟩ : ∃ w3, w3 = wr.alloc (.cells (ba 16 zB) 62) := ⟨_, rfl⟩
      have Z3 : Hid (RE w w3 K R k f ∧ Ar w3 cb (ba 16 zB) ∧ w.heap.size + 1 < cb) := by
        rw [hw3, hcb]
        exact ⟨Z.out.to ((Chg.refl wr).alloc _), Ar.new wr _ _, Z.out.out.lt⟩
      rw [← hw3, ← hcb]
      clear hw3 hcb Z c0
      refine re3_any Z3.out.1 Z3.out.2.1 Z3.out.2.2 ?_
      intro q8 q9 q41 q42 q43 q44 q45 q46 q47 q48 q49 q50 q51 q52 q53 q54 q55 q56 q57 q58 q59 q60 q61 q62 q63 q64 q65 q66 q67 w4 hz4
      have Z4 : Hid (RE w w4 K R k f ∧ Ar w4 cb (ba 16 (mv f)) ∧ w.heap.size + 1 < cb) := ⟨hz4.1, hz4.2, Z3.out.2.2⟩
      have c1 := rkR hz4.1.key
      clear hz4 Z3
      by_cases hlt2 : q < R
      · have hd2 : decide ((q : Int) < R) = true := by simp; omega
        go_upto_block 8 with fail
        refine re5_any Z4.out.1 Z4.out.2.1 Z4.out.2.2 ?_
        intro r10 r11 r12 r13 r14 r74 r75 r76 r77 r78 r79 r80 r81 r82 r83 r84 r85 r86 r87 r88 r89 r90 r91 r92 r93 r94 r95 r96 r97 r98 r99 r100 r101 r102 r103 r104 r105 r106 r107 r108 r109 r110 r111 r112 r113 r114 r115 r116 r117 r118 r119 r120 r121 r122 r123 r124 w5 hz5
        have Z5 : Hid (RE w w5 K R k f ∧ Ar w5 cb (ba 16 (mc (mv f))) ∧ w.heap.size + 1 < cb) := ⟨hz5.1, hz5.2, Z4.out.2.2⟩
        clear hz5 Z4 c1
        go_upto_block 14 with fail
        refine re8_any Z5.out.1 Z5.out.2.1 Z5.out.2.2 hq15 ?_
        intro s15 s125 s126 s127 s128 s129 s130 s131 s132 s133 s134 s135 s136 s137 s138 s139 s140 s141 s142 w6 hz6
        have Z6 : Hid (RE w w6 K R k (xr (mc (mv f)) (rk k q))) := hz6.1
        clear hz6 Z5
        go_wp2_with fail
        go_roundw
        case rel =>
          refine ⟨m + 1, by rw [HQ.out]; go_num, by have := HQ.out; omega, ?_⟩
          have e : reS R k b (m + 1) = xr (mc (mv f)) (rk k q) := by
            have := HQ.out
            unfold reS
            rw [if_neg (by omega), HF.out, HQ.out, rnds]
          rw [e]
          exact Z6.out
        case measure => have := HQ.out; simp [intOf]; omega
      · have hqR : q = R := by omega
        have hd2 : decide ((q : Int) < R) = false := by simp; omega
        go_upto_block 14 with fail
        refine re8_any Z4.out.1 Z4.out.2.1 Z4.out.2.2 hq15 ?_
        intro s15 s125 s126 s127 s128 s129 s130 s131 s132 s133 s134 s135 s136 s137 s138 s139 s140 s141 s142 w6 hz6
        have Z6 : Hid (RE w w6 K R k (xr (mv f) (rk k q))) := hz6.1
        clear hz6 Z4 c1
        go_wp2_with fail
        go_roundw
        case rel =>
          have h1 := HQ.out
          refine ⟨m + 1, by rw [← hqR, HQ.out]; go_num, by omega, ?_⟩
          have e : reS R k b (m + 1) = xr (mv f) (rk k q) := by
            unfold reS
            rw [if_pos (by omega), enc, HF.out, show R - 1 = m by omega, hqR]
          rw [e]
          exact Z6.out
        case measure => have := HQ.out; simp [intOf]; omega
    · have hmR : m = R := by omega
      have hd : decide ((q : Int) ≤ R) = false := by simp; omega
      obtain ⟨g, hg⟩ : ∃ g, g = enc R k b := ⟨_, rfl⟩
      have HG : Hid (g = enc R k b) := hg
      have Zg : Hid (RE w wr K R k g) := by
        have := Z.out
        rw [reS, if_pos hmR, ← hg] at this
        exact this
      obtain ⟨t1, g1⟩ := Zg.out.b
      obtain ⟨t3, g3⟩ := Zg.out.out
      have hsz := szB g zero32.2
      have hlen := lenB 16 zB g
      have hone := ba_one 16 g
      clear hg Z hq
      go_wp2_with (first | refine wpList_load_row rfl 62 _ rfl _ rfl _ _ _ _ g1 und32 rfl hsz ?_ | refine wpList_store_row rfl 62 _ _ rfl _ _ rfl rfl _ _ g3 hsz hlen hone ?_)
      refine bp_c (n := 16) (c := ba 16 g) Tryz.results39 rfl rfl ?_ und32 i32 (ba_size _ _) ⟨by rw [HG.out], ?_⟩
      · exact Zg.out.out.row _
      · exact Zg.out.chg.setRow (by omega) _
end Go.Proofs.YtobglgddbhddnaaGreat

namespace Go.Proofs.YtobglgddbhddnaaGreat
open Go.RowKit
set_option linter.unusedVariables false

theorem step_app {ops : Array Oper} {o : Oper} {a : Act} {w : World} {K : Act → World → Prop} {Q : Exit → Act → World → Prop} {E : Prop}
    (hg : o.guard = none) (s x : Operand) (hop : o.op = Op.call { callee := Callee.builtin Builtin.append, args := #[s, x], argTypes := #[24, 24] })
    (v sv : Value) (xs ys : List Int) (hs : a.eval s = v) (hx : a.eval x = sv) (hv : Ap.OwnV w v xs) (hr : Ap.Rd w sv ys) (hb : xs.length + ys.length ≤ 140737488355328)
    (hK : ∀ v' w', Ap.OwnV w' v' (xs ++ ys) → Ap.Chg (fun k => v.ownBlock = some k) w w' → (v'.ownBlock = v.ownBlock ∨ v'.ownBlock = some w.heap.size) → K (a.put o.dst v') w') :
    if Region.wanted o (yielded ops a.tmps) = true then Oper.wp Tryz.prog o a w K Q else E := by
  have hw : Region.wanted o (yielded ops a.tmps) = true := by simp [Region.wanted, hg]
  rw [if_pos hw]
  obtain ⟨v', w', hrun, r1, r2, r3⟩ := Ap.run_app o.type w v sv xs ys hv hr hb
  unfold Oper.wp
  simp [execOp, hop, resolve, invoke, builtin, hs, hx, hrun, Result.andThen]
  exact hK v' w' r1 r2 r3

/-- What stands while the document streams. -/
structure RS (w wr : World) (R : Nat) (k av txt : Nat → By) (v : Value) (i : Nat) : Prop where
  own : OwnN w wr v (nums i (stF R k av txt))
  a : ∃ f, Ar wr w.heap.size (ba 16 f) ∧ ∀ j, j < 12 → f j = av j
  x : ∃ X, Ar wr (w.heap.size + 1) (ba 16 X) ∧ (i % 16 ≠ 0 → E16 X (enc R k (ctr av (i / 16))))
  ne : ∀ b, v.ownBlock = some b → w.heap.size + 1 < b

theorem q_byte (q : Nat) (d : Nat) (D : Int) (hD : D = (d : Int)) : ∃ b : By, Hid (b = BitVec.ofNat 8 (q / d)) ∧ (q : Int) / D % 256 = (b.toNat : Int) := ⟨_, rfl, by
  rw [BitVec.toNat_ofNat, hD]
  simp⟩

theorem ctr_of {f av : Nat → By} {q m : Nat} (hf : ∀ j, j < 12 → f j = av j) (hq : q % 4294967296 = (num4 av + m) % 4294967296) :
    E16 (updB (updB (updB (updB f 12 (BitVec.ofNat 8 (q / 16777216))) 13 (BitVec.ofNat 8 (q / 65536))) 14 (BitVec.ofNat 8 (q / 256))) 15 (BitVec.ofNat 8 (q / 1))) (ctr av m) := by
  have h := put4_mod av q (num4 av + m) hq
  refine E16.trans (fun j hj => ?_) h
  unfold updB put4
  by_cases h1 : j < 12
  · rw [if_neg (by omega), if_neg (by omega), if_neg (by omega), if_neg (by omega), if_pos h1, hf j h1]
  · rw [if_neg h1]
    have : j = 12 ∨ j = 13 ∨ j = 14 ∨ j = 15 := by omega
    rcases this with rfl | rfl | rfl | rfl <;> rfl

set_option maxRecDepth 100000 in
set_option maxHeartbeats 8000000 in
theorem refStream_any (K R n cap : Nat) (k av txt : Nat → By) (ao : Option Addr) (w : World) (hK : Ar w K (rkeyC R k)) (hR : R = 10 ∨ R = 14) (hv : Ap.Rd w (.slice ao n cap) (nums n txt)) (hn' : n ≤ 140737488351232) :
    Calls Tryz.prog 38 #[.pointer (some ⟨K, 0, none⟩), .agg (ba 16 av), .slice ao n cap] w fun r w' => ∃ v, r = .returned v ∧ OwnN w w' v (nums n (stF R k av txt)) := by
  have hsA := ba_size 16 av
  obtain ⟨A, hA⟩ : ∃ A, A = ba 16 av := ⟨_, rfl⟩
  have HA : Hid (A = ba 16 av) := hA
  rw [← hA] at hsA ⊢
  clear hA
  have HX : Hid (Ar w K (rkeyC R k) ∧ (R = 10 ∨ R = 14) ∧ Ap.Rd w (.slice ao n cap) (nums n txt)) := ⟨hK, hR, hv⟩
  clear hK hR hv
  have hz := zero32.1
  go_enter Tryz.func38, Tryz.ntmps38
  go_upto_region 1 with fail
  obtain ⟨w1, hw1⟩ : ∃ w1, w1 = w.alloc (.cells A 62) := ⟨_, rfl⟩
  have Z1 : Hid (Chg w w1 ∧ Ar w1 w.heap.size (ba 16 av) ∧ w1.heap.size = w.heap.size + 1) := by
    rw [hw1, HA.out]
    exact ⟨(Chg.refl w).alloc _, Ar.new w _ _, by simp⟩
  have c0 := (Z1.out.2.1.cell 12).trans (ba_get 16 av (by decide))
  have c1 := (Z1.out.2.1.cell 13).trans (ba_get 16 av (by decide))
  have c2 := (Z1.out.2.1.cell 14).trans (ba_get 16 av (by decide))
  have c3 := (Z1.out.2.1.cell 15).trans (ba_get 16 av (by decide))
  have hor := or4 (av 12) (av 13) (av 14) (av 15)
  have wb : ∀ x : By, IntKind.u32.wrap ((x.toNat : Int) * 16777216) = (x.toNat : Int) * 16777216 ∧ IntKind.u32.wrap ((x.toNat : Int) * 65536) = (x.toNat : Int) * 65536 ∧ IntKind.u32.wrap ((x.toNat : Int) * 256) = (x.toNat : Int) * 256 ∧ IntKind.u32.wrap (x.toNat : Int) = (x.toNat : Int) := fun x => by
    have := x.isLt
    simp only [IntKind.wrap_u32]
    omega
  have wb0 := wb (av 12)
  have wb1 := wb (av 13)
  have wb2 := wb (av 14)
  have wb3 := wb (av 15)
  have hnum : (((av 12).toNat * 16777216 + (av 13).toNat * 65536 + (av 14).toNat * 256 + (av 15).toNat : Nat) : Int) = (num4 av : Int) := rfl
  rw [hnum] at hor
  obtain ⟨x0, hx0⟩ : ∃ x, x = av 12 := ⟨_, rfl⟩
  obtain ⟨x1, hx1⟩ : ∃ x, x = av 13 := ⟨_, rfl⟩
  obtain ⟨x2, hx2⟩ : ∃ x, x = av 14 := ⟨_, rfl⟩
  obtain ⟨x3, hx3⟩ : ∃ x, x = av 15 := ⟨_, rfl⟩
  rw [← hx0] at c0 hor wb0
  rw [← hx1] at c1 hor wb1
  rw [← hx2] at c2 hor wb2
  rw [← hx3] at c3 hor wb3
  obtain ⟨p0, -, -, -⟩ := wb0
  obtain ⟨-, p1, -, -⟩ := wb1
  obtain ⟨-, -, p2, -⟩ := wb2
  obtain ⟨-, -, -, p3⟩ := wb3
  have p0' : IntKind.u32.wrap (x0.toNat : Int) = (x0.toNat : Int) := (wb x0).2.2.2
  have p1' : IntKind.u32.wrap (x1.toNat : Int) = (x1.toNat : Int) := (wb x1).2.2.2
  have p2' : IntKind.u32.wrap (x2.toNat : Int) = (x2.toNat : Int) := (wb x2).2.2.2
  obtain ⟨N0, hN0⟩ : ∃ N0, N0 = num4 av := ⟨_, rfl⟩
  rw [← hN0] at hor
  have HN0 : Hid (N0 = num4 av) := hN0
  rw [← hw1]
  clear hw1 hsA hx0 hx1 hx2 hx3 hnum hN0 wb
  go_upto_region 2 with fail
  clear c0 c1 c2 c3 hor p0 p1 p2 p3 p0' p1' p2'
  go_upto_region 4 with fail
  obtain ⟨w2, hw2⟩ : ∃ w2, w2 = w1.alloc (.cells (ba 16 zB) 62) := ⟨_, rfl⟩
  have Z2 : Hid (RS w w2 R k av txt (.slice none 0 0) 0) := by
    have e := Z1.out.2.2
    rw [hw2]
    refine ⟨⟨.inl ⟨rfl, rfl⟩, fun b h => (by simp [Value.ownBlock] at h), Z1.out.1.alloc _⟩, ⟨av, Z1.out.2.1.alloc _, fun _ _ => rfl⟩, ⟨zB, ?_, fun h => absurd rfl h⟩, fun b h => (by simp [Value.ownBlock] at h)⟩
    have := Ar.new w1 (ba 16 zB) 62
    rwa [e] at this
  have e1 := Z1.out.2.2
  rw [← hw2, e1]
  clear hw2 e1 Z1 hz
  go_wp2_with fail
  go_loopw [7, 8, 10] (fun v7 v8 v10 wr => ∃ (i : Nat), v10 = .int .i64 i ∧ i ≤ n ∧ v7 = .int .u32 (((num4 av + (i + 15) / 16) % 4294967296 : Nat) : Int) ∧ RS w wr R k av txt v8 i) (fun v7 v8 v10 wr => n - (intOf v10).toNat)
  case atStart =>
    refine ⟨0, rfl, by omega, ?_, Z2.out⟩
    have : N0 < 4294967296 := by
      rw [HN0.out]
      unfold num4
      have h1 := (av 12).isLt
      have h2 := (av 13).isLt
      have h3 := (av 14).isLt
      have h4 := (av 15).isLt
      omega
    rw [HN0.out] at this ⊢
    rw [show (0 + 15) / 16 = 0 from rfl, Nat.add_zero, Nat.mod_eq_of_lt this]
  case round =>
    clear Z2
    obtain ⟨i, rfl, hi, rfl, hz2⟩ := hrel
    obtain ⟨vo, vm, vc, rfl, -⟩ := hz2.own.own.rd.shape
    have Z : Hid (RS w wr R k av txt (.slice vo vm vc) i) := hz2
    clear hz2
    obtain ⟨q, hq⟩ : ∃ q : Nat, q = (num4 av + (i + 15) / 16) % 4294967296 := ⟨_, rfl⟩
    rw [← hq]
    have HQ : Hid (q = (num4 av + (i + 15) / 16) % 4294967296) := hq
    have hq32 : q < 4294967296 := by rw [hq]; exact Nat.mod_lt _ (by decide)
    clear hq
    by_cases hlt : i < n
    · have hd : decide ((i : Int) < n) = true := by simp; omega
      have li : (i : Int) < n := by omega
      obtain ⟨r, hr⟩ : ∃ r : Nat, (i : Int).tmod 16 = r := ⟨i % 16, by rw [Int.tmod_eq_emod_of_nonneg (by omega)]; omega⟩
      have wr' := wrap_i (x := (r : Int)) (by rw [← hr, Int.tmod_eq_emod_of_nonneg (by omega)]; omega) (by rw [← hr, Int.tmod_eq_emod_of_nonneg (by omega)]; omega)
      have lr : (r : Int) < 16 := by rw [← hr, Int.tmod_eq_emod_of_nonneg (by omega)]; omega
      have HRi : Hid (r = i % 16) := by
        rw [Int.tmod_eq_emod_of_nonneg (by omega)] at hr
        show r = _
        omega
      obtain ⟨tb, tt, tc, hv, -, -, hbs⟩ := Rd.bs HX.out.2.2 (by omega)
      injection hv with hv1 hv2 hv3
      subst hv1 hv3
      have HBS : Hid (Bs w tb tt n txt) := hbs
      clear hbs hv2
      obtain ⟨bb, hbb⟩ : ∃ bb : Bool, ((r : Int) == 0) = bb := ⟨_, rfl⟩
      have HBB : Hid (bb = true ↔ r = 0) := by
        show _ ↔ _
        rw [← hbb]
        simp
      go_upto_if 37 with fail
      go_cut [7] from 38 to 58 (fun v7 wc => v7 = .int .u32 (((num4 av + (i + 1 + 15) / 16) % 4294967296 : Nat) : Int) ∧ OwnN w wc (.slice vo vm vc) (nums i (stF R k av txt)) ∧ (∃ f, Ar wc w.heap.size (ba 16 f) ∧ ∀ j, j < 12 → f j = av j) ∧ ∃ X, Ar wc (w.heap.size + 1) (ba 16 X) ∧ E16 X (enc R k (ctr av (i / 16))))
      case first =>
        cases bb with
        | true =>
          have HR0 : Hid (r = 0) := HBB.out.1 rfl
          obtain ⟨f, hf, hfe⟩ := Z.out.a
          obtain ⟨X0, hX0, -⟩ := Z.out.x
          obtain ⟨b0, B0, e0⟩ := q_byte q 16777216 16777216 rfl
          obtain ⟨b1, B1, e1⟩ := q_byte q 65536 65536 rfl
          obtain ⟨b2, B2, e2⟩ := q_byte q 256 256 rfl
          obtain ⟨b3, B3, e3⟩ := q_byte q 1 1 rfl
          have e0' : (q : Int) / 16777216 = (b0.toNat : Int) := by rw [← e0]; omega
          have e3' : (q : Int) % 256 = (b3.toNat : Int) := by rw [← e3]; simp
          obtain ⟨f1, hf1⟩ : ∃ f1, f1 = updB f 12 b0 := ⟨_, rfl⟩
          obtain ⟨f2, hf2⟩ : ∃ f2, f2 = updB f1 13 b1 := ⟨_, rfl⟩
          obtain ⟨f3, hf3⟩ : ∃ f3, f3 = updB f2 14 b2 := ⟨_, rfl⟩
          obtain ⟨f4, hf4⟩ : ∃ f4, f4 = updB f3 15 b3 := ⟨_, rfl⟩
          have HF4 : Hid (E16 f4 (ctr av (i / 16))) := by
            have h1 := HRi.out
            have h0 := HR0.out
            have h2 := HQ.out
            rw [hf4, hf3, hf2, hf1, B0.out, B1.out, B2.out, B3.out]
            refine ctr_of hfe ?_
            rw [h2, Nat.mod_mod, show (i + 15) / 16 = i / 16 by omega]
          have HFe : Hid (∀ j, j < 12 → f4 j = av j) := by
            intro j hj
            rw [hf4, hf3, hf2, hf1, ← hfe j hj]
            unfold updB
            rw [if_neg (by omega), if_neg (by omega), if_neg (by omega), if_neg (by omega)]
          have Z0 : Hid (OwnN w wr (.slice vo vm vc) (nums i (stF R k av txt)) ∧ Ar wr w.heap.size (ba 16 f) ∧ Ar wr (w.heap.size + 1) (ba 16 X0) ∧ ∀ b, (Value.slice vo vm vc).ownBlock = some b → w.heap.size + 1 < b) := ⟨Z.out.own, hf, hX0, Z.out.ne⟩
          have keep : ∀ (u : World) (o : Nat) (x : By) (g : Nat → By), OwnN w u (.slice vo vm vc) (nums i (stF R k av txt)) ∧ Ar u w.heap.size (ba 16 g) ∧ Ar u (w.heap.size + 1) (ba 16 X0) → OwnN w (u.setCell ⟨w.heap.size, o, none⟩ (.int .u8 (x.toNat : Int))) (.slice vo vm vc) (nums i (stF R k av txt)) ∧ Ar (u.setCell ⟨w.heap.size, o, none⟩ (.int .u8 (x.toNat : Int))) w.heap.size (ba 16 (updB g o x)) ∧ Ar (u.setCell ⟨w.heap.size, o, none⟩ (.int .u8 (x.toNat : Int))) (w.heap.size + 1) (ba 16 X0) := by
            rintro u o x g ⟨h1, h2, h3⟩
            have h4 := Z0.out.2.2.2
            refine ⟨⟨h1.own.keep (fun b e => Below.heap_setCell _ _ _ _ (fun c => ?_)), h1.new, h1.chg.setCell (by dsimp only; omega) _⟩, ?_, h3.other (by dsimp only; omega) _⟩
            · have := h4 b e
              dsimp only at c
              omega
            · have := h2.set o (.int .u8 (x.toNat : Int))
              rwa [ba_set] at this
          have KE : Hid (∀ (u : World) (o : Nat) (x : By) (g : Nat → By), OwnN w u (.slice vo vm vc) (nums i (stF R k av txt)) ∧ Ar u w.heap.size (ba 16 g) ∧ Ar u (w.heap.size + 1) (ba 16 X0) → OwnN w (u.setCell ⟨w.heap.size, o, none⟩ (.int .u8 (x.toNat : Int))) (.slice vo vm vc) (nums i (stF R k av txt)) ∧ Ar (u.setCell ⟨w.heap.size, o, none⟩ (.int .u8 (x.toNat : Int))) w.heap.size (ba 16 (updB g o x)) ∧ Ar (u.setCell ⟨w.heap.size, o, none⟩ (.int .u8 (x.toNat : Int))) (w.heap.size + 1) (ba 16 X0)) := keep
          have c0 := (hf.cell 12).trans (ba_get 16 f (by decide))
          have g0 := hf.frozen 12
          have hq1 : IntKind.u32.wrap ((q : Int) + 1) = (((num4 av + (i + 1 + 15) / 16) % 4294967296 : Nat) : Int) := by
            have h1 := HRi.out
            have h0 := HR0.out
            have h2 := HQ.out
            rw [IntKind.wrap_u32, h2, show (i + 1 + 15) / 16 = (i + 15) / 16 + 1 by omega]
            omega
          obtain ⟨q2, hq2⟩ : ∃ q2, q2 = (num4 av + (i + 1 + 15) / 16) % 4294967296 := ⟨_, rfl⟩
          rw [← hq2] at hq1
          have HQ2 : Hid (q2 = (num4 av + (i + 1 + 15) / 16) % 4294967296) := hq2
          clear keep hf hX0 hfe hq2 e3 e0 B0 B1 B2 B3
          go_upto_region 9 with fail
          obtain ⟨u1, hu1⟩ : ∃ u, u = wr.setCell ⟨w.heap.size, 12, none⟩ (.int .u8 (b0.toNat : Int)) := ⟨_, rfl⟩
          have U1 : Hid (OwnN w u1 (.slice vo vm vc) (nums i (stF R k av txt)) ∧ Ar u1 w.heap.size (ba 16 f1) ∧ Ar u1 (w.heap.size + 1) (ba 16 X0)) := by
            rw [hu1, hf1]
            exact KE.out wr 12 b0 f ⟨Z0.out.1, Z0.out.2.1, Z0.out.2.2.1⟩
          rw [← hu1]
          have c1 := (U1.out.2.1.cell 13).trans (ba_get 16 f1 (by decide))
          have g1 := U1.out.2.1.frozen 13
          clear hu1 c0 g0 hf1
          go_upto_region 10 with fail
          obtain ⟨u2, hu2⟩ : ∃ u, u = u1.setCell ⟨w.heap.size, 13, none⟩ (.int .u8 (b1.toNat : Int)) := ⟨_, rfl⟩
          have U2 : Hid (OwnN w u2 (.slice vo vm vc) (nums i (stF R k av txt)) ∧ Ar u2 w.heap.size (ba 16 f2) ∧ Ar u2 (w.heap.size + 1) (ba 16 X0)) := by
            rw [hu2, hf2]
            exact KE.out u1 13 b1 f1 U1.out
          rw [← hu2]
          have c2 := (U2.out.2.1.cell 14).trans (ba_get 16 f2 (by decide))
          have g2 := U2.out.2.1.frozen 14
          clear hu2 c1 g1 U1 hf2
          go_upto_region 11 with fail
          obtain ⟨u3, hu3⟩ : ∃ u, u = u2.setCell ⟨w.heap.size, 14, none⟩ (.int .u8 (b2.toNat : Int)) := ⟨_, rfl⟩
          have U3 : Hid (OwnN w u3 (.slice vo vm vc) (nums i (stF R k av txt)) ∧ Ar u3 w.heap.size (ba 16 f3) ∧ Ar u3 (w.heap.size + 1) (ba 16 X0)) := by
            rw [hu3, hf3]
            exact KE.out u2 14 b2 f2 U2.out
          rw [← hu3]
          have c3 := (U3.out.2.1.cell 15).trans (ba_get 16 f3 (by decide))
          have g3 := U3.out.2.1.frozen 15
          clear hu3 c2 g2 U2 hf3
          go_upto_region 12 with fail
          obtain ⟨u4, hu4⟩ : ∃ u, u = u3.setCell ⟨w.heap.size, 15, none⟩ (.int .u8 (b3.toNat : Int)) := ⟨_, rfl⟩
          have U4 : Hid (OwnN w u4 (.slice vo vm vc) (nums i (stF R k av txt)) ∧ Ar u4 w.heap.size (ba 16 f4) ∧ Ar u4 (w.heap.size + 1) (ba 16 X0)) := by
            rw [hu4, hf4]
            exact KE.out u3 15 b3 f3 U3.out
          rw [← hu4]
          obtain ⟨t4, G4⟩ := U4.out.2.1
          have s4 := szB f4 zero32.2
          obtain ⟨X, hX⟩ : ∃ X, X = enc R k f4 := ⟨_, rfl⟩
          have HXe : Hid (X = enc R k f4) := hX
          have HE : Hid (Calls Tryz.prog 39 #[.pointer (some ⟨K, 0, none⟩), .agg (ba 16 f4)] u4 fun r w' => r = .returned (.agg (ba 16 X)) ∧ Chg u4 w') := by
            rw [hX]
            exact refEncrypt_any K R k f4 u4 (HX.out.1.chg U4.out.1.chg) HX.out.2.1
          have sX := szB X zero32.2
          have lX := lenB 16 X0 X
          have oX := ba_one 16 X
          clear hu4 c3 g3 U3 hf4 hX
          go_wp2_with (first | refine wpList_load_row rfl 62 _ rfl _ rfl _ _ _ _ G4 und32 rfl s4 ?_)
          go_at_call 39
          refine HE.out.mono ?_
          rintro r5 u5 ⟨rfl, hc5⟩
          have U5 : Hid (OwnN w u5 (.slice vo vm vc) (nums i (stF R k av txt)) ∧ Ar u5 w.heap.size (ba 16 f4) ∧ Ar u5 (w.heap.size + 1) (ba 16 X0)) :=
            ⟨⟨OwnV.chg U4.out.1.own hc5, U4.out.1.new, U4.out.1.chg.trans hc5⟩, U4.out.2.1.chg hc5, U4.out.2.2.chg hc5⟩
          obtain ⟨t5, G5⟩ := U5.out.2.2
          clear hc5 U4 G4 HE s4
          go_wp2_with (first | refine wpList_store_row rfl 62 _ _ rfl _ _ rfl rfl _ _ G5 sX lX oX ?_)
          go_meet
          obtain ⟨k1, k2, k3⟩ := U5.out
          have h4 := Z0.out.2.2.2
          refine ⟨by rw [HQ2.out], ⟨k1.own.keep (fun b e => setRow_other _ _ _ _ (by have := h4 b e; omega)), k1.new, k1.chg.setRow (by omega) _⟩, ⟨f4, k2.rowOther (by omega) _, HFe.out⟩, X, k3.row _, ?_⟩
          rw [HXe.out]
          exact E16.enc (fun _ _ => rfl) HF4.out
        | false =>
          have hr0 : ¬ r = 0 := fun h => by cases HBB.out.2 h
          go_wp2_with fail
          go_meet
          have h1 := HRi.out
          obtain ⟨X0, hX0, hE⟩ := Z.out.x
          refine ⟨?_, Z.out.own, Z.out.a, X0, hX0, hE (by omega)⟩
          rw [HQ.out, show (i + 1 + 15) / 16 = (i + 15) / 16 by omega]
      case rest =>
        obtain ⟨hv7, ho, ⟨f, hf, hfe⟩, X, hX, hE⟩ := hcut
        obtain ⟨q3, hq3⟩ : ∃ q3 : Nat, q3 = (num4 av + (i + 1 + 15) / 16) % 4294967296 := ⟨_, rfl⟩
        rw [← hq3] at hv7
        have HQ3 : Hid (q3 = (num4 av + (i + 1 + 15) / 16) % 4294967296) := hq3
        rw [hv7]
        clear hq3
        have c1 := (HBS.out.chg ho.chg) i hlt
        have hr16 : r < 16 := by omega
        have c2 := (hX.cell r).trans (ba_get 16 X hr16)
        obtain ⟨x1, hx1⟩ : ∃ x, x = txt i := ⟨_, rfl⟩
        obtain ⟨x2, hx2⟩ : ∃ x, x = X r := ⟨_, rfl⟩
        rw [← hx1] at c1
        rw [← hx2] at c2
        obtain ⟨y, Hy, ey⟩ := nameXor x1 x2
        have HY : Hid (y = stF R k av txt i) := by
          have h1 := HRi.out
          show y = _
          rw [Hy.out, hx1, hx2, h1, stF, pad, hE (i % 16) (by omega)]
        have Z5 : Hid (OwnN w wc.drew (.slice vo vm vc) (nums i (stF R k av txt)) ∧ Ar wc w.heap.size (ba 16 f) ∧ (∀ j, j < 12 → f j = av j) ∧ Ar wc (w.heap.size + 1) (ba 16 X) ∧ E16 X (enc R k (ctr av (i / 16)))) := ⟨⟨ho.own.keep (fun _ _ => rfl), ho.new, ho.chg.drew⟩, hf, hfe, hX, hE⟩
        have hl : (nums i (stF R k av txt)).length + [(y.toNat : Int)].length ≤ 140737488355328 := by rw [nums_len]; simp; omega
        clear hx1 hx2 Hy ho hf hfe hX hE hv7
        go_wp2_with fail
        go_region_law (refine step_app rfl (.tmp 58) (.tmp 68) rfl (.slice vo vm vc) (.slice (some ⟨wc.drew.heap.size, 0, none⟩) 1 1) (nums i (stF R k av txt)) [(y.toNat : Int)] rfl rfl (Z5.out.1.alloc _).own (Ap.Rd.one wc.drew (y.toNat : Int)) hl ?_; intro v2 w7 o2 k2 b2)
        all_goals
          obtain ⟨ao2, m2, cc2, rfl, -⟩ := o2.rd.shape
          have Z7 : Hid (RS w w7 R k av txt (.slice ao2 m2 cc2) (i + 1)) := by
            obtain ⟨n1, n2, n3, n4, n5⟩ := Z5.out
            have hne := Z.out.ne
            have k3 := (n1.alloc (.cells #[.int .u8 (y.toNat : Int)] 5)).more o2 k2 b2
            have e0 : w.heap.size + 1 < wc.heap.size := n4.lt
            refine ⟨?_, ⟨f, (n2.drew.alloc _).ap k2 (fun e => by have := hne _ e; omega), n3⟩, ⟨X, (n4.drew.alloc _).ap k2 (fun e => by have := hne _ e; omega), fun h => ?_⟩, fun b e => ?_⟩
            · rw [nums_succ, ← HY.out]
              exact k3
            · rw [show (i + 1) / 16 = i / 16 by omega]
              exact n5
            · rcases b2 with h | h
              · rw [h] at e
                exact hne b e
              · rw [h] at e
                injection e with e
                rw [← e]
                have e3 : (wc.alloc (.cells #[.int .u8 (y.toNat : Int)] 5)).heap.size = wc.heap.size + 1 := World.size_alloc _ _
                show w.heap.size + 1 < (wc.alloc (.cells #[.int .u8 (y.toNat : Int)] 5)).heap.size
                omega
          clear o2 k2 b2 c1 c2
          go_wp2
          go_roundw
          case rel => exact ⟨i + 1, by go_num, by omega, by rw [HQ3.out], Z7.out⟩
          case measure => simp [intOf]; omega
    · have hd : decide ((i : Int) < n) = false := by simp; omega
      have hin : i = n := by omega
      go_wp2
      go_ret
      refine ⟨_, rfl, ?_⟩
      rw [← hin]
      exact Z.out.own
end Go.Proofs.YtobglgddbhddnaaGreat
