/-
  A block with each column mixed: the function mixed.
-/
import Derived.Test.YtobglgddbhddnaaXor
namespace Go.Proofs.Ytobglgddbhddnaa
open Go.RowKit
set_option linter.unusedVariables false

theorem mixp0 (a0 a1 a2 a3 : By) : a0 ^^^ a1 ^^^ a2 ^^^ a3 ^^^ a0 ^^^ dbl (a0 ^^^ a1) = mx a0 a1 a2 a3 := by
  rw [dbl_xor]
  unfold mx
  generalize dbl a0 = c0
  generalize dbl a1 = c1
  simp only [BitVec.xor_assoc, BitVec.xor_comm, xor_left, xor_cancel]
theorem mixp1 (a0 a1 a2 a3 : By) : a0 ^^^ a1 ^^^ a2 ^^^ a3 ^^^ a1 ^^^ dbl (a1 ^^^ a2) = mx a1 a2 a3 a0 := by
  rw [← mixp0 a1 a2 a3 a0]
  simp only [BitVec.xor_assoc, BitVec.xor_comm, xor_left]
theorem mixp2 (a0 a1 a2 a3 : By) : a0 ^^^ a1 ^^^ a2 ^^^ a3 ^^^ a2 ^^^ dbl (a2 ^^^ a3) = mx a2 a3 a0 a1 := by
  rw [← mixp0 a2 a3 a0 a1]
  simp only [BitVec.xor_assoc, BitVec.xor_comm, xor_left]
theorem mixp3 (a0 a1 a2 a3 : By) : a0 ^^^ a1 ^^^ a2 ^^^ a3 ^^^ a3 ^^^ dbl (a3 ^^^ a0) = mx a3 a0 a1 a2 := by
  rw [← mixp0 a3 a0 a1 a2]
  simp only [BitVec.xor_assoc, BitVec.xor_comm, xor_left]

theorem nameXor (x y : By) : ∃ z : By, Hid (z = x ^^^ y) ∧ Go.bits .xor .u8 (x.toNat : Int) (y.toNat : Int) = (z.toNat : Int) := ⟨_, rfl, xorB x y⟩

/-- What stands while the columns are mixed. -/
def Mid4 (w wr : World) (f : Nat → By) (k : Nat) : Prop := Chg w wr ∧ Ar wr w.heap.size (ba 16 f) ∧ Ar wr (w.heap.size + 1) (ba 16 zB) ∧ Ar wr (w.heap.size + 1 + 1) (ba 16 (upTo k (mc f) zB))
theorem Mid4.drewN {w wr : World} {f : Nat → By} {k : Nat} (h : Mid4 w wr f k) (n : Nat) : Mid4 w (wr.drewN n) f k := ⟨h.1.drewN n, h.2.1, h.2.2.1, h.2.2.2⟩
theorem Mid4.step {w wr : World} {f : Nat → By} {k t : Nat} {o : By} (h : Mid4 w wr f k) (ht : t = k) (ho : o = mc f k) : Mid4 w (wr.setCell ⟨w.heap.size + 1 + 1, t, none⟩ (.int .u8 (o.toNat : Int))) f (k + 1) := by
  subst ht
  refine ⟨h.1.setCell (by dsimp only; omega) _, h.2.1.other (by dsimp only; omega) _, h.2.2.1.other (by dsimp only; omega) _, ?_⟩
  have := h.2.2.2.set t (.int .u8 (o.toNat : Int))
  rw [ba_set, ho, upTo_upd t (mc f) zB] at this
  rw [ho]
  exact this
theorem Mid4.cell {w wr : World} {f : Nat → By} {k t : Nat} (h : Mid4 w wr f k) (ht : t < 16) : ∃ v, wr.cell? ⟨w.heap.size + 1 + 1, t, none⟩ = some v ∧ wr.frozen? ⟨w.heap.size + 1 + 1, t, none⟩ = false :=
  ⟨_, (h.2.2.2.cell t).trans (ba_get 16 _ ht), h.2.2.2.frozen t⟩

set_option maxRecDepth 100000 in
set_option maxHeartbeats 4000000 in
theorem mixed_any (f : Nat → By) (w : World) : Calls Try.prog 48 #[.agg (ba 16 f)] w fun r w' => r = .returned (.agg (ba 16 (mc f))) ∧ Chg w w' := by
  have hsA := ba_size 16 f
  obtain ⟨A, hA⟩ : ∃ A, A = ba 16 f := ⟨_, rfl⟩
  have HA : Hid (A = ba 16 f) := hA
  rw [← hA] at hsA ⊢
  clear hA
  have hz := zero32.1
  go_enter Try.func48, Try.ntmps48
  go_wp2_with fail
  obtain ⟨w3, hw3⟩ : ∃ w3, w3 = ((w.alloc (.cells A 60)).alloc (.cells (ba 16 zB) 60)).alloc (.cells (ba 16 zB) 60) := ⟨_, rfl⟩
  rw [← hw3]
  have z0 : Hid (Chg w w3 ∧ Ar w3 w.heap.size A ∧ Ar w3 (w.heap.size + 1) (ba 16 zB) ∧ Ar w3 (w.heap.size + 1 + 1) (ba 16 zB)) := by
    rw [hw3]
    exact ⟨(((Chg.refl w).alloc _).alloc _).alloc _, ((Ar.new w _ _).alloc _).alloc _, (Ar.new1 w _ _ _).alloc _, Ar.new2 w _ _ _ _⟩
  clear hw3
  go_loopw [10] (fun v wr => ∃ (c : Nat), v = .int .i64 c ∧ c ≤ 4 ∧ Mid4 w wr f (4 * c)) (fun v wr => 4 - (intOf v).toNat)
  case atStart =>
    obtain ⟨z1, z2, z3, z4⟩ := z0.out
    rw [HA.out] at z2
    exact ⟨0, rfl, by omega, z1, z2, z3, by rw [Nat.mul_zero, upTo_zero]; exact z4⟩
  case round =>
    clear z0 hsA hz
    obtain ⟨c, rfl, hc, hm⟩ := hrel
    have H : Hid (Mid4 w wr f (4 * c)) := hm
    obtain ⟨-, h1, h2, h3⟩ := hm
    by_cases h4 : c < 4
    · have hd : decide ((c : Int) < 4) = true := by simp; omega
      have lc : (c : Int) < 4 := by omega
      obtain ⟨t, ht⟩ : ∃ t : Nat, 4 * (c : Int) = t := ⟨4 * c, by omega⟩
      obtain ⟨t1, ht1⟩ : ∃ t1 : Nat, (t : Int) + 1 = t1 := ⟨t + 1, by omega⟩
      obtain ⟨t2, ht2⟩ : ∃ t2 : Nat, (t : Int) + 2 = t2 := ⟨t + 2, by omega⟩
      obtain ⟨t3, ht3⟩ : ∃ t3 : Nat, (t : Int) + 3 = t3 := ⟨t + 3, by omega⟩
      have wt := wrap_i (x := (t : Int)) (by omega) (by omega)
      have wt1 := wrap_i (x := (t1 : Int)) (by omega) (by omega)
      have wt2 := wrap_i (x := (t2 : Int)) (by omega) (by omega)
      have wt3 := wrap_i (x := (t3 : Int)) (by omega) (by omega)
      have lt0 : (t : Int) < 16 := by omega
      have lt1 : (t1 : Int) < 16 := by omega
      have lt2 : (t2 : Int) < 16 := by omega
      have lt3 : (t3 : Int) < 16 := by omega
      have HT : Hid (t = 4 * c ∧ t1 = 4 * c + 1 ∧ t2 = 4 * c + 2 ∧ t3 = 4 * c + 3) := by show _ ∧ _ ∧ _ ∧ _; omega
      have c0 := (h1.cell t).trans (ba_get 16 _ (by omega))
      have c1 := (h1.cell t1).trans (ba_get 16 _ (by omega))
      have c2 := (h1.cell t2).trans (ba_get 16 _ (by omega))
      have c3 := (h1.cell t3).trans (ba_get 16 _ (by omega))
      obtain ⟨x0, hx0⟩ : ∃ x, x = f t := ⟨_, rfl⟩
      obtain ⟨x1, hx1⟩ : ∃ x, x = f t1 := ⟨_, rfl⟩
      obtain ⟨x2, hx2⟩ : ∃ x, x = f t2 := ⟨_, rfl⟩
      obtain ⟨x3, hx3⟩ : ∃ x, x = f t3 := ⟨_, rfl⟩
      rw [← hx0] at c0
      rw [← hx1] at c1
      rw [← hx2] at c2
      rw [← hx3] at c3
      have HX : Hid (x0 = f (4 * c) ∧ x1 = f (4 * c + 1) ∧ x2 = f (4 * c + 2) ∧ x3 = f (4 * c + 3)) := by
        obtain ⟨e0, e1, e2, e3⟩ := HT.out
        exact ⟨by rw [hx0, e0], by rw [hx1, e1], by rw [hx2, e2], by rw [hx3, e3]⟩
      obtain ⟨s1, Hs1, es1⟩ := nameXor x0 x1
      obtain ⟨s2, Hs2, es2⟩ := nameXor s1 x2
      obtain ⟨S, HS, eS⟩ := nameXor s2 x3
      obtain ⟨p0, Hp0, ep0⟩ := nameXor S x0
      obtain ⟨p1, Hp1, ep1⟩ := nameXor S x1
      obtain ⟨p2, Hp2, ep2⟩ := nameXor S x2
      obtain ⟨p3, Hp3, ep3⟩ := nameXor S x3
      obtain ⟨d1, Hd1, ed1⟩ := nameXor x1 x2
      obtain ⟨d2, Hd2, ed2⟩ := nameXor x2 x3
      obtain ⟨d3, Hd3, ed3⟩ := nameXor x3 x0
      obtain ⟨D0, hD0⟩ : ∃ D, D = dbl s1 := ⟨_, rfl⟩
      obtain ⟨D1, hD1⟩ : ∃ D, D = dbl d1 := ⟨_, rfl⟩
      obtain ⟨D2, hD2⟩ : ∃ D, D = dbl d2 := ⟨_, rfl⟩
      obtain ⟨D3, hD3⟩ : ∃ D, D = dbl d3 := ⟨_, rfl⟩
      have HD : Hid (D0 = dbl s1 ∧ D1 = dbl d1 ∧ D2 = dbl d2 ∧ D3 = dbl d3) := ⟨hD0, hD1, hD2, hD3⟩
      obtain ⟨o0, Ho0, eo0⟩ := nameXor p0 D0
      obtain ⟨o1, Ho1, eo1⟩ := nameXor p1 D1
      obtain ⟨o2, Ho2, eo2⟩ := nameXor p2 D2
      obtain ⟨o3, Ho3, eo3⟩ := nameXor p3 D3
      have HO : Hid (o0 = mc f (4 * c) ∧ o1 = mc f (4 * c + 1) ∧ o2 = mc f (4 * c + 2) ∧ o3 = mc f (4 * c + 3)) := by
        obtain ⟨q0, q1, q2, q3⟩ := HX.out
        obtain ⟨r0, r1, r2, r3⟩ := HD.out
        have m0 := mc_mx f c 0 (by omega)
        have m1 := mc_mx f c 1 (by omega)
        have m2 := mc_mx f c 2 (by omega)
        have m3 := mc_mx f c 3 (by omega)
        simp only [Nat.reduceAdd, Nat.reduceMod, Nat.add_zero, ← q0, ← q1, ← q2, ← q3] at m0 m1 m2 m3
        show _ ∧ _ ∧ _ ∧ _
        rw [m0, m1, m2, m3, Ho0.out, Ho1.out, Ho2.out, Ho3.out, r0, r1, r2, r3, Hp0.out, Hp1.out, Hp2.out, Hp3.out, HS.out, Hd1.out, Hd2.out, Hd3.out, Hs2.out, Hs1.out]
        exact ⟨mixp0 _ _ _ _, mixp1 _ _ _ _, mixp2 _ _ _ _, mixp3 _ _ _ _⟩
      have k0 := (h3.cell t).trans (ba_get 16 _ (by omega))
      have f0 := h3.frozen t
      have HC : Hid ((∀ u, Calls Try.prog 45 #[.int .u8 (s1.toNat : Int)] u fun r w' => r = .returned (.int .u8 (D0.toNat : Int)) ∧ w' = u) ∧ (∀ u, Calls Try.prog 45 #[.int .u8 (d1.toNat : Int)] u fun r w' => r = .returned (.int .u8 (D1.toNat : Int)) ∧ w' = u) ∧ (∀ u, Calls Try.prog 45 #[.int .u8 (d2.toNat : Int)] u fun r w' => r = .returned (.int .u8 (D2.toNat : Int)) ∧ w' = u) ∧ (∀ u, Calls Try.prog 45 #[.int .u8 (d3.toNat : Int)] u fun r w' => r = .returned (.int .u8 (D3.toNat : Int)) ∧ w' = u)) := by
        rw [hD0, hD1, hD2, hD3]
        exact ⟨double_any s1, double_any d1, double_any d2, double_any d3⟩
      clear hx0 hx1 hx2 hx3 h1 h2 h3 hD0 hD1 hD2 hD3
      go_wp2_with fail
      go_quiet (fail)
      go_wp2_with fail
      go_at_call 45
      refine (HC.out.1 _).mono ?_
      rintro r u ⟨rfl, hu⟩
      rw [hu]
      clear hu u
      go_wp2_with fail
      obtain ⟨w4, hw4⟩ : ∃ w4, w4 = (wr.drewN nq).setCell ⟨w.heap.size + 1 + 1, t, none⟩ (.int .u8 (o0.toNat : Int)) := ⟨_, rfl⟩
      have M4 : Hid (Mid4 w w4 f (4 * c + 1)) := by rw [hw4]; exact (H.out.drewN nq).step HT.out.1 HO.out.1
      rw [← hw4]
      clear hw4
      obtain ⟨v1, k1, f1⟩ := M4.out.cell (t := t1) (by omega)
      go_at_call 45
      refine (HC.out.2.1 _).mono ?_
      rintro r u ⟨rfl, hu⟩
      rw [hu]
      clear hu u
      go_wp2_with fail
      obtain ⟨w5, hw5⟩ : ∃ w5, w5 = w4.setCell ⟨w.heap.size + 1 + 1, t1, none⟩ (.int .u8 (o1.toNat : Int)) := ⟨_, rfl⟩
      have M5 : Hid (Mid4 w w5 f (4 * c + 2)) := by rw [hw5]; exact M4.out.step HT.out.2.1 HO.out.2.1
      rw [← hw5]
      clear hw5 k1 f1
      obtain ⟨v2, k2, f2⟩ := M5.out.cell (t := t2) (by omega)
      go_at_call 45
      refine (HC.out.2.2.1 _).mono ?_
      rintro r u ⟨rfl, hu⟩
      rw [hu]
      clear hu u
      go_wp2_with fail
      obtain ⟨w6, hw6⟩ : ∃ w6, w6 = w5.setCell ⟨w.heap.size + 1 + 1, t2, none⟩ (.int .u8 (o2.toNat : Int)) := ⟨_, rfl⟩
      have M6 : Hid (Mid4 w w6 f (4 * c + 3)) := by rw [hw6]; exact M5.out.step HT.out.2.2.1 HO.out.2.2.1
      rw [← hw6]
      clear hw6 k2 f2
      obtain ⟨v3, k3, f3⟩ := M6.out.cell (t := t3) (by omega)
      go_at_call 45
      refine (HC.out.2.2.2 _).mono ?_
      rintro r u ⟨rfl, hu⟩
      rw [hu]
      clear hu u
      go_wp2_with fail
      go_roundw
      case rel =>
        have := M6.out.step HT.out.2.2.2 HO.out.2.2.2
        have e : 4 * c + 3 + 1 = 4 * (c + 1) := by omega
        rw [e] at this
        exact ⟨c + 1, by go_num, by omega, this⟩
      case measure => simp [intOf]; omega
    · have : c = 4 := by omega
      subst this
      obtain ⟨k0, k1, k2, k3⟩ := H.out
      rw [upTo_all] at k3
      obtain ⟨g, hg⟩ : ∃ g, g = mc f := ⟨_, rfl⟩
      rw [← hg] at k3
      have HG : Hid (g = mc f) := hg
      clear hg h1 h2 h3
      have K2 : Hid (Ar wr (w.heap.size + 1) (ba 16 zB)) := k2
      obtain ⟨t1, g1⟩ := k3
      obtain ⟨t3, g3⟩ := k2
      have hsz := szB g zero32.2
      have hlen := lenB 16 zB g
      have hone := ba_one 16 g
      have K0 : Hid (Chg w wr) := k0
      clear k0 k1 H
      go_wp2_with (first | refine wpList_load_row rfl 60 _ rfl _ rfl _ _ _ _ g1 und32 rfl hsz ?_ | refine wpList_store_row rfl 60 _ _ rfl _ _ rfl rfl _ _ g3 hsz hlen hone ?_)
      refine bp_c (n := 16) (c := ba 16 g) Try.results48 rfl rfl ?_ und32 i32 (ba_size _ _) ⟨by rw [HG.out], ?_⟩
      · exact K2.out.row _
      · exact K0.out.setRow (by omega) _
end Go.Proofs.Ytobglgddbhddnaa
