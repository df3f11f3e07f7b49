/-
  A quarter of the words: the program's closure, and the document's quarter.
-/
import Derived.Test.YtkdidacebfkdmaaQt
namespace Go.Proofs.Ytkdidacebfkdmaa
open Go.RowKit
set_option linter.unusedVariables false

set_option maxRecDepth 100000 in
set_option maxHeartbeats 4000000 in
theorem refQuarter_any (f0 : Nat → Wd) (a b c d : Nat) (w : World) (ha : a < 16) (hb : b < 16) (hc : c < 16) (hd : d < 16) :
    Calls Try.prog 22 #[.agg (wa 16 f0), .int .i64 (a : Int), .int .i64 (b : Int), .int .i64 (c : Int), .int .i64 (d : Int)] w fun r w' => r = .returned (.agg (wa 16 (qr f0 a b c d))) ∧ Chg w w' := by
  have HB : Hid (a < 16 ∧ b < 16 ∧ c < 16 ∧ d < 16) := ⟨ha, hb, hc, hd⟩
  have la : (a : Int) < 16 := by omega
  have lb : (b : Int) < 16 := by omega
  have lc : (c : Int) < 16 := by omega
  have ld : (d : Int) < 16 := by omega
  have hsA := wa_size 16 f0
  obtain ⟨A, hA⟩ : ∃ A, A = wa 16 f0 := ⟨_, rfl⟩
  have HA : Hid (A = wa 16 f0) := hA
  rw [← hA] at hsA ⊢
  clear hA ha hb hc hd
  have hz := zero42.1
  go_enter Try.func22, Try.ntmps22
  go_upto_region 1 with fail
  obtain ⟨w0, hw0⟩ : ∃ w0, w0 = (w.alloc (.cells A 42)).alloc (.cells (wa 16 zW) 42) := ⟨_, rfl⟩
  have Y : Hid (Chg w w0 ∧ Ar w0 (w.heap.size + 1) (wa 16 zW)) := by
    rw [hw0]
    exact ⟨((Chg.refl w).alloc _).alloc _, Ar.new1 w _ _ _⟩
  have Z0 : Hid (QS w0 w0 w.heap.size f0) := by
    refine ⟨Ap.Chg.refl _ _, ?_⟩
    rw [hw0, HA.out]
    exact (Ar.new w _ _).alloc _
  rw [← hw0]
  clear hw0 hz hsA
  obtain ⟨x, hx⟩ : ∃ x, x = f0 a := ⟨_, rfl⟩
  obtain ⟨y, hy⟩ : ∃ y, y = f0 b := ⟨_, rfl⟩
  have c1 := (Z0.out.ws.cell a).trans (wa_get 16 f0 HB.out.1)
  have c2 := (Z0.out.ws.cell b).trans (wa_get 16 f0 HB.out.2.1)
  have k1 := Z0.out.ws.frozen a
  rw [← hx] at c1
  rw [← hy] at c2
  obtain ⟨z, Hz, ez⟩ := nmAdd x y
  obtain ⟨f1, hf⟩ : ∃ g, g = sa f0 a b := ⟨_, rfl⟩
  have HF0 : Hid (f1 = updW f0 a z) := by show f1 = _; rw [hf, sa, ← hx, ← hy, Hz.out]
  have HG0 : Hid (f1 = sa f0 a b) := hf
  clear hx hy Hz hf
  go_cut [] from 11 to 19 (fun wc => QS w0 wc w.heap.size f1)
  case first =>
    go_region_with (fail)
    all_goals go_wp2_with fail
    all_goals go_meet
    all_goals
      rw [HF0.out]
      first
        | exact (Z0.out.set a z).drew
        | exact (Z0.out.drew.set a z)
        | exact ((Z0.out.drewN _).set a z)
  have Z1 : Hid (QS w0 wc w.heap.size f1) := hcut
  clear hcut c1 c2 k1
  obtain ⟨w1, hw1⟩ : ∃ w', w' = wc := ⟨_, rfl⟩
  rw [← hw1] at Z1 ⊢
  clear hw1 wc
  go_upto_region 2 with fail
  obtain ⟨x, hx⟩ : ∃ x, x = f1 d := ⟨_, rfl⟩
  obtain ⟨y, hy⟩ : ∃ y, y = f1 a := ⟨_, rfl⟩
  have c1 := (Z1.out.ws.cell d).trans (wa_get 16 f1 HB.out.2.2.2)
  have c2 := (Z1.out.ws.cell a).trans (wa_get 16 f1 HB.out.1)
  have k1 := Z1.out.ws.frozen d
  rw [← hx] at c1
  rw [← hy] at c2
  obtain ⟨z0, Hz0, ez0⟩ := nmXor x y
  obtain ⟨z, hz⟩ : ∃ z, z = z0.rotateLeft 16 := ⟨_, rfl⟩
  obtain ⟨f2, hf⟩ : ∃ g, g = sx f1 d a 16 := ⟨_, rfl⟩
  have HF1 : Hid (f2 = updW f1 d z) := by show f2 = _; rw [hf, sx, ← hx, ← hy, hz, Hz0.out]
  have HG1 : Hid (f2 = sx f1 d a 16) := hf
  have HC : Hid (∀ u, Calls Try.prog 38 #[.int .u32 (z0.toNat : Int), .int .i64 16] u fun r w' => r = .returned (.int .u32 (z.toNat : Int)) ∧ ∃ m, w' = u.drewN m) := by rw [hz]; exact fun u => left_any z0 16 u (by decide) (by decide)
  clear hx hy Hz0 hf hz
  go_cut [] from 20 to 29 (fun wc => QS w0 wc w.heap.size f2)
  case first =>
    go_region_with (go_at_call 38; refine (HC.out _).mono ?_; rintro r u ⟨rfl, mq, hu⟩; rw [hu])
    all_goals go_wp2_with fail
    all_goals go_meet
    all_goals
      rw [HF1.out]
      first
        | exact (Z1.out.set d z).drew
        | exact (Z1.out.drew.set d z)
        | exact ((Z1.out.drewN _).set d z)
  have Z2 : Hid (QS w0 wc w.heap.size f2) := hcut
  clear hcut c1 c2 k1
  obtain ⟨w2, hw2⟩ : ∃ w', w' = wc := ⟨_, rfl⟩
  rw [← hw2] at Z2 ⊢
  clear hw2 wc
  go_upto_region 3 with fail
  obtain ⟨x, hx⟩ : ∃ x, x = f2 c := ⟨_, rfl⟩
  obtain ⟨y, hy⟩ : ∃ y, y = f2 d := ⟨_, rfl⟩
  have c1 := (Z2.out.ws.cell c).trans (wa_get 16 f2 HB.out.2.2.1)
  have c2 := (Z2.out.ws.cell d).trans (wa_get 16 f2 HB.out.2.2.2)
  have k1 := Z2.out.ws.frozen c
  rw [← hx] at c1
  rw [← hy] at c2
  obtain ⟨z, Hz, ez⟩ := nmAdd x y
  obtain ⟨f3, hf⟩ : ∃ g, g = sa f2 c d := ⟨_, rfl⟩
  have HF2 : Hid (f3 = updW f2 c z) := by show f3 = _; rw [hf, sa, ← hx, ← hy, Hz.out]
  have HG2 : Hid (f3 = sa f2 c d) := hf
  clear hx hy Hz hf
  go_cut [] from 30 to 38 (fun wc => QS w0 wc w.heap.size f3)
  case first =>
    go_region_with (fail)
    all_goals go_wp2_with fail
    all_goals go_meet
    all_goals
      rw [HF2.out]
      first
        | exact (Z2.out.set c z).drew
        | exact (Z2.out.drew.set c z)
        | exact ((Z2.out.drewN _).set c z)
  have Z3 : Hid (QS w0 wc w.heap.size f3) := hcut
  clear hcut c1 c2 k1
  obtain ⟨w3, hw3⟩ : ∃ w', w' = wc := ⟨_, rfl⟩
  rw [← hw3] at Z3 ⊢
  clear hw3 wc
  go_upto_region 4 with fail
  obtain ⟨x, hx⟩ : ∃ x, x = f3 b := ⟨_, rfl⟩
  obtain ⟨y, hy⟩ : ∃ y, y = f3 c := ⟨_, rfl⟩
  have c1 := (Z3.out.ws.cell b).trans (wa_get 16 f3 HB.out.2.1)
  have c2 := (Z3.out.ws.cell c).trans (wa_get 16 f3 HB.out.2.2.1)
  have k1 := Z3.out.ws.frozen b
  rw [← hx] at c1
  rw [← hy] at c2
  obtain ⟨z0, Hz0, ez0⟩ := nmXor x y
  obtain ⟨z, hz⟩ : ∃ z, z = z0.rotateLeft 12 := ⟨_, rfl⟩
  obtain ⟨f4, hf⟩ : ∃ g, g = sx f3 b c 12 := ⟨_, rfl⟩
  have HF3 : Hid (f4 = updW f3 b z) := by show f4 = _; rw [hf, sx, ← hx, ← hy, hz, Hz0.out]
  have HG3 : Hid (f4 = sx f3 b c 12) := hf
  have HC : Hid (∀ u, Calls Try.prog 38 #[.int .u32 (z0.toNat : Int), .int .i64 12] u fun r w' => r = .returned (.int .u32 (z.toNat : Int)) ∧ ∃ m, w' = u.drewN m) := by rw [hz]; exact fun u => left_any z0 12 u (by decide) (by decide)
  clear hx hy Hz0 hf hz
  go_cut [] from 39 to 48 (fun wc => QS w0 wc w.heap.size f4)
  case first =>
    go_region_with (go_at_call 38; refine (HC.out _).mono ?_; rintro r u ⟨rfl, mq, hu⟩; rw [hu])
    all_goals go_wp2_with fail
    all_goals go_meet
    all_goals
      rw [HF3.out]
      first
        | exact (Z3.out.set b z).drew
        | exact (Z3.out.drew.set b z)
        | exact ((Z3.out.drewN _).set b z)
  have Z4 : Hid (QS w0 wc w.heap.size f4) := hcut
  clear hcut c1 c2 k1
  obtain ⟨w4, hw4⟩ : ∃ w', w' = wc := ⟨_, rfl⟩
  rw [← hw4] at Z4 ⊢
  clear hw4 wc
  go_upto_region 5 with fail
  obtain ⟨x, hx⟩ : ∃ x, x = f4 a := ⟨_, rfl⟩
  obtain ⟨y, hy⟩ : ∃ y, y = f4 b := ⟨_, rfl⟩
  have c1 := (Z4.out.ws.cell a).trans (wa_get 16 f4 HB.out.1)
  have c2 := (Z4.out.ws.cell b).trans (wa_get 16 f4 HB.out.2.1)
  have k1 := Z4.out.ws.frozen a
  rw [← hx] at c1
  rw [← hy] at c2
  obtain ⟨z, Hz, ez⟩ := nmAdd x y
  obtain ⟨f5, hf⟩ : ∃ g, g = sa f4 a b := ⟨_, rfl⟩
  have HF4 : Hid (f5 = updW f4 a z) := by show f5 = _; rw [hf, sa, ← hx, ← hy, Hz.out]
  have HG4 : Hid (f5 = sa f4 a b) := hf
  clear hx hy Hz hf
  go_cut [] from 49 to 57 (fun wc => QS w0 wc w.heap.size f5)
  case first =>
    go_region_with (fail)
    all_goals go_wp2_with fail
    all_goals go_meet
    all_goals
      rw [HF4.out]
      first
        | exact (Z4.out.set a z).drew
        | exact (Z4.out.drew.set a z)
        | exact ((Z4.out.drewN _).set a z)
  have Z5 : Hid (QS w0 wc w.heap.size f5) := hcut
  clear hcut c1 c2 k1
  obtain ⟨w5, hw5⟩ : ∃ w', w' = wc := ⟨_, rfl⟩
  rw [← hw5] at Z5 ⊢
  clear hw5 wc
  go_upto_region 6 with fail
  obtain ⟨x, hx⟩ : ∃ x, x = f5 d := ⟨_, rfl⟩
  obtain ⟨y, hy⟩ : ∃ y, y = f5 a := ⟨_, rfl⟩
  have c1 := (Z5.out.ws.cell d).trans (wa_get 16 f5 HB.out.2.2.2)
  have c2 := (Z5.out.ws.cell a).trans (wa_get 16 f5 HB.out.1)
  have k1 := Z5.out.ws.frozen d
  rw [← hx] at c1
  rw [← hy] at c2
  obtain ⟨z0, Hz0, ez0⟩ := nmXor x y
  obtain ⟨z, hz⟩ : ∃ z, z = z0.rotateLeft 8 := ⟨_, rfl⟩
  obtain ⟨f6, hf⟩ : ∃ g, g = sx f5 d a 8 := ⟨_, rfl⟩
  have HF5 : Hid (f6 = updW f5 d z) := by show f6 = _; rw [hf, sx, ← hx, ← hy, hz, Hz0.out]
  have HG5 : Hid (f6 = sx f5 d a 8) := hf
  have HC : Hid (∀ u, Calls Try.prog 38 #[.int .u32 (z0.toNat : Int), .int .i64 8] u fun r w' => r = .returned (.int .u32 (z.toNat : Int)) ∧ ∃ m, w' = u.drewN m) := by rw [hz]; exact fun u => left_any z0 8 u (by decide) (by decide)
  clear hx hy Hz0 hf hz
  go_cut [] from 58 to 67 (fun wc => QS w0 wc w.heap.size f6)
  case first =>
    go_region_with (go_at_call 38; refine (HC.out _).mono ?_; rintro r u ⟨rfl, mq, hu⟩; rw [hu])
    all_goals go_wp2_with fail
    all_goals go_meet
    all_goals
      rw [HF5.out]
      first
        | exact (Z5.out.set d z).drew
        | exact (Z5.out.drew.set d z)
        | exact ((Z5.out.drewN _).set d z)
  have Z6 : Hid (QS w0 wc w.heap.size f6) := hcut
  clear hcut c1 c2 k1
  obtain ⟨w6, hw6⟩ : ∃ w', w' = wc := ⟨_, rfl⟩
  rw [← hw6] at Z6 ⊢
  clear hw6 wc
  go_upto_region 7 with fail
  obtain ⟨x, hx⟩ : ∃ x, x = f6 c := ⟨_, rfl⟩
  obtain ⟨y, hy⟩ : ∃ y, y = f6 d := ⟨_, rfl⟩
  have c1 := (Z6.out.ws.cell c).trans (wa_get 16 f6 HB.out.2.2.1)
  have c2 := (Z6.out.ws.cell d).trans (wa_get 16 f6 HB.out.2.2.2)
  have k1 := Z6.out.ws.frozen c
  rw [← hx] at c1
  rw [← hy] at c2
  obtain ⟨z, Hz, ez⟩ := nmAdd x y
  obtain ⟨f7, hf⟩ : ∃ g, g = sa f6 c d := ⟨_, rfl⟩
  have HF6 : Hid (f7 = updW f6 c z) := by show f7 = _; rw [hf, sa, ← hx, ← hy, Hz.out]
  have HG6 : Hid (f7 = sa f6 c d) := hf
  clear hx hy Hz hf
  go_cut [] from 68 to 76 (fun wc => QS w0 wc w.heap.size f7)
  case first =>
    go_region_with (fail)
    all_goals go_wp2_with fail
    all_goals go_meet
    all_goals
      rw [HF6.out]
      first
        | exact (Z6.out.set c z).drew
        | exact (Z6.out.drew.set c z)
        | exact ((Z6.out.drewN _).set c z)
  have Z7 : Hid (QS w0 wc w.heap.size f7) := hcut
  clear hcut c1 c2 k1
  obtain ⟨w7, hw7⟩ : ∃ w', w' = wc := ⟨_, rfl⟩
  rw [← hw7] at Z7 ⊢
  clear hw7 wc
  go_upto_region 8 with fail
  obtain ⟨x, hx⟩ : ∃ x, x = f7 b := ⟨_, rfl⟩
  obtain ⟨y, hy⟩ : ∃ y, y = f7 c := ⟨_, rfl⟩
  have c1 := (Z7.out.ws.cell b).trans (wa_get 16 f7 HB.out.2.1)
  have c2 := (Z7.out.ws.cell c).trans (wa_get 16 f7 HB.out.2.2.1)
  have k1 := Z7.out.ws.frozen b
  rw [← hx] at c1
  rw [← hy] at c2
  obtain ⟨z0, Hz0, ez0⟩ := nmXor x y
  obtain ⟨z, hz⟩ : ∃ z, z = z0.rotateLeft 7 := ⟨_, rfl⟩
  obtain ⟨f8, hf⟩ : ∃ g, g = sx f7 b c 7 := ⟨_, rfl⟩
  have HF7 : Hid (f8 = updW f7 b z) := by show f8 = _; rw [hf, sx, ← hx, ← hy, hz, Hz0.out]
  have HG7 : Hid (f8 = sx f7 b c 7) := hf
  have HC : Hid (∀ u, Calls Try.prog 38 #[.int .u32 (z0.toNat : Int), .int .i64 7] u fun r w' => r = .returned (.int .u32 (z.toNat : Int)) ∧ ∃ m, w' = u.drewN m) := by rw [hz]; exact fun u => left_any z0 7 u (by decide) (by decide)
  clear hx hy Hz0 hf hz
  go_cut [] from 77 to 86 (fun wc => QS w0 wc w.heap.size f8)
  case first =>
    go_region_with (go_at_call 38; refine (HC.out _).mono ?_; rintro r u ⟨rfl, mq, hu⟩; rw [hu])
    all_goals go_wp2_with fail
    all_goals go_meet
    all_goals
      rw [HF7.out]
      first
        | exact (Z7.out.set b z).drew
        | exact (Z7.out.drew.set b z)
        | exact ((Z7.out.drewN _).set b z)
  have Z8 : Hid (QS w0 wc w.heap.size f8) := hcut
  clear hcut c1 c2 k1
  obtain ⟨w8, hw8⟩ : ∃ w', w' = wc := ⟨_, rfl⟩
  rw [← hw8] at Z8 ⊢
  clear hw8 wc
  go_upto_region 9 with fail
  have hq : Hid (qr f0 a b c d = f8) := by
    show qr f0 a b c d = f8
    rw [HG7.out, HG6.out, HG5.out, HG4.out, HG3.out, HG2.out, HG1.out, HG0.out]
    rfl
  have K2 : Hid (Ar w8 (w.heap.size + 1) (wa 16 zW)) := Y.out.2.ap Z8.out.chg (by unfold Ap.One; omega)
  obtain ⟨t1, g1⟩ := Z8.out.ws
  obtain ⟨t3, g3⟩ := K2.out
  have hsz := szW f8
  have hlen := lenW 16 zW f8
  have hone := wa_one 16 f8
  go_wp2_with (first | refine wpList_load_row rfl 42 _ rfl _ rfl _ _ _ _ g1 und42 rfl hsz ?_ | refine wpList_store_row rfl 42 _ _ rfl _ _ rfl rfl _ _ g3 hsz hlen hone ?_)
  refine bp_c (n := 16) (c := wa 16 f8) Try.results22 rfl rfl ?_ und42 i42 (wa_size _ _) ⟨by rw [hq.out], ?_⟩
  · exact K2.out.row _
  · exact (Y.out.1.ap Z8.out.chg (fun i e => by cases e; exact Nat.le_refl _)).setRow (by omega) _
end Go.Proofs.Ytkdidacebfkdmaa
