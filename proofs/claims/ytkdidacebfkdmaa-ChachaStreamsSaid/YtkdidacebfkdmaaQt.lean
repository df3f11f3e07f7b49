/-
  A quarter of the words: the program's closure, and the document's quarter.
-/
import Derived.Test.YtkdidacebfkdmaaWrd
namespace Go.Proofs.Ytkdidacebfkdmaa
open Go.RowKit
set_option linter.unusedVariables false

/-- Only the words' block has changed; it holds these. -/
structure QS (w0 wr : World) (B : Nat) (f : Nat → Wd) : Prop where
  chg : Ap.Chg (Ap.One B) w0 wr
  ws : Ar wr B (wa 16 f)
theorem QS.set {w0 wr : World} {B : Nat} {f : Nat → Wd} (h : QS w0 wr B f) (i : Nat) (x : Wd) : QS w0 (wr.setCell ⟨B, i, none⟩ (.int .u32 (x.toNat : Int))) B (updW f i x) := by
  refine ⟨h.chg.setCell (p := ⟨B, i, none⟩) (fun _ => rfl) _, ?_⟩
  have := h.ws.set i (.int .u32 (x.toNat : Int))
  rwa [wa_set] at this
theorem QS.drew {w0 wr : World} {B : Nat} {f : Nat → Wd} (h : QS w0 wr B f) : QS w0 wr.drew B f := ⟨h.chg.drew, h.ws⟩
theorem QS.drewN {w0 wr : World} {B : Nat} {f : Nat → Wd} (h : QS w0 wr B f) (n : Nat) : QS w0 (wr.drewN n) B f := ⟨⟨h.chg.os, h.chg.tape, h.chg.output, h.chg.size, h.chg.block⟩, h.ws⟩

set_option maxRecDepth 100000 in
set_option maxHeartbeats 4000000 in
theorem quarter_any (f0 : Nat → Wd) (a b c d B : Nat) (w0 : World) (hB : Ar w0 B (wa 16 f0)) (ha : a < 16) (hb : b < 16) (hc : c < 16) (hd : d < 16) :
    Calls Try.prog 36 #[.int .i64 (a : Int), .int .i64 (b : Int), .int .i64 (c : Int), .int .i64 (d : Int), .pointer (some ⟨B, 0, none⟩)] w0 fun r w' => r = .returned (.tuple #[]) ∧ QS w0 w' B (qr f0 a b c d) := by
  have HB : Hid (a < 16 ∧ b < 16 ∧ c < 16 ∧ d < 16) := ⟨ha, hb, hc, hd⟩
  have la : (a : Int) < 16 := by omega
  have lb : (b : Int) < 16 := by omega
  have lc : (c : Int) < 16 := by omega
  have ld : (d : Int) < 16 := by omega
  have Z0 : Hid (QS w0 w0 B f0) := ⟨Ap.Chg.refl _ _, hB⟩
  clear ha hb hc hd hB
  go_enter Try.func36, Try.ntmps36
  go_upto_region 0 with fail
  obtain ⟨x, hx⟩ : ∃ x, x = f0 a := ⟨_, rfl⟩
  obtain ⟨y, hy⟩ : ∃ y, y = f0 b := ⟨_, rfl⟩
  have c1 := (Z0.out.ws.cell a).trans (wa_get 16 f0 HB.out.1)
  have c2 := (Z0.out.ws.cell b).trans (wa_get 16 f0 HB.out.2.1)
  have k1 := Z0.out.ws.frozen a
  rw [← hx] at c1
  rw [← hy] at c2
  obtain ⟨z, Hz, ez⟩ := nmAdd x y
  obtain ⟨f1, hf⟩ : ∃ g, g = sa f0 a b := ⟨_, rfl⟩
  have HF0 : Hid (f1 = updW f0 a z) := by show f1 = _; rw [hf, sa, ← hx, ← hy, Hz.out]
  have HG0 : Hid (f1 = sa f0 a b) := hf
  clear hx hy Hz hf
  go_cut [] from 9 to 16 (fun wc => QS w0 wc B f1)
  case first =>
    go_region_with (fail)
    all_goals go_wp2_with fail
    all_goals go_meet
    all_goals
      rw [HF0.out]
      first
        | exact (Z0.out.set a z).drew
        | exact (Z0.out.drew.set a z)
        | exact ((Z0.out.drewN _).set a z)
  have Z1 : Hid (QS w0 wc B f1) := hcut
  clear hcut c1 c2 k1
  obtain ⟨w1, hw1⟩ : ∃ w', w' = wc := ⟨_, rfl⟩
  rw [← hw1] at Z1 ⊢
  clear hw1 wc
  go_upto_region 1 with fail
  obtain ⟨x, hx⟩ : ∃ x, x = f1 d := ⟨_, rfl⟩
  obtain ⟨y, hy⟩ : ∃ y, y = f1 a := ⟨_, rfl⟩
  have c1 := (Z1.out.ws.cell d).trans (wa_get 16 f1 HB.out.2.2.2)
  have c2 := (Z1.out.ws.cell a).trans (wa_get 16 f1 HB.out.1)
  have k1 := Z1.out.ws.frozen d
  rw [← hx] at c1
  rw [← hy] at c2
  obtain ⟨z0, Hz0, ez0⟩ := nmXor x y
  obtain ⟨z, hz⟩ : ∃ z, z = z0.rotateLeft 16 := ⟨_, rfl⟩
  obtain ⟨f2, hf⟩ : ∃ g, g = sx f1 d a 16 := ⟨_, rfl⟩
  have HF1 : Hid (f2 = updW f1 d z) := by show f2 = _; rw [hf, sx, ← hx, ← hy, hz, Hz0.out]
  have HG1 : Hid (f2 = sx f1 d a 16) := hf
  have HC : Hid (∀ u, Calls Try.prog 37 #[.int .u32 (z0.toNat : Int), .int .i64 16] u fun r w' => r = .returned (.int .u32 (z.toNat : Int)) ∧ w' = u) := by rw [hz]; exact rot16_any z0
  clear hx hy Hz0 hf hz
  go_cut [] from 17 to 26 (fun wc => QS w0 wc B f2)
  case first =>
    go_region_with (go_at_call 37; refine (HC.out _).mono ?_; rintro r u ⟨rfl, hu⟩; rw [hu])
    all_goals go_wp2_with fail
    all_goals go_meet
    all_goals
      rw [HF1.out]
      first
        | exact (Z1.out.set d z).drew
        | exact (Z1.out.drew.set d z)
        | exact ((Z1.out.drewN _).set d z)
  have Z2 : Hid (QS w0 wc B f2) := hcut
  clear hcut c1 c2 k1
  obtain ⟨w2, hw2⟩ : ∃ w', w' = wc := ⟨_, rfl⟩
  rw [← hw2] at Z2 ⊢
  clear hw2 wc
  go_upto_region 2 with fail
  obtain ⟨x, hx⟩ : ∃ x, x = f2 c := ⟨_, rfl⟩
  obtain ⟨y, hy⟩ : ∃ y, y = f2 d := ⟨_, rfl⟩
  have c1 := (Z2.out.ws.cell c).trans (wa_get 16 f2 HB.out.2.2.1)
  have c2 := (Z2.out.ws.cell d).trans (wa_get 16 f2 HB.out.2.2.2)
  have k1 := Z2.out.ws.frozen c
  rw [← hx] at c1
  rw [← hy] at c2
  obtain ⟨z, Hz, ez⟩ := nmAdd x y
  obtain ⟨f3, hf⟩ : ∃ g, g = sa f2 c d := ⟨_, rfl⟩
  have HF2 : Hid (f3 = updW f2 c z) := by show f3 = _; rw [hf, sa, ← hx, ← hy, Hz.out]
  have HG2 : Hid (f3 = sa f2 c d) := hf
  clear hx hy Hz hf
  go_cut [] from 27 to 34 (fun wc => QS w0 wc B f3)
  case first =>
    go_region_with (fail)
    all_goals go_wp2_with fail
    all_goals go_meet
    all_goals
      rw [HF2.out]
      first
        | exact (Z2.out.set c z).drew
        | exact (Z2.out.drew.set c z)
        | exact ((Z2.out.drewN _).set c z)
  have Z3 : Hid (QS w0 wc B f3) := hcut
  clear hcut c1 c2 k1
  obtain ⟨w3, hw3⟩ : ∃ w', w' = wc := ⟨_, rfl⟩
  rw [← hw3] at Z3 ⊢
  clear hw3 wc
  go_upto_region 3 with fail
  obtain ⟨x, hx⟩ : ∃ x, x = f3 b := ⟨_, rfl⟩
  obtain ⟨y, hy⟩ : ∃ y, y = f3 c := ⟨_, rfl⟩
  have c1 := (Z3.out.ws.cell b).trans (wa_get 16 f3 HB.out.2.1)
  have c2 := (Z3.out.ws.cell c).trans (wa_get 16 f3 HB.out.2.2.1)
  have k1 := Z3.out.ws.frozen b
  rw [← hx] at c1
  rw [← hy] at c2
  obtain ⟨z0, Hz0, ez0⟩ := nmXor x y
  obtain ⟨z, hz⟩ : ∃ z, z = z0.rotateLeft 12 := ⟨_, rfl⟩
  obtain ⟨f4, hf⟩ : ∃ g, g = sx f3 b c 12 := ⟨_, rfl⟩
  have HF3 : Hid (f4 = updW f3 b z) := by show f4 = _; rw [hf, sx, ← hx, ← hy, hz, Hz0.out]
  have HG3 : Hid (f4 = sx f3 b c 12) := hf
  have HC : Hid (∀ u, Calls Try.prog 37 #[.int .u32 (z0.toNat : Int), .int .i64 12] u fun r w' => r = .returned (.int .u32 (z.toNat : Int)) ∧ w' = u) := by rw [hz]; exact rot12_any z0
  clear hx hy Hz0 hf hz
  go_cut [] from 35 to 44 (fun wc => QS w0 wc B f4)
  case first =>
    go_region_with (go_at_call 37; refine (HC.out _).mono ?_; rintro r u ⟨rfl, hu⟩; rw [hu])
    all_goals go_wp2_with fail
    all_goals go_meet
    all_goals
      rw [HF3.out]
      first
        | exact (Z3.out.set b z).drew
        | exact (Z3.out.drew.set b z)
        | exact ((Z3.out.drewN _).set b z)
  have Z4 : Hid (QS w0 wc B f4) := hcut
  clear hcut c1 c2 k1
  obtain ⟨w4, hw4⟩ : ∃ w', w' = wc := ⟨_, rfl⟩
  rw [← hw4] at Z4 ⊢
  clear hw4 wc
  go_upto_region 4 with fail
  obtain ⟨x, hx⟩ : ∃ x, x = f4 a := ⟨_, rfl⟩
  obtain ⟨y, hy⟩ : ∃ y, y = f4 b := ⟨_, rfl⟩
  have c1 := (Z4.out.ws.cell a).trans (wa_get 16 f4 HB.out.1)
  have c2 := (Z4.out.ws.cell b).trans (wa_get 16 f4 HB.out.2.1)
  have k1 := Z4.out.ws.frozen a
  rw [← hx] at c1
  rw [← hy] at c2
  obtain ⟨z, Hz, ez⟩ := nmAdd x y
  obtain ⟨f5, hf⟩ : ∃ g, g = sa f4 a b := ⟨_, rfl⟩
  have HF4 : Hid (f5 = updW f4 a z) := by show f5 = _; rw [hf, sa, ← hx, ← hy, Hz.out]
  have HG4 : Hid (f5 = sa f4 a b) := hf
  clear hx hy Hz hf
  go_cut [] from 45 to 52 (fun wc => QS w0 wc B f5)
  case first =>
    go_region_with (fail)
    all_goals go_wp2_with fail
    all_goals go_meet
    all_goals
      rw [HF4.out]
      first
        | exact (Z4.out.set a z).drew
        | exact (Z4.out.drew.set a z)
        | exact ((Z4.out.drewN _).set a z)
  have Z5 : Hid (QS w0 wc B f5) := hcut
  clear hcut c1 c2 k1
  obtain ⟨w5, hw5⟩ : ∃ w', w' = wc := ⟨_, rfl⟩
  rw [← hw5] at Z5 ⊢
  clear hw5 wc
  go_upto_region 5 with fail
  obtain ⟨x, hx⟩ : ∃ x, x = f5 d := ⟨_, rfl⟩
  obtain ⟨y, hy⟩ : ∃ y, y = f5 a := ⟨_, rfl⟩
  have c1 := (Z5.out.ws.cell d).trans (wa_get 16 f5 HB.out.2.2.2)
  have c2 := (Z5.out.ws.cell a).trans (wa_get 16 f5 HB.out.1)
  have k1 := Z5.out.ws.frozen d
  rw [← hx] at c1
  rw [← hy] at c2
  obtain ⟨z0, Hz0, ez0⟩ := nmXor x y
  obtain ⟨z, hz⟩ : ∃ z, z = z0.rotateLeft 8 := ⟨_, rfl⟩
  obtain ⟨f6, hf⟩ : ∃ g, g = sx f5 d a 8 := ⟨_, rfl⟩
  have HF5 : Hid (f6 = updW f5 d z) := by show f6 = _; rw [hf, sx, ← hx, ← hy, hz, Hz0.out]
  have HG5 : Hid (f6 = sx f5 d a 8) := hf
  have HC : Hid (∀ u, Calls Try.prog 37 #[.int .u32 (z0.toNat : Int), .int .i64 8] u fun r w' => r = .returned (.int .u32 (z.toNat : Int)) ∧ w' = u) := by rw [hz]; exact rot8_any z0
  clear hx hy Hz0 hf hz
  go_cut [] from 53 to 62 (fun wc => QS w0 wc B f6)
  case first =>
    go_region_with (go_at_call 37; refine (HC.out _).mono ?_; rintro r u ⟨rfl, hu⟩; rw [hu])
    all_goals go_wp2_with fail
    all_goals go_meet
    all_goals
      rw [HF5.out]
      first
        | exact (Z5.out.set d z).drew
        | exact (Z5.out.drew.set d z)
        | exact ((Z5.out.drewN _).set d z)
  have Z6 : Hid (QS w0 wc B f6) := hcut
  clear hcut c1 c2 k1
  obtain ⟨w6, hw6⟩ : ∃ w', w' = wc := ⟨_, rfl⟩
  rw [← hw6] at Z6 ⊢
  clear hw6 wc
  go_upto_region 6 with fail
  obtain ⟨x, hx⟩ : ∃ x, x = f6 c := ⟨_, rfl⟩
  obtain ⟨y, hy⟩ : ∃ y, y = f6 d := ⟨_, rfl⟩
  have c1 := (Z6.out.ws.cell c).trans (wa_get 16 f6 HB.out.2.2.1)
  have c2 := (Z6.out.ws.cell d).trans (wa_get 16 f6 HB.out.2.2.2)
  have k1 := Z6.out.ws.frozen c
  rw [← hx] at c1
  rw [← hy] at c2
  obtain ⟨z, Hz, ez⟩ := nmAdd x y
  obtain ⟨f7, hf⟩ : ∃ g, g = sa f6 c d := ⟨_, rfl⟩
  have HF6 : Hid (f7 = updW f6 c z) := by show f7 = _; rw [hf, sa, ← hx, ← hy, Hz.out]
  have HG6 : Hid (f7 = sa f6 c d) := hf
  clear hx hy Hz hf
  go_cut [] from 63 to 70 (fun wc => QS w0 wc B f7)
  case first =>
    go_region_with (fail)
    all_goals go_wp2_with fail
    all_goals go_meet
    all_goals
      rw [HF6.out]
      first
        | exact (Z6.out.set c z).drew
        | exact (Z6.out.drew.set c z)
        | exact ((Z6.out.drewN _).set c z)
  have Z7 : Hid (QS w0 wc B f7) := hcut
  clear hcut c1 c2 k1
  obtain ⟨w7, hw7⟩ : ∃ w', w' = wc := ⟨_, rfl⟩
  rw [← hw7] at Z7 ⊢
  clear hw7 wc
  go_upto_region 7 with fail
  obtain ⟨x, hx⟩ : ∃ x, x = f7 b := ⟨_, rfl⟩
  obtain ⟨y, hy⟩ : ∃ y, y = f7 c := ⟨_, rfl⟩
  have c1 := (Z7.out.ws.cell b).trans (wa_get 16 f7 HB.out.2.1)
  have c2 := (Z7.out.ws.cell c).trans (wa_get 16 f7 HB.out.2.2.1)
  have k1 := Z7.out.ws.frozen b
  rw [← hx] at c1
  rw [← hy] at c2
  obtain ⟨z0, Hz0, ez0⟩ := nmXor x y
  obtain ⟨z, hz⟩ : ∃ z, z = z0.rotateLeft 7 := ⟨_, rfl⟩
  obtain ⟨f8, hf⟩ : ∃ g, g = sx f7 b c 7 := ⟨_, rfl⟩
  have HF7 : Hid (f8 = updW f7 b z) := by show f8 = _; rw [hf, sx, ← hx, ← hy, hz, Hz0.out]
  have HG7 : Hid (f8 = sx f7 b c 7) := hf
  have HC : Hid (∀ u, Calls Try.prog 37 #[.int .u32 (z0.toNat : Int), .int .i64 7] u fun r w' => r = .returned (.int .u32 (z.toNat : Int)) ∧ w' = u) := by rw [hz]; exact rot7_any z0
  clear hx hy Hz0 hf hz
  go_region_with (go_at_call 37; refine (HC.out _).mono ?_; rintro r u ⟨rfl, hu⟩; rw [hu])
  all_goals go_wp2
  all_goals
    refine bodyPost_end (v := .tuple #[]) (results_none Try.results36 _ _ _) rfl ⟨rfl, ?_⟩
    have hq : qr f0 a b c d = f8 := by
      rw [HG7.out, HG6.out, HG5.out, HG4.out, HG3.out, HG2.out, HG1.out, HG0.out]
      rfl
    rw [hq, HF7.out]
    first
      | exact (Z7.out.set b z).drew
      | exact (Z7.out.drew.set b z)
end Go.Proofs.Ytkdidacebfkdmaa
