/-
  Ten double rounds: the function mixed.
-/
import Derived.Test.YtkdidacebfkdmaaBgn
namespace Go.Proofs.Ytkdidacebfkdmaa
open Go.RowKit
set_option linter.unusedVariables false

/-- What stands while the words are mixed. -/
structure MxS (w wr : World) (f : Nat → Wd) : Prop where
  chg : Chg w wr
  ws : Ar wr w.heap.size (wa 16 f)
  out : Ar wr (w.heap.size + 1) (wa 16 zW)
theorem MxS.qs {w wr u : World} {f g : Nat → Wd} (h : MxS w wr f) (q : QS wr u w.heap.size g) : MxS w u g :=
  ⟨h.chg.ap q.chg (fun i e => by cases e; exact Nat.le_refl _), q.ws, h.out.ap q.chg (by unfold Ap.One; omega)⟩
theorem mxq (a b c d : Nat) (ha : a < 16) (hb : b < 16) (hc : c < 16) (hd : d < 16) (w : World) : ∀ (f : Nat → Wd) (wr : World), MxS w wr f →
    Calls Try.prog 36 #[.int .i64 (a : Int), .int .i64 (b : Int), .int .i64 (c : Int), .int .i64 (d : Int), .pointer (some ⟨w.heap.size, 0, none⟩)] wr fun r w' => r = .returned (.tuple #[]) ∧ MxS w w' (qr f a b c d) := fun f wr h =>
  (quarter_any f a b c d w.heap.size wr h.ws ha hb hc hd).mono fun r w' hh => ⟨hh.1, h.qs hh.2⟩
theorem qs8 (f : Nat → Wd) : qs 8 f = qr (qr (qr (qr (qr (qr (qr (qr f 0 4 8 12) 1 5 9 13) 2 6 10 14) 3 7 11 15) 0 5 10 15) 1 6 11 12) 2 7 8 13) 3 4 9 14 := rfl

set_option maxRecDepth 100000 in
set_option maxHeartbeats 4000000 in
theorem mixed_any (f0 : Nat → Wd) (w : World) : Calls Try.prog 20 #[.agg (wa 16 f0)] w fun r w' => r = .returned (.agg (wa 16 (rds 10 f0))) ∧ Chg w w' := by
  have hsA := wa_size 16 f0
  obtain ⟨A, hA⟩ : ∃ A, A = wa 16 f0 := ⟨_, rfl⟩
  have HA : Hid (A = wa 16 f0) := hA
  rw [← hA] at hsA ⊢
  clear hA
  have hz := zero42.1
  go_enter Try.func20, Try.ntmps20
  go_wp2_with fail
  go_loopw [5] (fun v wr => ∃ (i : Nat), v = .int .i64 i ∧ i ≤ 10 ∧ MxS w wr (rds i f0)) (fun v wr => 10 - (intOf v).toNat)
  case atStart =>
    refine ⟨0, rfl, by omega, ?_⟩
    rw [HA.out]
    exact ⟨((Chg.refl w).alloc _).alloc _, (Ar.new w _ _).alloc _, Ar.new1 w _ _ _⟩
  case round =>
    clear hz hsA
    obtain ⟨i, rfl, hi, hz0⟩ := hrel
    by_cases hlt : i < 10
    · have hd : decide ((i : Int) < 10) = true := by simp; omega
      obtain ⟨g0, hg0⟩ : ∃ g, g = rds i f0 := ⟨_, rfl⟩
      rw [← hg0] at hz0
      have HG : Hid (g0 = rds i f0) := hg0
      clear hg0
      have Z0 : Hid (MxS w wr g0) := hz0
      clear hz0
      go_wp2_with fail
      obtain ⟨g1, hg⟩ : ∃ g, g = qr g0 0 4 8 12 := ⟨_, rfl⟩
      have H1 : Hid (g1 = qr g0 0 4 8 12) := hg
      clear hg
      refine (mxq 0 4 8 12 (by decide) (by decide) (by decide) (by decide) w g0 wr Z0.out).mono ?_
      rintro r w1 ⟨rfl, hm⟩
      rw [← H1.out] at hm
      have Z1 : Hid (MxS w w1 g1) := hm
      clear hm Z0
      go_wp2_with fail
      obtain ⟨g2, hg⟩ : ∃ g, g = qr g1 1 5 9 13 := ⟨_, rfl⟩
      have H2 : Hid (g2 = qr g1 1 5 9 13) := hg
      clear hg
      refine (mxq 1 5 9 13 (by decide) (by decide) (by decide) (by decide) w g1 w1 Z1.out).mono ?_
      rintro r w2 ⟨rfl, hm⟩
      rw [← H2.out] at hm
      have Z2 : Hid (MxS w w2 g2) := hm
      clear hm Z1
      go_wp2_with fail
      obtain ⟨g3, hg⟩ : ∃ g, g = qr g2 2 6 10 14 := ⟨_, rfl⟩
      have H3 : Hid (g3 = qr g2 2 6 10 14) := hg
      clear hg
      refine (mxq 2 6 10 14 (by decide) (by decide) (by decide) (by decide) w g2 w2 Z2.out).mono ?_
      rintro r w3 ⟨rfl, hm⟩
      rw [← H3.out] at hm
      have Z3 : Hid (MxS w w3 g3) := hm
      clear hm Z2
      go_wp2_with fail
      obtain ⟨g4, hg⟩ : ∃ g, g = qr g3 3 7 11 15 := ⟨_, rfl⟩
      have H4 : Hid (g4 = qr g3 3 7 11 15) := hg
      clear hg
      refine (mxq 3 7 11 15 (by decide) (by decide) (by decide) (by decide) w g3 w3 Z3.out).mono ?_
      rintro r w4 ⟨rfl, hm⟩
      rw [← H4.out] at hm
      have Z4 : Hid (MxS w w4 g4) := hm
      clear hm Z3
      go_wp2_with fail
      obtain ⟨g5, hg⟩ : ∃ g, g = qr g4 0 5 10 15 := ⟨_, rfl⟩
      have H5 : Hid (g5 = qr g4 0 5 10 15) := hg
      clear hg
      refine (mxq 0 5 10 15 (by decide) (by decide) (by decide) (by decide) w g4 w4 Z4.out).mono ?_
      rintro r w5 ⟨rfl, hm⟩
      rw [← H5.out] at hm
      have Z5 : Hid (MxS w w5 g5) := hm
      clear hm Z4
      go_wp2_with fail
      obtain ⟨g6, hg⟩ : ∃ g, g = qr g5 1 6 11 12 := ⟨_, rfl⟩
      have H6 : Hid (g6 = qr g5 1 6 11 12) := hg
      clear hg
      refine (mxq 1 6 11 12 (by decide) (by decide) (by decide) (by decide) w g5 w5 Z5.out).mono ?_
      rintro r w6 ⟨rfl, hm⟩
      rw [← H6.out] at hm
      have Z6 : Hid (MxS w w6 g6) := hm
      clear hm Z5
      go_wp2_with fail
      obtain ⟨g7, hg⟩ : ∃ g, g = qr g6 2 7 8 13 := ⟨_, rfl⟩
      have H7 : Hid (g7 = qr g6 2 7 8 13) := hg
      clear hg
      refine (mxq 2 7 8 13 (by decide) (by decide) (by decide) (by decide) w g6 w6 Z6.out).mono ?_
      rintro r w7 ⟨rfl, hm⟩
      rw [← H7.out] at hm
      have Z7 : Hid (MxS w w7 g7) := hm
      clear hm Z6
      go_wp2_with fail
      obtain ⟨g8, hg⟩ : ∃ g, g = qr g7 3 4 9 14 := ⟨_, rfl⟩
      have H8 : Hid (g8 = qr g7 3 4 9 14) := hg
      clear hg
      refine (mxq 3 4 9 14 (by decide) (by decide) (by decide) (by decide) w g7 w7 Z7.out).mono ?_
      rintro r w8 ⟨rfl, hm⟩
      rw [← H8.out] at hm
      have Z8 : Hid (MxS w w8 g8) := hm
      clear hm Z7
      go_wp2_with fail
      go_roundw
      case rel =>
        refine ⟨i + 1, by go_num, by omega, ?_⟩
        have e : rds (i + 1) f0 = g8 := by
          show qs 8 (rds i f0) = _
          rw [qs8, ← HG.out, ← H1.out, ← H2.out, ← H3.out, ← H4.out, ← H5.out, ← H6.out, ← H7.out, ← H8.out]
        rw [e]
        exact Z8.out
      case measure => simp [intOf]; omega
    · have : i = 10 := by omega
      subst this
      obtain ⟨g, hg⟩ : ∃ g, g = rds 10 f0 := ⟨_, rfl⟩
      rw [← hg] at hz0
      have HG : Hid (g = rds 10 f0) := hg
      have HO : Hid (Chg w wr ∧ Ar wr (w.heap.size + 1) (wa 16 zW)) := ⟨hz0.chg, hz0.out⟩
      obtain ⟨t1, g1⟩ := hz0.ws
      obtain ⟨t3, g3⟩ := HO.out.2
      clear hg hz0
      have hsz := szW g
      have hlen := lenW 16 zW g
      have hone := wa_one 16 g
      go_wp2_with (first | refine wpList_load_row rfl 42 _ rfl _ rfl _ _ _ _ g1 und42 rfl hsz ?_ | refine wpList_store_row rfl 42 _ _ rfl _ _ rfl rfl _ _ g3 hsz hlen hone ?_)
      refine bp_c (n := 16) (c := wa 16 g) Try.results20 rfl rfl ?_ und42 i42 (wa_size _ _) ⟨by rw [HG.out], ?_⟩
      · exact HO.out.2.row _
      · exact HO.out.1.setRow (by omega) _
end Go.Proofs.Ytkdidacebfkdmaa
