/-
  The document's up: a block times x.
-/
import Derived.Test.YtfnibmfmjglmlaaRMu
namespace Go.Proofs.Ytfnibmfmjglmlaa
open Go.RowKit
set_option linter.unusedVariables false

theorem shr1_num : ∀ i, i < 256 → ((BitVec.ofNat 8 i).toNat : Int) / 2 = (((BitVec.ofNat 8 i) >>> 1).toNat : Int) := by decide +kernel
theorem shl7_num : ∀ i, i < 256 → ((BitVec.ofNat 8 i).toNat : Int) * 128 % 256 = (((BitVec.ofNat 8 i) <<< 7).toNat : Int) := by decide +kernel
theorem nmS1 (x : By) : ∃ z : By, Hid (z = x >>> 1) ∧ (x.toNat : Int) / 2 = (z.toNat : Int) := ⟨_, rfl, by have := shr1_num x.toNat x.isLt; simpa using this⟩
theorem nmS7 (x : By) : ∃ z : By, Hid (z = x <<< 7) ∧ (x.toNat : Int) * 128 % 256 = (z.toNat : Int) := ⟨_, rfl, by have := shl7_num x.toNat x.isLt; simpa using this⟩
theorem nmO8 (x y : By) : ∃ z : By, Hid (z = x ||| y) ∧ Go.bits .or .u8 (x.toNat : Int) (y.toNat : Int) = (z.toNat : Int) := ⟨_, rfl, by rw [u8_or_nat _ _ x.isLt y.isLt, BitVec.toNat_or]⟩
theorem nmX8 (x : By) : ∃ z : By, Hid (z = x ^^^ 0xe1#8) ∧ Go.bits .xor .u8 (x.toNat : Int) 225 = (z.toNat : Int) := ⟨_, rfl, by
  have := xorB x 0xe1#8
  exact this⟩

/-- From a place on moved, ahead of it as it was. -/
def fromB (q : Nat) (f : Nat → By) : Nat → By := fun j => if q ≤ j then sh f j else f j
theorem fromB_all (f : Nat → By) : fromB 0 f = sh f := by funext j; simp [fromB]
theorem fromB_none (f : Nat → By) : ba 16 (fromB 16 f) = ba 16 f := ba_congr fun j hj => by
  unfold fromB
  rw [if_neg (by omega)]
theorem fromB_zero (f : Nat → By) : updB (fromB 1 f) 0 (f 0 >>> 1) = fromB 0 f := by
  funext j
  unfold updB fromB
  by_cases h : j = 0
  · subst h; simp [sh]
  · have : 1 ≤ j := by omega
    simp [h, this]
theorem fromB_succ (p : Nat) (f : Nat → By) (hp : 0 < p) : updB (updB (fromB (p + 1) f) p (f p >>> 1)) p ((f p >>> 1) ||| (f (p - 1) <<< 7)) = fromB p f := by
  funext j
  unfold updB fromB
  by_cases h : j = p
  · subst h
    have : ¬ j = 0 := by omega
    simp [sh, this]
  · by_cases h2 : p ≤ j
    · have : p + 1 ≤ j := by omega
      simp [h, h2, this]
    · have : ¬ p + 1 ≤ j := by omega
      simp [h, h2, this]

set_option maxRecDepth 100000 in
set_option maxHeartbeats 8000000 in
theorem up_any (f : Nat → By) (w : World) : Calls Try.prog 36 #[.agg (ba 16 f)] w fun r w' => r = .returned (.agg (ba 16 (upB f))) ∧ Chg w w' := by
  have hz := zero32.1
  have hsA := ba_size 16 f
  have hszA := szB f zero32.2
  obtain ⟨hb, hhb⟩ : ∃ hb, hb = (pol f).getMsbD 127 := ⟨_, rfl⟩
  have HB : Hid (hb = (pol f).getMsbD 127) := hhb
  have HC : Hid (∀ u, Calls Try.prog 35 #[.agg (ba 16 f), .int .i64 127] u fun r w' => r = .returned (.bool hb) ∧ Chg u w') := by
    rw [hhb]
    exact fun u => bit_any f 127 (by decide) u
  obtain ⟨A, hA⟩ : ∃ A, A = ba 16 f := ⟨_, rfl⟩
  have HA : Hid (A = ba 16 f) := hA
  rw [← hA] at hsA hszA HC ⊢
  clear hA hhb
  go_enter Try.func36, Try.ntmps36
  go_upto_region 1 with fail
  obtain ⟨w1, hw1⟩ : ∃ w1, w1 = (w.alloc (.cells A 23)).alloc (.cells (ba 16 zB) 23) := ⟨_, rfl⟩
  have Z1 : Hid (Chg w w1 ∧ Ar w1 w.heap.size A ∧ Ar w1 (w.heap.size + 1) (ba 16 zB)) := by
    rw [hw1]
    exact ⟨((Chg.refl w).alloc _).alloc _, (Ar.new w _ _).alloc _, Ar.new1 w _ _ _⟩
  rw [← hw1]
  obtain ⟨tA, gA⟩ := Z1.out.2.1
  clear hw1 hsA hz
  go_wp2_with (first | refine wpList_load_row rfl 23 _ rfl _ rfl _ _ _ _ gA und32 rfl hszA ?_)
  go_at_call 35
  refine (HC.out _).mono ?_
  rintro r w2 ⟨rfl, hc2⟩
  have Z2 : Hid (Chg w w2 ∧ Ar w2 w.heap.size (ba 16 f) ∧ Ar w2 (w.heap.size + 1) (ba 16 zB)) := by
    rw [← HA.out]
    exact ⟨Z1.out.1.trans hc2, Z1.out.2.1.chg hc2, Z1.out.2.2.chg hc2⟩
  clear hc2 Z1 gA hszA HC
  go_wp2_with fail
  go_loopw [4] (fun v wr => ∃ (q : Nat), v = .int .i64 ((q : Int) - 1) ∧ q ≤ 16 ∧ Chg w wr ∧ Ar wr w.heap.size (ba 16 (fromB q f)) ∧ Ar wr (w.heap.size + 1) (ba 16 zB)) (fun v wr => (intOf v + 1).toNat)
  case atStart =>
    refine ⟨16, rfl, by omega, Z2.out.1, ?_, Z2.out.2.2⟩
    rw [fromB_none]
    exact Z2.out.2.1
  case round =>
    clear Z2
    obtain ⟨q, rfl, hq, z0, z1, z2⟩ := hrel
    by_cases hq0 : q = 0
    · subst hq0
      have Z : Hid (Chg w wr ∧ Ar wr w.heap.size (ba 16 (sh f)) ∧ Ar wr (w.heap.size + 1) (ba 16 zB)) := by
        rw [fromB_all] at z1
        exact ⟨z0, z1, z2⟩
      have e0 : ((0 : Nat) : Int) - 1 = -1 := rfl
      rw [e0]
      have c0 := (Z.out.2.1.cell 0).trans (ba_get 16 (sh f) (by decide))
      have f0 := Z.out.2.1.frozen 0
      obtain ⟨x, hx⟩ : ∃ x, x = sh f 0 := ⟨_, rfl⟩
      rw [← hx] at c0
      obtain ⟨y, Hy, ey⟩ := nmX8 x
      have HXs : Hid (x = sh f 0) := hx
      clear z0 z1 z2 hx e0
      go_upto_if 30 with fail
      go_cut [] from 31 to 35 (fun wc => Chg w wc ∧ Ar wc w.heap.size (ba 16 (upB f)) ∧ Ar wc (w.heap.size + 1) (ba 16 zB))
      case first =>
        cases hb with
        | true =>
          go_wp2_with fail
          go_meet
          obtain ⟨k0, k1, k2⟩ := Z.out
          refine ⟨k0.setCell (by dsimp only; omega) _, ?_, k2.other (by dsimp only; omega) _⟩
          have := k1.set 0 (.int .u8 (y.toNat : Int))
          rw [ba_set] at this
          have e : ba 16 (upB f) = ba 16 (updB (sh f) 0 y) := ba_congr fun j hj => by
            unfold updB upB
            rw [← HB.out]
            by_cases h : j = 0
            · rw [if_pos h, if_pos h, Hy.out, HXs.out]; rfl
            · rw [if_neg h, if_neg h]
          rw [e]
          exact this
        | false =>
          go_wp2_with fail
          go_meet
          obtain ⟨k0, k1, k2⟩ := Z.out
          refine ⟨k0, ?_, k2⟩
          have e : ba 16 (upB f) = ba 16 (sh f) := ba_congr fun j hj => by
            unfold upB
            rw [← HB.out]
            by_cases h : j = 0
            · rw [if_pos h, h]; simp
            · rw [if_neg h]
          rw [e]
          exact k1
      case rest =>
        obtain ⟨z0, z1, z2⟩ := hcut
        obtain ⟨g, hg⟩ : ∃ g, g = upB f := ⟨_, rfl⟩
        have HG : Hid (g = upB f) := hg
        rw [← hg] at z1
        have Z3 : Hid (Chg w wc ∧ Ar wc (w.heap.size + 1) (ba 16 zB)) := ⟨z0, z2⟩
        obtain ⟨t1, g1⟩ := z1
        obtain ⟨t3, g3⟩ := z2
        have hsz := szB g zero32.2
        have hlen := lenB 16 zB g
        have hone := ba_one 16 g
        clear hg z0 c0 f0 ey
        go_wp2_with (first | refine wpList_load_row rfl 23 _ rfl _ rfl _ _ _ _ g1 und32 rfl hsz ?_ | refine wpList_store_row rfl 23 _ _ rfl _ _ rfl rfl _ _ g3 hsz hlen hone ?_)
        refine bp_c (n := 16) (c := ba 16 g) Try.results36 rfl rfl ?_ und32 i32 (ba_size _ _) ⟨by rw [HG.out], ?_⟩
        · exact Z3.out.2.row _
        · exact Z3.out.1.setRow (by omega) _
    · obtain ⟨p, hp⟩ : ∃ p : Nat, (q : Int) - 1 = p := ⟨q - 1, by omega⟩
      rw [hp]
      have HP : Hid (q = p + 1) := by show q = _; omega
      have Z : Hid (Chg w wr ∧ Ar wr w.heap.size (ba 16 (fromB (p + 1) f)) ∧ Ar wr (w.heap.size + 1) (ba 16 zB)) := by
        rw [← HP.out]
        exact ⟨z0, z1, z2⟩
      have hp16 : p < 16 := by omega
      have lp : (p : Int) < 16 := by omega
      have lp0 : decide ((0 : Int) ≤ p) = true := by simp
      have c1 := (Z.out.2.1.cell p).trans (ba_get 16 _ hp16)
      have f1 := Z.out.2.1.frozen p
      have ex : fromB (p + 1) f p = f p := by unfold fromB; rw [if_neg (by omega)]
      rw [ex] at c1
      obtain ⟨x, hx⟩ : ∃ x, x = f p := ⟨_, rfl⟩
      rw [← hx] at c1
      have HXp : Hid (x = f p) := hx
      obtain ⟨y, Hy, ey⟩ := nmS1 x
      clear z0 z1 z2 hp hq0 hx ex hq
      go_upto_region 6 with fail
      obtain ⟨w3, hw3⟩ : ∃ w3, w3 = wr.setCell ⟨w.heap.size, p, none⟩ (.int .u8 (y.toNat : Int)) := ⟨_, rfl⟩
      have Z3 : Hid (Chg w w3 ∧ Ar w3 w.heap.size (ba 16 (updB (fromB (p + 1) f) p y)) ∧ Ar w3 (w.heap.size + 1) (ba 16 zB)) := by
        obtain ⟨k0, k1, k2⟩ := Z.out
        rw [hw3]
        have := k1.set p (.int .u8 (y.toNat : Int))
        rw [ba_set] at this
        exact ⟨k0.setCell (by dsimp only; omega) _, this, k2.other (by dsimp only; omega) _⟩
      rw [← hw3]
      clear hw3 c1 f1 Z ey
      by_cases hp0 : p = 0
      · subst hp0
        have hd : decide ((0 : Int) < ((0 : Nat) : Int)) = false := by simp
        go_wp2_with fail
        go_roundw
        case rel =>
          refine ⟨0, by go_num, by omega, Z3.out.1, ?_, Z3.out.2.2⟩
          rw [← fromB_zero, ← HXp.out, ← Hy.out]
          exact Z3.out.2.1
        case measure => simp [intOf]
      · have hd : decide ((0 : Int) < (p : Int)) = true := by simp; omega
        obtain ⟨pm, hpm⟩ : ∃ pm : Nat, (p : Int) - 1 = pm := ⟨p - 1, by omega⟩
        have wpm := wrap_i (x := (pm : Int)) (by omega) (by omega)
        have lpm : pm < 16 := by omega
        have lpm' : (pm : Int) < 16 := by omega
        have d1 := (Z3.out.2.1.cell p).trans (ba_get 16 _ hp16)
        have d2 := (Z3.out.2.1.cell pm).trans (ba_get 16 _ lpm)
        have f2 := Z3.out.2.1.frozen p
        have e1 : updB (fromB (p + 1) f) p y p = y := by simp [updB]
        have e2 : updB (fromB (p + 1) f) p y pm = f (p - 1) := by
          unfold updB fromB
          rw [if_neg (by omega), if_neg (by omega), show pm = p - 1 by omega]
        rw [e1] at d1
        rw [e2] at d2
        obtain ⟨x2, hx2⟩ : ∃ x, x = f (p - 1) := ⟨_, rfl⟩
        rw [← hx2] at d2
        obtain ⟨y2, Hy2, ey2⟩ := nmS7 x2
        obtain ⟨y3, Hy3, ey3⟩ := nmO8 y y2
        have HY : Hid (y3 = (f p >>> 1) ||| (f (p - 1) <<< 7) ∧ y = f p >>> 1 ∧ 0 < p) := ⟨by rw [Hy3.out, Hy2.out, Hy.out, HXp.out, hx2], by rw [Hy.out, HXp.out], by omega⟩
        clear hx2 e1 e2 Hy2 Hy3 hp0
        go_wp2_with fail
        go_region_with (fail)
        all_goals go_wp2
        all_goals
          go_roundw
          case rel =>
            obtain ⟨k0, k1, k2⟩ := Z3.out
            refine ⟨p, by rw [hpm], by omega, (k0.setCell (by dsimp only; omega) _).drew, ?_, (k2.other (by dsimp only; omega) _).drew⟩
            have hh := k1.set p (.int .u8 (y3.toNat : Int))
            rw [ba_set, HY.out.1, HY.out.2.1, fromB_succ p f HY.out.2.2] at hh
            rw [ey2, ey3, HY.out.1]
            exact hh.drew
          case measure => simp [intOf]; omega
end Go.Proofs.Ytfnibmfmjglmlaa
