/-
  The document's products: bit, up, Mul.
  The document's up: a block times x.
  The document's product of two blocks.
-/
import Derived.Test.YtobglgddbhddnaaGreatJ06
namespace Go.Proofs.YtobglgddbhddnaaGreat
open Go.RowKit
set_option linter.unusedVariables false

/-! Bits and bytes of what is times x. -/
theorem and1 : ∀ s, s < 8 → ∀ i, i < 256 → (Go.bits .and .u8 (((BitVec.ofNat 8 i).toNat : Int) / 2 ^ s) 1 == 1) = (BitVec.ofNat 8 i).getLsbD s := by decide +kernel
theorem and1_byte (x : By) (s : Nat) (hs : s < 8) : (Go.bits .and .u8 ((x.toNat : Int) / 2 ^ s) 1 == 1) = x.getLsbD s := by
  have := and1 s hs x.toNat x.isLt
  simpa using this
theorem pol_low (f : Nat → By) : (pol f).getLsbD 0 = (pol f).getMsbD 127 := by
  unfold BitVec.getMsbD
  simp
theorem rMsb : ∀ k, k < 128 → (0xe1000000000000000000000000000000#128 : Po).getMsbD k = (decide (k < 8) && (0xe1#8 : By).getMsbD k) := by decide +kernel
theorem tx_msb (p : Po) (k : Nat) (hk : k < 128) : (tx p).getMsbD k = ((decide (1 ≤ k) && p.getMsbD (k - 1)) ^^ (p.getLsbD 0 && (decide (k < 8) && (0xe1#8 : By).getMsbD k))) := by
  unfold tx
  rw [BitVec.getMsbD_xor]
  congr 1
  · rw [BitVec.getMsbD_ushiftRight]
    by_cases h : k < 1
    · have : ¬ 1 ≤ k := by omega
      simp [h, this]
    · have : 1 ≤ k := by omega
      simp [h, this, hk]
  · cases p.getLsbD 0
    · simp
    · rw [if_pos rfl, rMsb k hk, Bool.true_and]
/-- A block's byte, moved on by one. -/
def sh (f : Nat → By) : Nat → By := fun j => if j = 0 then f 0 >>> 1 else (f j >>> 1) ||| (f (j - 1) <<< 7)
/-- A block times x. -/
def upB (f : Nat → By) : Nat → By := fun j => if j = 0 then sh f 0 ^^^ (if (pol f).getMsbD 127 then 0xe1#8 else 0#8) else sh f j
theorem sr_msb (x : By) (i : Nat) (hi : i < 8) : (x >>> 1).getMsbD i = (decide (1 ≤ i) && x.getMsbD (i - 1)) := by
  rw [BitVec.getMsbD_ushiftRight]
  by_cases h : i < 1
  · have : ¬ 1 ≤ i := by omega
    simp [h, this]
  · have : 1 ≤ i := by omega
    simp [h, this, hi]
theorem pol_up (f : Nat → By) : pol (upB f) = tx (pol f) := by
  apply BitVec.eq_of_getMsbD_eq
  intro k hk
  rw [pol_get _ hk, tx_msb _ _ hk, pol_low]
  have e1 : (decide (1 ≤ k) && (pol f).getMsbD (k - 1)) = (decide (1 ≤ k) && (f ((k - 1) / 8)).getMsbD ((k - 1) % 8)) := by
    by_cases h : 1 ≤ k
    · rw [pol_get f (by omega)]
    · simp [h]
  rw [e1]
  by_cases h0 : k / 8 = 0
  · have hk8 : k < 8 := by omega
    have hm : k % 8 = k := by omega
    unfold upB sh
    rw [h0, if_pos rfl, if_pos rfl, hm, BitVec.getMsbD_xor, sr_msb _ _ hk8]
    congr 1
    · by_cases h : 1 ≤ k
      · rw [show (k - 1) / 8 = 0 by omega, show (k - 1) % 8 = k - 1 by omega]
      · simp [h]
    · cases (pol f).getMsbD 127
      · simp
      · rw [if_pos rfl]; simp [hk8]
  · have hk8 : ¬ k < 8 := by omega
    have h1 : 1 ≤ k := by omega
    unfold upB sh
    rw [if_neg h0, if_neg h0, BitVec.getMsbD_or, sr_msb _ _ (by omega), BitVec.getMsbD_shiftLeft]
    simp only [hk8, h1, decide_false, decide_true, Bool.false_and, Bool.and_false, Bool.xor_false, Bool.true_and]
    by_cases h2 : 1 ≤ k % 8
    · rw [show (k - 1) / 8 = k / 8 by omega, show (k - 1) % 8 = k % 8 - 1 by omega]
      have : (f (k / 8 - 1)).getMsbD (k % 8 + 7) = false := by
        unfold BitVec.getMsbD
        have : ¬ k % 8 + 7 < 8 := by omega
        simp [this]
      rw [this]
      simp [h2]
    · have e2 : k % 8 = 0 := by omega
      rw [e2, show (k - 1) / 8 = k / 8 - 1 by omega, show (k - 1) % 8 = 7 by omega]
      simp

set_option maxRecDepth 100000 in
set_option maxHeartbeats 4000000 in
theorem bit_any (f : Nat → By) (i : Nat) (hi : i < 128) (w : World) : Calls Tryz.prog 71 #[.agg (ba 16 f), .int .i64 (i : Int)] w fun r w' => r = .returned (.bool ((pol f).getMsbD i)) ∧ Chg w w' := by
  have hsA := ba_size 16 f
  obtain ⟨A, hA⟩ : ∃ A, A = ba 16 f := ⟨_, rfl⟩
  have HA : Hid (A = ba 16 f) := hA
  rw [← hA] at hsA ⊢
  clear hA
  obtain ⟨d, hd⟩ : ∃ d : Nat, (i : Int).tdiv 8 = d := ⟨i / 8, by rw [Int.tdiv_eq_ediv_of_nonneg (by omega)]; omega⟩
  obtain ⟨m, hm⟩ : ∃ m : Nat, (i : Int).tmod 8 = m := ⟨i % 8, by rw [Int.tmod_eq_emod_of_nonneg (by omega)]; omega⟩
  have hd' : d = i / 8 := by rw [Int.tdiv_eq_ediv_of_nonneg (by omega)] at hd; omega
  have hm' : m = i % 8 := by rw [Int.tmod_eq_emod_of_nonneg (by omega)] at hm; omega
  obtain ⟨s, hs⟩ : ∃ s : Nat, (7 : Int) - m = s := ⟨7 - m, by omega⟩
  have wd := wrap_i (x := (d : Int)) (by omega) (by omega)
  have wm := wrap_i (x := (m : Int)) (by omega) (by omega)
  have ws := wrap_i (x := (s : Int)) (by omega) (by omega)
  have ld : d < 16 := by omega
  have ld' : (d : Int) < 16 := by omega
  have ls : ¬ (s : Int) < 0 := by omega
  have hb := and1_byte (f d) s (by omega)
  have e : (f d).getLsbD s = (pol f).getMsbD i := by
    rw [pol_get f hi, ← hd', ← hm']
    unfold BitVec.getMsbD
    have h1 : m < 8 := by omega
    simp [h1]
    rw [show s = 7 - m by omega]
  rw [e] at hb
  obtain ⟨bb, hbb⟩ : ∃ bb, bb = (pol f).getMsbD i := ⟨_, rfl⟩
  rw [← hbb] at hb ⊢
  obtain ⟨x, hx⟩ : ∃ x, x = f d := ⟨_, rfl⟩
  rw [← hx] at hb
  have HX : Hid (x = f d) := hx
  clear hx hbb e hd' hm' hi
  go_enter Tryz.func71, Tryz.ntmps71
  go_upto_region 1 with fail
  obtain ⟨w1, hw1⟩ : ∃ w1, w1 = w.alloc (.cells A 62) := ⟨_, rfl⟩
  have c1 : w1.cell? ⟨w.heap.size, d, none⟩ = some (.int .u8 (x.toNat : Int)) := by
    rw [hw1, HA.out, HX.out]
    exact ((Ar.new w _ _).cell d).trans (ba_get 16 f ld)
  have Z1 : Hid (Chg w w1) := by rw [hw1]; exact (Chg.refl w).alloc _
  rw [← hw1]
  clear hw1 hsA
  go_wp2
  go_ret
  exact ⟨rfl, Z1.out⟩

theorem shr1_num : ∀ i, i < 256 → ((BitVec.ofNat 8 i).toNat : Int) / 2 = (((BitVec.ofNat 8 i) >>> 1).toNat : Int) := by decide +kernel
theorem shl7_num : ∀ i, i < 256 → ((BitVec.ofNat 8 i).toNat : Int) * 128 % 256 = (((BitVec.ofNat 8 i) <<< 7).toNat : Int) := by decide +kernel
theorem nmS1 (x : By) : ∃ z : By, Hid (z = x >>> 1) ∧ (x.toNat : Int) / 2 = (z.toNat : Int) := ⟨_, rfl, by have := shr1_num x.toNat x.isLt; simpa using this⟩
theorem nmS7 (x : By) : ∃ z : By, Hid (z = x <<< 7) ∧ (x.toNat : Int) * 128 % 256 = (z.toNat : Int) := ⟨_, rfl, by have := shl7_num x.toNat x.isLt; simpa using this⟩
theorem nmO8 (x y : By) : ∃ z : By, Hid (z = x ||| y) ∧ Go.bits .or .u8 (x.toNat : Int) (y.toNat : Int) = (z.toNat : Int) := ⟨_, rfl, by rw [u8_or_nat _ _ x.isLt y.isLt, BitVec.toNat_or]⟩
theorem nmX8 (x : By) : ∃ z : By, Hid (z = x ^^^ 0xe1#8) ∧ Go.bits .xor .u8 (x.toNat : Int) 225 = (z.toNat : Int) := ⟨_, rfl, by
  have := xorB x 0xe1#8
  exact this⟩

/-- From a place on moved, ahead of it as it was. -/
def fromB (q : Nat) (f : Nat → By) : Nat → By := fun j => if q ≤ j then sh f j else f j
theorem fromB_all (f : Nat → By) : fromB 0 f = sh f := by funext j; simp [fromB]
theorem fromB_none (f : Nat → By) : ba 16 (fromB 16 f) = ba 16 f := ba_congr fun j hj => by
  unfold fromB
  rw [if_neg (by omega)]
theorem fromB_zero (f : Nat → By) : updB (fromB 1 f) 0 (f 0 >>> 1) = fromB 0 f := by
  funext j
  unfold updB fromB
  by_cases h : j = 0
  · subst h; simp [sh]
  · have : 1 ≤ j := by omega
    simp [h, this]
theorem fromB_succ (p : Nat) (f : Nat → By) (hp : 0 < p) : updB (updB (fromB (p + 1) f) p (f p >>> 1)) p ((f p >>> 1) ||| (f (p - 1) <<< 7)) = fromB p f := by
  funext j
  unfold updB fromB
  by_cases h : j = p
  · subst h
    have : ¬ j = 0 := by omega
    simp [sh, this]
  · by_cases h2 : p ≤ j
    · have : p + 1 ≤ j := by omega
      simp [h, h2, this]
    · have : ¬ p + 1 ≤ j := by omega
      simp [h, h2, this]

set_option maxRecDepth 100000 in
set_option maxHeartbeats 8000000 in
theorem up_any (f : Nat → By) (w : World) : Calls Tryz.prog 72 #[.agg (ba 16 f)] w fun r w' => r = .returned (.agg (ba 16 (upB f))) ∧ Chg w w' := by
  have hz := zero32.1
  have hsA := ba_size 16 f
  have hszA := szB f zero32.2
  obtain ⟨hb, hhb⟩ : ∃ hb, hb = (pol f).getMsbD 127 := ⟨_, rfl⟩
  have HB : Hid (hb = (pol f).getMsbD 127) := hhb
  have HC : Hid (∀ u, Calls Tryz.prog 71 #[.agg (ba 16 f), .int .i64 127] u fun r w' => r = .returned (.bool hb) ∧ Chg u w') := by
    rw [hhb]
    exact fun u => bit_any f 127 (by decide) u
  obtain ⟨A, hA⟩ : ∃ A, A = ba 16 f := ⟨_, rfl⟩
  have HA : Hid (A = ba 16 f) := hA
  rw [← hA] at hsA hszA HC ⊢
  clear hA hhb
  go_enter Tryz.func72, Tryz.ntmps72
  go_upto_region 1 with fail
  obtain ⟨w1, hw1⟩ : ∃ w1, w1 = (w.alloc (.cells A 62)).alloc (.cells (ba 16 zB) 62) := ⟨_, rfl⟩
  have Z1 : Hid (Chg w w1 ∧ Ar w1 w.heap.size A ∧ Ar w1 (w.heap.size + 1) (ba 16 zB)) := by
    rw [hw1]
    exact ⟨((Chg.refl w).alloc _).alloc _, (Ar.new w _ _).alloc _, Ar.new1 w _ _ _⟩
  rw [← hw1]
  obtain ⟨tA, gA⟩ := Z1.out.2.1
  clear hw1 hsA hz
  go_wp2_with (first | refine wpList_load_row rfl 62 _ rfl _ rfl _ _ _ _ gA und32 rfl hszA ?_)
  go_at_call 71
  refine (HC.out _).mono ?_
  rintro r w2 ⟨rfl, hc2⟩
  have Z2 : Hid (Chg w w2 ∧ Ar w2 w.heap.size (ba 16 f) ∧ Ar w2 (w.heap.size + 1) (ba 16 zB)) := by
    rw [← HA.out]
    exact ⟨Z1.out.1.trans hc2, Z1.out.2.1.chg hc2, Z1.out.2.2.chg hc2⟩
  clear hc2 Z1 gA hszA HC
  go_wp2_with fail
  go_loopw [4] (fun v wr => ∃ (q : Nat), v = .int .i64 ((q : Int) - 1) ∧ q ≤ 16 ∧ Chg w wr ∧ Ar wr w.heap.size (ba 16 (fromB q f)) ∧ Ar wr (w.heap.size + 1) (ba 16 zB)) (fun v wr => (intOf v + 1).toNat)
  case atStart =>
    refine ⟨16, rfl, by omega, Z2.out.1, ?_, Z2.out.2.2⟩
    rw [fromB_none]
    exact Z2.out.2.1
  case round =>
    clear Z2
    obtain ⟨q, rfl, hq, z0, z1, z2⟩ := hrel
    by_cases hq0 : q = 0
    · subst hq0
      have Z : Hid (Chg w wr ∧ Ar wr w.heap.size (ba 16 (sh f)) ∧ Ar wr (w.heap.size + 1) (ba 16 zB)) := by
        rw [fromB_all] at z1
        exact ⟨z0, z1, z2⟩
      have e0 : ((0 : Nat) : Int) - 1 = -1 := rfl
      rw [e0]
      have c0 := (Z.out.2.1.cell 0).trans (ba_get 16 (sh f) (by decide))
      have f0 := Z.out.2.1.frozen 0
      obtain ⟨x, hx⟩ : ∃ x, x = sh f 0 := ⟨_, rfl⟩
      rw [← hx] at c0
      obtain ⟨y, Hy, ey⟩ := nmX8 x
      have HXs : Hid (x = sh f 0) := hx
      clear z0 z1 z2 hx e0
      go_upto_if 30 with fail
      go_cut [] from 31 to 35 (fun wc => Chg w wc ∧ Ar wc w.heap.size (ba 16 (upB f)) ∧ Ar wc (w.heap.size + 1) (ba 16 zB))
      case first =>
        cases hb with
        | true =>
          go_wp2_with fail
          go_meet
          obtain ⟨k0, k1, k2⟩ := Z.out
          refine ⟨k0.setCell (by dsimp only; omega) _, ?_, k2.other (by dsimp only; omega) _⟩
          have := k1.set 0 (.int .u8 (y.toNat : Int))
          rw [ba_set] at this
          have e : ba 16 (upB f) = ba 16 (updB (sh f) 0 y) := ba_congr fun j hj => by
            unfold updB upB
            rw [← HB.out]
            by_cases h : j = 0
            · rw [if_pos h, if_pos h, Hy.out, HXs.out]; rfl
            · rw [if_neg h, if_neg h]
          rw [e]
          exact this
        | false =>
          go_wp2_with fail
          go_meet
          obtain ⟨k0, k1, k2⟩ := Z.out
          refine ⟨k0, ?_, k2⟩
          have e : ba 16 (upB f) = ba 16 (sh f) := ba_congr fun j hj => by
            unfold upB
            rw [← HB.out]
            by_cases h : j = 0
            · rw [if_pos h, h]; simp
            · rw [if_neg h]
          rw [e]
          exact k1
      case rest =>
        obtain ⟨z0, z1, z2⟩ := hcut
        obtain ⟨g, hg⟩ : ∃ g, g = upB f := ⟨_, rfl⟩
        have HG : Hid (g = upB f) := hg
        rw [← hg] at z1
        have Z3 : Hid (Chg w wc ∧ Ar wc (w.heap.size + 1) (ba 16 zB)) := ⟨z0, z2⟩
        obtain ⟨t1, g1⟩ := z1
        obtain ⟨t3, g3⟩ := z2
        have hsz := szB g zero32.2
        have hlen := lenB 16 zB g
        have hone := ba_one 16 g
        clear hg z0 c0 f0 ey
        go_wp2_with (first | refine wpList_load_row rfl 62 _ rfl _ rfl _ _ _ _ g1 und32 rfl hsz ?_ | refine wpList_store_row rfl 62 _ _ rfl _ _ rfl rfl _ _ g3 hsz hlen hone ?_)
        refine bp_c (n := 16) (c := ba 16 g) Tryz.results72 rfl rfl ?_ und32 i32 (ba_size _ _) ⟨by rw [HG.out], ?_⟩
        · exact Z3.out.2.row _
        · exact Z3.out.1.setRow (by omega) _
    · obtain ⟨p, hp⟩ : ∃ p : Nat, (q : Int) - 1 = p := ⟨q - 1, by omega⟩
      rw [hp]
      have HP : Hid (q = p + 1) := by show q = _; omega
      have Z : Hid (Chg w wr ∧ Ar wr w.heap.size (ba 16 (fromB (p + 1) f)) ∧ Ar wr (w.heap.size + 1) (ba 16 zB)) := by
        rw [← HP.out]
        exact ⟨z0, z1, z2⟩
      have hp16 : p < 16 := by omega
      have lp : (p : Int) < 16 := by omega
      have lp0 : decide ((0 : Int) ≤ p) = true := by simp
      have c1 := (Z.out.2.1.cell p).trans (ba_get 16 _ hp16)
      have f1 := Z.out.2.1.frozen p
      have ex : fromB (p + 1) f p = f p := by unfold fromB; rw [if_neg (by omega)]
      rw [ex] at c1
      obtain ⟨x, hx⟩ : ∃ x, x = f p := ⟨_, rfl⟩
      rw [← hx] at c1
      have HXp : Hid (x = f p) := hx
      obtain ⟨y, Hy, ey⟩ := nmS1 x
      clear z0 z1 z2 hp hq0 hx ex hq
      go_upto_region 6 with fail
      obtain ⟨w3, hw3⟩ : ∃ w3, w3 = wr.setCell ⟨w.heap.size, p, none⟩ (.int .u8 (y.toNat : Int)) := ⟨_, rfl⟩
      have Z3 : Hid (Chg w w3 ∧ Ar w3 w.heap.size (ba 16 (updB (fromB (p + 1) f) p y)) ∧ Ar w3 (w.heap.size + 1) (ba 16 zB)) := by
        obtain ⟨k0, k1, k2⟩ := Z.out
        rw [hw3]
        have := k1.set p (.int .u8 (y.toNat : Int))
        rw [ba_set] at this
        exact ⟨k0.setCell (by dsimp only; omega) _, this, k2.other (by dsimp only; omega) _⟩
      rw [← hw3]
      clear hw3 c1 f1 Z ey
      by_cases hp0 : p = 0
      · subst hp0
        have hd : decide ((0 : Int) < ((0 : Nat) : Int)) = false := by simp
        go_wp2_with fail
        go_roundw
        case rel =>
          refine ⟨0, by go_num, by omega, Z3.out.1, ?_, Z3.out.2.2⟩
          rw [← fromB_zero, ← HXp.out, ← Hy.out]
          exact Z3.out.2.1
        case measure => simp [intOf]
      · have hd : decide ((0 : Int) < (p : Int)) = true := by simp; omega
        obtain ⟨pm, hpm⟩ : ∃ pm : Nat, (p : Int) - 1 = pm := ⟨p - 1, by omega⟩
        have wpm := wrap_i (x := (pm : Int)) (by omega) (by omega)
        have lpm : pm < 16 := by omega
        have lpm' : (pm : Int) < 16 := by omega
        have d1 := (Z3.out.2.1.cell p).trans (ba_get 16 _ hp16)
        have d2 := (Z3.out.2.1.cell pm).trans (ba_get 16 _ lpm)
        have f2 := Z3.out.2.1.frozen p
        have e1 : updB (fromB (p + 1) f) p y p = y := by simp [updB]
        have e2 : updB (fromB (p + 1) f) p y pm = f (p - 1) := by
          unfold updB fromB
          rw [if_neg (by omega), if_neg (by omega), show pm = p - 1 by omega]
        rw [e1] at d1
        rw [e2] at d2
        obtain ⟨x2, hx2⟩ : ∃ x, x = f (p - 1) := ⟨_, rfl⟩
        rw [← hx2] at d2
        obtain ⟨y2, Hy2, ey2⟩ := nmS7 x2
        obtain ⟨y3, Hy3, ey3⟩ := nmO8 y y2
        have HY : Hid (y3 = (f p >>> 1) ||| (f (p - 1) <<< 7) ∧ y = f p >>> 1 ∧ 0 < p) := ⟨by rw [Hy3.out, Hy2.out, Hy.out, HXp.out, hx2], by rw [Hy.out, HXp.out], by omega⟩
        clear hx2 e1 e2 Hy2 Hy3 hp0
        go_wp2_with fail
        go_region_with (fail)
        all_goals go_wp2
        all_goals
          go_roundw
          case rel =>
            obtain ⟨k0, k1, k2⟩ := Z3.out
            refine ⟨p, by rw [hpm], by omega, (k0.setCell (by dsimp only; omega) _).drew, ?_, (k2.other (by dsimp only; omega) _).drew⟩
            have hh := k1.set p (.int .u8 (y3.toNat : Int))
            rw [ba_set, HY.out.1, HY.out.2.1, fromB_succ p f HY.out.2.2] at hh
            rw [ey2, ey3, HY.out.1]
            exact hh.drew
          case measure => simp [intOf]; omega

/-- A block, so many times x. -/
def upn (f : Nat → By) : Nat → Nat → By
  | 0 => f
  | n + 1 => upB (upn f n)
theorem pol_upn (f : Nat → By) (n : Nat) : pol (upn f n) = txn n (pol f) := by
  induction n with
  | zero => rfl
  | succ n ih =>
    show pol (upB (upn f n)) = tx (txn n (pol f))
    rw [pol_up, ih]
/-- Behind so many bits. -/
def oun (a b : Nat → By) : Nat → Nat → By
  | 0 => zB
  | n + 1 => if (pol b).getMsbD n then xr (oun a b n) (upn a n) else oun a b n
theorem pol_oun (a b : Nat → By) (n : Nat) : pol (oun a b n) = prS (pol b) (pol a) n := by
  induction n with
  | zero => show pol zB = 0#128; decide +kernel
  | succ n ih =>
    rw [prS_succ, ← ih, ← pol_upn]
    show pol (if (pol b).getMsbD n then xr (oun a b n) (upn a n) else oun a b n) = _
    cases (pol b).getMsbD n
    · simp [sel]
    · rw [if_pos rfl, pol_xr]
      simp [sel]
theorem oun_all (a b : Nat → By) : ba 16 (oun a b 128) = ba 16 (mulB a b) := ba_congr (pol_inj (by
  rw [pol_oun, prS_all, pr_comm, mulB, pol_byt]))

/-- What stands while the document multiplies. -/
structure MuS (w wr : World) (a b o : Nat → By) : Prop where
  chg : Chg w wr
  a : Ar wr w.heap.size (ba 16 a)
  b : Ar wr (w.heap.size + 1) (ba 16 b)
  out : Ar wr (w.heap.size + 1 + 1) (ba 16 zB)
  o : Ar wr (w.heap.size + 1 + 1 + 1) (ba 16 o)
theorem MuS.to {w wr u : World} {a b o : Nat → By} (h : MuS w wr a b o) (k : Chg wr u) : MuS w u a b o := ⟨h.chg.trans k, h.a.chg k, h.b.chg k, h.out.chg k, h.o.chg k⟩

set_option maxRecDepth 100000 in
set_option maxHeartbeats 8000000 in
theorem refMul_any (a b : Nat → By) (w : World) : Calls Tryz.prog 57 #[.agg (ba 16 a), .agg (ba 16 b)] w fun r w' => r = .returned (.agg (ba 16 (mulB a b))) ∧ Chg w w' := by
  have hz := zero32.1
  have hsA := ba_size 16 a
  have hsB := ba_size 16 b
  obtain ⟨A, hA⟩ : ∃ A, A = ba 16 a := ⟨_, rfl⟩
  obtain ⟨B, hB⟩ : ∃ B, B = ba 16 b := ⟨_, rfl⟩
  have HAB : Hid (A = ba 16 a ∧ B = ba 16 b) := ⟨hA, hB⟩
  rw [← hA] at hsA ⊢
  rw [← hB] at hsB ⊢
  clear hA hB
  go_enter Tryz.func57, Tryz.ntmps57
  go_upto_region 2 with fail
  obtain ⟨w1, hw1⟩ : ∃ w1, w1 = (((w.alloc (.cells A 62)).alloc (.cells B 62)).alloc (.cells (ba 16 zB) 62)).alloc (.cells (ba 16 zB) 62) := ⟨_, rfl⟩
  have Z1 : Hid (MuS w w1 (upn a 0) b (oun a b 0)) := by
    rw [hw1, HAB.out.1, HAB.out.2]
    refine ⟨((((Chg.refl w).alloc _).alloc _).alloc _).alloc _, (((Ar.new w _ _).alloc _).alloc _).alloc _, ((Ar.new1 w _ _ _).alloc _).alloc _, (Ar.new2 w _ _ _ _).alloc _, ?_⟩
    have := Ar.new (((w.alloc (.cells (ba 16 a) 62)).alloc (.cells (ba 16 b) 62)).alloc (.cells (ba 16 zB) 62)) (ba 16 zB) 62
    rwa [World.size_alloc, World.size_alloc, World.size_alloc] at this
  rw [← hw1]
  clear hw1 hsA hsB hz
  go_wp2_with fail
  go_loopw [6] (fun v wr => ∃ (i : Nat), v = .int .i64 i ∧ i ≤ 128 ∧ MuS w wr (upn a i) b (oun a b i)) (fun v wr => 128 - (intOf v).toNat)
  case atStart => exact ⟨0, rfl, by omega, Z1.out⟩
  case round =>
    clear Z1
    obtain ⟨i, rfl, hi, hz1⟩ := hrel
    obtain ⟨ua, hua⟩ : ∃ ua, ua = upn a i := ⟨_, rfl⟩
    obtain ⟨oo, hoo⟩ : ∃ oo, oo = oun a b i := ⟨_, rfl⟩
    have HU : Hid (ua = upn a i ∧ oo = oun a b i) := ⟨hua, hoo⟩
    rw [← hua, ← hoo] at hz1
    have Z : Hid (MuS w wr ua b oo) := hz1
    clear hua hoo
    by_cases h128 : i < 128
    · have hd : decide ((i : Int) < 128) = true := by simp; omega
      obtain ⟨bb, hbb⟩ : ∃ bb, bb = (pol b).getMsbD i := ⟨_, rfl⟩
      have HBB : Hid (bb = (pol b).getMsbD i) := hbb
      have HC : Hid (Calls Tryz.prog 71 #[.agg (ba 16 b), .int .i64 (i : Int)] wr fun r w' => r = .returned (.bool bb) ∧ Chg wr w') := by
        rw [hbb]
        exact bit_any b i h128 wr
      obtain ⟨tb, gb⟩ := hz1.b
      have hsb := szB b zero32.2
      clear hz1 hbb
      go_wp2_with (first | refine wpList_load_row rfl 62 _ rfl _ rfl _ _ _ _ gb und32 rfl hsb ?_)
      go_at_call 71
      refine HC.out.mono ?_
      rintro r w2 ⟨rfl, hc2⟩
      have Z2 : Hid (MuS w w2 ua b oo) := Z.out.to hc2
      clear hc2 gb hsb HC Z
      obtain ⟨on, hon⟩ : ∃ on, on = oun a b (i + 1) := ⟨_, rfl⟩
      have HON : Hid (on = oun a b (i + 1)) := hon
      have HO : Hid ((bb = true → on = xr oo ua) ∧ (bb = false → on = oo)) := by
        constructor
        · intro h
          rw [hon, HU.out.1, HU.out.2, oun, ← HBB.out, h, if_pos rfl]
        · intro h
          rw [hon, HU.out.2, oun, ← HBB.out, h]
          rfl
      clear hon
      go_upto_if 14 with fail
      go_cut [7] from 15 to 28 (fun v wc => MuS w wc ua b on)
      case first =>
        cases bb with
        | true =>
          go_wp2_with fail
          go_loopw [7] (fun v wr => ∃ (k : Nat), v = .int .i64 k ∧ k ≤ 16 ∧ MuS w wr ua b (upTo k (xr oo ua) oo)) (fun v wr => 16 - (intOf v).toNat)
          case atStart =>
            refine ⟨0, rfl, by omega, ?_⟩
            rw [upTo_zero]
            exact Z2.out
          case round =>
            clear Z2
            obtain ⟨k, rfl, hk, hz2⟩ := hrel
            have Z : Hid (MuS w wr ua b (upTo k (xr oo ua) oo)) := hz2
            by_cases h16 : k < 16
            · have hd2 : decide ((k : Int) < 16) = true := by simp; omega
              have lk : (k : Int) < 16 := by omega
              have c1 := (hz2.o.cell k).trans (ba_get 16 _ h16)
              have c2 := (hz2.a.cell k).trans (ba_get 16 _ h16)
              have f1 := hz2.o.frozen k
              have e0 : upTo k (xr oo ua) oo k = oo k := by simp [upTo]
              rw [e0] at c1
              obtain ⟨x, hx⟩ : ∃ x, x = oo k := ⟨_, rfl⟩
              obtain ⟨y, hy⟩ : ∃ y, y = ua k := ⟨_, rfl⟩
              rw [← hx] at c1
              rw [← hy] at c2
              have HX : Hid (xr oo ua k = x ^^^ y) := by show xr oo ua k = _; rw [hx, hy, xr]
              clear hx hy hz2 e0
              go_wp2_with fail
              go_region_with (fail)
              all_goals go_wp2
              all_goals
                go_roundw
                case rel =>
                  obtain ⟨k0, k1, k2, k3, k4⟩ := Z.out
                  refine ⟨k + 1, by go_num, by omega, (k0.setCell (by dsimp only; omega) _).drew, (k1.other (by dsimp only; omega) _).drew, (k2.other (by dsimp only; omega) _).drew, (k3.other (by dsimp only; omega) _).drew, ?_⟩
                  have hh := k4.set k (.int .u8 (Go.bits .xor .u8 (x.toNat : Int) (y.toNat : Int)))
                  rw [xorB, ba_set, ← HX.out, upTo_upd] at hh
                  rw [xorB, ← HX.out]
                  exact hh.drew
                case measure => simp [intOf]; omega
            · have hk2 : k = 16 := by omega
              have hd2 : decide ((k : Int) < 16) = false := by simp; omega
              clear hz2
              go_wp2_with fail
              go_meet
              obtain ⟨k0, k1, k2, k3, k4⟩ := Z.out
              refine ⟨k0, k1, k2, k3, ?_⟩
              rw [hk2, upTo_all] at k4
              rw [HO.out.1 (by first | rfl | trivial)]
              exact k4
        | false =>
          go_wp2_with fail
          go_meet
          rw [HO.out.2 (by first | rfl | trivial)]
          exact Z2.out
      case rest =>
        have Z3 : Hid (MuS w wc ua b on) := hcut
        obtain ⟨t1, g1⟩ := hcut.a
        have s1 := szB ua zero32.2
        obtain ⟨u2, hu2⟩ : ∃ u2, u2 = upn a (i + 1) := ⟨_, rfl⟩
        have HU2 : Hid (u2 = upn a (i + 1)) := hu2
        have HC : Hid (Calls Tryz.prog 72 #[.agg (ba 16 ua)] wc fun r w' => r = .returned (.agg (ba 16 u2)) ∧ Chg wc w') := by
          rw [hu2, HU.out.1]
          exact up_any (upn a i) wc
        have s2 := szB u2 zero32.2
        have l2 := lenB 16 ua u2
        have o2 := ba_one 16 u2
        clear hcut hu2
        go_wp2_with (first | refine wpList_load_row rfl 62 _ rfl _ rfl _ _ _ _ g1 und32 rfl s1 ?_)
        go_at_call 72
        refine HC.out.mono ?_
        rintro r w4 ⟨rfl, hc4⟩
        have Z4 : Hid (MuS w w4 ua b on) := Z3.out.to hc4
        obtain ⟨t4, g4⟩ := Z4.out.a
        clear hc4 HC g1 s1 Z3
        go_wp2_with (first | refine wpList_store_row rfl 62 _ _ rfl _ _ rfl rfl _ _ g4 s2 l2 o2 ?_)
        go_roundw
        case rel =>
          obtain ⟨k0, k1, k2, k3, k4⟩ := Z4.out
          rw [HON.out] at k4
          refine ⟨i + 1, by go_num, by omega, k0.setRow (by omega) _, ?_, k2.rowOther (by omega) _, k3.rowOther (by omega) _, k4.rowOther (by omega) _⟩
          rw [HU2.out]
          exact k1.row _
        case measure => simp [intOf]; omega
    · have hi2 : i = 128 := by omega
      have hd : decide ((i : Int) < 128) = false := by simp; omega
      have HG : Hid (ba 16 oo = ba 16 (mulB a b)) := by
        show ba 16 oo = _
        rw [HU.out.2, hi2, oun_all]
      obtain ⟨t1, g1⟩ := hz1.o
      obtain ⟨t3, g3⟩ := hz1.out
      have hsz := szB oo zero32.2
      have hlen := lenB 16 zB oo
      have hone := ba_one 16 oo
      clear hz1 hi2
      go_wp2_with (first | refine wpList_load_row rfl 62 _ rfl _ rfl _ _ _ _ g1 und32 rfl hsz ?_ | refine wpList_store_row rfl 62 _ _ rfl _ _ rfl rfl _ _ g3 hsz hlen hone ?_)
      refine bp_c (n := 16) (c := ba 16 oo) Tryz.results57 rfl rfl ?_ und32 i32 (ba_size _ _) ⟨by rw [HG.out], ?_⟩
      · exact Z.out.out.row _
      · exact Z.out.chg.setRow (by omega) _
end Go.Proofs.YtobglgddbhddnaaGreat
