/-
  The document's products: bit, up, Mul.
-/
import Derived.Test.YtfnibmfmjglmlaaMul
namespace Go.Proofs.Ytfnibmfmjglmlaa
open Go.RowKit
set_option linter.unusedVariables false

/-! Bits and bytes of what is times x. -/
theorem and1 : ∀ s, s < 8 → ∀ i, i < 256 → (Go.bits .and .u8 (((BitVec.ofNat 8 i).toNat : Int) / 2 ^ s) 1 == 1) = (BitVec.ofNat 8 i).getLsbD s := by decide +kernel
theorem and1_byte (x : By) (s : Nat) (hs : s < 8) : (Go.bits .and .u8 ((x.toNat : Int) / 2 ^ s) 1 == 1) = x.getLsbD s := by
  have := and1 s hs x.toNat x.isLt
  simpa using this
theorem pol_low (f : Nat → By) : (pol f).getLsbD 0 = (pol f).getMsbD 127 := by
  unfold BitVec.getMsbD
  simp
theorem rMsb : ∀ k, k < 128 → (0xe1000000000000000000000000000000#128 : Po).getMsbD k = (decide (k < 8) && (0xe1#8 : By).getMsbD k) := by decide +kernel
theorem tx_msb (p : Po) (k : Nat) (hk : k < 128) : (tx p).getMsbD k = ((decide (1 ≤ k) && p.getMsbD (k - 1)) ^^ (p.getLsbD 0 && (decide (k < 8) && (0xe1#8 : By).getMsbD k))) := by
  unfold tx
  rw [BitVec.getMsbD_xor]
  congr 1
  · rw [BitVec.getMsbD_ushiftRight]
    by_cases h : k < 1
    · have : ¬ 1 ≤ k := by omega
      simp [h, this]
    · have : 1 ≤ k := by omega
      simp [h, this, hk]
  · cases p.getLsbD 0
    · simp
    · rw [if_pos rfl, rMsb k hk, Bool.true_and]
/-- A block's byte, moved on by one. -/
def sh (f : Nat → By) : Nat → By := fun j => if j = 0 then f 0 >>> 1 else (f j >>> 1) ||| (f (j - 1) <<< 7)
/-- A block times x. -/
def upB (f : Nat → By) : Nat → By := fun j => if j = 0 then sh f 0 ^^^ (if (pol f).getMsbD 127 then 0xe1#8 else 0#8) else sh f j
theorem sr_msb (x : By) (i : Nat) (hi : i < 8) : (x >>> 1).getMsbD i = (decide (1 ≤ i) && x.getMsbD (i - 1)) := by
  rw [BitVec.getMsbD_ushiftRight]
  by_cases h : i < 1
  · have : ¬ 1 ≤ i := by omega
    simp [h, this]
  · have : 1 ≤ i := by omega
    simp [h, this, hi]
theorem pol_up (f : Nat → By) : pol (upB f) = tx (pol f) := by
  apply BitVec.eq_of_getMsbD_eq
  intro k hk
  rw [pol_get _ hk, tx_msb _ _ hk, pol_low]
  have e1 : (decide (1 ≤ k) && (pol f).getMsbD (k - 1)) = (decide (1 ≤ k) && (f ((k - 1) / 8)).getMsbD ((k - 1) % 8)) := by
    by_cases h : 1 ≤ k
    · rw [pol_get f (by omega)]
    · simp [h]
  rw [e1]
  by_cases h0 : k / 8 = 0
  · have hk8 : k < 8 := by omega
    have hm : k % 8 = k := by omega
    unfold upB sh
    rw [h0, if_pos rfl, if_pos rfl, hm, BitVec.getMsbD_xor, sr_msb _ _ hk8]
    congr 1
    · by_cases h : 1 ≤ k
      · rw [show (k - 1) / 8 = 0 by omega, show (k - 1) % 8 = k - 1 by omega]
      · simp [h]
    · cases (pol f).getMsbD 127
      · simp
      · rw [if_pos rfl]; simp [hk8]
  · have hk8 : ¬ k < 8 := by omega
    have h1 : 1 ≤ k := by omega
    unfold upB sh
    rw [if_neg h0, if_neg h0, BitVec.getMsbD_or, sr_msb _ _ (by omega), BitVec.getMsbD_shiftLeft]
    simp only [hk8, h1, decide_false, decide_true, Bool.false_and, Bool.and_false, Bool.xor_false, Bool.true_and]
    by_cases h2 : 1 ≤ k % 8
    · rw [show (k - 1) / 8 = k / 8 by omega, show (k - 1) % 8 = k % 8 - 1 by omega]
      have : (f (k / 8 - 1)).getMsbD (k % 8 + 7) = false := by
        unfold BitVec.getMsbD
        have : ¬ k % 8 + 7 < 8 := by omega
        simp [this]
      rw [this]
      simp [h2]
    · have e2 : k % 8 = 0 := by omega
      rw [e2, show (k - 1) / 8 = k / 8 - 1 by omega, show (k - 1) % 8 = 7 by omega]
      simp

set_option maxRecDepth 100000 in
set_option maxHeartbeats 4000000 in
theorem bit_any (f : Nat → By) (i : Nat) (hi : i < 128) (w : World) : Calls Try.prog 35 #[.agg (ba 16 f), .int .i64 (i : Int)] w fun r w' => r = .returned (.bool ((pol f).getMsbD i)) ∧ Chg w w' := by
  have hsA := ba_size 16 f
  obtain ⟨A, hA⟩ : ∃ A, A = ba 16 f := ⟨_, rfl⟩
  have HA : Hid (A = ba 16 f) := hA
  rw [← hA] at hsA ⊢
  clear hA
  obtain ⟨d, hd⟩ : ∃ d : Nat, (i : Int).tdiv 8 = d := ⟨i / 8, by rw [Int.tdiv_eq_ediv_of_nonneg (by omega)]; omega⟩
  obtain ⟨m, hm⟩ : ∃ m : Nat, (i : Int).tmod 8 = m := ⟨i % 8, by rw [Int.tmod_eq_emod_of_nonneg (by omega)]; omega⟩
  have hd' : d = i / 8 := by rw [Int.tdiv_eq_ediv_of_nonneg (by omega)] at hd; omega
  have hm' : m = i % 8 := by rw [Int.tmod_eq_emod_of_nonneg (by omega)] at hm; omega
  obtain ⟨s, hs⟩ : ∃ s : Nat, (7 : Int) - m = s := ⟨7 - m, by omega⟩
  have wd := wrap_i (x := (d : Int)) (by omega) (by omega)
  have wm := wrap_i (x := (m : Int)) (by omega) (by omega)
  have ws := wrap_i (x := (s : Int)) (by omega) (by omega)
  have ld : d < 16 := by omega
  have ld' : (d : Int) < 16 := by omega
  have ls : ¬ (s : Int) < 0 := by omega
  have hb := and1_byte (f d) s (by omega)
  have e : (f d).getLsbD s = (pol f).getMsbD i := by
    rw [pol_get f hi, ← hd', ← hm']
    unfold BitVec.getMsbD
    have h1 : m < 8 := by omega
    simp [h1]
    rw [show s = 7 - m by omega]
  rw [e] at hb
  obtain ⟨bb, hbb⟩ : ∃ bb, bb = (pol f).getMsbD i := ⟨_, rfl⟩
  rw [← hbb] at hb ⊢
  obtain ⟨x, hx⟩ : ∃ x, x = f d := ⟨_, rfl⟩
  rw [← hx] at hb
  have HX : Hid (x = f d) := hx
  clear hx hbb e hd' hm' hi
  go_enter Try.func35, Try.ntmps35
  go_upto_region 1 with fail
  obtain ⟨w1, hw1⟩ : ∃ w1, w1 = w.alloc (.cells A 23) := ⟨_, rfl⟩
  have c1 : w1.cell? ⟨w.heap.size, d, none⟩ = some (.int .u8 (x.toNat : Int)) := by
    rw [hw1, HA.out, HX.out]
    exact ((Ar.new w _ _).cell d).trans (ba_get 16 f ld)
  have Z1 : Hid (Chg w w1) := by rw [hw1]; exact (Chg.refl w).alloc _
  rw [← hw1]
  clear hw1 hsA
  go_wp2
  go_ret
  exact ⟨rfl, Z1.out⟩
end Go.Proofs.Ytfnibmfmjglmlaa
