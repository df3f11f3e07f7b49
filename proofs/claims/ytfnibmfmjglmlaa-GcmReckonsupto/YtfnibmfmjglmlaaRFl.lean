/-
  The document's full and length: bytes filled up to whole blocks, a number of bits in eight bytes.
-/
import Derived.Test.YtfnibmfmjglmlaaHh
namespace Go.Proofs.Ytfnibmfmjglmlaa
open Go.RowKit
set_option linter.unusedVariables false

def slen : Value → Nat
  | .slice _ n _ => n
  | _ => 0
/-- Bytes, and noughts behind them. -/
def fillF (f : Nat → By) (n : Nat) : Nat → By := fun j => if j < n then f j else 0#8
theorem nums_fill (f : Nat → By) (n : Nat) : nums n f = nums n (fillF f n) := nums_congr fun i hi => by
  unfold fillF
  rw [if_pos hi]

set_option maxRecDepth 100000 in
set_option maxHeartbeats 8000000 in
theorem full_any (f : Nat → By) (n cap : Nat) (ao : Option Addr) (w : World) (hv : Ap.Rd w (.slice ao n cap) (nums n f)) (hn : n ≤ 140737488351232) :
    Calls Try.prog 39 #[.slice ao n cap] w fun r w' => ∃ v, r = .returned v ∧ OwnN w w' v (nums (16 * nb n) (fillF f n)) := by
  have Zr : Hid (Ap.Rd (w.alloc (.cells #[] 5)) (.slice ao n cap) (nums n f)) := Rd.chg hv ((Chg.refl w).alloc _)
  clear hv
  go_enter Try.func39, Try.ntmps39
  go_wp2_with (at_builtin; refine Ap.wpList_app _ rfl _ _ rfl (.slice (some ⟨w.heap.size, 0, none⟩) 0 0) (.slice ao n cap) [] (nums n f) rfl rfl (OwnV.empty w) Zr.out (by rw [nums_len]; simp; omega) ?_)
  intro v2 w1 o2 cc2 b2
  have k0 : OwnN w (w.alloc (.cells #[] 5)) (.slice (some ⟨w.heap.size, 0, none⟩) 0 0) [] := ⟨OwnV.empty w, fun k e => by simp [Value.ownBlock] at e; omega, (Chg.refl w).alloc _⟩
  have k2' := k0.more o2 cc2 (by first | exact b2 | (rw [World.size_alloc]; exact b2))
  obtain ⟨oo, m, oc, rfl, hm, -⟩ := o2.rd.shape
  rw [nums_len] at hm
  have Z1 : Hid (OwnN w w1 (.slice oo m oc) (nums m (fillF f n)) ∧ m = n) := by
    refine ⟨?_, hm⟩
    rw [hm, ← nums_fill]
    rw [hm] at k2'
    exact k2'
  clear k0 k2' o2 cc2 b2 Zr hm
  go_wp2_with fail
  go_loopw [3] (fun v wr => ∃ (m : Nat), OwnN w wr v (nums m (fillF f n)) ∧ n ≤ m ∧ m ≤ 16 * nb n) (fun v wr => 16 * nb n - slen v)
  case atStart =>
    refine ⟨m, Z1.out.1, by rw [Z1.out.2]; exact Nat.le_refl _, ?_⟩
    have := Z1.out.2
    unfold nb
    omega
  case round =>
    clear Z1
    obtain ⟨m, ho, h1, h2⟩ := hrel
    obtain ⟨oo, m', oc, rfl, hm, -⟩ := ho.own.rd.shape
    rw [nums_len] at hm
    subst hm
    have Z : Hid (OwnN w wr (.slice oo m' oc) (nums m' (fillF f n)) ∧ n ≤ m' ∧ m' ≤ 16 * nb n) := ⟨ho, h1, h2⟩
    obtain ⟨r, hr⟩ : ∃ r : Nat, (m' : Int).tmod 16 = r := ⟨m' % 16, by rw [Int.tmod_eq_emod_of_nonneg (by omega)]; omega⟩
    have wr' := wrap_i (x := (r : Int)) (by rw [← hr, Int.tmod_eq_emod_of_nonneg (by omega)]; omega) (by rw [← hr, Int.tmod_eq_emod_of_nonneg (by omega)]; omega)
    have HR : Hid (r = m' % 16) := by
      rw [Int.tmod_eq_emod_of_nonneg (by omega)] at hr
      show r = _
      omega
    clear ho h1 h2
    by_cases hr0 : r = 0
    · have hd : ((r : Int) != 0) = false := by simp; omega
      have HE : Hid (m' = 16 * nb n) := by
        have h1 := HR.out
        have h2 := Z.out.2
        show m' = _
        unfold nb at h2 ⊢
        omega
      go_wp2
      go_ret
      refine ⟨_, rfl, ?_⟩
      rw [← HE.out]
      exact Z.out.1
    · have hd : ((r : Int) != 0) = true := by simp; omega
      have hl : (nums m' (fillF f n)).length + [(0 : Int)].length ≤ 140737488355328 := by
        have h2 := Z.out.2
        rw [nums_len]
        unfold nb at h2
        simp
        omega
      have HE : Hid (m' + 1 ≤ 16 * nb n ∧ n ≤ m' + 1 ∧ fillF f n m' = 0#8) := by
        have h1 := HR.out
        have h2 := Z.out.2
        refine ⟨?_, by omega, ?_⟩
        · unfold nb at h2 ⊢
          omega
        · unfold fillF
          rw [if_neg (by omega)]
      have Zo : Hid (OwnN w (wr.alloc (.cells #[.int .u8 0] 5)) (.slice oo m' oc) (nums m' (fillF f n))) := Z.out.1.alloc _
      go_wp2_with (at_builtin; refine Ap.wpList_app _ rfl _ _ rfl (.slice oo m' oc) (.slice (some ⟨wr.heap.size, 0, none⟩) 1 1) (nums m' (fillF f n)) [(0 : Int)] rfl rfl Zo.out.own (Ap.Rd.one wr 0) hl ?_)
      intro v2 w2 o2 c2 b2
      have k2 := Zo.out.more o2 c2 (by first | exact b2 | (rw [World.size_alloc]; exact b2))
      obtain ⟨ao2, m2, cc2, rfl, hm2, -⟩ := o2.rd.shape
      have HM2 : Hid (m2 = m' + 1) := by
        show m2 = _
        rw [hm2]
        simp [nums_len]
      have Z2 : Hid (OwnN w w2 (.slice ao2 m2 cc2) (nums (m' + 1) (fillF f n))) := by
        rw [nums_succ, HE.out.2.2]
        exact k2
      clear o2 c2 b2 k2 hm2
      go_wp2_with fail
      go_roundw
      case rel => exact ⟨m' + 1, Z2.out, HE.out.2.1, HE.out.1⟩
      case measure =>
        have h1 := HM2.out
        have h2 := HE.out.1
        simp [slen]
        omega

/-- How many bits, byte by byte. -/
def lenF (n : Nat) : Nat → By := fun j => ((BitVec.ofNat 64 (8 * n)) >>> (8 * (7 - j))).setWidth 8

set_option maxRecDepth 100000 in
set_option maxHeartbeats 8000000 in
theorem length_any (n cap : Nat) (ao : Option Addr) (w : World) (hn : n ≤ 140737488351232) :
    Calls Try.prog 40 #[.slice ao n cap] w fun r w' => ∃ v, r = .returned v ∧ OwnN w w' v (nums 8 (lenF n)) := by
  obtain ⟨l, HL, el, wl, wn⟩ := nmLen n hn
  have el' : (n : Int) * 8 = (l.toNat : Int) := by rw [← el]; omega
  go_enter Try.func40, Try.ntmps40
  go_wp2_with fail
  go_loopw [4, 5] (fun v v5 wr => ∃ (c : Nat), v5 = .int .i64 (7 - (c : Int)) ∧ c ≤ 8 ∧ OwnN w wr v (nums c (lenF n))) (fun v v5 wr => (intOf v5 + 1).toNat)
  case atStart => exact ⟨0, rfl, by omega, .inl ⟨rfl, rfl⟩, fun b h => (by simp [Value.ownBlock] at h), Chg.refl w⟩
  case round =>
    obtain ⟨c, rfl, hc, ho⟩ := hrel
    obtain ⟨oo, m', oc, rfl, hm, -⟩ := ho.own.rd.shape
    have Z : Hid (OwnN w wr (.slice oo m' oc) (nums c (lenF n))) := ho
    clear ho hm
    by_cases h8 : c = 8
    · subst h8
      have e0 : (7 : Int) - ((8 : Nat) : Int) = -1 := rfl
      rw [e0]
      go_wp2
      go_ret
      exact ⟨_, rfl, Z.out⟩
    · obtain ⟨p, hp⟩ : ∃ p : Nat, (7 : Int) - c = p := ⟨7 - c, by omega⟩
      rw [hp]
      have lp0 : decide ((0 : Int) ≤ p) = true := by simp
      obtain ⟨t, ht⟩ : ∃ t : Nat, 8 * (p : Int) = t := ⟨8 * p, by omega⟩
      have wt := wrap_i (x := (t : Int)) (by omega) (by omega)
      have lt : ¬ (t : Int) < 0 := by omega
      have lt64 : t < 64 := by omega
      have hby : ∃ z : By, Hid (z = lenF n c) ∧ (l.toNat : Int) / 2 ^ t % 256 = (z.toNat : Int) := by
        refine ⟨_, rfl, ?_⟩
        unfold lenF
        rw [BitVec.toNat_setWidth, BitVec.toNat_ushiftRight, Nat.shiftRight_eq_div_pow, ← HL.out, show 8 * (7 - c) = t by omega]
        simp
      obtain ⟨z, Hz, ez⟩ := hby
      have HP : Hid (p + c = 7) := by show p + c = 7; omega
      have hl : (nums c (lenF n)).length + [(z.toNat : Int)].length ≤ 140737488355328 := by rw [nums_len]; simp; omega
      have Zo : Hid (OwnN w (wr.alloc (.cells #[.int .u8 (z.toNat : Int)] 5)) (.slice oo m' oc) (nums c (lenF n))) := Z.out.alloc _
      clear h8 hp
      go_wp2_with (at_builtin; refine Ap.wpList_app _ rfl _ _ rfl (.slice oo m' oc) (.slice (some ⟨wr.heap.size, 0, none⟩) 1 1) (nums c (lenF n)) [(z.toNat : Int)] rfl rfl Zo.out.own (Ap.Rd.one wr (z.toNat : Int)) hl ?_)
      intro v2 w2 o2 c2 b2
      have k2 := Zo.out.more o2 c2 (by first | exact b2 | (rw [World.size_alloc]; exact b2))
      obtain ⟨ao2, m2, cc2, rfl, hm2, -⟩ := o2.rd.shape
      have Z2 : Hid (OwnN w w2 (.slice ao2 m2 cc2) (nums (c + 1) (lenF n))) := by
        rw [nums_succ, ← Hz.out]
        exact k2
      clear o2 c2 b2 k2 hm2
      go_wp2_with fail
      go_roundw
      case rel =>
        have h1 := HP.out
        refine ⟨c + 1, ?_, by omega, Z2.out⟩
        congr 1
        omega
      case measure => simp [intOf]
end Go.Proofs.Ytfnibmfmjglmlaa
