/-
  The document's full and length: bytes filled up to whole blocks, a number of bits in eight bytes.
  The document's Hash.
  The document's key: its cells; the first and the last steps of its Encrypt.
  The document's Encrypt: the first round key.
-/
import Derived.Test.YtobglgddbhddnaaGreatJ08
import Derived.Test.YtobglgddbhddnaaGreatJ12
import Derived.Test.YtobglgddbhddnaaGreatJ04
import Derived.Test.YtobglgddbhddnaaGreatJ01
import Derived.Deep.RegionHeld3
namespace Go.Proofs.YtobglgddbhddnaaGreat
open Go.RowKit
set_option linter.unusedVariables false

def slen : Value → Nat
  | .slice _ n _ => n
  | _ => 0
/-- Bytes, and noughts behind them. -/
def fillF (f : Nat → By) (n : Nat) : Nat → By := fun j => if j < n then f j else 0#8
theorem nums_fill (f : Nat → By) (n : Nat) : nums n f = nums n (fillF f n) := nums_congr fun i hi => by
  unfold fillF
  rw [if_pos hi]

set_option maxRecDepth 100000 in
set_option maxHeartbeats 8000000 in
theorem full_any (f : Nat → By) (n cap : Nat) (ao : Option Addr) (w : World) (hv : Ap.Rd w (.slice ao n cap) (nums n f)) (hn : n ≤ 140737488351232) :
    Calls Tryz.prog 55 #[.slice ao n cap] w fun r w' => ∃ v, r = .returned v ∧ OwnN w w' v (nums (16 * nb n) (fillF f n)) := by
  have Zr : Hid (Ap.Rd (w.alloc (.cells #[] 5)) (.slice ao n cap) (nums n f)) := Rd.chg hv ((Chg.refl w).alloc _)
  clear hv
  go_enter Tryz.func55, Tryz.ntmps55
  go_wp2_with (at_builtin; refine Ap.wpList_app _ rfl _ _ rfl (.slice (some ⟨w.heap.size, 0, none⟩) 0 0) (.slice ao n cap) [] (nums n f) rfl rfl (OwnV.empty w) Zr.out (by rw [nums_len]; simp; omega) ?_)
  intro v2 w1 o2 cc2 b2
  have k0 : OwnN w (w.alloc (.cells #[] 5)) (.slice (some ⟨w.heap.size, 0, none⟩) 0 0) [] := ⟨OwnV.empty w, fun k e => by simp [Value.ownBlock] at e; omega, (Chg.refl w).alloc _⟩
  have k2' := k0.more o2 cc2 (by first | exact b2 | (rw [World.size_alloc]; exact b2))
  obtain ⟨oo, m, oc, rfl, hm, -⟩ := o2.rd.shape
  rw [nums_len] at hm
  have Z1 : Hid (OwnN w w1 (.slice oo m oc) (nums m (fillF f n)) ∧ m = n) := by
    refine ⟨?_, hm⟩
    rw [hm, ← nums_fill]
    rw [hm] at k2'
    exact k2'
  clear k0 k2' o2 cc2 b2 Zr hm
  go_wp2_with fail
  go_loopw [3] (fun v wr => ∃ (m : Nat), OwnN w wr v (nums m (fillF f n)) ∧ n ≤ m ∧ m ≤ 16 * nb n) (fun v wr => 16 * nb n - slen v)
  case atStart =>
    refine ⟨m, Z1.out.1, by rw [Z1.out.2]; exact Nat.le_refl _, ?_⟩
    have := Z1.out.2
    unfold nb
    omega
  case round =>
    clear Z1
    obtain ⟨m, ho, h1, h2⟩ := hrel
    obtain ⟨oo, m', oc, rfl, hm, -⟩ := ho.own.rd.shape
    rw [nums_len] at hm
    subst hm
    have Z : Hid (OwnN w wr (.slice oo m' oc) (nums m' (fillF f n)) ∧ n ≤ m' ∧ m' ≤ 16 * nb n) := ⟨ho, h1, h2⟩
    obtain ⟨r, hr⟩ : ∃ r : Nat, (m' : Int).tmod 16 = r := ⟨m' % 16, by rw [Int.tmod_eq_emod_of_nonneg (by omega)]; omega⟩
    have wr' := wrap_i (x := (r : Int)) (by rw [← hr, Int.tmod_eq_emod_of_nonneg (by omega)]; omega) (by rw [← hr, Int.tmod_eq_emod_of_nonneg (by omega)]; omega)
    have HR : Hid (r = m' % 16) := by
      rw [Int.tmod_eq_emod_of_nonneg (by omega)] at hr
      show r = _
      omega
    clear ho h1 h2
    by_cases hr0 : r = 0
    · have hd : ((r : Int) != 0) = false := by simp; omega
      have HE : Hid (m' = 16 * nb n) := by
        have h1 := HR.out
        have h2 := Z.out.2
        show m' = _
        unfold nb at h2 ⊢
        omega
      go_wp2
      go_ret
      refine ⟨_, rfl, ?_⟩
      rw [← HE.out]
      exact Z.out.1
    · have hd : ((r : Int) != 0) = true := by simp; omega
      have hl : (nums m' (fillF f n)).length + [(0 : Int)].length ≤ 140737488355328 := by
        have h2 := Z.out.2
        rw [nums_len]
        unfold nb at h2
        simp
        omega
      have HE : Hid (m' + 1 ≤ 16 * nb n ∧ n ≤ m' + 1 ∧ fillF f n m' = 0#8) := by
        have h1 := HR.out
        have h2 := Z.out.2
        refine ⟨?_, by omega, ?_⟩
        · unfold nb at h2 ⊢
          omega
        · unfold fillF
          rw [if_neg (by omega)]
      have Zo : Hid (OwnN w (wr.alloc (.cells #[.int .u8 0] 5)) (.slice oo m' oc) (nums m' (fillF f n))) := Z.out.1.alloc _
      go_wp2_with (at_builtin; refine Ap.wpList_app _ rfl _ _ rfl (.slice oo m' oc) (.slice (some ⟨wr.heap.size, 0, none⟩) 1 1) (nums m' (fillF f n)) [(0 : Int)] rfl rfl Zo.out.own (Ap.Rd.one wr 0) hl ?_)
      intro v2 w2 o2 c2 b2
      have k2 := Zo.out.more o2 c2 (by first | exact b2 | (rw [World.size_alloc]; exact b2))
      obtain ⟨ao2, m2, cc2, rfl, hm2, -⟩ := o2.rd.shape
      have HM2 : Hid (m2 = m' + 1) := by
        show m2 = _
        rw [hm2]
        simp [nums_len]
      have Z2 : Hid (OwnN w w2 (.slice ao2 m2 cc2) (nums (m' + 1) (fillF f n))) := by
        rw [nums_succ, HE.out.2.2]
        exact k2
      clear o2 c2 b2 k2 hm2
      go_wp2_with fail
      go_roundw
      case rel => exact ⟨m' + 1, Z2.out, HE.out.2.1, HE.out.1⟩
      case measure =>
        have h1 := HM2.out
        have h2 := HE.out.1
        simp [slen]
        omega

/-- How many bits, byte by byte. -/
def lenF (n : Nat) : Nat → By := fun j => ((BitVec.ofNat 64 (8 * n)) >>> (8 * (7 - j))).setWidth 8

set_option maxRecDepth 100000 in
set_option maxHeartbeats 8000000 in
theorem length_any (n cap : Nat) (ao : Option Addr) (w : World) (hn : n ≤ 140737488351232) :
    Calls Tryz.prog 56 #[.slice ao n cap] w fun r w' => ∃ v, r = .returned v ∧ OwnN w w' v (nums 8 (lenF n)) := by
  obtain ⟨l, HL, el, wl, wn⟩ := nmLen n hn
  have el' : (n : Int) * 8 = (l.toNat : Int) := by rw [← el]; omega
  go_enter Tryz.func56, Tryz.ntmps56
  go_wp2_with fail
  go_loopw [4, 5] (fun v v5 wr => ∃ (c : Nat), v5 = .int .i64 (7 - (c : Int)) ∧ c ≤ 8 ∧ OwnN w wr v (nums c (lenF n))) (fun v v5 wr => (intOf v5 + 1).toNat)
  case atStart => exact ⟨0, rfl, by omega, .inl ⟨rfl, rfl⟩, fun b h => (by simp [Value.ownBlock] at h), Chg.refl w⟩
  case round =>
    obtain ⟨c, rfl, hc, ho⟩ := hrel
    obtain ⟨oo, m', oc, rfl, hm, -⟩ := ho.own.rd.shape
    have Z : Hid (OwnN w wr (.slice oo m' oc) (nums c (lenF n))) := ho
    clear ho hm
    by_cases h8 : c = 8
    · subst h8
      have e0 : (7 : Int) - ((8 : Nat) : Int) = -1 := rfl
      rw [e0]
      go_wp2
      go_ret
      exact ⟨_, rfl, Z.out⟩
    · obtain ⟨p, hp⟩ : ∃ p : Nat, (7 : Int) - c = p := ⟨7 - c, by omega⟩
      rw [hp]
      have lp0 : decide ((0 : Int) ≤ p) = true := by simp
      obtain ⟨t, ht⟩ : ∃ t : Nat, 8 * (p : Int) = t := ⟨8 * p, by omega⟩
      have wt := wrap_i (x := (t : Int)) (by omega) (by omega)
      have lt : ¬ (t : Int) < 0 := by omega
      have lt64 : t < 64 := by omega
      have hby : ∃ z : By, Hid (z = lenF n c) ∧ (l.toNat : Int) / 2 ^ t % 256 = (z.toNat : Int) := by
        refine ⟨_, rfl, ?_⟩
        unfold lenF
        rw [BitVec.toNat_setWidth, BitVec.toNat_ushiftRight, Nat.shiftRight_eq_div_pow, ← HL.out, show 8 * (7 - c) = t by omega]
        simp
      obtain ⟨z, Hz, ez⟩ := hby
      have HP : Hid (p + c = 7) := by show p + c = 7; omega
      have hl : (nums c (lenF n)).length + [(z.toNat : Int)].length ≤ 140737488355328 := by rw [nums_len]; simp; omega
      have Zo : Hid (OwnN w (wr.alloc (.cells #[.int .u8 (z.toNat : Int)] 5)) (.slice oo m' oc) (nums c (lenF n))) := Z.out.alloc _
      clear h8 hp
      go_wp2_with (at_builtin; refine Ap.wpList_app _ rfl _ _ rfl (.slice oo m' oc) (.slice (some ⟨wr.heap.size, 0, none⟩) 1 1) (nums c (lenF n)) [(z.toNat : Int)] rfl rfl Zo.out.own (Ap.Rd.one wr (z.toNat : Int)) hl ?_)
      intro v2 w2 o2 c2 b2
      have k2 := Zo.out.more o2 c2 (by first | exact b2 | (rw [World.size_alloc]; exact b2))
      obtain ⟨ao2, m2, cc2, rfl, hm2, -⟩ := o2.rd.shape
      have Z2 : Hid (OwnN w w2 (.slice ao2 m2 cc2) (nums (c + 1) (lenF n))) := by
        rw [nums_succ, ← Hz.out]
        exact k2
      clear o2 c2 b2 k2 hm2
      go_wp2_with fail
      go_roundw
      case rel =>
        have h1 := HP.out
        refine ⟨c + 1, ?_, by omega, Z2.out⟩
        congr 1
        omega
      case measure => simp [intOf]

/-- All that is hashed. -/
def allF (ta : Nat → By) (na : Nat) (tx : Nat → By) (nx : Nat) : Nat → By := fun j =>
  if j < 16 * nb na then fillF ta na j else if j < 16 * nb na + 16 * nb nx then fillF tx nx (j - 16 * nb na) else if j < 16 * nb na + 16 * nb nx + 8 then lenF na (j - (16 * nb na + 16 * nb nx)) else lenF nx (j - (16 * nb na + 16 * nb nx + 8))
theorem nums_join (p q : Nat) (f g : Nat → By) : nums p f ++ nums q g = nums (p + q) (fun j => if j < p then f j else g (j - p)) := by
  rw [nums_split (p + q) p _ (by omega), show p + q - p = q by omega]
  congr 1
  · exact nums_congr fun i hi => by rw [if_pos hi]
  · exact nums_congr fun i hi => by rw [if_neg (by omega), show p + i - p = i by omega]
theorem nums_all (ta : Nat → By) (na : Nat) (tx : Nat → By) (nx : Nat) : nums (16 * nb na) (fillF ta na) ++ nums (16 * nb nx) (fillF tx nx) ++ nums 8 (lenF na) ++ nums 8 (lenF nx) = nums (16 * (nb na + nb nx + 1)) (allF ta na tx nx) := by
  rw [nums_join, nums_join, nums_join, show 16 * (nb na + nb nx + 1) = 16 * nb na + 16 * nb nx + 8 + 8 by omega]
  refine nums_congr fun j hj => ?_
  unfold allF
  by_cases h1 : j < 16 * nb na
  · rw [if_pos (by omega), if_pos (by omega), if_pos h1, if_pos h1]
  · by_cases h2 : j < 16 * nb na + 16 * nb nx
    · rw [if_pos (by omega), if_pos h2, if_neg h1, if_neg h1, if_pos h2]
    · by_cases h3 : j < 16 * nb na + 16 * nb nx + 8
      · rw [if_pos h3, if_neg h2, if_neg h1, if_neg h2, if_pos h3]
      · rw [if_neg h3, if_neg h1, if_neg h2, if_neg h3]

/-- Behind so many blocks. -/
def rh (h F : Nat → By) : Nat → Nat → By
  | 0 => zB
  | m + 1 => mulB (xr (rh h F m) (fun j => F (16 * m + j))) h
theorem pol_rh (h F : Nat → By) (m : Nat) : pol (rh h F (m + 1)) = pr (pol (rh h F m) ^^^ pol (fun j => F (16 * m + j))) (pol h) := by
  show pol (mulB _ _) = _
  rw [mulB, pol_byt, pol_xr]
theorem pol_fill (f : Nat → By) (n m : Nat) : pol (fun j => fillF f n (16 * m + j)) = pol (blkF f n m) := rfl
theorem rh_first (h ta : Nat → By) (na : Nat) (tx : Nat → By) (nx m : Nat) (hm : m ≤ nb na) : pol (rh h (allF ta na tx nx) m) = hs 0#128 (pol h) ta na m := by
  induction m with
  | zero => show pol zB = 0#128; decide +kernel
  | succ m ih =>
    rw [pol_rh, ih (by omega)]
    have e : pol (fun j => allF ta na tx nx (16 * m + j)) = pol (blkF ta na m) := by
      rw [← pol_fill]
      refine pol_congr fun j hj => ?_
      unfold allF
      rw [if_pos (by omega)]
    rw [e]
    rfl
theorem rh_second (h ta : Nat → By) (na : Nat) (tx : Nat → By) (nx m : Nat) (hm : m ≤ nb nx) : pol (rh h (allF ta na tx nx) (nb na + m)) = hs (hs 0#128 (pol h) ta na (nb na)) (pol h) tx nx m := by
  induction m with
  | zero => rw [Nat.add_zero, rh_first _ _ _ _ _ _ (Nat.le_refl _)]; rfl
  | succ m ih =>
    rw [← Nat.add_assoc, pol_rh, ih (by omega)]
    have e : pol (fun j => allF ta na tx nx (16 * (nb na + m) + j)) = pol (blkF tx nx m) := by
      rw [← pol_fill]
      refine pol_congr fun j hj => ?_
      unfold allF
      rw [if_neg (by omega), if_pos (by omega), show 16 * (nb na + m) + j - 16 * nb na = 16 * m + j by omega]
    rw [e]
    rfl
theorem pol_lens (na nx : Nat) : pol (fun j => if j < 8 then lenF na j else lenF nx (j - 8)) = lens na nx := by
  rw [← pol_byt (lens na nx)]
  refine pol_congr fun j hj => ?_
  unfold byt lens lenF
  rw [hi_jn, lo_jn]
  by_cases h : j < 8
  · rw [if_pos h, if_pos h]
  · rw [if_neg h, if_neg h, show 7 - (j - 8) = 15 - j by omega]
theorem rh_all (h ta : Nat → By) (na : Nat) (tx : Nat → By) (nx : Nat) : ba 16 (rh h (allF ta na tx nx) (nb na + nb nx + 1)) = ba 16 (ghash h ta na tx nx) := by
  refine ba_congr (pol_inj ?_)
  have e : pol (fun j => allF ta na tx nx (16 * (nb na + nb nx) + j)) = lens na nx := by
    rw [← pol_lens]
    refine pol_congr fun j hj => ?_
    unfold allF
    rw [if_neg (by omega), if_neg (by omega)]
    by_cases h : j < 8
    · rw [if_pos (by omega), if_pos h, show 16 * (nb na + nb nx) + j - (16 * nb na + 16 * nb nx) = j by omega]
    · rw [if_neg (by omega), if_neg h, show 16 * (nb na + nb nx) + j - (16 * nb na + 16 * nb nx + 8) = j - 8 by omega]
  rw [pol_rh, rh_second _ _ _ _ _ _ (Nat.le_refl _), e, ghash, pol_byt]

/-- What stands while the document hashes. -/
structure HsS (w wr : World) (Bo : Nat) (v : Value) (T : Nat) (F h o : Nat → By) : Prop where
  chg : Chg w wr
  h : Ar wr w.heap.size (ba 16 h)
  out : Ar wr (w.heap.size + 1) (ba 16 zB)
  o : Ar wr Bo (ba 16 o)
  all : Ap.Rd wr v (nums T F)
  lt : w.heap.size + 1 < Bo
  ne : ∀ b, v.ownBlock = some b → b < Bo

set_option maxRecDepth 100000 in
set_option maxHeartbeats 8000000 in
theorem refHash_any (h ta tx : Nat → By) (na nx ca cx : Nat) (ao xo : Option Addr) (w : World) (hva : Ap.Rd w (.slice ao na ca) (nums na ta)) (hvx : Ap.Rd w (.slice xo nx cx) (nums nx tx)) (hT : 16 * (nb na + nb nx + 1) ≤ 140737488355328) (hna : na ≤ 140737488351232) (hnx : nx ≤ 140737488351232) :
    Calls Tryz.prog 40 #[.agg (ba 16 h), .slice ao na ca, .slice xo nx cx] w fun r w' => r = .returned (.agg (ba 16 (ghash h ta na tx nx))) ∧ Chg w w' := by
  have HX : Hid (Ap.Rd w (.slice ao na ca) (nums na ta) ∧ Ap.Rd w (.slice xo nx cx) (nums nx tx) ∧ 16 * (nb na + nb nx + 1) ≤ 140737488355328 ∧ na ≤ 140737488351232 ∧ nx ≤ 140737488351232) := ⟨hva, hvx, hT, hna, hnx⟩
  clear hva hvx hT hna hnx
  have hsA := ba_size 16 h
  obtain ⟨A, hA⟩ : ∃ A, A = ba 16 h := ⟨_, rfl⟩
  have HA : Hid (A = ba 16 h) := hA
  rw [← hA] at hsA ⊢
  clear hA
  have hz := zero32.1
  go_enter Tryz.func40, Tryz.ntmps40
  go_upto_region 1 with fail
  obtain ⟨w1, hw1⟩ : ∃ w1, w1 = (w.alloc (.cells A 62)).alloc (.cells (ba 16 zB) 62) := ⟨_, rfl⟩
  have Z1 : Hid (Chg w w1 ∧ Ar w1 w.heap.size (ba 16 h) ∧ Ar w1 (w.heap.size + 1) (ba 16 zB)) := by
    rw [hw1, HA.out]
    exact ⟨((Chg.refl w).alloc _).alloc _, (Ar.new w _ _).alloc _, Ar.new1 w _ _ _⟩
  rw [← hw1]
  clear hw1 hsA
  go_wp2_with fail
  go_at_call 55
  refine (full_any ta na ca ao w1 (Rd.chg HX.out.1 Z1.out.1) HX.out.2.2.2.1).mono ?_
  rintro r w2 ⟨v1, rfl, ho1⟩
  obtain ⟨o1, m1, c1, rfl, -⟩ := ho1.own.rd.shape
  have Z2 : Hid (Chg w w2 ∧ Ar w2 w.heap.size (ba 16 h) ∧ Ar w2 (w.heap.size + 1) (ba 16 zB) ∧ OwnN w1 w2 (.slice o1 m1 c1) (nums (16 * nb na) (fillF ta na))) := ⟨Z1.out.1.trans ho1.chg, Z1.out.2.1.chg ho1.chg, Z1.out.2.2.chg ho1.chg, ho1⟩
  clear ho1
  go_wp2_with fail
  go_at_call 55
  refine (full_any tx nx cx xo w2 (Rd.chg HX.out.2.1 Z2.out.1) HX.out.2.2.2.2).mono ?_
  rintro r w3 ⟨v2, rfl, ho2⟩
  obtain ⟨o2, m2, c2, rfl, -⟩ := ho2.own.rd.shape
  have Z3 : Hid (OwnN w1 w3 (.slice o1 m1 c1) (nums (16 * nb na) (fillF ta na)) ∧ Ap.Rd w3 (.slice o2 m2 c2) (nums (16 * nb nx) (fillF tx nx))) :=
    ⟨⟨OwnV.chg Z2.out.2.2.2.own ho2.chg, Z2.out.2.2.2.new, Z2.out.2.2.2.chg.trans ho2.chg⟩, ho2.own.rd⟩
  clear ho2
  have hl1 : (nums (16 * nb na) (fillF ta na)).length + (nums (16 * nb nx) (fillF tx nx)).length ≤ 140737488355328 := by
    rw [nums_len, nums_len]
    have := HX.out.2.2.1
    omega
  go_wp2_with (at_builtin; refine Ap.wpList_app _ rfl _ _ rfl (.slice o1 m1 c1) (.slice o2 m2 c2) (nums (16 * nb na) (fillF ta na)) (nums (16 * nb nx) (fillF tx nx)) rfl rfl Z3.out.1.own Z3.out.2 hl1 ?_)
  intro v3 w4 q1 q2 q3
  have k4 := Z3.out.1.more q1 q2 q3
  obtain ⟨o3, m3, c3, rfl, -⟩ := q1.rd.shape
  have Z4 : Hid (OwnN w1 w4 (.slice o3 m3 c3) (nums (16 * nb na) (fillF ta na) ++ nums (16 * nb nx) (fillF tx nx))) := k4
  clear q1 q2 q3 k4 Z3 Z2 hl1
  go_wp2_with fail
  go_at_call 56
  refine (length_any na ca ao w4 HX.out.2.2.2.1).mono ?_
  rintro r w5 ⟨v4, rfl, ho4⟩
  obtain ⟨o4, m4, c4, rfl, -⟩ := ho4.own.rd.shape
  have Z5 : Hid (OwnN w1 w5 (.slice o3 m3 c3) (nums (16 * nb na) (fillF ta na) ++ nums (16 * nb nx) (fillF tx nx)) ∧ Ap.Rd w5 (.slice o4 m4 c4) (nums 8 (lenF na))) :=
    ⟨⟨OwnV.chg Z4.out.own ho4.chg, Z4.out.new, Z4.out.chg.trans ho4.chg⟩, ho4.own.rd⟩
  clear ho4 Z4
  have hl2 : (nums (16 * nb na) (fillF ta na) ++ nums (16 * nb nx) (fillF tx nx)).length + (nums 8 (lenF na)).length ≤ 140737488355328 := by
    rw [List.length_append, nums_len, nums_len, nums_len]
    have := HX.out.2.2.1
    omega
  go_wp2_with (at_builtin; refine Ap.wpList_app _ rfl _ _ rfl (.slice o3 m3 c3) (.slice o4 m4 c4) (nums (16 * nb na) (fillF ta na) ++ nums (16 * nb nx) (fillF tx nx)) (nums 8 (lenF na)) rfl rfl Z5.out.1.own Z5.out.2 hl2 ?_)
  intro v5 w6 q1 q2 q3
  have k6 := Z5.out.1.more q1 q2 q3
  simp only [← List.append_assoc] at k6
  obtain ⟨o5, m5, c5, rfl, -⟩ := q1.rd.shape
  have Z6 : Hid (OwnN w1 w6 (.slice o5 m5 c5) (nums (16 * nb na) (fillF ta na) ++ nums (16 * nb nx) (fillF tx nx) ++ nums 8 (lenF na))) := k6
  clear q1 q2 q3 k6 Z5 hl2
  go_wp2_with fail
  go_at_call 56
  refine (length_any nx cx xo w6 HX.out.2.2.2.2).mono ?_
  rintro r w7 ⟨v6, rfl, ho6⟩
  obtain ⟨o6, m6, c6, rfl, -⟩ := ho6.own.rd.shape
  have Z7 : Hid (OwnN w1 w7 (.slice o5 m5 c5) (nums (16 * nb na) (fillF ta na) ++ nums (16 * nb nx) (fillF tx nx) ++ nums 8 (lenF na)) ∧ Ap.Rd w7 (.slice o6 m6 c6) (nums 8 (lenF nx))) :=
    ⟨⟨OwnV.chg Z6.out.own ho6.chg, Z6.out.new, Z6.out.chg.trans ho6.chg⟩, ho6.own.rd⟩
  clear ho6 Z6
  have hl3 : (nums (16 * nb na) (fillF ta na) ++ nums (16 * nb nx) (fillF tx nx) ++ nums 8 (lenF na)).length + (nums 8 (lenF nx)).length ≤ 140737488355328 := by
    rw [List.length_append, List.length_append, nums_len, nums_len, nums_len, nums_len]
    have := HX.out.2.2.1
    omega
  go_wp2_with (at_builtin; refine Ap.wpList_app _ rfl _ _ rfl (.slice o5 m5 c5) (.slice o6 m6 c6) (nums (16 * nb na) (fillF ta na) ++ nums (16 * nb nx) (fillF tx nx) ++ nums 8 (lenF na)) (nums 8 (lenF nx)) rfl rfl Z7.out.1.own Z7.out.2 hl3 ?_)
  intro v7 w8 q1 q2 q3
  have k8 := Z7.out.1.more q1 q2 q3
  simp only [← List.append_assoc] at k8
  rw [nums_all] at k8
  obtain ⟨o7, m7, c7, rfl, hm7, -⟩ := k8.own.rd.shape
  rw [nums_len] at hm7
  obtain ⟨F, hF⟩ : ∃ F, F = allF ta na tx nx := ⟨_, rfl⟩
  obtain ⟨M, hM⟩ : ∃ M, M = nb na + nb nx + 1 := ⟨_, rfl⟩
  have HF : Hid (F = allF ta na tx nx ∧ M = nb na + nb nx + 1) := ⟨hF, hM⟩
  rw [← hF, ← hM] at k8
  rw [← hM] at hm7
  have hMm : m7 ≤ 140737488355328 := by
    have := HX.out.2.2.1
    rw [hm7, hM]
    exact this
  have HM7 : Hid (m7 = 16 * M) := hm7
  rw [← hm7] at k8
  have Z8 : Hid (OwnN w1 w8 (.slice o7 m7 c7) (nums m7 F)) := k8
  clear q1 q2 q3 k8 Z7 hl3 hF hM hm7
  go_upto_region 5 with fail
  obtain ⟨Bo, hBo⟩ : ∃ Bo, Bo = w8.heap.size := ⟨_, rfl⟩
  obtain ⟨w9, hw9⟩ : ∃ w9, w9 = w8.alloc (.cells (ba 16 zB) 62) := ⟨_, rfl⟩
  have Z9 : Hid (HsS w w9 Bo (.slice o7 m7 c7) m7 F h (rh h F 0)) := by
    have k := Z8.out
    have e := (Z1.out.2.2.chg k.chg).lt
    rw [hw9, hBo]
    exact ⟨(Z1.out.1.trans k.chg).alloc _, (Z1.out.2.1.chg k.chg).alloc _, (Z1.out.2.2.chg k.chg).alloc _, Ar.new w8 _ _, Rd.chg k.own.rd ((Chg.refl w8).alloc _), e, fun b hb => k.own.lt b hb⟩
  rw [← hw9, ← hBo]
  clear hw9 hBo Z8 Z1 hz
  go_wp2_with fail
  go_loopw [9] (fun v wr => ∃ (m : Nat), v = .int .i64 ((16 * m : Nat) : Int) ∧ m ≤ M ∧ HsS w wr Bo (.slice o7 m7 c7) m7 F h (rh h F m)) (fun v wr => m7 - (intOf v).toNat)
  case atStart => exact ⟨0, rfl, by omega, Z9.out⟩
  case round =>
    clear Z9
    obtain ⟨m, rfl, hm, hz1⟩ := hrel
    obtain ⟨oo, hoo⟩ : ∃ oo, oo = rh h F m := ⟨_, rfl⟩
    have HO : Hid (oo = rh h F m) := hoo
    rw [← hoo] at hz1
    have Z : Hid (HsS w wr Bo (.slice o7 m7 c7) m7 F h oo) := hz1
    obtain ⟨fr, hfr⟩ : ∃ fr : Nat, fr = 16 * m := ⟨_, rfl⟩
    rw [← hfr]
    have HFR : Hid (fr = 16 * m ∧ m ≤ M) := ⟨hfr, hm⟩
    have hfn : fr ≤ m7 := by have := HM7.out; omega
    clear hfr hm hoo
    by_cases hlt : fr < m7
    · have hd : decide ((fr : Int) < m7) = true := by simp; omega
      have hfr16 : fr + 16 ≤ m7 := by have h1 := HFR.out; have h2 := HM7.out; omega
      obtain ⟨tb, tt, tc, hv, -, -, hbs⟩ := Rd.bs hz1.all (by omega)
      injection hv with hv1 hv2 hv3
      subst hv1
      have HTB : Hid (tb < Bo) := hz1.ne tb rfl
      obtain ⟨g, hg⟩ : ∃ g : Nat → By, g = fun j => F (16 * m + j) := ⟨_, rfl⟩
      have HG : Hid (g = fun j => F (16 * m + j)) := hg
      clear hbs hv2 hv3 hz1 hg
      go_wp2_with fail
      go_loopw [10] (fun v wr => ∃ (k : Nat), v = .int .i64 k ∧ k ≤ 16 ∧ HsS w wr Bo (.slice (some ⟨tb, tt, none⟩) m7 c7) m7 F h (upTo k (xr oo g) oo)) (fun v wr => 16 - (intOf v).toNat)
      case atStart =>
        refine ⟨0, rfl, by omega, ?_⟩
        rw [upTo_zero]
        exact Z.out
      case round =>
        clear Z
        obtain ⟨k, rfl, hk, hz2⟩ := hrel
        have Z2 : Hid (HsS w wr Bo (.slice (some ⟨tb, tt, none⟩) m7 c7) m7 F h (upTo k (xr oo g) oo)) := hz2
        by_cases h16 : k < 16
        · have hd2 : decide ((k : Int) < 16) = true := by simp; omega
          have lk : (k : Int) < 16 := by omega
          obtain ⟨j, hj⟩ : ∃ j : Nat, (fr : Int) + k = j := ⟨fr + k, by omega⟩
          have wj := wrap_i (x := (j : Int)) (by omega) (by omega)
          have lj : (j : Int) < m7 := by omega
          have lj' : j < m7 := by omega
          have c1 := (hz2.o.cell k).trans (ba_get 16 _ h16)
          obtain ⟨tb2, tt2, tc2, hv, -, -, hbs⟩ := Rd.bs hz2.all (by omega)
          injection hv with hv1 hv2 hv3
          injection hv1 with hv1
          injection hv1 with hv11 hv12 _
          subst hv11 hv12
          have c2 := hbs j lj'
          have f1 := hz2.o.frozen k
          have e0 : upTo k (xr oo g) oo k = oo k := by simp [upTo]
          rw [e0] at c1
          obtain ⟨x, hx⟩ : ∃ x, x = oo k := ⟨_, rfl⟩
          obtain ⟨y, hy⟩ : ∃ y, y = F j := ⟨_, rfl⟩
          rw [← hx] at c1
          rw [← hy] at c2
          have HX2 : Hid (xr oo g k = x ^^^ y) := by
            have h1 := HFR.out
            show xr oo g k = _
            rw [hx, hy, xr, HG.out, show j = 16 * m + k by omega]
          clear hx hy hz2 e0 hbs hv2 hv3
          go_wp2_with fail
          go_region_with (fail)
          all_goals go_wp2
          all_goals
            go_roundw
            case rel =>
              have hl := Z2.out.lt
              have hb := HTB.out
              obtain ⟨k0, k1, k2, k3, k4, k5, k6⟩ := Z2.out
              refine ⟨k + 1, by go_num, by omega, (k0.setCell (by dsimp only; omega) _).drew, (k1.other (by dsimp only; omega) _).drew, (k2.other (by dsimp only; omega) _).drew, ?_, ?_, k5, k6⟩
              · have hh := k3.set k (.int .u8 (Go.bits .xor .u8 (x.toNat : Int) (y.toNat : Int)))
                rw [xorB, ba_set, ← HX2.out, upTo_upd] at hh
                rw [xorB, ← HX2.out]
                exact hh.drew
              · refine (k4.keep (fun b e _ => ?_)).drew
                have := k6 b e
                exact Below.heap_setCell _ _ _ _ (by dsimp only; omega)
            case measure => simp [intOf]; omega
        · have hk2 : k = 16 := by omega
          have hd2 : decide ((k : Int) < 16) = false := by simp; omega
          obtain ⟨q, hq⟩ : ∃ q, q = upTo 16 (xr oo g) oo := ⟨_, rfl⟩
          obtain ⟨o2, ho2⟩ : ∃ o2, o2 = rh h F (m + 1) := ⟨_, rfl⟩
          have HO2 : Hid (o2 = rh h F (m + 1)) := ho2
          have hqe : ba 16 q = ba 16 (xr oo g) := by rw [hq, upTo_all]
          have HC : Hid (∀ u, Calls Tryz.prog 57 #[.agg (ba 16 q), .agg (ba 16 h)] u fun r w' => r = .returned (.agg (ba 16 o2)) ∧ Chg u w') := by
            rw [hqe, ho2, HO.out, HG.out]
            exact fun u => refMul_any _ h u
          rw [hk2, ← hq] at Z2
          obtain ⟨t1, g1⟩ := Z2.out.o
          obtain ⟨t2, g2⟩ := Z2.out.h
          have s1 := szB q zero32.2
          have s2 := szB h zero32.2
          have s3 := szB o2 zero32.2
          have l3 := lenB 16 q o2
          have p3 := ba_one 16 o2
          clear hz2 hq ho2 hqe hk2
          go_wp2_with (first | refine wpList_load_row rfl 62 _ rfl _ rfl _ _ _ _ g1 und32 rfl s1 ?_ | refine wpList_load_row rfl 62 _ rfl _ rfl _ _ _ _ g2 und32 rfl s2 ?_)
          go_at_call 57
          refine (HC.out _).mono ?_
          rintro r u4 ⟨rfl, hc4⟩
          have Z4 : Hid (HsS w u4 Bo (.slice (some ⟨tb, tt, none⟩) m7 c7) m7 F h q) := by
            obtain ⟨k0, k1, k2, k3, k4, k5, k6⟩ := Z2.out
            exact ⟨k0.trans hc4, k1.chg hc4, k2.chg hc4, k3.chg hc4, Rd.chg k4 hc4, k5, k6⟩
          obtain ⟨t4, g4⟩ := Z4.out.o
          clear hc4 HC g1 g2 s1 s2 Z2
          go_wp2_with (first | refine wpList_store_row rfl 62 _ _ rfl _ _ rfl rfl _ _ g4 s3 l3 p3 ?_)
          go_roundw
          case rel =>
            have h1 := HFR.out
            have h2 := HM7.out
            obtain ⟨k0, k1, k2, k3, k4, k5, k6⟩ := Z4.out
            refine ⟨m + 1, by rw [h1.1]; go_num, by omega, k0.setRow (by omega) _, k1.rowOther (by omega) _, k2.rowOther (by omega) _, ?_, ?_, k5, k6⟩
            · rw [← HO2.out]
              exact k3.row _
            · refine k4.keep (fun b e _ => ?_)
              have := k6 b e
              exact setRow_other _ _ _ _ (by omega)
          case measure => simp [intOf]; omega
    · have hd : decide ((fr : Int) < m7) = false := by simp; omega
      have HG : Hid (ba 16 oo = ba 16 (ghash h ta na tx nx)) := by
        have h1 := HFR.out
        have h2 := HM7.out
        show ba 16 oo = _
        rw [HO.out, show m = M by omega, HF.out.1, HF.out.2, rh_all]
      obtain ⟨t1, g1⟩ := hz1.o
      obtain ⟨t3, g3⟩ := hz1.out
      have hsz := szB oo zero32.2
      have hlen := lenB 16 zB oo
      have hone := ba_one 16 oo
      clear hz1
      go_wp2_with (first | refine wpList_load_row rfl 62 _ rfl _ rfl _ _ _ _ g1 und32 rfl hsz ?_ | refine wpList_store_row rfl 62 _ _ rfl _ _ rfl rfl _ _ g3 hsz hlen hone ?_)
      refine bp_c (n := 16) (c := ba 16 oo) Tryz.results40 rfl rfl ?_ und32 i32 (ba_size _ _) ⟨by rw [HG.out], ?_⟩
      · exact Z.out.out.row _
      · exact Z.out.chg.setRow (by omega) _
end Go.Proofs.YtobglgddbhddnaaGreat

namespace Go.Proofs.YtobglgddbhddnaaGreat
open Go.RowKit
set_option linter.unusedVariables false

/-- The document's key: round keys, rounds, boxes. -/
def rkeyC (R : Nat) (k : Nat → By) : Array Value := ba 240 k ++ #[.int .i64 (R : Int)] ++ ba 256 sbF
theorem rkeyC_size (R : Nat) (k : Nat → By) : (rkeyC R k).size = 497 := by simp [rkeyC, ba_size]
theorem rkeyC_get (R : Nat) (k : Nat → By) {j : Nat} (h : j < 240) : (rkeyC R k)[j]? = some (.int .u8 ((k j).toNat : Int)) := by
  unfold rkeyC
  rw [Array.getElem?_append_left (by simp [ba_size]; omega), Array.getElem?_append_left (by rw [ba_size]; exact h), ba_get 240 k h]
theorem rkeyC_N (R : Nat) (k : Nat → By) : (rkeyC R k)[240]? = some (.int .i64 (R : Int)) := by
  unfold rkeyC
  rw [Array.getElem?_append_left (by simp [ba_size]), Array.getElem?_append_right (by rw [ba_size]; exact Nat.le_refl _), ba_size]
  rfl
theorem rkeyC_box (R : Nat) (k : Nat → By) (x : By) : (rkeyC R k)[241 + x.toNat]? = some (.int .u8 ((sb x).toNat : Int)) := by
  have hx := x.isLt
  unfold rkeyC
  rw [Array.getElem?_append_right (by simp [ba_size])]
  have : 241 + x.toNat - (ba 240 k ++ #[Value.int IntKind.i64 (R : Int)]).size = x.toNat := by simp [ba_size]
  rw [this, ba_get 256 sbF hx, sbF_at]
theorem rkR {w : World} {K R : Nat} {k : Nat → By} (h : Ar w K (rkeyC R k)) : w.cell? ⟨K, 240, none⟩ = some (.int .i64 (R : Int)) := (h.cell 240).trans (rkeyC_N R k)
theorem rkK {w : World} {K R : Nat} {k : Nat → By} (h : Ar w K (rkeyC R k)) {j : Nat} (hj : j < 240) : w.cell? ⟨K, j, none⟩ = some (.int .u8 ((k j).toNat : Int)) := (h.cell j).trans (rkeyC_get R k hj)
theorem rkB {w : World} {K R : Nat} {k : Nat → By} (h : Ar w K (rkeyC R k)) (x : By) : w.cell? ⟨K, 241 + x.toNat, none⟩ = some (.int .u8 ((sb x).toNat : Int)) := (h.cell _).trans (rkeyC_box R k x)
end Go.Proofs.YtobglgddbhddnaaGreat

namespace Go.Proofs.YtobglgddbhddnaaGreat
open Go.RowKit
set_option linter.unusedVariables false

/-- A block of a function's code, found by its number. -/
def blkOf (n : Nat) : Code → Option Code
  | .block i b => if i = n then some (.block i b) else blkOf n b
  | .seq a b => match blkOf n a with
    | some c => some c
    | none => blkOf n b
  | .cond _ a b => match blkOf n a with
    | some c => some c
    | none => blkOf n b
  | .loop b => blkOf n b
  | _ => none
def blk (f : Func) (n : Nat) : Code := match f.body with
  | some c => (blkOf n c).getD .skip
  | none => .skip

/-- What stands while the document encrypts a block. -/
structure RE (w0 w : World) (K R : Nat) (k f : Nat → By) : Prop where
  key0 : Ar w0 K (rkeyC R k)
  chg : Chg w0 w
  b : Ar w w0.heap.size (ba 16 f)
  out : Ar w (w0.heap.size + 1) (ba 16 zB)
theorem RE.key {w0 w : World} {K R : Nat} {k f : Nat → By} (h : RE w0 w K R k f) : Ar w K (rkeyC R k) := h.key0.chg h.chg
theorem RE.to {w0 w u : World} {K R : Nat} {k f : Nat → By} (h : RE w0 w K R k f) (c : Chg w u) : RE w0 u K R k f := ⟨h.key0, h.chg.trans c, h.b.chg c, h.out.chg c⟩
theorem RE.set {w0 w : World} {K R : Nat} {k f : Nat → By} (h : RE w0 w K R k f) (i : Nat) (x : By) : RE w0 (w.setCell ⟨w0.heap.size, i, none⟩ (.int .u8 (x.toNat : Int))).drew K R k (updB f i x) := by
  refine ⟨h.key0, (h.chg.setCell (Nat.le_refl _) _).drew, ?_, (h.out.other (by dsimp only; omega) _).drew⟩
  have := h.b.set i (.int .u8 (x.toNat : Int))
  rw [ba_set] at this
  exact this.drew
theorem RE.other {w0 w : World} {K R cb : Nat} {k f : Nat → By} (h : RE w0 w K R k f) (hc : w0.heap.size + 1 < cb) (i : Nat) (v : Value) : RE w0 (w.setCell ⟨cb, i, none⟩ v).drew K R k f :=
  ⟨h.key0, (h.chg.setCell (by dsimp only; omega) _).drew, (h.b.other (by dsimp only; omega) _).drew, (h.out.other (by dsimp only; omega) _).drew⟩
theorem RE.otherN {w0 w : World} {K R cb : Nat} {k f : Nat → By} (h : RE w0 w K R k f) (hc : w0.heap.size + 1 < cb) (i : Nat) (v : Value) : RE w0 (w.setCell ⟨cb, i, none⟩ v) K R k f :=
  ⟨h.key0, h.chg.setCell (by dsimp only; omega) _, h.b.other (by dsimp only; omega) _, h.out.other (by dsimp only; omega) _⟩

set_option maxRecDepth 100000 in
set_option maxHeartbeats 8000000 in
/-- A block XOR the first round key. -/
theorem re1_any {Q : Exit → Act → World → Prop} {t1 t2 t4 t6 t7 t8 t9 t10 t11 t12 t13 t14 t15 t16 t17 t18 t19 t20 t21 t22 t23 t24 t25 t26 t27 t28 t29 t30 t31 t32 t33 t34 t35 t36 t37 t38 t39 t40 t41 t42 t43 t44 t45 t46 t47 t48 t49 t50 t51 t52 t53 t54 t55 t56 t57 t58 t59 t60 t61 t62 t63 t64 t65 t66 t67 t68 t69 t70 t71 t72 t73 t74 t75 t76 t77 t78 t79 t80 t81 t82 t83 t84 t85 t86 t87 t88 t89 t90 t91 t92 t93 t94 t95 t96 t97 t98 t99 t100 t101 t102 t103 t104 t105 t106 t107 t108 t109 t110 t111 t112 t113 t114 t115 t116 t117 t118 t119 t120 t121 t122 t123 t124 t125 t126 t127 t128 t129 t130 t131 t132 t133 t134 t135 t136 t137 t138 t139 t140 t141 t142 t143 : Value} {K R : Nat} {k f : Nat → By} {w0 w : World} (h : RE w0 w K R k f)
    (hQ : ∀ (u5 u16 u17 u18 u19 u20 u21 u22 u23 u24 u25 u26 u27 u28 u29 u30 u31 u32 : Value) (w' : World), RE w0 w' K R k (xr f (rk k 0)) → Q .normal ⟨#[.pointer (some ⟨K, 0, none⟩), t1, t2, .pointer (some ⟨w0.heap.size, 0, none⟩), t4, u5, t6, t7, t8, t9, t10, t11, t12, t13, t14, t15, u16, u17, u18, u19, u20, u21, u22, u23, u24, u25, u26, u27, u28, u29, u30, u31, u32, t33, t34, t35, t36, t37, t38, t39, t40, t41, t42, t43, t44, t45, t46, t47, t48, t49, t50, t51, t52, t53, t54, t55, t56, t57, t58, t59, t60, t61, t62, t63, t64, t65, t66, t67, t68, t69, t70, t71, t72, t73, t74, t75, t76, t77, t78, t79, t80, t81, t82, t83, t84, t85, t86, t87, t88, t89, t90, t91, t92, t93, t94, t95, t96, t97, t98, t99, t100, t101, t102, t103, t104, t105, t106, t107, t108, t109, t110, t111, t112, t113, t114, t115, t116, t117, t118, t119, t120, t121, t122, t123, t124, t125, t126, t127, t128, t129, t130, t131, t132, t133, t134, t135, t136, t137, t138, t139, t140, t141, t142, t143], []⟩ w') :
    (blk Tryz.f39 0).wp Tryz.prog Q ⟨#[.pointer (some ⟨K, 0, none⟩), t1, t2, .pointer (some ⟨w0.heap.size, 0, none⟩), t4, .int .i64 0, t6, t7, t8, t9, t10, t11, t12, t13, t14, t15, t16, t17, t18, t19, t20, t21, t22, t23, t24, t25, t26, t27, t28, t29, t30, t31, t32, t33, t34, t35, t36, t37, t38, t39, t40, t41, t42, t43, t44, t45, t46, t47, t48, t49, t50, t51, t52, t53, t54, t55, t56, t57, t58, t59, t60, t61, t62, t63, t64, t65, t66, t67, t68, t69, t70, t71, t72, t73, t74, t75, t76, t77, t78, t79, t80, t81, t82, t83, t84, t85, t86, t87, t88, t89, t90, t91, t92, t93, t94, t95, t96, t97, t98, t99, t100, t101, t102, t103, t104, t105, t106, t107, t108, t109, t110, t111, t112, t113, t114, t115, t116, t117, t118, t119, t120, t121, t122, t123, t124, t125, t126, t127, t128, t129, t130, t131, t132, t133, t134, t135, t136, t137, t138, t139, t140, t141, t142, t143], []⟩ w := by
  show Code.wp Tryz.prog (Code.block _ (Code.loop _)) Q _ _
  have HQ := (show Hid (∀ (u5 u16 u17 u18 u19 u20 u21 u22 u23 u24 u25 u26 u27 u28 u29 u30 u31 u32 : Value) (w' : World), RE w0 w' K R k (xr f (rk k 0)) → Q .normal ⟨#[.pointer (some ⟨K, 0, none⟩), t1, t2, .pointer (some ⟨w0.heap.size, 0, none⟩), t4, u5, t6, t7, t8, t9, t10, t11, t12, t13, t14, t15, u16, u17, u18, u19, u20, u21, u22, u23, u24, u25, u26, u27, u28, u29, u30, u31, u32, t33, t34, t35, t36, t37, t38, t39, t40, t41, t42, t43, t44, t45, t46, t47, t48, t49, t50, t51, t52, t53, t54, t55, t56, t57, t58, t59, t60, t61, t62, t63, t64, t65, t66, t67, t68, t69, t70, t71, t72, t73, t74, t75, t76, t77, t78, t79, t80, t81, t82, t83, t84, t85, t86, t87, t88, t89, t90, t91, t92, t93, t94, t95, t96, t97, t98, t99, t100, t101, t102, t103, t104, t105, t106, t107, t108, t109, t110, t111, t112, t113, t114, t115, t116, t117, t118, t119, t120, t121, t122, t123, t124, t125, t126, t127, t128, t129, t130, t131, t132, t133, t134, t135, t136, t137, t138, t139, t140, t141, t142, t143], []⟩ w') from hQ)
  clear hQ
  have H0 : Hid (RE w0 w K R k f) := h
  clear h
  go_wp2_with fail
  go_loopw [5] (fun v wr => ∃ (i : Nat), v = .int .i64 i ∧ i ≤ 16 ∧ RE w0 wr K R k (upTo i (xr f (rk k 0)) f)) (fun v wr => 16 - (intOf v).toNat)
  case atStart => exact ⟨0, rfl, by omega, by rw [upTo_zero]; exact H0.out⟩
  case round =>
    obtain ⟨i, rfl, hi, hz⟩ := hrel
    have H : Hid (RE w0 wr K R k (upTo i (xr f (rk k 0)) f)) := hz
    by_cases h16 : i < 16
    · have hd : decide ((i : Int) < 16) = true := by simp; omega
      have li : (i : Int) < 16 := by omega
      have c1 := (hz.b.cell i).trans (ba_get 16 _ h16)
      have f1 := hz.b.frozen i
      have e0 : upTo i (xr f (rk k 0)) f i = f i := by simp [upTo]
      rw [e0] at c1
      have c2 := rkK hz.key (j := i) (by omega)
      obtain ⟨x, hx⟩ : ∃ x, x = f i := ⟨_, rfl⟩
      obtain ⟨y, hy⟩ : ∃ y, y = k i := ⟨_, rfl⟩
      rw [← hx] at c1
      rw [← hy] at c2
      obtain ⟨z, Hz, ez⟩ := nameXor x y
      have HX : Hid (z = xr f (rk k 0) i) := by show z = _; rw [Hz.out, hx, hy, xr, rk, Nat.mul_zero, Nat.zero_add]
      clear hx hy hz e0 Hz
      go_wp2_with fail
      refine wp_region_noPanic ?_
      go_region_with (fail)
      all_goals refine NoPanic.normal ?_
      all_goals go_wp2
      all_goals
        go_roundw
        case rel =>
          refine ⟨i + 1, by go_num, by omega, ?_⟩
          have hh := H.out.set i z
          rw [HX.out, upTo_upd i (xr f (rk k 0)) f, ← HX.out] at hh
          exact hh
        case measure => simp [intOf]; omega
    · have : i = 16 := by omega
      subst this
      have e : RE w0 wr K R k (xr f (rk k 0)) := ⟨hz.key0, hz.chg, by have := hz.b; rwa [upTo_all] at this, hz.out⟩
      have HE : Hid (RE w0 wr K R k (xr f (rk k 0))) := e
      clear e hz
      go_wp2
      exact HQ.out _ _ _ _ _ _ _ _ _ _ _ _ _ _ _ _ _ _ _ HE.out
end Go.Proofs.YtobglgddbhddnaaGreat
