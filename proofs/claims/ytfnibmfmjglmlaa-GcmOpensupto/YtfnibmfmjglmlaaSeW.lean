/-
  What is locked up is the document's, and is opened as the text: GcmSeals walked.
-/
import Derived.Test.YtfnibmfmjglmlaaROp
import Derived.Test.YtfnibmfmjglmlaaGh
namespace Go.Proofs.Ytfnibmfmjglmlaa
open Go.RowKit
set_option linter.unusedVariables false

/-! What two keys of the same bytes make is the same. -/
theorem key_enc {R nk : Nat} {k1 k2 key : Nat → By} (hR : R = nk + 6) (hn : nk = 4 ∨ nk = 8) (h1 : Ks nk (4 * (R + 1)) key k1) (h2 : Ks nk (4 * (R + 1)) key k2) (b : Nat → By) : E16 (enc R k1 b) (enc R k2 b) :=
  E16.enc (fun j hj => (h1.unique (by omega) h2 (fun _ _ => rfl)) j (by omega)) (E16.refl b)
theorem key_st {R nk : Nat} {k1 k2 key : Nat → By} (hR : R = nk + 6) (hn : nk = 4 ∨ nk = 8) (h1 : Ks nk (4 * (R + 1)) key k1) (h2 : Ks nk (4 * (R + 1)) key k2) (av txt : Nat → By) : stF R k1 av txt = stF R k2 av txt := by
  funext i
  unfold stF pad
  rw [key_enc hR hn h1 h2 _ (i % 16) (by omega)]
theorem blkF_congr {t1 t2 : Nat → By} {n : Nat} (h : ∀ j, j < n → t1 j = t2 j) (m : Nat) : blkF t1 n m = blkF t2 n m := by
  funext j
  unfold blkF
  by_cases hj : 16 * m + j < n
  · rw [if_pos hj, if_pos hj, h _ hj]
  · rw [if_neg hj, if_neg hj]
theorem hs_congr {t1 t2 : Nat → By} {n : Nat} (h : ∀ j, j < n → t1 j = t2 j) (s y : Po) (m : Nat) : hs s y t1 n m = hs s y t2 n m := by
  induction m with
  | zero => rfl
  | succ m ih =>
    show pr (hs s y t1 n m ^^^ pol (blkF t1 n m)) y = pr (hs s y t2 n m ^^^ pol (blkF t2 n m)) y
    rw [ih, blkF_congr h]
theorem tag_congr {R nk : Nat} {k1 k2 key : Nat → By} (hR : R = nk + 6) (hn : nk = 4 ∨ nk = 8) (h1 : Ks nk (4 * (R + 1)) key k1) (h2 : Ks nk (4 * (R + 1)) key k2) (nc ta : Nat → By) (na : Nat) {t1 t2 : Nat → By} {nx : Nat} (h : ∀ j, j < nx → t1 j = t2 j) : E16 (tagF R k1 nc ta na t1 nx) (tagF R k2 nc ta na t2 nx) := by
  intro j hj
  unfold tagF xr ghash
  rw [key_enc hR hn h1 h2 _ j hj, pol_congr (key_enc hR hn h1 h2 zB), hs_congr h]
theorem sealF_lo {R nx : Nat} {k nc ta tx : Nat → By} {na j : Nat} (h : j < nx) : sealF R k nc ta na tx nx j = stF R k (ctrB nc 2#8) tx j := by rw [sealF, if_pos h]
theorem sealF_hi {R nx : Nat} {k nc ta tx : Nat → By} {na j : Nat} : sealF R k nc ta na tx nx (nx + j) = tagF R k nc ta na (stF R k (ctrB nc 2#8) tx) nx j := by rw [sealF, if_neg (by omega), show nx + j - nx = j by omega]
theorem seal_key {R nk : Nat} {k1 k2 key : Nat → By} (hR : R = nk + 6) (hn : nk = 4 ∨ nk = 8) (h1 : Ks nk (4 * (R + 1)) key k1) (h2 : Ks nk (4 * (R + 1)) key k2) (nc ta : Nat → By) (na : Nat) (tx : Nat → By) (nx : Nat) : nums (nx + 16) (sealF R k1 nc ta na tx nx) = nums (nx + 16) (sealF R k2 nc ta na tx nx) := by
  refine nums_congr fun j hj => ?_
  by_cases h : j < nx
  · rw [sealF_lo h, sealF_lo h, key_st hR hn h1 h2]
  · have e : j = nx + (j - nx) := by omega
    rw [e, sealF_hi, sealF_hi, key_st hR hn h1 h2]
    exact tag_congr hR hn h1 h2 nc ta na (fun _ _ => rfl) (j - nx) (by omega)
/-- What was sealed is opened. -/
theorem seal_opens {R nk : Nat} {k1 k2 key : Nat → By} (hR : R = nk + 6) (hn : nk = 4 ∨ nk = 8) (h1 : Ks nk (4 * (R + 1)) key k1) (h2 : Ks nk (4 * (R + 1)) key k2) (nc ta : Nat → By) (na : Nat) (tx : Nat → By) (nx : Nat) :
    sameB 16 (tagF R k2 nc ta na (sealF R k1 nc ta na tx nx) nx) (fun j => sealF R k1 nc ta na tx nx (nx + j)) = true ∧ nums nx (stF R k2 (ctrB nc 2#8) (sealF R k1 nc ta na tx nx)) = nums nx tx := by
  constructor
  · rw [sameB_iff]
    intro j hj
    show _ = sealF R k1 nc ta na tx nx (nx + j)
    rw [sealF_hi]
    exact tag_congr hR hn h2 h1 nc ta na (fun i hi => by rw [sealF_lo hi]) j hj
  · refine nums_congr fun i hi => ?_
    rw [key_st hR hn h2 h1]
    unfold stF
    rw [sealF_lo hi, stF, BitVec.xor_assoc, BitVec.xor_self, BitVec.xor_zero]
/-- What is opened was sealed. -/
theorem opens_seal {R nk : Nat} {k1 k2 key : Nat → By} (hR : R = nk + 6) (hn : nk = 4 ∨ nk = 8) (h1 : Ks nk (4 * (R + 1)) key k1) (h2 : Ks nk (4 * (R + 1)) key k2) (nc ta : Nat → By) (na : Nat) (sf : Nat → By) (m : Nat) (h : sameB 16 (tagF R k1 nc ta na sf m) (fun j => sf (m + j)) = true) :
    nums (m + 16) (sealF R k2 nc ta na (stF R k1 (ctrB nc 2#8) sf) m) = nums (m + 16) sf := by
  have e0 : ∀ i, stF R k2 (ctrB nc 2#8) (stF R k1 (ctrB nc 2#8) sf) i = sf i := fun i => by
    rw [key_st hR hn h2 h1]
    unfold stF
    rw [BitVec.xor_assoc, BitVec.xor_self, BitVec.xor_zero]
  refine nums_congr fun j hj => ?_
  by_cases hjm : j < m
  · rw [sealF_lo hjm, e0]
  · have e : j = m + (j - m) := by omega
    rw [e, sealF_hi, tag_congr hR hn h2 h1 nc ta na (fun i _ => e0 i) (j - m) (by omega)]
    exact (sameB_iff 16 _ _).1 h (j - m) (by omega)

set_option maxRecDepth 100000 in
set_option maxHeartbeats 8000000 in
theorem sealsBad_walk (ao : Option Addr) (L cap nx cx : Nat) (nc tx : Nat → By) (va : Value) (xo : Option Addr) (w : World) (h1 : L ≠ 16) (h2 : L ≠ 32) (hvx : Ap.Rd w (.slice xo nx cx) (nums nx tx)) (hnx : nx ≤ 1048576) :
    Calls Try.prog 6 #[.slice ao L cap, .agg (ba 12 nc), va, .slice xo nx cx] w fun r w' => r = .returned (.bool true) ∧ Chg w w' := by
  have HX : Hid (Ap.Rd w (.slice xo nx cx) (nums nx tx)) := hvx
  have HN : Hid (∀ (v : Value) (u : World), Calls Try.prog 20 #[.slice ao L cap, .agg (ba 12 nc), va, v] u fun r w' => r = .returned (.tuple #[.slice none 0 0, .int .i64 1]) ∧ Chg u w') := fun v u => sealBad_any ao L cap nc va v u h1 h2
  have HM : Hid (∀ (v : Value) (u : World), Calls Try.prog 21 #[.slice ao L cap, .agg (ba 12 nc), va, v] u fun r w' => r = .returned (.tuple #[.slice none 0 0, .int .i64 1]) ∧ Chg u w') := fun v u => refSealBad_any ao L cap nc va v u h1 h2
  have hsA := ba_size 12 nc
  have hszA := szB nc zero38.2
  obtain ⟨A, hA⟩ : ∃ A, A = ba 12 nc := ⟨_, rfl⟩
  rw [← hA] at hsA hszA HN HM ⊢
  clear hA hvx h1 h2
  go_enter Try.func6, Try.ntmps6
  go_wp2_with fail
  go_at_call 14
  refine (ghead_any _).mono ?_
  rintro r w1 ⟨rfl, hc1⟩
  have Z1 : Hid (Chg w w1 ∧ Ar w1 w.heap.size A) := ⟨((Chg.refl w).alloc _).trans hc1, (Ar.new w _ _).chg hc1⟩
  clear hc1 hsA
  have Zr : Hid (Ap.Rd (w1.alloc (.cells #[] 5)) (.slice xo nx cx) (nums nx tx)) := Rd.chg HX.out (Z1.out.1.alloc _)
  go_wp2_with (at_builtin; refine Ap.wpList_app _ rfl _ _ rfl (.slice (some ⟨w1.heap.size, 0, none⟩) 0 0) (.slice xo nx cx) [] (nums nx tx) rfl rfl (OwnV.empty w1) Zr.out (by rw [nums_len]; simp; omega) ?_)
  intro v2 w2 o2 cc2 b2
  have k0 : OwnN w1 (w1.alloc (.cells #[] 5)) (.slice (some ⟨w1.heap.size, 0, none⟩) 0 0) [] := ⟨OwnV.empty w1, fun k e => by simp [Value.ownBlock] at e; omega, (Chg.refl w1).alloc _⟩
  have k2' := k0.more o2 cc2 (by first | exact b2 | (rw [World.size_alloc]; exact b2))
  obtain ⟨oo, m, oc, rfl, hm, -⟩ := o2.rd.shape
  have Z2 : Hid (Chg w w2 ∧ Ar w2 w.heap.size A ∧ Ap.Rd w2 (.slice oo m oc) (nums nx tx)) := ⟨Z1.out.1.trans k2'.chg, Z1.out.2.chg k2'.chg, o2.rd⟩
  clear k0 k2' o2 cc2 b2 Z1 Zr hm
  obtain ⟨tA, gA⟩ := Z2.out.2.1
  go_wp2_with (first | refine wpList_load_row rfl 38 _ rfl _ rfl _ _ _ _ gA und38 rfl hszA ?_)
  go_at_call 20
  refine (HN.out _ _).mono ?_
  rintro r w3 ⟨rfl, hc3⟩
  have Z3 : Hid (Chg w w3 ∧ Ar w3 w.heap.size A ∧ Ap.Rd w3 (.slice oo m oc) (nums nx tx)) := ⟨Z2.out.1.trans hc3, Z2.out.2.1.chg hc3, Rd.chg Z2.out.2.2 hc3⟩
  clear hc3 gA Z2
  obtain ⟨tB, gB⟩ := Z3.out.2.1
  go_wp2_with (first | refine wpList_load_row rfl 38 _ rfl _ rfl _ _ _ _ gB und38 rfl hszA ?_)
  go_at_call 21
  refine (HM.out _ _).mono ?_
  rintro r w4 ⟨rfl, hc4⟩
  have Z4 : Hid (Chg w w4 ∧ Ap.Rd w4 (.slice oo m oc) (nums nx tx)) := ⟨Z3.out.1.trans hc4, Rd.chg Z3.out.2.2 hc4⟩
  clear hc4 gB Z3
  have s1 := Ap.run_str w4 _ _ Z4.out.2
  have s2 := Ap.run_str w4 _ _ (Rd.chg HX.out Z4.out.1)
  have s3 := Ap.run_str w4 _ _ (Ap.Rd.nil w4)
  obtain ⟨S, hS⟩ : ∃ S, S = strOfNums (nums nx tx) := ⟨_, rfl⟩
  obtain ⟨E, hE⟩ : ∃ E, E = strOfNums [] := ⟨_, rfl⟩
  rw [← hS] at s1 s2
  rw [← hE] at s3
  clear hS hE
  go_wp2_with fail
  go_ret
  exact ⟨rfl, Z4.out.1⟩

set_option maxRecDepth 100000 in
set_option maxHeartbeats 8000000 in
theorem seals_walk (kb ko kcap L nk R na nx cx : Nat) (key nc ta tx : Nat → By) (va : Value) (xo : Option Addr) (w : World) (hv : Bs w kb ko L key) (hL : L = 4 * nk) (hn : nk = 4 ∨ nk = 8) (hR : R = nk + 6) (hcap : L ≤ kcap) (hcap' : kcap ≤ 9223372036854775807)
    (hva : Ap.Rd w va (nums na ta)) (hvx : Ap.Rd w (.slice xo nx cx) (nums nx tx)) (hna : na ≤ 1048576) (hnx : nx ≤ 1048576) :
    Calls Try.prog 6 #[.slice (some ⟨kb, ko, none⟩) L kcap, .agg (ba 12 nc), va, .slice xo nx cx] w fun r w' => r = .returned (.bool true) ∧ Chg w w' := by
  have HK : Hid (Bs w kb ko L key ∧ L = 4 * nk ∧ (nk = 4 ∨ nk = 8) ∧ R = nk + 6 ∧ L ≤ kcap ∧ kcap ≤ 9223372036854775807) := ⟨hv, hL, hn, hR, hcap, hcap'⟩
  have HX : Hid (Ap.Rd w va (nums na ta) ∧ Ap.Rd w (.slice xo nx cx) (nums nx tx) ∧ na ≤ 1048576 ∧ nx ≤ 1048576) := ⟨hva, hvx, hna, hnx⟩
  have hsA := ba_size 12 nc
  have hszA := szB nc zero38.2
  obtain ⟨A, hA⟩ : ∃ A, A = ba 12 nc := ⟨_, rfl⟩
  have HA : Hid (A = ba 12 nc) := hA
  rw [← hA] at hsA hszA ⊢
  clear hA hva hvx hv hL hn hR hcap hcap' hna
  go_enter Try.func6, Try.ntmps6
  go_wp2_with fail
  go_at_call 14
  refine (ghead_any _).mono ?_
  rintro r w1 ⟨rfl, hc1⟩
  have Z1 : Hid (Chg w w1 ∧ Ar w1 w.heap.size A) := ⟨((Chg.refl w).alloc _).trans hc1, (Ar.new w _ _).chg hc1⟩
  clear hc1 hsA
  have Zr : Hid (Ap.Rd (w1.alloc (.cells #[] 5)) (.slice xo nx cx) (nums nx tx)) := Rd.chg HX.out.2.1 (Z1.out.1.alloc _)
  go_wp2_with (at_builtin; refine Ap.wpList_app _ rfl _ _ rfl (.slice (some ⟨w1.heap.size, 0, none⟩) 0 0) (.slice xo nx cx) [] (nums nx tx) rfl rfl (OwnV.empty w1) Zr.out (by rw [nums_len]; simp; omega) ?_)
  intro v2 w2 o2 cc2 b2
  have k0 : OwnN w1 (w1.alloc (.cells #[] 5)) (.slice (some ⟨w1.heap.size, 0, none⟩) 0 0) [] := ⟨OwnV.empty w1, fun k e => by simp [Value.ownBlock] at e; omega, (Chg.refl w1).alloc _⟩
  have k2' := k0.more o2 cc2 (by first | exact b2 | (rw [World.size_alloc]; exact b2))
  obtain ⟨oo, m, oc, rfl, hm, -⟩ := o2.rd.shape
  have Z2 : Hid (Chg w w2 ∧ Ar w2 w.heap.size A ∧ Ap.Rd w2 (.slice oo m oc) (nums nx tx)) := ⟨Z1.out.1.trans k2'.chg, Z1.out.2.chg k2'.chg, o2.rd⟩
  clear k0 k2' o2 cc2 b2 Z1 Zr hm
  obtain ⟨tA, gA⟩ := Z2.out.2.1
  have C1 : Hid (Calls Try.prog 20 #[.slice (some ⟨kb, ko, none⟩) L kcap, .agg A, va, .slice oo m oc] w2 fun r w' => ∃ k v, r = .returned (.tuple #[v, .int .i64 0]) ∧ OwnN w2 w' v (nums (nx + 16) (sealF R k nc ta na tx nx)) ∧ Ks nk (4 * (R + 1)) key k) := by
    rw [HA.out]
    obtain ⟨a1, a2, a3, a4, a5, a6⟩ := HK.out
    obtain ⟨b1, b2, b3, b4⟩ := HX.out
    exact seal_any kb ko kcap L nk R key nc ta tx na nx va _ w2 (a1.chg Z2.out.1) a2 a3 a4 a5 a6 (Rd.chg b1 Z2.out.1) Z2.out.2.2 (by omega) (by omega)
  go_wp2_with (first | refine wpList_load_row rfl 38 _ rfl _ rfl _ _ _ _ gA und38 rfl hszA ?_)
  go_at_call 20
  refine C1.out.mono ?_
  rintro r w3 ⟨k1, v1, rfl, ho1, hk1⟩
  obtain ⟨p1, m1, q1, rfl, hm1, -⟩ := ho1.own.rd.shape
  rw [nums_len] at hm1
  have Z3 : Hid (Chg w w3 ∧ Ar w3 w.heap.size A ∧ Ap.Rd w3 (.slice oo m oc) (nums nx tx) ∧ Ap.Rd w3 (.slice p1 m1 q1) (nums (nx + 16) (sealF R k1 nc ta na tx nx)) ∧ m1 = nx + 16) := ⟨Z2.out.1.trans ho1.chg, Z2.out.2.1.chg ho1.chg, Rd.chg Z2.out.2.2 ho1.chg, ho1.own.rd, hm1⟩
  have HK1 : Hid (Ks nk (4 * (R + 1)) key k1) := hk1
  clear ho1 hk1 hm1 gA Z2 C1
  obtain ⟨tB, gB⟩ := Z3.out.2.1
  have C2 : Hid (Calls Try.prog 21 #[.slice (some ⟨kb, ko, none⟩) L kcap, .agg A, va, .slice xo nx cx] w3 fun r w' => ∃ k v, r = .returned (.tuple #[v, .int .i64 0]) ∧ OwnN w3 w' v (nums (nx + 16) (sealF R k nc ta na tx nx)) ∧ Ks nk (4 * (R + 1)) key k) := by
    rw [HA.out]
    obtain ⟨a1, a2, a3, a4, a5, a6⟩ := HK.out
    obtain ⟨b1, b2, b3, b4⟩ := HX.out
    exact refSeal_any kb ko kcap L nk R key nc ta tx na nx va _ w3 (a1.chg Z3.out.1) a2 a3 a4 a5 a6 (Rd.chg b1 Z3.out.1) (Rd.chg b2 Z3.out.1) b3 (by omega)
  go_wp2_with (first | refine wpList_load_row rfl 38 _ rfl _ rfl _ _ _ _ gB und38 rfl hszA ?_)
  go_at_call 21
  refine C2.out.mono ?_
  rintro r w4 ⟨k2, v2, rfl, ho2, hk2⟩
  obtain ⟨p2, m2, q2, rfl, -⟩ := ho2.own.rd.shape
  have Z4 : Hid (Chg w w4 ∧ Ar w4 w.heap.size A ∧ Ap.Rd w4 (.slice oo m oc) (nums nx tx) ∧ Ap.Rd w4 (.slice p1 m1 q1) (nums (nx + 16) (sealF R k1 nc ta na tx nx)) ∧ Ap.Rd w4 (.slice p2 m2 q2) (nums (nx + 16) (sealF R k1 nc ta na tx nx)) ∧ m1 = nx + 16) := by
    obtain ⟨r0, r1, r2, r3, r4⟩ := Z3.out
    refine ⟨r0.trans ho2.chg, r1.chg ho2.chg, Rd.chg r2 ho2.chg, Rd.chg r3 ho2.chg, ?_, r4⟩
    rw [seal_key HK.out.2.2.2.1 HK.out.2.2.1 HK1.out hk2]
    exact ho2.own.rd
  clear ho2 hk2 gB Z3 C2
  have s1 := Ap.run_str w4 _ _ Z4.out.2.2.1
  have s2 := Ap.run_str w4 _ _ (Rd.chg HX.out.2.1 Z4.out.1)
  have s3 := Ap.run_str w4 _ _ Z4.out.2.2.2.1
  have s4 := Ap.run_str w4 _ _ Z4.out.2.2.2.2.1
  obtain ⟨S, hS⟩ : ∃ S, S = strOfNums (nums nx tx) := ⟨_, rfl⟩
  have HS : Hid (S = strOfNums (nums nx tx)) := hS
  obtain ⟨E, hE⟩ : ∃ E, E = strOfNums (nums (nx + 16) (sealF R k1 nc ta na tx nx)) := ⟨_, rfl⟩
  rw [← hS] at s1 s2
  rw [← hE] at s3 s4
  clear hS hE
  go_upto_region 9 with fail
  clear s1 s2 s3 s4
  obtain ⟨tC, gC⟩ := Z4.out.2.1
  obtain ⟨sb, so, cs, hsh, hcs1, hcs2, hbs⟩ := Rd.bs Z4.out.2.2.2.1 (by omega)
  injection hsh with e1 e2 e3
  subst e1 e2 e3
  have HBS : Hid (Bs w4 sb so (nx + 16) (sealF R k1 nc ta na tx nx) ∧ nx + 16 ≤ q1 ∧ q1 ≤ 9223372036854775807) := ⟨hbs, hcs1, hcs2⟩
  clear hbs hcs1 hcs2
  have C3 : Hid (Calls Try.prog 22 #[.slice (some ⟨kb, ko, none⟩) L kcap, .agg A, va, .slice (some ⟨sb, so, none⟩) (nx + 16) q1] w4 fun r w' => ∃ v, r = .returned (.tuple #[v, .int .i64 0]) ∧ Chg w4 w' ∧ Ap.Rd w' v (nums nx tx)) := by
    rw [HA.out]
    obtain ⟨a1, a2, a3, a4, a5, a6⟩ := HK.out
    obtain ⟨b1, b2, b3, b4⟩ := HX.out
    refine (open_any kb ko kcap L nk R key nc ta (sealF R k1 nc ta na tx nx) na nx sb so q1 va w4 (a1.chg Z4.out.1) a2 a3 a4 a5 a6 (Rd.chg b1 Z4.out.1) HBS.out.1 HBS.out.2.1 HBS.out.2.2 (by omega) (by omega)).mono ?_
    rintro r w' ⟨k3, hk3, hc, h⟩
    have hso := seal_opens a4 a3 HK1.out hk3 nc ta na tx nx
    rcases h with ⟨h1, v, hr, hrd⟩ | ⟨h1, _⟩
    · rw [hso.2] at hrd
      exact ⟨v, hr, hc, hrd⟩
    · rw [hso.1] at h1
      cases h1
  obtain ⟨n16, hn16⟩ : ∃ n16, n16 = nx + 16 := ⟨_, rfl⟩
  rw [← hn16] at C3 ⊢
  have hadd : (nx : Int) + 16 = n16 := by omega
  have wadd := wrap_i (x := (n16 : Int)) (by omega) (by omega)
  clear hn16
  go_wp2_with (first | refine wpList_load_row rfl 38 _ rfl _ rfl _ _ _ _ gC und38 rfl hszA ?_)
  go_at_call 22
  refine C3.out.mono ?_
  rintro r w5 ⟨v3, rfl, hc5, hrd⟩
  obtain ⟨p3, m3, q3, rfl, -⟩ := hrd.shape
  have s5 := Ap.run_str w5 _ _ hrd
  have s6 := Ap.run_str w5 _ _ (Rd.chg HX.out.2.1 (Z4.out.1.trans hc5))
  rw [← HS.out] at s5 s6
  have Z5 : Hid (Chg w w5) := Z4.out.1.trans hc5
  clear hc5 hrd gC
  go_wp2_with fail
  go_ret
  exact ⟨rfl, Z5.out⟩

theorem seals_any (v va vx : Value) (L na nx : Nat) (key nc ta tx : Nat → By) (w : World) (hv : Ap.Rd w v (nums L key)) (hva : Ap.Rd w va (nums na ta)) (hvx : Ap.Rd w vx (nums nx tx)) (hna : na ≤ 1048576) (hnx : nx ≤ 1048576) : Calls Try.prog 6 #[v, .agg (ba 12 nc), va, vx] w fun e w' => e = .returned (.bool true) ∧ Chg w w' := by
  obtain ⟨xo, m2, cx, rfl, hm2, -⟩ := hvx.shape
  rw [nums_len] at hm2
  subst hm2
  by_cases h : L = 16 ∨ L = 32
  · obtain ⟨kb, ko, c, rfl, h1, h2, h3⟩ := Rd.bs hv (by omega)
    rcases h with rfl | rfl
    · exact seals_walk kb ko c 16 4 10 na m2 cx key nc ta tx va xo w h3 rfl (.inl rfl) rfl h1 h2 hva hvx hna hnx
    · exact seals_walk kb ko c 32 8 14 na m2 cx key nc ta tx va xo w h3 rfl (.inr rfl) rfl h1 h2 hva hvx hna hnx
  · obtain ⟨ao, m, c, rfl, hm, _⟩ := hv.shape
    rw [nums_len] at hm
    subst hm
    exact sealsBad_walk ao m c m2 cx nc tx va xo w (by omega) (by omega) hvx hnx
end Go.Proofs.Ytfnibmfmjglmlaa
