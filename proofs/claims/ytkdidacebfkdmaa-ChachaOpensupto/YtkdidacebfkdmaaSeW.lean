/-
  What is locked up is the document's, and is opened as the text: ChachaSeals walked.
-/
import Derived.Test.YtkdidacebfkdmaaROp
namespace Go.Proofs.Ytkdidacebfkdmaa
open Go.RowKit
set_option linter.unusedVariables false

def sealF (key nonce : Nat → By) (xs : List Int) (n : Nat) (txt : Nat → By) : Nat → By := fun i => if i < n then stF key 1#32 nonce txt i else tagF key nonce xs (nums n (stF key 1#32 nonce txt)) (i - n)
theorem sealF_lo {n j : Nat} {key nonce txt : Nat → By} {xs : List Int} (h : j < n) : sealF key nonce xs n txt j = stF key 1#32 nonce txt j := by rw [sealF, if_pos h]
theorem sealF_hi {n j : Nat} {key nonce txt : Nat → By} {xs : List Int} : sealF key nonce xs n txt (n + j) = tagF key nonce xs (nums n (stF key 1#32 nonce txt)) j := by rw [sealF, if_neg (by omega), show n + j - n = j by omega]
theorem sealL_nums (key nonce : Nat → By) (xs : List Int) (n : Nat) (txt : Nat → By) : sealL key nonce xs n txt = nums (n + 16) (sealF key nonce xs n txt) := by
  rw [nums_split (n + 16) n _ (by omega), show n + 16 - n = 16 by omega, sealL]
  rw [nums_congr (f := sealF key nonce xs n txt) (g := stF key 1#32 nonce txt) fun i hi => sealF_lo hi]
  rw [nums_congr (n := 16) (f := fun i => sealF key nonce xs n txt (n + i)) (g := tagF key nonce xs (nums n (stF key 1#32 nonce txt))) fun i hi => sealF_hi]
theorem stF_congr (n : Nat) (key nonce : Nat → By) (c : Wd) {f g : Nat → By} (h : ∀ i, i < n → f i = g i) : nums n (stF key c nonce f) = nums n (stF key c nonce g) := nums_congr fun i hi => by
  unfold stF
  rw [h i hi]
/-- What was sealed is opened. -/
theorem seal_opens (key nonce : Nat → By) (xs : List Int) (n : Nat) (txt : Nat → By) :
    sameB 16 (tagF key nonce xs (nums n (sealF key nonce xs n txt))) (fun j => sealF key nonce xs n txt (n + j)) = true ∧ nums n (stF key 1#32 nonce (sealF key nonce xs n txt)) = nums n txt := by
  constructor
  · rw [sameB_iff]
    intro j hj
    show _ = sealF key nonce xs n txt (n + j)
    rw [sealF_hi, nums_congr fun i hi => sealF_lo hi]
  · rw [stF_congr n key nonce 1#32 (fun i hi => sealF_lo hi)]
    exact stF_back n key nonce txt 1#32
/-- What is opened was sealed. -/
theorem opens_seal (key nonce : Nat → By) (xs : List Int) (m : Nat) (sf : Nat → By) (h : sameB 16 (tagF key nonce xs (nums m sf)) (fun j => sf (m + j)) = true) :
    sealL key nonce xs m (stF key 1#32 nonce sf) = nums (m + 16) sf := by
  rw [nums_split (m + 16) m sf (by omega), show m + 16 - m = 16 by omega, sealL, stF_back]
  rw [nums_congr (n := 16) ((sameB_iff 16 _ _).1 h)]

set_option maxRecDepth 100000 in
set_option maxHeartbeats 8000000 in
theorem seals_walk (key nonce txt : Nat → By) (ao xo : Option Addr) (na ca n cx : Nat) (xs : List Int) (w : World) (hx : Ap.Rd w (.slice ao na ca) xs) (hy : Ap.Rd w (.slice xo n cx) (nums n txt)) (hxb : Bt xs) (hxl : xs.length ≤ 8388608) (hyl : n ≤ 8388608) :
    Calls Try.prog 5 #[.agg (ba 32 key), .agg (ba 12 nonce), .slice ao na ca, .slice xo n cx] w fun r w' => r = .returned (.bool true) ∧ Chg w w' := by
  obtain ⟨A, hA⟩ : ∃ A, A = ba 32 key := ⟨_, rfl⟩
  obtain ⟨D, hD⟩ : ∃ D, D = ba 12 nonce := ⟨_, rfl⟩
  have hsA : A.size = 32 := by rw [hA]; exact ba_size _ _
  have hsD : D.size = 12 := by rw [hD]; exact ba_size _ _
  have HSA : Hid ((Try.prog.info? 22).map (·.size) = some A.size ∧ (Try.prog.info? 24).map (·.size) = some D.size) := ⟨by rw [hA]; exact szB key i22, by rw [hD]; exact szB nonce i24⟩
  have HAD : Hid (A = ba 32 key ∧ D = ba 12 nonce) := ⟨hA, hD⟩
  rw [← hA, ← hD]
  have HX : Hid (Ap.Rd w (.slice ao na ca) xs ∧ Ap.Rd w (.slice xo n cx) (nums n txt) ∧ Bt xs ∧ xs.length ≤ 8388608) := ⟨hx, hy, hxb, hxl⟩
  clear hA hD hx hy hxb hxl
  go_enter Try.func5, Try.ntmps5
  go_wp2_with fail
  go_at_call 8
  refine (head_any _).mono ?_
  rintro r w1 ⟨rfl, hc1⟩
  have Z1 : Hid (KN w w1 key nonce) := by
    rw [HAD.out.1, HAD.out.2] at hc1
    exact KN.to (⟨((Chg.refl w).alloc _).alloc _, (Ar.new w _ _).alloc _, Ar.new1 w _ _ _⟩ : KN w ((w.alloc (.cells (ba 32 key) 22)).alloc (.cells (ba 12 nonce) 24)) key nonce) hc1
  clear hc1 hsA hsD
  have Zr : Hid (Ap.Rd (w1.alloc (.cells #[] 5)) (.slice xo n cx) (nums n txt)) := Rd.chg HX.out.2.1 (Z1.out.chg.alloc _)
  go_wp2_with (at_builtin; refine Ap.wpList_app _ rfl _ _ rfl (.slice (some ⟨w1.heap.size, 0, none⟩) 0 0) (.slice xo n cx) [] (nums n txt) rfl rfl (OwnV.empty w1) Zr.out (by rw [nums_len]; simp; omega) ?_)
  intro v2 w2 o2 cc2 b2
  have k0 : OwnN w1 (w1.alloc (.cells #[] 5)) (.slice (some ⟨w1.heap.size, 0, none⟩) 0 0) [] := ⟨OwnV.empty w1, fun k e => by simp [Value.ownBlock] at e; omega, (Chg.refl w1).alloc _⟩
  have k2' := k0.more o2 cc2 (by first | exact b2 | (rw [World.size_alloc]; exact b2))
  obtain ⟨oo, m, oc, rfl, hm, -⟩ := o2.rd.shape
  rw [nums_len] at hm
  subst hm
  have Z2 : Hid (Chg w w2 ∧ Ar w2 w.heap.size A ∧ Ar w2 (w.heap.size + 1) D ∧ Ap.Rd w2 (.slice oo m oc) (nums m txt)) := by
    have q := KN.to Z1.out k2'.chg
    rw [HAD.out.1, HAD.out.2]
    exact ⟨q.chg, q.ky, q.non, o2.rd⟩
  obtain ⟨n, hnm⟩ : ∃ n, n = m := ⟨_, rfl⟩
  subst hnm
  clear k0 k2' o2 cc2 b2 Z1 Zr
  obtain ⟨sF, hsF⟩ : ∃ sF, sF = sealF key nonce xs n txt := ⟨_, rfl⟩
  have HSF : Hid (sF = sealF key nonce xs n txt) := hsF
  have C1 : Hid (Calls Try.prog 15 #[.agg A, .agg D, .slice ao na ca, .slice oo n oc] w2 fun r w' => ∃ v, r = .returned v ∧ OwnN w2 w' v (nums (n + 16) sF)) := by
    rw [HAD.out.1, HAD.out.2, hsF, ← sealL_nums]
    exact seal_any key nonce txt ao oo na ca n oc xs w2 (Rd.chg HX.out.1 Z2.out.1) Z2.out.2.2.2 HX.out.2.2.1 HX.out.2.2.2 hyl
  have HR : Hid (∀ w5 u, Chg w w5 → Chg w5.drew u → Calls Try.prog 17 #[.agg (ba 32 key), .agg (ba 12 nonce), .slice ao na ca, .slice xo n cx] u fun r w' => ∃ v, r = .returned v ∧ OwnN u w' v (nums (n + 16) sF)) := by
    intro w5 u c5 c
    rw [hsF, ← sealL_nums]
    exact refSeal_any key nonce txt ao xo na ca n cx xs u (Rd.chg HX.out.1 (c5.drew.trans c)) (Rd.chg HX.out.2.1 (c5.drew.trans c)) HX.out.2.2.1 HX.out.2.2.2 hyl
  clear hsF
  obtain ⟨tA, gA⟩ := Z2.out.2.1
  obtain ⟨tD, gD⟩ := Z2.out.2.2.1
  go_wp2_with (first | refine wpList_load_row rfl 22 _ rfl _ rfl _ _ _ _ gA und22 rfl HSA.out.1 ?_ | refine wpList_load_row rfl 24 _ rfl _ rfl _ _ _ _ gD und24 rfl HSA.out.2 ?_)
  go_at_call 15
  refine C1.out.mono ?_
  rintro r w3 ⟨v1, rfl, ho1⟩
  obtain ⟨sb, so, q1, rfl, hcs1, hcs2, hbs⟩ := Rd.bs ho1.own.rd (by omega)
  have Z3 : Hid (Chg w w3 ∧ Ar w3 w.heap.size A ∧ Ar w3 (w.heap.size + 1) D ∧ Ap.Rd w3 (.slice oo n oc) (nums n txt)) := ⟨Z2.out.1.trans ho1.chg, Z2.out.2.1.chg ho1.chg, Z2.out.2.2.1.chg ho1.chg, Rd.chg Z2.out.2.2.2 ho1.chg⟩
  have HBS : Hid (Bs w3 sb so (n + 16) sF ∧ n + 16 ≤ q1 ∧ q1 ≤ 9223372036854775807) := ⟨hbs, hcs1, hcs2⟩
  clear ho1 gA gD Z2 C1 hbs hcs1 hcs2
  have C3 : Hid (Calls Try.prog 16 #[.agg A, .agg D, .slice ao na ca, .slice (some ⟨sb, so, none⟩) (n + 16) q1] w3 fun r w' => ∃ v, r = .returned (.tuple #[v, .int .i64 0]) ∧ Chg w3 w' ∧ Ap.Rd w' v (nums n txt)) := by
    rw [HAD.out.1, HAD.out.2]
    refine (open_any key nonce sF na ca n sb so q1 ao xs w3 (Rd.chg HX.out.1 Z3.out.1) HX.out.2.2.1 HX.out.2.2.2 HBS.out.1 HBS.out.2.1 HBS.out.2.2 hyl).mono ?_
    rintro r w' ⟨hc, h⟩
    have hso := seal_opens key nonce xs n txt
    rw [← HSF.out] at hso
    rcases h with ⟨h1, v, hr, hrd⟩ | ⟨h1, _⟩
    · rw [hso.2] at hrd
      exact ⟨v, hr, hc, hrd⟩
    · rw [hso.1] at h1
      cases h1
  obtain ⟨n16, hn16⟩ : ∃ n16, n16 = n + 16 := ⟨_, rfl⟩
  rw [← hn16] at C3 HBS HR ⊢
  have hadd : (n : Int) + 16 = n16 := by omega
  have wadd := wrap_i (x := (n16 : Int)) (by omega) (by omega)
  clear hn16
  obtain ⟨tA, gA⟩ := Z3.out.2.1
  obtain ⟨tD, gD⟩ := Z3.out.2.2.1
  go_wp2_with (first | refine wpList_load_row rfl 22 _ rfl _ rfl _ _ _ _ gA und22 rfl HSA.out.1 ?_ | refine wpList_load_row rfl 24 _ rfl _ rfl _ _ _ _ gD und24 rfl HSA.out.2 ?_)
  go_at_call 16
  refine C3.out.mono ?_
  rintro r w4 ⟨v3, rfl, hc4, hrd⟩
  obtain ⟨p3, m3, q3, rfl, hm3, -⟩ := hrd.shape
  rw [nums_len] at hm3
  subst hm3
  obtain ⟨n, hnm⟩ : ∃ n, n = m3 := ⟨_, rfl⟩
  subst hnm
  obtain ⟨w5, hw5⟩ : ∃ w5, w5 = w4 := ⟨_, rfl⟩
  have Z5 : Hid (KN w w5 key nonce ∧ Ap.Rd w5 (.slice (some ⟨sb, so, none⟩) n16 q1) (nums n16 sF) ∧ Ap.Rd w5 (.slice oo n oc) (nums n txt) ∧ Ap.Rd w5 (.slice p3 n q3) (nums n txt)) := by
    rw [hw5]
    refine ⟨⟨Z3.out.1.trans hc4, ?_, ?_⟩, Rd.chg (Bs.rd HBS.out.1 HBS.out.2.1 HBS.out.2.2) hc4, Rd.chg Z3.out.2.2.2 hc4, hrd⟩
    · rw [← HAD.out.1]; exact Z3.out.2.1.chg hc4
    · rw [← HAD.out.2]; exact Z3.out.2.2.1.chg hc4
  rw [← hw5]
  clear hw5 hc4 hrd gA gD Z3 C3 HBS
  obtain ⟨S, hS⟩ : ∃ S, S = strOfNums (nums n txt) := ⟨_, rfl⟩
  obtain ⟨E, hE⟩ : ∃ E, E = strOfNums (nums n16 sF) := ⟨_, rfl⟩
  have HSS : Hid (S = strOfNums (nums n txt) ∧ E = strOfNums (nums n16 sF)) := ⟨hS, hE⟩
  clear hS hE
  replace HR : Hid (∀ u, Chg w5.drew u → Calls Try.prog 17 #[.agg (ba 32 key), .agg (ba 12 nonce), .slice ao na ca, .slice xo n cx] u fun r w' => ∃ v, r = .returned v ∧ OwnN u w' v (nums n16 sF)) := fun u c => HR.out w5 u Z5.out.1.chg c
  go_upto_region 5 with fail
  refine wp_region_good 38 (fun j v wg => match j with
    | 0 => v = .bool true
    | 1 => v = .bool true
    | 2 => v = .slice (some ⟨sb, so, none⟩) n16 q1
    | 3 => v = .string E
    | 4 => v = .agg (ba 32 key)
    | 5 => v = .agg (ba 12 nonce)
    | 6 => v = .slice ao na ca
    | 7 => v = .slice xo n cx
    | 8 => ∃ vx, v = vx ∧ Ap.Rd wg vx (nums n16 sF)
    | 9 => v = .string E
    | 10 => v = .bool true
    | 11 => v = .bool true
    | 12 => v = .bool true
    | 13 => v = .slice oo n oc
    | 14 => v = .string S
    | 15 => v = .slice xo n cx
    | 16 => v = .string S
    | 17 => v = .bool true
    | 18 => v = .bool true
    | 19 => v = .bool true
    | 20 => v = .int .i64 0
    | 21 => v = .bool true
    | 22 => v = .bool true
    | 23 => v = .bool true
    | 24 => v = .slice p3 n q3
    | 25 => v = .string S
    | 26 => v = .slice xo n cx
    | 27 => v = .string S
    | 28 => v = .bool true
    | 29 => v = .bool true
    | 30 => v = .bool true
    | 31 => v = .slice (some ⟨sb, so, none⟩) n16 q1
    | 32 => v = .int .i64 (n16 : Int)
    | 33 => v = .slice xo n cx
    | 34 => v = .int .i64 (n : Int)
    | 35 => v = .int .i64 (n16 : Int)
    | 36 => v = .bool true
    | 37 => v = .bool true
    | _ => True) (by kernel_rfl) (by kernel_rfl) (by kernel_rfl) (by kernel_rfl) (by kernel_rfl) ?_ ?_ ?_
  · intro j v u1 u2 h hc
    match j, h with
    | 0, h => exact h
    | 1, h => exact h
    | 2, h => exact h
    | 3, h => exact h
    | 4, h => exact h
    | 5, h => exact h
    | 6, h => exact h
    | 7, h => exact h
    | 8, h => (obtain ⟨vx, h1, h2⟩ := h; exact ⟨vx, h1, Rd.chg h2 hc⟩)
    | 9, h => exact h
    | 10, h => exact h
    | 11, h => exact h
    | 12, h => exact h
    | 13, h => exact h
    | 14, h => exact h
    | 15, h => exact h
    | 16, h => exact h
    | 17, h => exact h
    | 18, h => exact h
    | 19, h => exact h
    | 20, h => exact h
    | 21, h => exact h
    | 22, h => exact h
    | 23, h => exact h
    | 24, h => exact h
    | 25, h => exact h
    | 26, h => exact h
    | 27, h => exact h
    | 28, h => exact h
    | 29, h => exact h
    | 30, h => exact h
    | 31, h => exact h
    | 32, h => exact h
    | 33, h => exact h
    | 34, h => exact h
    | 35, h => exact h
    | 36, h => exact h
    | 37, h => exact h
    | _ + 38, h => exact trivial
  · intro i o ac u hi ho hsz hf hg hc
    have hcs : i = 0 ∨ i = 1 ∨ i = 2 ∨ i = 3 ∨ i = 4 ∨ i = 5 ∨ i = 6 ∨ i = 7 ∨ i = 8 ∨ i = 9 ∨ i = 10 ∨ i = 11 ∨ i = 12 ∨ i = 13 ∨ i = 14 ∨ i = 15 ∨ i = 16 ∨ i = 17 ∨ i = 18 ∨ i = 19 ∨ i = 20 ∨ i = 21 ∨ i = 22 ∨ i = 23 ∨ i = 24 ∨ i = 25 ∨ i = 26 ∨ i = 27 ∨ i = 28 ∨ i = 29 ∨ i = 30 ∨ i = 31 ∨ i = 32 ∨ i = 33 ∨ i = 34 ∨ i = 35 ∨ i = 36 ∨ i = 37 := by omega
    rcases hcs with rfl | rfl | rfl | rfl | rfl | rfl | rfl | rfl | rfl | rfl | rfl | rfl | rfl | rfl | rfl | rfl | rfl | rfl | rfl | rfl | rfl | rfl | rfl | rfl | rfl | rfl | rfl | rfl | rfl | rfl | rfl | rfl | rfl | rfl | rfl | rfl | rfl | rfl
    · injection ho with ho
      subst ho
      refine .inl ⟨wanted_none rfl, ?_⟩
      have e1 : ac.eval (.tmp 9) = .bool true := hf 9 (by kernel_rfl)
      exact opG_val (by simp [execOp, e1]) rfl (Chg.refl _)
    · injection ho with ho
      subst ho
      refine .inl ⟨wanted_none rfl, ?_⟩
      have e1 : ac.eval (.tmp 31) = .bool true := hg 0 (by kernel_rfl) (by decide)
      exact opG_val (by simp [execOp, e1]) rfl (Chg.refl _)
    · injection ho with ho
      subst ho
      refine .inl ⟨wanted_by (T := _) (by kernel_rfl) hsz rfl (by decide : 1 < 38) rfl (hg 1 (by kernel_rfl) (by decide)), ?_⟩
      have e1 : ac.eval (.tmp 11) = .slice (some ⟨sb, so, none⟩) n16 q1 := hf 11 (by kernel_rfl)
      exact opG_val (by simp [execOp, e1]) rfl (Chg.refl _)
    · injection ho with ho
      subst ho
      refine .inl ⟨wanted_by (T := _) (by kernel_rfl) hsz rfl (by decide : 1 < 38) rfl (hg 1 (by kernel_rfl) (by decide)), ?_⟩
      have e1 : ac.eval (.tmp 33) = .slice (some ⟨sb, so, none⟩) n16 q1 := hg 2 (by kernel_rfl) (by decide)
      have hcv := (show (convert 25 9 (.slice (some ⟨sb, so, none⟩) n16 q1)).run Try.prog u = .ok (.string E) u from by rw [HSS.out.2]; exact Ap.run_str u _ _ (Rd.chg (w := w5.drew) (Ap.Rd.drew Z5.out.2.1) hc))
      exact opG_val (by simp [execOp, e1, hcv]) rfl (Chg.refl _)
    · injection ho with ho
      subst ho
      refine .inl ⟨wanted_by (T := _) (by kernel_rfl) hsz rfl (by decide : 1 < 38) rfl (hg 1 (by kernel_rfl) (by decide)), ?_⟩
      have e1 : ac.eval (.tmp 4) = .pointer (some ⟨w.heap.size, 0, none⟩) := hf 4 (by kernel_rfl)
      exact wp_load_mid 22 (.tmp 4) rfl _ _ e1 ((ba 32 key).toList) _ (rangeA (Ar.chg (w := w5.drew) Z5.out.1.ky hc)) und22 rfl (info32 _) ⟨_, rfl, rfl, Chg.refl _⟩
    · injection ho with ho
      subst ho
      refine .inl ⟨wanted_by (T := _) (by kernel_rfl) hsz rfl (by decide : 1 < 38) rfl (hg 1 (by kernel_rfl) (by decide)), ?_⟩
      have e1 : ac.eval (.tmp 5) = .pointer (some ⟨w.heap.size + 1, 0, none⟩) := hf 5 (by kernel_rfl)
      exact wp_load_mid 24 (.tmp 5) rfl _ _ e1 ((ba 12 nonce).toList) _ (rangeA (Ar.chg (w := w5.drew) Z5.out.1.non hc)) und24 rfl (info12 _) ⟨_, rfl, rfl, Chg.refl _⟩
    · injection ho with ho
      subst ho
      refine .inl ⟨wanted_by (T := _) (by kernel_rfl) hsz rfl (by decide : 1 < 38) rfl (hg 1 (by kernel_rfl) (by decide)), ?_⟩
      have e1 : ac.eval (.tmp 2) = .slice ao na ca := hf 2 (by kernel_rfl)
      exact opG_val (by simp [execOp, e1]) rfl (Chg.refl _)
    · injection ho with ho
      subst ho
      refine .inl ⟨wanted_by (T := _) (by kernel_rfl) hsz rfl (by decide : 1 < 38) rfl (hg 1 (by kernel_rfl) (by decide)), ?_⟩
      have e1 : ac.eval (.tmp 3) = .slice xo n cx := hf 3 (by kernel_rfl)
      exact opG_val (by simp [execOp, e1]) rfl (Chg.refl _)
    · injection ho with ho
      subst ho
      refine .inl ⟨wanted_by (T := _) (by kernel_rfl) hsz rfl (by decide : 1 < 38) rfl (hg 1 (by kernel_rfl) (by decide)), ?_⟩
      have e1 : ac.eval (.tmp 35) = .agg (ba 32 key) := hg 4 (by kernel_rfl) (by decide)
      have e2 : ac.eval (.tmp 36) = .agg (ba 12 nonce) := hg 5 (by kernel_rfl) (by decide)
      have e3 : ac.eval (.tmp 37) = .slice ao na ca := hg 6 (by kernel_rfl) (by decide)
      have e4 : ac.eval (.tmp 38) = .slice xo n cx := hg 7 (by kernel_rfl) (by decide)
      refine opG_go 17 Try.f17 #[.tmp 35, .tmp 36, .tmp 37, .tmp 38] #[22, 24, 25, 25] rfl Try.func17 (by kernel_rfl) (by kernel_rfl) (by simp [e1, e2, e3, e4]) (Calls.mono (HR.out _ hc) ?_)
      rintro e u2 ⟨v2, rfl, ho⟩
      exact ⟨_, rfl, ⟨v2, rfl, ho.own.rd⟩, ho.chg⟩
    · injection ho with ho
      subst ho
      refine .inl ⟨wanted_by (T := _) (by kernel_rfl) hsz rfl (by decide : 1 < 38) rfl (hg 1 (by kernel_rfl) (by decide)), ?_⟩
      obtain ⟨vx, e10, xx⟩ := hg 8 (by kernel_rfl) (by decide)
      have e1 : ac.eval (.tmp 39) = vx := e10
      have hcv := (show (convert 25 9 (vx)).run Try.prog u = .ok (.string E) u from by rw [HSS.out.2]; exact Ap.run_str u _ _ (xx))
      exact opG_val (by simp [execOp, e1, hcv]) rfl (Chg.refl _)
    · injection ho with ho
      subst ho
      refine .inl ⟨wanted_by (T := _) (by kernel_rfl) hsz rfl (by decide : 1 < 38) rfl (hg 1 (by kernel_rfl) (by decide)), ?_⟩
      have e1 : ac.eval (.tmp 34) = .string E := hg 3 (by kernel_rfl) (by decide)
      have e2 : ac.eval (.tmp 40) = .string E := hg 9 (by kernel_rfl) (by decide)
      exact opG_val (by revert e1 e2; generalize ac.eval = ρ; intro e1 e2; simp [go_sem, execOp, e1, e2]) rfl (Chg.refl _)
    · injection ho with ho
      subst ho
      refine .inl ⟨wanted_none rfl, ?_⟩
      have e1 : ac.eval (.tmp 32) = .bool true := hg 1 (by kernel_rfl) (by decide)
      have e2 : ac.eval (.tmp 41) = .bool true := hg 10 (by kernel_rfl) (by decide)
      have e3 : ac.eval (.const (.bool false)) = .bool false := rfl
      exact opG_val (by revert e1 e2 e3; generalize ac.eval = ρ; intro e1 e2 e3; simp [go_sem, execOp, e1, e2, e3]) rfl (Chg.refl _)
    · injection ho with ho
      subst ho
      refine .inl ⟨wanted_none rfl, ?_⟩
      have e1 : ac.eval (.tmp 42) = .bool true := hg 11 (by kernel_rfl) (by decide)
      exact opG_val (by simp [execOp, e1]) rfl (Chg.refl _)
    · injection ho with ho
      subst ho
      refine .inl ⟨wanted_by (T := _) (by kernel_rfl) hsz rfl (by decide : 12 < 38) rfl (hg 12 (by kernel_rfl) (by decide)), ?_⟩
      have e1 : ac.eval (.tmp 10) = .slice oo n oc := hf 10 (by kernel_rfl)
      exact opG_val (by simp [execOp, e1]) rfl (Chg.refl _)
    · injection ho with ho
      subst ho
      refine .inl ⟨wanted_by (T := _) (by kernel_rfl) hsz rfl (by decide : 12 < 38) rfl (hg 12 (by kernel_rfl) (by decide)), ?_⟩
      have e1 : ac.eval (.tmp 44) = .slice oo n oc := hg 13 (by kernel_rfl) (by decide)
      have hcv := (show (convert 25 9 (.slice oo n oc)).run Try.prog u = .ok (.string S) u from by rw [HSS.out.1]; exact Ap.run_str u _ _ (Rd.chg (w := w5.drew) (Ap.Rd.drew Z5.out.2.2.1) hc))
      exact opG_val (by simp [execOp, e1, hcv]) rfl (Chg.refl _)
    · injection ho with ho
      subst ho
      refine .inl ⟨wanted_by (T := _) (by kernel_rfl) hsz rfl (by decide : 12 < 38) rfl (hg 12 (by kernel_rfl) (by decide)), ?_⟩
      have e1 : ac.eval (.tmp 3) = .slice xo n cx := hf 3 (by kernel_rfl)
      exact opG_val (by simp [execOp, e1]) rfl (Chg.refl _)
    · injection ho with ho
      subst ho
      refine .inl ⟨wanted_by (T := _) (by kernel_rfl) hsz rfl (by decide : 12 < 38) rfl (hg 12 (by kernel_rfl) (by decide)), ?_⟩
      have e1 : ac.eval (.tmp 46) = .slice xo n cx := hg 15 (by kernel_rfl) (by decide)
      have hcv := (show (convert 25 9 (.slice xo n cx)).run Try.prog u = .ok (.string S) u from by rw [HSS.out.1]; exact Ap.run_str u _ _ (Rd.chg HX.out.2.1 (Z5.out.1.chg.drew.trans hc)))
      exact opG_val (by simp [execOp, e1, hcv]) rfl (Chg.refl _)
    · injection ho with ho
      subst ho
      refine .inl ⟨wanted_by (T := _) (by kernel_rfl) hsz rfl (by decide : 12 < 38) rfl (hg 12 (by kernel_rfl) (by decide)), ?_⟩
      have e1 : ac.eval (.tmp 45) = .string S := hg 14 (by kernel_rfl) (by decide)
      have e2 : ac.eval (.tmp 47) = .string S := hg 16 (by kernel_rfl) (by decide)
      exact opG_val (by revert e1 e2; generalize ac.eval = ρ; intro e1 e2; simp [go_sem, execOp, e1, e2]) rfl (Chg.refl _)
    · injection ho with ho
      subst ho
      refine .inl ⟨wanted_none rfl, ?_⟩
      have e1 : ac.eval (.tmp 43) = .bool true := hg 12 (by kernel_rfl) (by decide)
      have e2 : ac.eval (.tmp 48) = .bool true := hg 17 (by kernel_rfl) (by decide)
      have e3 : ac.eval (.const (.bool false)) = .bool false := rfl
      exact opG_val (by revert e1 e2 e3; generalize ac.eval = ρ; intro e1 e2 e3; simp [go_sem, execOp, e1, e2, e3]) rfl (Chg.refl _)
    · injection ho with ho
      subst ho
      refine .inl ⟨wanted_none rfl, ?_⟩
      have e1 : ac.eval (.tmp 49) = .bool true := hg 18 (by kernel_rfl) (by decide)
      exact opG_val (by simp [execOp, e1]) rfl (Chg.refl _)
    · injection ho with ho
      subst ho
      refine .inl ⟨wanted_by (T := _) (by kernel_rfl) hsz rfl (by decide : 19 < 38) rfl (hg 19 (by kernel_rfl) (by decide)), ?_⟩
      have e1 : ac.eval (.tmp 13) = .int .i64 0 := hf 13 (by kernel_rfl)
      exact opG_val (by simp [execOp, e1]) rfl (Chg.refl _)
    · injection ho with ho
      subst ho
      refine .inl ⟨wanted_by (T := _) (by kernel_rfl) hsz rfl (by decide : 19 < 38) rfl (hg 19 (by kernel_rfl) (by decide)), ?_⟩
      have e1 : ac.eval (.tmp 51) = .int .i64 0 := hg 20 (by kernel_rfl) (by decide)
      have e2 : ac.eval (.const (.int .i64 0)) = .int .i64 0 := rfl
      exact opG_val (by revert e1 e2; generalize ac.eval = ρ; intro e1 e2; simp [go_sem, execOp, e1, e2]) rfl (Chg.refl _)
    · injection ho with ho
      subst ho
      refine .inl ⟨wanted_none rfl, ?_⟩
      have e1 : ac.eval (.tmp 50) = .bool true := hg 19 (by kernel_rfl) (by decide)
      have e2 : ac.eval (.tmp 52) = .bool true := hg 21 (by kernel_rfl) (by decide)
      have e3 : ac.eval (.const (.bool false)) = .bool false := rfl
      exact opG_val (by revert e1 e2 e3; generalize ac.eval = ρ; intro e1 e2 e3; simp [go_sem, execOp, e1, e2, e3]) rfl (Chg.refl _)
    · injection ho with ho
      subst ho
      refine .inl ⟨wanted_none rfl, ?_⟩
      have e1 : ac.eval (.tmp 53) = .bool true := hg 22 (by kernel_rfl) (by decide)
      exact opG_val (by simp [execOp, e1]) rfl (Chg.refl _)
    · injection ho with ho
      subst ho
      refine .inl ⟨wanted_by (T := _) (by kernel_rfl) hsz rfl (by decide : 23 < 38) rfl (hg 23 (by kernel_rfl) (by decide)), ?_⟩
      have e1 : ac.eval (.tmp 12) = .slice p3 n q3 := hf 12 (by kernel_rfl)
      exact opG_val (by simp [execOp, e1]) rfl (Chg.refl _)
    · injection ho with ho
      subst ho
      refine .inl ⟨wanted_by (T := _) (by kernel_rfl) hsz rfl (by decide : 23 < 38) rfl (hg 23 (by kernel_rfl) (by decide)), ?_⟩
      have e1 : ac.eval (.tmp 55) = .slice p3 n q3 := hg 24 (by kernel_rfl) (by decide)
      have hcv := (show (convert 25 9 (.slice p3 n q3)).run Try.prog u = .ok (.string S) u from by rw [HSS.out.1]; exact Ap.run_str u _ _ (Rd.chg (w := w5.drew) (Ap.Rd.drew Z5.out.2.2.2) hc))
      exact opG_val (by simp [execOp, e1, hcv]) rfl (Chg.refl _)
    · injection ho with ho
      subst ho
      refine .inl ⟨wanted_by (T := _) (by kernel_rfl) hsz rfl (by decide : 23 < 38) rfl (hg 23 (by kernel_rfl) (by decide)), ?_⟩
      have e1 : ac.eval (.tmp 3) = .slice xo n cx := hf 3 (by kernel_rfl)
      exact opG_val (by simp [execOp, e1]) rfl (Chg.refl _)
    · injection ho with ho
      subst ho
      refine .inl ⟨wanted_by (T := _) (by kernel_rfl) hsz rfl (by decide : 23 < 38) rfl (hg 23 (by kernel_rfl) (by decide)), ?_⟩
      have e1 : ac.eval (.tmp 57) = .slice xo n cx := hg 26 (by kernel_rfl) (by decide)
      have hcv := (show (convert 25 9 (.slice xo n cx)).run Try.prog u = .ok (.string S) u from by rw [HSS.out.1]; exact Ap.run_str u _ _ (Rd.chg HX.out.2.1 (Z5.out.1.chg.drew.trans hc)))
      exact opG_val (by simp [execOp, e1, hcv]) rfl (Chg.refl _)
    · injection ho with ho
      subst ho
      refine .inl ⟨wanted_by (T := _) (by kernel_rfl) hsz rfl (by decide : 23 < 38) rfl (hg 23 (by kernel_rfl) (by decide)), ?_⟩
      have e1 : ac.eval (.tmp 56) = .string S := hg 25 (by kernel_rfl) (by decide)
      have e2 : ac.eval (.tmp 58) = .string S := hg 27 (by kernel_rfl) (by decide)
      exact opG_val (by revert e1 e2; generalize ac.eval = ρ; intro e1 e2; simp [go_sem, execOp, e1, e2]) rfl (Chg.refl _)
    · injection ho with ho
      subst ho
      refine .inl ⟨wanted_none rfl, ?_⟩
      have e1 : ac.eval (.tmp 54) = .bool true := hg 23 (by kernel_rfl) (by decide)
      have e2 : ac.eval (.tmp 59) = .bool true := hg 28 (by kernel_rfl) (by decide)
      have e3 : ac.eval (.const (.bool false)) = .bool false := rfl
      exact opG_val (by revert e1 e2 e3; generalize ac.eval = ρ; intro e1 e2 e3; simp [go_sem, execOp, e1, e2, e3]) rfl (Chg.refl _)
    · injection ho with ho
      subst ho
      refine .inl ⟨wanted_none rfl, ?_⟩
      have e1 : ac.eval (.tmp 60) = .bool true := hg 29 (by kernel_rfl) (by decide)
      exact opG_val (by simp [execOp, e1]) rfl (Chg.refl _)
    · injection ho with ho
      subst ho
      refine .inl ⟨wanted_by (T := _) (by kernel_rfl) hsz rfl (by decide : 30 < 38) rfl (hg 30 (by kernel_rfl) (by decide)), ?_⟩
      have e1 : ac.eval (.tmp 11) = .slice (some ⟨sb, so, none⟩) n16 q1 := hf 11 (by kernel_rfl)
      exact opG_val (by simp [execOp, e1]) rfl (Chg.refl _)
    · injection ho with ho
      subst ho
      refine .inl ⟨wanted_by (T := _) (by kernel_rfl) hsz rfl (by decide : 30 < 38) rfl (hg 30 (by kernel_rfl) (by decide)), ?_⟩
      have e1 : ac.eval (.tmp 62) = .slice (some ⟨sb, so, none⟩) n16 q1 := hg 31 (by kernel_rfl) (by decide)
      exact opG_val (by revert e1; generalize ac.eval = ρ; intro e1; simp [go_sem, execOp, e1]) rfl (Chg.refl _)
    · injection ho with ho
      subst ho
      refine .inl ⟨wanted_by (T := _) (by kernel_rfl) hsz rfl (by decide : 30 < 38) rfl (hg 30 (by kernel_rfl) (by decide)), ?_⟩
      have e1 : ac.eval (.tmp 3) = .slice xo n cx := hf 3 (by kernel_rfl)
      exact opG_val (by simp [execOp, e1]) rfl (Chg.refl _)
    · injection ho with ho
      subst ho
      refine .inl ⟨wanted_by (T := _) (by kernel_rfl) hsz rfl (by decide : 30 < 38) rfl (hg 30 (by kernel_rfl) (by decide)), ?_⟩
      have e1 : ac.eval (.tmp 64) = .slice xo n cx := hg 33 (by kernel_rfl) (by decide)
      exact opG_val (by revert e1; generalize ac.eval = ρ; intro e1; simp [go_sem, execOp, e1]) rfl (Chg.refl _)
    · injection ho with ho
      subst ho
      refine .inl ⟨wanted_by (T := _) (by kernel_rfl) hsz rfl (by decide : 30 < 38) rfl (hg 30 (by kernel_rfl) (by decide)), ?_⟩
      have e1 : ac.eval (.tmp 65) = .int .i64 (n : Int) := hg 34 (by kernel_rfl) (by decide)
      have e2 : ac.eval (.const (.int .i64 16)) = .int .i64 16 := rfl
      exact opG_val (by revert e1 e2; generalize ac.eval = ρ; intro e1 e2; simp [go_sem, execOp, e1, e2, hadd, wadd]) rfl (Chg.refl _)
    · injection ho with ho
      subst ho
      refine .inl ⟨wanted_by (T := _) (by kernel_rfl) hsz rfl (by decide : 30 < 38) rfl (hg 30 (by kernel_rfl) (by decide)), ?_⟩
      have e1 : ac.eval (.tmp 63) = .int .i64 (n16 : Int) := hg 32 (by kernel_rfl) (by decide)
      have e2 : ac.eval (.tmp 66) = .int .i64 (n16 : Int) := hg 35 (by kernel_rfl) (by decide)
      exact opG_val (by revert e1 e2; generalize ac.eval = ρ; intro e1 e2; simp [go_sem, execOp, e1, e2]) rfl (Chg.refl _)
    · injection ho with ho
      subst ho
      refine .inl ⟨wanted_none rfl, ?_⟩
      have e1 : ac.eval (.tmp 61) = .bool true := hg 30 (by kernel_rfl) (by decide)
      have e2 : ac.eval (.tmp 67) = .bool true := hg 36 (by kernel_rfl) (by decide)
      have e3 : ac.eval (.const (.bool false)) = .bool false := rfl
      exact opG_val (by revert e1 e2 e3; generalize ac.eval = ρ; intro e1 e2 e3; simp [go_sem, execOp, e1, e2, e3]) rfl (Chg.refl _)
  · intro o u V ho hV hc
    injection ho with ho
    subst ho
    refine ⟨rfl, ?_⟩
    have q31 : V 0 = .bool true := hV 0 (by decide)
    have q32 : V 1 = .bool true := hV 1 (by decide)
    have q33 : V 2 = .slice (some ⟨sb, so, none⟩) n16 q1 := hV 2 (by decide)
    have q34 : V 3 = .string E := hV 3 (by decide)
    have q35 : V 4 = .agg (ba 32 key) := hV 4 (by decide)
    have q36 : V 5 = .agg (ba 12 nonce) := hV 5 (by decide)
    have q37 : V 6 = .slice ao na ca := hV 6 (by decide)
    have q38 : V 7 = .slice xo n cx := hV 7 (by decide)
    obtain ⟨vx, q39, xx⟩ := hV 8 (by decide)
    have q40 : V 9 = .string E := hV 9 (by decide)
    have q41 : V 10 = .bool true := hV 10 (by decide)
    have q42 : V 11 = .bool true := hV 11 (by decide)
    have q43 : V 12 = .bool true := hV 12 (by decide)
    have q44 : V 13 = .slice oo n oc := hV 13 (by decide)
    have q45 : V 14 = .string S := hV 14 (by decide)
    have q46 : V 15 = .slice xo n cx := hV 15 (by decide)
    have q47 : V 16 = .string S := hV 16 (by decide)
    have q48 : V 17 = .bool true := hV 17 (by decide)
    have q49 : V 18 = .bool true := hV 18 (by decide)
    have q50 : V 19 = .bool true := hV 19 (by decide)
    have q51 : V 20 = .int .i64 0 := hV 20 (by decide)
    have q52 : V 21 = .bool true := hV 21 (by decide)
    have q53 : V 22 = .bool true := hV 22 (by decide)
    have q54 : V 23 = .bool true := hV 23 (by decide)
    have q55 : V 24 = .slice p3 n q3 := hV 24 (by decide)
    have q56 : V 25 = .string S := hV 25 (by decide)
    have q57 : V 26 = .slice xo n cx := hV 26 (by decide)
    have q58 : V 27 = .string S := hV 27 (by decide)
    have q59 : V 28 = .bool true := hV 28 (by decide)
    have q60 : V 29 = .bool true := hV 29 (by decide)
    have q61 : V 30 = .bool true := hV 30 (by decide)
    have q62 : V 31 = .slice (some ⟨sb, so, none⟩) n16 q1 := hV 31 (by decide)
    have q63 : V 32 = .int .i64 (n16 : Int) := hV 32 (by decide)
    have q64 : V 33 = .slice xo n cx := hV 33 (by decide)
    have q65 : V 34 = .int .i64 (n : Int) := hV 34 (by decide)
    have q66 : V 35 = .int .i64 (n16 : Int) := hV 35 (by decide)
    have q67 : V 36 = .bool true := hV 36 (by decide)
    have q68 : V 37 = .bool true := hV 37 (by decide)
    refine op_val1 (v := .bool true) (by rw [← q68]; rfl) ?_
    go_wp2_with fail
    go_ret
    exact ⟨rfl, Z5.out.1.chg.drew.trans hc⟩

theorem seals_any (va vx : Value) (na nx : Nat) (key nonce ta tx : Nat → By) (w : World) (hva : Ap.Rd w va (nums na ta)) (hvx : Ap.Rd w vx (nums nx tx)) (hna : na ≤ 1048576) (hnx : nx ≤ 1048576) : Calls Try.prog 5 #[.agg (ba 32 key), .agg (ba 12 nonce), va, vx] w fun e w' => e = .returned (.bool true) ∧ Chg w w' := by
  obtain ⟨ao, m, c, rfl, hm, -⟩ := hva.shape
  obtain ⟨xo, m2, c2, rfl, hm2, -⟩ := hvx.shape
  rw [nums_len] at hm2
  subst hm2
  exact seals_walk key nonce tx ao xo m c m2 c2 (nums na ta) w hva hvx (Bt.nums na ta) (by rw [nums_len]; omega) (by omega)
end Go.Proofs.Ytkdidacebfkdmaa
