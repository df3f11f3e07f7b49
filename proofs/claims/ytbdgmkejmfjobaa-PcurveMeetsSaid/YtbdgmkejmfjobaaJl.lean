/-
  The document's sums, differences, products, of whatever field.
  The document's differences and opposites, of whatever field.
  The document's powers, of whatever field.
  The document's inverses.
-/
import Derived.Test.YtbdgmkejmfjobaaJk
import Derived.Test.YtbdgmkejmfjobaaJj
namespace Go.Proofs.Ytbdgmkejmfjobaa
set_option maxRecDepth 100000
open Go.RowKit
set_option linter.unusedVariables false
set_option maxHeartbeats 8000000 in
theorem left4_any (x : Int) (hx : N512 x) (w : World) : Calls Try.prog 44 #[.int .i64 4, .agg (wdr x)] w fun r w' => r = .returned (.agg (num (x % mo 4))) ∧ Chg w w' := by
 have hsA := wdr_size x
 obtain ⟨A, hA⟩ : ∃ A, A = wdr x := ⟨_, rfl⟩
 obtain ⟨M, hM⟩ : ∃ M, M = num (mo 4) := ⟨_, rfl⟩
 obtain ⟨ANS, hANS⟩ : ∃ A, A = num (x % mo 4) := ⟨_, rfl⟩
 obtain ⟨Z0, hZ0⟩ : ∃ Z, Z = num 0 := ⟨_, rfl⟩
 have HANS : Hid (ANS = num (x % mo 4)) := hANS
 have HMo : Hid (∀ u, Calls Try.prog 20 #[.int .i64 4] u fun r w' => r = .returned (.agg M) ∧ Chg u w') := fun u => by rw [hM]; exact modulusR_any 4 u
 have HSl : Hid (∀ u, Calls Try.prog 63 #[.agg M, .agg A] u fun r w' => r = .returned (.agg ANS) ∧ Chg u w') := fun u => by rw [hM, hA, hANS]; exact slowly_any x hx u
 have hz := zero25.1
 have sM := szN (mo 4)
 have lM := lenN 0 (mo 4)
 have oM := num_one (mo 4)
 have sA := szA (dg B32 x)
 have sR := szN (x % mo 4)
 have lR := lenN 0 (x % mo 4)
 have oR := num_one (x % mo 4)
 rw [show arr .u64 17 (dg B32 x) = A from hA.symm] at sA
 rw [← hA] at hsA ⊢
 rw [← hM] at sM lM oM
 rw [← hANS] at sR lR oR ⊢
 rw [← hZ0] at hz lM lR
 clear hA hM hANS hZ0 hx
 go_enter Try.func44, Try.ntmps44
 go_wp2_with fail
 obtain ⟨w2, hw2⟩ : ∃ w2, w2 = (w.alloc (.cells A 66)).alloc (.cells Z0 24) := ⟨_, rfl⟩
 have Z2 : Hid (Chg w w2 ∧ Ar w2 w.heap.size A ∧ Ar w2 (w.heap.size + 1) Z0) := by
  rw [hw2]
  exact ⟨((Chg.refl w).alloc _).alloc _, (Ar.new w _ _).alloc _, Ar.new1 w _ _ _⟩
 rw [← hw2]
 clear hw2 hsA
 go_at_call 20
 refine (HMo.out _).mono ?_
 rintro r w3 ⟨rfl, hc3⟩
 have Z3 : Hid (Chg w w3 ∧ Ar w3 w.heap.size A ∧ Ar w3 (w.heap.size + 1) Z0) := ⟨Z2.out.1.trans hc3, Z2.out.2.1.chg hc3, Z2.out.2.2.chg hc3⟩
 clear hc3 Z2
 go_upto_region 2 with (first | refine wpList_store_row rfl 24 _ _ rfl _ _ rfl rfl _ _ (heap_alloc_last w3 _) sM lM oM ?_)
 obtain ⟨b5, hb5⟩ : ∃ b, b = w3.heap.size := ⟨_, rfl⟩
 obtain ⟨w4, hw4⟩ : ∃ w4, w4 = (w3.alloc (.cells Z0 24)).setRow w3.heap.size M := ⟨_, rfl⟩
 have Z4 : Hid (Chg w w4 ∧ Ar w4 w.heap.size A ∧ Ar w4 (w.heap.size + 1) Z0 ∧ Ar w4 b5 M) := by
  have hl := Z3.out.2.2.lt
  have h1 := Z3.out.1.size
  rw [hw4, hb5]
  exact ⟨(Z3.out.1.alloc _).setRow h1 _, (Z3.out.2.1.alloc _).rowOther (by omega) _, (Z3.out.2.2.alloc _).rowOther (by omega) _, (Ar.new w3 _ _).row _⟩
 rw [← hw4, ← hb5]
 clear hw4 hb5 Z3
 obtain ⟨t1, g1⟩ := Z4.out.2.1
 obtain ⟨t2, g2⟩ := Z4.out.2.2.2
 go_wp2_with (first | refine wpList_load_row rfl 66 _ rfl _ rfl _ _ _ _ g1 un49 rfl sA ?_ | refine wpList_load_row rfl 24 _ rfl _ rfl _ _ _ _ g2 undNum rfl sM ?_)
 go_at_call 63
 refine (HSl.out _).mono ?_
 rintro r w5 ⟨rfl, hc5⟩
 have Z5 : Hid (Chg w w5 ∧ Ar w5 (w.heap.size + 1) Z0) := ⟨Z4.out.1.trans hc5, Z4.out.2.2.1.chg hc5⟩
 clear hc5 g1 g2 Z4
 obtain ⟨t3, g3⟩ := Z5.out.2
 go_wp2_with (first | refine wpList_store_row rfl 24 _ _ rfl _ _ rfl rfl _ _ g3 sR lR oR ?_)
 refine bp_n (x := x % mo 4) Try.results44 rfl rfl ?_ ⟨by rw [HANS.out], ?_⟩
 ·rw [← HANS.out]
  exact Z5.out.2.row _
 ·exact Z5.out.1.setRow (by omega) _
theorem left_any (f x : Int) (hf : f = 1 ∨ f = 2 ∨ f = 3 ∨ f = 4) (hx : N512 x) (w : World) : Calls Try.prog 44 #[.int .i64 f, .agg (wdr x)] w fun r w' => r = .returned (.agg (num (md f x))) ∧ Chg w w' := by
 rw [md_in hf]
 have h5 : 0 ≤ x ∧ x < R544 := ⟨hx.1, Int.lt_trans hx.2 (by decide)⟩
 rcases hf with rfl | rfl | rfl | rfl
 ·exact leftF_any 1 x (by omega) h5 w
 ·exact leftF_any 2 x (by omega) h5 w
 ·exact leftF_any 3 x (by omega) h5 w
 ·exact left4_any x hx w
set_option maxHeartbeats 8000000 in
theorem mulR_any (f a b : Int) (ha : N256 a) (hb : N256 b) (w : World) : Calls Try.prog 61 #[.int .i64 f, .agg (num a), .agg (num b)] w fun r w' => r = .returned (.agg (num (md f (a * b)))) ∧ Chg w w' := by
 have HIs : Hid (∀ u, Calls Try.prog 41 #[.int .i64 f] u fun r w' => r = .returned (.bool (isF f)) ∧ Chg u w') := fun u => is_any f u
 have hz := zero25.1
 have hsA := num_size a
 have hsB := num_size b
 obtain ⟨A, hA⟩ : ∃ A, A = num a := ⟨_, rfl⟩
 obtain ⟨B, hB⟩ : ∃ B, B = num b := ⟨_, rfl⟩
 obtain ⟨ANS, hANS⟩ : ∃ A, A = num (md f (a * b)) := ⟨_, rfl⟩
 have HANS : Hid (ANS = num (md f (a * b))) := hANS
 obtain ⟨Z0, hZ0⟩ : ∃ Z, Z = num 0 := ⟨_, rfl⟩
 have HZ : Hid (Z0 = num 0 ∧ A = num a ∧ B = num b) := ⟨hZ0, hA, hB⟩
 have HAB : Hid (N256 a ∧ N256 b) := ⟨ha, hb⟩
 have sA := szN a
 have sB := szN b
 have sR := szN (md f (a * b))
 have lR := lenN 0 (md f (a * b))
 have oR := num_one (md f (a * b))
 have s0 := szN 0
 have l0 := lenN 0 0
 have o0 := num_one 0
 rw [← hA] at hsA sA ⊢
 rw [← hB] at hsB sB ⊢
 rw [← hANS] at sR lR oR ⊢
 rw [← hZ0] at hz lR s0 l0 o0
 obtain ⟨bb, hbb⟩ : ∃ b, b = isF f := ⟨_, rfl⟩
 rw [← hbb] at HIs
 have HBB : Hid (bb = isF f) := hbb
 clear hA hB hANS hZ0 hbb ha hb
 go_enter Try.func61, Try.ntmps61
 go_wp2_with fail
 obtain ⟨w1, hw1⟩ : ∃ w1, w1 = ((w.alloc (.cells A 24)).alloc (.cells B 24)).alloc (.cells Z0 24) := ⟨_, rfl⟩
 have Z1 : Hid (Chg w w1 ∧ Ar w1 w.heap.size A ∧ Ar w1 (w.heap.size + 1) B ∧ Ar w1 (w.heap.size + 1 + 1) Z0) := by
  rw [hw1]
  exact ⟨(((Chg.refl w).alloc _).alloc _).alloc _, ((Ar.new w _ _).alloc _).alloc _, (Ar.new1 w _ _ _).alloc _, Ar.new2 w _ _ _ _⟩
 rw [← hw1]
 clear hw1 hsA hsB
 go_at_call 41
 refine (HIs.out _).mono ?_
 rintro r w2 ⟨rfl, hc2⟩
 have Z2 : Hid (Chg w w2 ∧ Ar w2 w.heap.size A ∧ Ar w2 (w.heap.size + 1) B ∧ Ar w2 (w.heap.size + 1 + 1) Z0) := ⟨Z1.out.1.trans hc2, Z1.out.2.1.chg hc2, Z1.out.2.2.1.chg hc2, Z1.out.2.2.2.chg hc2⟩
 clear hc2 Z1
 cases bb with
 | false =>
  have hf : ¬ (f = 1 ∨ f = 2 ∨ f = 3 ∨ f = 4) := fun h => by have := (isF_iff f).2 h; rw [← HBB.out] at this; cases this
  have HE : Hid (ANS = num 0) := by show ANS = num 0; rw [HANS.out, md_out hf]
  clear hf sA sB sR lR oR
  obtain ⟨t, g⟩ := Z2.out.2.2.2
  go_wp2_with (first | refine wpList_store_row rfl 24 _ _ rfl _ _ rfl rfl _ _ g s0 rfl o0 ?_)
  refine bp_n (x := 0) Try.results61 rfl rfl ?_ ⟨by rw [HE.out], ?_⟩
  ·rw [← HZ.out.1]
   exact Z2.out.2.2.2.row _
  ·exact Z2.out.1.setRow (by omega) _
 | true =>
  have hf : f = 1 ∨ f = 2 ∨ f = 3 ∨ f = 4 := (isF_iff f).1 HBB.out.symm
  obtain ⟨P, hP⟩ : ∃ P, P = wdr (a * b) := ⟨_, rfl⟩
  have HT : Hid (∀ u, Calls Try.prog 82 #[.agg A, .agg B] u fun r w' => r = .returned (.agg P) ∧ Chg u w') := fun u => by rw [HZ.out.2.1, HZ.out.2.2, hP]; exact times_any a b HAB.out.1 HAB.out.2 u
  have HL : Hid (∀ u, Calls Try.prog 44 #[.int .i64 f, .agg P] u fun r w' => r = .returned (.agg ANS) ∧ Chg u w') := fun u => by rw [hP, HANS.out]; exact left_any f (a * b) hf (mul_N512 HAB.out.1 HAB.out.2) u
  clear hP hf
  obtain ⟨t1, g1⟩ := Z2.out.2.1
  obtain ⟨t2, g2⟩ := Z2.out.2.2.1
  go_wp2_with (first | refine wpList_load_row rfl 24 _ rfl _ rfl _ _ _ _ g1 undNum rfl sA ?_ | refine wpList_load_row rfl 24 _ rfl _ rfl _ _ _ _ g2 undNum rfl sB ?_ | (go_at_call 82; refine (HT.out _).mono ?_; rintro r w3 ⟨rfl, hc3⟩) | (go_at_call 44; refine (HL.out _).mono ?_; rintro r w4 ⟨rfl, hc4⟩; obtain ⟨t3, g3⟩ := (Z2.out.2.2.2.chg hc3).chg hc4) | refine wpList_store_row rfl 24 _ _ rfl _ _ rfl rfl _ _ g3 sR lR oR ?_)
  refine bp_n (x := md f (a * b)) Try.results61 rfl rfl ?_ ⟨by rw [HANS.out], ?_⟩
  ·rw [← HANS.out]
   exact ((Z2.out.2.2.2.chg hc3).chg hc4).row _
  ·exact ((Z2.out.1.trans hc3).trans hc4).setRow (by omega) _
set_option maxHeartbeats 8000000 in
theorem addR_any (f a b : Int) (ha : N256 a) (hb : N256 b) (w : World) : Calls Try.prog 19 #[.int .i64 f, .agg (num a), .agg (num b)] w fun r w' => r = .returned (.agg (num (md f (a + b)))) ∧ Chg w w' := by
 have HIs : Hid (∀ u, Calls Try.prog 41 #[.int .i64 f] u fun r w' => r = .returned (.bool (isF f)) ∧ Chg u w') := fun u => is_any f u
 have hz := zero25.1
 have hsA := num_size a
 have hsB := num_size b
 obtain ⟨A, hA⟩ : ∃ A, A = num a := ⟨_, rfl⟩
 obtain ⟨B, hB⟩ : ∃ B, B = num b := ⟨_, rfl⟩
 obtain ⟨ANS, hANS⟩ : ∃ A, A = num (md f (a + b)) := ⟨_, rfl⟩
 have HANS : Hid (ANS = num (md f (a + b))) := hANS
 obtain ⟨Z0, hZ0⟩ : ∃ Z, Z = num 0 := ⟨_, rfl⟩
 have HZ : Hid (Z0 = num 0 ∧ A = num a ∧ B = num b) := ⟨hZ0, hA, hB⟩
 have HAB : Hid (N256 a ∧ N256 b) := ⟨ha, hb⟩
 have sA := szN a
 have sB := szN b
 have sR := szN (md f (a + b))
 have lR := lenN 0 (md f (a + b))
 have oR := num_one (md f (a + b))
 have s0 := szN 0
 have l0 := lenN 0 0
 have o0 := num_one 0
 rw [← hA] at hsA sA ⊢
 rw [← hB] at hsB sB ⊢
 rw [← hANS] at sR lR oR ⊢
 rw [← hZ0] at hz lR s0 l0 o0
 obtain ⟨bb, hbb⟩ : ∃ b, b = isF f := ⟨_, rfl⟩
 rw [← hbb] at HIs
 have HBB : Hid (bb = isF f) := hbb
 clear hA hB hANS hZ0 hbb ha hb
 go_enter Try.func19, Try.ntmps19
 go_wp2_with fail
 obtain ⟨w1, hw1⟩ : ∃ w1, w1 = ((w.alloc (.cells A 24)).alloc (.cells B 24)).alloc (.cells Z0 24) := ⟨_, rfl⟩
 have Z1 : Hid (Chg w w1 ∧ Ar w1 w.heap.size A ∧ Ar w1 (w.heap.size + 1) B ∧ Ar w1 (w.heap.size + 1 + 1) Z0) := by
  rw [hw1]
  exact ⟨(((Chg.refl w).alloc _).alloc _).alloc _, ((Ar.new w _ _).alloc _).alloc _, (Ar.new1 w _ _ _).alloc _, Ar.new2 w _ _ _ _⟩
 rw [← hw1]
 clear hw1 hsA hsB
 go_at_call 41
 refine (HIs.out _).mono ?_
 rintro r w2 ⟨rfl, hc2⟩
 have Z2 : Hid (Chg w w2 ∧ Ar w2 w.heap.size A ∧ Ar w2 (w.heap.size + 1) B ∧ Ar w2 (w.heap.size + 1 + 1) Z0) := ⟨Z1.out.1.trans hc2, Z1.out.2.1.chg hc2, Z1.out.2.2.1.chg hc2, Z1.out.2.2.2.chg hc2⟩
 clear hc2 Z1
 cases bb with
 | false =>
  have hf : ¬ (f = 1 ∨ f = 2 ∨ f = 3 ∨ f = 4) := fun h => by have := (isF_iff f).2 h; rw [← HBB.out] at this; cases this
  have HE : Hid (ANS = num 0) := by show ANS = num 0; rw [HANS.out, md_out hf]
  clear hf sA sB sR lR oR
  obtain ⟨t, g⟩ := Z2.out.2.2.2
  go_wp2_with (first | refine wpList_store_row rfl 24 _ _ rfl _ _ rfl rfl _ _ g s0 rfl o0 ?_)
  refine bp_n (x := 0) Try.results19 rfl rfl ?_ ⟨by rw [HE.out], ?_⟩
  ·rw [← HZ.out.1]
   exact Z2.out.2.2.2.row _
  ·exact Z2.out.1.setRow (by omega) _
 | true =>
  have hf : f = 1 ∨ f = 2 ∨ f = 3 ∨ f = 4 := (isF_iff f).1 HBB.out.symm
  obtain ⟨S, hS⟩ : ∃ S, S = num ((a + b) % R256) := ⟨_, rfl⟩
  obtain ⟨c, hc⟩ : ∃ c, c = (a + b) / R256 := ⟨_, rfl⟩
  obtain ⟨P, hP⟩ : ∃ P, P = wdr ((a + b) % R256) := ⟨_, rfl⟩
  obtain ⟨Zd, hZd⟩ : ∃ Z, Z = arr .u64 17 zD := ⟨_, rfl⟩
  have hcb : 0 ≤ c ∧ c ≤ 1 := by
   have h1 := HAB.out.1
   have h2 := HAB.out.2
   have h3 : a + b < 2 * R256 := by have := h1.2; have := h2.2; omega
   have h4 : 0 ≤ a + b := by have := h1.1; have := h2.1; omega
   rw [hc]
   exact ⟨Int.ediv_nonneg h4 (by decide), by
    have : (a + b) / R256 < 2 := Int.ediv_lt_of_lt_mul (by decide) h3
    omega⟩
  have eAll : arr .u64 17 (upd (dg B32 ((a + b) % R256)) 8 c) = wdr (a + b) := by
   have hD : D32 (upd (dg B32 ((a + b) % R256)) 8 c) := (D32.dg _).upd 8 (by omega)
   rw [arr_wdr hD]
   congr 1
   have h4 : 0 ≤ (a + b) % R256 ∧ (a + b) % R256 < R544 := ⟨Int.emod_nonneg _ (by decide), Int.lt_trans (Int.emod_lt_of_pos _ (by decide)) (by decide)⟩
   rw [val_upd_in _ _ (by decide), val17 _ h4.1 h4.2, dg_none (N_modR _) (by decide), hc, show B32 ^ 8 = R256 by decide]
   have := Int.emod_add_mul_ediv (a + b) R256
   rw [Int.sub_zero, Int.mul_comm]
   exact this
  obtain ⟨Q, hQ⟩ : ∃ Q, Q = arr .u64 17 (upd (dg B32 ((a + b) % R256)) 8 c) := ⟨_, rfl⟩
  have HPl : Hid (∀ u, Calls Try.prog 42 #[.agg A, .agg B] u fun r w' => r = .returned (.tuple #[.agg S, .int .u64 c]) ∧ Chg u w') := fun u => by rw [HZ.out.2.1, HZ.out.2.2, hS, hc]; exact plusR_any a b HAB.out.1 HAB.out.2 u
  have HDg : Hid (∀ u, Calls Try.prog 43 #[.agg S] u fun r w' => r = .returned (.agg P) ∧ Chg u w') := fun u => by rw [hS, hP]; exact digits_any _ (N_modR _) u
  have HL : Hid (∀ u, Calls Try.prog 44 #[.int .i64 f, .agg Q] u fun r w' => r = .returned (.agg ANS) ∧ Chg u w') := fun u => by
   rw [hQ, eAll, HANS.out]
   refine left_any f (a + b) hf ⟨?_, ?_⟩ u
   ·have := HAB.out.1.1; have := HAB.out.2.1; omega
   ·have h1 := HAB.out.1.2; have h2 := HAB.out.2.2
    have h3 : 2 * R256 < R512 := by decide
    omega
  have HPQ : Hid (P.setIfInBounds 8 (.int .u64 c) = Q) := by
   show _ = Q
   rw [hP, hQ]
   exact arr_set .u64 17 _ 8 c
  have sS := szN ((a + b) % R256)
  have lS := lenN 0 ((a + b) % R256)
  have oS := num_one ((a + b) % R256)
  have sP := szA (dg B32 ((a + b) % R256))
  have lP := lenA zD (dg B32 ((a + b) % R256))
  have oP := oneA (dg B32 ((a + b) % R256))
  have sQ := szA (upd (dg B32 ((a + b) % R256)) 8 c)
  have cP : P[8]? = some (.int .u64 (dg B32 ((a + b) % R256) 8)) := by rw [hP]; exact arr_get _ _ _ (by decide)
  have hz9 := zero49.1
  rw [← hS] at sS lS oS
  rw [show arr .u64 17 (dg B32 ((a + b) % R256)) = P from hP.symm] at sP lP oP
  rw [← hQ] at sQ
  rw [← hZd] at hz9 lP
  rw [← HZ.out.1] at lS
  clear hP hf hS hc hcb eAll hQ hZd
  obtain ⟨t1, g1⟩ := Z2.out.2.1
  obtain ⟨t2, g2⟩ := Z2.out.2.2.1
  go_wp2_with (first | refine wpList_load_row rfl 24 _ rfl _ rfl _ _ _ _ g1 undNum rfl sA ?_ | refine wpList_load_row rfl 24 _ rfl _ rfl _ _ _ _ g2 undNum rfl sB ?_)
  go_at_call 42
  refine (HPl.out _).mono ?_
  rintro r w3 ⟨rfl, hc3⟩
  have Z3 : Hid (Chg w w3 ∧ Ar w3 (w.heap.size + 1 + 1) Z0) := ⟨Z2.out.1.trans hc3, Z2.out.2.2.2.chg hc3⟩
  clear hc3 g1 g2 Z2
  go_upto_region 5 with (first | refine wpList_store_row rfl 24 _ _ rfl _ _ rfl rfl _ _ (heap_alloc_last w3 _) sS lS oS ?_)
  obtain ⟨b8, hb8⟩ : ∃ b, b = w3.heap.size := ⟨_, rfl⟩
  obtain ⟨w4, hw4⟩ : ∃ w4, w4 = (w3.alloc (.cells Z0 24)).setRow w3.heap.size S := ⟨_, rfl⟩
  have Z4 : Hid (Chg w w4 ∧ Ar w4 (w.heap.size + 1 + 1) Z0 ∧ Ar w4 b8 S) := by
   have hl := Z3.out.2.lt
   have h1 := Z3.out.1.size
   rw [hw4, hb8]
   exact ⟨(Z3.out.1.alloc _).setRow h1 _, (Z3.out.2.alloc _).rowOther (by omega) _, (Ar.new w3 _ _).row _⟩
  rw [← hw4, ← hb8]
  clear hw4 hb8 Z3
  obtain ⟨t1, g1⟩ := Z4.out.2.2
  go_wp2_with (first | refine wpList_load_row rfl 24 _ rfl _ rfl _ _ _ _ g1 undNum rfl sS ?_)
  go_at_call 43
  refine (HDg.out _).mono ?_
  rintro r w5 ⟨rfl, hc5⟩
  have Z5 : Hid (Chg w w5 ∧ Ar w5 (w.heap.size + 1 + 1) Z0) := ⟨Z4.out.1.trans hc5, Z4.out.2.1.chg hc5⟩
  clear hc5 g1 Z4
  go_upto_region 6 with (first | refine wpList_store_row rfl 66 _ _ rfl _ _ rfl rfl _ _ (heap_alloc_last w5 _) sP lP oP ?_)
  obtain ⟨b10, hb10⟩ : ∃ b, b = w5.heap.size := ⟨_, rfl⟩
  obtain ⟨w6, hw6⟩ : ∃ w6, w6 = (w5.alloc (.cells Zd 66)).setRow w5.heap.size P := ⟨_, rfl⟩
  have Z6 : Hid ((Chg w w6 ∧ Ar w6 (w.heap.size + 1 + 1) Z0 ∧ Ar w6 b10 P) ∧ w.heap.size + 2 < b10) := by
   have hl := Z5.out.2.lt
   have h1 := Z5.out.1.size
   rw [hw6, hb10]
   exact ⟨⟨(Z5.out.1.alloc _).setRow h1 _, (Z5.out.2.alloc _).rowOther (by omega) _, (Ar.new w5 _ _).row _⟩, by omega⟩
  rw [← hw6, ← hb10]
  clear hw6 hb10 Z5
  have c8 := (Z6.out.1.2.2.cell 8).trans cP
  have f8 := Z6.out.1.2.2.frozen 8
  go_upto_region 7 with fail
  obtain ⟨w7, hw7⟩ : ∃ w7, w7 = w6.setCell ⟨b10, 8, none⟩ (.int .u64 c) := ⟨_, rfl⟩
  have Z7 : Hid (Chg w w7 ∧ Ar w7 (w.heap.size + 1 + 1) Z0 ∧ Ar w7 b10 Q) := by
   have h2 := Z6.out.2
   rw [hw7, ← HPQ.out]
   exact ⟨Z6.out.1.1.setCell (by dsimp only; omega) _, Z6.out.1.2.1.other (by dsimp only; omega) _, Z6.out.1.2.2.set 8 _⟩
  rw [← hw7]
  clear hw7 c8 f8 Z6
  obtain ⟨t1, g1⟩ := Z7.out.2.2
  go_wp2_with (first | refine wpList_load_row rfl 66 _ rfl _ rfl _ _ _ _ g1 un49 rfl sQ ?_)
  go_at_call 44
  refine (HL.out _).mono ?_
  rintro r w8 ⟨rfl, hc8⟩
  have Z8 : Hid (Chg w w8 ∧ Ar w8 (w.heap.size + 1 + 1) Z0) := ⟨Z7.out.1.trans hc8, Z7.out.2.1.chg hc8⟩
  clear hc8 g1 Z7
  obtain ⟨t3, g3⟩ := Z8.out.2
  go_wp2_with (first | refine wpList_store_row rfl 24 _ _ rfl _ _ rfl rfl _ _ g3 sR lR oR ?_)
  refine bp_n (x := md f (a + b)) Try.results19 rfl rfl ?_ ⟨by rw [HANS.out], ?_⟩
  ·rw [← HANS.out]
   exact Z8.out.2.row _
  ·exact Z8.out.1.setRow (by omega) _
end Go.Proofs.Ytbdgmkejmfjobaa

namespace Go.Proofs.Ytbdgmkejmfjobaa
set_option maxRecDepth 100000
open Go.RowKit
set_option linter.unusedVariables false
theorem subR_lt {f a b : Int} (hf : f = 1 ∨ f = 2 ∨ f = 3 ∨ f = 4) (h : md f a < md f b) : (mo f - (md f b - md f a) % R256) % R256 = md f (a - b) := by
 obtain ⟨hp, hr⟩ := mo_pos4 hf
 have h3 : (a - b) % mo f = (a % mo f - b % mo f) % mo f := Int.sub_emod a b (mo f)
 rw [md_in hf, md_in hf] at h ⊢
 rw [md_in hf, h3]
 have ha := Int.emod_lt_of_pos a hp
 have hb := Int.emod_lt_of_pos b hp
 have ha0 := Int.emod_nonneg a (show mo f ≠ 0 by omega)
 have hb0 := Int.emod_nonneg b (show mo f ≠ 0 by omega)
 clear h3
 generalize a % mo f = X at *
 generalize b % mo f = Y at *
 have e1 : (Y - X) % R256 = Y - X := Int.emod_eq_of_lt (by omega) (by omega)
 rw [e1]
 have e2 : (mo f - (Y - X)) % R256 = mo f - (Y - X) := Int.emod_eq_of_lt (by omega) (by omega)
 have e3 : (X - Y) % mo f = (X - Y + mo f) % mo f := by rw [Int.add_emod_right]
 have e4 : (X - Y + mo f) % mo f = X - Y + mo f := Int.emod_eq_of_lt (by omega) (by omega)
 rw [e2, e3, e4]
 omega
theorem subR_ge {f a b : Int} (hf : f = 1 ∨ f = 2 ∨ f = 3 ∨ f = 4) (h : ¬ md f a < md f b) : (md f a - md f b) % R256 = md f (a - b) := by
 obtain ⟨hp, hr⟩ := mo_pos4 hf
 have h3 : (a - b) % mo f = (a % mo f - b % mo f) % mo f := Int.sub_emod a b (mo f)
 rw [md_in hf, md_in hf] at h ⊢
 rw [md_in hf, h3]
 have ha := Int.emod_lt_of_pos a hp
 have hb := Int.emod_lt_of_pos b hp
 have ha0 := Int.emod_nonneg a (show mo f ≠ 0 by omega)
 have hb0 := Int.emod_nonneg b (show mo f ≠ 0 by omega)
 clear h3
 generalize a % mo f = X at *
 generalize b % mo f = Y at *
 have e1 : (X - Y) % R256 = X - Y := Int.emod_eq_of_lt (by omega) (by omega)
 have e2 : (X - Y) % mo f = X - Y := Int.emod_eq_of_lt (by omega) (by omega)
 rw [e1, e2]
set_option maxHeartbeats 8000000 in
theorem subR_any (f a b : Int) (ha : N256 a) (hb : N256 b) (w : World) : Calls Try.prog 40 #[.int .i64 f, .agg (num a), .agg (num b)] w fun r w' => r = .returned (.agg (num (md f (a - b)))) ∧ Chg w w' := by
 have HIs : Hid (∀ u, Calls Try.prog 41 #[.int .i64 f] u fun r w' => r = .returned (.bool (isF f)) ∧ Chg u w') := fun u => is_any f u
 have hz := zero25.1
 have hsA := num_size a
 have hsB := num_size b
 obtain ⟨A, hA⟩ : ∃ A, A = num a := ⟨_, rfl⟩
 obtain ⟨B, hB⟩ : ∃ B, B = num b := ⟨_, rfl⟩
 obtain ⟨ANS, hANS⟩ : ∃ A, A = num (md f (a - b)) := ⟨_, rfl⟩
 have HANS : Hid (ANS = num (md f (a - b))) := hANS
 obtain ⟨Z0, hZ0⟩ : ∃ Z, Z = num 0 := ⟨_, rfl⟩
 have HZ : Hid (Z0 = num 0 ∧ A = num a ∧ B = num b) := ⟨hZ0, hA, hB⟩
 have HAB : Hid (N256 a ∧ N256 b) := ⟨ha, hb⟩
 have sA := szN a
 have sB := szN b
 have sR := szN (md f (a - b))
 have lR := lenN 0 (md f (a - b))
 have oR := num_one (md f (a - b))
 have s0 := szN 0
 have l0 := lenN 0 0
 have o0 := num_one 0
 rw [← hA] at hsA sA ⊢
 rw [← hB] at hsB sB ⊢
 rw [← hANS] at sR lR oR ⊢
 rw [← hZ0] at hz lR s0 l0 o0
 obtain ⟨bb, hbb⟩ : ∃ b, b = isF f := ⟨_, rfl⟩
 rw [← hbb] at HIs
 have HBB : Hid (bb = isF f) := hbb
 clear hA hB hANS hZ0 hbb ha hb
 go_enter Try.func40, Try.ntmps40
 go_wp2_with fail
 obtain ⟨w1, hw1⟩ : ∃ w1, w1 = ((w.alloc (.cells A 24)).alloc (.cells B 24)).alloc (.cells Z0 24) := ⟨_, rfl⟩
 have Z1 : Hid (Chg w w1 ∧ Ar w1 w.heap.size A ∧ Ar w1 (w.heap.size + 1) B ∧ Ar w1 (w.heap.size + 1 + 1) Z0) := by
  rw [hw1]
  exact ⟨(((Chg.refl w).alloc _).alloc _).alloc _, ((Ar.new w _ _).alloc _).alloc _, (Ar.new1 w _ _ _).alloc _, Ar.new2 w _ _ _ _⟩
 rw [← hw1]
 clear hw1 hsA hsB
 go_at_call 41
 refine (HIs.out _).mono ?_
 rintro r w2 ⟨rfl, hc2⟩
 have Z2 : Hid (Chg w w2 ∧ Ar w2 w.heap.size A ∧ Ar w2 (w.heap.size + 1) B ∧ Ar w2 (w.heap.size + 1 + 1) Z0) := ⟨Z1.out.1.trans hc2, Z1.out.2.1.chg hc2, Z1.out.2.2.1.chg hc2, Z1.out.2.2.2.chg hc2⟩
 clear hc2 Z1
 cases bb with
 | false =>
  have hf : ¬ (f = 1 ∨ f = 2 ∨ f = 3 ∨ f = 4) := fun h => by have := (isF_iff f).2 h; rw [← HBB.out] at this; cases this
  have HE : Hid (ANS = num 0) := by show ANS = num 0; rw [HANS.out, md_out hf]
  clear hf sA sB sR lR oR
  obtain ⟨t, g⟩ := Z2.out.2.2.2
  go_wp2_with (first | refine wpList_store_row rfl 24 _ _ rfl _ _ rfl rfl _ _ g s0 rfl o0 ?_)
  refine bp_n (x := 0) Try.results40 rfl rfl ?_ ⟨by rw [HE.out], ?_⟩
  ·rw [← HZ.out.1]
   exact Z2.out.2.2.2.row _
  ·exact Z2.out.1.setRow (by omega) _
 | true =>
  have hf : f = 1 ∨ f = 2 ∨ f = 3 ∨ f = 4 := (isF_iff f).1 HBB.out.symm
  obtain ⟨DA, hDA⟩ : ∃ P, P = wdr a := ⟨_, rfl⟩
  obtain ⟨DB, hDB⟩ : ∃ P, P = wdr b := ⟨_, rfl⟩
  obtain ⟨X, hX⟩ : ∃ P, P = num (md f a) := ⟨_, rfl⟩
  obtain ⟨Y, hY⟩ : ∃ P, P = num (md f b) := ⟨_, rfl⟩
  have HXY : Hid (X = num (md f a) ∧ Y = num (md f b) ∧ (f = 1 ∨ f = 2 ∨ f = 3 ∨ f = 4)) := ⟨hX, hY, hf⟩
  have HD1 : Hid (∀ u, Calls Try.prog 43 #[.agg A] u fun r w' => r = .returned (.agg DA) ∧ Chg u w') := fun u => by rw [HZ.out.2.1, hDA]; exact digits_any a HAB.out.1 u
  have HD2 : Hid (∀ u, Calls Try.prog 43 #[.agg B] u fun r w' => r = .returned (.agg DB) ∧ Chg u w') := fun u => by rw [HZ.out.2.2, hDB]; exact digits_any b HAB.out.2 u
  have HL1 : Hid (∀ u, Calls Try.prog 44 #[.int .i64 f, .agg DA] u fun r w' => r = .returned (.agg X) ∧ Chg u w') := fun u => by rw [hDA, hX]; exact left_any f a hf (N512_of HAB.out.1) u
  have HL2 : Hid (∀ u, Calls Try.prog 44 #[.int .i64 f, .agg DB] u fun r w' => r = .returned (.agg Y) ∧ Chg u w') := fun u => by rw [hDB, hY]; exact left_any f b hf (N512_of HAB.out.2) u
  have HLe : Hid (∀ u, Calls Try.prog 36 #[.agg X, .agg Y] u fun r w' => r = .returned (.bool (decide (md f a < md f b))) ∧ Chg u w') := fun u => by rw [hX, hY]; exact less_any _ _ (md_N f a) (md_N f b) u
  have sX := szN (md f a)
  have lX := lenN 0 (md f a)
  have oX := num_one (md f a)
  have sY := szN (md f b)
  have lY := lenN 0 (md f b)
  have oY := num_one (md f b)
  rw [← hX] at sX lX oX
  rw [← hY] at sY lY oY
  rw [← HZ.out.1] at lX lY
  clear hX hY hDA hDB hf
  obtain ⟨t1, g1⟩ := Z2.out.2.1
  go_wp2_with (first | refine wpList_load_row rfl 24 _ rfl _ rfl _ _ _ _ g1 undNum rfl sA ?_ | (go_at_call 43; refine (HD1.out _).mono ?_; rintro r w3 ⟨rfl, hc3⟩))
  go_at_call 44
  refine (HL1.out _).mono ?_
  rintro r w4 ⟨rfl, hc4⟩
  have Z4 : Hid (Chg w w4 ∧ Ar w4 (w.heap.size + 1) B ∧ Ar w4 (w.heap.size + 1 + 1) Z0) := by
   have hc := hc3.trans hc4
   exact ⟨Z2.out.1.trans hc, Z2.out.2.2.1.chg hc, Z2.out.2.2.2.chg hc⟩
  clear hc3 hc4 g1 Z2
  go_upto_region 5 with (first | refine wpList_store_row rfl 24 _ _ rfl _ _ rfl rfl _ _ (heap_alloc_last w4 _) sX lX oX ?_)
  obtain ⟨b8, hb8⟩ : ∃ b, b = w4.heap.size := ⟨_, rfl⟩
  obtain ⟨w5, hw5⟩ : ∃ w5, w5 = (w4.alloc (.cells Z0 24)).setRow w4.heap.size X := ⟨_, rfl⟩
  have Z5 : Hid (Chg w w5 ∧ Ar w5 (w.heap.size + 1) B ∧ Ar w5 (w.heap.size + 1 + 1) Z0 ∧ Ar w5 b8 X ∧ w.heap.size + 2 < b8) := by
   have hl := Z4.out.2.2.lt
   have h1 := Z4.out.1.size
   rw [hw5, hb8]
   exact ⟨(Z4.out.1.alloc _).setRow h1 _, (Z4.out.2.1.alloc _).rowOther (by omega) _, (Z4.out.2.2.alloc _).rowOther (by omega) _, (Ar.new w4 _ _).row _, by omega⟩
  rw [← hw5, ← hb8]
  clear hw5 hb8 Z4
  obtain ⟨t1, g1⟩ := Z5.out.2.1
  go_wp2_with (first | refine wpList_load_row rfl 24 _ rfl _ rfl _ _ _ _ g1 undNum rfl sB ?_ | (go_at_call 43; refine (HD2.out _).mono ?_; rintro r w3 ⟨rfl, hc3⟩))
  go_at_call 44
  refine (HL2.out _).mono ?_
  rintro r w6 ⟨rfl, hc4⟩
  have Z6 : Hid (Chg w w6 ∧ Ar w6 (w.heap.size + 1 + 1) Z0 ∧ Ar w6 b8 X ∧ w.heap.size + 2 < b8) := by
   have hc := hc3.trans hc4
   exact ⟨Z5.out.1.trans hc, Z5.out.2.2.1.chg hc, Z5.out.2.2.2.1.chg hc, Z5.out.2.2.2.2⟩
  clear hc3 hc4 g1 Z5
  go_upto_region 6 with (first | refine wpList_store_row rfl 24 _ _ rfl _ _ rfl rfl _ _ (heap_alloc_last w6 _) sY lY oY ?_)
  obtain ⟨b9, hb9⟩ : ∃ b, b = w6.heap.size := ⟨_, rfl⟩
  obtain ⟨w7, hw7⟩ : ∃ w7, w7 = (w6.alloc (.cells Z0 24)).setRow w6.heap.size Y := ⟨_, rfl⟩
  have Z7 : Hid (Chg w w7 ∧ Ar w7 (w.heap.size + 1 + 1) Z0 ∧ Ar w7 b8 X ∧ Ar w7 b9 Y) := by
   have hl := Z6.out.2.2.1.lt
   have h1 := Z6.out.1.size
   have h2 := Z6.out.2.2.2
   rw [hw7, hb9]
   exact ⟨(Z6.out.1.alloc _).setRow h1 _, (Z6.out.2.1.alloc _).rowOther (by omega) _, (Z6.out.2.2.1.alloc _).rowOther (by omega) _, (Ar.new w6 _ _).row _⟩
  rw [← hw7, ← hb9]
  clear hw7 hb9 Z6
  obtain ⟨t1, g1⟩ := Z7.out.2.2.1
  obtain ⟨t2, g2⟩ := Z7.out.2.2.2
  go_wp2_with (first | refine wpList_load_row rfl 24 _ rfl _ rfl _ _ _ _ g1 undNum rfl sX ?_ | refine wpList_load_row rfl 24 _ rfl _ rfl _ _ _ _ g2 undNum rfl sY ?_)
  go_at_call 36
  refine (HLe.out _).mono ?_
  rintro r w8 ⟨rfl, hc8⟩
  have Z8 : Hid (Chg w w8 ∧ Ar w8 (w.heap.size + 1 + 1) Z0 ∧ Ar w8 b8 X ∧ Ar w8 b9 Y) := ⟨Z7.out.1.trans hc8, Z7.out.2.1.chg hc8, Z7.out.2.2.1.chg hc8, Z7.out.2.2.2.chg hc8⟩
  clear hc8 g1 g2 Z7
  by_cases hlt : md f a < md f b
  ·have hd : decide (md f a < md f b) = true := by simp [hlt]
   obtain ⟨M, hM⟩ : ∃ M, M = num (mo f) := ⟨_, rfl⟩
   obtain ⟨D, hD⟩ : ∃ D, D = num ((md f b - md f a) % R256) := ⟨_, rfl⟩
   have HMo : Hid (∀ u, Calls Try.prog 20 #[.int .i64 f] u fun r w' => r = .returned (.agg M) ∧ Chg u w') := fun u => by rw [hM]; exact modulusR_any f u
   have HM1 : Hid (∀ u, Calls Try.prog 62 #[.agg Y, .agg X] u fun r w' => r = .returned (.agg D) ∧ Chg u w') := fun u => by rw [HXY.out.1, HXY.out.2.1, hD]; exact minusR_any _ _ (md_N f b) (md_N f a) u
   have HM2 : Hid (∀ u, Calls Try.prog 62 #[.agg M, .agg D] u fun r w' => r = .returned (.agg ANS) ∧ Chg u w') := fun u => by rw [hM, hD, HANS.out, ← subR_lt HXY.out.2.2 hlt]; exact minusR_any _ _ (mo_N f) (N_modR _) u
   have iX : (Try.prog.info? 24).map (·.size) = some X.toList.length := by rw [Array.length_toList]; exact sX
   have iY : (Try.prog.info? 24).map (·.size) = some Y.toList.length := by rw [Array.length_toList]; exact sY
   rw [hd]
   clear hlt hd hM hD
   go_upto_region 7 with fail
   refine wp_region_good 6 (fun j v wg => match j with
    | 0 => v = .int .i64 f
    | 1 => v = .agg M
    | 2 => v = .agg Y
    | 3 => v = .agg X
    | 4 => v = .agg D
    | 5 => v = .agg ANS
    | _ => True) (by kernel_rfl) (by kernel_rfl) (by kernel_rfl) (by kernel_rfl) (by kernel_rfl) ?_ ?_ ?_
   ·intro j v u1 u2 h hc
    match j, h with
    | 0, h => exact h
    | 1, h => exact h
    | 2, h => exact h
    | 3, h => exact h
    | 4, h => exact h
    | 5, h => exact h
    | _ + 6, h => exact trivial
   ·intro i o ac u hi ho hsz hf hg hc
    have hcs : i = 0 ∨ i = 1 ∨ i = 2 ∨ i = 3 ∨ i = 4 ∨ i = 5 := by omega
    rcases hcs with rfl | rfl | rfl | rfl | rfl | rfl
    ·injection ho with ho
     subst ho
     refine .inl ⟨wanted_none rfl, ?_⟩
     have e1 : ac.eval (.tmp 0) = .int .i64 f := hf 0 (by kernel_rfl)
     exact opG_val (by simp [execOp, e1]) rfl (Chg.refl _)
    ·injection ho with ho
     subst ho
     refine .inl ⟨wanted_none rfl, ?_⟩
     have e1 : ac.eval (.tmp 26) = .int .i64 f := hg 0 (by kernel_rfl) (by decide)
     refine opG_go 20 Try.f20 #[.tmp 26] #[35] rfl Try.func20 (by kernel_rfl) (by kernel_rfl) (by simp [e1]) (Calls.mono (HMo.out _) ?_)
     rintro r u2 ⟨rfl, hc2⟩
     exact ⟨_, rfl, rfl, hc2⟩
    ·injection ho with ho
     subst ho
     refine .inl ⟨wanted_none rfl, ?_⟩
     have e1 : ac.eval (.tmp 9) = .pointer (some ⟨b9, 0, none⟩) := hf 9 (by kernel_rfl)
     exact wp_load_mid 24 (.tmp 9) rfl _ _ e1 ((Y).toList) _ (rangeA (Ar.chg (w := w8.drew) Z8.out.2.2.2 hc)) undNum rfl iY ⟨_, rfl, rfl, Chg.refl _⟩
    ·injection ho with ho
     subst ho
     refine .inl ⟨wanted_none rfl, ?_⟩
     have e1 : ac.eval (.tmp 8) = .pointer (some ⟨b8, 0, none⟩) := hf 8 (by kernel_rfl)
     exact wp_load_mid 24 (.tmp 8) rfl _ _ e1 ((X).toList) _ (rangeA (Ar.chg (w := w8.drew) Z8.out.2.2.1 hc)) undNum rfl iX ⟨_, rfl, rfl, Chg.refl _⟩
    ·injection ho with ho
     subst ho
     refine .inl ⟨wanted_none rfl, ?_⟩
     have e1 : ac.eval (.tmp 28) = .agg Y := hg 2 (by kernel_rfl) (by decide)
     have e2 : ac.eval (.tmp 29) = .agg X := hg 3 (by kernel_rfl) (by decide)
     refine opG_go 62 Try.f62 #[.tmp 28, .tmp 29] #[24, 24] rfl Try.func62 (by kernel_rfl) (by kernel_rfl) (by simp [e1, e2]) (Calls.mono (HM1.out _) ?_)
     rintro r u2 ⟨rfl, hc2⟩
     exact ⟨_, rfl, rfl, hc2⟩
    ·injection ho with ho
     subst ho
     refine .inl ⟨wanted_none rfl, ?_⟩
     have e1 : ac.eval (.tmp 27) = .agg M := hg 1 (by kernel_rfl) (by decide)
     have e2 : ac.eval (.tmp 30) = .agg D := hg 4 (by kernel_rfl) (by decide)
     refine opG_go 62 Try.f62 #[.tmp 27, .tmp 30] #[24, 24] rfl Try.func62 (by kernel_rfl) (by kernel_rfl) (by simp [e1, e2]) (Calls.mono (HM2.out _) ?_)
     rintro r u2 ⟨rfl, hc2⟩
     exact ⟨_, rfl, rfl, hc2⟩
   ·intro o u V ho hV hc
    injection ho with ho
    subst ho
    refine ⟨rfl, ?_⟩
    have q26 : V 0 = .int .i64 f := hV 0 (by decide)
    have q27 : V 1 = .agg M := hV 1 (by decide)
    have q28 : V 2 = .agg Y := hV 2 (by decide)
    have q29 : V 3 = .agg X := hV 3 (by decide)
    have q30 : V 4 = .agg D := hV 4 (by decide)
    have q31 : V 5 = .agg ANS := hV 5 (by decide)
    have hres := Ar.chg (w := w8.drew) Z8.out.2.1 hc
    refine wp_store_mid 24 (.tmp 6) (.tmp 31) rfl (w.heap.size + 1 + 1) 0 ANS (by rfl) (Eq.trans (by rfl) q31) (by rw [HANS.out, num_size]; rw [HZ.out.1] at hres; exact thereN hres) sR oR ?_
    rw [show u.setCells (w.heap.size + 1 + 1) 0 ANS.toList = u.setRow (w.heap.size + 1 + 1) ANS by rw [HANS.out]; rw [HZ.out.1] at hres; exact setRowN hres _]
    go_wp2_with fail
    refine bp_n (x := md f (a - b)) Try.results40 rfl (by rfl) ?_ ⟨by rw [HANS.out], ?_⟩
    ·rw [← HANS.out]
     exact hres.row _
    ·exact (Z8.out.1.drew.trans hc).setRow (by omega) _
  ·have hd : decide (md f a < md f b) = false := by simp [hlt]
   have HM2 : Hid (∀ u, Calls Try.prog 62 #[.agg X, .agg Y] u fun r w' => r = .returned (.agg ANS) ∧ Chg u w') := fun u => by rw [HXY.out.1, HXY.out.2.1, HANS.out, ← subR_ge HXY.out.2.2 hlt]; exact minusR_any _ _ (md_N f a) (md_N f b) u
   rw [hd]
   clear hlt hd
   obtain ⟨t1, g1⟩ := Z8.out.2.2.1
   obtain ⟨t2, g2⟩ := Z8.out.2.2.2
   go_wp2_with (first | refine wpList_load_row rfl 24 _ rfl _ rfl _ _ _ _ g1 undNum rfl sX ?_ | refine wpList_load_row rfl 24 _ rfl _ rfl _ _ _ _ g2 undNum rfl sY ?_)
   go_at_call 62
   refine (HM2.out _).mono ?_
   rintro r w9 ⟨rfl, hc9⟩
   obtain ⟨t3, g3⟩ := Z8.out.2.1.chg hc9
   go_wp2_with (first | refine wpList_store_row rfl 24 _ _ rfl _ _ rfl rfl _ _ g3 sR lR oR ?_)
   refine bp_n (x := md f (a - b)) Try.results40 rfl rfl ?_ ⟨by rw [HANS.out], ?_⟩
   ·rw [← HANS.out]
    exact (Z8.out.2.1.chg hc9).row _
   ·exact (Z8.out.1.trans hc9).setRow (by omega) _
set_option maxHeartbeats 8000000 in
theorem negR_any (f a : Int) (ha : N256 a) (w : World) : Calls Try.prog 18 #[.int .i64 f, .agg (num a)] w fun r w' => r = .returned (.agg (num (md f (0 - a)))) ∧ Chg w w' := by
 have hz := zero25.1
 have hsA := num_size a
 obtain ⟨A, hA⟩ : ∃ A, A = num a := ⟨_, rfl⟩
 obtain ⟨ANS, hANS⟩ : ∃ A, A = num (md f (0 - a)) := ⟨_, rfl⟩
 have HANS : Hid (ANS = num (md f (0 - a))) := hANS
 obtain ⟨Z0, hZ0⟩ : ∃ Z, Z = num 0 := ⟨_, rfl⟩
 have HS : Hid (∀ u, Calls Try.prog 40 #[.int .i64 f, .agg Z0, .agg A] u fun r w' => r = .returned (.agg ANS) ∧ Chg u w') := fun u => by rw [hA, hANS, hZ0]; exact subR_any f 0 a ⟨by decide, by decide⟩ ha u
 have sA := szN a
 have sR := szN (md f (0 - a))
 have lR := lenN 0 (md f (0 - a))
 have oR := num_one (md f (0 - a))
 have iA : (Try.prog.info? 24).map (·.size) = some (num a).toList.length := infoN a
 rw [← hA] at hsA sA iA ⊢
 rw [← hANS] at sR lR oR ⊢
 rw [← hZ0] at hz lR
 have HSz : Hid ((Try.prog.info? 24).map (·.size) = some A.size ∧ (Try.prog.info? 24).map (·.size) = some ANS.size) := ⟨sA, sR⟩
 clear hA hANS hZ0 ha sA sR
 go_enter Try.func18, Try.ntmps18
 go_upto_region 1 with fail
 obtain ⟨w2, hw2⟩ : ∃ w2, w2 = (w.alloc (.cells A 24)).alloc (.cells Z0 24) := ⟨_, rfl⟩
 have Z2 : Hid (Chg w w2 ∧ Ar w2 w.heap.size A ∧ Ar w2 (w.heap.size + 1) Z0) := by
  rw [hw2]
  exact ⟨((Chg.refl w).alloc _).alloc _, (Ar.new w _ _).alloc _, Ar.new1 w _ _ _⟩
 rw [← hw2]
 clear hw2 hsA
 have r1 := rangeA Z2.out.2.1
 go_wp2_with (first | refine wpList_load_mid rfl 24 (.tmp 3) rfl _ _ rfl (A.toList) _ r1 undNum rfl iA ?_)
 go_at_call 40
 refine (HS.out _).mono ?_
 rintro r w3 ⟨rfl, hc3⟩
 obtain ⟨t3, g3⟩ := Z2.out.2.2.chg hc3
 have sR := HSz.out.2
 go_wp2_with (first | refine wpList_store_row rfl 24 _ _ rfl _ _ rfl rfl _ _ g3 sR lR oR ?_)
 refine bp_n (x := md f (0 - a)) Try.results18 rfl rfl ?_ ⟨by rw [HANS.out], ?_⟩
 ·rw [← HANS.out]
  exact (Z2.out.2.2.chg hc3).row _
 ·exact (Z2.out.1.trans hc3).setRow (by omega) _
end Go.Proofs.Ytbdgmkejmfjobaa

namespace Go.Proofs.Ytbdgmkejmfjobaa
set_option maxRecDepth 100000
open Go.RowKit
set_option linter.unusedVariables false
set_option maxHeartbeats 8000000 in
theorem expR_any (f a e : Int) (ha : N256 a) (he : N256 e) (w : World) : Calls Try.prog 74 #[.int .i64 f, .agg (num a), .agg (num e)] w fun r w' => r = .returned (.agg (num (md f (a ^ e.toNat)))) ∧ Chg w w' := by
 have HN : Hid (N256 a ∧ N256 e) := ⟨ha, he⟩
 have HIs : Hid (∀ u, Calls Try.prog 41 #[.int .i64 f] u fun r w' => r = .returned (.bool (isF f)) ∧ Chg u w') := fun u => is_any f u
 have hz := zero25.1
 have hsA := num_size a
 have hsE := num_size e
 have iA := infoN a
 have s0 := szN 0
 have l0 := lenN 0 0
 have o0 := num_one 0
 obtain ⟨A, hA⟩ : ∃ A, A = num a := ⟨_, rfl⟩
 obtain ⟨E, hE⟩ : ∃ E, E = num e := ⟨_, rfl⟩
 have HA : Hid (A = num a ∧ E = num e) := ⟨hA, hE⟩
 rw [← hA] at hsA iA ⊢
 rw [← hE] at hsE ⊢
 obtain ⟨bb, hbb⟩ : ∃ b, b = isF f := ⟨_, rfl⟩
 rw [← hbb] at HIs
 have HBB : Hid (bb = isF f) := hbb
 clear hA hE ha he hbb
 go_enter Try.func74, Try.ntmps74
 go_upto_region 1 with fail
 obtain ⟨w1, hw1⟩ : ∃ w1, w1 = ((w.alloc (.cells A 24)).alloc (.cells E 24)).alloc (.cells (num 0) 24) := ⟨_, rfl⟩
 have Z1 : Hid (Chg w w1 ∧ Ar w1 w.heap.size A ∧ Ar w1 (w.heap.size + 1) E ∧ Ar w1 (w.heap.size + 1 + 1) (num 0)) := by
  rw [hw1]
  exact ⟨(((Chg.refl w).alloc _).alloc _).alloc _, ((Ar.new w _ _).alloc _).alloc _, (Ar.new1 w _ _ _).alloc _, Ar.new2 w _ _ _ _⟩
 rw [← hw1]
 clear hw1 hsA hsE
 go_wp2_with fail
 go_at_call 41
 refine (HIs.out _).mono ?_
 rintro r w2 ⟨rfl, hc2⟩
 have Z2 : Hid (Chg w w2 ∧ Ar w2 w.heap.size A ∧ Ar w2 (w.heap.size + 1) E ∧ Ar w2 (w.heap.size + 1 + 1) (num 0)) := ⟨Z1.out.1.trans hc2, Z1.out.2.1.chg hc2, Z1.out.2.2.1.chg hc2, Z1.out.2.2.2.chg hc2⟩
 clear hc2 Z1
 cases bb with
 | false =>
  have hf : ¬ (f = 1 ∨ f = 2 ∨ f = 3 ∨ f = 4) := fun h => by have := (isF_iff f).2 h; rw [← HBB.out] at this; cases this
  have HE : Hid (md f (a ^ e.toNat) = 0) := md_out hf _
  clear hf iA
  obtain ⟨t, g⟩ := Z2.out.2.2.2
  go_wp2_with (first | refine wpList_store_row rfl 24 _ _ rfl _ _ rfl rfl _ _ g s0 rfl o0 ?_)
  refine bp_n (x := 0) Try.results74 rfl rfl ?_ ⟨by rw [HE.out], ?_⟩
  ·exact Z2.out.2.2.2.row _
  ·exact Z2.out.1.setRow (by omega) _
 | true =>
  have hf : f = 1 ∨ f = 2 ∨ f = 3 ∨ f = 4 := (isF_iff f).1 HBB.out.symm
  have HF : Hid (f = 1 ∨ f = 2 ∨ f = 3 ∨ f = 4) := hf
  clear hf s0 l0 o0
  go_upto_region 5 with (first | refine wpList_store_row rfl 24 _ _ rfl _ _ rfl rfl _ _ (heap_alloc_last w2 _) (by rw [num_set1]; exact szN _) (by rw [num_set1]; exact lenN _ _) (by rw [num_set1]; exact num_one _) ?_)
  rw [num_set1]
  obtain ⟨b, hb⟩ : ∃ b, b = w2.heap.size := ⟨_, rfl⟩
  obtain ⟨w3, hw3⟩ : ∃ w3, w3 = (w2.alloc (.cells (num 0) 24)).setRow w2.heap.size (num 1) := ⟨_, rfl⟩
  have HB : Hid (w.heap.size + 2 < b) := by
   have h1 := Z2.out.2.2.2.lt
   show w.heap.size + 2 < b
   omega
  have Z3 : Hid (XS w w3 b A E (num 1)) := by
   have hx : XS w (w2.alloc (.cells (num 0) 24)) w2.heap.size A E (num 0) := by
    have q := Z2.out
    exact ⟨q.1.alloc _, q.2.1.alloc _, q.2.2.1.alloc _, q.2.2.2.alloc _, Ar.new w2 _ _⟩
   have := HB.out
   rw [hw3, hb]
   exact hx.row (by omega) (num 1)
  rw [← hw3, ← hb]
  clear hw3 hb Z2
  go_wp2_with fail
  go_loopw [9] (fun v wr => ∃ (z : Int), v = .int .i64 z ∧ -1 ≤ z ∧ z < 256 ∧ XS w wr b A E (num (md f (a ^ up e (z + 1).toNat)))) (fun v wr => (intOf v + 1).toNat)
  case atStart =>
   refine ⟨255, rfl, by decide, by decide, ?_⟩
   have e1 : md f (a ^ up e ((255 : Int) + 1).toNat) = 1 := by
    rw [show ((255 : Int) + 1).toNat = 256 from rfl, up_none HN.out.2.1 (by have := HN.out.2.2; exact this), Int.pow_zero, md_in HF.out]
    rcases HF.out with rfl | rfl | rfl | rfl <;> decide +kernel
   rw [e1]
   exact Z3.out
  case round =>
   clear Z3
   obtain ⟨z, rfl, hz0, hz1, hxs⟩ := hrel
   have Z : Hid (XS w wr b A E (num (md f (a ^ up e (z + 1).toNat)))) := hxs
   clear hxs
   by_cases hzz : 0 ≤ z
   ·obtain ⟨j, rfl⟩ : ∃ q : Nat, z = q := ⟨z.toNat, by omega⟩
    have hdz : decide ((0 : Int) ≤ (j : Int)) = true := by simp
    have lj0 : (0 : Int) ≤ (j : Int) := by omega
    obtain ⟨z', hz'⟩ : ∃ z' : Int, (j : Int) - 1 = z' := ⟨_, rfl⟩
    have wz := wrap_i (x := z') (by omega) (by omega)
    have HZ' : Hid (z' = (j : Int) - 1 ∧ (z' + 1).toNat = j ∧ j < 256) := ⟨hz'.symm, by omega, by omega⟩
    obtain ⟨t, ht⟩ : ∃ t, t = up e (j + 1) := ⟨_, rfl⟩
    have HT : Hid ((up e j : Int) = 2 * t + dg 2 e j) := by
     show (up e j : Int) = 2 * t + dg 2 e j
     rw [ht]
     exact up_next HN.out.2.1 j
    rw [show ((j : Int) + 1).toNat = j + 1 by omega, ← ht] at Z
    clear ht
    obtain ⟨P, hP⟩ : ∃ P, P = num (md f (a ^ t)) := ⟨_, rfl⟩
    obtain ⟨P2, hP2⟩ : ∃ P, P = num (md f (a ^ (2 * t))) := ⟨_, rfl⟩
    obtain ⟨P3, hP3⟩ : ∃ P, P = num (md f (a ^ (2 * t + 1))) := ⟨_, rfl⟩
    have HP : Hid (P2 = num (md f (a ^ (2 * t))) ∧ P3 = num (md f (a ^ (2 * t + 1)))) := ⟨hP2, hP3⟩
    have K : Hid ((∀ W, Calls Try.prog 61 #[.int .i64 f, .agg P, .agg P] W fun r w' => r = .returned (.agg P2) ∧ Chg W w') ∧ (∀ W, Calls Try.prog 61 #[.int .i64 f, .agg P2, .agg A] W fun r w' => r = .returned (.agg P3) ∧ Chg W w')) := by
     rw [hP, hP2, hP3, HA.out.1, ← mw_sq f a t, ← mw_one f a (2 * t), ← mw_sq f a t]
     exact ⟨fun W => mulR_any f _ _ (md_N f _) (md_N f _) W, fun W => mulR_any f _ _ (md_N f _) HN.out.1 W⟩
    have iP : (Try.prog.info? 24).map (·.size) = some P.toList.length := by rw [hP]; exact infoN _
    have iP2 : (Try.prog.info? 24).map (·.size) = some P2.toList.length := by rw [hP2]; exact infoN _
    have s2 : (Try.prog.info? 24).map (·.size) = some P2.size := by rw [hP2]; exact szN _
    have l2 : P.size = P2.size := by rw [hP, hP2]; exact lenN _ _
    have o2 : P2.all (·.oneCell') = true := by rw [hP2]; exact num_one _
    have s3 : (Try.prog.info? 24).map (·.size) = some P3.size := by rw [hP3]; exact szN _
    have l3 : P2.size = P3.size := by rw [hP2, hP3]; exact lenN _ _
    have o3 : P3.all (·.oneCell') = true := by rw [hP3]; exact num_one _
    have HS3 : Hid ((Try.prog.info? 24).map (·.size) = some P3.size ∧ P2.size = P3.size ∧ P3.all (·.oneCell') = true ∧ (Try.prog.info? 24).map (·.size) = some P2.toList.length) := ⟨s3, l3, o3, iP2⟩
    rw [← hP] at Z
    clear hP hP2 hP3 s3 l3 o3 iP2
    have r8 := rangeA Z.out.pow
    go_wp2_with (first
     | refine wpList_load_mid rfl 24 (.tmp 8) rfl _ _ rfl (P.toList) _ r8 undNum rfl iP ?_)
    go_at_call 61
    refine (K.out.1 _).mono ?_
    rintro r w5 ⟨rfl, hc5⟩
    have Z5 : Hid (XS w w5 b A E P) := Z.out.to hc5
    obtain ⟨t7, g7⟩ := Z5.out.pow
    clear hc5 r8 Z
    go_upto_region 9 with (first | refine wpList_store_row rfl 24 _ _ rfl _ _ rfl rfl _ _ g7 s2 l2 o2 ?_)
    obtain ⟨w6, hw6⟩ : ∃ w6, w6 = w5.setRow b P2 := ⟨_, rfl⟩
    have Z6 : Hid (XS w w6 b A E P2) := by rw [hw6]; exact Z5.out.row HB.out P2
    rw [← hw6]
    clear hw6 g7 Z5 s2 l2 o2 iP
    obtain ⟨q, hq⟩ : ∃ q : Nat, (j : Int).tdiv 64 = q := ⟨j / 64, by rw [Int.tdiv_eq_ediv_of_nonneg (by omega)]; omega⟩
    obtain ⟨s, hs⟩ : ∃ t : Nat, (j : Int).tmod 64 = t := ⟨j % 64, by rw [Int.tmod_eq_emod_of_nonneg (by omega)]; omega⟩
    have hq' : q = j / 64 := by rw [Int.tdiv_eq_ediv_of_nonneg (by omega)] at hq; omega
    have hs' : s = j % 64 := by rw [Int.tmod_eq_emod_of_nonneg (by omega)] at hs; omega
    have wq := wrap_i (x := (q : Int)) (by omega) (by omega)
    have wt := wrap_i (x := (s : Int)) (by omega) (by omega)
    have lt : ¬ (s : Int) < 0 := by omega
    have lt64 : s < 64 := by omega
    have lq : (q : Int) < 4 := by omega
    have lq' : q < 4 := by omega
    have hdw : W64 (dg B64 e q) := dg_w e q
    have hsw : W64 (dg B64 e q / 2 ^ s) := by
     have ⟨h0, h1⟩ := hdw
     have hp : (0 : Int) < 2 ^ s := Int.pow_pos (by decide)
     exact ⟨Int.ediv_nonneg h0 (by omega), Int.lt_of_le_of_lt (Int.ediv_le_self _ h0) h1⟩
    have em := low1 hsw
    rw [dg_bit e q s lt64] at em
    have ei : 64 * q + s = j := by omega
    rw [ei] at em
    have c1 : w6.cell? ⟨w.heap.size + 1, q, none⟩ = some (.int .u64 (dg B64 e q)) := by
     have h := Z6.out.at1
     rw [HA.out.2] at h
     exact (h.cell q).trans (arr_get _ _ _ lq')
    obtain ⟨d, hd⟩ : ∃ d, d = dg B64 e q := ⟨_, rfl⟩
    obtain ⟨y, hy⟩ : ∃ y, y = dg 2 e j := ⟨_, rfl⟩
    rw [← hd, ← hy] at em
    rw [← hd] at c1
    rw [← hy] at HT
    have HY : Hid (0 ≤ y ∧ y < 2) := by
     have hbd := dg_bound (B := 2) (by decide) e j
     show 0 ≤ y ∧ y < 2
     rw [hy]
     exact hbd
    clear hq' hs' hdw hsw ei hd hy
    by_cases hy1 : y = 1
    ·have hyb : (y == 1) = true := by simp [hy1]
     obtain ⟨s3, l3, o3, iP2⟩ := HS3.out
     have HY1 : Hid (y = 1) := hy1
     clear hy1
     have r8 := rangeA Z6.out.pow
     have r4 := rangeA Z6.out.at0
     go_wp2_with (first
      | refine wpList_load_mid rfl 24 (.tmp 8) rfl _ _ rfl (P2.toList) _ r8 undNum rfl iP2 ?_
      | refine wpList_load_mid rfl 24 (.tmp 4) rfl _ _ rfl (A.toList) _ r4 undNum rfl iA ?_)
     go_at_call 61
     refine (K.out.2 _).mono ?_
     rintro r w8 ⟨rfl, hc8⟩
     have Z8 : Hid (XS w w8 b A E P2) := Z6.out.to hc8
     obtain ⟨t7, g7⟩ := Z8.out.pow
     clear hc8 r8 r4 Z6 c1
     go_wp2_with (first | refine wpList_store_row rfl 24 _ _ rfl _ _ rfl rfl _ _ g7 s3 l3 o3 ?_)
     go_roundw
     case rel =>
      refine ⟨z', by first | rfl | go_num, by have := HZ'.out.1; omega, by have := HZ'.out.1; omega, ?_⟩
      have h2 : up e j = 2 * t + 1 := by have := HT.out; have := HY1.out; omega
      rw [HZ'.out.2.1, h2, ← HP.out.2]
      exact Z8.out.row HB.out P3
     case measure =>
      simp [intOf]
      omega
    ·have hyb : (y == 1) = false := by simp [hy1]
     have HY1 : Hid (¬ y = 1) := hy1
     clear hy1
     go_wp2_with fail
     go_roundw
     case rel =>
      refine ⟨z', by first | rfl | go_num, by have := HZ'.out.1; omega, by have := HZ'.out.1; omega, ?_⟩
      have h2 : up e j = 2 * t := by have := HT.out; have := HY1.out; have := HY.out; omega
      rw [HZ'.out.2.1, h2, ← HP.out.1]
      exact Z6.out
     case measure =>
      simp [intOf]
      omega
   ·have : z = -1 := by omega
    subst this
    rw [show ((-1 : Int) + 1).toNat = 0 from rfl, up_all] at Z
    obtain ⟨P, hP⟩ : ∃ P, P = num (md f (a ^ e.toNat)) := ⟨_, rfl⟩
    have HP : Hid (P = num (md f (a ^ e.toNat))) := hP
    have iP : (Try.prog.info? 24).map (·.size) = some P.toList.length := by rw [hP]; exact infoN _
    have s1 : (Try.prog.info? 24).map (·.size) = some P.size := by rw [hP]; exact szN _
    have l1 : (num 0).size = P.size := by rw [hP]; exact lenN _ _
    have o1 : P.all (·.oneCell') = true := by rw [hP]; exact num_one _
    rw [← hP] at Z
    clear hP
    have r7 := rangeA Z.out.pow
    obtain ⟨t6, g6⟩ := Z.out.at2
    go_wp2_with (first
     | refine wpList_load_mid rfl 24 (.tmp 8) rfl _ _ rfl (P.toList) _ r7 undNum rfl iP ?_
     | refine wpList_store_row rfl 24 _ _ rfl _ _ rfl rfl _ _ g6 s1 l1 o1 ?_)
    rw [HP.out]
    refine bp_n (x := md f (a ^ e.toNat)) Try.results74 rfl rfl ?_ ⟨rfl, Z.out.chg.setRow (by omega) _⟩
    exact Z.out.at2.row _
end Go.Proofs.Ytbdgmkejmfjobaa

namespace Go.Proofs.Ytbdgmkejmfjobaa
set_option maxRecDepth 100000
open Go.RowKit
set_option linter.unusedVariables false
theorem num_ne0x : (num 0 = #[]) = False := by
 apply eq_false
 intro h
 have := congrArg Array.size h
 rw [num_size] at this
 cases this
set_option maxHeartbeats 8000000 in
theorem invR_any (f a : Int) (ha : N256 a) (w : World) : Calls Try.prog 55 #[.int .i64 f, .agg (num a)] w fun r w' => r = .returned (.agg (num (md f (a ^ ((mo f - 2) % R256).toNat)))) ∧ Chg w w' := by
 have hz := zero25.1
 have hsA := num_size a
 have iA := infoN a
 obtain ⟨A, hA⟩ : ∃ A, A = num a := ⟨_, rfl⟩
 obtain ⟨M, hM⟩ : ∃ M, M = num (mo f) := ⟨_, rfl⟩
 obtain ⟨T, hT⟩ : ∃ M, M = num 2 := ⟨_, rfl⟩
 obtain ⟨D, hD⟩ : ∃ M, M = num ((mo f - 2) % R256) := ⟨_, rfl⟩
 obtain ⟨ANS, hANS⟩ : ∃ A, A = num (md f (a ^ ((mo f - 2) % R256).toNat)) := ⟨_, rfl⟩
 have HANS : Hid (ANS = num (md f (a ^ ((mo f - 2) % R256).toNat))) := hANS
 have HT : Hid (T = num 2) := hT
 have HMo : Hid (∀ u, Calls Try.prog 20 #[.int .i64 f] u fun r w' => r = .returned (.agg M) ∧ Chg u w') := fun u => by rw [hM]; exact modulusR_any f u
 have HM : Hid (∀ u, Calls Try.prog 62 #[.agg M, .agg T] u fun r w' => r = .returned (.agg D) ∧ Chg u w') := fun u => by rw [hM, hT, hD]; exact minusR_any _ _ (mo_N f) N2 u
 have HEx : Hid (∀ u, Calls Try.prog 74 #[.int .i64 f, .agg A, .agg D] u fun r w' => r = .returned (.agg ANS) ∧ Chg u w') := fun u => by rw [hA, hD, hANS]; exact expR_any f a _ ha (N_modR _) u
 have sR := szN (md f (a ^ ((mo f - 2) % R256).toNat))
 have oR := num_one (md f (a ^ ((mo f - 2) % R256).toNat))
 rw [← hA] at hsA iA ⊢
 rw [← hANS] at sR oR ⊢
 clear hA hM hT hD hANS ha
 go_enter Try.func55, Try.ntmps55
 go_upto_region 1 with fail
 obtain ⟨w2, hw2⟩ : ∃ w2, w2 = (w.alloc (.cells A 24)).alloc (.cells (num 0) 24) := ⟨_, rfl⟩
 have Z2 : Hid (Chg w w2 ∧ Ar w2 w.heap.size A ∧ Ar w2 (w.heap.size + 1) (num 0)) := by
  rw [hw2]
  exact ⟨((Chg.refl w).alloc _).alloc _, (Ar.new w _ _).alloc _, Ar.new1 w _ _ _⟩
 rw [← hw2]
 clear hw2 hsA
 refine wp_region_good 7 (fun j v wg => match j with
  | 0 => v = .int .i64 f
  | 1 => v = .agg A
  | 2 => v = .int .i64 f
  | 3 => v = .agg M
  | 4 => v = .agg T
  | 5 => v = .agg D
  | 6 => v = .agg ANS
  | _ => True) (by kernel_rfl) (by kernel_rfl) (by kernel_rfl) (by kernel_rfl) (by kernel_rfl) ?_ ?_ ?_
 ·intro j v u1 u2 h hc
  match j, h with
  | 0, h => exact h
  | 1, h => exact h
  | 2, h => exact h
  | 3, h => exact h
  | 4, h => exact h
  | 5, h => exact h
  | 6, h => exact h
  | _ + 7, h => exact trivial
 ·intro i o ac u hi ho hsz hf hg hc
  have hcs : i = 0 ∨ i = 1 ∨ i = 2 ∨ i = 3 ∨ i = 4 ∨ i = 5 ∨ i = 6 := by omega
  rcases hcs with rfl | rfl | rfl | rfl | rfl | rfl | rfl
  ·injection ho with ho
   subst ho
   refine .inl ⟨wanted_none rfl, ?_⟩
   have e1 : ac.eval (.tmp 0) = .int .i64 f := hf 0 (by kernel_rfl)
   exact opG_val (by simp [execOp, e1]) rfl (Chg.refl _)
  ·injection ho with ho
   subst ho
   refine .inl ⟨wanted_none rfl, ?_⟩
   have e1 : ac.eval (.tmp 3) = .pointer (some ⟨w.heap.size, 0, none⟩) := hf 3 (by kernel_rfl)
   exact wp_load_mid 24 (.tmp 3) rfl _ _ e1 (A.toList) _ (rangeA (Ar.chg (w := w2.drew) Z2.out.2.1 hc)) undNum rfl iA ⟨_, rfl, rfl, Chg.refl _⟩
  ·injection ho with ho
   subst ho
   refine .inl ⟨wanted_none rfl, ?_⟩
   have e1 : ac.eval (.tmp 0) = .int .i64 f := hf 0 (by kernel_rfl)
   exact opG_val (by simp [execOp, e1]) rfl (Chg.refl _)
  ·injection ho with ho
   subst ho
   refine .inl ⟨wanted_none rfl, ?_⟩
   have e1 : ac.eval (.tmp 7) = .int .i64 f := hg 2 (by kernel_rfl) (by decide)
   refine opG_go 20 Try.f20 #[.tmp 7] #[35] rfl Try.func20 (by kernel_rfl) (by kernel_rfl) (by simp [e1]) (Calls.mono (HMo.out _) ?_)
   rintro r u2 ⟨rfl, hc2⟩
   exact ⟨_, rfl, rfl, hc2⟩
  ·injection ho with ho
   subst ho
   refine .inl ⟨wanted_none rfl, ?_⟩
   have e1 : ac.eval (.const (.int .u64 2)) = .int .u64 2 := rfl
   exact opG_val (by revert e1; generalize ac.eval = ρ; intro e1; simp [go_sem, execOp, e1, zero25.1, num_set2, num_ne0x, HT.out]) rfl (Chg.refl _)
  ·injection ho with ho
   subst ho
   refine .inl ⟨wanted_none rfl, ?_⟩
   have e1 : ac.eval (.tmp 8) = .agg M := hg 3 (by kernel_rfl) (by decide)
   have e2 : ac.eval (.tmp 9) = .agg T := hg 4 (by kernel_rfl) (by decide)
   refine opG_go 62 Try.f62 #[.tmp 8, .tmp 9] #[24, 24] rfl Try.func62 (by kernel_rfl) (by kernel_rfl) (by simp [e1, e2]) (Calls.mono (HM.out _) ?_)
   rintro r u2 ⟨rfl, hc2⟩
   exact ⟨_, rfl, rfl, hc2⟩
  ·injection ho with ho
   subst ho
   refine .inl ⟨wanted_none rfl, ?_⟩
   have e1 : ac.eval (.tmp 5) = .int .i64 f := hg 0 (by kernel_rfl) (by decide)
   have e2 : ac.eval (.tmp 6) = .agg A := hg 1 (by kernel_rfl) (by decide)
   have e3 : ac.eval (.tmp 10) = .agg D := hg 5 (by kernel_rfl) (by decide)
   refine opG_go 74 Try.f74 #[.tmp 5, .tmp 6, .tmp 10] #[35, 24, 24] rfl Try.func74 (by kernel_rfl) (by kernel_rfl) (by simp [e1, e2, e3]) (Calls.mono (HEx.out _) ?_)
   rintro r u2 ⟨rfl, hc2⟩
   exact ⟨_, rfl, rfl, hc2⟩
 ·intro o u V ho hV hc
  injection ho with ho
  subst ho
  refine ⟨rfl, ?_⟩
  have q5 : V 0 = .int .i64 f := hV 0 (by decide)
  have q6 : V 1 = .agg A := hV 1 (by decide)
  have q7 : V 2 = .int .i64 f := hV 2 (by decide)
  have q8 : V 3 = .agg M := hV 3 (by decide)
  have q9 : V 4 = .agg T := hV 4 (by decide)
  have q10 : V 5 = .agg D := hV 5 (by decide)
  have q11 : V 6 = .agg ANS := hV 6 (by decide)
  have hres := Ar.chg (w := w2.drew) Z2.out.2.2 hc
  refine wp_store_mid 24 (.tmp 4) (.tmp 11) rfl (w.heap.size + 1) 0 ANS (by rfl) (Eq.trans (by rfl) q11) (by rw [HANS.out, num_size]; exact thereN hres) sR oR ?_
  rw [show u.setCells (w.heap.size + 1) 0 ANS.toList = u.setRow (w.heap.size + 1) ANS by rw [HANS.out]; exact setRowN hres _]
  go_wp2_with fail
  refine bp_n (x := md f (a ^ ((mo f - 2) % R256).toNat)) Try.results55 rfl (by rfl) ?_ ⟨by rw [HANS.out], ?_⟩
  ·rw [← HANS.out]
   exact hres.row _
  ·exact (Z2.out.1.drew.trans hc).setRow (by omega) _
end Go.Proofs.Ytbdgmkejmfjobaa
