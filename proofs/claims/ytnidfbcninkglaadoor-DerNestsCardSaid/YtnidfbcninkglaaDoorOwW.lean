/-
  DerOneWay, walked.
-/
import Derived.Test.YtnidfbcninkglaaDoorNy
import Derived.Test.YtnidfbcninkglaaDoorHd
namespace Go.Proofs.YtnidfbcninkglaaDoor
open Go.RowKit
set_option linter.unusedVariables false
set_option maxRecDepth 100000

theorem nxE_cut (t : Int) (b : List Int) (ht : t % 32 ≠ 31) (h : b.length ≤ 65535) : nxE ((encL t b).take ((encL t b).length - 1)) 0 = 141 := by
  have h1 : 2 ≤ (encL t b).length := by rw [encL_len, lenB_len]; split <;> (try split) <;> omega
  unfold nxE
  rw [if_neg (by rw [List.length_take]; omega)]
  exact itemL_cut t b ht h
theorem enc_read (t : Int) (b : List Int) (ht : t % 32 ≠ 31) (h : b.length ≤ 65535) :
    (itemL (t :: (lenB b.length ++ b))).1 = 0 ∧ ((lenB b.length ++ b).drop (lenL (lenB b.length ++ b)).2.1).take (lenL (lenB b.length ++ b)).2.2 = b ∧ 1 + (lenL (lenB b.length ++ b)).2.1 + (lenL (lenB b.length ++ b)).2.2 = (encL t b).length := by
  have e := itemL_enc t b [] ht h
  rw [List.append_nil] at e
  have e2 := lenL_enc b.length h b
  refine ⟨by show (itemL (encL t b)).1 = 0; rw [e], ?_, ?_⟩
  · rw [e2]
    simp
  · rw [e2, encL_len]

set_option maxHeartbeats 8000000 in
theorem ow_no_no (v : Value) (xs : List Int) (tg : Int) (u : Value) (ys : List Int) (w : World) (ht : Tab w) (hg : ErrT w) (hv : Rd w v xs) (hb : Byt xs) (hl : xs.length ≤ 140737488355328) (h0 : 0 ≤ tg) (h1 : tg < 256) (hu : Rd w u ys) (hyb : Byt ys) (hyl : ys.length ≤ 140737488355328) (he : nxE xs 0 ≠ 0) (hbad : ¬ (tg % 32 ≠ 31 ∧ ys.length ≤ 65535)) :
    Calls Tryd.prog 4 #[v, .int .u8 tg, u] w fun e w' => e = .returned (.bool true) ∧ Chg Non w w' := by
  obtain ⟨vo, vn, vc, rfl, hvn, hvnc, hvm⟩ := hv.shape
  obtain ⟨uo, un, uc, rfl, hun, hunc, hum⟩ := hu.shape
  have HT : Hid (Tab w) := ht
  have HG : Hid (ErrT w) := hg
  have HV : Hid (Rd w (.slice vo vn vc) xs) := hv
  have HU : Hid (Rd w (.slice uo un uc) ys) := hu
  have HB : Hid (Byt xs) := hb
  have HL : Hid (xs.length ≤ 140737488355328) := hl
  obtain ⟨sy, hsy⟩ : ∃ sy, sy = strOfNums ys := ⟨_, rfl⟩
  have HSY : Hid (sy = strOfNums ys) := hsy
  unfold maxLen at hvm hum
  obtain ⟨E, hE⟩ : ∃ E, E = nxE xs 0 := ⟨_, rfl⟩
  have HE : Hid (E = nxE xs 0) := hE
  have hE0 : E ≠ 0 := by rw [hE]; exact he
  have dE : (E == 0) = false := by simpa using hE0
  clear hE
  have HPL : Hid (putL tg ys = []) := by
    unfold putL
    rw [if_neg]
    · rfl
    · intro h; exact hbad h
  have hcas : (tg % 32 == 31) = true ∨ ((tg % 32 == 31) = false ∧ decide ((65535 : Int) < (un : Int)) = true) := by
    by_cases h5 : tg % 32 = 31
    · exact .inl (by simpa using h5)
    · refine .inr ⟨by simpa using h5, ?_⟩
      have : ¬ ys.length ≤ 65535 := fun h => hbad ⟨h5, h⟩
      simp
      omega
  clear he ht hg hv hu hb hl hvn hun hsy hyb hyl
  clear hbad
  rcases hcas with dt | ⟨dt, dl⟩
  · go_enter Tryd.func4, Tryd.ntmps4
    go_wp2_with (go_at_call 9; refine (head_any _ HT.out).mono ?_)
    rintro e w1 ⟨rfl, hc1⟩
    have HN1 : Hid (Calls Tryd.prog 10 #[.slice vo vn vc, .int .i64 0] w1 fun e w' => e = .returned (.tuple #[.agg #[.int .u8 0, .slice none 0 0, .int .i64 0, .int .i64 0], .int .i64 E]) ∧ Chg Non w1 w') := by
      have := next_err _ xs HB.out 0 w1 (HG.out.chg hc1) (HV.out.chg hc1) HL.out (by rw [← HE.out]; exact hE0)
      rw [← HE.out] at this
      unfold itemV at this
      exact this
    have C1 : Hid (Chg Non w w1) := hc1
    clear hc1
    go_wp2_with (go_at_call 10; refine HN1.out.mono ?_)
    rintro e w2 ⟨rfl, hc2⟩
    go_upto_region 7 with fail
    obtain ⟨w5, hw5⟩ : ∃ w5, w5 = w2.alloc (.cells #[.int .u8 0, .slice none 0 0, .int .i64 0, .int .i64 0] 25) := ⟨_, rfl⟩
    have C5 : Hid (Chg Non w w5) := by rw [hw5]; exact (C1.out.two hc2).alloc _
    rw [← hw5]
    clear hw5 hc2
    obtain ⟨w6, hw6⟩ : ∃ w6, w6 = w5.alloc (.cells #[.slice uo un uc] 22) := ⟨_, rfl⟩
    have hp7 : Calls Tryd.prog 15 #[.int .u8 tg, .slice (some ⟨w5.heap.size, 0, none⟩) 1 1] w6 fun e w' => ∃ v', e = .returned v' ∧ OwnN w6 w' v' [] := by
      rw [hw6]
      have := put_any tg h0 h1 _ _ _ (PtR.one (HU.out.chg C5.out))
      rw [flat1, HPL.out] at this
      exact this
    have HP7 : Hid (Calls Tryd.prog 15 #[.int .u8 tg, .slice (some ⟨w5.heap.size, 0, none⟩) 1 1] (w5.alloc (.cells #[.slice uo un uc] 22)) fun e w' => ∃ v', e = .returned v' ∧ OwnN w6 w' v' []) := by rw [← hw6]; exact hp7
    have C6 : Hid (Chg Non w w6) := by rw [hw6]; exact C5.out.alloc _
    clear hw6 hp7
    go_wp2_with (go_at_call 15; refine HP7.out.mono ?_)
    rintro e w7 ⟨v7, rfl, hv7⟩
    obtain ⟨ao7, c7, rfl, -⟩ := hv7.rd.empty
    have C7 : Hid (Chg Non w w7) := C6.out.two hv7.chg
    clear hv7
    go_wp2
    go_ret
    exact ⟨rfl, C7.out⟩
  · go_enter Tryd.func4, Tryd.ntmps4
    go_wp2_with (go_at_call 9; refine (head_any _ HT.out).mono ?_)
    rintro e w1 ⟨rfl, hc1⟩
    have HN1 : Hid (Calls Tryd.prog 10 #[.slice vo vn vc, .int .i64 0] w1 fun e w' => e = .returned (.tuple #[.agg #[.int .u8 0, .slice none 0 0, .int .i64 0, .int .i64 0], .int .i64 E]) ∧ Chg Non w1 w') := by
      have := next_err _ xs HB.out 0 w1 (HG.out.chg hc1) (HV.out.chg hc1) HL.out (by rw [← HE.out]; exact hE0)
      rw [← HE.out] at this
      unfold itemV at this
      exact this
    have C1 : Hid (Chg Non w w1) := hc1
    clear hc1
    go_wp2_with (go_at_call 10; refine HN1.out.mono ?_)
    rintro e w2 ⟨rfl, hc2⟩
    go_upto_region 7 with fail
    obtain ⟨w5, hw5⟩ : ∃ w5, w5 = w2.alloc (.cells #[.int .u8 0, .slice none 0 0, .int .i64 0, .int .i64 0] 25) := ⟨_, rfl⟩
    have C5 : Hid (Chg Non w w5) := by rw [hw5]; exact (C1.out.two hc2).alloc _
    rw [← hw5]
    clear hw5 hc2
    obtain ⟨w6, hw6⟩ : ∃ w6, w6 = w5.alloc (.cells #[.slice uo un uc] 22) := ⟨_, rfl⟩
    have hp7 : Calls Tryd.prog 15 #[.int .u8 tg, .slice (some ⟨w5.heap.size, 0, none⟩) 1 1] w6 fun e w' => ∃ v', e = .returned v' ∧ OwnN w6 w' v' [] := by
      rw [hw6]
      have := put_any tg h0 h1 _ _ _ (PtR.one (HU.out.chg C5.out))
      rw [flat1, HPL.out] at this
      exact this
    have HP7 : Hid (Calls Tryd.prog 15 #[.int .u8 tg, .slice (some ⟨w5.heap.size, 0, none⟩) 1 1] (w5.alloc (.cells #[.slice uo un uc] 22)) fun e w' => ∃ v', e = .returned v' ∧ OwnN w6 w' v' []) := by rw [← hw6]; exact hp7
    have C6 : Hid (Chg Non w w6) := by rw [hw6]; exact C5.out.alloc _
    clear hw6 hp7
    go_wp2_with (go_at_call 15; refine HP7.out.mono ?_)
    rintro e w7 ⟨v7, rfl, hv7⟩
    obtain ⟨ao7, c7, rfl, -⟩ := hv7.rd.empty
    have C7 : Hid (Chg Non w w7) := C6.out.two hv7.chg
    clear hv7
    go_wp2
    go_ret
    exact ⟨rfl, C7.out⟩

set_option maxHeartbeats 8000000 in
theorem ow_no_ok (v : Value) (xs : List Int) (tg : Int) (u : Value) (ys : List Int) (w : World) (ht : Tab w) (hg : ErrT w) (hv : Rd w v xs) (hb : Byt xs) (hl : xs.length ≤ 140737488355328) (h0 : 0 ≤ tg) (h1 : tg < 256) (hu : Rd w u ys) (hyb : Byt ys) (hyl : ys.length ≤ 140737488355328) (he : nxE xs 0 ≠ 0) (hgood : tg % 32 ≠ 31 ∧ ys.length ≤ 65535) :
    Calls Tryd.prog 4 #[v, .int .u8 tg, u] w fun e w' => e = .returned (.bool true) ∧ Chg Non w w' := by
  obtain ⟨vo, vn, vc, rfl, hvn, hvnc, hvm⟩ := hv.shape
  obtain ⟨uo, un, uc, rfl, hun, hunc, hum⟩ := hu.shape
  have HT : Hid (Tab w) := ht
  have HG : Hid (ErrT w) := hg
  have HV : Hid (Rd w (.slice vo vn vc) xs) := hv
  have HU : Hid (Rd w (.slice uo un uc) ys) := hu
  have HB : Hid (Byt xs) := hb
  have HL : Hid (xs.length ≤ 140737488355328) := hl
  obtain ⟨sy, hsy⟩ : ∃ sy, sy = strOfNums ys := ⟨_, rfl⟩
  have HSY : Hid (sy = strOfNums ys) := hsy
  unfold maxLen at hvm hum
  obtain ⟨zs, hzs⟩ : ∃ zs, zs = encL tg ys := ⟨_, rfl⟩
  obtain ⟨E, hE⟩ : ∃ E, E = nxE xs 0 := ⟨_, rfl⟩
  have HE : Hid (E = nxE xs 0) := hE
  have hE0 : E ≠ 0 := by rw [hE]; exact he
  have dE : (E == 0) = false := by simpa using hE0
  clear hE
  have HPL : Hid (putL tg ys = zs) := by
    unfold putL
    rw [if_pos hgood]
    exact hzs.symm
  have dt : (tg % 32 == 31) = false := by simpa using hgood.1
  have dl : decide ((65535 : Int) < (un : Int)) = false := by simp; omega
  obtain ⟨Z, hZz⟩ : ∃ Z, Z = zs.length := ⟨_, rfl⟩
  have hZ2 : 2 ≤ Z := by rw [hZz, hzs, encL_len, lenB_len]; split <;> (try split) <;> omega
  have hZ : Z ≤ 140737488355328 := by rw [hZz, hzs, encL_len, lenB_len]; split <;> (try split) <;> omega
  obtain ⟨Z1, hZ1⟩ : ∃ Z1, Z1 = Z - 1 := ⟨_, rfl⟩
  have hZ1' : Z = Z1 + 1 := by omega
  have HZ : Hid (zs ≠ [] ∧ Z = zs.length ∧ Byt zs ∧ zs = encL tg ys ∧ True) := ⟨by rw [hzs]; simp [encL], hZz, by rw [hzs]; exact encL_byt h0 h1 hyb hgood.2, hzs, trivial⟩
  have HER : Hid ((itemL (tg :: (lenB ys.length ++ ys))).1 = 0 ∧ ((lenB ys.length ++ ys).drop (lenL (lenB ys.length ++ ys)).2.1).take (lenL (lenB ys.length ++ ys)).2.2 = ys ∧ 1 + (lenL (lenB ys.length ++ ys)).2.1 + (lenL (lenB ys.length ++ ys)).2.2 = (encL tg ys).length) := enc_read tg ys hgood.1 hgood.2
  have HCUT : Hid (nxE (zs.take Z1) 0 = 141) := by
    have := nxE_cut tg ys hgood.1 hgood.2
    rw [← hzs, ← hZz] at this
    rw [hZ1]
    exact this
  have hz1 : ((Z : Int) - 1) = (Z1 : Int) := by omega
  have HZZ : Hid (Z = Z1 + 1) := hZ1'
  clear hzs hZz hZ1 hZ1'
  clear he ht hg hv hu hb hl hvn hun hsy hyb hyl
  clear hgood
  go_enter Tryd.func4, Tryd.ntmps4
  go_wp2_with (go_at_call 9; refine (head_any _ HT.out).mono ?_)
  rintro e w1 ⟨rfl, hc1⟩
  have HN1 : Hid (Calls Tryd.prog 10 #[.slice vo vn vc, .int .i64 0] w1 fun e w' => e = .returned (.tuple #[.agg #[.int .u8 0, .slice none 0 0, .int .i64 0, .int .i64 0], .int .i64 E]) ∧ Chg Non w1 w') := by
    have := next_err _ xs HB.out 0 w1 (HG.out.chg hc1) (HV.out.chg hc1) HL.out (by rw [← HE.out]; exact hE0)
    rw [← HE.out] at this
    unfold itemV at this
    exact this
  have C1 : Hid (Chg Non w w1) := hc1
  clear hc1
  go_wp2_with (go_at_call 10; refine HN1.out.mono ?_)
  rintro e w2 ⟨rfl, hc2⟩
  go_upto_region 7 with fail
  obtain ⟨w5, hw5⟩ : ∃ w5, w5 = w2.alloc (.cells #[.int .u8 0, .slice none 0 0, .int .i64 0, .int .i64 0] 25) := ⟨_, rfl⟩
  have C5 : Hid (Chg Non w w5) := by rw [hw5]; exact (C1.out.two hc2).alloc _
  rw [← hw5]
  clear hw5 hc2
  obtain ⟨w6, hw6⟩ : ∃ w6, w6 = w5.alloc (.cells #[.slice uo un uc] 22) := ⟨_, rfl⟩
  have hp7 : Calls Tryd.prog 15 #[.int .u8 tg, .slice (some ⟨w5.heap.size, 0, none⟩) 1 1] w6 fun e w' => ∃ v', e = .returned v' ∧ OwnN w6 w' v' zs := by
    rw [hw6]
    have := put_any tg h0 h1 _ _ _ (PtR.one (HU.out.chg C5.out))
    rw [flat1, HPL.out] at this
    exact this
  have HP7 : Hid (Calls Tryd.prog 15 #[.int .u8 tg, .slice (some ⟨w5.heap.size, 0, none⟩) 1 1] (w5.alloc (.cells #[.slice uo un uc] 22)) fun e w' => ∃ v', e = .returned v' ∧ OwnN w6 w' v' zs) := by rw [← hw6]; exact hp7
  have C6 : Hid (Chg Non w w6) := by rw [hw6]; exact C5.out.alloc _
  clear hw6 hp7
  go_wp2_with (go_at_call 15; refine HP7.out.mono ?_)
  rintro e w7 ⟨v7, rfl, hv7⟩
  obtain ⟨b7, o7, c7, rfl, g1, g2, g3⟩ := hv7.rd.bs HZ.out.1
  rw [← HZ.out.2.1] at g1 ⊢
  have C7 : Hid (Chg Non w w7) := C6.out.two hv7.chg
  have HN7 : Hid (Calls Tryd.prog 10 #[.slice (some ⟨b7, o7, none⟩) Z c7, .int .i64 0] w7 fun e w' => ∃ v', e = .returned (.tuple #[.agg #[.int .u8 tg, v', .int .i64 0, .int .i64 Z], .int .i64 0]) ∧ ReadP w7 w' v' ys) := by
    have := next_ok (.slice (some ⟨b7, o7, none⟩) Z c7) zs HZ.out.2.2.1 0 tg (lenB ys.length ++ ys) w7 (g3.rd HZ.out.2.1 g1 g2) (List.length_pos_iff.2 HZ.out.1) (by rw [HZ.out.2.2.2.1]; rfl) (by rw [← HZ.out.2.1]; exact hZ) HER.out.1
    rw [HER.out.2.1, HER.out.2.2, ← HZ.out.2.2.2.1, ← HZ.out.2.1] at this
    unfold itemV at this
    exact this
  have HG7 : Hid (Bs w7 b7 o7 zs) := g3
  clear hv7 g3
  go_wp2_with (go_at_call 10; refine HN7.out.mono ?_)
  rintro e w8 ⟨v8, rfl, hv8⟩
  have k1 := fun (x : Obj) => run_str (w8.alloc x) v8 _ (hv8.own.rd.chg ((Chg.refl _ _).alloc _))
  have k2 := fun (x : Obj) => run_str (w8.alloc x) _ _ (HU.out.chg ((C7.out.two hv8.own.chg).alloc x))
  rw [← HSY.out] at k1 k2
  obtain ⟨ao8, n8, c8, rfl, -, -, -⟩ := hv8.own.rd.shape
  have C8 : Hid (Chg Non w w8) := C7.out.two hv8.own.chg
  have HN8 : Hid (∀ x, Calls Tryd.prog 10 #[.slice (some ⟨b7, o7, none⟩) Z1 c7, .int .i64 0] (w8.alloc x) fun e w' => e = .returned (.tuple #[.agg #[.int .u8 0, .slice none 0 0, .int .i64 0, .int .i64 0], .int .i64 141]) ∧ Chg Non (w8.alloc x) w') := fun x => by
    have h9 := HG7.out.chg (hv8.own.chg.alloc x)
    have := next_err (.slice (some ⟨b7, o7, none⟩) Z1 c7) (zs.take Z1) (HZ.out.2.2.1.take _) 0 (w8.alloc x) (HG.out.chg (C8.out.alloc x)) ((h9.take Z1).rd (by rw [List.length_take, ← HZ.out.2.1]; omega) (by omega) g2) (by rw [List.length_take]; omega) (by rw [HCUT.out]; decide)
    rw [HCUT.out] at this
    unfold itemV at this
    exact this
  clear hv8
  go_wp2_with (go_at_call 10; refine (HN8.out _).mono ?_; rintro e w9 ⟨rfl, hw9⟩)
  go_ret
  exact ⟨rfl, (C8.out.alloc _).two hw9 |>.alloc _⟩

set_option maxHeartbeats 8000000 in
theorem ow_ok_no (v : Value) (xs : List Int) (tg : Int) (u : Value) (ys : List Int) (w : World) (ht : Tab w) (hg : ErrT w) (hv : Rd w v xs) (hb : Byt xs) (hl : xs.length ≤ 140737488355328) (h0 : 0 ≤ tg) (h1 : tg < 256) (hu : Rd w u ys) (hyb : Byt ys) (hyl : ys.length ≤ 140737488355328) (he : nxE xs 0 = 0) (hbad : ¬ (tg % 32 ≠ 31 ∧ ys.length ≤ 65535)) :
    Calls Tryd.prog 4 #[v, .int .u8 tg, u] w fun e w' => e = .returned (.bool true) ∧ Chg Non w w' := by
  obtain ⟨vo, vn, vc, rfl, hvn, hvnc, hvm⟩ := hv.shape
  obtain ⟨uo, un, uc, rfl, hun, hunc, hum⟩ := hu.shape
  have HT : Hid (Tab w) := ht
  have HG : Hid (ErrT w) := hg
  have HV : Hid (Rd w (.slice vo vn vc) xs) := hv
  have HU : Hid (Rd w (.slice uo un uc) ys) := hu
  have HB : Hid (Byt xs) := hb
  have HL : Hid (xs.length ≤ 140737488355328) := hl
  obtain ⟨sy, hsy⟩ : ∃ sy, sy = strOfNums ys := ⟨_, rfl⟩
  have HSY : Hid (sy = strOfNums ys) := hsy
  unfold maxLen at hvm hum
  obtain ⟨t, r, hx⟩ : ∃ t r, xs = t :: r := by
    cases xs with
    | nil => simp [nxE] at he
    | cons t r => exact ⟨t, r, rfl⟩
  have hit : (itemL (t :: r)).1 = 0 := by
    unfold nxE at he
    by_cases h5 : (0 : Int) < 0 ∨ (xs.length : Int) ≤ 0
    · rw [if_pos h5] at he; simp at he
    · rw [if_neg h5, hx] at he; exact he
  obtain ⟨M, hM⟩ : ∃ M, M = 1 + (lenL r).2.1 + (lenL r).2.2 := ⟨_, rfl⟩
  obtain ⟨bd, hbd⟩ : ∃ bd, bd = (r.drop (lenL r).2.1).take (lenL r).2.2 := ⟨_, rfl⟩
  obtain ⟨q1, q2, q3, q4, q5, q6⟩ := itemL_ok (by rw [hx] at hb; exact hb.tail) hit
  have q7 := (lenL_ok (by rw [hx] at hb; exact hb.tail) q3).2.2.1
  have HX : Hid (xs = t :: r) := hx
  have HIT : Hid ((itemL (t :: r)).1 = 0) := hit
  have htb : 0 ≤ t ∧ t < 256 := by rw [hx] at hb; exact hb.head
  have HM : Hid (M = 1 + (lenL r).2.1 + (lenL r).2.2 ∧ bd = (r.drop (lenL r).2.1).take (lenL r).2.2 ∧ 0 ≤ t ∧ t < 256 ∧ putL t bd = xs.take M) := by
    refine ⟨hM, hbd, htb.1, htb.2, ?_⟩
    unfold putL
    rw [hbd, if_pos ⟨q1, by rw [q6]; exact q7⟩, hM, hx, q5]
  have hMn : M ≤ vn := by rw [hvn, hM, hx]; simp; omega
  have dM : decide ((vn : Int) < (M : Int)) = false := by simp; omega
  have dM2 : decide (vn < M) = false := by simp; omega
  have hMc : M ≤ vc := by omega
  have hMc2 : (M : Int) ≤ (vc : Int) := by omega
  obtain ⟨sx, hsx⟩ : ∃ sx, sx = strOfNums (xs.take M) := ⟨_, rfl⟩
  have HSX : Hid (sx = strOfNums (xs.take M)) := hsx
  clear hM hbd q1 q2 q3 q4 q5 q6 q7 hit hx hsx
  have HPL : Hid (putL tg ys = []) := by
    unfold putL
    rw [if_neg]
    · rfl
    · intro h; exact hbad h
  have hcas : (tg % 32 == 31) = true ∨ ((tg % 32 == 31) = false ∧ decide ((65535 : Int) < (un : Int)) = true) := by
    by_cases h5 : tg % 32 = 31
    · exact .inl (by simpa using h5)
    · refine .inr ⟨by simpa using h5, ?_⟩
      have : ¬ ys.length ≤ 65535 := fun h => hbad ⟨h5, h⟩
      simp
      omega
  clear he ht hg hv hu hb hl hvn hun hsy hyb hyl
  clear hbad
  rcases hcas with dt | ⟨dt, dl⟩
  · go_enter Tryd.func4, Tryd.ntmps4
    go_wp2_with (go_at_call 9; refine (head_any _ HT.out).mono ?_)
    rintro e w1 ⟨rfl, hc1⟩
    have HN1 : Hid (Calls Tryd.prog 10 #[.slice vo vn vc, .int .i64 0] w1 fun e w' => ∃ v', e = .returned (.tuple #[.agg #[.int .u8 t, v', .int .i64 0, .int .i64 M], .int .i64 0]) ∧ ReadP w1 w' v' bd) := by
      have := next_ok _ xs HB.out 0 t r w1 (HV.out.chg hc1) (by rw [HX.out]; simp) HX.out HL.out HIT.out
      rw [← HM.out.1, ← HM.out.2.1] at this
      unfold itemV at this
      exact this
    have C1 : Hid (Chg Non w w1) := hc1
    clear hc1
    go_wp2_with (go_at_call 10; refine HN1.out.mono ?_)
    rintro e w2 ⟨v2, rfl, hv2⟩
    obtain ⟨ao2, n2, c2, rfl, -, -, -⟩ := hv2.own.rd.shape
    obtain ⟨w3, hw3⟩ : ∃ w3, w3 = w2.alloc (.cells #[.int .u8 t, .slice ao2 n2 c2, .int .i64 0, .int .i64 M] 25) := ⟨_, rfl⟩
    have H3 : Hid (Chg Non w2 w3) := by rw [hw3]; exact (Chg.refl _ _).alloc _
    have H3' : Hid (w3 = w2.alloc (.cells #[.int .u8 t, .slice ao2 n2 c2, .int .i64 0, .int .i64 M] 25)) := hw3
    have hc3 : w3.heap[w2.heap.size]? = some (.cells #[.int .u8 t, .slice ao2 n2 c2, .int .i64 0, .int .i64 M] 25) := by rw [hw3]; exact heap_alloc_last w2 _
    obtain ⟨y0, y1, -, -, -⟩ := cells4 hc3
    have HCI : Hid (∀ q, Chg Non w3 q → q.cell? ⟨w2.heap.size, 3, none⟩ = some (.int .i64 M)) := fun q hq => by
      obtain ⟨-, -, -, g3, -⟩ := cells4 (u := q) ((hq.block w2.heap.size (by rw [hw3]; simp) (fun x => x)).trans hc3)
      exact g3
    have C3 : Hid (Chg Non w w3) := (C1.out.two hv2.own.chg).two H3.out
    have HP4 : Hid (Calls Tryd.prog 15 #[.int .u8 t, .slice (some ⟨w3.heap.size, 0, none⟩) 1 1] (w3.alloc (.cells #[.slice ao2 n2 c2] 22)) fun e w' => ∃ v', e = .returned v' ∧ OwnN (w3.alloc (.cells #[.slice ao2 n2 c2] 22)) w' v' (xs.take M)) := by
      have := put_any t HM.out.2.2.1 HM.out.2.2.2.1 _ _ _ (PtR.one (hv2.own.rd.chg H3.out))
      rw [flat1, HM.out.2.2.2.2] at this
      exact this
    clear hv2 hw3 hc3
    go_upto_region 4 with fail
    rw [← H3'.out]
    go_wp2_with (go_at_call 15; refine HP4.out.mono ?_)
    rintro e w4 ⟨v4, rfl, hv4⟩
    have C34 : Hid (Chg Non w3 w4) := ((Chg.refl _ _).alloc _).two hv4.chg
    have HS4 : Hid (∀ q, Chg Non w4 q → (convert 22 9 v4).run Tryd.prog q = .ok (.string sx) q ∧ (convert 22 9 (.slice vo M vc)).run Tryd.prog q = .ok (.string sx) q) := fun q hq => by
      rw [HSX.out]
      exact ⟨run_str q _ _ (hv4.rd.chg hq), run_str q _ _ (take_rd (HV.out.chg ((C3.out.two C34.out).two hq)) M hMn)⟩
    obtain ⟨ao4, n4, c4, rfl, -, -, -⟩ := hv4.rd.shape
    have C4 : Hid (Chg Non w w4) := C3.out.two C34.out
    clear hv4 y0 y1
    go_upto_region 5 with fail
    go_cut [44] from 30 to 44 (fun v44 wc => v44 = .bool false ∧ Hid (Chg Non w4 wc))
    case first =>
      refine wp_region_noPanic ?_
      go_region_held3 (fun w' => w'.cell? ⟨w2.heap.size, 3, none⟩ = some (.int .i64 M) ∧ (convert 22 9 (.slice ao4 n4 c4)).run Tryd.prog w' = .ok (.string sx) w' ∧ (convert 22 9 (.slice vo M vc)).run Tryd.prog w' = .ok (.string sx) w')
        (exact ⟨HCI.out _ (C34.out.two (Chg.refl _ _).drew), HS4.out _ (Chg.refl _ _).drew⟩) (fail)
      refine NoPanic.normal ?_
      go_wp2_with fail
      go_meet
      exact ⟨by simp, (Chg.refl _ _).drew⟩
    case rest =>
    obtain ⟨rfl, hwc⟩ := hcut
    obtain ⟨w5, hw5⟩ : ∃ w5, w5 = wc := ⟨_, rfl⟩
    rw [← hw5] at hwc ⊢
    have C5 : Hid (Chg Non w w5) := C4.out.two hwc.out
    clear hw5 hwc HP4 HS4 HCI
    go_upto_region 7 with fail
    obtain ⟨w6, hw6⟩ : ∃ w6, w6 = w5.alloc (.cells #[.slice uo un uc] 22) := ⟨_, rfl⟩
    have hp7 : Calls Tryd.prog 15 #[.int .u8 tg, .slice (some ⟨w5.heap.size, 0, none⟩) 1 1] w6 fun e w' => ∃ v', e = .returned v' ∧ OwnN w6 w' v' [] := by
      rw [hw6]
      have := put_any tg h0 h1 _ _ _ (PtR.one (HU.out.chg C5.out))
      rw [flat1, HPL.out] at this
      exact this
    have HP7 : Hid (Calls Tryd.prog 15 #[.int .u8 tg, .slice (some ⟨w5.heap.size, 0, none⟩) 1 1] (w5.alloc (.cells #[.slice uo un uc] 22)) fun e w' => ∃ v', e = .returned v' ∧ OwnN w6 w' v' []) := by rw [← hw6]; exact hp7
    have C6 : Hid (Chg Non w w6) := by rw [hw6]; exact C5.out.alloc _
    clear hw6 hp7
    go_wp2_with (go_at_call 15; refine HP7.out.mono ?_)
    rintro e w7 ⟨v7, rfl, hv7⟩
    obtain ⟨ao7, c7, rfl, -⟩ := hv7.rd.empty
    have C7 : Hid (Chg Non w w7) := C6.out.two hv7.chg
    clear hv7
    go_wp2
    go_ret
    exact ⟨rfl, C7.out⟩
  · go_enter Tryd.func4, Tryd.ntmps4
    go_wp2_with (go_at_call 9; refine (head_any _ HT.out).mono ?_)
    rintro e w1 ⟨rfl, hc1⟩
    have HN1 : Hid (Calls Tryd.prog 10 #[.slice vo vn vc, .int .i64 0] w1 fun e w' => ∃ v', e = .returned (.tuple #[.agg #[.int .u8 t, v', .int .i64 0, .int .i64 M], .int .i64 0]) ∧ ReadP w1 w' v' bd) := by
      have := next_ok _ xs HB.out 0 t r w1 (HV.out.chg hc1) (by rw [HX.out]; simp) HX.out HL.out HIT.out
      rw [← HM.out.1, ← HM.out.2.1] at this
      unfold itemV at this
      exact this
    have C1 : Hid (Chg Non w w1) := hc1
    clear hc1
    go_wp2_with (go_at_call 10; refine HN1.out.mono ?_)
    rintro e w2 ⟨v2, rfl, hv2⟩
    obtain ⟨ao2, n2, c2, rfl, -, -, -⟩ := hv2.own.rd.shape
    obtain ⟨w3, hw3⟩ : ∃ w3, w3 = w2.alloc (.cells #[.int .u8 t, .slice ao2 n2 c2, .int .i64 0, .int .i64 M] 25) := ⟨_, rfl⟩
    have H3 : Hid (Chg Non w2 w3) := by rw [hw3]; exact (Chg.refl _ _).alloc _
    have H3' : Hid (w3 = w2.alloc (.cells #[.int .u8 t, .slice ao2 n2 c2, .int .i64 0, .int .i64 M] 25)) := hw3
    have hc3 : w3.heap[w2.heap.size]? = some (.cells #[.int .u8 t, .slice ao2 n2 c2, .int .i64 0, .int .i64 M] 25) := by rw [hw3]; exact heap_alloc_last w2 _
    obtain ⟨y0, y1, -, -, -⟩ := cells4 hc3
    have HCI : Hid (∀ q, Chg Non w3 q → q.cell? ⟨w2.heap.size, 3, none⟩ = some (.int .i64 M)) := fun q hq => by
      obtain ⟨-, -, -, g3, -⟩ := cells4 (u := q) ((hq.block w2.heap.size (by rw [hw3]; simp) (fun x => x)).trans hc3)
      exact g3
    have C3 : Hid (Chg Non w w3) := (C1.out.two hv2.own.chg).two H3.out
    have HP4 : Hid (Calls Tryd.prog 15 #[.int .u8 t, .slice (some ⟨w3.heap.size, 0, none⟩) 1 1] (w3.alloc (.cells #[.slice ao2 n2 c2] 22)) fun e w' => ∃ v', e = .returned v' ∧ OwnN (w3.alloc (.cells #[.slice ao2 n2 c2] 22)) w' v' (xs.take M)) := by
      have := put_any t HM.out.2.2.1 HM.out.2.2.2.1 _ _ _ (PtR.one (hv2.own.rd.chg H3.out))
      rw [flat1, HM.out.2.2.2.2] at this
      exact this
    clear hv2 hw3 hc3
    go_upto_region 4 with fail
    rw [← H3'.out]
    go_wp2_with (go_at_call 15; refine HP4.out.mono ?_)
    rintro e w4 ⟨v4, rfl, hv4⟩
    have C34 : Hid (Chg Non w3 w4) := ((Chg.refl _ _).alloc _).two hv4.chg
    have HS4 : Hid (∀ q, Chg Non w4 q → (convert 22 9 v4).run Tryd.prog q = .ok (.string sx) q ∧ (convert 22 9 (.slice vo M vc)).run Tryd.prog q = .ok (.string sx) q) := fun q hq => by
      rw [HSX.out]
      exact ⟨run_str q _ _ (hv4.rd.chg hq), run_str q _ _ (take_rd (HV.out.chg ((C3.out.two C34.out).two hq)) M hMn)⟩
    obtain ⟨ao4, n4, c4, rfl, -, -, -⟩ := hv4.rd.shape
    have C4 : Hid (Chg Non w w4) := C3.out.two C34.out
    clear hv4 y0 y1
    go_upto_region 5 with fail
    go_cut [44] from 30 to 44 (fun v44 wc => v44 = .bool false ∧ Hid (Chg Non w4 wc))
    case first =>
      refine wp_region_noPanic ?_
      go_region_held3 (fun w' => w'.cell? ⟨w2.heap.size, 3, none⟩ = some (.int .i64 M) ∧ (convert 22 9 (.slice ao4 n4 c4)).run Tryd.prog w' = .ok (.string sx) w' ∧ (convert 22 9 (.slice vo M vc)).run Tryd.prog w' = .ok (.string sx) w')
        (exact ⟨HCI.out _ (C34.out.two (Chg.refl _ _).drew), HS4.out _ (Chg.refl _ _).drew⟩) (fail)
      refine NoPanic.normal ?_
      go_wp2_with fail
      go_meet
      exact ⟨by simp, (Chg.refl _ _).drew⟩
    case rest =>
    obtain ⟨rfl, hwc⟩ := hcut
    obtain ⟨w5, hw5⟩ : ∃ w5, w5 = wc := ⟨_, rfl⟩
    rw [← hw5] at hwc ⊢
    have C5 : Hid (Chg Non w w5) := C4.out.two hwc.out
    clear hw5 hwc HP4 HS4 HCI
    go_upto_region 7 with fail
    obtain ⟨w6, hw6⟩ : ∃ w6, w6 = w5.alloc (.cells #[.slice uo un uc] 22) := ⟨_, rfl⟩
    have hp7 : Calls Tryd.prog 15 #[.int .u8 tg, .slice (some ⟨w5.heap.size, 0, none⟩) 1 1] w6 fun e w' => ∃ v', e = .returned v' ∧ OwnN w6 w' v' [] := by
      rw [hw6]
      have := put_any tg h0 h1 _ _ _ (PtR.one (HU.out.chg C5.out))
      rw [flat1, HPL.out] at this
      exact this
    have HP7 : Hid (Calls Tryd.prog 15 #[.int .u8 tg, .slice (some ⟨w5.heap.size, 0, none⟩) 1 1] (w5.alloc (.cells #[.slice uo un uc] 22)) fun e w' => ∃ v', e = .returned v' ∧ OwnN w6 w' v' []) := by rw [← hw6]; exact hp7
    have C6 : Hid (Chg Non w w6) := by rw [hw6]; exact C5.out.alloc _
    clear hw6 hp7
    go_wp2_with (go_at_call 15; refine HP7.out.mono ?_)
    rintro e w7 ⟨v7, rfl, hv7⟩
    obtain ⟨ao7, c7, rfl, -⟩ := hv7.rd.empty
    have C7 : Hid (Chg Non w w7) := C6.out.two hv7.chg
    clear hv7
    go_wp2
    go_ret
    exact ⟨rfl, C7.out⟩

set_option maxHeartbeats 8000000 in
theorem ow_ok_ok (v : Value) (xs : List Int) (tg : Int) (u : Value) (ys : List Int) (w : World) (ht : Tab w) (hg : ErrT w) (hv : Rd w v xs) (hb : Byt xs) (hl : xs.length ≤ 140737488355328) (h0 : 0 ≤ tg) (h1 : tg < 256) (hu : Rd w u ys) (hyb : Byt ys) (hyl : ys.length ≤ 140737488355328) (he : nxE xs 0 = 0) (hgood : tg % 32 ≠ 31 ∧ ys.length ≤ 65535) :
    Calls Tryd.prog 4 #[v, .int .u8 tg, u] w fun e w' => e = .returned (.bool true) ∧ Chg Non w w' := by
  obtain ⟨vo, vn, vc, rfl, hvn, hvnc, hvm⟩ := hv.shape
  obtain ⟨uo, un, uc, rfl, hun, hunc, hum⟩ := hu.shape
  have HT : Hid (Tab w) := ht
  have HG : Hid (ErrT w) := hg
  have HV : Hid (Rd w (.slice vo vn vc) xs) := hv
  have HU : Hid (Rd w (.slice uo un uc) ys) := hu
  have HB : Hid (Byt xs) := hb
  have HL : Hid (xs.length ≤ 140737488355328) := hl
  obtain ⟨sy, hsy⟩ : ∃ sy, sy = strOfNums ys := ⟨_, rfl⟩
  have HSY : Hid (sy = strOfNums ys) := hsy
  unfold maxLen at hvm hum
  obtain ⟨zs, hzs⟩ : ∃ zs, zs = encL tg ys := ⟨_, rfl⟩
  obtain ⟨t, r, hx⟩ : ∃ t r, xs = t :: r := by
    cases xs with
    | nil => simp [nxE] at he
    | cons t r => exact ⟨t, r, rfl⟩
  have hit : (itemL (t :: r)).1 = 0 := by
    unfold nxE at he
    by_cases h5 : (0 : Int) < 0 ∨ (xs.length : Int) ≤ 0
    · rw [if_pos h5] at he; simp at he
    · rw [if_neg h5, hx] at he; exact he
  obtain ⟨M, hM⟩ : ∃ M, M = 1 + (lenL r).2.1 + (lenL r).2.2 := ⟨_, rfl⟩
  obtain ⟨bd, hbd⟩ : ∃ bd, bd = (r.drop (lenL r).2.1).take (lenL r).2.2 := ⟨_, rfl⟩
  obtain ⟨q1, q2, q3, q4, q5, q6⟩ := itemL_ok (by rw [hx] at hb; exact hb.tail) hit
  have q7 := (lenL_ok (by rw [hx] at hb; exact hb.tail) q3).2.2.1
  have HX : Hid (xs = t :: r) := hx
  have HIT : Hid ((itemL (t :: r)).1 = 0) := hit
  have htb : 0 ≤ t ∧ t < 256 := by rw [hx] at hb; exact hb.head
  have HM : Hid (M = 1 + (lenL r).2.1 + (lenL r).2.2 ∧ bd = (r.drop (lenL r).2.1).take (lenL r).2.2 ∧ 0 ≤ t ∧ t < 256 ∧ putL t bd = xs.take M) := by
    refine ⟨hM, hbd, htb.1, htb.2, ?_⟩
    unfold putL
    rw [hbd, if_pos ⟨q1, by rw [q6]; exact q7⟩, hM, hx, q5]
  have hMn : M ≤ vn := by rw [hvn, hM, hx]; simp; omega
  have dM : decide ((vn : Int) < (M : Int)) = false := by simp; omega
  have dM2 : decide (vn < M) = false := by simp; omega
  have hMc : M ≤ vc := by omega
  have hMc2 : (M : Int) ≤ (vc : Int) := by omega
  obtain ⟨sx, hsx⟩ : ∃ sx, sx = strOfNums (xs.take M) := ⟨_, rfl⟩
  have HSX : Hid (sx = strOfNums (xs.take M)) := hsx
  clear hM hbd q1 q2 q3 q4 q5 q6 q7 hit hx hsx
  have HPL : Hid (putL tg ys = zs) := by
    unfold putL
    rw [if_pos hgood]
    exact hzs.symm
  have dt : (tg % 32 == 31) = false := by simpa using hgood.1
  have dl : decide ((65535 : Int) < (un : Int)) = false := by simp; omega
  obtain ⟨Z, hZz⟩ : ∃ Z, Z = zs.length := ⟨_, rfl⟩
  have hZ2 : 2 ≤ Z := by rw [hZz, hzs, encL_len, lenB_len]; split <;> (try split) <;> omega
  have hZ : Z ≤ 140737488355328 := by rw [hZz, hzs, encL_len, lenB_len]; split <;> (try split) <;> omega
  obtain ⟨Z1, hZ1⟩ : ∃ Z1, Z1 = Z - 1 := ⟨_, rfl⟩
  have hZ1' : Z = Z1 + 1 := by omega
  have HZ : Hid (zs ≠ [] ∧ Z = zs.length ∧ Byt zs ∧ zs = encL tg ys ∧ True) := ⟨by rw [hzs]; simp [encL], hZz, by rw [hzs]; exact encL_byt h0 h1 hyb hgood.2, hzs, trivial⟩
  have HER : Hid ((itemL (tg :: (lenB ys.length ++ ys))).1 = 0 ∧ ((lenB ys.length ++ ys).drop (lenL (lenB ys.length ++ ys)).2.1).take (lenL (lenB ys.length ++ ys)).2.2 = ys ∧ 1 + (lenL (lenB ys.length ++ ys)).2.1 + (lenL (lenB ys.length ++ ys)).2.2 = (encL tg ys).length) := enc_read tg ys hgood.1 hgood.2
  have HCUT : Hid (nxE (zs.take Z1) 0 = 141) := by
    have := nxE_cut tg ys hgood.1 hgood.2
    rw [← hzs, ← hZz] at this
    rw [hZ1]
    exact this
  have hz1 : ((Z : Int) - 1) = (Z1 : Int) := by omega
  have HZZ : Hid (Z = Z1 + 1) := hZ1'
  clear hzs hZz hZ1 hZ1'
  clear he ht hg hv hu hb hl hvn hun hsy hyb hyl
  clear hgood
  go_enter Tryd.func4, Tryd.ntmps4
  go_wp2_with (go_at_call 9; refine (head_any _ HT.out).mono ?_)
  rintro e w1 ⟨rfl, hc1⟩
  have HN1 : Hid (Calls Tryd.prog 10 #[.slice vo vn vc, .int .i64 0] w1 fun e w' => ∃ v', e = .returned (.tuple #[.agg #[.int .u8 t, v', .int .i64 0, .int .i64 M], .int .i64 0]) ∧ ReadP w1 w' v' bd) := by
    have := next_ok _ xs HB.out 0 t r w1 (HV.out.chg hc1) (by rw [HX.out]; simp) HX.out HL.out HIT.out
    rw [← HM.out.1, ← HM.out.2.1] at this
    unfold itemV at this
    exact this
  have C1 : Hid (Chg Non w w1) := hc1
  clear hc1
  go_wp2_with (go_at_call 10; refine HN1.out.mono ?_)
  rintro e w2 ⟨v2, rfl, hv2⟩
  obtain ⟨ao2, n2, c2, rfl, -, -, -⟩ := hv2.own.rd.shape
  obtain ⟨w3, hw3⟩ : ∃ w3, w3 = w2.alloc (.cells #[.int .u8 t, .slice ao2 n2 c2, .int .i64 0, .int .i64 M] 25) := ⟨_, rfl⟩
  have H3 : Hid (Chg Non w2 w3) := by rw [hw3]; exact (Chg.refl _ _).alloc _
  have H3' : Hid (w3 = w2.alloc (.cells #[.int .u8 t, .slice ao2 n2 c2, .int .i64 0, .int .i64 M] 25)) := hw3
  have hc3 : w3.heap[w2.heap.size]? = some (.cells #[.int .u8 t, .slice ao2 n2 c2, .int .i64 0, .int .i64 M] 25) := by rw [hw3]; exact heap_alloc_last w2 _
  obtain ⟨y0, y1, -, -, -⟩ := cells4 hc3
  have HCI : Hid (∀ q, Chg Non w3 q → q.cell? ⟨w2.heap.size, 3, none⟩ = some (.int .i64 M)) := fun q hq => by
    obtain ⟨-, -, -, g3, -⟩ := cells4 (u := q) ((hq.block w2.heap.size (by rw [hw3]; simp) (fun x => x)).trans hc3)
    exact g3
  have C3 : Hid (Chg Non w w3) := (C1.out.two hv2.own.chg).two H3.out
  have HP4 : Hid (Calls Tryd.prog 15 #[.int .u8 t, .slice (some ⟨w3.heap.size, 0, none⟩) 1 1] (w3.alloc (.cells #[.slice ao2 n2 c2] 22)) fun e w' => ∃ v', e = .returned v' ∧ OwnN (w3.alloc (.cells #[.slice ao2 n2 c2] 22)) w' v' (xs.take M)) := by
    have := put_any t HM.out.2.2.1 HM.out.2.2.2.1 _ _ _ (PtR.one (hv2.own.rd.chg H3.out))
    rw [flat1, HM.out.2.2.2.2] at this
    exact this
  clear hv2 hw3 hc3
  go_upto_region 4 with fail
  rw [← H3'.out]
  go_wp2_with (go_at_call 15; refine HP4.out.mono ?_)
  rintro e w4 ⟨v4, rfl, hv4⟩
  have C34 : Hid (Chg Non w3 w4) := ((Chg.refl _ _).alloc _).two hv4.chg
  have HS4 : Hid (∀ q, Chg Non w4 q → (convert 22 9 v4).run Tryd.prog q = .ok (.string sx) q ∧ (convert 22 9 (.slice vo M vc)).run Tryd.prog q = .ok (.string sx) q) := fun q hq => by
    rw [HSX.out]
    exact ⟨run_str q _ _ (hv4.rd.chg hq), run_str q _ _ (take_rd (HV.out.chg ((C3.out.two C34.out).two hq)) M hMn)⟩
  obtain ⟨ao4, n4, c4, rfl, -, -, -⟩ := hv4.rd.shape
  have C4 : Hid (Chg Non w w4) := C3.out.two C34.out
  clear hv4 y0 y1
  go_upto_region 5 with fail
  go_cut [44] from 30 to 44 (fun v44 wc => v44 = .bool false ∧ Hid (Chg Non w4 wc))
  case first =>
    refine wp_region_noPanic ?_
    go_region_held3 (fun w' => w'.cell? ⟨w2.heap.size, 3, none⟩ = some (.int .i64 M) ∧ (convert 22 9 (.slice ao4 n4 c4)).run Tryd.prog w' = .ok (.string sx) w' ∧ (convert 22 9 (.slice vo M vc)).run Tryd.prog w' = .ok (.string sx) w')
      (exact ⟨HCI.out _ (C34.out.two (Chg.refl _ _).drew), HS4.out _ (Chg.refl _ _).drew⟩) (fail)
    refine NoPanic.normal ?_
    go_wp2_with fail
    go_meet
    exact ⟨by simp, (Chg.refl _ _).drew⟩
  case rest =>
  obtain ⟨rfl, hwc⟩ := hcut
  obtain ⟨w5, hw5⟩ : ∃ w5, w5 = wc := ⟨_, rfl⟩
  rw [← hw5] at hwc ⊢
  have C5 : Hid (Chg Non w w5) := C4.out.two hwc.out
  clear hw5 hwc HP4 HS4 HCI
  go_upto_region 7 with fail
  obtain ⟨w6, hw6⟩ : ∃ w6, w6 = w5.alloc (.cells #[.slice uo un uc] 22) := ⟨_, rfl⟩
  have hp7 : Calls Tryd.prog 15 #[.int .u8 tg, .slice (some ⟨w5.heap.size, 0, none⟩) 1 1] w6 fun e w' => ∃ v', e = .returned v' ∧ OwnN w6 w' v' zs := by
    rw [hw6]
    have := put_any tg h0 h1 _ _ _ (PtR.one (HU.out.chg C5.out))
    rw [flat1, HPL.out] at this
    exact this
  have HP7 : Hid (Calls Tryd.prog 15 #[.int .u8 tg, .slice (some ⟨w5.heap.size, 0, none⟩) 1 1] (w5.alloc (.cells #[.slice uo un uc] 22)) fun e w' => ∃ v', e = .returned v' ∧ OwnN w6 w' v' zs) := by rw [← hw6]; exact hp7
  have C6 : Hid (Chg Non w w6) := by rw [hw6]; exact C5.out.alloc _
  clear hw6 hp7
  go_wp2_with (go_at_call 15; refine HP7.out.mono ?_)
  rintro e w7 ⟨v7, rfl, hv7⟩
  obtain ⟨b7, o7, c7, rfl, g1, g2, g3⟩ := hv7.rd.bs HZ.out.1
  rw [← HZ.out.2.1] at g1 ⊢
  have C7 : Hid (Chg Non w w7) := C6.out.two hv7.chg
  have HN7 : Hid (Calls Tryd.prog 10 #[.slice (some ⟨b7, o7, none⟩) Z c7, .int .i64 0] w7 fun e w' => ∃ v', e = .returned (.tuple #[.agg #[.int .u8 tg, v', .int .i64 0, .int .i64 Z], .int .i64 0]) ∧ ReadP w7 w' v' ys) := by
    have := next_ok (.slice (some ⟨b7, o7, none⟩) Z c7) zs HZ.out.2.2.1 0 tg (lenB ys.length ++ ys) w7 (g3.rd HZ.out.2.1 g1 g2) (List.length_pos_iff.2 HZ.out.1) (by rw [HZ.out.2.2.2.1]; rfl) (by rw [← HZ.out.2.1]; exact hZ) HER.out.1
    rw [HER.out.2.1, HER.out.2.2, ← HZ.out.2.2.2.1, ← HZ.out.2.1] at this
    unfold itemV at this
    exact this
  have HG7 : Hid (Bs w7 b7 o7 zs) := g3
  clear hv7 g3
  go_wp2_with (go_at_call 10; refine HN7.out.mono ?_)
  rintro e w8 ⟨v8, rfl, hv8⟩
  have k1 := fun (x : Obj) => run_str (w8.alloc x) v8 _ (hv8.own.rd.chg ((Chg.refl _ _).alloc _))
  have k2 := fun (x : Obj) => run_str (w8.alloc x) _ _ (HU.out.chg ((C7.out.two hv8.own.chg).alloc x))
  rw [← HSY.out] at k1 k2
  obtain ⟨ao8, n8, c8, rfl, -, -, -⟩ := hv8.own.rd.shape
  have C8 : Hid (Chg Non w w8) := C7.out.two hv8.own.chg
  have HN8 : Hid (∀ x, Calls Tryd.prog 10 #[.slice (some ⟨b7, o7, none⟩) Z1 c7, .int .i64 0] (w8.alloc x) fun e w' => e = .returned (.tuple #[.agg #[.int .u8 0, .slice none 0 0, .int .i64 0, .int .i64 0], .int .i64 141]) ∧ Chg Non (w8.alloc x) w') := fun x => by
    have h9 := HG7.out.chg (hv8.own.chg.alloc x)
    have := next_err (.slice (some ⟨b7, o7, none⟩) Z1 c7) (zs.take Z1) (HZ.out.2.2.1.take _) 0 (w8.alloc x) (HG.out.chg (C8.out.alloc x)) ((h9.take Z1).rd (by rw [List.length_take, ← HZ.out.2.1]; omega) (by omega) g2) (by rw [List.length_take]; omega) (by rw [HCUT.out]; decide)
    rw [HCUT.out] at this
    unfold itemV at this
    exact this
  clear hv8
  go_wp2_with (go_at_call 10; refine (HN8.out _).mono ?_; rintro e w9 ⟨rfl, hw9⟩)
  go_ret
  exact ⟨rfl, (C8.out.alloc _).two hw9 |>.alloc _⟩

theorem oneway_walk (v : Value) (xs : List Int) (tg : Int) (u : Value) (ys : List Int) (w : World) (ht : Tab w) (hg : ErrT w) (hv : Rd w v xs) (hb : Byt xs) (hl : xs.length ≤ 140737488355328) (h0 : 0 ≤ tg) (h1 : tg < 256) (hu : Rd w u ys) (hyb : Byt ys) (hyl : ys.length ≤ 140737488355328) :
    Calls Tryd.prog 4 #[v, .int .u8 tg, u] w fun e w' => e = .returned (.bool true) ∧ Chg Non w w' := by
  by_cases he : nxE xs 0 = 0
  · by_cases hc : tg % 32 ≠ 31 ∧ ys.length ≤ 65535
    · exact ow_ok_ok v xs tg u ys w ht hg hv hb hl h0 h1 hu hyb hyl he hc
    · exact ow_ok_no v xs tg u ys w ht hg hv hb hl h0 h1 hu hyb hyl he hc
  · by_cases hc : tg % 32 ≠ 31 ∧ ys.length ≤ 65535
    · exact ow_no_ok v xs tg u ys w ht hg hv hb hl h0 h1 hu hyb hyl he hc
    · exact ow_no_no v xs tg u ys w ht hg hv hb hl h0 h1 hu hyb hyl he hc
end Go.Proofs.YtnidfbcninkglaaDoor
