/-
  WireFrames, walked.
-/
import Derived.Test.YtdhckndehijemaaUg
import Derived.Test.YtdhckndehijemaaGw
namespace Go.Proofs.Ytdhckndehijemaa
open Go.RowKit
set_option linter.unusedVariables false
set_option maxRecDepth 100000

theorem eq29 (w : World) : (Op.equalIn 10000 29 (.agg rtA) (.agg rtA)).run Try.prog w = .ok true w := by kernel_rfl

theorem unf_join (t : Int) (body stream : List Int) (hl : body.length ≤ 16384) : unf (frB t body ++ stream) = (t, body, ((4 + body.length : Nat) : Int), 0) := by
  have hp : putD 3 (body.length : Int) = [0, (body.length : Int) / 256 % 256, (body.length : Int) % 256] := by
    have e : (body.length : Int) / 256 ^ 2 % 256 = 0 := by
      have : (256 : Int) ^ 2 = 65536 := rfl
      rw [this]
      omega
    simp only [putD, e]
    simp
  unfold frB
  rw [if_pos hl, hp]
  have hb : b3 ([t] ++ [0, (body.length : Int) / 256 % 256, (body.length : Int) % 256] ++ body ++ stream) = body.length := by
    simp [b3, dig]
    omega
  unfold unf
  rw [hb]
  rw [if_neg (by simp), if_neg (by omega), if_neg (by simp; omega)]
  simp

set_option maxHeartbeats 12800000 in
theorem frames_any (t : Int) (h0 : 0 ≤ t) (h1 : t < 256) (vb vs : Value) (body stream : List Int) (w : World) (hb : Rel .byt (Bel w.heap.size) w [vb] body) (hs : Rel .byt (Bel w.heap.size) w [vs] stream)
    (lb : body.length ≤ 140737488351232) (ls : stream.length ≤ 140737488351232) :
    Calls Try.prog 3 #[.int .u8 t, vb, vs] w fun e w' => e = .returned (.bool true) ∧ Chg Non w w' := by
  have HB : Hid (Rel .byt (Bel w.heap.size) w [vb] body ∧ body.length ≤ 140737488351232) := ⟨hb, lb⟩
  have HS : Hid (Rel .byt (Bel w.heap.size) w [vs] stream ∧ stream.length ≤ 140737488351232) := ⟨hs, ls⟩
  have HT : Hid (0 ≤ t ∧ t < 256) := ⟨h0, h1⟩
  obtain ⟨aob, nb, cb, rfl, hnb⟩ : ∃ ao n c, vb = .slice ao n c ∧ n = body.length := by
    obtain ⟨v', e, k, -⟩ := hb
    injection e with e
    subst e
    obtain ⟨ao, n, c, e, hn, -⟩ := k.shape
    exact ⟨ao, n, c, e, hn⟩
  obtain ⟨aos, ns, cs, rfl, hns⟩ : ∃ ao n c, vs = .slice ao n c ∧ n = stream.length := by
    obtain ⟨v', e, k, -⟩ := hs
    injection e with e
    subst e
    obtain ⟨ao, n, c, e, hn, -⟩ := k.shape
    exact ⟨ao, n, c, e, hn⟩
  have HNB : Hid (nb = body.length ∧ ns = stream.length) := ⟨hnb, hns⟩
  obtain ⟨T, hT⟩ : ∃ T, T = (unf stream).1 := ⟨_, rfl⟩
  obtain ⟨K, hK⟩ : ∃ K, K = (unf stream).2.2.1 := ⟨_, rfl⟩
  obtain ⟨A, hA⟩ : ∃ A, A = (unf stream).2.2.2 := ⟨_, rfl⟩
  obtain ⟨Bo, hBo⟩ : ∃ Bo, Bo = (unf stream).2.1 := ⟨_, rfl⟩
  have HU : Hid (T = (unf stream).1 ∧ K = (unf stream).2.2.1 ∧ A = (unf stream).2.2.2 ∧ Bo = (unf stream).2.1) := ⟨hT, hK, hA, hBo⟩
  have hh := head_any w
  clear hb hs lb ls h0 h1 hnb hns hT hK hA hBo
  go_enter Try.func3, Try.ntmps3
  go_wp2_with (go_at_call 10; refine hh.mono ?_)
  rintro e w1 ⟨rfl, c1⟩
  have old : ∀ {u : World} {v : Value} {x : List Int}, Rel .byt (Bel w.heap.size) w [v] x → Chg Non w u → Rel .byt (Bel u.heap.size) u [v] x := fun h c => (h.oldN c).bel2 c.size
  have C1 : Hid (Chg Non w w1) := c1
  have hf := frame_any t HT.out.1 HT.out.2 _ body w1 (old HB.out.1 c1)
  clear c1 hh
  go_wp2_with (go_at_call 11; refine hf.mono ?_)
  rintro e w2 ⟨vf, rfl, f2⟩
  obtain ⟨aof, nf, cf, rfl, hnf, -, -⟩ := f2.own.rd.shape
  have C2 : Hid (Chg Non w w2) := C1.out.two f2.chg
  have HF : Hid (FO (frB t body) w1 w2 (.slice aof nf cf) ∧ nf = (frB t body).length) := ⟨f2, hnf⟩
  have hu := unframe_any _ stream w2 (old HS.out.1 C2.out)
  clear f2 hf hnf
  go_wp2_with (go_at_call 12; refine hu.mono ?_)
  rintro e w3 ⟨vu, T', K', A', rfl, eT, eK, eA, f3⟩
  rw [← HU.out.1] at eT
  rw [← HU.out.2.1] at eK
  rw [← HU.out.2.2.1] at eA
  rw [← HU.out.2.2.2] at f3
  subst eT eK eA
  obtain ⟨aou, nu, cu, rfl, -, -, -⟩ := f3.own.rd.shape
  have C3 : Hid (Chg Non w w3) := C2.out.two f3.chg
  have H3 : Hid (FO Bo w2 w3 (.slice aou nu cu)) := f3
  have hr := runframe_any _ stream w3 (old HS.out.1 C3.out)
  clear f3 hu
  go_wp2_with (go_at_call 13; refine hr.mono ?_)
  rintro e w4 ⟨vr, T', K', A', rfl, eT, eK, eA, f4⟩
  rw [← HU.out.1] at eT
  rw [← HU.out.2.1] at eK
  rw [← HU.out.2.2.1] at eA
  rw [← HU.out.2.2.2] at f4
  subst eT eK eA
  obtain ⟨aor, nr, cr, rfl, -, -, -⟩ := f4.own.rd.shape
  have C4 : Hid (Chg Non w w4) := C3.out.two f4.chg
  have H4 : Hid (FO Bo w3 w4 (.slice aor nr cr)) := f4
  clear f4 hr
  by_cases hl : nb ≤ 16384
  · have d1 : decide ((nb : Int) ≤ 16384) = true := by simp; omega
    have HL : Hid (nb ≤ 16384) := hl
    clear hl
    have HRF : Hid (Rd (w4.alloc (.cells #[] 5)) (.slice aof nf cf) (frB t body)) := ((HF.out.1.own.chg (H3.out.chg.two H4.out.chg)).rd).chg ((Chg.refl _ _).alloc _)
    have hfl : (frB t body).length = 4 + body.length := by
      have h1 := HL.out
      rw [HNB.out.1] at h1
      unfold frB
      rw [if_pos h1, List.length_append, List.length_append, putD_len]
      simp
    have HNF : Hid (nf = 4 + body.length) := by show _ = _; rw [HF.out.2, hfl]
    have HLF : Hid (([] : List Int).length + (frB t body).length ≤ 140737488355328) := by
      show _ ≤ _
      rw [hfl]
      have h1 := HL.out
      rw [HNB.out.1] at h1
      simp
      omega
    have HLJ : Hid ((frB t body).length + stream.length ≤ 200000000000000) := by
      show _ ≤ _
      rw [hfl]
      have h1 := HL.out
      rw [HNB.out.1] at h1
      have := HS.out.2
      omega
    have HUJ : Hid (unf (frB t body ++ stream) = (t, body, ((4 + body.length : Nat) : Int), 0)) := unf_join t body stream (by rw [← HNB.out.1]; exact HL.out)
    have HBJ : Hid (Byt (frB t body ++ stream)) := by
      have b1 : Byt body := by obtain ⟨v', e, -, k, -⟩ := HB.out.1; exact k
      have b2 : Byt stream := by obtain ⟨v', e, -, k, -⟩ := HS.out.1; exact k
      unfold frB
      split
      · exact (((Byt.cons HT.out.1 HT.out.2 Byt.nil).append (putD_byt _ _)).append b1).append b2
      · exact Byt.nil.append b2
    clear hfl
    go_wp2_with (at_builtin; refine wpList_app _ rfl (.tmp 43) (.tmp 44) rfl _ _ [] (frB t body) rfl rfl (OwnV.empty w4) (HRF.out) (HLF.out) ?_)
    intro v5 w5 j1 j2 j3
    have H5 : Hid (OwnN w4 w5 v5 (frB t body)) := by
      have := (OwnN.start w4 w4 (Chg.refl _ _)).more j1 j2 (by rw [World.size_alloc]; exact j3)
      exact this
    have HRS : Hid (Rd w5 (.slice aos ns cs) stream) := by
      obtain ⟨v', e, k, -⟩ := HS.out.1.oldN (C4.out.two H5.out.chg)
      injection e with e
      subst e
      exact k
    obtain ⟨ao5, n5, c5, rfl, -, -, -⟩ := j1.rd.shape
    clear j1 j2 j3
    go_wp2_with (at_builtin; refine wpList_appW _ rfl (.tmp 45) (.tmp 46) rfl _ _ (frB t body) stream rfl rfl H5.out.own HRS.out (HLJ.out) ?_)
    intro v6 w6 j1 j2 j3
    have H6 : Hid (OwnN w4 w6 v6 (frB t body ++ stream)) := H5.out.more j1 j2 j3
    have hj : Rel .byt (Bel w6.heap.size) w6 [v6] (frB t body ++ stream) := ⟨_, rfl, j1.rd, HBJ.out, fun k e => j1.lt k e⟩
    have hu6 := unframe_any _ _ w6 hj
    obtain ⟨ao6, n6, c6, rfl, -, -, -⟩ := j1.rd.shape
    clear j1 j2 j3 hj
    go_wp2_with (go_at_call 12; refine hu6.mono ?_)
    rintro e w7 ⟨vd, T7, K7, A7, rfl, eT, eK, eA, f7⟩
    rw [HUJ.out] at eT eK eA f7
    dsimp only at eT eK eA f7
    have eT' := eT.symm
    have eA' := eA.symm
    subst eT' eA'
    obtain ⟨aod, nd, cd, rfl, -, -, -⟩ := f7.own.rd.shape
    have C7 : Hid (Chg Non w4 w7) := H6.out.chg.two f7.chg
    have hK7 : K7 = (nf : Int) := by rw [eK, HNF.out]
    subst hK7
    obtain ⟨sB, hsB⟩ : ∃ sB, sB = strOfNums body := ⟨_, rfl⟩
    have hc1 : (convert 23 9 (.slice aod nd cd)).run Try.prog w7 = .ok (.string sB) w7 := by rw [hsB]; exact run_str w7 _ _ f7.own.rd
    have hc2 : (convert 23 9 (.slice aob nb cb)).run Try.prog w7 = .ok (.string sB) w7 := by
      rw [hsB]
      obtain ⟨v', e, k, -⟩ := HB.out.1.oldN (C4.out.two C7.out)
      injection e with e
      subst e
      exact run_str w7 _ _ k
    clear f7 hu6 eK hsB
    obtain ⟨sF, hsF⟩ : ∃ sF, sF = strOfNums (frB t body) := ⟨_, rfl⟩
    obtain ⟨sU, hsU⟩ : ∃ sU, sU = strOfNums Bo := ⟨_, rfl⟩
    have HCV : Hid (∀ q, Chg Non w7 q → (convert 23 9 (.slice aof nf cf)).run Try.prog q = .ok (.string sF) q ∧ (convert 23 9 (.slice aou nu cu)).run Try.prog q = .ok (.string sU) q ∧ (convert 23 9 (.slice aor nr cr)).run Try.prog q = .ok (.string sU) q) := fun q hq => by
      rw [hsF, hsU]
      have g : Chg Non w4 q := C7.out.two hq
      exact ⟨run_str q _ _ ((HF.out.1.own.chg (H3.out.chg.two H4.out.chg)).chg g).rd, run_str q _ _ ((H3.out.own.chg H4.out.chg).chg g).rd, run_str q _ _ (H4.out.own.chg g).rd⟩
    have HFR : Hid (∀ q, Chg Non w7 q → Calls Try.prog 14 #[.int .u8 t, .slice aob nb cb] q fun e w' => ∃ zo zn zc, e = .returned (.slice zo zn zc) ∧ (∀ q', Chg Non w' q' → (convert 23 9 (.slice zo zn zc)).run Try.prog q' = .ok (.string sF) q') ∧ Chg Non q w') := fun q hq => by
      have g : Chg Non w4 q := C7.out.two hq
      refine (rframe_any t HT.out.1 HT.out.2 _ body q (old HB.out.1 (C4.out.two g))).mono ?_
      rintro e w' ⟨v', rfl, hO⟩
      obtain ⟨zo, zn, zc, rfl, -, -, -⟩ := hO.own.rd.shape
      exact ⟨_, _, _, rfl, fun q' hq' => by rw [hsF]; exact run_str q' _ _ (hO.own.chg hq').rd, hO.chg⟩
    have HEN : Hid (∀ q, Chg Non w7 q → Chg Non w q) := fun q hq => by
      have g : Chg Non w4 q := C7.out.two hq
      exact C4.out.two g
    have HE9 : Hid (∀ u, (Op.equalIn 10000 29 (.agg rtA) (.agg rtA)).run Try.prog u = .ok true u) := eq29
    obtain ⟨RA, hRA⟩ : ∃ RA, RA = rtA := ⟨_, rfl⟩
    have hq9 := HE9.out
    have hrt := fun u => retry_any u
    have hrr := fun u => rretry_any u
    rw [← hRA] at hq9
    simp only [← hRA] at hrt hrr
    clear hsF hsU hRA
    go_wp2_with fail
    go_region_held (fun q => (convert 23 9 (.slice aof nf cf)).run Try.prog q = .ok (.string sF) q ∧ (convert 23 9 (.slice aou nu cu)).run Try.prog q = .ok (.string sU) q ∧ (convert 23 9 (.slice aor nr cr)).run Try.prog q = .ok (.string sU) q) (first | exact HCV.out _ (Chg.refl _ _).drew | exact HCV.out _ hx3 | exact HCV.out _ hx2 | exact HCV.out _ hx1)
      (first | (go_at_call 14; refine (HFR.out _ (by first | exact (Chg.refl _ _).drew | exact hx2 | exact hx1)).mono ?_; rintro e x1 ⟨zo, zn, zc, rfl, hcv, hO⟩; have hx1 : Chg Non w7 x1 := Chg.two (by first | exact (Chg.refl _ _).drew) hO; have hcv1 := hcv x1 (Chg.refl _ _)) | (go_at_call 15; refine (hrt _).mono ?_; rintro e x2 ⟨rfl, hO2⟩; have hx2 : Chg Non w7 x2 := hx1.two hO2; have hcv2 := hcv x2 hO2) | (go_at_call 16; refine (hrr _).mono ?_; rintro e x3 ⟨rfl, hO3⟩; have hx3 : Chg Non w7 x3 := (by first | exact hx2.two hO3 | exact hx1.two hO3)))
    all_goals
      go_wp2
      go_ret
      exact ⟨rfl, HEN.out _ (by first | exact hx3 | exact hx2 | exact hx1)⟩
  · have d1 : decide ((nb : Int) ≤ 16384) = false := by simp; omega
    clear hl
    obtain ⟨sF, hsF⟩ : ∃ sF, sF = strOfNums (frB t body) := ⟨_, rfl⟩
    obtain ⟨sU, hsU⟩ : ∃ sU, sU = strOfNums Bo := ⟨_, rfl⟩
    have HCV : Hid (∀ q, Chg Non w4 q → (convert 23 9 (.slice aof nf cf)).run Try.prog q = .ok (.string sF) q ∧ (convert 23 9 (.slice aou nu cu)).run Try.prog q = .ok (.string sU) q ∧ (convert 23 9 (.slice aor nr cr)).run Try.prog q = .ok (.string sU) q) := fun q hq => by
      rw [hsF, hsU]
      have g : Chg Non w4 q := hq
      exact ⟨run_str q _ _ ((HF.out.1.own.chg (H3.out.chg.two H4.out.chg)).chg g).rd, run_str q _ _ ((H3.out.own.chg H4.out.chg).chg g).rd, run_str q _ _ (H4.out.own.chg g).rd⟩
    have HFR : Hid (∀ q, Chg Non w4 q → Calls Try.prog 14 #[.int .u8 t, .slice aob nb cb] q fun e w' => ∃ zo zn zc, e = .returned (.slice zo zn zc) ∧ (∀ q', Chg Non w' q' → (convert 23 9 (.slice zo zn zc)).run Try.prog q' = .ok (.string sF) q') ∧ Chg Non q w') := fun q hq => by
      have g : Chg Non w4 q := hq
      refine (rframe_any t HT.out.1 HT.out.2 _ body q (old HB.out.1 (C4.out.two g))).mono ?_
      rintro e w' ⟨v', rfl, hO⟩
      obtain ⟨zo, zn, zc, rfl, -, -, -⟩ := hO.own.rd.shape
      exact ⟨_, _, _, rfl, fun q' hq' => by rw [hsF]; exact run_str q' _ _ (hO.own.chg hq').rd, hO.chg⟩
    have HEN : Hid (∀ q, Chg Non w4 q → Chg Non w q) := fun q hq => by
      have g : Chg Non w4 q := hq
      exact C4.out.two g
    have HE9 : Hid (∀ u, (Op.equalIn 10000 29 (.agg rtA) (.agg rtA)).run Try.prog u = .ok true u) := eq29
    obtain ⟨RA, hRA⟩ : ∃ RA, RA = rtA := ⟨_, rfl⟩
    have hq9 := HE9.out
    have hrt := fun u => retry_any u
    have hrr := fun u => rretry_any u
    rw [← hRA] at hq9
    simp only [← hRA] at hrt hrr
    clear hsF hsU hRA
    go_wp2_with fail
    go_region_held (fun q => (convert 23 9 (.slice aof nf cf)).run Try.prog q = .ok (.string sF) q ∧ (convert 23 9 (.slice aou nu cu)).run Try.prog q = .ok (.string sU) q ∧ (convert 23 9 (.slice aor nr cr)).run Try.prog q = .ok (.string sU) q) (first | exact HCV.out _ (Chg.refl _ _).drew | exact HCV.out _ hx3 | exact HCV.out _ hx2 | exact HCV.out _ hx1)
      (first | (go_at_call 14; refine (HFR.out _ (by first | exact (Chg.refl _ _).drew | exact hx2 | exact hx1)).mono ?_; rintro e x1 ⟨zo, zn, zc, rfl, hcv, hO⟩; have hx1 : Chg Non w4 x1 := Chg.two (by first | exact (Chg.refl _ _).drew) hO; have hcv1 := hcv x1 (Chg.refl _ _)) | (go_at_call 15; refine (hrt _).mono ?_; rintro e x2 ⟨rfl, hO2⟩; have hx2 : Chg Non w4 x2 := hx1.two hO2; have hcv2 := hcv x2 hO2) | (go_at_call 16; refine (hrr _).mono ?_; rintro e x3 ⟨rfl, hO3⟩; have hx3 : Chg Non w4 x3 := (by first | exact hx2.two hO3 | exact hx1.two hO3)))
    all_goals
      go_wp2
      go_ret
      exact ⟨rfl, HEN.out _ (by first | exact hx3 | exact hx2 | exact hx1)⟩
end Go.Proofs.Ytdhckndehijemaa
