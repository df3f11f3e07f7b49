/-
  DerWrites walked.
-/
import Derived.Test.YtnidfbcninkglaaDoorWr
import Derived.Test.YtnidfbcninkglaaDoorWk
import Derived.Test.YtnidfbcninkglaaDoorWc
import Derived.Test.YtnidfbcninkglaaDoorHd
import Derived.Deep.RegionHeld3
namespace Go.Proofs.YtnidfbcninkglaaDoor
open Go.RowKit
set_option linter.unusedVariables false
set_option maxRecDepth 100000

theorem Rd.two {w : World} {v : Value} {x y : Int} {ys : List Int} (h : Rd w v (x :: y :: ys)) (hn : ys ≠ []) : ∃ b o c m, v = .slice (some ⟨b, o, none⟩) (m + 2) c ∧ 3 ≤ c ∧ m + 2 ≤ c ∧ c ≤ 9223372036854775807 ∧ 0 < m ∧ m = ys.length ∧ Rd w (.slice (some ⟨b, o + 2, none⟩) m (c - 2)) ys := by
  obtain ⟨b, o, c, e, h1, h2, h3⟩ := h.bs (by simp)
  have hp : 0 < ys.length := List.length_pos_iff.2 hn
  simp only [List.length_cons] at h1
  refine ⟨b, o, c, ys.length, e, by omega, by omega, h2, hp, rfl, ?_⟩
  exact (h3.drop 2).rd rfl (by omega) (by omega)
theorem flat_tk (xss : List (List Int)) (k : Nat) : (xss.take k).flatten.length ≤ xss.flatten.length := by
  have h : xss.flatten = (xss.take k).flatten ++ (xss.drop k).flatten := by rw [← List.flatten_append, List.take_append_drop]
  rw [h, List.length_append]
  omega
theorem flat_next {xss : List (List Int)} {k : Nat} {xs : List Int} (h : xss[k]? = some xs) : (xss.take (k + 1)).flatten = (xss.take k).flatten ++ xs := by
  rw [List.take_add_one, h]
  simp
/-- A result as the law looks at it. -/
def Tells (q w' : World) (e : Ending) (sx : ByteArray) : Prop := ∃ ao n c, e = .returned (.slice ao n c) ∧ (∀ q', Chg Non w' q' → (convert 22 9 (.slice ao n c)).run Tryd.prog q' = .ok (.string sx) q') ∧ Chg Non q w'
theorem Tells.of {q w' : World} {e : Ending} {xs : List Int} (h : ∃ v', e = .returned v' ∧ OwnN q w' v' xs) : Tells q w' e (strOfNums xs) := by
  obtain ⟨v', rfl, hO⟩ := h
  obtain ⟨ao, n, c, rfl, -, -, -⟩ := hO.rd.shape
  exact ⟨ao, n, c, rfl, fun q' hq => run_str q' _ _ (hO.rd.chg hq), hO.chg⟩

set_option maxHeartbeats 16000000 in
theorem writes_walk (v0 : Value) (xss : List (List Int)) (tag : Int) (t0 : 0 ≤ tag) (t1 : tag < 256) (s : ByteArray) (hs : s.size ≤ 140737488355328) (w : World) (hT : Tab w) (hE : ErrV w) (hv : PtR w v0 xss) (hb : ∀ xs ∈ xss, Byt xs) (hbulk : xss.flatten.length ≤ 1048576) :
    Calls Tryd.prog 7 #[v0, .int .u8 tag, .string s] w fun e w' => e = .returned (.bool true) ∧ Chg Non w w' := by
  have HH : Hid (Calls Tryd.prog 9 #[] w fun e w' => e = .returned (.bool true) ∧ Chg Non w w') := head_any w hT
  obtain ⟨po, T, pc, rfl, hTl, hTc, hTm, -⟩ := id hv
  have HV : Hid (PtR w (.slice po T pc) xss) := hv
  have HTL : Hid (T = xss.length) := hTl
  have HBU : Hid (xss.flatten.length ≤ 1048576) := hbulk
  have HBY : Hid (Byt xss.flatten) := fun x hx => by
    obtain ⟨l, hl, hx⟩ := List.mem_flatten.1 hx
    exact hb l hl x hx
  have HTT : Hid (Tab w) := hT
  have HEV : Hid (ErrV w) := hE
  have HS : Hid (s.size ≤ 140737488355328) := hs
  have HST : Hid (s.toList = s.data.toList) := Lib.toList_data s
  clear hv hTl hbulk hb hT hE hs
  go_enter Tryd.func7, Tryd.ntmps7
  go_wp2_with (go_at_call 9; refine HH.out.mono ?_)
  rintro e w1 ⟨rfl, c1⟩
  have C1 : Hid (Chg Non w w1) := c1
  have HI0 : Hid (OwnN w1 w1 (.slice none 0 0) ((xss.take 0).flatten)) := OwnN.nought w1
  clear c1
  go_wp2
  go_loopw [8, 9] (fun v i wr => ∃ (k : Nat), k ≤ T ∧ i = .int .i64 k ∧ Hid (OwnN w1 wr v (xss.take k).flatten)) (fun _ i _ => T - (intOf i).toNat)
  case atStart => exact ⟨0, Nat.zero_le _, rfl, HI0.out⟩
  case round =>
    obtain ⟨k, hk, rfl, hI⟩ := hrel
    obtain ⟨ao, n, c, hu, hn, -, -⟩ := hI.out.rd.shape
    subst hu
    have HN : Hid (n = (xss.take k).flatten.length) := hn
    clear hn
    by_cases hlt : k < T
    · obtain ⟨xs, hx⟩ : ∃ xs, xss[k]? = some xs := ⟨_, List.getElem?_eq_getElem (by rw [← HTL.out]; exact hlt)⟩
      have hvr := HV.out.chg (C1.out.two hI.out.chg)
      obtain ⟨po', T', pc', e', -, -, -, h4⟩ := hvr
      injection e' with e1 e2' e3'
      subst e1
      obtain ⟨b, o, hpo, h5⟩ := h4 (by intro e; rw [e] at hx; simp at hx)
      subst hpo
      obtain ⟨u, hu, hr⟩ := h5 k xs hx
      obtain ⟨uo, um, uc, rfl, hum, -, -⟩ := hr.shape
      have HR : Hid (Rd wr (.slice uo um uc) xs) := hr
      have HBD : Hid ((xss.take k).flatten.length + xs.length ≤ 140737488355328) := by
        have h1 := flat_tk xss (k + 1)
        have h2 := HBU.out
        rw [flat_next hx, List.length_append] at h1
        show _ ≤ _
        omega
      have HFN : Hid ((xss.take k).flatten ++ xs = (xss.take (k + 1)).flatten) := (flat_next hx).symm
      clear h4 h5 hr hum hx e2' e3'
      go_wp2_with (at_builtin; refine wpList_app _ rfl (.tmp 26) (.tmp 30) rfl _ _ (xss.take k).flatten xs rfl rfl hI.out.own HR.out HBD.out ?_)
      intro v' w2 g1 g2 g3
      have HO2 : Hid (OwnN w1 w2 v' (xss.take (k + 1)).flatten) := by
        have h := hI.out.more g1 g2 g3
        rw [HFN.out] at h
        exact h
      clear g1 g2 g3
      go_wp2
      go_roundw
      case rel => exact ⟨k + 1, by omega, by go_num, HO2.out⟩
      case measure => simp [intOf]; omega
    · have HZ : Hid ((xss.take k).flatten = xss.flatten) := by
        show _ = _
        rw [List.take_of_length_le (by rw [← HTL.out]; omega)]
      obtain ⟨zs, hzs⟩ : ∃ zs, zs = xss.flatten := ⟨_, rfl⟩
      have HO : Hid (OwnN w1 wr (.slice ao n c) zs) := by rw [hzs, ← HZ.out]; exact hI.out
      obtain ⟨wl, hwl⟩ : ∃ wl, wl = wr := ⟨_, rfl⟩
      subst hwl
      have CL : Hid (Chg Non w wl) := C1.out.two HO.out.chg
      obtain ⟨sx, hsx⟩ : ∃ sx, sx = strOfNums (putL tag zs) := ⟨_, rfl⟩
      have HP1 : Hid (∀ q, Chg Non wl q → Calls Tryd.prog 15 #[.int .u8 tag, .slice po T pc] q fun e w' => Tells q w' e sx) := fun q hq => by
        rw [hsx, hzs]
        exact (put_any tag t0 t1 _ _ q (HV.out.chg (CL.out.two hq))).mono fun e w' h => Tells.of h
      have HP2 : Hid (∀ q, Chg Non wl q → Calls Tryd.prog 30 #[.int .u8 tag, .slice ao n c] q fun e w' => Tells q w' e sx) := fun q hq => by
        rw [hsx]
        exact (rput_any tag t0 t1 _ _ q (HO.out.rd.chg hq)).mono fun e w' h => Tells.of h
      have HZB : Hid (Byt zs) := by rw [hzs]; exact HBY.out
      have HZL : Hid (zs.length ≤ 140737488355327) := by have := HBU.out; rw [← hzs] at this; show _ ≤ _; omega
      clear hI HZ hsx hzs HN
      go_upto_region 7 with fail
      go_cut [10] from 32 to 40 (fun v10 wc => v10 = .bool true ∧ Hid (Chg Non wl wc))
      case first =>
        refine wp_region_noPanic ?_
        go_region_held (fun q => True) (trivial)
          (first
            | (go_at_call 15; refine (HP1.out _ (by first | exact (Chg.refl _ _).drew | assumption)).mono ?_; rintro e w2 ⟨zo, zn, zc, rfl, hcv, hO2⟩; have hw2 : Chg Non wl w2 := Chg.two (by first | exact (Chg.refl _ _).drew | assumption) hO2; have hk1 := hcv w2 (Chg.refl _ _); try have hk2 := hcw w2 hO2)
            | (go_at_call 30; refine (HP2.out _ (by first | exact (Chg.refl _ _).drew | assumption)).mono ?_; rintro e w4 ⟨yo, yn, yc, rfl, hcw, hO4⟩; have hw4 : Chg Non wl w4 := Chg.two (by first | exact (Chg.refl _ _).drew | assumption) hO4; have hk3 := hcw w4 (Chg.refl _ _); try have hk4 := hcv w4 hO4))
        all_goals
          refine NoPanic.normal ?_
          go_wp2_with fail
          go_meet
          exact ⟨rfl, by assumption⟩
      obtain ⟨rfl, hwc⟩ := hcut
      obtain ⟨wa, hwa⟩ : ∃ wa, wa = wc := ⟨_, rfl⟩
      subst hwa
      have CA : Hid (Chg Non wl wa) := hwc.out
      have HN1 : Hid (Calls Tryd.prog 31 #[.slice ao n c] wa fun e w' => ∃ v', e = .returned v' ∧ OwnN wa w' v' (pnL zs)) := putNum_any _ zs HZB.out HZL.out wa (HO.out.rd.chg CA.out)
      clear hwc HP1 HP2
      go_wp2_with (go_at_call 31; refine HN1.out.mono ?_)
      rintro e wn ⟨vn, rfl, hN⟩
      have HN : Hid (OwnN wa wn vn (pnL zs)) := hN
      obtain ⟨no, nn, nc, rfl, hnn, -, -⟩ := hN.rd.shape
      have HNN : Hid (nn = (pnL zs).length) := hnn
      have CB : Hid (Chg Non wl wn) := CA.out.two hN.chg
      obtain ⟨sn, hsn⟩ : ∃ sn, sn = strOfNums (pnL zs) := ⟨_, rfl⟩
      have HP3 : Hid (∀ q, Chg Non wn q → Calls Tryd.prog 32 #[.slice ao n c] q fun e w' => Tells q w' e sn) := fun q hq => by
        rw [hsn]
        exact (rputNum_any _ zs HZB.out HZL.out q (HO.out.rd.chg (CB.out.two hq))).mono fun e w' h => Tells.of h
      have HCN : Hid (∀ q, Chg Non wn q → (convert 22 9 (.slice no nn nc)).run Tryd.prog q = .ok (.string sn) q) := fun q hq => by
        rw [hsn]
        exact run_str q _ _ (HN.out.rd.chg hq)
      clear hN hnn hsn HN1
      go_upto_region 9 with fail
      go_cut [12] from 43 to 48 (fun v12 wc => v12 = .bool true ∧ Hid (Chg Non wn wc))
      case first =>
        refine wp_region_noPanic ?_
        go_region_held (fun q => (convert 22 9 (.slice no nn nc)).run Tryd.prog q = .ok (.string sn) q) (first | exact HCN.out _ (Chg.refl _ _).drew | exact HCN.out _ hw4)
          (first | (go_at_call 32; refine (HP3.out _ (by first | exact (Chg.refl _ _).drew | assumption)).mono ?_; rintro e w4 ⟨yo, yn, yc, rfl, hcw, hO4⟩; have hw4 : Chg Non wn w4 := Chg.two (by first | exact (Chg.refl _ _).drew | assumption) hO4; have hk3 := hcw w4 (Chg.refl _ _)))
        all_goals
          refine NoPanic.normal ?_
          go_wp2_with fail
          go_meet
          exact ⟨rfl, by assumption⟩
      obtain ⟨rfl, hwc⟩ := hcut
      obtain ⟨wb, hwb⟩ : ∃ wb, wb = wc := ⟨_, rfl⟩
      subst hwb
      have CC : Hid (Chg Non w wb) := CL.out.two (CB.out.two hwc.out)
      have HN2 : Hid (Rd wb (.slice no nn nc) (pnL zs)) := HN.out.rd.chg hwc.out
      have HO1 : Hid (Calls Tryd.prog 33 #[.string s] wb fun e w' => ∃ v', e = .returned v' ∧ OwnN wb w' v' (poP s.data.toList)) := putOID_any s HS.out wb (HEV.out.chg CC.out) (HTT.out.non CC.out)
      clear hwc HP3 HCN HN
      go_wp2_with (go_at_call 33; refine HO1.out.mono ?_)
      rintro e wo ⟨vo, rfl, hO3⟩
      have HOO : Hid (OwnN wb wo vo (poP s.data.toList)) := hO3
      obtain ⟨oo, on, oc, rfl, hon, -, -⟩ := hO3.rd.shape
      have HON : Hid (on = (poP s.data.toList).length) := hon
      obtain ⟨so, hso⟩ : ∃ so, so = strOfNums (poP s.data.toList) := ⟨_, rfl⟩
      have HP4 : Hid (∀ q, Chg Non wo q → Calls Tryd.prog 34 #[.string s] q fun e w' => Tells q w' e so) := fun q hq => by
        rw [hso, po_same]
        exact (rputOID_any s HS.out q).mono fun e w' h => Tells.of h
      have HCO : Hid (∀ q, Chg Non wo q → (convert 22 9 (.slice oo on oc)).run Tryd.prog q = .ok (.string so) q) := fun q hq => by
        rw [hso]
        exact run_str q _ _ (HOO.out.rd.chg hq)
      clear hO3 hon hso HO1
      go_upto_region 11 with fail
      go_cut [14] from 51 to 56 (fun v14 wc => v14 = .bool true ∧ Hid (Chg Non wo wc))
      case first =>
        refine wp_region_noPanic ?_
        go_region_held (fun q => (convert 22 9 (.slice oo on oc)).run Tryd.prog q = .ok (.string so) q) (first | exact HCO.out _ (Chg.refl _ _).drew | exact HCO.out _ hw4)
          (first | (go_at_call 34; refine (HP4.out _ (by first | exact (Chg.refl _ _).drew | assumption)).mono ?_; rintro e w4 ⟨yo, yn, yc, rfl, hcw, hO4⟩; have hw4 : Chg Non wo w4 := Chg.two (by first | exact (Chg.refl _ _).drew | assumption) hO4; have hk3 := hcw w4 (Chg.refl _ _)))
        all_goals
          refine NoPanic.normal ?_
          go_wp2_with fail
          go_meet
          exact ⟨rfl, by assumption⟩
      obtain ⟨rfl, hwc⟩ := hcut
      obtain ⟨wd, hwd⟩ : ∃ wd, wd = wc := ⟨_, rfl⟩
      subst hwd
      have CD : Hid (Chg Non w wd) := CC.out.two (HOO.out.chg.two hwc.out)
      have HN3 : Hid (Rd wd (.slice no nn nc) (pnL zs)) := HN2.out.chg (HOO.out.chg.two hwc.out)
      have HO3 : Hid (Rd wd (.slice oo on oc) (poP s.data.toList)) := HOO.out.rd.chg hwc.out
      clear hwc HP4 HCO HOO HN2 CC CB CA CL
      obtain ⟨pl, hpl⟩ : ∃ pl, pl = pnL zs := ⟨_, rfl⟩
      rw [← hpl] at HN3 HNN
      obtain ⟨ol, hol⟩ : ∃ ol, ol = poP s.data.toList := ⟨_, rfl⟩
      rw [← hol] at HO3 HON
      have HX : ol = [] ∨ ∃ L ys, ol = 6 :: L :: ys ∧ Byt ys ∧ ys ≠ [] ∧ ys.length ≤ 102 ∧ oidE ys = 0 ∧ oidS ys = s.data.toList := by
        by_cases h : ol = []
        · exact .inl h
        · rw [hol] at h ⊢
          exact .inr (poP_body h)
      have HY : pl = [] ∨ ∃ L ys, pl = 2 :: L :: ys ∧ Byt ys ∧ numE ys = 0 ∧ ys ≠ [] ∧ ys.length ≤ 33 ∧ ∃ z r, numR ys = z :: r ∧ r.length ≤ 33 ∧ (r ≠ [] → z ≠ 0) := by
        by_cases h : pl = []
        · exact .inl h
        · rw [hpl] at h ⊢
          exact .inr (pnL_is HZB.out h)
      clear hpl hol
      -- the number's part, from whatever world
      have HNUM : Hid (∀ q, Chg Non wd q → pl ≠ [] → ∃ b o c m, (Value.slice no nn nc) = .slice (some ⟨b, o, none⟩) (m + 2) c ∧ 3 ≤ c ∧ m + 2 ≤ c ∧ c ≤ 9223372036854775807 ∧ 0 < m ∧
          Calls Tryd.prog 16 #[.slice (some ⟨b, o + 2, none⟩) m (c - 2)] q fun e w' => ∃ g p k M z, e = .returned (.tuple #[.slice (some ⟨g, p, none⟩) (M + 1) k, .int .i64 0]) ∧ M ≤ 33 ∧ M + 1 ≤ k ∧ k ≤ 9223372036854775807 ∧ w'.cell? ⟨g, p, none⟩ = some (.int .u8 z) ∧ (0 < M → z ≠ 0) ∧ Chg Non q w') := fun q hq hne => by
        rcases HY with h | ⟨L, ys, e1, e2, e3, e4, e5, z, r, e6, e7, e8⟩
        · exact absurd h hne
        · have hr := HN3.out
          rw [e1] at hr
          obtain ⟨b, o, c, m, g1, g2, g3, g4, g5, g6, g7⟩ := hr.two e4
          refine ⟨b, o, c, m, g1, g2, g3, g4, g5, ?_⟩
          have hnum := num_any _ ys e2 q (g7.chg hq)
          rw [e3, e6] at hnum
          refine hnum.mono ?_
          rintro e w' ⟨v', rfl, hO⟩
          obtain ⟨g, p, k, rfl, k1, k2, k3⟩ := hO.rd.bs (by simp)
          exact ⟨g, p, k, r.length, z, rfl, e7, by simpa using k1, k2, k3.at0, fun h => e8 (by intro e; rw [e] at h; simp at h), hO.chg⟩
      have HOID : Hid (∀ q, Chg Non wd q → ol ≠ [] → ∃ b o c m S, (Value.slice oo on oc) = .slice (some ⟨b, o, none⟩) (m + 2) c ∧ 3 ≤ c ∧ m + 2 ≤ c ∧ c ≤ 9223372036854775807 ∧ 0 < m ∧ (S.toList == s.toList) = true ∧
          Calls Tryd.prog 24 #[.slice (some ⟨b, o + 2, none⟩) m (c - 2)] q fun e w' => e = .returned (.tuple #[.string S, .int .i64 0]) ∧ Chg Non q w') := fun q hq hne => by
        rcases HX with h | ⟨L, ys, e1, e2, e3, e4, e5, e6⟩
        · exact absurd h hne
        · have hr := HO3.out
          rw [e1] at hr
          obtain ⟨b, o, c, m, g1, g2, g3, g4, g5, g6, g7⟩ := hr.two e3
          refine ⟨b, o, c, m, bs (oidS ys), g1, g2, g3, g4, g5, by rw [bs_list, e6, HST.out]; simp, ?_⟩
          have hoid := oid_any _ ys e2 q (g7.chg hq) (HTT.out.non (CD.out.two hq))
          rw [e5] at hoid
          exact hoid
      have HLN : Hid (pl = [] → nn = 0) := fun h => by rw [HNN.out, h]; rfl
      have HLO : Hid (ol = [] → on = 0) := fun h => by rw [HON.out, h]; rfl
      clear HX HY
      by_cases ho : ol = []
      · have h0 := HLO.out ho
        subst h0
        clear ho
        by_cases hp : pl = []
        · have h0 := HLN.out hp
          subst h0
          clear hp HNUM HOID HLN HLO HNN HON HN3 HO3
          go_wp2
          go_ret
          exact ⟨rfl, CD.out⟩
        · obtain ⟨b, o, c', m, e, g1, g2, g3, g4, hnm⟩ := HNUM.out wd (Chg.refl _ _) hp
          injection e with e1 e2 e3
          subst e1 e2 e3
          have g5 : ¬ nc = 2 := by omega
          have HNM : Hid (Calls Tryd.prog 16 #[.slice (some ⟨b, o + 2, none⟩) m (nc - 2)] wd fun e w' => ∃ g p k M z, e = .returned (.tuple #[.slice (some ⟨g, p, none⟩) (M + 1) k, .int .i64 0]) ∧ M ≤ 33 ∧ M + 1 ≤ k ∧ k ≤ 9223372036854775807 ∧ w'.cell? ⟨g, p, none⟩ = some (.int .u8 z) ∧ (0 < M → z ≠ 0) ∧ Chg Non wd w') := hnm
          clear hnm hp HNUM HOID HLN HLO HNN HON HN3 HO3
          go_wp2_with (go_at_call 16; refine HNM.out.mono ?_)
          rintro e w5 ⟨g, p, k5, M, z, rfl, h1, h2, h3, h4, h5, c5⟩
          have C5 : Hid (Chg Non w w5) := (CD.out).two c5
          clear c5 HNM
          by_cases hM : M = 0
          · subst hM
            clear h5
            go_wp2
            go_ret
            exact ⟨rfl, C5.out⟩
          · have dz : (z == 0) = false := by simpa using h5 (by omega)
            have hM1 : 0 < M := by omega
            clear h5
            go_wp2
            go_ret
            exact ⟨rfl, C5.out⟩
      · obtain ⟨b2, o2, c2', m2, S, e, g1, g2, g3, g4, hss, hno⟩ := HOID.out wd (Chg.refl _ _) ho
        injection e with e1 e2 e3
        subst e1 e2 e3
        have g5' : ¬ oc = 2 := by omega
        have HNO : Hid (Calls Tryd.prog 24 #[.slice (some ⟨b2, o2 + 2, none⟩) m2 (oc - 2)] wd fun e w' => e = .returned (.tuple #[.string S, .int .i64 0]) ∧ Chg Non wd w') := hno
        clear hno ho
        go_wp2_with (go_at_call 24; refine HNO.out.mono ?_)
        rintro e w2 ⟨rfl, c2⟩
        have C2 : Hid (Chg Non wd w2) := c2
        clear c2 HNO
        by_cases hp : pl = []
        · have h0 := HLN.out hp
          subst h0
          clear hp HNUM HOID HLN HLO HNN HON HN3 HO3
          go_wp2
          go_ret
          exact ⟨rfl, (CD.out.two C2.out)⟩
        · obtain ⟨b, o, c', m, e, g1, g2, g3, g4, hnm⟩ := HNUM.out w2 (C2.out) hp
          injection e with e1 e2 e3
          subst e1 e2 e3
          have g5 : ¬ nc = 2 := by omega
          have HNM : Hid (Calls Tryd.prog 16 #[.slice (some ⟨b, o + 2, none⟩) m (nc - 2)] w2 fun e w' => ∃ g p k M z, e = .returned (.tuple #[.slice (some ⟨g, p, none⟩) (M + 1) k, .int .i64 0]) ∧ M ≤ 33 ∧ M + 1 ≤ k ∧ k ≤ 9223372036854775807 ∧ w'.cell? ⟨g, p, none⟩ = some (.int .u8 z) ∧ (0 < M → z ≠ 0) ∧ Chg Non w2 w') := hnm
          clear hnm hp HNUM HOID HLN HLO HNN HON HN3 HO3
          go_wp2_with (go_at_call 16; refine HNM.out.mono ?_)
          rintro e w5 ⟨g, p, k5, M, z, rfl, h1, h2, h3, h4, h5, c5⟩
          have C5 : Hid (Chg Non w w5) := ((CD.out.two C2.out)).two c5
          clear c5 HNM
          by_cases hM : M = 0
          · subst hM
            clear h5
            go_wp2
            go_ret
            exact ⟨rfl, C5.out⟩
          · have dz : (z == 0) = false := by simpa using h5 (by omega)
            have hM1 : 0 < M := by omega
            clear h5
            go_wp2
            go_ret
            exact ⟨rfl, C5.out⟩
end Go.Proofs.YtnidfbcninkglaaDoor
