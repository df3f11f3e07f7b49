/-
  What is a host, and which hosts are one of a pattern: the document's.
-/
import Derived.Test.YtbbopehpmnebiaaGreatDoorHo
import Derived.Test.YtbbopehpmnebiaaGreatDoorRl
import Derived.Test.YtbbopehpmnebiaaGreatDoorRs
import Derived.Deep.RegionHeld3
namespace Go.Proofs.YtbbopehpmnebiaaGreatDoor
open Go.RowKit Go.Shelf
set_option linter.unusedVariables false
set_option maxRecDepth 100000

set_option maxHeartbeats 2000000 in
theorem rHost_any (s : ByteArray) (w : World) : Calls Tryz.prog 6 #[.string s] w fun e w' => e = .returned (.bool (decide (0 < cnt s.data.toList))) ∧ w' = w := by
  obtain ⟨C, hC⟩ : ∃ C, C = cnt s.data.toList := ⟨_, rfl⟩
  have HL : Hid (Calls Tryz.prog 11 #[.string s] w fun e w' => e = .returned (.int .i64 C) ∧ w' = w) := by rw [hC]; exact rlabels_any s w
  rw [← hC]
  clear hC
  go_enter Tryz.func6, Tryz.ntmps6
  go_wp2_with (go_at_call 11; refine HL.out.mono ?_; rintro e w1 ⟨rfl, rfl⟩)
  go_ret
  exact ⟨ret_bool (by simp), rfl⟩

theorem star_iff (p : ByteArray) : (2 ≤ p.size ∧ ((p.extract 0 2).toList == [42, 46]) = true) ↔ ∃ u, p.data.toList = 42 :: 46 :: u := by
  constructor
  · rintro ⟨h1, h2⟩
    have h3 : (p.extract 0 2).toList = [42, 46] := by simpa using h2
    rw [Lib.extract_toList] at h3
    simp at h3
    refine ⟨p.data.toList.drop 2, ?_⟩
    have := List.take_append_drop 2 p.data.toList
    rw [h3] at this
    exact this.symm
  · rintro ⟨u, hu⟩
    refine ⟨by rw [Lib.size_eq, hu]; simp, ?_⟩
    rw [Lib.extract_toList, hu]
    rfl

set_option maxHeartbeats 8000000 in
theorem rMatches_any (p n : ByteArray) (w : World) (hp : p.size ≤ 140737488355328) : Calls Tryz.prog 8 #[.string p, .string n] w fun e w' => e = .returned (.bool (mat p.data.toList n.data.toList)) ∧ Chg Non w w' := by
  have HLN : Hid (∀ q, Calls Tryz.prog 11 #[.string n] q fun e w' => e = .returned (.int .i64 (cnt n.data.toList)) ∧ w' = q) := fun q => rlabels_any n q
  have HLP : Hid (∀ q, Calls Tryz.prog 11 #[.string p] q fun e w' => e = .returned (.int .i64 (cnt p.data.toList)) ∧ w' = q) := fun q => rlabels_any p q
  by_cases h1 : cnt n.data.toList = 0
  · rw [mat_no h1]
    rw [h1] at HLN
    clear h1
    go_enter Tryz.func8, Tryz.ntmps8
    go_wp2_with (go_at_call 11; refine (HLN.out _).mono ?_; rintro e w1 ⟨rfl, rfl⟩)
    go_ret
    exact ⟨rfl, Chg.refl _ _⟩
  · have h1' : 0 < cnt n.data.toList := by omega
    have hn := host_ascii h1'
    obtain ⟨CN, hCN⟩ : ∃ CN, CN = cnt n.data.toList := ⟨_, rfl⟩
    rw [← hCN] at HLN
    have hCN0 : 0 < CN := by omega
    have hCNz : ((CN : Int) == 0) = false := by simp; omega
    by_cases h2 : 0 < cnt p.data.toList
    · have hns : ∀ u, p.data.toList ≠ 42 :: 46 :: u := fun u e => by rw [e, cnt_star] at h2; omega
      rw [mat_plain h1' hns, show decide (0 < cnt p.data.toList) = true by simpa using h2, Bool.true_and]
      have HSP : Hid (∀ q, Calls Tryz.prog 15 #[.string p] q fun e w' => e = .returned (.string ⟨(low p.data.toList).toArray⟩) ∧ Chg Non q w') := fun q => small_any p q hp
      have HSN : Hid (∀ q, Calls Tryz.prog 15 #[.string n] q fun e w' => e = .returned (.string ⟨(low n.data.toList).toArray⟩) ∧ Chg Non q w') := fun q => small_any n q (by omega)
      obtain ⟨RA, hRA⟩ : ∃ RA : ByteArray, RA = ⟨(low p.data.toList).toArray⟩ := ⟨_, rfl⟩
      obtain ⟨RB, hRB⟩ : ∃ RB : ByteArray, RB = ⟨(low n.data.toList).toArray⟩ := ⟨_, rfl⟩
      obtain ⟨q, hq⟩ : ∃ q, q = (low p.data.toList == low n.data.toList) := ⟨_, rfl⟩
      rw [← hRA] at HSP
      rw [← hRB] at HSN
      rw [← hq]
      have hE : (RA.toList == RB.toList) = q := by rw [hRA, hRB, str_eq, hq]
      obtain ⟨CP, hCP⟩ : ∃ CP, CP = cnt p.data.toList := ⟨_, rfl⟩
      rw [← hCP] at HLP h2
      clear hRA hRB hq hn hns h1 h1' hCN hCP
      go_enter Tryz.func8, Tryz.ntmps8
      go_wp2_with (first | (go_at_call 11; first | (refine (HLN.out _).mono ?_; rintro e w1 ⟨rfl, hw⟩; rw [hw]; clear HLN hw) | (refine (HLP.out _).mono ?_; rintro e w1 ⟨rfl, hw⟩; rw [hw]; clear HLP hw)) | (go_at_call 15; refine (HSP.out _).mono ?_))
      rintro e w1 ⟨rfl, hc1⟩
      have C1 : Hid (Chg Non w w1) := hc1
      clear hc1
      go_wp2_with (go_at_call 15; refine (HSN.out _).mono ?_)
      rintro e w2 ⟨rfl, hc2⟩
      have C2 : Hid (Chg Non w w2) := C1.out.trans hc2 (fun _ _ x => x)
      clear hc2
      go_wp2
      go_ret
      exact ⟨rfl, C2.out⟩
    · have h2' : cnt p.data.toList = 0 := by omega
      rw [h2'] at HLP
      by_cases hst : ∃ u, p.data.toList = 42 :: 46 :: u
      · obtain ⟨u, hu⟩ := hst
        rw [hu, mat_star h1']
        obtain ⟨hz, hpre⟩ := (star_iff p).2 ⟨u, hu⟩
        have hps : p.size = 2 + u.length := by rw [Lib.size_eq, hu]; simp; omega
        obtain ⟨U, hU⟩ : ∃ U : ByteArray, U = p.extract 2 p.size := ⟨_, rfl⟩
        have hUl : U.data.toList = u := by rw [hU, Lib.extract_to_end, hu]; rfl
        have HLU : Hid (∀ q, Calls Tryz.prog 11 #[.string (p.extract 2 p.size)] q fun e w' => e = .returned (.int .i64 (cnt u)) ∧ w' = q) := fun q => by rw [← hU]; have := rlabels_any U q; rw [hUl] at this; exact this
        obtain ⟨CU, hCU⟩ : ∃ CU, CU = cnt u := ⟨_, rfl⟩
        rw [← hCU] at HLU
        by_cases h3 : 2 ≤ cnt u
        · rw [show decide (2 ≤ cnt u) = true by simpa using h3, Bool.true_and]
          rw [← hCU] at h3
          obtain ⟨RU, hRU⟩ : ∃ RU : ByteArray, RU = ⟨(low u).toArray⟩ := ⟨_, rfl⟩
          have HSU : Hid (∀ q, Chg Non w q → Calls Tryz.prog 15 #[.string (p.extract 2 p.size)] q fun e w' => e = .returned (.string RU) ∧ Chg Non w w') := fun q hq => by
            have h := small_any U q (by rw [Lib.size_eq, hUl]; omega)
            rw [hUl, ← hRU, hU] at h
            refine h.mono ?_
            rintro e w' ⟨rfl, hc⟩
            exact ⟨rfl, hq.trans hc (fun _ _ x => x)⟩
          obtain ⟨Z, hZ⟩ : ∃ Z, Z = (low u == low (aft n.data.toList)) := ⟨_, rfl⟩
          rw [← hZ]
          have HZ : Hid (Z = (low u == low (aft n.data.toList)) ∧ RU = ⟨(low u).toArray⟩ ∧ u ≠ []) := ⟨hZ, hRU, by rintro rfl; simp [cnt, spl, isLab] at hCU; omega⟩
          have HNS : Hid (n.size = n.data.toList.length) := Lib.size_eq n
          have HUP : Hid ((p.extract 2 p.size).data.toList = u) := by rw [← hU]; exact hUl
          have hns : n.size ≤ 1000 := hn.1
          have hpre2 : (!((p.extract 0 2).toList == [42, 46])) = false := by rw [hpre]; rfl
          clear hRU hZ hU hUl hu hCU hn h1 h1' h2 h2' hCN hps
          go_enter Tryz.func8, Tryz.ntmps8
          go_wp2_with (first | (go_at_call 11; first | (refine (HLN.out _).mono ?_; rintro e w1 ⟨rfl, hw⟩; rw [hw]; clear HLN hw) | (refine (HLP.out _).mono ?_; rintro e w1 ⟨rfl, hw⟩; rw [hw]; clear HLP hw) | (refine (HLU.out _).mono ?_; rintro e w1 ⟨rfl, hw⟩; rw [hw]; clear HLU hw)))
          go_loopw [5] (fun i wr => ∃ k : Nat, k ≤ n.size ∧ i = .int .i64 k ∧ wr = w ∧ Hid (∀ b ∈ n.data.toList.take k, b ≠ 46)) (fun i _ => n.size - (intOf i).toNat)
          case atStart => exact ⟨0, Nat.zero_le _, rfl, rfl, fun b hb => by simp at hb⟩
          case round =>
            obtain ⟨k, hk, rfl, rfl, hS⟩ := hrel
            by_cases hlt : k < n.size
            · have GK : Hid (n.data.toList[k]? = some (n[k]'hlt)) := ba_get n k hlt
              by_cases hd : (n[k]'hlt) = 46
              · have d1 : ((((n[k]'hlt).toNat : Nat) : Int) == 46) = true := by rw [u8_46, hd]; rfl
                obtain ⟨RN, hRN⟩ : ∃ RN : ByteArray, RN = ⟨(low (aft n.data.toList)).toArray⟩ := ⟨_, rfl⟩
                have haft : (n.extract (k + 1) n.size).data.toList = aft n.data.toList := by
                  rw [Lib.extract_to_end]
                  have hl : n.data.toList = n.data.toList.take k ++ 46 :: n.data.toList.drop (k + 1) := by
                    have hkl : k < n.data.toList.length := by have := HNS.out; omega
                    have hg : n.data.toList[k] = 46 := by
                      have := GK.out
                      rw [List.getElem?_eq_getElem hkl] at this
                      exact (Option.some.inj this).trans hd
                    have h2 := (List.take_append_drop k n.data.toList).symm
                    rw [List.drop_eq_getElem_cons hkl, hg] at h2
                    exact h2
                  conv => rhs; rw [hl]
                  rw [aft_at _ _ hS.out]
                have HSX : Hid (∀ (x : ByteArray) q, x.size ≤ 140737488355328 → Chg Non wr q → Calls Tryz.prog 15 #[.string x] q fun e w' => e = .returned (.string ⟨(low x.data.toList).toArray⟩) ∧ Chg Non wr w') := fun x q hx hq => by
                  refine (small_any x q hx).mono ?_
                  rintro e w' ⟨rfl, hc⟩
                  exact ⟨rfl, hq.trans hc (fun _ _ x => x)⟩
                have x1 : (n.extract (k + 1) n.size).size ≤ 140737488355328 := by rw [ByteArray.size_extract]; omega
                have x2 : (p.extract 2 p.size).size ≤ 140737488355328 := by rw [ByteArray.size_extract]; omega
                have HX : Hid ((n.extract (k + 1) n.size).size ≤ 140737488355328 ∧ (p.extract 2 p.size).size ≤ 140737488355328) := ⟨x1, x2⟩
                have hE0 : (low (n.extract (k + 1) n.size).data.toList == low (p.extract 2 p.size).data.toList) = Z := by
                  rw [haft, HUP.out, HZ.out.1, Bool.eq_iff_iff, beq_iff_eq, beq_iff_eq]
                  exact ⟨Eq.symm, Eq.symm⟩
                have HE : Hid ((low (n.extract (k + 1) n.size).data.toList == low (p.extract 2 p.size).data.toList) = Z) := hE0
                have k1 : (k : Int) + 1 ≤ (n.size : Int) := by omega
                have k2 : (0 : Int) ≤ (k : Int) + 1 := by omega
                have k3 : IntKind.i64.wrap ((k : Int) + 1) = (k : Int) + 1 := by rw [IntKind.wrap_i64]; omega
                have k4 : (2 : Int) ≤ (p.size : Int) := by omega
                have k5 : k + 1 ≤ n.size := by omega
                clear hd haft hRN hS GK hE0 x1 x2 HSU
                go_upto_region 11 with fail
                refine wp_region_noPanic ?_
                go_region_held3 (fun q => True) (trivial)
                  (first | (go_at_call 15; refine (HSX.out _ _ (by first | exact HX.out.1 | exact HX.out.2) (by first | assumption | exact Chg.drew (by assumption) | exact (Chg.refl _ _).drew | exact Chg.refl _ _)).mono ?_; rintro e wA ⟨rfl, cA⟩))
                refine NoPanic.normal ?_
                go_wp2_with fail
                go_ret
                exact ⟨ret_bool (by have h := HE.out; rw [Lib.extract_data, Lib.extract_data] at h; exact h), cA⟩
              · have d1 : ((((n[k]'hlt).toNat : Nat) : Int) == 46) = false := by rw [u8_46]; simpa using hd
                have HS2 : Hid (∀ b ∈ n.data.toList.take (k + 1), b ≠ 46) := fun b hb => by
                  rw [List.take_add_one, GK.out] at hb
                  rcases List.mem_append.1 hb with hb | hb
                  · exact hS.out b hb
                  · simp at hb
                    rw [hb]; exact hd
                clear hd hS
                go_wp2
                go_roundw
                case rel => exact ⟨k + 1, by omega, by go_num, by first | rfl | trivial, HS2⟩
                case measure => simp [intOf]; omega
            · have HZ0 : Hid (Z = false) := by
                show _ = _
                have hk2 : k = n.data.toList.length := by have := HNS.out; omega
                have := hS.out
                rw [hk2, List.take_length] at this
                rw [HZ.out.1, aft_none this]
                cases hx : (low u == low []) with
                | false => rfl
                | true =>
                  have hx2 : low u = low [] := by simpa using hx
                  exact absurd (low_nil (hx2.trans rfl)) HZ.out.2.2
              clear hS
              go_wp2
              go_ret
              exact ⟨by rw [HZ0.out]; rfl, Chg.refl _ _⟩
        · rw [show decide (2 ≤ cnt u) = false by simpa using h3, Bool.false_and]
          rw [← hCU] at h3
          have hpre2 : (!((p.extract 0 2).toList == [42, 46])) = false := by rw [hpre]; rfl
          clear hU hUl hu hCU hn h1 h1' h2 h2' hCN hps
          go_enter Tryz.func8, Tryz.ntmps8
          go_wp2_with (first | (go_at_call 11; first | (refine (HLN.out _).mono ?_; rintro e w1 ⟨rfl, hw⟩; rw [hw]; clear HLN hw) | (refine (HLP.out _).mono ?_; rintro e w1 ⟨rfl, hw⟩; rw [hw]; clear HLP hw) | (refine (HLU.out _).mono ?_; rintro e w1 ⟨rfl, hw⟩; rw [hw]; clear HLU hw)))
          go_ret
          exact ⟨rfl, Chg.refl _ _⟩
      · have hst2 : ∀ u, p.data.toList ≠ 42 :: 46 :: u := fun u e => hst ⟨u, e⟩
        rw [mat_plain h1' hst2, h2']
        rw [show (decide (0 < 0) && (low p.data.toList == low n.data.toList)) = false from rfl]
        by_cases hz : p.size < 2
        · clear hst hst2 h1 h1' h2 h2' hCN hn
          go_enter Tryz.func8, Tryz.ntmps8
          go_wp2_with (first | (go_at_call 11; first | (refine (HLN.out _).mono ?_; rintro e w1 ⟨rfl, hw⟩; rw [hw]; clear HLN hw) | (refine (HLP.out _).mono ?_; rintro e w1 ⟨rfl, hw⟩; rw [hw]; clear HLP hw)))
          go_ret
          exact ⟨rfl, Chg.refl _ _⟩
        · have hz2 : 2 ≤ p.size := by omega
          have hpre2 : ((p.extract 0 2).toList == [42, 46]) = false := by
            cases hx : ((p.extract 0 2).toList == [42, 46]) with
            | false => rfl
            | true => exact absurd ((star_iff p).1 ⟨hz2, hx⟩) hst
          clear hst hst2 h1 h1' h2 h2' hCN hn hz
          go_enter Tryz.func8, Tryz.ntmps8
          go_wp2_with (first | (go_at_call 11; first | (refine (HLN.out _).mono ?_; rintro e w1 ⟨rfl, hw⟩; rw [hw]; clear HLN hw) | (refine (HLP.out _).mono ?_; rintro e w1 ⟨rfl, hw⟩; rw [hw]; clear HLP hw)))
          go_ret
          exact ⟨rfl, Chg.refl _ _⟩
end Go.Proofs.YtbbopehpmnebiaaGreatDoor
