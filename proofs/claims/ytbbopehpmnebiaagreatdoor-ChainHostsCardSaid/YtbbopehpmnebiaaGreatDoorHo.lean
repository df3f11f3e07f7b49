/-
  What is a host, and which hosts are one of a pattern: the program's.
-/
import Derived.Test.YtbbopehpmnebiaaGreatDoorLo
import Derived.Test.YtbbopehpmnebiaaGreatDoorTl
namespace Go.Proofs.YtbbopehpmnebiaaGreatDoor
open Go.RowKit Go.Shelf
set_option linter.unusedVariables false
set_option maxRecDepth 100000

theorem ba_eta (s : ByteArray) : (⟨s.data.toList.toArray⟩ : ByteArray) = s := ba_ext (by simp)
theorem labelsOf_s (s : ByteArray) (w : World) : Calls Tryz.prog 10 #[.string s] w fun e w' => e = .returned (.int .i64 (cnt s.data.toList)) ∧ Chg Non w w' := by
  have := labelsOf_any s.data.toList w
  rw [ba_eta] at this
  exact this

set_option maxHeartbeats 2000000 in
theorem Host_any (s : ByteArray) (w : World) : Calls Tryz.prog 5 #[.string s] w fun e w' => e = .returned (.bool (decide (0 < cnt s.data.toList))) ∧ Chg Non w w' := by
  obtain ⟨C, hC⟩ : ∃ C, C = cnt s.data.toList := ⟨_, rfl⟩
  have HL : Hid (Calls Tryz.prog 10 #[.string s] w fun e w' => e = .returned (.int .i64 C) ∧ Chg Non w w') := by rw [hC]; exact labelsOf_s s w
  rw [← hC]
  clear hC
  go_enter Tryz.func5, Tryz.ntmps5
  go_wp2_with (go_at_call 10; refine HL.out.mono ?_)
  rintro e w1 ⟨rfl, hc⟩
  go_wp2
  go_ret
  exact ⟨ret_bool (by simp), hc⟩

theorem str_eq (a b : List UInt8) : ((⟨a.toArray⟩ : ByteArray).toList == (⟨b.toArray⟩ : ByteArray).toList) = (a == b) := by
  rw [Lib.toList_data, Lib.toList_data]

set_option maxHeartbeats 2000000 in
theorem sameHost_any (a b : ByteArray) (w : World) (ha : a.size ≤ 1000) (hb : b.size ≤ 1000) (qa : ∀ c ∈ a.data.toList, c.toNat < 128) (qb : ∀ c ∈ b.data.toList, c.toNat < 128) :
    Calls Tryz.prog 13 #[.string a, .string b] w fun e w' => e = .returned (.bool (low a.data.toList == low b.data.toList)) ∧ Chg Non w w' := by
  have HA : Hid (∀ q, Calls Tryz.prog 24 #[.string a] q fun e w' => e = .returned (.string ⟨(low a.data.toList).toArray⟩) ∧ Chg Non q w') := fun q => toLower_any a q ha qa
  have HB : Hid (∀ q, Calls Tryz.prog 24 #[.string b] q fun e w' => e = .returned (.string ⟨(low b.data.toList).toArray⟩) ∧ Chg Non q w') := fun q => toLower_any b q hb qb
  obtain ⟨RA, hRA⟩ : ∃ RA : ByteArray, RA = ⟨(low a.data.toList).toArray⟩ := ⟨_, rfl⟩
  obtain ⟨RB, hRB⟩ : ∃ RB : ByteArray, RB = ⟨(low b.data.toList).toArray⟩ := ⟨_, rfl⟩
  obtain ⟨q, hq⟩ : ∃ q, q = (low a.data.toList == low b.data.toList) := ⟨_, rfl⟩
  rw [← hRA] at HA
  rw [← hRB] at HB
  rw [← hq]
  have hE : (RA.toList == RB.toList) = q := by rw [hRA, hRB, str_eq, hq]
  clear hRA hRB hq qa qb ha hb
  go_enter Tryz.func13, Tryz.ntmps13
  go_wp2_with (go_at_call 24; refine (HA.out _).mono ?_)
  rintro e w1 ⟨rfl, hc1⟩
  have C1 : Hid (Chg Non w w1) := hc1
  clear hc1
  go_wp2_with (go_at_call 24; refine (HB.out _).mono ?_)
  rintro e w2 ⟨rfl, hc2⟩
  have C2 : Hid (Chg Non w w2) := C1.out.trans hc2 (fun _ _ x => x)
  clear hc2
  go_wp2
  go_ret
  exact ⟨rfl, C2.out⟩

/-- A name cut at its first point. -/
structure CutA (s : ByteArray) (e : Ending) : Prop where
  ex : ∃ (x : ByteArray) (m : Bool), e = .returned (.tuple #[.string x, .string ⟨(aft s.data.toList).toArray⟩, .bool m])
theorem cut_aft (s : ByteArray) (hs : s.size ≤ 1000) (w : World) : Calls Tryz.prog 14 #[.string s, .string ⟨#[46]⟩] w fun e w' => CutA s e ∧ Chg Non w w' := by
  rcases dot_cases s.data.toList with h | ⟨p, r, hl, h⟩
  · refine (cut_no s h w).mono ?_
    rintro e w' ⟨rfl, hc⟩
    exact ⟨⟨_, _, by rw [aft_none h]⟩, hc⟩
  · refine (cut_yes s p r hl h (by omega) w).mono ?_
    rintro e w' ⟨rfl, hc⟩
    exact ⟨⟨_, _, by rw [hl, aft_at p r h]⟩, hc⟩
theorem host_ascii {s : ByteArray} (h : 0 < cnt s.data.toList) : s.size ≤ 1000 ∧ ∀ c ∈ s.data.toList, c.toNat < 128 := ⟨by rw [Lib.size_eq]; have := cnt_len h; omega, cnt_ascii h⟩

theorem mat_no {p n : List UInt8} (h : cnt n = 0) : mat p n = false := by unfold mat; rw [if_pos h]
theorem mat_star {u n : List UInt8} (h : 0 < cnt n) : mat (42 :: 46 :: u) n = (decide (2 ≤ cnt u) && (low u == low (aft n))) := by unfold mat; rw [if_neg (by omega)]; rfl
theorem mat_plain {p n : List UInt8} (h : 0 < cnt n) (hp : ∀ u, p ≠ 42 :: 46 :: u) : mat p n = (decide (0 < cnt p) && (low p == low n)) := by
  unfold mat
  rw [if_neg (by omega)]
  split
  · exact absurd rfl (hp _)
  · rfl

set_option maxHeartbeats 4000000 in
theorem Matches_any (p n : ByteArray) (w : World) : Calls Tryz.prog 7 #[.string p, .string n] w fun e w' => e = .returned (.bool (mat p.data.toList n.data.toList)) ∧ Chg Non w w' := by
  have HH : Hid (∀ q, Calls Tryz.prog 5 #[.string n] q fun e w' => e = .returned (.bool (decide (0 < cnt n.data.toList))) ∧ Chg Non q w') := fun q => Host_any n q
  by_cases h1 : 0 < cnt n.data.toList
  · rw [show decide (0 < cnt n.data.toList) = true by simpa using h1] at HH
    obtain ⟨hn1, hn2⟩ := host_ascii h1
    by_cases hst : ∃ u, p.data.toList = 42 :: 46 :: u
    · obtain ⟨u, hu⟩ := hst
      have HCP : Hid (∀ q, Calls Tryz.prog 12 #[.string p, .string ⟨#[42, 46]⟩] q fun e w' => e = .returned (.tuple #[.string ⟨u.toArray⟩, .bool true]) ∧ w' = q) := fun q => cutPrefix_yes p u hu q
      rw [hu, mat_star h1]
      obtain ⟨U, hU⟩ : ∃ U : ByteArray, U = ⟨u.toArray⟩ := ⟨_, rfl⟩
      have hUl : U.data.toList = u := by rw [hU]
      rw [← hU] at HCP
      have HCU : Hid (∀ q, Calls Tryz.prog 14 #[.string n, .string ⟨#[46]⟩] q fun e w' => CutA n e ∧ Chg Non q w') := fun q => cut_aft n hn1 q
      obtain ⟨V, hV⟩ : ∃ V : ByteArray, V = ⟨(aft n.data.toList).toArray⟩ := ⟨_, rfl⟩
      have hVl : V.data.toList = aft n.data.toList := by rw [hV]
      have HVE : Hid (V = ⟨(aft n.data.toList).toArray⟩) := hV
      have HLA : Hid (∀ q, Calls Tryz.prog 10 #[.string U] q fun e w' => e = .returned (.int .i64 (cnt u)) ∧ Chg Non q w') := fun q => by have := labelsOf_s U q; rw [hUl] at this; exact this
      by_cases h2 : 2 ≤ cnt u
      · have HSM : Hid (∀ q, Calls Tryz.prog 13 #[.string U, .string V] q fun e w' => e = .returned (.bool (low u == low (aft n.data.toList))) ∧ Chg Non q w') := fun q => by
          have hu2 := host_ascii (s := U) (by rw [hUl]; omega)
          have := sameHost_any U V q hu2.1 (by rw [Lib.size_eq, hVl]; have := (List.dropWhile_sublist (l := n.data.toList) (fun x => x != 46)).length_le; unfold aft; rw [List.length_drop]; rw [Lib.size_eq] at hn1; omega) hu2.2 (by rw [hVl]; exact fun c hc => hn2 c (aft_mem hc))
          rw [hUl, hVl] at this
          exact this
        rw [show decide (2 ≤ cnt u) = true by simpa using h2, Bool.true_and]
        obtain ⟨Z, hZ⟩ : ∃ Z, Z = (low u == low (aft n.data.toList)) := ⟨_, rfl⟩
        obtain ⟨C, hC⟩ : ∃ C, C = cnt u := ⟨_, rfl⟩
        rw [← hZ] at HSM ⊢
        rw [← hC] at HLA h2
        clear hZ hC hU hV hUl hVl hu hn1 hn2 h1
        go_enter Tryz.func7, Tryz.ntmps7
        go_wp2_with (go_at_call 5; refine (HH.out _).mono ?_)
        rintro e w1 ⟨rfl, hc1⟩
        have C1 : Hid (Chg Non w w1) := hc1
        clear hc1
        go_wp2_with (first | (go_at_call 12; refine (HCP.out _).mono ?_; rintro e w' ⟨rfl, rfl⟩) | (go_at_call 14; refine (HCU.out _).mono ?_))
        rintro e w2 ⟨hcu, hc2⟩
        obtain ⟨x, m, rfl⟩ := hcu.ex
        rw [← HVE.out]
        have C2 : Hid (Chg Non w w2) := C1.out.trans hc2 (fun _ _ x => x)
        clear hc2 hcu
        go_wp2_with (go_at_call 10; refine (HLA.out _).mono ?_)
        rintro e w3 ⟨rfl, hc3⟩
        have C3 : Hid (Chg Non w w3) := C2.out.trans hc3 (fun _ _ x => x)
        clear hc3
        go_wp2_with (go_at_call 13; refine (HSM.out _).mono ?_)
        rintro e w4 ⟨rfl, hc4⟩
        have C4 : Hid (Chg Non w w4) := C3.out.trans hc4 (fun _ _ x => x)
        clear hc4
        go_wp2
        go_ret
        exact ⟨rfl, C4.out⟩
      · rw [show decide (2 ≤ cnt u) = false by simpa using h2, Bool.false_and]
        obtain ⟨C, hC⟩ : ∃ C, C = cnt u := ⟨_, rfl⟩
        rw [← hC] at HLA h2
        clear hC hU hV hUl hVl hu hn1 hn2 h1
        go_enter Tryz.func7, Tryz.ntmps7
        go_wp2_with (go_at_call 5; refine (HH.out _).mono ?_)
        rintro e w1 ⟨rfl, hc1⟩
        have C1 : Hid (Chg Non w w1) := hc1
        clear hc1
        go_wp2_with (first | (go_at_call 12; refine (HCP.out _).mono ?_; rintro e w' ⟨rfl, rfl⟩) | (go_at_call 14; refine (HCU.out _).mono ?_))
        rintro e w2 ⟨hcu, hc2⟩
        obtain ⟨x, m, rfl⟩ := hcu.ex
        rw [← HVE.out]
        have C2 : Hid (Chg Non w w2) := C1.out.trans hc2 (fun _ _ x => x)
        clear hc2 hcu
        go_wp2_with (go_at_call 10; refine (HLA.out _).mono ?_)
        rintro e w3 ⟨rfl, hc3⟩
        have C3 : Hid (Chg Non w w3) := C2.out.trans hc3 (fun _ _ x => x)
        clear hc3
        go_wp2
        go_ret
        exact ⟨rfl, C3.out⟩
    · have hst2 : ∀ u, p.data.toList ≠ 42 :: 46 :: u := fun u e => hst ⟨u, e⟩
      have HCP : Hid (∀ q, Calls Tryz.prog 12 #[.string p, .string ⟨#[42, 46]⟩] q fun e w' => e = .returned (.tuple #[.string p, .bool false]) ∧ w' = q) := fun q => cutPrefix_no p hst2 q
      rw [mat_plain h1 hst2]
      have HP : Hid (∀ q, Calls Tryz.prog 5 #[.string p] q fun e w' => e = .returned (.bool (decide (0 < cnt p.data.toList))) ∧ Chg Non q w') := fun q => Host_any p q
      by_cases h2 : 0 < cnt p.data.toList
      · rw [show decide (0 < cnt p.data.toList) = true by simpa using h2] at HP ⊢
        rw [Bool.true_and]
        have hp2 := host_ascii h2
        have HSM : Hid (∀ q, Calls Tryz.prog 13 #[.string p, .string n] q fun e w' => e = .returned (.bool (low p.data.toList == low n.data.toList)) ∧ Chg Non q w') := fun q => sameHost_any p n q hp2.1 hn1 hp2.2 hn2
        obtain ⟨Z, hZ⟩ : ∃ Z, Z = (low p.data.toList == low n.data.toList) := ⟨_, rfl⟩
        rw [← hZ] at HSM ⊢
        clear hZ hst hst2 h1 h2 hn1 hn2 hp2
        go_enter Tryz.func7, Tryz.ntmps7
        go_wp2_with (go_at_call 5; refine (HH.out _).mono ?_)
        rintro e w1 ⟨rfl, hc1⟩
        have C1 : Hid (Chg Non w w1) := hc1
        clear hc1
        go_wp2_with (first | (go_at_call 12; refine (HCP.out _).mono ?_; rintro e w' ⟨rfl, rfl⟩) | (go_at_call 5; refine (HP.out _).mono ?_))
        rintro e w2 ⟨rfl, hc2⟩
        have C2 : Hid (Chg Non w w2) := C1.out.trans hc2 (fun _ _ x => x)
        clear hc2
        go_wp2_with (go_at_call 13; refine (HSM.out _).mono ?_)
        rintro e w4 ⟨rfl, hc4⟩
        have C4 : Hid (Chg Non w w4) := C2.out.trans hc4 (fun _ _ x => x)
        clear hc4
        go_wp2
        go_ret
        exact ⟨rfl, C4.out⟩
      · rw [show decide (0 < cnt p.data.toList) = false by simpa using h2] at HP ⊢
        rw [Bool.false_and]
        clear hst hst2 h1 h2 hn1 hn2
        go_enter Tryz.func7, Tryz.ntmps7
        go_wp2_with (go_at_call 5; refine (HH.out _).mono ?_)
        rintro e w1 ⟨rfl, hc1⟩
        have C1 : Hid (Chg Non w w1) := hc1
        clear hc1
        go_wp2_with (first | (go_at_call 12; refine (HCP.out _).mono ?_; rintro e w' ⟨rfl, rfl⟩) | (go_at_call 5; refine (HP.out _).mono ?_))
        rintro e w2 ⟨rfl, hc2⟩
        have C2 : Hid (Chg Non w w2) := C1.out.trans hc2 (fun _ _ x => x)
        clear hc2
        go_wp2
        go_ret
        exact ⟨rfl, C2.out⟩
  · rw [show decide (0 < cnt n.data.toList) = false by simpa using h1] at HH
    rw [mat_no (by omega)]
    clear h1
    go_enter Tryz.func7, Tryz.ntmps7
    go_wp2_with (go_at_call 5; refine (HH.out _).mono ?_)
    rintro e w1 ⟨rfl, hc1⟩
    have C1 : Hid (Chg Non w w1) := hc1
    clear hc1
    go_wp2
    go_ret
    exact ⟨rfl, C1.out⟩
end Go.Proofs.YtbbopehpmnebiaaGreatDoor
