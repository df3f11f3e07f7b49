/-
  strings.ToLower of a text whose bytes are all below 128.
-/
import Derived.Test.YtbbopehpmnebiaaGreatDoorBld3
import Derived.Test.YtbbopehpmnebiaaGreatDoorIl
namespace Go.Proofs.YtbbopehpmnebiaaGreatDoor
open Go.RowKit Go.Shelf
set_option linter.unusedVariables false
set_option maxRecDepth 100000

/-- The same of whatever value. -/
structure TX (w0 w : World) (b : Nat) (xs : List UInt8) : Prop where
  ex : ∃ v, TB w0 w b v xs
theorem low_take {l : List UInt8} {k : Nat} {b : UInt8} (h : l[k]? = some b) : low (l.take (k + 1)) = low (l.take k) ++ [Lib.lowerB b] := by
  unfold low Lib.toLowerA
  rw [List.take_add_one, h]
  simp
theorem low_same {l : List UInt8} (h : l.any Lib.isUpperB = false) : low l = l := by
  unfold low
  rw [Lib.toLowerA, Lib.map_of_none Lib.lowerB Lib.isUpperB Lib.lowerB_of_not _ h]
theorem low_cut {l : List UInt8} {p k : Nat} (h : p ≤ k) (hn : ((l.drop p).take (k - p)).any Lib.isUpperB = false) : low (l.take k) = low (l.take p) ++ (l.drop p).take (k - p) := by
  have e : l.take k = l.take p ++ (l.drop p).take (k - p) := by
    conv => lhs; rw [show k = p + (k - p) by omega, List.take_add]
  rw [e]
  conv => rhs; rw [← low_same hn]
  simp [low, Lib.toLowerA]
theorem low_len (l : List UInt8) : (low l).length = l.length := by simp [low, Lib.toLowerA]

set_option maxHeartbeats 8000000 in
theorem toLower_any (s : ByteArray) (w : World) (hs : s.size ≤ 1000) (ha : ∀ b ∈ s.data.toList, b.toNat < 128) :
    Calls Tryz.prog 24 #[.string s] w fun e w' => e = .returned (.string ⟨(low s.data.toList).toArray⟩) ∧ Chg Non w w' := by
  have HA : Hid (∀ b ∈ s.data.toList, b.toNat < 128) := ha
  have HSL : Hid (s.size = s.data.toList.length) := Lib.size_eq s
  clear ha
  obtain ⟨R, hR⟩ : ∃ R : ByteArray, R = ⟨(low s.data.toList).toArray⟩ := ⟨_, rfl⟩
  rw [← hR]
  have HR : Hid (R = ⟨(low s.data.toList).toArray⟩) := hR
  clear hR
  go_enter Tryz.func24, Tryz.ntmps24
  go_wp2
  go_loop [3, 4, 5] (fun a h i => ∃ k : Nat, k ≤ s.size ∧ a = .bool true ∧ h = .bool ((s.data.toList.take k).any Lib.isUpperB) ∧ i = .int .i64 k) (fun _ _ i => s.size - (intOf i).toNat)
  case atStart => exact ⟨0, Nat.zero_le _, rfl, rfl, rfl⟩
  case round =>
    obtain ⟨k, hk, rfl, rfl, rfl⟩ := hrel
    generalize hH : (s.data.toList.take k).any Lib.isUpperB = H
    by_cases hlt : k < s.size
    · have hb := ba_get s k hlt
      have h128 : ¬ (128 : Int) ≤ ((s[k]'hlt).toNat : Int) := by have := HA.out _ (List.mem_of_getElem? hb); omega
      have hnext : (s.data.toList.take (k + 1)).any Lib.isUpperB = (H || (decide ((65 : Int) ≤ ((s[k]'hlt).toNat : Int)) && decide (((s[k]'hlt).toNat : Int) ≤ 90))) := by
        rw [Lib.any_take_succ _ _ _ _ hb, hH, Lib.isUpperB_int]
      have Hn : Hid _ := hnext
      clear hb hnext hH
      go_wp2
      all_goals (
        refine ⟨⟨k + 1, by omega, rfl, ?_, by go_num⟩, by simp [intOf]; omega⟩
        rw [Hn.out]
        first
          | (simp_all; done)
          | (simp_all; omega))
    · have hke : k = s.size := by omega
      have hall : s.data.toList.take k = s.data.toList := by rw [hke, HSL.out, List.take_length]
      rw [hall] at hH
      have HH : Hid (s.data.toList.any Lib.isUpperB = H) := hH
      clear hH hall
      cases H with
      | false =>
        go_wp2
        go_ret
        have e : R = s := by rw [HR.out, low_same HH.out]
        exact ⟨by rw [e]; rfl, Chg.refl _ _⟩
      | true =>
        have HGW : Hid (Calls Tryz.prog 46 #[.pointer (some ⟨w.heap.size, 0, none⟩), .int .i64 s.size] (w.alloc (.cells #[.pointer none, .slice none 0 0] 62)) fun e w' => e = .returned (.tuple #[]) ∧ TX w w' w.heap.size []) := by
          refine (Grow_any w.heap.size s.size (w.alloc (.cells #[.pointer none, .slice none 0 0] 62)) (heap_alloc_new w _) w.heap.size (Nat.le_refl _) (by simp) (by omega)).mono ?_
          rintro e w' ⟨rfl, h1, h2⟩
          exact ⟨rfl, ⟨TB.start w w' h1 (((Below.refl w.heap.size w).alloc (Nat.le_refl _) _).trans h2)⟩⟩
        go_wp2_with (go_at_call 46; refine HGW.out.mono ?_)
        rintro e w1 rfl hx1
        obtain ⟨v1, h1⟩ := hx1.ex
        clear hx1
        have H1 : Hid (TB w w1 w.heap.size v1 (low (s.data.toList.take 0))) := h1
        clear h1 hke
        go_wp2
        go_loopw [8, 9] (fun pos i wr => ∃ (p k : Nat) (v : Value), p ≤ k ∧ k ≤ s.size ∧ pos = .int .i64 p ∧ i = .int .i64 k ∧ Hid (TB w wr w.heap.size v (low (s.data.toList.take p))) ∧ Hid (((s.data.toList.drop p).take (k - p)).any Lib.isUpperB = false)) (fun _ i _ => s.size - (intOf i).toNat)
        case atStart => exact ⟨0, 0, v1, Nat.le_refl _, Nat.zero_le _, rfl, rfl, H1, rfl⟩
        case round =>
          obtain ⟨p, k, v, hpk, hk2, rfl, rfl, HB, HN⟩ := hrel
          by_cases hlt2 : k < s.size
          · have Hb : Hid (s.data.toList[k]? = some (s[k]'hlt2)) := ba_get s k hlt2
            by_cases hlow : Lib.isUpperB (s[k]'hlt2) = true
            · have h97 : (65 : Int) ≤ ((s[k]'hlt2).toNat : Int) := by
                rw [Lib.isUpperB_int] at hlow
                simp at hlow
                exact hlow.1
              have h122 : ((s[k]'hlt2).toNat : Int) ≤ 90 := by
                rw [Lib.isUpperB_int] at hlow
                simp at hlow
                exact hlow.2
              obtain ⟨c, hc⟩ : ∃ c, c = Lib.lowerB (s[k]'hlt2) := ⟨_, rfl⟩
              have hci : ((s[k]'hlt2).toNat : Int) + 32 = (c.toNat : Int) := by rw [hc, Lib.lowerB_int _ hlow]
              have HLP : Hid ((low (s.data.toList.take p)).length = p) := by show _ = _; rw [low_len, List.length_take]; have := HSL.out; omega
              have HXS : Hid ((s.extract p k).data.toList = (s.data.toList.drop p).take (k - p)) := Lib.extract_data s p k
              have HXZ : Hid ((s.extract p k).size = k - p) := by
                show _ = _
                rw [Lib.size_eq, HXS.out, List.length_take, List.length_drop]
                have := HSL.out
                omega
              have HCT : Hid (low (s.data.toList.take (k + 1)) = low (s.data.toList.take p) ++ (s.data.toList.drop p).take (k - p) ++ [c]) := by
                show _ = _
                rw [low_take Hb.out, low_cut hpk HN.out, hc]
              clear hlow hc
              by_cases hpk2 : p < k
              · have HWS : Hid (Calls Tryz.prog 47 #[.pointer (some ⟨w.heap.size, 0, none⟩), .string (s.extract p k)] wr fun e w' => e = .returned (.tuple #[.int .i64 (s.extract p k).size, .nilIface]) ∧ TX w w' w.heap.size (low (s.data.toList.take p) ++ (s.data.toList.drop p).take (k - p))) := by
                  refine (writeString_any w.heap.size v _ (s.extract p k) wr HB.out.bld (by rw [HLP.out, HXZ.out]; omega)).mono ?_
                  rintro e w' ⟨rfl, v', hw⟩
                  rw [HXS.out] at hw
                  exact ⟨rfl, ⟨v', HB.out.wrote hw⟩⟩
                go_wp2_with (first | (go_at_call 47; refine HWS.out.mono ?_))
                rintro e w2 ⟨rfl, hx2⟩
                obtain ⟨v2, h2⟩ := hx2.ex
                clear hx2
                have H2 : Hid (TB w w2 w.heap.size v2 (low (s.data.toList.take p) ++ (s.data.toList.drop p).take (k - p))) := h2
                have HWB : Hid (Calls Tryz.prog 48 #[.pointer (some ⟨w.heap.size, 0, none⟩), .int .u8 c.toNat] w2 fun e w' => e = .returned .nilIface ∧ TX w w' w.heap.size (low (s.data.toList.take (k + 1)))) := by
                  refine (writeByte_any w.heap.size v2 _ c w2 h2.bld (by rw [List.length_append, HLP.out, ← HXS.out, ← Lib.size_eq, HXZ.out]; omega)).mono ?_
                  rintro e w' ⟨rfl, v', hw⟩
                  rw [← HCT.out] at hw
                  exact ⟨rfl, ⟨v', h2.wrote hw⟩⟩
                clear h2
                go_wp2_with (first | (go_at_call 48; refine HWB.out.mono ?_))
                rintro e w3 ⟨rfl, hx3⟩
                obtain ⟨v3, h3⟩ := hx3.ex
                clear hx3
                have H3 : Hid (TB w w3 w.heap.size v3 (low (s.data.toList.take (k + 1)))) := h3
                clear h3
                go_wp2
                exact ⟨⟨k + 1, k + 1, v3, Nat.le_refl _, by omega, by go_num, by go_num, H3, by simp [Hid]⟩, by simp [intOf]; omega⟩
              · have hpe : p = k := by omega
                have HWB : Hid (Calls Tryz.prog 48 #[.pointer (some ⟨w.heap.size, 0, none⟩), .int .u8 c.toNat] wr fun e w' => e = .returned .nilIface ∧ TX w w' w.heap.size (low (s.data.toList.take (k + 1)))) := by
                  refine (writeByte_any w.heap.size v _ c wr HB.out.bld (by rw [HLP.out]; omega)).mono ?_
                  rintro e w' ⟨rfl, v', hw⟩
                  have hct := HCT.out
                  rw [hpe, Nat.sub_self, List.take_zero, List.append_nil] at hct
                  rw [hpe, ← hct] at hw
                  exact ⟨rfl, ⟨v', HB.out.wrote hw⟩⟩
                subst hpe
                go_wp2_with (first | (go_at_call 48; refine HWB.out.mono ?_))
                rintro e w3 ⟨rfl, hx3⟩
                obtain ⟨v3, h3⟩ := hx3.ex
                clear hx3
                have H3 : Hid (TB w w3 w.heap.size v3 (low (s.data.toList.take (p + 1)))) := h3
                clear h3
                go_wp2
                exact ⟨⟨p + 1, p + 1, v3, Nat.le_refl _, by omega, by go_num, by go_num, H3, by simp [Hid]⟩, by simp [intOf]; omega⟩
            · have hlow' : Lib.isUpperB (s[k]'hlt2) = false := by simpa using hlow
              have hnot : ¬ ((65 : Int) ≤ ((s[k]'hlt2).toNat : Int) ∧ ((s[k]'hlt2).toNat : Int) ≤ 90) := by
                rw [Lib.isUpperB_int] at hlow'
                simpa using hlow'
              have HST : Hid (((s.data.toList.drop p).take (k + 1 - p)).any Lib.isUpperB = false) := by
                show _ = _
                rw [show k + 1 - p = (k - p) + 1 by omega, List.take_add_one, List.getElem?_drop, show p + (k - p) = k by omega, Hb.out, List.any_append, HN.out]
                simp [hlow']
              clear hlow hlow'
              by_cases hq : (65 : Int) ≤ ((s[k]'hlt2).toNat : Int)
              · have hq2 : ¬ ((s[k]'hlt2).toNat : Int) ≤ 90 := fun h => hnot ⟨hq, h⟩
                clear hnot
                go_wp2
                all_goals (exact ⟨⟨p, k + 1, v, by omega, by omega, rfl, by go_num, HB, HST⟩, by simp [intOf]; omega⟩)
              · clear hnot
                go_wp2
                all_goals (exact ⟨⟨p, k + 1, v, by omega, by omega, rfl, by go_num, HB, HST⟩, by simp [intOf]; omega⟩)
          · have hke2 : k = s.size := by omega
            have HZ : Hid (s.data.toList ≠ []) := by
              intro e
              have := HH.out
              rw [e] at this
              cases this
            by_cases hps : p < s.size
            · have HXS : Hid ((s.extract p s.size).data.toList = s.data.toList.drop p) := Lib.extract_to_end s p
              have HXZ : Hid ((s.extract p s.size).size = s.size - p) := by
                show _ = _
                rw [Lib.size_eq, HXS.out, List.length_drop, HSL.out]
              have HLP : Hid ((low (s.data.toList.take p)).length = p) := by show _ = _; rw [low_len, List.length_take]; have := HSL.out; omega
              have HFI : Hid (low (s.data.toList.take p) ++ s.data.toList.drop p = low s.data.toList) := by
                show _ = _
                have h := low_cut hpk HN.out
                rw [hke2, HSL.out, List.take_length] at h
                rw [List.take_of_length_le (i := s.data.toList.length - p) (l := s.data.toList.drop p) (by rw [List.length_drop]; exact Nat.le_refl _)] at h
                exact h.symm
              have HWS : Hid (Calls Tryz.prog 47 #[.pointer (some ⟨w.heap.size, 0, none⟩), .string (s.extract p s.size)] wr fun e w' => e = .returned (.tuple #[.int .i64 (s.extract p s.size).size, .nilIface]) ∧ TX w w' w.heap.size (low s.data.toList)) := by
                refine (writeString_any w.heap.size v _ (s.extract p s.size) wr HB.out.bld (by rw [HLP.out, HXZ.out]; omega)).mono ?_
                rintro e w' ⟨rfl, v', hw⟩
                rw [HXS.out, HFI.out] at hw
                exact ⟨rfl, ⟨v', HB.out.wrote hw⟩⟩
              go_wp2_with (first | (go_at_call 47; refine HWS.out.mono ?_))
              rintro e w2 ⟨rfl, hx2⟩
              obtain ⟨v2, h2⟩ := hx2.ex
              clear hx2
              have HST : Hid (Calls Tryz.prog 49 #[.pointer (some ⟨w.heap.size, 0, none⟩)] w2 fun e w' => e = .returned (.string R) ∧ Chg Non w w') := by
                refine (String_any w.heap.size v2 _ w w2 h2 (fun e => HZ.out (low_nil e))).mono ?_
                rintro e w' ⟨rfl, hb⟩
                exact ⟨by rw [HR.out], low_non hb⟩
              clear h2
              go_wp2_with (first | (go_at_call 49; refine HST.out.mono ?_))
              rintro e w3 ⟨rfl, hc3⟩
              go_wp2
              go_ret
              exact ⟨rfl, hc3⟩
            · have hps2 : p = s.size := by omega
              have HST : Hid (Calls Tryz.prog 49 #[.pointer (some ⟨w.heap.size, 0, none⟩)] wr fun e w' => e = .returned (.string R) ∧ Chg Non w w') := by
                have h2 := HB.out
                rw [hps2, HSL.out, List.take_length] at h2
                refine (String_any w.heap.size v _ w wr h2 (fun e => HZ.out (low_nil e))).mono ?_
                rintro e w' ⟨rfl, hb⟩
                exact ⟨by rw [HR.out], low_non hb⟩
              go_wp2_with (first | (go_at_call 49; refine HST.out.mono ?_))
              rintro e w3 ⟨rfl, hc3⟩
              go_wp2
              go_ret
              exact ⟨rfl, hc3⟩
end Go.Proofs.YtbbopehpmnebiaaGreatDoor
