/-
  What is a label: the program's.
-/
import Derived.Test.YtbbopehpmnebiaaGreatDoorSm
namespace Go.Proofs.YtbbopehpmnebiaaGreatDoor
open Go.RowKit Go.Shelf
set_option linter.unusedVariables false
set_option maxRecDepth 100000

theorem ba_get (s : ByteArray) (k : Nat) (h : k < s.size) : s.data.toList[k]? = some (s[k]'h) := by
  rw [Array.getElem?_toList]
  exact Array.getElem?_eq_getElem h
theorem take_all (l : List UInt8) (k : Nat) (b : UInt8) (h : l[k]? = some b) : (l.take (k + 1)).all lb = ((l.take k).all lb && lb b) := by
  rw [List.take_add_one, h]
  simp [List.all_append]
theorem isLab_small {l : List UInt8} (h : l.length < 1 ∨ 63 < l.length) : isLab l = false := by
  unfold isLab
  rcases h with h | h
  · have : decide (1 ≤ l.length) = false := by simpa using h
    rw [this]; rfl
  · have : decide (l.length ≤ 63) = false := by simpa using h
    rw [this]; simp
theorem isLab_head {l : List UInt8} (h : l[0]? = some 45) : isLab l = false := by
  unfold isLab
  have : l.head? = some 45 := by rw [List.head?_eq_getElem?]; exact h
  rw [this]; simp
theorem isLab_last {l : List UInt8} (h : l[l.length - 1]? = some 45) : isLab l = false := by
  unfold isLab
  have : l.getLast? = some 45 := by rw [List.getLast?_eq_getElem?]; exact h
  rw [this]; simp
theorem isLab_bad {l : List UInt8} (h : l.all lb = false) : isLab l = false := by
  unfold isLab
  rw [h]; simp
theorem isLab_ok {l : List UInt8} (h1 : 1 ≤ l.length) (h2 : l.length ≤ 63) (h3 : l[0]? ≠ some 45) (h4 : l[l.length - 1]? ≠ some 45) (h5 : l.all lb = true) : isLab l = true := by
  unfold isLab
  rw [List.head?_eq_getElem?, List.getLast?_eq_getElem?, h5]
  simp [h1, h2, h3, h4]
theorem u8_45 {b : UInt8} : (((b.toNat : Nat) : Int) == 45) = (b == 45) := by
  rw [Bool.eq_iff_iff]
  simp
  constructor
  · intro h
    have h2 : b.toNat = 45 := by omega
    exact UInt8.toNat_inj.1 h2
  · rintro rfl; rfl

set_option maxHeartbeats 4000000 in
theorem isLabel_any (s : ByteArray) (w : World) : Calls Tryz.prog 21 #[.string s] w fun e w' => e = .returned (.bool (isLab s.data.toList)) ∧ w' = w := by
  have HSL : Hid (s.size = s.data.toList.length) := Lib.size_eq s
  by_cases h0 : s.size < 1 ∨ 63 < s.size
  · have HR : Hid (isLab s.data.toList = false) := isLab_small (by have := HSL.out; omega)
    rw [HR.out]
    rcases h0 with h0 | h0
    · go_enter Tryz.func21, Tryz.ntmps21
      go_wp2
      all_goals (go_ret; exact ⟨rfl, rfl⟩)
    · go_enter Tryz.func21, Tryz.ntmps21
      go_wp2
      all_goals (go_ret; exact ⟨rfl, rfl⟩)
  · have hs1 : 1 ≤ s.size := by omega
    have hs2 : s.size ≤ 63 := by omega
    have hz : 0 < s.size := by omega
    obtain ⟨m, hme⟩ : ∃ m, m = s.size - 1 := ⟨_, rfl⟩
    have hml : m < s.size := by omega
    have hmi : (s.size : Int) - 1 = (m : Int) := by omega
    have HM : Hid (m = s.data.toList.length - 1) := by have := HSL.out; show _ = _; omega
    have G0 : Hid (s.data.toList[0]? = some (s[0]'hz)) := ba_get s 0 hz
    have GM : Hid (s.data.toList[m]? = some (s[m]'hml)) := ba_get s m hml
    clear h0 hme
    by_cases h1 : (s[0]'hz) = 45
    · have HR : Hid (isLab s.data.toList = false) := isLab_head (by rw [G0.out, h1])
      rw [HR.out]
      have d1 : ((((s[0]'hz).toNat : Nat) : Int) == 45) = true := by rw [u8_45, h1]; rfl
      clear h1
      go_enter Tryz.func21, Tryz.ntmps21
      go_wp2
      all_goals (go_ret; exact ⟨rfl, rfl⟩)
    · have d1 : ((((s[0]'hz).toNat : Nat) : Int) == 45) = false := by rw [u8_45]; simpa using h1
      have H1 : Hid (s.data.toList[0]? ≠ some 45) := by rw [G0.out]; intro e; exact h1 (Option.some.inj e)
      clear h1
      by_cases h2 : (s[m]'hml) = 45
      · have HR : Hid (isLab s.data.toList = false) := isLab_last (by rw [← HM.out, GM.out, h2])
        rw [HR.out]
        have d2 : ((((s[m]'hml).toNat : Nat) : Int) == 45) = true := by rw [u8_45, h2]; rfl
        clear h2
        go_enter Tryz.func21, Tryz.ntmps21
        go_wp2
        all_goals (go_ret; exact ⟨rfl, rfl⟩)
      · have d2 : ((((s[m]'hml).toNat : Nat) : Int) == 45) = false := by rw [u8_45]; simpa using h2
        have H2 : Hid (s.data.toList[s.data.toList.length - 1]? ≠ some 45) := by rw [← HM.out, GM.out]; intro e; exact h2 (Option.some.inj e)
        clear h2
        go_enter Tryz.func21, Tryz.ntmps21
        go_wp2
        go_loop [3, 27] (fun j i => ∃ k : Nat, k ≤ s.size ∧ i = .int .i64 k ∧ Hid ((s.data.toList.take k).all lb = true)) (fun _ i => s.size - (intOf i).toNat)
        case atStart => exact ⟨0, Nat.zero_le _, rfl, rfl⟩
        case round =>
          obtain ⟨k, hk, rfl, hA⟩ := hrel
          by_cases hlt : k < s.size
          · have GK : Hid (s.data.toList[k]? = some (s[k]'hlt)) := ba_get s k hlt
            have HL : Hid (lb (s[k]'hlt) = lbI (((s[k]'hlt).toNat : Nat) : Int)) := rfl
            cases hv : lbI (((s[k]'hlt).toNat : Nat) : Int) with
            | true =>
              have HV : Hid (lbI (((s[k]'hlt).toNat : Nat) : Int) = true) := hv
              clear hv
              go_wp2_with (go_at_call 44; refine (isLabelByte_any _ _).mono ?_; rintro e w' ⟨rfl, rfl⟩; rw [HV.out])
              refine ⟨⟨k + 1, by omega, by go_num, ?_⟩, by simp [intOf]; omega⟩
              show (List.take (k + 1) s.data.toList).all lb = true
              rw [take_all _ _ _ GK.out, hA.out, HL.out, HV.out]
              rfl
            | false =>
              have HV : Hid (lbI (((s[k]'hlt).toNat : Nat) : Int) = false) := hv
              clear hv
              go_wp2_with (go_at_call 44; refine (isLabelByte_any _ _).mono ?_; rintro e w' ⟨rfl, rfl⟩; rw [HV.out])
              go_ret
              have hb : isLab s.data.toList = false := isLab_bad (by
                cases hx : s.data.toList.all lb with
                | false => rfl
                | true =>
                  have := List.all_eq_true.1 hx _ (List.mem_of_getElem? GK.out)
                  rw [HL.out, HV.out] at this
                  cases this)
              exact ⟨by rw [hb]; rfl, rfl⟩
          · have HK : Hid (k = s.size) := by show _ = _; omega
            go_wp2
            go_ret
            have hb : isLab s.data.toList = true := by
              have h5 := hA.out
              rw [HK.out, HSL.out, List.take_length] at h5
              exact isLab_ok (by have := HSL.out; omega) (by have := HSL.out; omega) H1.out H2.out h5
            exact ⟨by rw [hb]; rfl, rfl⟩
end Go.Proofs.YtbbopehpmnebiaaGreatDoor
