/-
  How many labels a host has: the document's.
-/
import Derived.Test.YtbbopehpmnebiaaGreatDoorIl
import Derived.Deep.Cut
import Derived.Deep.CutBlock
namespace Go.Proofs.YtbbopehpmnebiaaGreatDoor
open Go.RowKit Go.Shelf
set_option linter.unusedVariables false
set_option maxRecDepth 100000

/-- What the document's loop has seen: so many labels up to a place, and a run of letters from there on. -/
structure LbS (l : List UInt8) (n from' i : Nat) : Prop where
  fi : from' ≤ i
  il : i ≤ l.length + 1
  ex : ∃ d : List (List UInt8), d.length = n ∧ d.all isLab = true ∧ (from' ≤ l.length → spl l = d ++ spl (l.drop from')) ∧ (from' = l.length + 1 → spl l = d)
  run : ∀ b ∈ (l.drop from').take (i - from'), lb b = true
theorem lb_46 : lb 46 = false := by decide
theorem LbS.start (l : List UInt8) : LbS l 0 0 0 := ⟨Nat.le_refl _, Nat.zero_le _, ⟨[], rfl, rfl, fun _ => by simp, fun h => by omega⟩, fun b hb => by simp at hb⟩
theorem LbS.step {l : List UInt8} {n f i : Nat} {b : UInt8} (h : LbS l n f i) (hb : l[i]? = some b) (hl : lb b = true) : LbS l n f (i + 1) := by
  have hi := (List.getElem?_eq_some_iff.1 hb).1
  refine ⟨by have := h.fi; omega, by omega, h.ex, fun c hc => ?_⟩
  have hf := h.fi
  rw [show i + 1 - f = (i - f) + 1 by omega, List.take_add_one, List.getElem?_drop, show f + (i - f) = i by omega, hb] at hc
  rcases List.mem_append.1 hc with hc | hc
  · exact h.run c hc
  · simp at hc
    rw [hc]; exact hl
/-- The run up to a place, and what follows. -/
theorem LbS.cut {l : List UInt8} {n f i : Nat} (h : LbS l n f i) (hi : i ≤ l.length) : l.drop f = (l.drop f).take (i - f) ++ l.drop i := by
  have hf := h.fi
  conv => lhs; rw [← List.take_append_drop (i - f) (l.drop f), List.drop_drop, show f + (i - f) = i by omega]
theorem LbS.nodot {l : List UInt8} {n f i : Nat} (h : LbS l n f i) : ∀ b ∈ (l.drop f).take (i - f), b ≠ 46 := fun b hb e => by
  have := h.run b hb
  rw [e, lb_46] at this
  cases this
theorem LbS.spl {l : List UInt8} {n f i : Nat} (h : LbS l n f i) (hi : i ≤ l.length) (he : i = l.length ∨ l[i]? = some 46) :
    ∃ d r : List (List UInt8), d.length = n ∧ d.all isLab = true ∧ spl l = d ++ (l.drop f).take (i - f) :: r ∧ (i = l.length → r = []) ∧ (i < l.length → r = YtbbopehpmnebiaaGreatDoor.spl (l.drop (i + 1))) := by
  obtain ⟨d, h1, h2, h3, -⟩ := h.ex
  have hf := h.fi
  have hs := h3 (by omega)
  have hc := h.cut hi
  rcases he with he | he
  · refine ⟨d, [], h1, h2, ?_, fun _ => rfl, fun q => by omega⟩
    rw [hs, hc, he, List.drop_length, List.append_nil, spl_end _ (by rw [← he]; exact h.nodot)]
    simp [List.take_take]
  · have hlt := (List.getElem?_eq_some_iff.1 he).1
    have hd : l.drop i = 46 :: l.drop (i + 1) := by
      rw [List.drop_eq_getElem_cons hlt]
      congr 1
      rw [List.getElem?_eq_getElem hlt] at he
      exact Option.some.inj he
    refine ⟨d, YtbbopehpmnebiaaGreatDoor.spl (l.drop (i + 1)), h1, h2, ?_, fun q => by omega, fun _ => rfl⟩
    rw [hs, hc, hd, spl_app_dot _ _ h.nodot]
    have : List.take (i - f) (List.drop f l) ++ 46 :: List.drop (i + 1) l = l.drop f := by rw [← hd]; exact hc.symm
    rw [this]
theorem LbS.next {l : List UInt8} {n f i : Nat} (h : LbS l n f i) (hi : i ≤ l.length) (he : i = l.length ∨ l[i]? = some 46) (hg : isLab ((l.drop f).take (i - f)) = true) : LbS l (n + 1) (i + 1) (i + 1) := by
  obtain ⟨d, r, h1, h2, h3, h4, h5⟩ := h.spl hi he
  refine ⟨Nat.le_refl _, by omega, ⟨d ++ [(l.drop f).take (i - f)], by simp [h1], by rw [List.all_append, h2]; simp [hg], fun q => ?_, fun q => ?_⟩, fun b hb => by simp at hb⟩
  · rw [h3, h5 (by omega)]; simp
  · rw [h3, h4 (by omega)]
theorem LbS.bad {l : List UInt8} {n f i : Nat} (h : LbS l n f i) (hi : i ≤ l.length) (he : i = l.length ∨ l[i]? = some 46) (hg : isLab ((l.drop f).take (i - f)) = false) : cnt l = 0 := by
  obtain ⟨d, r, h1, h2, h3, -⟩ := h.spl hi he
  unfold cnt
  rw [if_neg]
  rintro ⟨-, q⟩
  rw [h3, List.all_append, List.all_cons, hg] at q
  simp at q
theorem LbS.done {l : List UInt8} {n f i : Nat} (h : LbS l n f i) (hl : l.length ≤ 253) (hi : i = l.length + 1) (hf : f = l.length + 1) : cnt l = n := by
  obtain ⟨d, h1, h2, -, h4⟩ := h.ex
  have hs := h4 hf
  unfold cnt
  rw [hs, if_pos ⟨hl, h2⟩, h1]
theorem cnt_bad {l : List UInt8} {b : UInt8} (hb : b ∈ l) (h1 : b ≠ 46) (h2 : lb b = false) : cnt l = 0 := by
  unfold cnt
  rw [if_neg]
  rintro ⟨-, q⟩
  rcases all_spl l q b hb with e | e
  · exact h1 e
  · rw [h2] at e; cases e
theorem run_get {l : List UInt8} {f i : Nat} (hf : f < i) (hi : i ≤ l.length) : ((l.drop f).take (i - f)).length = i - f ∧ ((l.drop f).take (i - f))[0]? = l[f]? ∧ ((l.drop f).take (i - f))[i - f - 1]? = l[i - 1]? := by
  refine ⟨by simp; omega, ?_, ?_⟩
  · rw [List.getElem?_take, if_pos (by omega), List.getElem?_drop]; rfl
  · rw [List.getElem?_take, if_pos (by omega), List.getElem?_drop, show f + (i - f - 1) = i - 1 by omega]
theorem u8_46 {b : UInt8} : (((b.toNat : Nat) : Int) == 46) = (b == 46) := by
  rw [Bool.eq_iff_iff]
  simp
  constructor
  · intro h
    have h2 : b.toNat = 46 := by omega
    exact UInt8.toNat_inj.1 h2
  · rintro rfl; rfl

set_option maxHeartbeats 8000000 in
theorem rlabels_any (s : ByteArray) (w : World) : Calls Tryz.prog 11 #[.string s] w fun e w' => e = .returned (.int .i64 (cnt s.data.toList)) ∧ w' = w := by
  have HSL : Hid (s.size = s.data.toList.length) := Lib.size_eq s
  by_cases h0 : s.size < 1 ∨ 253 < s.size
  · have HR : Hid (cnt s.data.toList = 0) := by
      show _ = _
      rcases Nat.eq_zero_or_pos (cnt s.data.toList) with h | h
      · exact h
      · have := cnt_len h
        have := HSL.out
        omega
    rw [HR.out]
    rcases h0 with h0 | h0
    · go_enter Tryz.func11, Tryz.ntmps11
      go_wp2
      all_goals (go_ret; exact ⟨rfl, rfl⟩)
    · go_enter Tryz.func11, Tryz.ntmps11
      go_wp2
      all_goals (go_ret; exact ⟨rfl, rfl⟩)
  · have hs1 : 1 ≤ s.size := by omega
    have hs2 : s.size ≤ 253 := by omega
    clear h0
    obtain ⟨C, hC⟩ : ∃ C, C = cnt s.data.toList := ⟨_, rfl⟩
    rw [← hC]
    have HC : Hid (C = cnt s.data.toList) := hC
    clear hC
    go_enter Tryz.func11, Tryz.ntmps11
    go_wp2
    go_loop [3, 4, 5] (fun a b c => ∃ n f i : Nat, a = .int .i64 n ∧ b = .int .i64 f ∧ c = .int .i64 i ∧ n ≤ i ∧ f ≤ i ∧ i ≤ s.size + 1 ∧ Hid (LbS s.data.toList n f i ∧ (i = s.size + 1 → f = s.size + 1))) (fun _ _ c => s.size + 1 - (intOf c).toNat)
    case atStart => exact ⟨0, 0, 0, rfl, rfl, rfl, Nat.le_refl _, Nat.le_refl _, Nat.zero_le _, LbS.start _, fun h => by omega⟩
    case round =>
      obtain ⟨n, f, i, rfl, rfl, rfl, hn, hf, hi, hS⟩ := hrel
      by_cases hend : i = s.size + 1
      · have HN : Hid (C = n) := by
          show _ = _
          rw [HC.out]
          exact hS.out.1.done (by have := HSL.out; omega) (by have := HSL.out; omega) (by have := HSL.out; have := hS.out.2 hend; omega)
        have hd : decide ((i : Int) ≤ (s.size : Int)) = false := by simp; omega
        have hd2 : s.size < i := by omega
        have hd3 : ¬ i ≤ s.size := by omega
        clear hS hend
        go_wp2
        go_ret
        exact ⟨by rw [HN.out]; rfl, rfl⟩
      · have hi2 : i ≤ s.size := by omega
        clear hend
        by_cases hA : ∃ hlt : i < s.size, (s[i]'hlt) ≠ 46
        · obtain ⟨hlt, hne⟩ := hA
          have GK : Hid (s.data.toList[i]? = some (s[i]'hlt)) := ba_get s i hlt
          have d1 : ((((s[i]'hlt).toNat : Nat) : Int) == 46) = false := by rw [u8_46]; simpa using hne
          have HNE : Hid ((s[i]'hlt) ≠ 46) := hne
          clear hne
          cases hv : lbI (((s[i]'hlt).toNat : Nat) : Int) with
          | true =>
            have HV : Hid (lbI (((s[i]'hlt).toNat : Nat) : Int) = true) := hv
            clear hv
            go_wp2_with (go_at_call 22; refine (letter_any _ _).mono ?_; rintro e w' ⟨rfl, rfl⟩; rw [HV.out])
            refine ⟨⟨n, f, i + 1, rfl, rfl, by go_num, by omega, by omega, by omega, hS.out.1.step GK.out HV.out, fun h => by omega⟩, by simp [intOf]; omega⟩
          | false =>
            have HV : Hid (lbI (((s[i]'hlt).toNat : Nat) : Int) = false) := hv
            have HZ : Hid (C = 0) := by show _ = _; rw [HC.out]; exact cnt_bad (List.mem_of_getElem? GK.out) HNE.out hv
            clear hv
            go_wp2_with (go_at_call 22; refine (letter_any _ _).mono ?_; rintro e w' ⟨rfl, rfl⟩; rw [HV.out])
            go_ret
            exact ⟨by rw [HZ.out]; rfl, rfl⟩
        · have HE : Hid (i = s.data.toList.length ∨ s.data.toList[i]? = some 46) := by
            show _ ∨ _
            by_cases hlt : i < s.size
            · right
              rw [ba_get s i hlt]
              by_cases h : (s[i]'hlt) = 46
              · rw [h]
              · exact absurd ⟨hlt, h⟩ hA
            · left
              have := HSL.out
              omega
          have HI : Hid (i ≤ s.data.toList.length) := by have := HSL.out; show _ ≤ _; omega
          obtain ⟨g, hg⟩ : ∃ g : Nat, (i : Int) - (f : Int) = (g : Int) := ⟨i - f, by omega⟩
          have HG : Hid (g = i - f) := by show _ = _; omega
          have hg2 : g ≤ 254 := by omega
          have HBD : Hid (isLab ((s.data.toList.drop f).take (i - f)) = false → C = 0) := fun q => by rw [HC.out]; exact hS.out.1.bad HI.out HE.out q
          have hB : ∃ q1 : Bool, (decide ((i : Int) < (s.size : Int)) = q1) ∧ ∀ hlt : i < s.size, ((((s[i]'hlt).toNat : Nat) : Int) == 46) = true := ⟨_, rfl, fun hlt => by
            rw [u8_46]
            by_cases h : (s[i]'hlt) = 46
            · rw [h]; rfl
            · exact absurd ⟨hlt, h⟩ hA⟩
          obtain ⟨-, -, hB⟩ := hB
          clear hA
          go_upto_region 8 with fail
          go_cut [29] from 20 to 29 (fun v29 wc => v29 = .bool false ∧ wc = w)
          case first =>
            by_cases hlt : i < s.size
            · have d1 := hB hlt
              clear hB
              go_wp2
              go_meet
              exact ⟨by rw [bne, d1]; rfl, rfl⟩
            · clear hB
              go_wp2
              go_meet
              exact ⟨rfl, rfl⟩
          case rest =>
          obtain ⟨rfl, hwc⟩ := hcut
          subst hwc
          clear hB
          by_cases h1 : g < 1
          · have HZ : Hid (C = 0) := HBD.out (isLab_small (.inl (by have := HG.out; simp; omega)))
            go_wp2
            go_ret
            exact ⟨by rw [HZ.out]; rfl, rfl⟩
          · obtain ⟨r1, r2, r3⟩ := run_get (l := s.data.toList) (f := f) (i := i) (by have := HG.out; omega) HI.out
            have hfs : f < s.size := by have := HG.out; have := HI.out; have := HSL.out; omega
            obtain ⟨m, hm⟩ : ∃ m : Nat, (i : Int) - 1 = (m : Int) := ⟨i - 1, by have := HG.out; omega⟩
            have hms : m < s.size := by have := HI.out; have := HSL.out; omega
            have R2 : Hid (((s.data.toList.drop f).take (i - f))[0]? = some (s[f]'hfs)) := by show _ = _; rw [r2, ba_get s f hfs]
            have R3 : Hid (((s.data.toList.drop f).take (i - f))[((s.data.toList.drop f).take (i - f)).length - 1]? = some (s[m]'hms)) := by
              show _ = _
              rw [r1, r3, show i - 1 = m by omega, ba_get s m hms]
            have R1 : Hid (((s.data.toList.drop f).take (i - f)).length = g) := by show _ = _; rw [r1, HG.out]
            clear r1 r2 r3
            have h1' : 1 ≤ g := by omega
            by_cases h2 : 63 < g
            · have HZ : Hid (C = 0) := HBD.out (isLab_small (.inr (by rw [R1.out]; exact h2)))
              go_wp2
              go_ret
              exact ⟨by rw [HZ.out]; rfl, rfl⟩
            · have h2' : g ≤ 63 := by omega
              by_cases h3 : (s[f]'hfs) = 45
              · have HZ : Hid (C = 0) := HBD.out (isLab_head (by rw [R2.out, h3]))
                have d1 : ((((s[f]'hfs).toNat : Nat) : Int) == 45) = true := by rw [u8_45, h3]; rfl
                clear h3
                go_wp2
                go_ret
                exact ⟨by rw [HZ.out]; rfl, rfl⟩
              · have d1 : ((((s[f]'hfs).toNat : Nat) : Int) == 45) = false := by rw [u8_45]; simpa using h3
                have H3 : Hid ((s[f]'hfs) ≠ 45) := h3
                clear h3
                by_cases h4 : (s[m]'hms) = 45
                · have HZ : Hid (C = 0) := HBD.out (isLab_last (by rw [R3.out, h4]))
                  have d2 : ((((s[m]'hms).toNat : Nat) : Int) == 45) = true := by rw [u8_45, h4]; rfl
                  clear h4
                  go_wp2
                  go_ret
                  exact ⟨by rw [HZ.out]; rfl, rfl⟩
                · have d2 : ((((s[m]'hms).toNat : Nat) : Int) == 45) = false := by rw [u8_45]; simpa using h4
                  have HOK : Hid (isLab ((s.data.toList.drop f).take (i - f)) = true) := isLab_ok (by rw [R1.out]; exact h1') (by rw [R1.out]; exact h2') (by rw [R2.out]; intro e; exact H3.out (Option.some.inj e)) (by rw [R3.out]; intro e; exact h4 (Option.some.inj e)) (List.all_eq_true.2 hS.out.1.run)
                  clear h4
                  go_wp2
                  refine ⟨⟨n + 1, i + 1, i + 1, by go_num, by go_num, by go_num, by omega, by omega, by omega, hS.out.1.next HI.out HE.out HOK.out, fun h => by omega⟩, by simp [intOf]; omega⟩
end Go.Proofs.YtbbopehpmnebiaaGreatDoor
