/-
  The program's reader: word.
-/
import Derived.Test.YtlhcadfcgibkdaaDoorPsA
import Derived.Test.YtlhcadfcgibkdaaDoorShelf
import Derived.Deep.LoopGhost
import Derived.Deep.CutBlock
namespace Go.Proofs.YtlhcadfcgibkdaaDoor
open Go.RowKit
set_option linter.unusedVariables false
set_option maxRecDepth 100000

theorem ret_str {a b : ByteArray} (h : a = b) : Ending.returned (.string a) = .returned (.string b) := by rw [h]

theorem chg_below {w w' : World} (h : Below w.heap.size w w') : Chg Non w w' := ⟨h.os, h.tape, h.output, h.size, fun k hk _ => h.block k hk⟩

theorem clone_any (s : ByteArray) (w : World) (hs : s.size ≤ 1024) : Calls Tryd.prog 37 #[.string s] w fun e w' => e = .returned (.string s) ∧ Chg Non w w' := by
  go_enter Tryd.func37, Tryd.ntmps37
  go_wp2_with fail
  refine (Tryd.stringslite_Clone s _ (by omega)).mono ?_
  rintro e w1 ⟨rfl, hb⟩
  have H : Hid (Chg Non w w1) := chg_below hb
  clear hb
  go_wp2
  go_ret
  exact ⟨rfl, H.out⟩

/-- The letters from a place on: what is read so far, and that nothing more is. -/
theorem wdT_is {s : ByteArray} {b q : Nat} (hbq : b ≤ q) (hq : q ≤ s.size) (hl : ∀ (j : Nat) (h : j < s.size), b ≤ j → j < q → letter (s[j]'h).toNat = true) (he : q = s.size ∨ ∃ h : q < s.size, letter (s[q]'h).toNat = false) :
    wdT s.data.toList b = (s.data.toList.drop b).take (q - b) ∧ (wdT s.data.toList b).length = q - b := by
  have hlen : s.data.toList.length = s.size := by simp
  have e1 : s.data.toList.drop b = (s.data.toList.drop b).take (q - b) ++ s.data.toList.drop q := by
    have := (List.take_append_drop (q - b) (s.data.toList.drop b)).symm
    rwa [List.drop_drop, show b + (q - b) = q by omega] at this
  have e2 : wdT s.data.toList b = (s.data.toList.drop b).take (q - b) := by
    have h1 : ∀ c ∈ (s.data.toList.drop b).take (q - b), letter c.toNat = true := by
      intro c hc
      obtain ⟨j, hj, rfl⟩ := List.mem_iff_getElem.1 hc
      simp only [List.length_take, List.length_drop] at hj
      rw [List.getElem_take, List.getElem_drop]
      exact hl (b + j) (by omega) (by omega) (by omega)
    have e3 : wdT s.data.toList b = ((s.data.toList.drop b).take (q - b) ++ s.data.toList.drop q).takeWhile (fun c => letter c.toNat) := by rw [← e1]; rfl
    rw [e3, List.takeWhile_append_of_pos h1]
    have h2 : (s.data.toList.drop q).takeWhile (fun c => letter c.toNat) = [] := by
      rcases he with he | ⟨h, he⟩
      · rw [List.drop_eq_nil_of_le (by omega)]; rfl
      · rw [drop_get (get_ba h), List.takeWhile_cons, he]; rfl
    rw [h2]
    simp
  refine ⟨e2, ?_⟩
  rw [e2]
  simp
  omega

theorem ex_wd {s : ByteArray} {b q : Nat} (hbq : b ≤ q) (hq : q ≤ s.size) (h : wdT s.data.toList b = (s.data.toList.drop b).take (q - b)) : s.extract b q = ⟨(wdT s.data.toList b).toArray⟩ := by
  rw [h]
  apply ByteArray.ext
  apply Array.ext'
  rw [Lib.extract_data]

set_option maxHeartbeats 1000000 in
theorem word_good (p : Nat) (s : ByteArray) (b : Nat) (w : World) (h : PR w p s ⟨b, false⟩) (hs : s.size ≤ 1024) :
    Calls Tryd.prog 50 #[.pointer (some ⟨p, 0, none⟩)] w fun e w' => e = .returned (.string ⟨(wdT s.data.toList b).toArray⟩) ∧ PR w' p s (wdR s.data.toList ⟨b, false⟩) ∧ Chg (One p) w w' := by
  have hb := h.le
  simp only at hb
  obtain ⟨c0, c1, c2, -, -⟩ := h.cells
  have H : Hid (PR w p s ⟨b, false⟩) := h
  clear h
  go_enter Tryd.func50, Tryd.ntmps50
  go_wp2_with fail
  clear c0 c1 c2
  go_loopg [] (s.size - b) (fun m wr => ∃ q : Nat, b ≤ q ∧ m = s.size - q ∧ PR wr p s ⟨q, false⟩ ∧ Chg (One p) w wr ∧ ∀ (j : Nat) (h : j < s.size), b ≤ j → j < q → letter (s[j]'h).toNat = true)
  case atStart => exact ⟨b, Nat.le_refl _, rfl, H.out, Chg.refl _ _, fun j h h1 h2 => by omega⟩
  case round =>
    obtain ⟨q, hbq, hm, hP, hC, hL⟩ := hrel
    obtain ⟨c0, c1, c2, f1, -⟩ := hP.cells
    have hq := hP.le
    simp only at hq c1 c2
    have HP : Hid (PR wr p s ⟨q, false⟩ ∧ Chg (One p) w wr ∧ gk = s.size - q ∧ ∀ (j : Nat) (h : j < s.size), b ≤ j → j < q → letter (s[j]'h).toNat = true) := ⟨hP, hC, hm, hL⟩
    have hov := fun n => over_any p s ⟨q, false⟩ (wr.drewN n) (hP.drewN n) hs
    clear hP hC hm hL
    by_cases hgo : ∃ h : q < s.size, letter (s[q]'h).toNat = true
    · obtain ⟨hlt, hle⟩ := hgo
      have ho : ovr s ⟨q, false⟩ = false := by unfold ovr; simp; omega
      rw [ho] at hov
      obtain ⟨c, hc⟩ : ∃ c : Int, c = ((s[q]'hlt).toNat : Int) := ⟨_, rfl⟩
      have hix := run_at s q hlt c hc
      rw [← hc] at hle
      have HC : Hid (c = ((s[q]'hlt).toNat : Int) ∧ letter c = true) := ⟨hc, hle⟩
      have hin := fun n => inWord_any c (wr.drewN n)
      rw [hle] at hin
      clear hc ho hle
      go_wp2_with fail
      go_quiet (first | (go_at_call 51; exact Calls.quiet_of (hov _)) | (go_at_call 56; exact Calls.quiet_of_same (hin _)))
      go_wp2_with fail
      go_roundg (s.size - (q + 1))
      case measure => have := HP.out.2.2.1; omega
      case rel =>
        refine ⟨q + 1, by omega, rfl, ?_, ?_, fun j h h1 h2 => ?_⟩
        · have := (HP.out.1.drewN nq).to (k := q + 1) (by omega)
          exact_mod_cast this
        · exact (HP.out.2.1.trans (drewN_non _ nq) (fun _ _ x => x.elim)).trans (chg_to 1 _) (fun _ _ x => x)
        · by_cases hj : j = q
          · subst hj; have := HC.out.2; rw [HC.out.1] at this; exact this
          · exact HP.out.2.2.2 j h h1 (by omega)
    · have hen : q = s.size ∨ ∃ h : q < s.size, letter (s[q]'h).toNat = false := by
        by_cases hlt : q < s.size
        · right
          exact ⟨hlt, Bool.eq_false_iff.2 (fun x => hgo ⟨hlt, x⟩)⟩
        · left; omega
      clear hgo
      obtain ⟨e1, e2⟩ := wdT_is hbq hq HP.out.2.2.2 hen
      obtain ⟨T, hT⟩ : ∃ T : ByteArray, T = ⟨(wdT s.data.toList b).toArray⟩ := ⟨_, rfl⟩
      have hTl : T.data.toList = wdT s.data.toList b := by rw [hT]
      have hTs : T.size ≤ 1024 := by
        have : T.size = T.data.toList.length := by simp
        rw [this, hTl, e2]; omega
      have HT : Hid (s.extract b q = T ∧ T = ⟨(wdT s.data.toList b).toArray⟩ ∧ T.data.toList = wdT s.data.toList b ∧ b + (wdT s.data.toList b).length = q) := ⟨by rw [hT]; exact ex_wd hbq hq e1, hT, hTl, by omega⟩
      clear e1 e2 hT hTl
      rcases hen with hen | ⟨hlt, hen⟩
      · have ho : ovr s ⟨q, false⟩ = true := by unfold ovr; simp [hen]
        rw [ho] at hov
        clear ho hen
        go_wp2_with fail
        go_quiet ((go_at_call 51; exact Calls.quiet_of (hov _)))
        go_wp2_with fail
        go_quiet (fail)
        go_wp2_with fail
        rw [HT.out.1]
        refine (isWord_any T _ (by omega)).mono ?_
        rintro e w1 ⟨rfl, hw1⟩
        have H1 : Hid (PR w1 p s ⟨q, false⟩ ∧ Chg (One p) w w1) := by
          subst hw1
          exact ⟨⟨HP.out.1.blk, HP.out.1.le⟩, HP.out.2.1.trans (S' := Non) ⟨rfl, rfl, rfl, Nat.le_refl _, fun _ _ _ => rfl⟩ (fun _ _ x => x.elim)⟩
        clear hw1 hov
        cases hwd : isWd T.data.toList
        · go_wp2_with fail
          refine (fail_any p s ⟨q, false⟩ b _ H1.out.1 hb).mono ?_
          rintro e w2 ⟨rfl, h2, hc2⟩
          have H2 : Hid (PR w2 p s ⟨b, true⟩ ∧ Chg (One p) w w2) := ⟨h2, H1.out.2.trans hc2 (fun _ _ x => x)⟩
          clear h2 hc2
          go_wp2_with fail
          refine (clone_any T _ hTs).mono ?_
          rintro e w3 ⟨rfl, hc3⟩
          have H3 : Hid (PR w3 p s (wdR s.data.toList ⟨b, false⟩) ∧ Chg (One p) w w3) := by
            refine ⟨(H2.out.1.non hc3).eq ?_, H2.out.2.trans hc3 (fun _ _ x => x.elim)⟩
            unfold wdR
            rw [if_neg (by simp), if_neg]
            rw [← HT.out.2.2.1, hwd]; simp
          clear hc3
          go_wp2
          go_ret
          exact ⟨ret_str HT.out.2.1, H3.out⟩
        · go_wp2_with fail
          refine (clone_any T _ hTs).mono ?_
          rintro e w3 ⟨rfl, hc3⟩
          have H3 : Hid (PR w3 p s (wdR s.data.toList ⟨b, false⟩) ∧ Chg (One p) w w3) := by
            refine ⟨(H1.out.1.non hc3).eq ?_, H1.out.2.trans hc3 (fun _ _ x => x.elim)⟩
            unfold wdR
            rw [if_neg (by simp), if_pos (by rw [← HT.out.2.2.1, hwd])]
            simp only
            rw [HT.out.2.2.2]
          clear hc3
          go_wp2
          go_ret
          exact ⟨ret_str HT.out.2.1, H3.out⟩
      · have ho : ovr s ⟨q, false⟩ = false := by unfold ovr; simp; omega
        rw [ho] at hov
        obtain ⟨c, hc⟩ : ∃ c : Int, c = ((s[q]'hlt).toNat : Int) := ⟨_, rfl⟩
        have hix := run_at s q hlt c hc
        rw [← hc] at hen
        have hin := fun n => inWord_any c (wr.drewN n)
        rw [hen] at hin
        clear hc ho hen
        go_wp2_with fail
        go_quiet (first | (go_at_call 51; exact Calls.quiet_of (hov _)) | (go_at_call 56; exact Calls.quiet_of_same (hin _)))
        go_wp2_with fail
        go_quiet (fail)
        go_wp2_with fail
        rw [HT.out.1]
        refine (isWord_any T _ (by omega)).mono ?_
        rintro e w1 ⟨rfl, hw1⟩
        have H1 : Hid (PR w1 p s ⟨q, false⟩ ∧ Chg (One p) w w1) := by
          subst hw1
          exact ⟨⟨HP.out.1.blk, HP.out.1.le⟩, HP.out.2.1.trans (S' := Non) ⟨rfl, rfl, rfl, Nat.le_refl _, fun _ _ _ => rfl⟩ (fun _ _ x => x.elim)⟩
        clear hw1 hov
        cases hwd : isWd T.data.toList
        · go_wp2_with fail
          refine (fail_any p s ⟨q, false⟩ b _ H1.out.1 hb).mono ?_
          rintro e w2 ⟨rfl, h2, hc2⟩
          have H2 : Hid (PR w2 p s ⟨b, true⟩ ∧ Chg (One p) w w2) := ⟨h2, H1.out.2.trans hc2 (fun _ _ x => x)⟩
          clear h2 hc2
          go_wp2_with fail
          refine (clone_any T _ hTs).mono ?_
          rintro e w3 ⟨rfl, hc3⟩
          have H3 : Hid (PR w3 p s (wdR s.data.toList ⟨b, false⟩) ∧ Chg (One p) w w3) := by
            refine ⟨(H2.out.1.non hc3).eq ?_, H2.out.2.trans hc3 (fun _ _ x => x.elim)⟩
            unfold wdR
            rw [if_neg (by simp), if_neg]
            rw [← HT.out.2.2.1, hwd]; simp
          clear hc3
          go_wp2
          go_ret
          exact ⟨ret_str HT.out.2.1, H3.out⟩
        · go_wp2_with fail
          refine (clone_any T _ hTs).mono ?_
          rintro e w3 ⟨rfl, hc3⟩
          have H3 : Hid (PR w3 p s (wdR s.data.toList ⟨b, false⟩) ∧ Chg (One p) w w3) := by
            refine ⟨(H1.out.1.non hc3).eq ?_, H1.out.2.trans hc3 (fun _ _ x => x.elim)⟩
            unfold wdR
            rw [if_neg (by simp), if_pos (by rw [← HT.out.2.2.1, hwd])]
            simp only
            rw [HT.out.2.2.2]
          clear hc3
          go_wp2
          go_ret
          exact ⟨ret_str HT.out.2.1, H3.out⟩

set_option maxHeartbeats 1000000 in
theorem word_bad (p : Nat) (s : ByteArray) (b : Nat) (w : World) (h : PR w p s ⟨b, true⟩) (hs : s.size ≤ 1024) :
    Calls Tryd.prog 50 #[.pointer (some ⟨p, 0, none⟩)] w fun e w' => e = .returned (.string ByteArray.empty) ∧ PR w' p s ⟨b, true⟩ ∧ Chg (One p) w w' := by
  have hb := h.le
  simp only at hb
  obtain ⟨c0, c1, c2, -, -⟩ := h.cells
  have H : Hid (PR w p s ⟨b, true⟩) := h
  clear h
  go_enter Tryd.func50, Tryd.ntmps50
  go_wp2_with fail
  clear c0 c1 c2
  go_loopg [] 0 (fun m wr => PR wr p s ⟨b, true⟩ ∧ Chg (One p) w wr)
  case atStart => exact ⟨H.out, Chg.refl _ _⟩
  case round =>
    obtain ⟨hP, hC⟩ := hrel
    obtain ⟨c0, c1, c2, f1, -⟩ := hP.cells
    have HP : Hid (PR wr p s ⟨b, true⟩ ∧ Chg (One p) w wr) := ⟨hP, hC⟩
    have hov := fun n => over_any p s ⟨b, true⟩ (wr.drewN n) (hP.drewN n) hs
    have ho : ovr s ⟨b, true⟩ = true := rfl
    rw [ho] at hov
    clear ho hP hC
    go_wp2_with fail
    go_quiet ((go_at_call 51; exact Calls.quiet_of (hov _)))
    go_wp2_with fail
    go_quiet (fail)
    go_wp2_with fail
    refine (isWord_any ByteArray.empty _ (by decide)).mono ?_
    rintro e w1 ⟨rfl, hw1⟩
    have H1 : Hid (PR w1 p s ⟨b, true⟩ ∧ Chg (One p) w w1) := by
      subst hw1
      exact ⟨⟨HP.out.1.blk, HP.out.1.le⟩, HP.out.2.trans (S' := Non) ⟨rfl, rfl, rfl, Nat.le_refl _, fun _ _ _ => rfl⟩ (fun _ _ x => x.elim)⟩
    clear hw1 hov
    have hwd : isWd ByteArray.empty.data.toList = false := rfl
    rw [hwd]
    go_wp2_with fail
    refine (fail_any p s ⟨b, true⟩ b _ H1.out.1 hb).mono ?_
    rintro e w2 ⟨rfl, h2, hc2⟩
    have H2 : Hid (PR w2 p s ⟨b, true⟩ ∧ Chg (One p) w w2) := ⟨h2, H1.out.2.trans hc2 (fun _ _ x => x)⟩
    clear h2 hc2
    go_wp2_with fail
    refine (clone_any ByteArray.empty _ (by decide)).mono ?_
    rintro e w3 ⟨rfl, hc3⟩
    have H3 : Hid (PR w3 p s ⟨b, true⟩ ∧ Chg (One p) w w3) := ⟨H2.out.1.non hc3, H2.out.2.trans hc3 (fun _ _ x => x.elim)⟩
    clear hc3
    go_wp2
    go_ret
    exact ⟨rfl, H3.out⟩

/-- The word from where it stands: exactly what wdT says where nothing was wrong. -/
theorem word_rd (p : Nat) (s : ByteArray) (r : RS) (w : World) (h : PR w p s r) (hs : s.size ≤ 1024) :
    Calls Tryd.prog 50 #[.pointer (some ⟨p, 0, none⟩)] w fun e w' => ∃ T : ByteArray, e = .returned (.string T) ∧ T.size ≤ 1024 ∧ (r.bad = false → T = ⟨(wdT s.data.toList r.pos).toArray⟩) ∧ PR w' p s (wdR s.data.toList r) ∧ Chg (One p) w w' := by
  obtain ⟨b, bad⟩ := r
  cases bad
  · refine (word_good p s b w h hs).mono ?_
    rintro e w' ⟨rfl, h1, h2⟩
    refine ⟨_, rfl, ?_, fun _ => rfl, h1, h2⟩
    have h3 : s.data.toList.length = s.size := by simp
    have h4 : b ≤ s.size := h.le
    have := wdT_pos s.data.toList b (by omega)
    rw [sz_arr]
    omega
  · refine (word_bad p s b w h hs).mono ?_
    rintro e w' ⟨rfl, h1, h2⟩
    exact ⟨_, rfl, by decide, fun e => (by cases e), h1, h2⟩
end Go.Proofs.YtlhcadfcgibkdaaDoor
