/-
  The document's reader: word, hex.
-/
import Derived.Test.YtlhcadfcgibkdaaDoorQsA
import Derived.Test.YtlhcadfcgibkdaaDoorPsD
import Derived.Deep.LoopGhost
namespace Go.Proofs.YtlhcadfcgibkdaaDoor
open Go.RowKit
set_option linter.unusedVariables false
set_option maxRecDepth 100000

theorem chg_two {w wr : World} {p n : Nat} {u v : Value} (h : Chg (One p) w wr) : Chg (One p) w (((wr.drewN n).setCell ⟨p, 2, none⟩ u).setCell ⟨p, 1, none⟩ v) := ((h.trans (drewN_non _ n) (fun _ _ x => x.elim)).trans (chg_to 2 _) (fun _ _ x => x)).trans (chg_to 1 _) (fun _ _ x => x)

set_option maxHeartbeats 2000000 in
theorem rword_good (p : Nat) (s : ByteArray) (b : Nat) (w : World) (h : QR w p s ⟨b, false⟩) (hs : s.size ≤ 1024) :
    Calls Tryd.prog 34 #[.pointer (some ⟨p, 0, none⟩)] w fun e w' => ∃ T : ByteArray, e = .returned (.string T) ∧ T.size ≤ 1024 ∧ ((wdR s.data.toList ⟨b, false⟩).bad = false → T = ⟨(wdT s.data.toList b).toArray⟩) ∧ QR w' p s (wdR s.data.toList ⟨b, false⟩) ∧ Chg (One p) w w' := by
  have hb : b ≤ s.size := h.le
  obtain ⟨c0, c1, c2, -, -⟩ := h.cells
  have H : Hid (QR w p s ⟨b, false⟩) := h
  clear h
  go_enter Tryd.func34, Tryd.ntmps34
  go_wp2_with fail
  clear c0 c1 c2
  go_loopg [] (s.size - b) (fun m wr => ∃ q : Nat, b ≤ q ∧ m = s.size - q ∧ QR wr p s ⟨q, false⟩ ∧ Chg (One p) w wr ∧ ∀ (j : Nat) (h : j < s.size), b ≤ j → j < q → letter (s[j]'h).toNat = true)
  case atStart => exact ⟨b, Nat.le_refl _, rfl, H.out, Chg.refl _ _, fun j h h1 h2 => by omega⟩
  case round =>
    obtain ⟨q, hbq, hm, hP, hC, hL⟩ := hrel
    obtain ⟨c0, c1, c2, f1, f2⟩ := hP.cells
    have hq : q ≤ s.size := hP.le
    simp only at c1 c2
    have HP : Hid (QR wr p s ⟨q, false⟩ ∧ Chg (One p) w wr ∧ gk = s.size - q ∧ ∀ (j : Nat) (h : j < s.size), b ≤ j → j < q → letter (s[j]'h).toNat = true) := ⟨hP, hC, hm, hL⟩
    clear hP hC hm hL
    by_cases hgo : ∃ h : q < s.size, letter (s[q]'h).toNat = true
    · obtain ⟨hlt, hle⟩ := hgo
      have hlt' : (q : Int) < (s.size : Int) := by omega
      obtain ⟨c, hc⟩ : ∃ c : Int, c = ((s[q]'hlt).toNat : Int) := ⟨_, rfl⟩
      have hix := run_at s q hlt c hc
      rw [← hc] at hle
      have HC : Hid (c = ((s[q]'hlt).toNat : Int) ∧ letter c = true) := ⟨hc, hle⟩
      have hin := fun n => letter_any c (wr.drewN n)
      rw [hle] at hin
      clear hc hle
      go_wp2_with fail
      go_quiet ((go_at_call 45; exact Calls.quiet_of_same (hin _)))
      go_wp2_with fail
      go_roundg (s.size - (q + 1))
      case measure => have := HP.out.2.2.1; omega
      case rel =>
        refine ⟨q + 1, by omega, rfl, HP.out.1.inc (by omega), chg_inc HP.out.2.1, fun j h h1 h2 => ?_⟩
        by_cases hj : j = q
        · subst hj; have := HC.out.2; rw [HC.out.1] at this; exact this
        · exact HP.out.2.2.2 j h h1 (by omega)
    · have hen : q = s.size ∨ ∃ h : q < s.size, letter (s[q]'h).toNat = false := by
        by_cases hlt : q < s.size
        · right
          exact ⟨hlt, Bool.eq_false_iff.2 (fun x => hgo ⟨hlt, x⟩)⟩
        · left; omega
      clear hgo
      obtain ⟨e1, e2⟩ := wdT_is hbq hq HP.out.2.2.2 hen
      obtain ⟨T, hT⟩ : ∃ T : ByteArray, T = ⟨(wdT s.data.toList b).toArray⟩ := ⟨_, rfl⟩
      have hTl : T.data.toList = wdT s.data.toList b := by rw [hT]
      have hTs : T.size ≤ 1024 := by
        have : T.size = T.data.toList.length := by simp
        rw [this, hTl, e2]; omega
      have HT : Hid (s.extract b q = T ∧ T = ⟨(wdT s.data.toList b).toArray⟩ ∧ T.data.toList = wdT s.data.toList b ∧ b + (wdT s.data.toList b).length = q) := ⟨by rw [hT]; exact ex_wd hbq hq e1, hT, hTl, by omega⟩
      have hwx : ∀ W, Calls Tryd.prog 27 #[.string (s.extract b q)] W fun e w' => e = .returned (.bool (isWd T.data.toList)) ∧ w' = W := by
        intro W
        rw [HT.out.1]
        exact word_any T _ (by omega)
      clear e1 e2 hT hTl
      rcases hen with hen | ⟨hlt, hen⟩
      · have hlt' : decide (q < s.size) = false := by simp; omega
        clear hen
        cases hwd : isWd T.data.toList
        · rw [hwd] at hwx
          have HR : Hid (wdR s.data.toList ⟨b, false⟩ = ⟨b, true⟩) := by
            show _ = _
            unfold wdR
            rw [if_neg (by simp), if_neg]
            rw [← HT.out.2.2.1, hwd]; simp
          go_wp2_with fail
          go_quiet (fail)
          go_wp2_with fail
          go_quiet ((go_at_call 27; exact (hwx _).mono fun e w' ⟨he, hw⟩ => ⟨he, _, hw⟩))
          go_wp2_with fail
          go_ret
          rw [HR.out]
          exact ⟨_, rfl, by decide, fun e => (by cases e), (HP.out.1.drewN _).fail hb, chg_two HP.out.2.1⟩
        · rw [hwd] at hwx
          have HR : Hid (wdR s.data.toList ⟨b, false⟩ = ⟨q, false⟩) := by
            show _ = _
            unfold wdR
            rw [if_neg (by simp), if_pos (by rw [← HT.out.2.2.1, hwd])]
            simp only
            rw [HT.out.2.2.2]
          go_wp2_with fail
          go_quiet (fail)
          go_wp2_with fail
          go_quiet ((go_at_call 27; exact (hwx _).mono fun e w' ⟨he, hw⟩ => ⟨he, _, hw⟩))
          go_wp2_with fail
          go_quiet (fail)
          go_wp2_with fail
          go_ret
          rw [HR.out]
          exact ⟨_, rfl, by rw [HT.out.1]; exact hTs, fun _ => by rw [HT.out.1, HT.out.2.1], ⟨HP.out.1.blk, HP.out.1.le⟩, HP.out.2.1.trans (S' := Non) ⟨rfl, rfl, rfl, Nat.le_refl _, fun _ _ _ => rfl⟩ (fun _ _ x => x.elim)⟩
      · have hlt' : (q : Int) < (s.size : Int) := by omega
        obtain ⟨c, hc⟩ : ∃ c : Int, c = ((s[q]'hlt).toNat : Int) := ⟨_, rfl⟩
        have hix := run_at s q hlt c hc
        rw [← hc] at hen
        have hin := fun n => letter_any c (wr.drewN n)
        rw [hen] at hin
        clear hc hen
        cases hwd : isWd T.data.toList
        · rw [hwd] at hwx
          have HR : Hid (wdR s.data.toList ⟨b, false⟩ = ⟨b, true⟩) := by
            show _ = _
            unfold wdR
            rw [if_neg (by simp), if_neg]
            rw [← HT.out.2.2.1, hwd]; simp
          go_wp2_with fail
          go_quiet ((go_at_call 45; exact Calls.quiet_of_same (hin _)))
          go_wp2_with fail
          go_quiet ((go_at_call 27; exact (hwx _).mono fun e w' ⟨he, hw⟩ => ⟨he, _, hw⟩))
          go_wp2_with fail
          go_ret
          rw [HR.out]
          exact ⟨_, rfl, by decide, fun e => (by cases e), (HP.out.1.drewN _).fail hb, chg_two HP.out.2.1⟩
        · rw [hwd] at hwx
          have HR : Hid (wdR s.data.toList ⟨b, false⟩ = ⟨q, false⟩) := by
            show _ = _
            unfold wdR
            rw [if_neg (by simp), if_pos (by rw [← HT.out.2.2.1, hwd])]
            simp only
            rw [HT.out.2.2.2]
          go_wp2_with fail
          go_quiet ((go_at_call 45; exact Calls.quiet_of_same (hin _)))
          go_wp2_with fail
          go_quiet ((go_at_call 27; exact (hwx _).mono fun e w' ⟨he, hw⟩ => ⟨he, _, hw⟩))
          go_wp2_with fail
          go_quiet (fail)
          go_wp2_with fail
          go_ret
          rw [HR.out]
          exact ⟨_, rfl, by rw [HT.out.1]; exact hTs, fun _ => by rw [HT.out.1, HT.out.2.1], ⟨HP.out.1.blk, HP.out.1.le⟩, HP.out.2.1.trans (S' := Non) ⟨rfl, rfl, rfl, Nat.le_refl _, fun _ _ _ => rfl⟩ (fun _ _ x => x.elim)⟩

set_option maxHeartbeats 1000000 in
theorem rword_bad (p : Nat) (s : ByteArray) (b : Nat) (w : World) (h : QR w p s ⟨b, true⟩) (hs : s.size ≤ 1024) :
    Calls Tryd.prog 34 #[.pointer (some ⟨p, 0, none⟩)] w fun e w' => e = .returned (.string ⟨#[]⟩) ∧ QR w' p s ⟨b, true⟩ ∧ Chg (One p) w w' := by
  have hb : b ≤ s.size := h.le
  obtain ⟨c0, c1, c2, -, -⟩ := h.cells
  have H : Hid (QR w p s ⟨b, true⟩) := h
  clear h
  go_enter Tryd.func34, Tryd.ntmps34
  go_wp2_with fail
  clear c0 c1 c2
  go_loopg [] 0 (fun m wr => QR wr p s ⟨b, true⟩ ∧ Chg (One p) w wr)
  case atStart => exact ⟨H.out, Chg.refl _ _⟩
  case round =>
    obtain ⟨hP, hC⟩ := hrel
    obtain ⟨c0, c1, c2, f1, f2⟩ := hP.cells
    have HP : Hid (QR wr p s ⟨b, true⟩ ∧ Chg (One p) w wr) := ⟨hP, hC⟩
    have hwx : ∀ W, Calls Tryd.prog 27 #[.string ByteArray.empty] W fun e w' => e = .returned (.bool false) ∧ w' = W := fun W => word_any ByteArray.empty W (by decide)
    clear hP hC
    go_wp2_with fail
    go_quiet (fail)
    go_wp2_with fail
    go_quiet ((go_at_call 27; exact (hwx _).mono fun e w' ⟨he, hw⟩ => ⟨he, _, hw⟩))
    go_wp2_with fail
    go_ret
    exact ⟨rfl, ⟨HP.out.1.blk, HP.out.1.le⟩, HP.out.2.trans (S' := Non) ⟨rfl, rfl, rfl, Nat.le_refl _, fun _ _ _ => rfl⟩ (fun _ _ x => x.elim)⟩

theorem rword_rd (p : Nat) (s : ByteArray) (r : RS) (w : World) (h : QR w p s r) (hs : s.size ≤ 1024) :
    Calls Tryd.prog 34 #[.pointer (some ⟨p, 0, none⟩)] w fun e w' => ∃ T : ByteArray, e = .returned (.string T) ∧ T.size ≤ 1024 ∧ ((wdR s.data.toList r).bad = false → T = ⟨(wdT s.data.toList r.pos).toArray⟩) ∧ QR w' p s (wdR s.data.toList r) ∧ Chg (One p) w w' := by
  obtain ⟨b, bad⟩ := r
  cases bad
  · exact rword_good p s b w h hs
  · refine (rword_bad p s b w h hs).mono ?_
    rintro e w' ⟨rfl, h1, h2⟩
    rw [wdR_bad rfl]
    exact ⟨_, rfl, by decide, fun e => (by cases e), h1, h2⟩

theorem hex_rd (c : UInt8) (W : World) : Calls Tryd.prog 89 #[.int .u8 c.toNat] W fun e w' => e = .returned (.int .i64 (hexI c)) ∧ w' = W := by
  have hc := c.toNat_lt
  have hI : hexI c = if 48 ≤ c.toNat ∧ c.toNat ≤ 57 then ((c.toNat : Int) - 48) else if 97 ≤ c.toNat ∧ c.toNat ≤ 102 then ((c.toNat : Int) - 97 + 10) else -1 := by
    unfold hexI hexV
    by_cases h1 : 48 ≤ c.toNat ∧ c.toNat ≤ 57
    · rw [if_pos h1, if_pos h1]; simp only; omega
    · rw [if_neg h1, if_neg h1]
      by_cases h2 : 97 ≤ c.toNat ∧ c.toNat ≤ 102
      · rw [if_pos h2, if_pos h2]; simp only; omega
      · rw [if_neg h2, if_neg h2]
  obtain ⟨ci, hci⟩ : ∃ ci : Int, ci = (c.toNat : Int) := ⟨_, rfl⟩
  have h0 : 0 ≤ ci := by omega
  have h255 : ci ≤ 255 := by omega
  have hI2 : hexI c = if 48 ≤ ci ∧ ci ≤ 57 then (ci - 48) else if 97 ≤ ci ∧ ci ≤ 102 then (ci - 97 + 10) else -1 := by
    rw [hI]
    have e1 : (48 ≤ c.toNat ∧ c.toNat ≤ 57) ↔ (48 ≤ ci ∧ ci ≤ 57) := by omega
    have e2 : (97 ≤ c.toNat ∧ c.toNat ≤ 102) ↔ (97 ≤ ci ∧ ci ≤ 102) := by omega
    simp only [e1, e2, hci]
  rw [hI2, ← hci]
  clear hI hI2 hci hc
  by_cases h1 : 48 ≤ ci <;> by_cases h2 : ci ≤ 57 <;> by_cases h3 : 97 ≤ ci <;> by_cases h4 : ci ≤ 102
  all_goals first
    | (exfalso; omega)
    | (go_enter Tryd.func89, Tryd.ntmps89
       go_wp2
       all_goals (go_ret; exact ⟨rfl, rfl⟩))
end Go.Proofs.YtlhcadfcgibkdaaDoor
