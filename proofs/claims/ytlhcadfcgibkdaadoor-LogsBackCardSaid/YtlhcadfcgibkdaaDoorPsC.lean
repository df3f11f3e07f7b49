/-
  The program's reader: number.
-/
import Derived.Test.YtlhcadfcgibkdaaDoorPsB
namespace Go.Proofs.YtlhcadfcgibkdaaDoor
open Go.RowKit
set_option linter.unusedVariables false
set_option maxRecDepth 100000

theorem numP_stop {S : List UInt8} {f : Nat} {b : Bool} {n p : Nat} (hf : 0 < f) (h : ∀ c, S[p]? = some c → digit c.toNat = false) : numP S f b n p = (p, n, !b) := by
  cases f with
  | zero => omega
  | succ f =>
    unfold numP
    cases hc : S[p]? with
    | none => rfl
    | some c => simp [h c hc]
theorem numP_fail {S : List UInt8} {f : Nat} {b : Bool} {n p : Nat} {c : UInt8} (hf : 0 < f) (hc : S[p]? = some c) (hd : digit c.toNat = true) (h : (b = true ∧ n = 0) ∨ (18446744073709551615 - (c.toNat - 48)) / 10 < n) : numP S f b n p = (p, 0, true) := by
  cases f with
  | zero => omega
  | succ f =>
    unfold numP
    rw [hc]
    simp only [hd, if_true]
    rw [if_pos]
    rcases h with ⟨h1, h2⟩ | h
    · simp [h1, h2]
    · simp [h]
theorem numP_go {S : List UInt8} {f : Nat} {b : Bool} {n p : Nat} {c : UInt8} (hc : S[p]? = some c) (hd : digit c.toNat = true) (h1 : ¬ (b = true ∧ n = 0)) (h2 : ¬ (18446744073709551615 - (c.toNat - 48)) / 10 < n) : numP S (f + 1) b n p = numP S f true (10 * n + (c.toNat - 48)) (p + 1) := by
  show (match S[p]? with | none => _ | some c => _) = _
  rw [hc]
  simp only [hd, if_true]
  rw [if_neg]
  simp only [Bool.or_eq_true, Bool.and_eq_true, beq_iff_eq, decide_eq_true_eq, not_or]
  exact ⟨h1, h2⟩

theorem PR.inc {w : World} {p : Nat} {s : ByteArray} {q n : Nat} (h : PR w p s ⟨q, false⟩) (hq : q + 1 ≤ s.size) : PR ((w.drewN n).setCell ⟨p, 1, none⟩ (.int .i64 ((q : Int) + 1))) p s ⟨q + 1, false⟩ := by
  have := (h.drewN n).to (k := q + 1) hq
  exact_mod_cast this
theorem chg_inc {w wr : World} {p n : Nat} {v : Value} (h : Chg (One p) w wr) : Chg (One p) w ((wr.drewN n).setCell ⟨p, 1, none⟩ v) := (h.trans (drewN_non _ n) (fun _ _ x => x.elim)).trans (chg_to 1 _) (fun _ _ x => x)
theorem chg_drewN {w wr w2 : World} {p n : Nat} (h : Chg (One p) w wr) (k : Chg (One p) (wr.drewN n) w2) : Chg (One p) w w2 := (h.trans (drewN_non _ n) (fun _ _ x => x.elim)).trans k (fun _ _ x => x)

/-- What a round of the number's loop holds. -/
structure NumI (w wr : World) (p : Nat) (s : ByteArray) (b q n : Nat) : Prop where
  rd : PR wr p s ⟨q, false⟩
  chg : Chg (One p) w wr
  le : b ≤ q
  lt : n < 18446744073709551616
  eq : ∃ f, s.size - q < f ∧ numP s.data.toList f (decide (b < q)) n q = numP s.data.toList (s.data.toList.length + 1) false 0 b

theorem nmR_good (s : ByteArray) (b : Nat) {q v : Nat} {x : Bool} (h : numP s.data.toList (s.data.toList.length + 1) false 0 b = (q, v, x)) : nmR s.data.toList ⟨b, false⟩ = (⟨q, x⟩, v) := by
  unfold nmR
  rw [if_neg (by simp)]
  simp only [h]

set_option maxHeartbeats 1000000 in
theorem number_good (p : Nat) (s : ByteArray) (b : Nat) (w : World) (h : PR w p s ⟨b, false⟩) (hs : s.size ≤ 1024) :
    Calls Tryd.prog 49 #[.pointer (some ⟨p, 0, none⟩)] w fun e w' => e = .returned (.int .u64 (nmR s.data.toList ⟨b, false⟩).2) ∧ PR w' p s (nmR s.data.toList ⟨b, false⟩).1 ∧ Chg (One p) w w' := by
  have hb : b ≤ s.size := h.le
  obtain ⟨c0, c1, c2, -, -⟩ := h.cells
  have H : Hid (PR w p s ⟨b, false⟩) := h
  clear h
  go_enter Tryd.func49, Tryd.ntmps49
  go_wp2_with fail
  clear c0 c1 c2
  go_loopg [4] (s.size - b) (fun m nv wr => ∃ q n : Nat, nv = .int .u64 n ∧ m = s.size - q ∧ NumI w wr p s b q n)
  case atStart => exact ⟨b, 0, rfl, rfl, H.out, Chg.refl _ _, Nat.le_refl _, by omega, s.data.toList.length + 1, by simp; omega, by simp⟩
  case round =>
    obtain ⟨q, n, rfl, hm, hI⟩ := hrel
    obtain ⟨c0, c1, c2, f1, -⟩ := hI.rd.cells
    have hq : q ≤ s.size := hI.rd.le
    have hbq : b ≤ q := hI.le
    have hn : (n : Int) ≤ 18446744073709551615 := by have := hI.lt; omega
    simp only at c1 c2
    have HP : Hid (NumI w wr p s b q n ∧ gk = s.size - q) := ⟨hI, hm⟩
    have hov := fun n => over_any p s ⟨q, false⟩ (wr.drewN n) (hI.rd.drewN n) hs
    clear hI hm
    by_cases hgo : ∃ h : q < s.size, digit (s[q]'h).toNat = true
    · obtain ⟨hlt, hle⟩ := hgo
      have ho : ovr s ⟨q, false⟩ = false := by unfold ovr; simp; omega
      rw [ho] at hov
      obtain ⟨cb, hcb⟩ : ∃ cb, cb = s[q]'hlt := ⟨_, rfl⟩
      obtain ⟨c, hc⟩ : ∃ c : Int, c = ((s[q]'hlt).toNat : Int) := ⟨_, rfl⟩
      have hix := run_at s q hlt c hc
      have hd48 := (digit_iff _).1 hle
      have HC : Hid (s.data.toList[q]? = some cb ∧ c = (cb.toNat : Int) ∧ digit cb.toNat = true) := ⟨by rw [hcb]; exact get_ba hlt, by rw [hcb]; exact hc, by rw [hcb]; exact hle⟩
      rw [← hc] at hle
      have hin := fun n => isDigit_any c (wr.drewN n)
      rw [hle] at hin
      have h1 : 48 ≤ c := by omega
      have h2 : c ≤ 57 := by omega
      clear hc ho hle hcb hd48
      by_cases hbn : b < q ∧ n = 0
      · have HR : Hid (nmR s.data.toList ⟨b, false⟩ = (⟨q, true⟩, 0)) := by
          obtain ⟨f, hf, he⟩ := HP.out.1.eq
          refine nmR_good s b ?_
          rw [← he]
          exact numP_fail (by omega) HC.out.1 HC.out.2.2 (.inl ⟨by simpa using hbn.1, hbn.2⟩)
        have hbq2 : (b : Int) < (q : Int) := by omega
        have hnz : ((n : Int) == 0) = true := by simp; omega
        clear hbn
        go_wp2_with fail
        go_quiet (first | (go_at_call 51; exact Calls.quiet_of (hov _)) | (go_at_call 69; exact Calls.quiet_of_same (hin _)))
        go_wp2_with fail
        go_quiet (fail)
        go_wp2_with fail
        refine (fail_any p s ⟨q, false⟩ q _ (HP.out.1.rd.drewN _) hq).mono ?_
        rintro e w2 ⟨rfl, h2, hc2⟩
        have H2 : Hid (PR w2 p s ⟨q, true⟩ ∧ Chg (One p) w w2) := ⟨h2, chg_drewN HP.out.1.chg hc2⟩
        clear h2 hc2
        go_wp2
        go_ret
        rw [HR.out]
        exact ⟨rfl, H2.out⟩
      · by_cases hof : (18446744073709551615 - (c - 48)) / 10 < (n : Int)
        · have HR : Hid (nmR s.data.toList ⟨b, false⟩ = (⟨q, true⟩, 0)) := by
            obtain ⟨f, hf, he⟩ := HP.out.1.eq
            refine nmR_good s b ?_
            rw [← he]
            have := HC.out.2.1
            exact numP_fail (by omega) HC.out.1 HC.out.2.2 (.inr (by omega))
          have hnz : ((n : Int) == 0) = false := by simp; omega
          go_wp2_with fail
          go_quiet (first | (go_at_call 51; exact Calls.quiet_of (hov _)) | (go_at_call 69; exact Calls.quiet_of_same (hin _)))
          go_wp2_with fail
          go_quiet (fail)
          go_wp2_with fail
          refine (fail_any p s ⟨q, false⟩ q _ (HP.out.1.rd.drewN _) hq).mono ?_
          rintro e w2 ⟨rfl, h2, hc2⟩
          have H2 : Hid (PR w2 p s ⟨q, true⟩ ∧ Chg (One p) w w2) := ⟨h2, chg_drewN HP.out.1.chg hc2⟩
          clear h2 hc2
          go_wp2
          go_ret
          rw [HR.out]
          exact ⟨rfl, H2.out⟩
        · have hof' : (n : Int) ≤ (18446744073709551615 - (c - 48)) / 10 := by omega
          have hmul : 10 * (n : Int) + (c - 48) ≤ 18446744073709551615 := by omega
          have HG : Hid (∃ f, s.size - (q + 1) < f ∧ numP s.data.toList f (decide (b < q + 1)) (10 * n + (cb.toNat - 48)) (q + 1) = numP s.data.toList (s.data.toList.length + 1) false 0 b) := by
            obtain ⟨f, hf, he⟩ := HP.out.1.eq
            obtain ⟨f, rfl⟩ : ∃ g, f = g + 1 := ⟨f - 1, by omega⟩
            refine ⟨f, by omega, ?_⟩
            have := HC.out.2.1
            rw [← he, numP_go HC.out.1 HC.out.2.2 (fun ⟨x, y⟩ => hbn ⟨by simpa using x, y⟩) (by omega)]
            have : decide (b < q + 1) = true := by simp; omega
            rw [this]
          clear hof
          by_cases hn0 : n = 0
          · have hbq2 : ¬ ((b : Int) < (q : Int)) := by omega
            have hnz : ((n : Int) == 0) = true := by simp; omega
            clear hbn
            go_wp2_with fail
            go_quiet (first | (go_at_call 51; exact Calls.quiet_of (hov _)) | (go_at_call 69; exact Calls.quiet_of_same (hin _)))
            go_wp2_with fail
            go_quiet (fail)
            go_wp2_with fail
            go_roundg (s.size - (q + 1))
            case measure => have := HP.out.2; omega
            case rel =>
              refine ⟨q + 1, 10 * n + (cb.toNat - 48), ?_, rfl, ?_, ?_, by omega, by have := HC.out.2.1; omega, ?_⟩
              · have := HC.out.2.1
                go_num
              · exact HP.out.1.rd.inc (by omega)
              · exact chg_inc HP.out.1.chg
              · exact HG.out
          · have hnz : ((n : Int) == 0) = false := by simp; omega
            clear hbn
            go_wp2_with fail
            go_quiet (first | (go_at_call 51; exact Calls.quiet_of (hov _)) | (go_at_call 69; exact Calls.quiet_of_same (hin _)))
            go_wp2_with fail
            go_quiet (fail)
            go_wp2_with fail
            go_roundg (s.size - (q + 1))
            case measure => have := HP.out.2; omega
            case rel =>
              refine ⟨q + 1, 10 * n + (cb.toNat - 48), ?_, rfl, ?_, ?_, by omega, by have := HC.out.2.1; omega, ?_⟩
              · have := HC.out.2.1
                go_num
              · exact HP.out.1.rd.inc (by omega)
              · exact chg_inc HP.out.1.chg
              · exact HG.out
    · have hst : ∀ c, s.data.toList[q]? = some c → digit c.toNat = false := by
        intro c hc
        have hlt : q < s.size := by have := get_lt hc; simpa using this
        rw [get_ba hlt] at hc
        cases hc
        exact Bool.eq_false_iff.2 (fun x => hgo ⟨hlt, x⟩)
      have HR : Hid (nmR s.data.toList ⟨b, false⟩ = (⟨q, !decide (b < q)⟩, n)) := by
        obtain ⟨f, hf, he⟩ := HP.out.1.eq
        refine nmR_good s b ?_
        rw [← he]
        exact numP_stop (by omega) hst
      by_cases hlt : q < s.size
      · have ho : ovr s ⟨q, false⟩ = false := by unfold ovr; simp; omega
        rw [ho] at hov
        obtain ⟨c, hc⟩ : ∃ c : Int, c = ((s[q]'hlt).toNat : Int) := ⟨_, rfl⟩
        have hix := run_at s q hlt c hc
        have hen := hst _ (get_ba hlt)
        rw [← hc] at hen
        have hin := fun n => isDigit_any c (wr.drewN n)
        rw [hen] at hin
        clear hc ho hen hst hgo
        by_cases hbq2 : b = q
        · have e2 : ((q : Int) == (b : Int)) = true := by simp; omega
          have HB : Hid (b = q) := hbq2
          clear hbq2
          go_wp2_with fail
          go_quiet (first | (go_at_call 51; exact Calls.quiet_of (hov _)) | (go_at_call 69; exact Calls.quiet_of_same (hin _)))
          go_wp2_with fail
          refine (fail_any p s ⟨q, false⟩ b _ (HP.out.1.rd.drewN _) hb).mono ?_
          rintro e w2 ⟨rfl, h2, hc2⟩
          have H2 : Hid (PR w2 p s ⟨b, true⟩ ∧ Chg (One p) w w2) := ⟨h2, chg_drewN HP.out.1.chg hc2⟩
          clear h2 hc2
          go_wp2
          go_ret
          have hd : (!decide (b < q)) = true := by simp; have := HB.out; omega
          rw [HR.out, hd, ← HB.out]
          exact ⟨rfl, H2.out⟩
        · have e2 : ((q : Int) == (b : Int)) = false := by simp; omega
          have HB : Hid (b < q) := by show b < q; omega
          clear hbq2
          go_wp2_with fail
          go_quiet (first | (go_at_call 51; exact Calls.quiet_of (hov _)) | (go_at_call 69; exact Calls.quiet_of_same (hin _)))
          go_wp2_with fail
          go_ret
          have hd : (!decide (b < q)) = false := by simp; exact HB.out
          rw [HR.out, hd]
          exact ⟨rfl, HP.out.1.rd.drewN _, HP.out.1.chg.trans (drewN_non _ _) (fun _ _ x => x.elim)⟩
      · have ho : ovr s ⟨q, false⟩ = true := by unfold ovr; simp; omega
        rw [ho] at hov
        clear ho hst hgo
        by_cases hbq2 : b = q
        · have e2 : ((q : Int) == (b : Int)) = true := by simp; omega
          have HB : Hid (b = q) := hbq2
          clear hbq2
          go_wp2_with fail
          go_quiet ((go_at_call 51; exact Calls.quiet_of (hov _)))
          go_wp2_with fail
          refine (fail_any p s ⟨q, false⟩ b _ (HP.out.1.rd.drewN _) hb).mono ?_
          rintro e w2 ⟨rfl, h2, hc2⟩
          have H2 : Hid (PR w2 p s ⟨b, true⟩ ∧ Chg (One p) w w2) := ⟨h2, chg_drewN HP.out.1.chg hc2⟩
          clear h2 hc2
          go_wp2
          go_ret
          have hd : (!decide (b < q)) = true := by simp; have := HB.out; omega
          rw [HR.out, hd, ← HB.out]
          exact ⟨rfl, H2.out⟩
        · have e2 : ((q : Int) == (b : Int)) = false := by simp; omega
          have HB : Hid (b < q) := by show b < q; omega
          clear hbq2
          go_wp2_with fail
          go_quiet ((go_at_call 51; exact Calls.quiet_of (hov _)))
          go_wp2_with fail
          go_ret
          have hd : (!decide (b < q)) = false := by simp; exact HB.out
          rw [HR.out, hd]
          exact ⟨rfl, HP.out.1.rd.drewN _, HP.out.1.chg.trans (drewN_non _ _) (fun _ _ x => x.elim)⟩

set_option maxHeartbeats 1000000 in
theorem number_bad (p : Nat) (s : ByteArray) (b : Nat) (w : World) (h : PR w p s ⟨b, true⟩) (hs : s.size ≤ 1024) :
    Calls Tryd.prog 49 #[.pointer (some ⟨p, 0, none⟩)] w fun e w' => e = .returned (.int .u64 0) ∧ PR w' p s ⟨b, true⟩ ∧ Chg (One p) w w' := by
  have hb : b ≤ s.size := h.le
  obtain ⟨c0, c1, c2, -, -⟩ := h.cells
  have H : Hid (PR w p s ⟨b, true⟩) := h
  clear h
  go_enter Tryd.func49, Tryd.ntmps49
  go_wp2_with fail
  clear c0 c1 c2
  go_loopg [4] 0 (fun m nv wr => nv = .int .u64 0 ∧ PR wr p s ⟨b, true⟩ ∧ Chg (One p) w wr)
  case atStart => exact ⟨rfl, H.out, Chg.refl _ _⟩
  case round =>
    obtain ⟨rfl, hP, hC⟩ := hrel
    obtain ⟨c0, c1, c2, f1, -⟩ := hP.cells
    have HP : Hid (PR wr p s ⟨b, true⟩ ∧ Chg (One p) w wr) := ⟨hP, hC⟩
    have hov := fun n => over_any p s ⟨b, true⟩ (wr.drewN n) (hP.drewN n) hs
    have ho : ovr s ⟨b, true⟩ = true := rfl
    rw [ho] at hov
    clear ho hP hC
    go_wp2_with fail
    go_quiet ((go_at_call 51; exact Calls.quiet_of (hov _)))
    go_wp2_with fail
    refine (fail_any p s ⟨b, true⟩ b _ (HP.out.1.drewN _) hb).mono ?_
    rintro e w2 ⟨rfl, h2, hc2⟩
    have H2 : Hid (PR w2 p s ⟨b, true⟩ ∧ Chg (One p) w w2) := ⟨h2, chg_drewN HP.out.2 hc2⟩
    clear h2 hc2
    go_wp2
    go_ret
    exact ⟨rfl, H2.out⟩

theorem number_rd (p : Nat) (s : ByteArray) (r : RS) (w : World) (h : PR w p s r) (hs : s.size ≤ 1024) :
    Calls Tryd.prog 49 #[.pointer (some ⟨p, 0, none⟩)] w fun e w' => e = .returned (.int .u64 (nmR s.data.toList r).2) ∧ PR w' p s (nmR s.data.toList r).1 ∧ Chg (One p) w w' := by
  obtain ⟨b, bad⟩ := r
  cases bad
  · exact number_good p s b w h hs
  · exact number_bad p s b w h hs
end Go.Proofs.YtlhcadfcgibkdaaDoor
