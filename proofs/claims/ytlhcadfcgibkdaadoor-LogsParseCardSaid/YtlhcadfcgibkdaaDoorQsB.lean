/-
  The document's reader: number.
-/
import Derived.Test.YtlhcadfcgibkdaaDoorQsA
import Derived.Deep.LoopGhost
namespace Go.Proofs.YtlhcadfcgibkdaaDoor
open Go.RowKit
set_option linter.unusedVariables false
set_option maxRecDepth 100000

/-- What a round of the number's loop holds; a nought stands first just where the number is 0. -/
structure NumJ (w wr : World) (p : Nat) (s : ByteArray) (b q n : Nat) : Prop where
  rd : QR wr p s ⟨q, false⟩
  chg : Chg (One p) w wr
  le : b ≤ q
  lt : n < 18446744073709551616
  eq : ∃ f, s.size - q < f ∧ numP s.data.toList f (decide (b < q)) n q = numP s.data.toList (s.data.toList.length + 1) false 0 b
  z : q = b → n = 0
  nz : b < q → n = 0 → q = b + 1 ∧ s.data.toList[b]? = some 48
  zn : q = b + 1 → s.data.toList[b]? = some 48 → n = 0

set_option maxHeartbeats 4000000 in
theorem rnumber_good (p : Nat) (s : ByteArray) (b : Nat) (w : World) (h : QR w p s ⟨b, false⟩) (hs : s.size ≤ 1024) :
    Calls Tryd.prog 33 #[.pointer (some ⟨p, 0, none⟩)] w fun e w' => e = .returned (.int .u64 (nmR s.data.toList ⟨b, false⟩).2) ∧ QR w' p s (nmR s.data.toList ⟨b, false⟩).1 ∧ Chg (One p) w w' := by
  have hb : b ≤ s.size := h.le
  obtain ⟨c0, c1, c2, -, -⟩ := h.cells
  have H : Hid (QR w p s ⟨b, false⟩) := h
  clear h
  go_enter Tryd.func33, Tryd.ntmps33
  go_wp2_with fail
  clear c0 c1 c2
  go_loopg [4] (s.size - b) (fun m nv wr => ∃ q n : Nat, nv = .int .u64 n ∧ m = s.size - q ∧ NumJ w wr p s b q n)
  case atStart => exact ⟨b, 0, rfl, rfl, H.out, Chg.refl _ _, Nat.le_refl _, by omega, ⟨s.data.toList.length + 1, by simp; omega, by simp⟩, fun _ => rfl, fun x => by omega, fun x => by omega⟩
  case round =>
    obtain ⟨q, n, rfl, hm, hI⟩ := hrel
    obtain ⟨c0, c1, c2, f1, f2⟩ := hI.rd.cells
    have hq : q ≤ s.size := hI.rd.le
    have hbq : b ≤ q := hI.le
    have hn : (n : Int) ≤ 18446744073709551615 := by have := hI.lt; omega
    simp only at c1 c2
    have HP : Hid (NumJ w wr p s b q n ∧ gk = s.size - q) := ⟨hI, hm⟩
    clear hI hm
    by_cases hlt : q < s.size
    · have hlt' : (q : Int) < (s.size : Int) := by omega
      obtain ⟨cb, hcb⟩ : ∃ cb, cb = s[q]'hlt := ⟨_, rfl⟩
      obtain ⟨c, hc⟩ : ∃ c : Int, c = ((s[q]'hlt).toNat : Int) := ⟨_, rfl⟩
      have hix := run_at s q hlt c hc
      have HC : Hid (s.data.toList[q]? = some cb ∧ c = (cb.toNat : Int)) := ⟨by rw [hcb]; exact get_ba hlt, by rw [hcb]; exact hc⟩
      clear hc hcb
      by_cases h1 : 48 ≤ c
      · by_cases h2 : c ≤ 57
        · have HD : Hid (digit cb.toNat = true) := by
            have := HC.out.2
            exact (digit_iff cb).2 (by omega)
          by_cases hbn : b < q ∧ n = 0
          · have hbs : b < s.size := by omega
            have HR : Hid (nmR s.data.toList ⟨b, false⟩ = (⟨q, true⟩, 0)) := by
              obtain ⟨f, hf, he⟩ := HP.out.1.eq
              refine nmR_good s b ?_
              rw [← he]
              exact numP_fail (by omega) HC.out.1 HD.out (.inl ⟨by simpa using hbn.1, hbn.2⟩)
            obtain ⟨hz1, hz2⟩ := HP.out.1.nz hbn.1 hbn.2
            have h48 : s[b]'hbs = 48 := by rw [get_ba hbs] at hz2; simpa using hz2
            have hixb := run_at s b hbs 48 (by rw [h48]; rfl)
            have e1 : ((q : Int) == (b : Int) + 1) = true := by simp; omega
            clear hbn hz1 hz2 h48
            go_wp2_with fail
            go_quiet (fail)
            go_wp2_with fail
            go_quiet (fail)
            go_wp2_with fail
            go_ret
            rw [HR.out]
            exact ⟨rfl, (HP.out.1.rd.drewN _).wrong, chg_wrong HP.out.1.chg⟩
          · have HBN : Hid (¬ (b < q ∧ n = 0)) := hbn
            clear hbn
            by_cases hof : (18446744073709551615 - (c - 48)) / 10 < (n : Int)
            · have HR : Hid (nmR s.data.toList ⟨b, false⟩ = (⟨q, true⟩, 0)) := by
                obtain ⟨f, hf, he⟩ := HP.out.1.eq
                refine nmR_good s b ?_
                rw [← he]
                have := HC.out.2
                exact numP_fail (by omega) HC.out.1 HD.out (.inr (by omega))
              by_cases hq1 : q = b + 1
              · have hbs : b < s.size := by omega
                obtain ⟨x, hx⟩ : ∃ x : Int, x = ((s[b]'hbs).toNat : Int) := ⟨_, rfl⟩
                have hixb := run_at s b hbs x hx
                have hx48 : (x == 48) = false := by
                  rw [hx]
                  simp only [beq_eq_false_iff_ne]
                  intro e
                  have h9 : s[b]'hbs = 48 := UInt8.toNat_inj.1 (by show _ = 48; omega)
                  have := HP.out.1.zn hq1 (by rw [get_ba hbs, h9])
                  omega
                have e1 : ((q : Int) == (b : Int) + 1) = true := by simp; omega
                clear hq1 hx
                go_wp2_with fail
                go_quiet (fail)
                go_wp2_with fail
                go_quiet (fail)
                go_wp2_with fail
                go_ret
                rw [HR.out]
                exact ⟨rfl, (HP.out.1.rd.drewN _).wrong, chg_wrong HP.out.1.chg⟩
              · have e1 : ((q : Int) == (b : Int) + 1) = false := by simp; omega
                clear hq1
                go_wp2_with fail
                go_quiet (fail)
                go_wp2_with fail
                go_quiet (fail)
                go_wp2_with fail
                go_ret
                rw [HR.out]
                exact ⟨rfl, (HP.out.1.rd.drewN _).wrong, chg_wrong HP.out.1.chg⟩
            · have hof' : (n : Int) ≤ (18446744073709551615 - (c - 48)) / 10 := by omega
              have hmul : 10 * (n : Int) + (c - 48) ≤ 18446744073709551615 := by omega
              have HG : Hid (∃ f, s.size - (q + 1) < f ∧ numP s.data.toList f (decide (b < q + 1)) (10 * n + (cb.toNat - 48)) (q + 1) = numP s.data.toList (s.data.toList.length + 1) false 0 b) := by
                obtain ⟨f, hf, he⟩ := HP.out.1.eq
                obtain ⟨f, rfl⟩ : ∃ g, f = g + 1 := ⟨f - 1, by omega⟩
                refine ⟨f, by omega, ?_⟩
                have := HC.out.2
                rw [← he, numP_go HC.out.1 HD.out (fun ⟨x, y⟩ => HBN.out ⟨by simpa using x, y⟩) (by omega)]
                have : decide (b < q + 1) = true := by simp; omega
                rw [this]
              clear hof
              by_cases hq1 : q = b + 1
              · have hbs : b < s.size := by omega
                obtain ⟨x, hx⟩ : ∃ x : Int, x = ((s[b]'hbs).toNat : Int) := ⟨_, rfl⟩
                have hixb := run_at s b hbs x hx
                have hx48 : (x == 48) = false := by
                  rw [hx]
                  simp only [beq_eq_false_iff_ne]
                  intro e
                  have h9 : s[b]'hbs = 48 := UInt8.toNat_inj.1 (by show _ = 48; omega)
                  exact HBN.out ⟨by omega, HP.out.1.zn hq1 (by rw [get_ba hbs, h9])⟩
                have e1 : ((q : Int) == (b : Int) + 1) = true := by simp; omega
                clear hq1 hx
                go_wp2_with fail
                go_quiet (fail)
                go_wp2_with fail
                go_quiet (fail)
                go_wp2_with fail
                go_roundg (s.size - (q + 1))
                case measure => have := HP.out.2; omega
                case rel =>
                  refine ⟨q + 1, 10 * n + (cb.toNat - 48), ?_, rfl, HP.out.1.rd.inc (by omega), chg_inc HP.out.1.chg, by omega, by have := HC.out.2; omega, HG.out, fun x => by omega, fun _ hz => ?_, fun x hx => ?_⟩
                  · have := HC.out.2
                    go_num
                  · have hqb : q = b := by
                      rcases Nat.lt_or_ge b q with x | x
                      · exact absurd ⟨x, by omega⟩ HBN.out
                      · omega
                    subst hqb
                    refine ⟨rfl, ?_⟩
                    have h9 : cb.toNat = 48 := by have := HC.out.2; omega
                    rw [HC.out.1]
                    exact congrArg some (UInt8.toNat_inj.1 h9)
                  · have hqb : q = b := by omega
                    subst hqb
                    have h9 := HC.out.1
                    rw [hx] at h9
                    have h10 : (48 : UInt8) = cb := by simpa using h9
                    have h11 := HP.out.1.z rfl
                    rw [← h10, h11]
                    rfl
              · have e1 : ((q : Int) == (b : Int) + 1) = false := by simp; omega
                clear hq1
                go_wp2_with fail
                go_quiet (fail)
                go_wp2_with fail
                go_quiet (fail)
                go_wp2_with fail
                go_roundg (s.size - (q + 1))
                case measure => have := HP.out.2; omega
                case rel =>
                  refine ⟨q + 1, 10 * n + (cb.toNat - 48), ?_, rfl, HP.out.1.rd.inc (by omega), chg_inc HP.out.1.chg, by omega, by have := HC.out.2; omega, HG.out, fun x => by omega, fun _ hz => ?_, fun x hx => ?_⟩
                  · have := HC.out.2
                    go_num
                  · have hqb : q = b := by
                      rcases Nat.lt_or_ge b q with x | x
                      · exact absurd ⟨x, by omega⟩ HBN.out
                      · omega
                    subst hqb
                    refine ⟨rfl, ?_⟩
                    have h9 : cb.toNat = 48 := by have := HC.out.2; omega
                    rw [HC.out.1]
                    exact congrArg some (UInt8.toNat_inj.1 h9)
                  · have hqb : q = b := by omega
                    subst hqb
                    have h9 := HC.out.1
                    rw [hx] at h9
                    have h10 : (48 : UInt8) = cb := by simpa using h9
                    have h11 := HP.out.1.z rfl
                    rw [← h10, h11]
                    rfl
        · have h2' : ¬ (c ≤ 57) := h2
          have HR : Hid (nmR s.data.toList ⟨b, false⟩ = (⟨q, !decide (b < q)⟩, n)) := by
            obtain ⟨f, hf, he⟩ := HP.out.1.eq
            refine nmR_good s b ?_
            rw [← he]
            refine numP_stop (by omega) ?_
            intro x hx
            rw [HC.out.1] at hx
            have h9 : cb = x := by simpa using hx
            have h10 := HC.out.2
            rw [← h9]
            cases hdd : digit cb.toNat
            · rfl
            · have := (digit_iff cb).1 hdd; omega
          by_cases hbq2 : b = q
          · have e2 : ((q : Int) == (b : Int)) = true := by simp; omega
            have HB : Hid (b = q) := hbq2
            clear hbq2
            go_wp2_with fail
            go_quiet (fail)
            go_wp2_with fail
            go_ret
            have hd : (!decide (b < q)) = true := by simp; have := HB.out; omega
            rw [HR.out, hd]
            exact ⟨rfl, (HP.out.1.rd.drewN _).wrong, chg_wrong HP.out.1.chg⟩
          · have e2 : ((q : Int) == (b : Int)) = false := by simp; omega
            have HB : Hid (b < q) := by show b < q; omega
            clear hbq2
            go_wp2_with fail
            go_quiet (fail)
            go_wp2_with fail
            go_ret
            have hd : (!decide (b < q)) = false := by simp; exact HB.out
            rw [HR.out, hd]
            exact ⟨rfl, HP.out.1.rd.drewN _, HP.out.1.chg.trans (drewN_non _ _) (fun _ _ x => x.elim)⟩
      · have h1' : decide (48 ≤ c) = false := by simpa using h1
        have HR : Hid (nmR s.data.toList ⟨b, false⟩ = (⟨q, !decide (b < q)⟩, n)) := by
          obtain ⟨f, hf, he⟩ := HP.out.1.eq
          refine nmR_good s b ?_
          rw [← he]
          refine numP_stop (by omega) ?_
          intro x hx
          rw [HC.out.1] at hx
          have h9 : cb = x := by simpa using hx
          have h10 := HC.out.2
          rw [← h9]
          cases hdd : digit cb.toNat
          · rfl
          · have := (digit_iff cb).1 hdd; omega
        by_cases hbq2 : b = q
        · have e2 : ((q : Int) == (b : Int)) = true := by simp; omega
          have HB : Hid (b = q) := hbq2
          clear hbq2
          go_wp2_with fail
          go_quiet (fail)
          go_wp2_with fail
          go_ret
          have hd : (!decide (b < q)) = true := by simp; have := HB.out; omega
          rw [HR.out, hd]
          exact ⟨rfl, (HP.out.1.rd.drewN _).wrong, chg_wrong HP.out.1.chg⟩
        · have e2 : ((q : Int) == (b : Int)) = false := by simp; omega
          have HB : Hid (b < q) := by show b < q; omega
          clear hbq2
          go_wp2_with fail
          go_quiet (fail)
          go_wp2_with fail
          go_ret
          have hd : (!decide (b < q)) = false := by simp; exact HB.out
          rw [HR.out, hd]
          exact ⟨rfl, HP.out.1.rd.drewN _, HP.out.1.chg.trans (drewN_non _ _) (fun _ _ x => x.elim)⟩
    · have hlt' : ¬ ((q : Int) < (s.size : Int)) := by omega
      have HR : Hid (nmR s.data.toList ⟨b, false⟩ = (⟨q, !decide (b < q)⟩, n)) := by
        obtain ⟨f, hf, he⟩ := HP.out.1.eq
        refine nmR_good s b ?_
        rw [← he]
        refine numP_stop (by omega) ?_
        intro x hx
        rw [List.getElem?_eq_none (by simp; omega)] at hx
        cases hx
      by_cases hbq2 : b = q
      · have e2 : ((q : Int) == (b : Int)) = true := by simp; omega
        have HB : Hid (b = q) := hbq2
        clear hbq2
        go_wp2_with fail
        go_quiet (fail)
        go_wp2_with fail
        go_ret
        have hd : (!decide (b < q)) = true := by simp; have := HB.out; omega
        rw [HR.out, hd]
        exact ⟨rfl, (HP.out.1.rd.drewN _).wrong, chg_wrong HP.out.1.chg⟩
      · have e2 : ((q : Int) == (b : Int)) = false := by simp; omega
        have HB : Hid (b < q) := by show b < q; omega
        clear hbq2
        go_wp2_with fail
        go_quiet (fail)
        go_wp2_with fail
        go_ret
        have hd : (!decide (b < q)) = false := by simp; exact HB.out
        rw [HR.out, hd]
        exact ⟨rfl, HP.out.1.rd.drewN _, HP.out.1.chg.trans (drewN_non _ _) (fun _ _ x => x.elim)⟩

set_option maxHeartbeats 1000000 in
theorem rnumber_bad (p : Nat) (s : ByteArray) (b : Nat) (w : World) (h : QR w p s ⟨b, true⟩) (hs : s.size ≤ 1024) :
    Calls Tryd.prog 33 #[.pointer (some ⟨p, 0, none⟩)] w fun e w' => e = .returned (.int .u64 0) ∧ QR w' p s ⟨b, true⟩ ∧ Chg (One p) w w' := by
  have hb : b ≤ s.size := h.le
  obtain ⟨c0, c1, c2, -, -⟩ := h.cells
  have H : Hid (QR w p s ⟨b, true⟩) := h
  clear h
  go_enter Tryd.func33, Tryd.ntmps33
  go_wp2_with fail
  clear c0 c1 c2
  go_loopg [4] 0 (fun m nv wr => nv = .int .u64 0 ∧ QR wr p s ⟨b, true⟩ ∧ Chg (One p) w wr)
  case atStart => exact ⟨rfl, H.out, Chg.refl _ _⟩
  case round =>
    obtain ⟨rfl, hP, hC⟩ := hrel
    obtain ⟨c0, c1, c2, f1, f2⟩ := hP.cells
    have HP : Hid (QR wr p s ⟨b, true⟩ ∧ Chg (One p) w wr) := ⟨hP, hC⟩
    clear hP hC
    go_wp2_with fail
    go_quiet (fail)
    go_wp2_with fail
    go_ret
    exact ⟨rfl, (HP.out.1.drewN _).wrong, chg_wrong HP.out.2⟩

theorem rnumber_rd (p : Nat) (s : ByteArray) (r : RS) (w : World) (h : QR w p s r) (hs : s.size ≤ 1024) :
    Calls Tryd.prog 33 #[.pointer (some ⟨p, 0, none⟩)] w fun e w' => e = .returned (.int .u64 (nmR s.data.toList r).2) ∧ QR w' p s (nmR s.data.toList r).1 ∧ Chg (One p) w w' := by
  obtain ⟨b, bad⟩ := r
  cases bad
  · exact rnumber_good p s b w h hs
  · exact rnumber_bad p s b w h hs
end Go.Proofs.YtlhcadfcgibkdaaDoor
