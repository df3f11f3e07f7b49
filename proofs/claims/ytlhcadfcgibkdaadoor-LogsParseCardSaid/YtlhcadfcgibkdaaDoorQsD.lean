/-
  The document's reader: escaped.
-/
import Derived.Test.YtlhcadfcgibkdaaDoorQsC
namespace Go.Proofs.YtlhcadfcgibkdaaDoor
open Go.RowKit
set_option linter.unusedVariables false
set_option maxRecDepth 100000

theorem esc_x {S : List UInt8} {q : Nat} (h : S[q + 1]? = some 120) : escP S q = match (S[q + 2]?).bind hexV with
      | none => (q + 2, 0, true)
      | some a => match (S[q + 3]?).bind hexV with
        | none => (q + 3, 0, true)
        | some b => if plainB (16 * a + b : Nat) then (q, 0, true) else (q + 4, UInt8.ofNat (16 * a + b), false) := by
  unfold escP
  rw [h]
  simp only
  rw [if_neg (by decide), if_pos trivial]
  rfl

/-- What a round holds: how many digits, what they come to. -/
def EscI (S : List UInt8) (q i v pos : Nat) : Prop :=
  (i = 0 ∧ v = 0 ∧ pos = q + 2) ∨ (i = 1 ∧ pos = q + 3 ∧ (S[q + 2]?).bind hexV = some v) ∨ (i = 2 ∧ pos = q + 4 ∧ ∃ a b, (S[q + 2]?).bind hexV = some a ∧ (S[q + 3]?).bind hexV = some b ∧ v = 16 * a + b)

theorem hexV_lt {S : List UInt8} {k a : Nat} (h : (S[k]?).bind hexV = some a) : a < 16 := by
  obtain ⟨c, _, hc⟩ := Option.bind_eq_some_iff.1 h
  exact (hexV_inv hc).1
theorem EscI.lt {S : List UInt8} {q i v pos : Nat} (h : EscI S q i v pos) : v < 256 := by
  rcases h with ⟨_, h, _⟩ | ⟨_, _, h⟩ | ⟨_, _, a, b, h1, h2, h3⟩
  · omega
  · have := hexV_lt h; omega
  · have := hexV_lt h1; have := hexV_lt h2; omega
theorem EscI.fail {S : List UInt8} {q i v pos : Nat} (h : EscI S q i v pos) (hi : i < 2) (h120 : S[q + 1]? = some 120) (hn : (S[pos]?).bind hexV = none) : escP S q = (pos, 0, true) := by
  rw [esc_x h120]
  rcases h with ⟨_, _, rfl⟩ | ⟨_, rfl, h⟩ | ⟨h, _⟩
  · rw [hn]
  · rw [h]; simp only; rw [hn]
  · omega
theorem EscI.step {S : List UInt8} {q i v pos a : Nat} (h : EscI S q i v pos) (hi : i < 2) (hn : (S[pos]?).bind hexV = some a) : EscI S q (i + 1) (16 * v + a) (pos + 1) := by
  rcases h with ⟨rfl, rfl, rfl⟩ | ⟨rfl, rfl, h⟩ | ⟨h, _⟩
  · exact .inr (.inl ⟨rfl, rfl, by simpa using hn⟩)
  · exact .inr (.inr ⟨rfl, rfl, v, a, h, hn, rfl⟩)
  · omega
theorem EscI.done {S : List UInt8} {q i v pos : Nat} (h : EscI S q i v pos) (hi : ¬ i < 2) (h120 : S[q + 1]? = some 120) : pos = q + 4 ∧ escP S q = if plainB (v : Nat) then (q, 0, true) else (q + 4, UInt8.ofNat v, false) := by
  rcases h with ⟨h, _⟩ | ⟨h, _⟩ | ⟨_, h0, a, b, h1, h2, rfl⟩
  · omega
  · omega
  · refine ⟨h0, ?_⟩
    rw [esc_x h120, h1]
    simp only
    rw [h2]

set_option maxHeartbeats 2000000 in
theorem escaped_x (p : Nat) (s : ByteArray) (q : Nat) (w : World) (h : QR w p s ⟨q + 1, false⟩) (hs : s.size ≤ 1024) (hq : q + 1 < s.size) (hc : s[q + 1]'hq = 120) :
    Calls Tryd.prog 71 #[.pointer (some ⟨p, 0, none⟩)] w fun e w' => ∃ v : UInt8, e = .returned (.int .u8 v.toNat) ∧ ((escP s.data.toList q).2.2 = false → v = (escP s.data.toList q).2.1) ∧ QR w' p s ⟨(escP s.data.toList q).1, (escP s.data.toList q).2.2⟩ ∧ Chg (One p) w w' := by
  obtain ⟨c0, c1, c2, f1, f2⟩ := h.cells
  have H : Hid (QR w p s ⟨q + 1, false⟩ ∧ s.data.toList[q + 1]? = some 120) := ⟨h, by rw [get_ba hq, hc]⟩
  have hix := run_at s (q + 1) hq 120 (by rw [hc]; rfl)
  simp only at c1 c2
  rw [show ((q + 1 : Nat) : Int) = (q : Int) + 1 by omega] at hix c1
  clear h hc
  go_enter Tryd.func71, Tryd.ntmps71
  go_wp2_with fail
  go_quiet (fail)
  go_wp2_with fail
  go_quiet (fail)
  go_wp2_with fail
  clear c0 c1 c2 f1 f2 hix
  go_loopg [5, 6] 2 (fun m vv iv wr => ∃ i v pos : Nat, vv = .int .i64 v ∧ iv = .int .i64 i ∧ m = 2 - i ∧ i ≤ 2 ∧ EscI s.data.toList q i v pos ∧ QR wr p s ⟨pos, false⟩ ∧ Chg (One p) w wr)
  case atStart =>
    refine ⟨0, 0, q + 2, rfl, rfl, rfl, by omega, .inl ⟨rfl, rfl, rfl⟩, ?_, chg_inc (Chg.refl _ _)⟩
    have := fun n => H.out.1.inc (n := n) (by omega)
    rw [show ((q + 1 : Nat) : Int) = (q : Int) + 1 by omega] at this
    exact this _
  case round =>
    obtain ⟨i, v, pos, rfl, rfl, hm, hi2, hE, hP, hC⟩ := hrel
    obtain ⟨c0, c1, c2, f1, f2⟩ := hP.cells
    have hpos : pos ≤ s.size := hP.le
    have hv := hE.lt
    simp only at c1 c2
    have HP : Hid (QR wr p s ⟨pos, false⟩ ∧ Chg (One p) w wr ∧ EscI s.data.toList q i v pos ∧ gk = 2 - i) := ⟨hP, hC, hE, hm⟩
    clear hP hC hE hm
    by_cases hi : i < 2
    · by_cases hlt : pos < s.size
      · have hge : ¬ ((s.size : Int) ≤ (pos : Int)) := by omega
        obtain ⟨cb, hcb⟩ : ∃ cb, cb = s[pos]'hlt := ⟨_, rfl⟩
        have hix := run_at s pos hlt (cb.toNat : Int) (by rw [hcb])
        have hat : s.data.toList[pos]? = some cb := by rw [hcb]; exact get_ba hlt
        have hin := fun W => hex_rd cb W
        cases hx : hexV cb with
        | none =>
          have HR : Hid (escP s.data.toList q = (pos, 0, true)) := HP.out.2.2.1.fail hi H.out.2 (by rw [hat]; exact hx)
          rw [hex_none hx] at hin
          clear hcb hat hx
          go_wp2_with fail
          go_quiet (fail)
          go_wp2_with fail
          go_quiet ((go_at_call 89; exact (hin _).mono fun e w' ⟨he, hw⟩ => ⟨he, _, hw⟩))
          go_wp2_with fail
          go_ret
          rw [HR.out]
          exact ⟨0, rfl, fun e => (by cases e), (HP.out.1.drewN _).wrong, chg_wrong HP.out.2.1⟩
        | some a =>
          have ha := hex_some hx
          have HS : Hid (EscI s.data.toList q (i + 1) (16 * v + a) (pos + 1)) := HP.out.2.2.1.step hi (by rw [hat]; exact hx)
          rw [ha.1] at hin
          have ha16 := ha.2
          have hnn : ¬ ((a : Int) < 0) := by omega
          clear hcb hat hx ha
          go_wp2_with fail
          go_quiet (fail)
          go_wp2_with fail
          go_quiet ((go_at_call 89; exact (hin _).mono fun e w' ⟨he, hw⟩ => ⟨he, _, hw⟩))
          go_wp2_with fail
          go_roundg (2 - (i + 1))
          case measure => have := HP.out.2.2.2; omega
          case rel => exact ⟨i + 1, 16 * v + a, pos + 1, by go_num, by go_num, rfl, by omega, HS.out, HP.out.1.inc (by omega), chg_inc HP.out.2.1⟩
      · have hge : ((s.size : Int) ≤ (pos : Int)) := by omega
        have HR : Hid (escP s.data.toList q = (pos, 0, true)) := HP.out.2.2.1.fail hi H.out.2 (by rw [List.getElem?_eq_none (by simp; omega)]; rfl)
        go_wp2_with fail
        go_quiet (fail)
        go_wp2_with fail
        go_ret
        rw [HR.out]
        exact ⟨0, rfl, fun e => (by cases e), (HP.out.1.drewN _).wrong, chg_wrong HP.out.2.1⟩
    · obtain ⟨hp4, hesc⟩ := HP.out.2.2.1.done hi H.out.2
      have HE : Hid (pos = q + 4 ∧ escP s.data.toList q = if plainB (v : Nat) then (q, 0, true) else (q + 4, UInt8.ofNat v, false)) := ⟨hp4, hesc⟩
      have hq0 : q ≤ s.size := by omega
      clear hp4 hesc
      have ev : ((UInt8.ofNat v).toNat : Int) = (v : Int) := by simp; omega
      by_cases h32 : 32 ≤ v
      · by_cases h127 : v < 127
        · have HR : Hid (escP s.data.toList q = (q, 0, true)) := by
            have := HE.out.2
            rwa [if_pos (by unfold plainB; simp; omega)] at this
          go_wp2_with fail
          go_ret
          rw [HR.out]
          exact ⟨UInt8.ofNat v, ret_u8 ev.symm, fun e => (by cases e), HP.out.1.fail hq0, (HP.out.2.1.trans (chg_to 2 _) (fun _ _ x => x)).trans (chg_to 1 _) (fun _ _ x => x)⟩
        · have HR : Hid (escP s.data.toList q = (q + 4, UInt8.ofNat v, false)) := by
            have := HE.out.2
            rwa [if_neg (by unfold plainB; simp; omega)] at this
          go_wp2_with fail
          go_ret
          rw [HR.out]
          exact ⟨UInt8.ofNat v, ret_u8 ev.symm, fun e => rfl, HP.out.1.eq (by rw [HE.out.1]), HP.out.2.1⟩
      · have HR : Hid (escP s.data.toList q = (q + 4, UInt8.ofNat v, false)) := by
          have := HE.out.2
          rwa [if_neg (by unfold plainB; simp; omega)] at this
        go_wp2_with fail
        go_ret
        rw [HR.out]
        exact ⟨UInt8.ofNat v, ret_u8 ev.symm, fun e => rfl, HP.out.1.eq (by rw [HE.out.1]), HP.out.2.1⟩

set_option maxHeartbeats 2000000 in
theorem escaped_rd (p : Nat) (s : ByteArray) (q : Nat) (w : World) (h : QR w p s ⟨q + 1, false⟩) (hs : s.size ≤ 1024) :
    Calls Tryd.prog 71 #[.pointer (some ⟨p, 0, none⟩)] w fun e w' => ∃ v : UInt8, e = .returned (.int .u8 v.toNat) ∧ ((escP s.data.toList q).2.2 = false → v = (escP s.data.toList q).2.1) ∧ QR w' p s ⟨(escP s.data.toList q).1, (escP s.data.toList q).2.2⟩ ∧ Chg (One p) w w' := by
  have hle : q + 1 ≤ s.size := h.le
  by_cases hq : q + 1 < s.size
  · by_cases hc : s[q + 1]'hq = 120
    · exact escaped_x p s q w h hs hq hc
    · obtain ⟨c0, c1, c2, f1, f2⟩ := h.cells
      have H : Hid (QR w p s ⟨q + 1, false⟩) := h
      obtain ⟨cb, hcb⟩ : ∃ cb, cb = s[q + 1]'hq := ⟨_, rfl⟩
      obtain ⟨c, hci⟩ : ∃ c : Int, c = (cb.toNat : Int) := ⟨_, rfl⟩
      have hix := run_at s (q + 1) hq c (by rw [hci, hcb])
      have hat : s.data.toList[q + 1]? = some cb := by rw [hcb]; exact get_ba hq
      rw [← hcb] at hc
      have hge : ¬ ((s.size : Int) ≤ (q : Int) + 1) := by omega
      simp only at c1 c2
      rw [show ((q + 1 : Nat) : Int) = (q : Int) + 1 by omega] at hix c1
      have n120 : (c != 120) = true := by
        rw [hci, bne_iff_ne]
        intro e
        exact hc (UInt8.toNat_inj.1 (by show _ = 120; omega))
      have HI : Hid (c = (cb.toNat : Int)) := hci
      by_cases h34 : cb = 34
      · have e34 : c = 34 := by rw [hci, h34]; rfl
        have HR : Hid (escP s.data.toList q = (q + 2, 34, false)) := by
          show _ = _
          unfold escP
          rw [hat, h34]
          simp
        subst e34
        clear h hc hcb hci hat n120 HI h34
        go_enter Tryd.func71, Tryd.ntmps71
        go_wp2_with fail
        go_quiet (fail)
        go_wp2_with fail
        go_quiet (fail)
        go_wp2_with fail
        go_ret
        rw [HR.out]
        refine ⟨34, rfl, fun _ => rfl, ?_, chg_inc (Chg.refl _ _)⟩
        have := fun n => H.out.inc (n := n) (by omega)
        rw [show ((q + 1 : Nat) : Int) = (q : Int) + 1 by omega] at this
        exact this _
      · by_cases h92 : cb = 92
        · have e92 : c = 92 := by rw [hci, h92]; rfl
          have HR : Hid (escP s.data.toList q = (q + 2, 92, false)) := by
            show _ = _
            unfold escP
            rw [hat, h92]
            simp
          subst e92
          clear h hc hcb hci hat n120 HI h34 h92
          go_enter Tryd.func71, Tryd.ntmps71
          go_wp2_with fail
          go_quiet (fail)
          go_wp2_with fail
          go_quiet (fail)
          go_wp2_with fail
          go_ret
          rw [HR.out]
          refine ⟨92, rfl, fun _ => rfl, ?_, chg_inc (Chg.refl _ _)⟩
          have := fun n => H.out.inc (n := n) (by omega)
          rw [show ((q + 1 : Nat) : Int) = (q : Int) + 1 by omega] at this
          exact this _
        · have e34 : (c == 34) = false := by
            rw [hci, beq_eq_false_iff_ne]
            intro e
            exact h34 (UInt8.toNat_inj.1 (by show _ = 34; omega))
          have e92 : (c == 92) = false := by
            rw [hci, beq_eq_false_iff_ne]
            intro e
            exact h92 (UInt8.toNat_inj.1 (by show _ = 92; omega))
          have HR : Hid (escP s.data.toList q = (q + 1, 0, true)) := by
            show _ = _
            unfold escP
            rw [hat]
            simp only
            rw [if_neg (by rintro (x | x); exact h34 x; exact h92 x), if_neg hc]
          clear h hc hcb hci hat h34 h92
          go_enter Tryd.func71, Tryd.ntmps71
          go_wp2_with fail
          go_quiet (fail)
          go_wp2_with fail
          go_quiet (fail)
          go_wp2_with fail
          go_ret
          rw [HR.out]
          exact ⟨0, rfl, fun e => (by cases e), (H.out.drewN _).wrong, chg_wrong (Chg.refl _ _)⟩
  · obtain ⟨c0, c1, c2, f1, f2⟩ := h.cells
    have H : Hid (QR w p s ⟨q + 1, false⟩) := h
    have hge : ((s.size : Int) ≤ (q : Int) + 1) := by omega
    have HR : Hid (escP s.data.toList q = (q + 1, 0, true)) := by
      show _ = _
      unfold escP
      rw [List.getElem?_eq_none (by simp; omega)]
    simp only at c1 c2
    rw [show ((q + 1 : Nat) : Int) = (q : Int) + 1 by omega] at c1
    clear h
    go_enter Tryd.func71, Tryd.ntmps71
    go_wp2_with fail
    go_quiet (fail)
    go_wp2_with fail
    go_ret
    rw [HR.out]
    exact ⟨0, rfl, fun e => (by cases e), (H.out.drewN _).wrong, chg_wrong (Chg.refl _ _)⟩
end Go.Proofs.YtlhcadfcgibkdaaDoor
