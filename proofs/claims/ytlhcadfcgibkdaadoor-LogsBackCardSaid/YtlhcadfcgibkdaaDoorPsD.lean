/-
  The program's reader: hexDigit, letter.
-/
import Derived.Test.YtlhcadfcgibkdaaDoorPsC
namespace Go.Proofs.YtlhcadfcgibkdaaDoor
open Go.RowKit
set_option linter.unusedVariables false
set_option maxRecDepth 100000

def hxR (S : List UInt8) (r : RS) : RS × Nat := if r.bad then (r, 0) else match (S[r.pos]?).bind hexV with | none => (⟨r.pos, true⟩, 0) | some a => (⟨r.pos + 1, false⟩, a)
def hexI (c : UInt8) : Int := match hexV c with | some a => a | none => -1
theorem hexI_is (c : UInt8) : Lib.indexByte hexD c = hexI c := by
  have all : ∀ c : Fin 256, Lib.indexByte hexD (UInt8.ofNat c.val) = hexI (UInt8.ofNat c.val) := by decide +kernel
  have := all ⟨c.toNat, c.toNat_lt⟩
  simpa using this
theorem hex_some {c : UInt8} {a : Nat} (h : hexV c = some a) : hexI c = a ∧ a < 16 := by
  refine ⟨by unfold hexI; rw [h], (hexV_inv h).1⟩
theorem hex_none {c : UInt8} (h : hexV c = none) : hexI c = -1 := by unfold hexI; rw [h]

set_option maxHeartbeats 1000000 in
theorem hexDigit_any (p : Nat) (s : ByteArray) (r : RS) (w : World) (h : PR w p s r) (hs : s.size ≤ 1024) :
    Calls Tryd.prog 97 #[.pointer (some ⟨p, 0, none⟩)] w fun e w' => e = .returned (.int .u8 (hxR s.data.toList r).2) ∧ PR w' p s (hxR s.data.toList r).1 ∧ Chg (One p) w w' := by
  have hle := h.le
  have H : Hid (PR w p s r) := h
  clear h
  go_enter Tryd.func97, Tryd.ntmps97
  go_wp2_with fail
  refine (over_chg p s r _ H.out hs).mono ?_
  rintro e w1 ⟨rfl, hc1⟩
  obtain ⟨c0, c1, c2, f1, -⟩ := (H.out.non hc1).cells
  have H1 : Hid (PR w1 p s r ∧ Chg (One p) w w1) := ⟨H.out.non hc1, hc1.non _⟩
  clear hc1
  cases ho : ovr s r
  · have hb : r.bad = false := by unfold ovr at ho; simp at ho; exact ho.1
    have hp : r.pos < s.size := by unfold ovr at ho; simp at ho; omega
    obtain ⟨pos, bad⟩ := r
    simp only at hb hp hle c1 c2
    subst hb
    obtain ⟨cb, hcb⟩ : ∃ cb, cb = s[pos]'hp := ⟨_, rfl⟩
    have hix := run_at s pos hp (cb.toNat : Int) (by rw [hcb])
    have hat : s.data.toList[pos]? = some cb := by rw [hcb]; exact get_ba hp
    have hin : ∀ n, Calls Tryd.prog 99 #[.string ⟨#[48, 49, 50, 51, 52, 53, 54, 55, 56, 57, 97, 98, 99, 100, 101, 102]⟩, .int .u8 cb.toNat] (w1.drewN n) fun e w' => e = .returned (.int .i64 (hexI cb)) ∧ w' = w1.drewN n := by
      intro n
      have := Tryd.strings_IndexByte ⟨#[48, 49, 50, 51, 52, 53, 54, 55, 56, 57, 97, 98, 99, 100, 101, 102]⟩ (cb.toNat : Int) (w1.drewN n)
      have e : Lib.indexByte hexD ((cb.toNat : Int)).toNat.toUInt8 = hexI cb := by
        rw [Int.toNat_natCast]
        have : cb.toNat.toUInt8 = cb := by simp
        rw [this]
        exact hexI_is cb
      rw [← e]
      exact this
    cases hv : hexV cb with
    | none =>
      have HR : Hid (hxR s.data.toList ⟨pos, false⟩ = (⟨pos, true⟩, 0)) := by
        show _ = _
        unfold hxR
        simp [hat, hv]
      rw [hex_none hv] at hin
      clear ho hcb hat hv
      go_wp2_with fail
      go_quiet ((go_at_call 99; exact Calls.quiet_of_same (hin _)))
      go_wp2_with fail
      refine (fail_any p s ⟨pos, false⟩ pos _ (H1.out.1.drewN _) hle).mono ?_
      rintro e w2 ⟨rfl, h2, hc2⟩
      have H2 : Hid (PR w2 p s ⟨pos, true⟩ ∧ Chg (One p) w w2) := ⟨h2, chg_drewN H1.out.2 hc2⟩
      clear h2 hc2
      go_wp2
      go_ret
      rw [HR.out]
      exact ⟨rfl, H2.out⟩
    | some a =>
      have HR : Hid (hxR s.data.toList ⟨pos, false⟩ = (⟨pos + 1, false⟩, a)) := by
        show _ = _
        unfold hxR
        simp [hat, hv]
      obtain ⟨ha1, ha2⟩ := hex_some hv
      rw [ha1] at hin
      clear ho hcb hat hv ha1
      go_wp2_with fail
      go_quiet ((go_at_call 99; exact Calls.quiet_of_same (hin _)))
      go_wp2_with fail
      go_ret
      rw [HR.out]
      exact ⟨rfl, H1.out.1.inc (by omega), chg_inc H1.out.2⟩
  · have HR : Hid (hxR s.data.toList r = (if r.bad then r else ⟨r.pos, true⟩, 0)) := by
      show _ = _
      unfold hxR
      cases hb : r.bad
      · have hp : r.pos = s.size := by unfold ovr at ho; rw [hb] at ho; simpa using ho
        rw [List.getElem?_eq_none (by simp; omega)]
        simp
      · simp
    go_wp2_with fail
    refine (fail_any p s r r.pos _ H1.out.1 hle).mono ?_
    rintro e w2 ⟨rfl, h2, hc2⟩
    have H2 : Hid (PR w2 p s (if r.bad then r else ⟨r.pos, true⟩) ∧ Chg (One p) w w2) := ⟨h2, H1.out.2.trans hc2 (fun _ _ x => x)⟩
    clear h2 hc2
    go_wp2
    go_ret
    rw [HR.out]
    exact ⟨rfl, H2.out⟩

/-! A letter of a text. -/
def ltR (S : List UInt8) (q : Nat) : RS × UInt8 := match S[q]? with
  | none => (⟨q, true⟩, 0)
  | some c => if c = 92 then (⟨(escP S q).1, (escP S q).2.2⟩, (escP S q).2.1) else if plainB c.toNat then (⟨q + 1, false⟩, c) else (⟨q, true⟩, 0)
def r1E (S : List UInt8) (q : Nat) : RS := tk S 120 ⟨q + 1, false⟩
def r2E (S : List UInt8) (q : Nat) : RS × Nat := hxR S (r1E S q)
def r3E (S : List UInt8) (q : Nat) : RS × Nat := hxR S (r2E S q).1
theorem hxR_lt (S : List UInt8) (r : RS) : (hxR S r).2 < 16 := by
  unfold hxR
  split
  · simp
  · cases h : (S[r.pos]?).bind hexV with
    | none => simp
    | some a =>
      obtain ⟨c, _, hc⟩ := Option.bind_eq_some_iff.1 h
      exact (hexV_inv hc).1
theorem hxR_bad {S : List UInt8} {r : RS} (h : r.bad = true) : hxR S r = (r, 0) := by unfold hxR; rw [if_pos h]
theorem hxR_none {S : List UInt8} {k : Nat} (h : (S[k]?).bind hexV = none) : hxR S ⟨k, false⟩ = (⟨k, true⟩, 0) := by unfold hxR; rw [if_neg (by simp)]; simp only [h]
theorem hxR_some {S : List UInt8} {k a : Nat} (h : (S[k]?).bind hexV = some a) : hxR S ⟨k, false⟩ = (⟨k + 1, false⟩, a) := by unfold hxR; rw [if_neg (by simp)]; simp only [h]
/-- Behind a backslash, where neither a quote nor another one stands. -/
theorem esc_steps {S : List UInt8} {q : Nat} (h34 : S[q + 1]? ≠ some 34) (h92 : S[q + 1]? ≠ some 92) :
    (⟨(escP S q).1, (escP S q).2.2⟩ : RS) = (if plainB (16 * (r2E S q).2 + (r3E S q).2 : Nat) then (if (r3E S q).1.bad then (r3E S q).1 else ⟨q, true⟩) else (r3E S q).1) ∧
      ((escP S q).2.2 = false → (escP S q).2.1 = UInt8.ofNat (16 * (r2E S q).2 + (r3E S q).2)) := by
  have p0 : plainB ((0 : Nat) : Int) = false := by decide
  unfold escP
  cases h1 : S[q + 1]? with
  | none =>
    have e1 : r1E S q = ⟨q + 1, true⟩ := by unfold r1E tk; simp [h1]
    have e2 : r2E S q = (⟨q + 1, true⟩, 0) := by unfold r2E; rw [e1, hxR_bad rfl]
    have e3 : r3E S q = (⟨q + 1, true⟩, 0) := by unfold r3E; rw [e2, hxR_bad rfl]
    rw [e2, e3]
    simp
  | some c =>
    have n34 : c ≠ 34 := fun e => h34 (by rw [h1, e])
    have n92 : c ≠ 92 := fun e => h92 (by rw [h1, e])
    simp only [n34, n92, false_or, if_false]
    by_cases h120 : c = 120
    · subst h120
      have e1 : r1E S q = ⟨q + 2, false⟩ := by unfold r1E tk; simp [h1]
      rw [if_pos rfl]
      cases h2 : (S[q + 2]?).bind hexV with
      | none =>
        have e2 : r2E S q = (⟨q + 2, true⟩, 0) := by unfold r2E; rw [e1, hxR_none h2]
        have e3 : r3E S q = (⟨q + 2, true⟩, 0) := by unfold r3E; rw [e2, hxR_bad rfl]
        rw [e2, e3]
        simp
      | some a =>
        have e2 : r2E S q = (⟨q + 3, false⟩, a) := by unfold r2E; rw [e1, hxR_some h2]
        cases h3 : (S[q + 3]?).bind hexV with
        | none =>
          have e3 : r3E S q = (⟨q + 3, true⟩, 0) := by unfold r3E; rw [e2, hxR_none h3]
          rw [e2, e3]
          simp
        | some b =>
          have e3 : r3E S q = (⟨q + 4, false⟩, b) := by unfold r3E; rw [e2, hxR_some h3]
          rw [e2, e3]
          simp only
          split <;> simp_all
    · have e1 : r1E S q = ⟨q + 1, true⟩ := by
        unfold r1E tk
        rw [if_neg (by simp), if_neg]
        simp only
        rw [h1]
        simpa using h120
      have e2 : r2E S q = (⟨q + 1, true⟩, 0) := by unfold r2E; rw [e1, hxR_bad rfl]
      have e3 : r3E S q = (⟨q + 1, true⟩, 0) := by unfold r3E; rw [e2, hxR_bad rfl]
      rw [e2, e3, if_neg h120]
      simp

theorem ret_u8 {a : Int} {v : UInt8} (h : a = (v.toNat : Int)) : Ending.returned (.int .u8 a) = .returned (.int .u8 v.toNat) := by rw [h]
theorem or_16 (a b : Nat) (ha : a < 16) (hb : b < 16) : bits .or .u8 ((16 * a : Nat) : Int) (b : Int) = ((16 * a + b : Nat) : Int) := by
  have all : ∀ a b : Fin 16, bits .or .u8 ((16 * a.val : Nat) : Int) (b.val : Int) = ((16 * a.val + b.val : Nat) : Int) := by decide +kernel
  exact all ⟨a, ha⟩ ⟨b, hb⟩

set_option maxHeartbeats 1000000 in
theorem letter_esc (p : Nat) (s : ByteArray) (q : Nat) (w : World) (h : PR w p s ⟨q, false⟩) (hs : s.size ≤ 1024) (hq : q < s.size) (hc : s[q]'hq = 92) :
    Calls Tryd.prog 88 #[.pointer (some ⟨p, 0, none⟩)] w fun e w' => ∃ v : UInt8, e = .returned (.int .u8 v.toNat) ∧ ((ltR s.data.toList q).1.bad = false → v = (ltR s.data.toList q).2) ∧ PR w' p s (ltR s.data.toList q).1 ∧ Chg (One p) w w' := by
  obtain ⟨c0, c1, c2, f1, -⟩ := h.cells
  have H : Hid (PR w p s ⟨q, false⟩) := h
  have hix := run_at s q hq 92 (by rw [hc]; rfl)
  have HL : Hid (ltR s.data.toList q = (⟨(escP s.data.toList q).1, (escP s.data.toList q).2.2⟩, (escP s.data.toList q).2.1)) := by
    show _ = _
    unfold ltR
    rw [get_ba hq, hc]
    simp
  rw [HL.out]
  clear h
  go_enter Tryd.func88, Tryd.ntmps88
  go_wp2_with fail
  have H1 : Hid (PR (w.setCell ⟨p, 1, none⟩ (.int .i64 ((q : Int) + 1))) p s ⟨q + 1, false⟩) := by
    have := H.out.to (k := q + 1) (by omega)
    exact_mod_cast this
  refine (is_chg p s ⟨q + 1, false⟩ 34 _ H1.out hs).mono ?_
  rintro e w2 ⟨rfl, hc2⟩
  have H2 : Hid (PR w2 p s ⟨q + 1, false⟩ ∧ Chg (One p) w w2) := ⟨H1.out.non hc2, (chg_to 1 _).trans hc2 (fun _ _ x => x.elim)⟩
  clear hc2 c0 c1 c2 f1
  obtain ⟨c0, c1, c2, f1, -⟩ := H2.out.1.cells
  cases hi : isN s ⟨q + 1, false⟩ 34
  · go_wp2_with fail
    refine (is_chg p s ⟨q + 1, false⟩ 92 _ H2.out.1 hs).mono ?_
    rintro e w3 ⟨rfl, hc3⟩
    have H3 : Hid (PR w3 p s ⟨q + 1, false⟩ ∧ Chg (One p) w w3) := ⟨H2.out.1.non hc3, H2.out.2.trans hc3 (fun _ _ x => x.elim)⟩
    clear hc3 c0 c1 c2 f1 H2
    obtain ⟨c0, c1, c2, f1, -⟩ := H3.out.1.cells
    cases hj : isN s ⟨q + 1, false⟩ 92
    · have HS : Hid ((⟨(escP s.data.toList q).1, (escP s.data.toList q).2.2⟩ : RS) = (if plainB (16 * (r2E s.data.toList q).2 + (r3E s.data.toList q).2 : Nat) then (if (r3E s.data.toList q).1.bad then (r3E s.data.toList q).1 else ⟨q, true⟩) else (r3E s.data.toList q).1) ∧
          ((escP s.data.toList q).2.2 = false → (escP s.data.toList q).2.1 = UInt8.ofNat (16 * (r2E s.data.toList q).2 + (r3E s.data.toList q).2))) := by
        refine esc_steps (fun e => ?_) (fun e => ?_)
        · unfold isN at hi; simp only [e] at hi; simp at hi
        · unfold isN at hj; simp only [e] at hj; simp at hj
      go_wp2_with fail
      refine (literal_any p s ⟨q + 1, false⟩ ⟨#[120]⟩ _ H3.out.1 hs (by decide)).mono ?_
      rintro e w4 ⟨rfl, h4, hc4⟩
      have H4 : Hid (PR w4 p s (r1E s.data.toList q) ∧ Chg (One p) w w4) := ⟨h4, H3.out.2.trans hc4 (fun _ _ x => x)⟩
      clear h4 hc4 c0 c1 c2 f1 H3
      go_wp2_with fail
      refine (hexDigit_any p s _ _ H4.out.1 hs).mono ?_
      rintro e w5 ⟨rfl, h5, hc5⟩
      have H5 : Hid (PR w5 p s (r2E s.data.toList q).1 ∧ Chg (One p) w w5) := ⟨h5, H4.out.2.trans hc5 (fun _ _ x => x)⟩
      clear h5 hc5 H4
      have hr2 : r2E s.data.toList q = hxR s.data.toList (r1E s.data.toList q) := rfl
      have hr3 : r3E s.data.toList q = hxR s.data.toList (r2E s.data.toList q).1 := rfl
      have hl2 := hxR_lt s.data.toList (r1E s.data.toList q)
      have hl3 := hxR_lt s.data.toList (r2E s.data.toList q).1
      rw [← hr2] at hl2
      rw [← hr3] at hl3
      rw [← hr2]
      generalize hA : r2E s.data.toList q = A at *
      generalize hB : r3E s.data.toList q = B at *
      obtain ⟨ra, a⟩ := A
      obtain ⟨rb, b⟩ := B
      simp only at hl2 hl3 hr3 HS H5 ⊢
      obtain ⟨x, hx⟩ : ∃ x : Nat, x = 16 * a + b := ⟨_, rfl⟩
      have hor : bits .or .u8 ((a : Int) * 16) (b : Int) = (x : Int) := by
        have := or_16 a b hl2 hl3
        rw [hx, ← this]
        congr 1
        omega
      have hx256 : x < 256 := by omega
      rw [← hx] at HS
      have HR3 : Hid (hxR s.data.toList ra = (rb, b)) := hr3.symm
      clear hA hB hr2 hr3 hx hl3
      go_wp2_with fail
      refine (hexDigit_any p s ra _ H5.out.1 hs).mono ?_
      rintro e w6 ⟨rfl, h6, hc6⟩
      rw [HR3.out] at h6 ⊢
      have H6 : Hid (PR w6 p s rb ∧ Chg (One p) w w6) := ⟨h6, H5.out.2.trans hc6 (fun _ _ x => x)⟩
      simp only
      clear h6 hc6 H5
      go_wp2_with fail
      refine (isPlain_any _ _).mono ?_
      rintro e w7 ⟨rfl, rfl⟩
      have ev : ∀ v : UInt8, v = UInt8.ofNat x → (v.toNat : Int) = x := fun v e => by rw [e]; simp; omega
      cases hp : plainB (x : Int)
      · have HF : Hid ((⟨(escP s.data.toList q).1, (escP s.data.toList q).2.2⟩ : RS) = rb ∧ ((escP s.data.toList q).2.2 = false → (escP s.data.toList q).2.1 = UInt8.ofNat x)) := by
          have := HS.out
          rw [hp] at this
          exact this
        go_wp2
        go_ret
        exact ⟨UInt8.ofNat x, ret_u8 (ev _ rfl).symm, fun e => (HF.out.2 e).symm, by rw [HF.out.1]; exact H6.out.1, H6.out.2⟩
      · have HF : Hid ((⟨(escP s.data.toList q).1, (escP s.data.toList q).2.2⟩ : RS) = (if rb.bad then rb else ⟨q, true⟩) ∧ ((escP s.data.toList q).2.2 = false → (escP s.data.toList q).2.1 = UInt8.ofNat x)) := by
          have := HS.out
          rw [hp] at this
          exact this
        go_wp2_with fail
        refine (fail_any p s rb q _ H6.out.1 (by omega)).mono ?_
        rintro e w8 ⟨rfl, h8, hc8⟩
        have H8 : Hid (PR w8 p s (if rb.bad then rb else ⟨q, true⟩) ∧ Chg (One p) w w8) := ⟨h8, H6.out.2.trans hc8 (fun _ _ x => x)⟩
        clear h8 hc8
        go_wp2
        go_ret
        exact ⟨UInt8.ofNat x, ret_u8 (ev _ rfl).symm, fun e => (HF.out.2 e).symm, by rw [HF.out.1]; exact H8.out.1, H8.out.2⟩
    · have hn := isN_true hj
      have hp1 : q + 1 < s.size := hn.2.2.2
      have hg : s[q + 1]'hp1 = 92 := by have := hn.2.1; rw [get_ba hp1] at this; simpa using this
      have HF : Hid (escP s.data.toList q = (q + 2, 92, false)) := by
        show _ = _
        unfold escP
        rw [get_ba hp1, hg]
        simp
      have hix2 := run_at s (q + 1) hp1 92 (by rw [hg]; rfl)
      rw [show ((q + 1 : Nat) : Int) = (q : Int) + 1 by omega] at hix2
      simp only at c1
      rw [show ((q + 1 : Nat) : Int) = (q : Int) + 1 by omega] at c1
      clear hn hg
      go_wp2
      go_ret
      refine ⟨92, rfl, fun _ => by rw [HF.out], ?_, H3.out.2.trans (chg_to 1 _) (fun _ _ x => x)⟩
      rw [HF.out]
      have := H3.out.1.to (k := q + 2) (by omega)
      rw [show ((q + 2 : Nat) : Int) = (q : Int) + 1 + 1 by omega] at this
      exact this
  · have hn := isN_true hi
    have hp1 : q + 1 < s.size := hn.2.2.2
    have hg : s[q + 1]'hp1 = 34 := by have := hn.2.1; rw [get_ba hp1] at this; simpa using this
    have HF : Hid (escP s.data.toList q = (q + 2, 34, false)) := by
      show _ = _
      unfold escP
      rw [get_ba hp1, hg]
      simp
    have hix2 := run_at s (q + 1) hp1 34 (by rw [hg]; rfl)
    rw [show ((q + 1 : Nat) : Int) = (q : Int) + 1 by omega] at hix2
    simp only at c1
    rw [show ((q + 1 : Nat) : Int) = (q : Int) + 1 by omega] at c1
    clear hn hg
    go_wp2
    go_ret
    refine ⟨34, rfl, fun _ => by rw [HF.out], ?_, H2.out.2.trans (chg_to 1 _) (fun _ _ x => x)⟩
    rw [HF.out]
    have := H2.out.1.to (k := q + 2) (by omega)
    rw [show ((q + 2 : Nat) : Int) = (q : Int) + 1 + 1 by omega] at this
    exact this

set_option maxHeartbeats 1000000 in
theorem letter_rd (p : Nat) (s : ByteArray) (q : Nat) (w : World) (h : PR w p s ⟨q, false⟩) (hs : s.size ≤ 1024) (hq : q < s.size) :
    Calls Tryd.prog 88 #[.pointer (some ⟨p, 0, none⟩)] w fun e w' => ∃ v : UInt8, e = .returned (.int .u8 v.toNat) ∧ ((ltR s.data.toList q).1.bad = false → v = (ltR s.data.toList q).2) ∧ PR w' p s (ltR s.data.toList q).1 ∧ Chg (One p) w w' := by
  by_cases hc : s[q]'hq = 92
  · exact letter_esc p s q w h hs hq hc
  · obtain ⟨c0, c1, c2, f1, -⟩ := h.cells
    have H : Hid (PR w p s ⟨q, false⟩) := h
    obtain ⟨c, hcd⟩ : ∃ c, c = s[q]'hq := ⟨_, rfl⟩
    obtain ⟨ci, hci⟩ : ∃ ci : Int, ci = ((s[q]'hq).toNat : Int) := ⟨_, rfl⟩
    have hix := run_at s q hq ci hci
    have h92 : (ci == 92) = false := by
      simp only [beq_eq_false_iff_ne]
      intro e
      apply hc
      apply UInt8.toNat_inj.1
      show _ = 92
      omega
    have HL : Hid ((ltR s.data.toList q = if plainB ci then (⟨q + 1, false⟩, c) else (⟨q, true⟩, 0)) ∧ ci = (c.toNat : Int)) := by
      refine ⟨?_, by rw [hcd]; exact hci⟩
      unfold ltR
      rw [get_ba hq]
      simp only
      rw [if_neg hc, ← hci, ← hcd]
    clear h hc hci hcd
    go_enter Tryd.func88, Tryd.ntmps88
    go_wp2_with fail
    refine (isPlain_any _ _).mono ?_
    rintro e w1 ⟨rfl, rfl⟩
    cases hp : plainB ci
    · have HF : Hid (ltR s.data.toList q = (⟨q, true⟩, 0)) := by have := HL.out.1; rw [hp] at this; exact this
      go_wp2_with fail
      refine (fail_any p s ⟨q, false⟩ q _ H.out (by omega)).mono ?_
      rintro e w2 ⟨rfl, h2, hc2⟩
      have H2 : Hid (PR w2 p s ⟨q, true⟩ ∧ Chg (One p) _ w2) := ⟨h2, hc2⟩
      clear h2 hc2
      go_wp2
      go_ret
      rw [HF.out]
      exact ⟨0, rfl, fun e => (by cases e), H2.out⟩
    · have HF : Hid (ltR s.data.toList q = (⟨q + 1, false⟩, c)) := by have := HL.out.1; rw [hp] at this; exact this
      go_wp2
      go_ret
      rw [HF.out]
      refine ⟨c, ret_u8 HL.out.2, fun _ => rfl, ?_, chg_to 1 _⟩
      have := H.out.to (k := q + 1) (by omega)
      exact_mod_cast this
end Go.Proofs.YtlhcadfcgibkdaaDoor
