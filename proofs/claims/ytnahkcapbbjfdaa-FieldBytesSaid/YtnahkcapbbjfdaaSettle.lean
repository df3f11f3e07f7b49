/-
  Columns of 32 bits, settled: each keeps its 32 bits, and hands the rest on.
-/
import Derived.Test.YtnahkcapbbjfdaaFold
import Derived.Laws.Bits128
namespace Go.Proofs.Ytnahkcapbbjfdaa
open Go.RowKit
set_option linter.unusedVariables false

theorem low32 (n : Int) : bits .and .i64 n 4294967295 = n % 4294967296 := by
  have hm : (BitVec.ofInt 64 4294967295).toNat = 2 ^ 32 - 1 := by decide
  show IntKind.i64.wrap ((BitVec.ofInt 64 n &&& BitVec.ofInt 64 4294967295).toNat : Nat) = n % 4294967296
  rw [BitVec.toNat_and, BitVec.toNat_ofInt, hm, Nat.and_two_pow_sub_one_eq_mod, IntKind.wrap_i64]
  omega

abbrev B32 : Int := 4294967296

/-- What settling the first n columns leaves. -/
structure Settled (c s : Nat → Int) (i : Nat) : Prop where
  low : ∀ j, j < i → 0 ≤ s j ∧ s j < 4294967296
  same : ∀ j, i < j → s j = c j
  value : val B32 9 s = val B32 9 c
  bound : -2251799813685248 ≤ s i - c i ∧ s i - c i ≤ 2251799813685248

set_option maxRecDepth 100000 in
set_option maxHeartbeats 4000000 in
theorem settle_any (b : Nat) (c : Nat → Int) (w : World) (ha : Ar w b (arr .i64 16 c)) (hc : Cb 1125899906842624 c) :
    Calls Try.prog 79 #[.pointer (some ⟨b, 0, none⟩)] w fun r w' => r = .returned (.tuple #[]) ∧ Bt b w w' ∧ ∃ s, Ar w' b (arr .i64 16 s) ∧ Settled c s 8 := by
  have HA : Hid (Ar w b (arr .i64 16 c)) := ha
  have HCb : Hid (Cb 1125899906842624 c) := hc
  clear ha hc
  go_enter Try.func79, Try.ntmps79
  go_wp2_with fail
  go_loopw [3] (fun v wr => ∃ (i : Nat) (s : Nat → Int), v = .int .i64 i ∧ i ≤ 8 ∧ Bt b w wr ∧ Ar wr b (arr .i64 16 s) ∧ Settled c s i) (fun v wr => 8 - (intOf v).toNat)
  case atStart => exact ⟨0, c, rfl, by omega, Bt.refl _ _, HA.out, ⟨fun j hj => by omega, fun j _ => rfl, rfl, by omega⟩⟩
  case round =>
    obtain ⟨i, s, rfl, hi, hb, ha, hs⟩ := hrel
    obtain ⟨w1, hw1⟩ : ∃ w1, w1 = wr := ⟨_, rfl⟩
    subst hw1
    have HB : Hid (Bt b w w1) := hb
    have HS : Hid (Settled c s i) := hs
    have HA1 : Hid (Ar w1 b (arr .i64 16 s)) := ha
    by_cases hi8 : i < 8
    · obtain ⟨q, hq⟩ : ∃ q : Nat, (i : Int) + 1 = q := ⟨i + 1, by omega⟩
      have hq16 : (q : Int) < 16 := by omega
      have hq0 : (0 : Int) ≤ q := by omega
      have hi16 : (i : Int) < 16 := by omega
      have hqw := wrap_i (x := (q : Int)) (by omega) (by omega)
      have c1 := (ha.cell q).trans (arr_get .i64 16 s (i := q) (by omega))
      have c0 := (ha.cell i).trans (arr_get .i64 16 s (i := i) (by omega))
      have f1 := ha.frozen q
      obtain ⟨x, hx⟩ : ∃ x, x = s i := ⟨_, rfl⟩
      obtain ⟨y, hy⟩ : ∃ x, x = s q := ⟨_, rfl⟩
      rw [← hx] at c0
      rw [← hy] at c1
      have bx : -4503599627370496 ≤ x ∧ x ≤ 4503599627370496 := by
        have h1 := hs.bound
        have h2 := HCb.out i
        rw [← hx] at h1
        omega
      have byy : -1125899906842624 ≤ y ∧ y ≤ 1125899906842624 := by
        rw [hy, hs.same q (by omega)]
        exact HCb.out q
      obtain ⟨z, hz⟩ : ∃ z, z = y + x / 4294967296 := ⟨_, rfl⟩
      have wz := wrap_i (x := y + x / 4294967296) (by omega) (by omega)
      rw [← hz] at wz
      have HX : Hid (x = s i ∧ y = s q ∧ z = y + x / 4294967296) := ⟨hx, hy, hz⟩
      have hzz := hz.symm
      have hne : ¬ q = i := by omega
      have hne' : ¬ i = q := by omega
      have hdi : decide ((i : Int) < 8) = true := by simp; omega
      clear hb ha hs hx hy hz
      go_wp2_with fail
      go_cut [] from 6 to 20 (fun wc => Bt b w wc ∧ Ar wc b (arr .i64 16 (upd s q z)))
      case first =>
        go_region_with (fail)
        all_goals go_wp2_with fail
        all_goals go_meet
        all_goals
          refine ⟨(HB.out.set _ _).drew, ?_⟩
          have := HA1.out.set q (.int .i64 z)
          rw [arr_set] at this
          exact this
      case rest =>
        obtain ⟨hb, ha⟩ := hcut
        obtain ⟨w2, hw2⟩ : ∃ w2, w2 = wc := ⟨_, rfl⟩
        subst hw2
        clear c0 c1 f1
        have c0 := (ha.cell i).trans (arr_get .i64 16 (upd s q z) (i := i) (by omega))
        rw [upd_ne _ _ hne', ← HX.out.1] at c0
        have f0 := ha.frozen i
        have hlow := low32 x
        have HB2 : Hid (Bt b w w2) := hb
        have HA2 : Hid (Ar w2 b (arr .i64 16 (upd s q z))) := ha
        clear hb ha
        go_wp2_with fail
        go_region_with (fail)
        all_goals go_wp2
        all_goals
          obtain ⟨hx, hy, hz⟩ := HX.out
          have hq' : q = i + 1 := by omega
          have hS := HS.out
          go_roundw
          case rel =>
            refine ⟨i + 1, upd (upd s q z) i (x % 4294967296), by go_num, by omega, (HB2.out.set _ _).drew, ?_, ?_, ?_, ?_, ?_⟩
            · have := HA2.out.set i (.int .i64 (x % 4294967296))
              rw [arr_set] at this
              exact this
            · intro j hj
              by_cases hji : j = i
              · rw [hji, upd_same]; omega
              · rw [upd_ne _ _ hji, upd_ne _ _ (by omega)]; exact hS.low j (by omega)
            · intro j hj
              rw [upd_ne _ _ (by omega), upd_ne _ _ (by omega)]; exact hS.same j (by omega)
            · rw [← hS.value, val_upd_in _ _ (by omega), val_upd_in _ _ (by omega), upd_ne _ _ hne', ← hx, ← hy, hq', Int.pow_succ]
              have e : x % 4294967296 = x - 4294967296 * (x / 4294967296) := by omega
              rw [e, hz]
              unfold B32
              grind
            · rw [upd_ne _ _ (by omega), ← hq', upd_same, ← hS.same q (by omega), ← hy]
              omega
          case measure => simp [intOf]; omega
    · have hi8' : i = 8 := by omega
      subst hi8'
      clear hb ha hs
      go_wp2
      go_end0
      exact ⟨rfl, HB.out, s, HA1.out, HS.out⟩
end Go.Proofs.Ytnahkcapbbjfdaa
