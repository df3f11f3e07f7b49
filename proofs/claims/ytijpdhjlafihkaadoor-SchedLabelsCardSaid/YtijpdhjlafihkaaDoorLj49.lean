/-
  The document's Extract and Expand.
-/
import Derived.Test.YtijpdhjlafihkaaDoorLj48
namespace Go.Proofs.YtijpdhjlafihkaaDoor
open Go.RowKit
set_option linter.unusedVariables false
set_option maxRecDepth 100000

theorem tL_range (q : Int) (key info : List Int) (i : Nat) : ∀ x ∈ tL q key info i, 0 ≤ x ∧ x < 256 := by
  cases i with
  | zero => intro x hx; cases hx
  | succ i => exact sumL_range q _

set_option maxRecDepth 100000 in
set_option maxHeartbeats 8000000 in
theorem refExpand_any (q : Int) (vk vi : Value) (key info : List Int) (n : Nat) (w : World) (hv : Valid q) (hk : Ap.Rd w vk key) (hkx : ∀ x ∈ key, 0 ≤ x ∧ x < 256) (hkl : key.length ≤ 140737488351232) (hi : Ap.Rd w vi info) (hix : ∀ x ∈ info, 0 ≤ x ∧ x < 256) (hil : info.length ≤ 140737488351232) (hn : n ≤ 255 * sizeOfH q) :
    Calls Tryd.prog 33 #[.int .i64 q, vk, vi, .int .i64 n] w fun r w' => ∃ o m c, r = .returned (.tuple #[.slice o m c, .int .i64 0]) ∧ Chg w w' ∧ Ap.Rd w' (.slice o m c) (expL q key info n) := by
  obtain ⟨io, im, ic, rfl, -⟩ := hi.shape
  obtain ⟨S, hS⟩ : ∃ S, S = sizeOfH q := ⟨_, rfl⟩
  have hS1 : 32 ≤ S ∧ S ≤ 64 := by rw [hS]; exact ⟨size_pos hv, size_le q⟩
  have hS0 : ¬ (S : Int) = 0 := by omega
  rw [← hS] at hn
  obtain ⟨M, hM⟩ : ∃ M : Nat, 255 * (S : Int) = M := ⟨255 * S, by omega⟩
  have wM := wrap_i (x := (M : Int)) (by omega) (by omega)
  have hnM : decide ((M : Int) < n) = false := by simp; omega
  have hnM' : decide (M < n) = false := by simp; omega
  have hSb : ((S : Int) == 0) = false := by simp; omega
  have hn0 : decide ((n : Int) < 0) = false := decide_eq_false (by omega)
  have HX : Hid (Valid q ∧ Ap.Rd w vk key ∧ (∀ x ∈ key, 0 ≤ x ∧ x < 256) ∧ key.length ≤ 140737488351232 ∧ Ap.Rd w (.slice io im ic) info ∧ (∀ x ∈ info, 0 ≤ x ∧ x < 256) ∧ info.length ≤ 140737488351232 ∧ S = sizeOfH q) := ⟨hv, hk, hkx, hkl, hi, hix, hil, hS⟩
  have HSz : Hid (∀ u, Calls Tryd.prog 31 #[.int .i64 q] u fun r w' => r = .returned (.int .i64 S) ∧ w' = u) := by
    intro u
    rw [hS]
    exact refSize_any q u
  clear hv hk hkx hkl hi hix hil hS
  go_enter Tryd.func33, Tryd.ntmps33
  go_wp2_with (go_at_call 31; (refine (HSz.out _).mono ?_; rintro r' w5 ⟨rfl, hw5⟩; rw [hw5]; clear hw5 w5))
  go_loopw [11, 12, 13] (fun v11 v12 v13 wr => ∃ (i : Nat), v13 = .int .i64 ((i + 1 : Nat) : Int) ∧ (i = 0 ∨ S * (i - 1) < n) ∧ OwnN w wr v11 (aL q key info i) ∧ (∃ o m c, v12 = .slice o m c ∧ Ap.Rd wr (.slice o m c) (tL q key info i))) (fun v11 v12 v13 wr => n + 64 - S * ((intOf v13).toNat - 1))
  case atStart => exact ⟨0, rfl, .inl rfl, ⟨.inl ⟨rfl, rfl⟩, (fun k e => by simp [Value.ownBlock] at e), Ap.Chg.refl _ w⟩, none, 0, 0, rfl, Ap.Rd.nil _⟩
  case round =>
    obtain ⟨i, rfl, hi0, ho, lo, lm, lc, rfl, hrl⟩ := hrel
    obtain ⟨ao, am, ac, rfl, ham, hamc, -⟩ := ho.own.rd.shape
    rw [aL_len, ← HX.out.2.2.2.2.2.2.2] at ham
    have H : Hid (OwnN w wr (.slice ao am ac) (aL q key info i) ∧ Ap.Rd wr (.slice lo lm lc) (tL q key info i) ∧ am = S * i) := ⟨ho, hrl, ham⟩
    clear ho hrl
    by_cases hPn : am < n
    · have hi255 : i < 255 := by
        rcases Nat.lt_or_ge i 255 with h' | h'
        · exact h'
        · have : S * 255 ≤ S * i := Nat.mul_le_mul_left S h'
          omega
      have had : decide ((am : Int) < n) = true := by simp; omega
      have had' : decide (am < n) = true := by simp; omega
      obtain ⟨x, hx⟩ : ∃ x, x = IntKind.u8.wrap ((i + 1 : Nat) : Int) := ⟨_, rfl⟩
      have hxc : IntKind.u8.wrap (((i + 1 : Nat) : Int)) = x := hx.symm
      have HR : Hid (x = IntKind.u8.wrap ((i + 1 : Nat) : Int)) := hx
      obtain ⟨i1, hi1⟩ : ∃ i1 : Nat, i1 = i + 1 := ⟨_, rfl⟩
      rw [← hi1] at hxc ⊢
      have HI : Hid (i1 = i + 1) := hi1
      have hi1b : i1 ≤ 255 := by omega
      have htl : (tL q key info i).length ≤ 64 := by
        cases i with
        | zero => simp [tL]
        | succ i => rw [tL_len]; exact size_le q
      have HL : Hid ((tL q key info i).length ≤ 64) := htl
      have Z0 : Hid (Ap.Rd (wr.alloc (.cells #[] 5)) (.slice lo lm lc) (tL q key info i)) := Rd.chg H.out.2.1 ((Chg.refl wr).alloc _)
      clear hx hi1 hi0 ham htl hamc
      go_wp2_with (at_builtin; refine Ap.wpList_app _ rfl _ _ rfl (.slice (some ⟨wr.heap.size, 0, none⟩) 0 0) (.slice lo lm lc) [] (tL q key info i) rfl rfl (OwnV.empty wr) Z0.out (by have := HL.out; simp; omega) ?_)
      intro v1 w1 o1 c1 b1
      obtain ⟨po, pm, pc, rfl, -⟩ := o1.rd.shape
      have Z1 : Hid (OwnN wr w1 (.slice po pm pc) (tL q key info i)) := by
        have k0 : OwnN wr (wr.alloc (.cells #[] 5)) (.slice (some ⟨wr.heap.size, 0, none⟩) 0 0) [] := ⟨OwnV.empty wr, fun k e => by simp [Value.ownBlock] at e; omega, (Ap.Chg.refl _ wr).alloc _⟩
        have k := k0.more o1 c1 (by first | exact b1 | (rw [World.size_alloc]; exact b1))
        show OwnN _ _ _ _
        simpa using k
      clear o1 c1 b1 Z0
      go_wp2_with (at_builtin; refine Ap.wpList_app _ rfl _ _ rfl (.slice po pm pc) (.slice io im ic) (tL q key info i) info rfl rfl Z1.out.own (Rd.chg HX.out.2.2.2.2.1 (Chg.ofAp (H.out.1.chg.trans Z1.out.chg (fun _ _ e => e)))) (by have := HL.out; have := HX.out.2.2.2.2.2.2.1; omega) ?_)
      intro v2 w2 o2 c2 b2
      obtain ⟨ro, rm, rc, rfl, -⟩ := o2.rd.shape
      have Z2 : Hid (OwnN wr w2 (.slice ro rm rc) (tL q key info i ++ info)) := Z1.out.more o2 c2 b2
      clear o2 c2 b2 Z1
      go_wp2_with (at_builtin; refine Ap.wpList_app _ rfl _ _ rfl (.slice ro rm rc) _ (tL q key info i ++ info) [x] rfl rfl (Z2.out.alloc _).own (Ap.Rd.one w2 x) (by have := HL.out; have := HX.out.2.2.2.2.2.2.1; simp only [List.length_append, List.length_cons, List.length_nil]; omega) ?_)
      intro v3 w3 o3 c3 b3
      obtain ⟨so, sm, sc, rfl, -⟩ := o3.rd.shape
      have Z3 : Hid (OwnN wr w3 (.slice so sm sc) (tL q key info i ++ info ++ [x])) := by
        have := (Z2.out.alloc _).more o3 c3 (by first | exact b3 | (rw [World.size_alloc]; exact b3))
        show OwnN _ _ _ _
        first | exact this | (rw [List.append_assoc]; exact this)
      clear o3 c3 b3 Z2
      go_wp2_with fail
      have hcw : Chg w w3 := Chg.ofAp (H.out.1.chg.trans Z3.out.chg (fun _ _ e => e))
      refine (refMac_any q vk (.slice so sm sc) key (tL q key info i ++ info ++ [x]) w3 HX.out.1 (Rd.chg HX.out.2.1 hcw) HX.out.2.2.1 HX.out.2.2.2.1 Z3.out.own.rd (app_range (app_range (tL_range q key info i) HX.out.2.2.2.2.2.1) (fun y hy => by rw [List.mem_singleton] at hy; rw [hy, HR.out, IntKind.wrap_u8]; omega)) (by have := HL.out; have := HX.out.2.2.2.2.2.2.1; simp only [List.length_append, List.length_cons, List.length_nil]; omega)).mono ?_
      rintro e w4 ⟨zo, tm, tc, rfl, hc4, hr4, hn4⟩
      have Z4 : Hid (OwnN w w4 (.slice ao am ac) (aL q key info i) ∧ Ap.Rd w4 (.slice zo tm tc) (tL q key info (i + 1)) ∧ ∀ k, (Value.slice zo tm tc).ownBlock = some k → (Value.slice ao am ac).ownBlock ≠ some k) := by
        have h1 := H.out.1
        have q4 : Chg wr w4 := (Chg.ofAp Z3.out.chg).trans hc4
        refine ⟨⟨OwnV.chg h1.own q4, h1.new, h1.chg.trans q4.toAp (fun _ _ e => e)⟩, ?_, fun k e e2 => ?_⟩
        · rw [HR.out] at hr4
          exact hr4
        · have := h1.own.lt k e2
          have := hn4 k e
          have := Z3.out.chg.size
          omega
      clear hc4 hr4 hn4 hcw Z3
      go_wp2_with (at_builtin; refine Ap.wpList_app _ rfl _ _ rfl (.slice ao am ac) (.slice zo tm tc) (aL q key info i) (tL q key info (i + 1)) rfl rfl Z4.out.1.own Z4.out.2.1 (by rw [aL_len, tL_len, ← HX.out.2.2.2.2.2.2.2, ← H.out.2.2]; omega) ?_)
      intro v5 w5 o5 c5 b5
      obtain ⟨fo, fm, fc, rfl, -⟩ := o5.rd.shape
      have Z5 : Hid (OwnN w w5 (.slice fo fm fc) (aL q key info (i + 1)) ∧ Ap.Rd w5 (.slice zo tm tc) (tL q key info (i + 1))) := by
        have k := Z4.out.1.more o5 c5 b5
        exact ⟨k, Z4.out.2.1.keep (fun j e hj => c5.block j hj (fun e2 => Z4.out.2.2 j e e2))⟩
      clear o5 c5 b5 Z4
      go_wp2_with fail
      have hi2 := HI.out
      have hP := H.out.2.2
      refine ⟨⟨i + 1, by rw [hi2]; go_num, .inr (by rw [Nat.add_sub_cancel, ← hP]; exact hPn), Z5.out.1, _, _, _, rfl, Z5.out.2⟩, ?_⟩
      have e1 : S * (i + 1) = am + S := by rw [Nat.mul_succ, ← hP]
      have e2 : (intOf (Value.int .i64 ((i1 : Int) + 1))).toNat - 1 = i + 1 := by simp [intOf]; omega
      have e3 : (intOf (Value.int .i64 (i1 : Int))).toNat - 1 = i := by simp [intOf]; omega
      show n + 64 - S * ((intOf (Value.int .i64 ((i1 : Int) + 1))).toNat - 1) < n + 64 - S * ((intOf (Value.int .i64 (i1 : Int))).toNat - 1)
      rw [e2, e3, e1, ← hP]
      omega
    · have had : decide ((am : Int) < n) = false := by simp; omega
      have had' : decide (am < n) = false := by simp; omega
      have hnc : (n : Int) ≤ ac := by omega
      have hi255 : i ≤ 255 := by
        rcases hi0 with h' | h'
        · omega
        · rcases Nat.lt_or_ge 255 i with h2 | h2
          · have : S * 255 ≤ S * (i - 1) := Nat.mul_le_mul_left S (by omega)
            omega
          · exact h2
      have Z : Hid (Chg w wr ∧ Ap.Rd wr (.slice ao n ac) (expL q key info n)) := by
        have h1 := H.out.1
        refine ⟨Chg.ofAp h1.chg, ?_⟩
        have := Rd.take h1.own.rd (k := n) (by omega)
        rw [← expL_at q key info i hi255, expL_take q key info _ n (by rw [← HX.out.2.2.2.2.2.2.2, ← H.out.2.2]; omega)] at this
        exact this
      clear H hi0 ham hamc
      go_wp2_with fail
      go_ret2
      exact ⟨ao, n, ac, rfl, Z.out.1, Z.out.2⟩
set_option maxRecDepth 100000 in
set_option maxHeartbeats 4000000 in
theorem refExpand_none (q n : Int) (vk vi : Value) (w : World) (h : ¬ Valid q ∨ n < 0 ∨ 255 * (sizeOfH q : Int) < n) :
    Calls Tryd.prog 33 #[.int .i64 q, vk, vi, .int .i64 n] w fun r w' => r = .returned (.tuple #[.slice none 0 0, .int .i64 1]) ∧ w' = w := by
  obtain ⟨S, hS⟩ : ∃ S, S = sizeOfH q := ⟨_, rfl⟩
  have HSz : Hid (∀ u, Calls Tryd.prog 31 #[.int .i64 q] u fun r w' => r = .returned (.int .i64 S) ∧ w' = u) := by
    intro u
    rw [hS]
    exact refSize_any q u
  have hS64 : S ≤ 64 := by rw [hS]; exact size_le q
  obtain ⟨M, hM⟩ : ∃ M : Nat, 255 * (S : Int) = M := ⟨255 * S, by omega⟩
  have wM := wrap_i (x := (M : Int)) (by omega) (by omega)
  by_cases hS0 : S = 0
  · subst hS0
    clear h hS hM wM
    go_enter Tryd.func33, Tryd.ntmps33
    go_wp2_with (go_at_call 31; (refine (HSz.out _).mono ?_; rintro r' w5 ⟨rfl, hw5⟩; rw [hw5]; clear hw5 w5))
    go_ret2
    exact ⟨rfl, rfl⟩
  · have hSb : ((S : Int) == 0) = false := by simp; omega
    have hSi : ¬ (S : Int) = 0 := by omega
    have hv : Valid q := by
      unfold Valid
      by_cases h1 : q = 1
      · exact .inl h1
      · by_cases h2 : q = 2
        · exact .inr (.inl h2)
        · by_cases h3 : q = 3
          · exact .inr (.inr h3)
          · exfalso
            apply hS0
            rw [hS, sizeOfH, if_neg h1, if_neg h2, if_neg h3]
    rw [← hS] at h
    by_cases hn : n < 0
    · have hnd : decide (n < 0) = true := by simp [hn]
      clear h hS hv
      go_enter Tryd.func33, Tryd.ntmps33
      go_wp2_with (go_at_call 31; (refine (HSz.out _).mono ?_; rintro r' w5 ⟨rfl, hw5⟩; rw [hw5]; clear hw5 w5))
      go_ret2
      exact ⟨rfl, rfl⟩
    · have hnM : (M : Int) < n := by
        rcases h with h | h | h
        · exact absurd hv h
        · exact absurd h hn
        · omega
      have hnd : decide (n < 0) = false := decide_eq_false hn
      have hnd2 : decide ((M : Int) < n) = true := by simp [hnM]
      clear h hS hv
      go_enter Tryd.func33, Tryd.ntmps33
      go_wp2_with (go_at_call 31; (refine (HSz.out _).mono ?_; rintro r' w5 ⟨rfl, hw5⟩; rw [hw5]; clear hw5 w5))
      go_ret2
      exact ⟨rfl, rfl⟩
end Go.Proofs.YtijpdhjlafihkaaDoor
