/-
  MacKeys, walked.
-/
import Derived.Test.YtlahfenjmpomhaaDoorRfX
import Derived.Test.YtlahfenjmpomhaaDoorExpN
import Derived.Test.YtlahfenjmpomhaaDoorHd
namespace Go.Proofs.YtlahfenjmpomhaaDoor
open Go.RowKit
set_option linter.unusedVariables false

/-- Both Expands answer alike. -/
theorem expands (q n : Int) (vk vi : Value) (key info : List Int) (w : World) (ht : Tabs w) (hk : Ap.Rd w vk key) (hkx : ∀ x ∈ key, 0 ≤ x ∧ x < 256) (hkl : key.length ≤ 140737488351232) (hi : Ap.Rd w vi info) (hix : ∀ x ∈ info, 0 ≤ x ∧ x < 256) (hil : info.length ≤ 140737488351232) :
    ∃ (E : Int) (X : List Int), (∀ u, Chg w u → Calls Tryd.prog 13 #[.int .i64 q, vk, vi, .int .i64 n] u fun r w' => ∃ o m c, r = .returned (.tuple #[.slice o m c, .int .i64 E]) ∧ Chg u w' ∧ Ap.Rd w' (.slice o m c) X) ∧ (∀ u, Chg w u → Calls Tryd.prog 14 #[.int .i64 q, vk, vi, .int .i64 n] u fun r w' => ∃ o m c, r = .returned (.tuple #[.slice o m c, .int .i64 E]) ∧ Chg u w' ∧ Ap.Rd w' (.slice o m c) X) := by
  by_cases h : ¬ Valid q ∨ n < 0 ∨ 255 * (sizeOfH q : Int) < n
  · refine ⟨1, [], fun u hu => ?_, fun u hu => ?_⟩
    · refine (expand_none q n vk vi u h).mono ?_
      rintro r w' ⟨rfl, rfl⟩
      exact ⟨_, _, _, rfl, Chg.refl _, Ap.Rd.nil _⟩
    · refine (refExpand_none q n vk vi u h).mono ?_
      rintro r w' ⟨rfl, rfl⟩
      exact ⟨_, _, _, rfl, Chg.refl _, Ap.Rd.nil _⟩
  · have hv : Valid q := Classical.not_not.1 (fun e => h (.inl e))
    have hn0 : ¬ n < 0 := fun e => h (.inr (.inl e))
    have hn1 : ¬ 255 * (sizeOfH q : Int) < n := fun e => h (.inr (.inr e))
    obtain ⟨m, rfl⟩ : ∃ m : Nat, n = m := ⟨n.toNat, by omega⟩
    exact ⟨0, expL q key info m, fun u hu => expand_any q vk vi key info m u hv (ht.chg hu) (Rd.chg hk hu) hkl (Rd.chg hi hu) (by omega) (by omega), fun u hu => refExpand_any q vk vi key info m u hv (Rd.chg hk hu) hkx hkl (Rd.chg hi hu) hix hil (by omega)⟩

set_option maxRecDepth 100000 in
set_option maxHeartbeats 4000000 in
theorem keys_walk (q n : Int) (vs vx vi : Value) (salt secret info : List Int) (w : World) (ht : Tabs w) (hs : Ap.Rd w vs salt) (hx : Ap.Rd w vx secret) (hi : Ap.Rd w vi info) (bs : ∀ x ∈ salt, 0 ≤ x ∧ x < 256) (bx : ∀ x ∈ secret, 0 ≤ x ∧ x < 256) (bi : ∀ x ∈ info, 0 ≤ x ∧ x < 256) (ls : salt.length ≤ 140737488351232) (lx : secret.length ≤ 140737488351232) (li : info.length ≤ 140737488351232) :
    Calls Tryd.prog 4 #[.int .i64 q, vs, vx, vi, .int .i64 n] w fun e w' => e = .returned (.bool true) ∧ Chg w w' := by
  obtain ⟨so, sn, sc, rfl, -⟩ := hs.shape
  obtain ⟨xo, xn, xc, rfl, -⟩ := hx.shape
  obtain ⟨io, im, ic, rfl, -⟩ := hi.shape
  obtain ⟨E, X, hE, hF⟩ := expands q n (.slice xo xn xc) (.slice io im ic) secret info w ht hx bx lx hi bi li
  have HX : Hid (Tabs w ∧ Ap.Rd w (.slice so sn sc) salt ∧ Ap.Rd w (.slice xo xn xc) secret ∧ (∀ x ∈ salt, 0 ≤ x ∧ x < 256) ∧ (∀ x ∈ secret, 0 ≤ x ∧ x < 256) ∧ salt.length ≤ 140737488351232 ∧ secret.length ≤ 140737488351232) := ⟨ht, hs, hx, bs, bx, ls, lx⟩
  have HE : Hid (∀ u, Chg w u → Calls Tryd.prog 13 #[.int .i64 q, .slice xo xn xc, .slice io im ic, .int .i64 n] u fun r w' => ∃ o m c, r = .returned (.tuple #[.slice o m c, .int .i64 E]) ∧ Chg u w' ∧ Ap.Rd w' (.slice o m c) X) := hE
  have HF : Hid (∀ u, Chg w u → Calls Tryd.prog 14 #[.int .i64 q, .slice xo xn xc, .slice io im ic, .int .i64 n] u fun r w' => ∃ o m c, r = .returned (.tuple #[.slice o m c, .int .i64 E]) ∧ Chg u w' ∧ Ap.Rd w' (.slice o m c) X) := hF
  clear ht hs hx hi bs bx bi ls lx li hE hF
  go_enter Tryd.func4, Tryd.ntmps4
  go_wp2_with fail
  refine (head_any w HX.out.1).mono ?_
  rintro e w1 ⟨rfl, hc1⟩
  have Z1 : Hid (Chg w w1) := hc1
  clear hc1
  go_wp2_with fail
  refine (extract_any q _ _ salt secret w1 (HX.out.1.chg Z1.out) (Rd.chg HX.out.2.1 Z1.out) HX.out.2.2.2.2.2.1 (Rd.chg HX.out.2.2.1 Z1.out) (by have := HX.out.2.2.2.2.2.2; omega)).mono ?_
  rintro e w2 ⟨ao, an, ac, rfl, hc2, hr2⟩
  have Z2 : Hid (Chg w w2 ∧ Ap.Rd w2 (.slice ao an ac) (macL q salt secret)) := ⟨Z1.out.trans hc2, hr2⟩
  clear hc2 hr2 Z1
  go_wp2_with fail
  refine (refExtract_any q _ _ salt secret w2 (Rd.chg HX.out.2.1 Z2.out.1) HX.out.2.2.2.1 HX.out.2.2.2.2.2.1 (Rd.chg HX.out.2.2.1 Z2.out.1) HX.out.2.2.2.2.1 HX.out.2.2.2.2.2.2).mono ?_
  rintro e w3 ⟨bo, bn, bc, rfl, hc3, hr3⟩
  have Z3 : Hid (Chg w w3 ∧ Ap.Rd w3 (.slice ao an ac) (macL q salt secret) ∧ Ap.Rd w3 (.slice bo bn bc) (macL q salt secret)) := ⟨Z2.out.1.trans hc3, Rd.chg Z2.out.2 hc3, hr3⟩
  clear hc3 hr3 Z2
  go_wp2_with fail
  refine (HE.out w3 Z3.out.1).mono ?_
  rintro e w4 ⟨co, cn, cc, rfl, hc4, hr4⟩
  have Z4 : Hid (Chg w w4 ∧ Ap.Rd w4 (.slice ao an ac) (macL q salt secret) ∧ Ap.Rd w4 (.slice bo bn bc) (macL q salt secret) ∧ Ap.Rd w4 (.slice co cn cc) X) := ⟨Z3.out.1.trans hc4, Rd.chg Z3.out.2.1 hc4, Rd.chg Z3.out.2.2 hc4, hr4⟩
  clear hc4 hr4 Z3
  go_wp2_with fail
  refine (HF.out w4 Z4.out.1).mono ?_
  rintro e w5 ⟨eo, en, ec, rfl, hc5, hr5⟩
  have Z5 : Hid (Chg w w5) := Z4.out.1.trans hc5
  obtain ⟨s1, hs1⟩ : ∃ s, s = strOfNums (macL q salt secret) := ⟨_, rfl⟩
  obtain ⟨s2, hs2⟩ : ∃ s, s = strOfNums X := ⟨_, rfl⟩
  have k1 := Ap.run_str w5 _ _ (Rd.chg Z4.out.2.1 hc5)
  have k2 := Ap.run_str w5 _ _ (Rd.chg Z4.out.2.2.1 hc5)
  have k3 := Ap.run_str w5 _ _ (Rd.chg Z4.out.2.2.2 hc5)
  have k4 := Ap.run_str w5 _ _ hr5
  rw [← hs1] at k1 k2
  rw [← hs2] at k3 k4
  clear hs1 hs2 hc5 hr5 Z4
  go_wp2_with fail
  go_ret
  exact ⟨rfl, Z5.out⟩
end Go.Proofs.YtlahfenjmpomhaaDoor
