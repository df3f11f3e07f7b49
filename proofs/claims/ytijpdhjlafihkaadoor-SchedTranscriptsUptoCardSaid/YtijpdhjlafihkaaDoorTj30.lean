/-
  Expand, where it may not be.
-/
import Derived.Test.YtijpdhjlafihkaaDoorTj29
import Derived.Test.YtijpdhjlafihkaaDoorTj27
namespace Go.Proofs.YtijpdhjlafihkaaDoor
open Go.RowKit
set_option linter.unusedVariables false
set_option maxRecDepth 100000

set_option maxRecDepth 100000 in
set_option maxHeartbeats 4000000 in
theorem expand_none (q n : Int) (vk vi : Value) (w : World) (h : ¬ Valid q ∨ n < 0 ∨ 255 * (sizeOfH q : Int) < n) :
    Calls Tryd.prog 29 #[.int .i64 q, vk, vi, .int .i64 n] w fun r w' => r = .returned (.tuple #[.slice none 0 0, .int .i64 1]) ∧ w' = w := by
  obtain ⟨S, hS⟩ : ∃ S, S = sizeOfH q := ⟨_, rfl⟩
  have HSz : Hid (∀ u, Calls Tryd.prog 20 #[.int .i64 q] u fun r w' => r = .returned (.int .i64 S) ∧ w' = u) := by
    intro u
    rw [hS]
    exact size_any q u
  have hS64 : S ≤ 64 := by rw [hS]; exact size_le q
  obtain ⟨M, hM⟩ : ∃ M : Nat, 255 * (S : Int) = M := ⟨255 * S, by omega⟩
  have wM := wrap_i (x := (M : Int)) (by omega) (by omega)
  by_cases hS0 : S = 0
  · subst hS0
    clear h hS hM wM
    go_enter Tryd.func29, Tryd.ntmps29
    go_wp2_with (go_at_call 20; (refine (HSz.out _).mono ?_; rintro r' w5 ⟨rfl, hw5⟩; rw [hw5]; clear hw5 w5))
    go_ret2
    exact ⟨rfl, rfl⟩
  · have hSb : ((S : Int) == 0) = false := by simp; omega
    have hSi : ¬ (S : Int) = 0 := by omega
    have hv : Valid q := by
      unfold Valid
      by_cases h1 : q = 1
      · exact .inl h1
      · by_cases h2 : q = 2
        · exact .inr (.inl h2)
        · by_cases h3 : q = 3
          · exact .inr (.inr h3)
          · exfalso
            apply hS0
            rw [hS, sizeOfH, if_neg h1, if_neg h2, if_neg h3]
    rw [← hS] at h
    by_cases hn : n < 0
    · have hnd : decide (n < 0) = true := by simp [hn]
      clear h hS hv
      go_enter Tryd.func29, Tryd.ntmps29
      go_wp2_with (go_at_call 20; (refine (HSz.out _).mono ?_; rintro r' w5 ⟨rfl, hw5⟩; rw [hw5]; clear hw5 w5))
      go_ret2
      exact ⟨rfl, rfl⟩
    · have hnM : (M : Int) < n := by
        rcases h with h | h | h
        · exact absurd hv h
        · exact absurd h hn
        · omega
      have hnd : decide (n < 0) = false := decide_eq_false hn
      have hnd2 : decide ((M : Int) < n) = true := by simp [hnM]
      clear h hS hv
      go_enter Tryd.func29, Tryd.ntmps29
      go_wp2_with (go_at_call 20; (refine (HSz.out _).mono ?_; rintro r' w5 ⟨rfl, hw5⟩; rw [hw5]; clear hw5 w5))
      go_ret2
      exact ⟨rfl, rfl⟩
end Go.Proofs.YtijpdhjlafihkaaDoor
namespace Go.Proofs.YtijpdhjlafihkaaDoor
open Go.RowKit
set_option linter.unusedVariables false
set_option maxRecDepth 100000

theorem nums_size (x : List Int) : (strOfNums x).size = x.length := by simp [strOfNums, ByteArray.size]
/-- Is it refused? -/
def exBad (q : Int) (S : ByteArray) (ctx : List Int) (n : Int) : Bool :=
  decide (249 < S.size) || decide (255 < ctx.length) || decide (sizeOfH q = 0) || decide (n < 0) || decide (255 * (sizeOfH q : Int) < n)
def exE (q : Int) (S : ByteArray) (ctx : List Int) (n : Int) : Int := if exBad q S ctx n then 191 else 0
def exL (q : Int) (key : List Int) (S : ByteArray) (ctx : List Int) (n : Int) : List Int := if exBad q S ctx n then [] else expL q key (Ap.bI (Ap.infoB S ctx n.toNat)) n.toNat
theorem valid_size {q : Int} : Valid q ↔ ¬ sizeOfH q = 0 := by
  constructor
  · intro h
    have := size_pos h
    omega
  · intro h
    unfold Valid
    unfold sizeOfH at h
    by_cases h1 : q = 1
    · exact .inl h1
    · by_cases h2 : q = 2
      · exact .inr (.inl h2)
      · by_cases h3 : q = 3
        · exact .inr (.inr h3)
        · rw [if_neg h1, if_neg h2, if_neg h3] at h
          exact absurd rfl h

/-- What Expand answers. -/
structure XA (q : Int) (key : List Int) (S : ByteArray) (ctx : List Int) (n : Int) (w w' : World) (e : Ending) : Prop where
  ex : ∃ o m c, e = .returned (.tuple #[.slice o m c, .int .i64 (exE q S ctx n)]) ∧ Ap.Rd w' (.slice o m c) (exL q key S ctx n)
  chg : Chg w w'

set_option maxHeartbeats 4000000 in
theorem sexp_any (q : Int) (vk vc : Value) (key ctx : List Int) (S : ByteArray) (n : Int) (w : World) (ht : Tabs w) (hk : Ap.Rd w vk key) (hkl : key.length ≤ 140737488351232) (hc : Ap.Rd w vc ctx) :
    Calls Tryd.prog 7 #[.int .i64 q, vk, .string S, vc, .int .i64 n] w fun e w' => XA q key S ctx n w w' e := by
  obtain ⟨ao, m, c, rfl, hm, -⟩ := hc.shape
  by_cases h1 : 249 < S.size
  · have hd : decide ((249 : Int) < (S.size : Int)) = true := decide_eq_true (by omega)
    have hb : exBad q S ctx n = true := by unfold exBad; simp [h1]
    have HB : Hid (exBad q S ctx n = true) := hb
    clear ht hk hc hb h1 hm
    go_enter Tryd.func7, Tryd.ntmps7
    go_wp2
    go_ret2
    refine ⟨⟨none, 0, 0, by unfold exE; rw [if_pos HB.out]; rfl, ?_⟩, Chg.refl _⟩
    unfold exL
    rw [if_pos HB.out]
    exact Ap.Rd.nil _
  · have hd : decide ((249 : Int) < (S.size : Int)) = false := decide_eq_false (by omega)
    by_cases h2 : 255 < ctx.length
    · have hd2 : decide ((255 : Int) < (m : Int)) = true := decide_eq_true (by omega)
      have hb : exBad q S ctx n = true := by unfold exBad; simp [h2]
      have HB : Hid (exBad q S ctx n = true) := hb
      clear ht hk hc hb h1 h2 hm
      go_enter Tryd.func7, Tryd.ntmps7
      go_wp2
      go_ret2
      refine ⟨⟨none, 0, 0, by unfold exE; rw [if_pos HB.out]; rfl, ?_⟩, Chg.refl _⟩
      unfold exL
      rw [if_pos HB.out]
      exact Ap.Rd.nil _
    · have hd2 : decide ((255 : Int) < (m : Int)) = false := decide_eq_false (by omega)
      have hp := Ap.infoOf_any S (.slice ao m c) ctx n w hc (by omega) (by rw [nums_size]; omega)
      have HX : Hid (Tabs w ∧ Ap.Rd w vk key ∧ key.length ≤ 140737488351232 ∧ ¬ 249 < S.size ∧ ¬ 255 < ctx.length) := ⟨ht, hk, hkl, h1, h2⟩
      clear ht hk hc h1 h2 hm hkl
      go_enter Tryd.func7, Tryd.ntmps7
      go_wp2_with (go_at_call 30; refine hp.mono ?_)
      rintro e w1 ⟨g, m1, c1, rfl, hc1, hr1⟩
      have H1 : Hid (Chg w w1 ∧ Ap.Rd w1 (.slice (some ⟨g, 0, none⟩) m1 c1) (Ap.bI (Ap.infoB S ctx (IntKind.u64.wrap n).toNat))) := ⟨Chg.non hc1, hr1⟩
      clear hc1 hr1 hp
      by_cases hbad : ¬ Valid q ∨ n < 0 ∨ 255 * (sizeOfH q : Int) < n
      · have hp := expand_none q n vk (.slice (some ⟨g, 0, none⟩) m1 c1) w1 hbad
        have hb : exBad q S ctx n = true := by
          unfold exBad
          rcases hbad with h | h | h
          · have : sizeOfH q = 0 := by
              rw [valid_size] at h
              omega
            simp [this]
          · simp [h]
          · simp [h]
        have HB : Hid (exBad q S ctx n = true) := hb
        clear hb hbad
        go_wp2_with (go_at_call 29; refine hp.mono ?_)
        rintro e w2 ⟨rfl, rfl⟩
        clear hp
        go_wp2
        go_ret2
        refine ⟨⟨none, 0, 0, by unfold exE; rw [if_pos HB.out]; rfl, ?_⟩, H1.out.1⟩
        unfold exL
        rw [if_pos HB.out]
        exact Ap.Rd.nil _
      · have hv : Valid q := by
          by_cases h : Valid q
          · exact h
          · exact absurd (.inl h) hbad
        have hn0 : 0 ≤ n := by
          by_cases h : n < 0
          · exact absurd (.inr (.inl h)) hbad
          · omega
        have hn1 : n ≤ 255 * (sizeOfH q : Int) := by
          by_cases h : 255 * (sizeOfH q : Int) < n
          · exact absurd (.inr (.inr h)) hbad
          · omega
        have hsz := size_le q
        obtain ⟨k, rfl⟩ : ∃ k : Nat, n = k := ⟨n.toNat, by omega⟩
        have hb : exBad q S ctx k = false := by
          have h3 := valid_size.1 hv
          have h4 := HX.out.2.2.2
          unfold exBad
          simp only [Bool.or_eq_false_iff, decide_eq_false_iff_not]
          exact ⟨⟨⟨⟨h4.1, h4.2⟩, h3⟩, by omega⟩, by omega⟩
        have hw : IntKind.u64.wrap (k : Int) = k := by rw [IntKind.wrap_u64]; omega
        have h1 := H1.out.2
        rw [hw] at h1
        have hp := expand_any q vk (.slice (some ⟨g, 0, none⟩) m1 c1) key _ k w1 hv (HX.out.1.chg H1.out.1) (Rd.chg HX.out.2.1 H1.out.1) HX.out.2.2.1 h1 (by rw [Ap.bI_len, Ap.infoB_len, nums_size]; have := HX.out.2.2.2; omega) (by omega)
        have HB : Hid (exBad q S ctx k = false) := hb
        clear hb hbad hv hn0 hn1 hsz hw h1
        go_wp2_with (go_at_call 29; refine hp.mono ?_)
        rintro e w2 ⟨o, m2, c2, rfl, hc2, hr2⟩
        have H2 : Hid (Chg w w2 ∧ Ap.Rd w2 (.slice o m2 c2) (exL q key S ctx k)) := ⟨H1.out.1.trans hc2, by unfold exL; rw [HB.out]; exact hr2⟩
        clear hp hc2 hr2
        go_wp2
        go_ret2
        exact ⟨⟨_, _, _, by unfold exE; rw [HB.out]; rfl, H2.out.2⟩, H2.out.1⟩
end Go.Proofs.YtijpdhjlafihkaaDoor
