/-
  Num, Small, Bool, Bits: the program's and the document's.
-/
import Derived.Test.YtnidfbcninkglaaDoorSm
namespace Go.Proofs.YtnidfbcninkglaaDoor
open Go.RowKit
set_option linter.unusedVariables false
set_option maxRecDepth 100000

def numOk : List Int → Bool
  | [] => false
  | [x] => decide (x < 128)
  | x :: y :: r => decide (r.length ≤ 31) && decide (x < 128) && (decide (x ≠ 0) || decide (128 ≤ y))
def numV : List Int → List Int
  | x :: y :: r => if x = 0 then y :: r else x :: y :: r
  | l => l
def numE (xs : List Int) : Int := if numOk xs = true then 0 else 144
def numR (xs : List Int) : List Int := if numOk xs = true then numV xs else []

set_option maxHeartbeats 800000 in
theorem num_any (v : Value) (xs : List Int) (hb : Byt xs) (w : World) (hv : Rd w v xs) :
    Calls Tryd.prog 16 #[v] w fun e w' => ∃ v', e = .returned (.tuple #[v', .int .i64 (numE xs)]) ∧ OwnN w w' v' (numR xs) := by
  match xs, hb, hv with
  | [], hb, hv =>
    obtain ⟨ao, c, rfl, hc⟩ := hv.empty
    go_enter Tryd.func16, Tryd.ntmps16
    go_wp2
    go_ret2
    exact ⟨_, rfl, OwnN.nought w⟩
  | [x], hb, hv =>
    have HV : Hid (Rd w v [x]) := hv
    obtain ⟨b, o, c, rfl, h1, h2, h3⟩ := hv.bs (by simp)
    have hx := h3.at0
    obtain ⟨h4, h5⟩ := hb.head
    simp only [List.length_singleton] at h1 HV ⊢
    clear hv h3
    by_cases e1 : x < 128
    · have E : numE [x] = 0 ∧ numR [x] = [x] := by simp [numE, numR, numOk, numV, e1]
      rw [E.1, E.2]
      clear E
      go_enter Tryd.func16, Tryd.ntmps16
      go_wp2_with (go_at_call 42; refine (clone_any _ [x] _ HV.out (by simp)).mono ?_; rintro e w' ⟨v', rfl, hn⟩)
      go_ret2
      exact ⟨_, rfl, hn⟩
    · have E : numE [x] = 144 ∧ numR [x] = [] := by simp [numE, numR, numOk, e1]
      rw [E.1, E.2]
      clear E
      go_enter Tryd.func16, Tryd.ntmps16
      go_wp2
      go_ret2
      exact ⟨_, rfl, OwnN.nought w⟩
  | x :: y :: r, hb, hv =>
    have HV : Hid (Rd w v (x :: y :: r)) := hv
    obtain ⟨b, o, c, rfl, h1, h2, h3⟩ := hv.bs (by simp)
    have hx := h3.at0
    have hy := h3.at1
    have HT : Hid (Bs w b (o + 1) (y :: r)) := h3.tail
    obtain ⟨h4, h5⟩ := hb.head
    obtain ⟨h6, h7⟩ := hb.tail.head
    obtain ⟨n, hn⟩ : ∃ n, n = (x :: y :: r).length := ⟨_, rfl⟩
    rw [← hn] at h1 HV ⊢
    have hn' : n = r.length + 2 := by simpa using hn
    have HN : Hid (n = r.length + 2) := hn'
    have h8 : 2 ≤ n := by omega
    have h9 : ¬ n = 1 := by omega
    have h9' : ¬ n = 0 := by omega
    have h10 : ¬ c = 1 := by omega
    have i0 : ((n : Int) == 0) = false := by simp; omega
    have i1 : ((n : Int) == 1) = false := by simp; omega
    clear hv h3 hn
    by_cases e0 : n ≤ 33
    · have e0' : decide ((33 : Int) < (n : Int)) = false := by simp; omega
      by_cases e1 : x < 128
      · by_cases e2 : x = 0
        · by_cases e3 : 128 ≤ y
          · have E : numE (x :: y :: r) = 0 ∧ numR (x :: y :: r) = y :: r := by
              have : r.length ≤ 31 := by omega
              simp [numE, numR, numOk, numV, e2, e3, this]
            rw [E.1, E.2]
            clear E hn' hb
            subst e2
            go_enter Tryd.func16, Tryd.ntmps16
            go_wp2_with (go_at_call 42; refine (clone_any _ (y :: r) _ (HT.out.rd (by have := HN.out; simp; omega) (by omega) (by omega)) (by have := HN.out; simp; omega)).mono ?_; rintro e w' ⟨v', rfl, hn⟩)
            go_ret2
            exact ⟨_, rfl, hn⟩
          · have E : numE (x :: y :: r) = 144 ∧ numR (x :: y :: r) = [] := by
              simp [numE, numR, numOk, e2, e3]
            rw [E.1, E.2]
            clear E hn' hb
            subst e2
            go_enter Tryd.func16, Tryd.ntmps16
            go_wp2
            go_ret2
            exact ⟨_, rfl, OwnN.nought w⟩
        · have E : numE (x :: y :: r) = 0 ∧ numR (x :: y :: r) = x :: y :: r := by
            have : r.length ≤ 31 := by omega
            simp [numE, numR, numOk, numV, e1, e2, this]
          have e2' : (x != 0) = true := by simpa using e2
          rw [E.1, E.2]
          clear E hn' hb
          go_enter Tryd.func16, Tryd.ntmps16
          go_wp2_with (go_at_call 42; refine (clone_any _ (x :: y :: r) _ HV.out (by have := HN.out; simp; omega)).mono ?_; rintro e w' ⟨v', rfl, hn⟩)
          go_ret2
          exact ⟨_, rfl, hn⟩
      · have E : numE (x :: y :: r) = 144 ∧ numR (x :: y :: r) = [] := by simp [numE, numR, numOk, e1]
        rw [E.1, E.2]
        clear E hn' hb
        go_enter Tryd.func16, Tryd.ntmps16
        go_wp2
        go_ret2
        exact ⟨_, rfl, OwnN.nought w⟩
    · have E : numE (x :: y :: r) = 144 ∧ numR (x :: y :: r) = [] := by
        have : ¬ r.length ≤ 31 := by omega
        simp [numE, numR, numOk, this]
      rw [E.1, E.2]
      clear E hn' hb
      go_enter Tryd.func16, Tryd.ntmps16
      go_wp2
      go_ret2
      exact ⟨_, rfl, OwnN.nought w⟩

set_option maxHeartbeats 800000 in
theorem rnum_any (v : Value) (xs : List Int) (hb : Byt xs) (w : World) (hv : Rd w v xs) :
    Calls Tryd.prog 17 #[v] w fun e w' => ∃ v', e = .returned (.tuple #[v', .int .i64 (numE xs)]) ∧ OwnN w w' v' (numR xs) := by
  match xs, hb, hv with
  | [], hb, hv =>
    obtain ⟨ao, c, rfl, hc⟩ := hv.empty
    go_enter Tryd.func17, Tryd.ntmps17
    go_wp2
    go_ret2
    exact ⟨_, rfl, OwnN.nought w⟩
  | [x], hb, hv =>
    have HV : Hid (Rd w v [x]) := hv
    obtain ⟨b, o, c, rfl, h1, h2, h3⟩ := hv.bs (by simp)
    have hx := h3.at0
    obtain ⟨h4, h5⟩ := hb.head
    simp only [List.length_singleton] at h1 HV ⊢
    clear hv h3
    by_cases e1 : x < 128
    · have E : numE [x] = 0 ∧ numR [x] = [x] := by simp [numE, numR, numOk, numV, e1]
      rw [E.1, E.2]
      clear E
      obtain ⟨q0, hq0⟩ : ∃ q0, (x == 0) = q0 := ⟨_, rfl⟩
      cases q0
      all_goals
        go_enter Tryd.func17, Tryd.ntmps17
        go_wp2_with (at_builtin; refine wpList_app _ rfl (.tmp 46) (.tmp 47) rfl _ _ [] [x] rfl rfl (OwnV.empty w) (HV.out.chg ((Chg.refl _ _).alloc _)) (by simp) ?_)
        intro v' w' g1 g2 g3
        go_wp2
        go_ret2
        exact ⟨_, rfl, (OwnN.start w w (Chg.refl _ _)).more g1 g2 (by rw [World.size_alloc]; exact g3)⟩
    · have E : numE [x] = 144 ∧ numR [x] = [] := by simp [numE, numR, numOk, e1]
      rw [E.1, E.2]
      clear E
      go_enter Tryd.func17, Tryd.ntmps17
      go_wp2
      go_ret2
      exact ⟨_, rfl, OwnN.nought w⟩
  | x :: y :: r, hb, hv =>
    have HV : Hid (Rd w v (x :: y :: r)) := hv
    obtain ⟨b, o, c, rfl, h1, h2, h3⟩ := hv.bs (by simp)
    have hx := h3.at0
    have hy := h3.at1
    have HT : Hid (Bs w b (o + 1) (y :: r)) := h3.tail
    obtain ⟨h4, h5⟩ := hb.head
    obtain ⟨h6, h7⟩ := hb.tail.head
    obtain ⟨n, hn⟩ : ∃ n, n = (x :: y :: r).length := ⟨_, rfl⟩
    rw [← hn] at h1 HV ⊢
    have hn' : n = r.length + 2 := by simpa using hn
    have HN : Hid (n = r.length + 2) := hn'
    have h8 : 2 ≤ n := by omega
    have h9 : ¬ n = 1 := by omega
    have h9' : ¬ n = 0 := by omega
    have h10 : ¬ c = 1 := by omega
    have i0 : ((n : Int) == 0) = false := by simp; omega
    have i1 : ((n : Int) == 1) = false := by simp; omega
    have i2 : decide ((1 : Int) < (n : Int)) = true := by simp; omega
    have i3 : decide ((n : Int) < 1) = false := by simp; omega
    clear hv h3 hn
    by_cases e0 : n ≤ 33
    · have e0' : decide ((33 : Int) < (n : Int)) = false := by simp; omega
      by_cases e1 : x < 128
      · have e1' : decide (128 ≤ x) = false := by simp; omega
        by_cases e2 : x = 0
        · by_cases e3 : 128 ≤ y
          · have E : numE (x :: y :: r) = 0 ∧ numR (x :: y :: r) = y :: r := by
              have : r.length ≤ 31 := by omega
              simp [numE, numR, numOk, numV, e2, e3, this]
            rw [E.1, E.2]
            clear E hn' hb
            subst e2
            go_enter Tryd.func17, Tryd.ntmps17
            go_wp2_with (at_builtin; refine wpList_app _ rfl (.tmp 46) (.tmp 47) rfl _ _ [] (y :: r) rfl rfl (OwnV.empty w) ((HT.out.rd (n := n - 1) (c := c - 1) (by have := HN.out; simp; omega) (by omega) (by omega)).chg ((Chg.refl _ _).alloc _)) (by have := HN.out; simp; omega) ?_)
            intro v' w' g1 g2 g3
            go_wp2
            go_ret2
            exact ⟨_, rfl, (OwnN.start w w (Chg.refl _ _)).more g1 g2 (by rw [World.size_alloc]; exact g3)⟩
          · have E : numE (x :: y :: r) = 144 ∧ numR (x :: y :: r) = [] := by
              simp [numE, numR, numOk, e2, e3]
            rw [E.1, E.2]
            clear E hn' hb
            subst e2
            go_enter Tryd.func17, Tryd.ntmps17
            go_wp2
            go_ret2
            exact ⟨_, rfl, OwnN.nought w⟩
        · have E : numE (x :: y :: r) = 0 ∧ numR (x :: y :: r) = x :: y :: r := by
            have : r.length ≤ 31 := by omega
            simp [numE, numR, numOk, numV, e1, e2, this]
          have e2' : (x == 0) = false := by simpa using e2
          rw [E.1, E.2]
          clear E hn' hb
          go_enter Tryd.func17, Tryd.ntmps17
          go_wp2_with (at_builtin; refine wpList_app _ rfl (.tmp 46) (.tmp 47) rfl _ _ [] (x :: y :: r) rfl rfl (OwnV.empty w) (HV.out.chg ((Chg.refl _ _).alloc _)) (by have := HN.out; simp; omega) ?_)
          intro v' w' g1 g2 g3
          go_wp2
          go_ret2
          exact ⟨_, rfl, (OwnN.start w w (Chg.refl _ _)).more g1 g2 (by rw [World.size_alloc]; exact g3)⟩
      · have e1' : decide (128 ≤ x) = true := by simp; omega
        have E : numE (x :: y :: r) = 144 ∧ numR (x :: y :: r) = [] := by simp [numE, numR, numOk, e1]
        rw [E.1, E.2]
        clear E hn' hb
        go_enter Tryd.func17, Tryd.ntmps17
        go_wp2
        go_ret2
        exact ⟨_, rfl, OwnN.nought w⟩
    · have E : numE (x :: y :: r) = 144 ∧ numR (x :: y :: r) = [] := by
        have : ¬ r.length ≤ 31 := by omega
        simp [numE, numR, numOk, this]
      have e0' : decide ((33 : Int) < (n : Int)) = true := by simp; omega
      rw [E.1, E.2]
      clear E hn' hb
      go_enter Tryd.func17, Tryd.ntmps17
      go_wp2
      go_ret2
      exact ⟨_, rfl, OwnN.nought w⟩
end Go.Proofs.YtnidfbcninkglaaDoor
