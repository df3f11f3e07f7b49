/-
  Numbers written: the program's and the document's.
-/
import Derived.Test.YtnidfbcninkglaaDoorVa
import Derived.Test.YtnidfbcninkglaaDoorDp
import Derived.Test.YtnidfbcninkglaaDoorPu
namespace Go.Proofs.YtnidfbcninkglaaDoor
open Go.RowKit
set_option linter.unusedVariables false
set_option maxRecDepth 100000

/-- Without the noughts ahead. -/
def strip : List Int → List Int
  | [] => []
  | x :: r => if x = 0 then strip r else x :: r
def pnB (xs : List Int) : List Int := match strip xs with
  | [] => [0]
  | x :: r => if 128 ≤ x then 0 :: x :: r else x :: r
def pnL (xs : List Int) : List Int := if (pnB xs).length ≤ 33 then encL 2 (pnB xs) else []

theorem strip_byt : ∀ {xs : List Int}, Byt xs → Byt (strip xs)
  | [], h => h
  | x :: r, h => by
    unfold strip
    split
    · exact strip_byt h.tail
    · exact h
theorem strip_len : ∀ (xs : List Int), (strip xs).length ≤ xs.length
  | [] => Nat.le_refl _
  | x :: r => by
    have := strip_len r
    unfold strip
    split
    · simp; omega
    · simp
theorem strip_head : ∀ {xs : List Int} {x : Int} {r : List Int}, strip xs = x :: r → x ≠ 0
  | [], x, r, h => by cases h
  | y :: s, x, r, h => by
    unfold strip at h
    split at h
    · exact strip_head h
    · rename_i hy
      injection h with h1 h2
      rw [← h1]; exact hy
theorem pnB_ok {xs : List Int} (hb : Byt xs) : numOk (pnB xs) = decide ((pnB xs).length ≤ 33) := by
  have hs := strip_byt hb
  unfold pnB
  cases h : strip xs with
  | nil => simp [numOk]
  | cons x r =>
    rw [h] at hs
    have hx := strip_head h
    have h0 := hs.head
    dsimp only
    by_cases h128 : 128 ≤ x
    · simp only [if_pos h128]
      rw [numOk, Bool.eq_iff_iff]
      simp
      omega
    · simp only [if_neg h128]
      cases r with
      | nil => rw [numOk, Bool.eq_iff_iff]; simp; omega
      | cons y t =>
        rw [numOk, Bool.eq_iff_iff]
        simp
        omega
def lenV : Value → Nat
  | .slice _ n _ => n
  | _ => 0
theorem Rd.from1 {w : World} {b o c : Nat} {x : Int} {r : List Int} (h : Rd w (.slice (some ⟨b, o, none⟩) (r.length + 1) c) (x :: r)) : Rd w (.slice (if c = 1 then some ⟨b, o, none⟩ else some ⟨b, o + 1, none⟩) r.length (c - 1)) r := by
  obtain ⟨b', o', c', e, h1, h2, h3⟩ := h.bs (by simp)
  injection e with e1 e2 e3
  injection e1 with e1
  injection e1 with e1 e4
  subst e1 e4 e3
  simp at h1
  by_cases hc : c = 1
  · have hr : r = [] := List.eq_nil_of_length_eq_zero (by omega)
    subst hr
    exact ⟨_, _, _, rfl, rfl, by simp, by unfold maxLen; omega, fun e => by (split at e <;> cases e), fun x e j u hj => by simp at hj⟩
  · rw [if_neg hc]
    exact (Bs.tail h3).rd rfl (by omega) (by omega)

set_option maxHeartbeats 4000000 in
theorem trimByte_any (v : Value) (xs : List Int) (w : World) (hv : Rd w v xs) :
    Calls Tryd.prog 71 #[v, .int .u8 0] w fun e w' => ∃ v', e = .returned v' ∧ Rd w v' (strip xs) ∧ w' = w := by
  obtain ⟨ao, n, c, rfl, hn, hnc, hm⟩ := hv.shape
  have HV : Hid (Rd w (.slice ao n c) xs) := hv
  clear hv
  go_enter Tryd.func71, Tryd.ntmps71
  go_wp2
  go_loop [0] (fun v0 => ∃ rs ao n c, v0 = .slice ao n c ∧ n ≤ 9223372036854775807 ∧ Hid (Rd w (.slice ao n c) rs ∧ strip rs = strip xs ∧ n = rs.length)) (fun v0 => lenV v0)
  case atStart => exact ⟨xs, ao, n, c, rfl, by unfold maxLen at hm; omega, HV.out, rfl, hn⟩
  case round =>
    obtain ⟨rs, ao, n, c, rfl, hn9, hI⟩ := hrel
    match rs, hI with
    | [], hI =>
      have h0 : n = 0 := hI.out.2.2
      subst h0
      have HR : Hid (strip xs = []) := hI.out.2.1.symm
      clear hI
      go_wp2
      go_ret
      exact ⟨_, rfl, by rw [HR.out]; exact Rd.nil w, rfl⟩
    | x :: r, hI =>
      obtain ⟨b, o, c', e, h1, h2, h3⟩ := hI.out.1.bs (by simp)
      injection e with e1 e2 e3
      subst e1 e3
      obtain ⟨m, hm⟩ : ∃ m, m = r.length := ⟨_, rfl⟩
      have hnm : n = m + 1 := by rw [e2, hm]; simp
      subst hnm
      have hx := h3.at0
      have HT : Hid (strip (x :: r) = strip xs) := hI.out.2.1
      have HRT : Hid (Rd w (.slice (if c = 1 then some ⟨b, o, none⟩ else some ⟨b, o + 1, none⟩) m (c - 1)) r ∧ m = r.length) := ⟨by rw [hm]; exact Rd.from1 (by have := hI.out.1; rw [hm] at this; exact this), hm⟩
      have HALL : Hid (Rd w (.slice (some ⟨b, o, none⟩) (m + 1) c) (x :: r)) := hI.out.1
      simp at h1
      have hmc : m + 1 ≤ c := by omega
      clear hI h3 hm h1 e2
      by_cases hx0 : x = 0
      · subst hx0
        have HT2 : Hid (strip r = strip xs) := by show _ = _; rw [← HT.out, strip, if_pos rfl]
        by_cases hc : c = 1
        · subst hc
          rw [if_pos rfl] at HRT
          have hm0 : m = 0 := by omega
          subst hm0
          go_wp2
          exact ⟨⟨r, _, _, _, rfl, by omega, HRT.out.1, HT2.out, HRT.out.2⟩, by simp [lenV]⟩
        · rw [if_neg hc] at HRT
          go_wp2
          exact ⟨⟨r, _, _, _, rfl, by omega, HRT.out.1, HT2.out, HRT.out.2⟩, by simp [lenV]⟩
      · have d0 : (x == 0) = false := by simpa using hx0
        have HS : Hid (strip xs = x :: r) := by show _ = _; rw [← HT.out, strip, if_neg hx0]
        clear HT HRT hx0
        go_wp2
        go_ret
        exact ⟨.slice (some ⟨b, o, none⟩) _ c, rfl, by rw [HS.out]; exact HALL.out, rfl⟩

/-- What is told by a value's bytes, the world as it was. -/
structure RdP (w : World) (v : Value) (xs : List Int) : Prop where
  rd : Rd w v xs
set_option maxHeartbeats 4000000 in
theorem trimLeft_any (v : Value) (xs : List Int) (w : World) (hv : Rd w v xs) :
    Calls Tryd.prog 56 #[v, .string ⟨#[0]⟩] w fun e w' => ∃ v', e = .returned v' ∧ RdP w v' (strip xs) ∧ w' = w := by
  have HTB : Hid (Calls Tryd.prog 71 #[v, .int .u8 0] w fun e w' => ∃ v', e = .returned v' ∧ RdP w v' (strip xs) ∧ w' = w) := by
    refine (trimByte_any v xs w hv).mono ?_
    rintro e w' ⟨v', rfl, h, hw⟩
    exact ⟨v', rfl, ⟨h⟩, hw⟩
  obtain ⟨ao, n, c, rfl, hn, hnc, hm⟩ := hv.shape
  unfold maxLen at hm
  by_cases h0 : n = 0
  · have HX : Hid (strip xs = []) := by
      have : xs = [] := List.eq_nil_of_length_eq_zero (by omega)
      show _ = _
      rw [this]
      rfl
    subst h0
    clear hn hv
    go_enter Tryd.func56, Tryd.ntmps56
    go_wp2
    go_ret
    exact ⟨.slice none 0 0, rfl, ⟨by rw [HX.out]; exact Rd.nil w⟩, rfl⟩
  · have hz : ((n : Int) == 0) = false := by simp; omega
    clear hn hv
    go_enter Tryd.func56, Tryd.ntmps56
    go_wp2_with (go_at_call 71; refine HTB.out.mono ?_)
    rintro e w1 ⟨v', rfl, hP, hw⟩
    obtain rfl := hw.symm
    obtain ⟨ao', n', c', rfl, -, -, -⟩ := hP.rd.shape
    have HP : Hid (RdP w (.slice ao' n' c') (strip xs)) := hP
    clear hP HTB
    go_wp2
    go_ret
    exact ⟨_, rfl, HP.out, rfl⟩

theorem pnB_put {xs : List Int} (hb : Byt xs) : numE (pnB xs) = (if (pnB xs).length ≤ 33 then 0 else 144) := by
  unfold numE
  rw [pnB_ok hb]
  by_cases h : (pnB xs).length ≤ 33 <;> simp [h]
theorem pnB_byt {xs : List Int} (hb : Byt xs) : Byt (pnB xs) := by
  have hs := strip_byt hb
  unfold pnB
  cases h : strip xs with
  | nil => intro x hx; simp at hx; subst hx; exact ⟨by omega, by omega⟩
  | cons x r =>
    rw [h] at hs
    dsimp only
    by_cases h128 : 128 ≤ x
    · simp only [if_pos h128]
      intro y hy
      rcases List.mem_cons.1 hy with rfl | hy
      · exact ⟨by omega, by omega⟩
      · exact hs y hy
    · simp only [if_neg h128]
      exact hs
end Go.Proofs.YtnidfbcninkglaaDoor
