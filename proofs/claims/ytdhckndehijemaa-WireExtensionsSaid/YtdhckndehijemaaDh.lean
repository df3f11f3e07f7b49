/-
  A part of the document's reader, read to its end.
-/
import Derived.Test.YtdhckndehijemaaDg
namespace Go.Proofs.Ytdhckndehijemaa
open Go.RowKit
set_option linter.unusedVariables false
set_option maxRecDepth 100000

theorem many_cases {α : Type} {q : Pr α} (hq : Shr q) {x : Int} {b : List Int} {l : List α} {o : Bool} (h : many q (x :: b) = some (l, o)) : ∃ a ys o1 l2 o2, q (x :: b) = some (a, ys, o1) ∧ many q ys = some (l2, o2) ∧ l = a :: l2 := by
  cases e : q (x :: b) with
  | none => rw [many_none (by simp) e] at h; cases h
  | some z =>
    obtain ⟨a, ys, o1⟩ := z
    rw [many_some hq (by simp) e] at h
    cases e2 : many q ys with
    | none => rw [e2] at h; cases h
    | some z =>
      obtain ⟨l2, o2⟩ := z
      rw [e2] at h
      injection h with h
      injection h with h _
      exact ⟨a, ys, o1, l2, o2, rfl, e2, h.symm⟩
theorem many_len {α : Type} {q : Pr α} (hq : Shr q) : ∀ (m : Nat) (b : List Int) (l : List α) (o : Bool), b.length ≤ m → many q b = some (l, o) → l.length ≤ b.length
  | _, [], l, o, _, h => by
    rw [many_nil] at h
    injection h with h
    injection h with h _
    subst h
    simp
  | 0, x :: b, _, _, hm, _ => by simp at hm
  | m + 1, x :: b, l, o, hm, h => by
    obtain ⟨a, ys, o1, l2, o2, e1, e2, rfl⟩ := many_cases hq h
    have h1 := hq _ _ _ _ e1
    have h2 := many_len hq m ys l2 o2 (by simp at hm; simp at h1; omega) e2
    simp at h1 ⊢
    omega
theorem many_pos {α : Type} {q : Pr α} (hq : Shr q) {m : Nat} (h1 : 1 ≤ m) (hmin : ∀ xs a ys o, q xs = some (a, ys, o) → m ≤ xs.length) (b : List Int) (l : List α) (o : Bool) (h : many q b = some (l, o)) : m ≤ b.length ↔ 1 ≤ l.length := by
  cases b with
  | nil =>
    rw [many_nil] at h
    injection h with h
    injection h with h _
    subst h
    simp
    omega
  | cons x b =>
    obtain ⟨a, ys, o1, l2, o2, e1, e2, rfl⟩ := many_cases hq h
    exact ⟨fun _ => by simp, fun _ => hmin _ _ _ _ e1⟩
theorem shr_min {α : Type} {q : Pr α} (hq : Shr q) : ∀ xs a ys o, q xs = some (a, ys, o) → 1 ≤ xs.length := fun xs a ys o e => by have := hq _ _ _ _ e; omega
theorem dig2_min : ∀ xs a ys o, pDig 2 xs = some (a, ys, o) → 2 ≤ xs.length := fun xs a ys o e => by
  unfold pDig at e
  split at e
  · cases e
  · omega
theorem many_dig1 : ∀ ys : List Int, many (pDig 1) ys = some (ys, false)
  | [] => many_nil _
  | y :: ys => by
    have h1 : pDig 1 (y :: ys) = some (y, ys, false) := by
      unfold pDig
      rw [if_neg (by simp)]
      simp [dig]
    rw [many_some (pDig_shr (by decide)) (by simp) h1, many_dig1 ys]
    rfl

theorem res_part {α : Type} {q : Pr α} (hq : Shr q) {n least least' : Nat} (hn : n ≤ 3) {s s1 sp : St} {body : List Int} {pre : List α} (hb : ∀ xs o, s = some (xs, o) → Byt xs) (h1 : Res (pBytes n least 16777216) s body s1) (h2 : Lop q (s1.map fun _ => (body, false)) pre sp)
    (he : ∀ ys o, sp = some (ys, o) → ys = []) (hc : ∀ b l o, many q b = some (l, o) → (least ≤ b.length ↔ least' ≤ l.length)) : Res (pList n least' 16777216 q) s pre (wth s1 sp) := by
  cases s with
  | none =>
    obtain rfl : s1 = none := h1
    rfl
  | some z =>
    obtain ⟨xs, o⟩ := z
    have hby := hb xs o rfl
    unfold Res pBytes pList at h1
    unfold Res pList
    dsimp only at h1 ⊢
    by_cases hl : xs.length < n
    · rw [if_pos hl] at h1 ⊢
      dsimp only at h1 ⊢
      rw [h1]
      rfl
    · rw [if_neg hl] at h1 ⊢
      obtain ⟨d0, d1⟩ := dig_mono (hby.take n) (n := n) (by rw [List.length_take]; omega)
      obtain ⟨k, hk⟩ : ∃ k : Nat, k = (dig (xs.take n)).toNat := ⟨_, rfl⟩
      rw [← hk] at h1 ⊢
      have hkl : k < 16777216 := by
        have h2 : (256 : Nat) ^ n ≤ 256 ^ 3 := Nat.pow_le_pow_right (by decide) hn
        have h3 : ((256 : Int) ^ n) = ((256 ^ n : Nat) : Int) := by norm_cast
        rw [h3] at d1
        have h4 : (256 : Nat) ^ 3 = 16777216 := by decide
        omega
      by_cases hd : (xs.drop n).length < k
      · rw [if_pos hd] at h1 ⊢
        dsimp only at h1 ⊢
        rw [h1]
        rfl
      · rw [if_neg hd] at h1 ⊢
        obtain ⟨b, hbd⟩ : ∃ b, b = (xs.drop n).take k := ⟨_, rfl⟩
        have hbl : b.length = k := by rw [hbd, List.length_take]; omega
        rw [← hbd] at h1 ⊢
        rw [many_dig1] at h1
        dsimp only at h1
        by_cases hg : least ≤ b.length
        · rw [if_pos ⟨hg, by omega⟩] at h1
          obtain ⟨rfl, rfl⟩ := h1
          rcases Lop.fin h2 he with ⟨rfl, hm⟩ | ⟨o1, rfl, hm⟩
          · rw [hm]
            rfl
          · rw [hm]
            dsimp only
            have hle := many_len hq _ _ _ _ (Nat.le_refl _) hm
            rw [if_pos ⟨(hc _ _ _ hm).1 hg, by omega⟩]
            exact ⟨rfl, by simp [wth]⟩
        · rw [if_neg (fun e => hg e.1)] at h1
          dsimp only at h1
          subst h1
          cases hm : many q b with
          | none => rfl
          | some z =>
            obtain ⟨l, o1⟩ := z
            dsimp only
            rw [if_neg (fun e => hg ((hc _ _ _ hm).2 e.1))]
            rfl

/-- Where a part begins. -/
def prt (s1 : St) : St := s1.map fun z => (z.1, false)
theorem inn_prt (s1 : St) (body : List Int) : inn (prt s1) body = s1.map fun _ => (body, false) := by cases s1 <;> rfl

theorem mor_end {s : St} (h : mor s = false) : ∀ ys o, s = some (ys, o) → ys = [] := fun ys o e => by
  rw [e] at h
  have : ¬ 0 < ys.length := by simpa [mor] using h
  exact List.eq_nil_of_length_eq_zero (by omega)
theorem mor_more {s : St} (h : mor s = true) : ∃ zs o, s = some (zs, o) ∧ zs ≠ [] := by
  cases s with
  | none => cases h
  | some z =>
    obtain ⟨zs, o⟩ := z
    have h' : decide (0 < zs.length) = true := h
    exact ⟨zs, o, rfl, by intro e; subst e; simp at h'⟩

theorem di_fin {t : Ty} {κ : TypeId} {q : Pr t.Dat} (hq : Shr q) {n least least' R P : Nat} (hn : n ≤ 3) {w1 w4 wr w6 : World} {s s1 sc : St} {body : List Int} {pre : List t.Dat} {va : Value} (hb : ∀ xs o, s = some (xs, o) → Byt xs) (hR : R < w1.heap.size)
    (hp : PT n least 16777216 w1 w4 R P s s1 body) (h : DI t κ q w4 P (prt s1) body pre va wr sc) (hend : mor sc = false) (c6 : Chg (One R) wr w6) (h6 : DS w6 R (wth s1 sc))
    (hc : ∀ b l o, many q b = some (l, o) → (least ≤ b.length ↔ least' ≤ l.length)) : DP (.lst t) (pList n least' 16777216 q) w1 w6 R s [va] pre := by
  obtain ⟨cs, hcs⟩ := h.row
  have h4 := hp.chg.size
  refine ⟨((hcs.keep c6 (fun k e => by have e' : k = R := e; omega)).rel).btw h4 (Nat.le_refl _), ⟨?_, _, h6, res_part hq hn hb hp.res ?_ (mor_end hend) hc⟩⟩
  · exact (hp.chg.trans h.chg (fun i hi e => by have e' : i = P := e; have := hp.new; omega)).one c6
  · have := h.lop
    rwa [inn_prt] at this
theorem di_start {t : Ty} {κ : TypeId} {q : Pr t.Dat} {n least R P : Nat} {w1 w4 : World} {s s1 : St} {body : List Int} (hp : PT n least 16777216 w1 w4 R P s s1 body) : DI t κ q w4 P (prt s1) body [] (.slice none 0 0) w4 (inn (prt s1) body) :=
  DI.start (by rw [inn_prt]; exact hp.part)
end Go.Proofs.Ytdhckndehijemaa
