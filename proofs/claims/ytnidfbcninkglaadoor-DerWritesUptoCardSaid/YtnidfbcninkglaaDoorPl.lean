/-
  DER's items, plainly: bytes as integers, what an item's bytes are, what is read of them.
-/
namespace Go.Proofs.YtnidfbcninkglaaDoor
set_option maxRecDepth 100000
set_option linter.unusedVariables false

def Byt (xs : List Int) : Prop := ∀ x, x ∈ xs → 0 ≤ x ∧ x < 256
theorem Byt.take {xs : List Int} (h : Byt xs) (n : Nat) : Byt (xs.take n) := fun x hx => h x (List.mem_of_mem_take hx)
theorem Byt.drop {xs : List Int} (h : Byt xs) (n : Nat) : Byt (xs.drop n) := fun x hx => h x (List.mem_of_mem_drop hx)
theorem Byt.app {xs ys : List Int} (h : Byt xs) (k : Byt ys) : Byt (xs ++ ys) := fun x hx => by
  rcases List.mem_append.1 hx with hx | hx
  · exact h x hx
  · exact k x hx
theorem Byt.get {xs : List Int} (h : Byt xs) {i : Nat} {x : Int} (e : xs[i]? = some x) : 0 ≤ x ∧ x < 256 := h x (List.mem_of_getElem? e)
theorem Byt.nil : Byt [] := fun x hx => by cases hx
theorem Byt.tail {x : Int} {xs : List Int} (h : Byt (x :: xs)) : Byt xs := fun y hy => h y (List.mem_cons_of_mem _ hy)
theorem Byt.head {x : Int} {xs : List Int} (h : Byt (x :: xs)) : 0 ≤ x ∧ x < 256 := h x List.mem_cons_self
theorem Byt.cons {x : Int} {xs : List Int} (h0 : 0 ≤ x) (h1 : x < 256) (h : Byt xs) : Byt (x :: xs) := fun y hy => by
  rcases List.mem_cons.1 hy with rfl | hy
  · exact ⟨h0, h1⟩
  · exact h y hy

/-- What a length tells: an error's number, how many bytes tell it, the length. -/
def lenL : List Int → Int × Nat × Nat
  | [] => (141, 0, 0)
  | c :: r =>
    if c < 128 then (0, 1, c.toNat)
    else if c = 129 then
      match r with
      | [] => (141, 0, 0)
      | d :: _ => if d < 128 then (143, 0, 0) else (0, 2, d.toNat)
    else if c = 130 then
      match r with
      | d :: e :: _ => if d = 0 then (143, 0, 0) else (0, 3, (256 * d + e).toNat)
      | _ => (141, 0, 0)
    else (143, 0, 0)

def itemL : List Int → Int × Nat × Nat
  | [] => (141, 0, 0)
  | t :: r =>
    if t % 32 = 31 then (142, 0, 0)
    else if (lenL r).1 = 0 then (if r.length - (lenL r).2.1 < (lenL r).2.2 then (141, 0, 0) else lenL r)
    else ((lenL r).1, 0, 0)

theorem itemL_cons (t : Int) (r : List Int) : itemL (t :: r) = if t % 32 = 31 then (142, 0, 0)
    else if (lenL r).1 = 0 then (if r.length - (lenL r).2.1 < (lenL r).2.2 then (141, 0, 0) else lenL r)
    else ((lenL r).1, 0, 0) := rfl

def lenB (n : Nat) : List Int := if n < 128 then [(n : Int)] else if n < 256 then [129, (n : Int)] else [130, ((n / 256 : Nat) : Int), ((n % 256 : Nat) : Int)]
def encL (t : Int) (b : List Int) : List Int := t :: (lenB b.length ++ b)
theorem lenB_len (n : Nat) : (lenB n).length = if n < 128 then 1 else if n < 256 then 2 else 3 := by
  unfold lenB
  split
  · rfl
  · split <;> rfl

theorem lenL_ok {r : List Int} (hb : Byt r) (h : (lenL r).1 = 0) :
    (lenL r).2.1 ≤ r.length ∧ r.take (lenL r).2.1 = lenB (lenL r).2.2 ∧ (lenL r).2.2 ≤ 65535 ∧ 1 ≤ (lenL r).2.1 ∧ (lenL r).2.1 ≤ 3 := by
  cases r with
  | nil => simp [lenL] at h
  | cons c r =>
    have hc := hb.head
    by_cases h1 : c < 128
    · have e : lenL (c :: r) = (0, 1, c.toNat) := by simp [lenL, h1]
      rw [e]
      refine ⟨by simp, ?_, by simp; omega, by simp, by simp⟩
      have h2 : c.toNat < 128 := by omega
      have h3 : ((c.toNat : Nat) : Int) = c := by omega
      simp [lenB, h2, h3]
    · by_cases h2 : c = 129
      · cases r with
        | nil => simp [lenL, h2] at h
        | cons d r =>
          have hd := hb.tail.head
          by_cases h3 : d < 128
          · simp [lenL, h2, h3] at h
          · have e : lenL (c :: d :: r) = (0, 2, d.toNat) := by simp [lenL, h2, h3]
            rw [e]
            refine ⟨by simp, ?_, by simp; omega, by simp, by simp⟩
            have h4 : ¬ d.toNat < 128 := by omega
            have h5 : d.toNat < 256 := by omega
            have h6 : ((d.toNat : Nat) : Int) = d := by omega
            simp [lenB, h4, h5, h6, h2]
      · by_cases h3 : c = 130
        · match r, hb, h with
          | [], hb, h => simp [lenL, h3] at h
          | [d], hb, h => simp [lenL, h3] at h
          | d :: e :: r, hb, h =>
            have hd := hb.tail.head
            have he := hb.tail.tail.head
            by_cases h4 : d = 0
            · simp [lenL, h3, h4] at h
            · have e' : lenL (c :: d :: e :: r) = (0, 3, (256 * d + e).toNat) := by simp [lenL, h3, h4]
              rw [e']
              refine ⟨by simp, ?_, by simp; omega, by simp, by simp⟩
              have h5 : ¬ (256 * d + e).toNat < 128 := by omega
              have h6 : ¬ (256 * d + e).toNat < 256 := by omega
              have h7 : (((256 * d + e).toNat / 256 : Nat) : Int) = d := by omega
              have h8 : (((256 * d + e).toNat % 256 : Nat) : Int) = e := by omega
              unfold lenB
              rw [if_neg h5, if_neg h6, h7, h8, h3]
              rfl
        · simp [lenL, h1, h2, h3] at h

theorem lenL_enc (n : Nat) (h : n ≤ 65535) (r : List Int) : lenL (lenB n ++ r) = (0, (lenB n).length, n) := by
  unfold lenB
  by_cases h1 : n < 128
  · have : ((n : Nat) : Int) < 128 := by omega
    simp [h1, lenL, this]
  · by_cases h2 : n < 256
    · have : ¬ ((n : Nat) : Int) < 128 := by omega
      simp [h1, h2, lenL, this]
    · have h3 : ¬ (((n / 256 : Nat) : Int) = 0) := by omega
      have h4 : (256 * ((n / 256 : Nat) : Int) + ((n % 256 : Nat) : Int)).toNat = n := by omega
      simp only [h1, h2, if_false, List.cons_append, List.nil_append, lenL, h3, h4]
      simp

theorem itemL_ok {t : Int} {r : List Int} (hb : Byt r) (h : (itemL (t :: r)).1 = 0) :
    t % 32 ≠ 31 ∧ itemL (t :: r) = lenL r ∧ (lenL r).1 = 0 ∧ (lenL r).2.1 + (lenL r).2.2 ≤ r.length ∧
      (t :: r).take (1 + (lenL r).2.1 + (lenL r).2.2) = encL t ((r.drop (lenL r).2.1).take (lenL r).2.2) ∧ ((r.drop (lenL r).2.1).take (lenL r).2.2).length = (lenL r).2.2 := by
  unfold itemL at h ⊢
  by_cases h1 : t % 32 = 31
  · simp [h1] at h
  · by_cases h2 : (lenL r).1 = 0
    · obtain ⟨g1, g2, g3, g4, g5⟩ := lenL_ok hb h2
      by_cases h3 : r.length - (lenL r).2.1 < (lenL r).2.2
      · simp [h1, h2, h3] at h
      · have hlen : ((r.drop (lenL r).2.1).take (lenL r).2.2).length = (lenL r).2.2 := by
          rw [List.length_take, List.length_drop]; omega
        refine ⟨h1, by simp [h1, h2, h3], h2, by omega, ?_, hlen⟩
        unfold encL
        rw [hlen, ← g2]
        have e : 1 + (lenL r).2.1 + (lenL r).2.2 = ((lenL r).2.1 + (lenL r).2.2) + 1 := by omega
        rw [e, List.take_succ_cons, List.take_add]
    · simp [h1, h2] at h

theorem itemL_enc (t : Int) (b r : List Int) (ht : t % 32 ≠ 31) (h : b.length ≤ 65535) : itemL (encL t b ++ r) = (0, (lenB b.length).length, b.length) := by
  have e : encL t b ++ r = t :: (lenB b.length ++ (b ++ r)) := by simp [encL]
  rw [e, itemL_cons, lenL_enc b.length h (b ++ r)]
  have h2 : ¬ ((lenB b.length ++ (b ++ r)).length - (lenB b.length).length < b.length) := by simp
  simp [ht]

theorem itemL_cut (t : Int) (b : List Int) (ht : t % 32 ≠ 31) (h : b.length ≤ 65535) : (itemL ((encL t b).take ((encL t b).length - 1))).1 = 141 := by
  by_cases hb : b = []
  · subst hb
    have : (encL t ([] : List Int)).take ((encL t ([] : List Int)).length - 1) = [t] := by simp [encL, lenB]
    rw [this]
    simp [itemL, ht, lenL]
  · have hp : 0 < b.length := List.length_pos_iff.2 hb
    have e : (encL t b).take ((encL t b).length - 1) = t :: (lenB b.length ++ b.take (b.length - 1)) := by
      have e1 : (encL t b).length - 1 = ((lenB b.length).length + (b.length - 1)) + 1 := by simp [encL]; omega
      rw [e1]
      unfold encL
      rw [List.take_succ_cons, List.take_length_add_append]
    rw [e, itemL_cons, lenL_enc b.length h]
    have h2 : b.length - 1 < b.length := by omega
    simp [ht, h2]

theorem lenB_byt (n : Nat) (h : n ≤ 65535) : Byt (lenB n) := by
  unfold lenB
  by_cases h1 : n < 128
  · rw [if_pos h1]; exact Byt.cons (by omega) (by omega) Byt.nil
  · by_cases h2 : n < 256
    · rw [if_neg h1, if_pos h2]; exact Byt.cons (by omega) (by omega) (Byt.cons (by omega) (by omega) Byt.nil)
    · rw [if_neg h1, if_neg h2]; exact Byt.cons (by omega) (by omega) (Byt.cons (by omega) (by omega) (Byt.cons (by omega) (by omega) Byt.nil))
theorem encL_byt {t : Int} {b : List Int} (h0 : 0 ≤ t) (h1 : t < 256) (hb : Byt b) (h : b.length ≤ 65535) : Byt (encL t b) := Byt.cons h0 h1 ((lenB_byt _ h).app hb)
theorem encL_len (t : Int) (b : List Int) : (encL t b).length = 1 + (lenB b.length).length + b.length := by simp [encL]; omega
theorem itemL_err {r : List Int} (h : (itemL r).1 ≠ 0) : (itemL r).2 = (0, 0) := by
  cases r with
  | nil => rfl
  | cons t r =>
    rw [itemL_cons] at h ⊢
    by_cases h1 : t % 32 = 31
    · simp [h1]
    · by_cases h2 : (lenL r).1 = 0
      · by_cases h3 : r.length - (lenL r).2.1 < (lenL r).2.2
        · simp [h1, h2, h3]
        · simp [h1, h2, h3] at h
      · simp [h1, h2]
end Go.Proofs.YtnidfbcninkglaaDoor
