/-
  Small: the program's and the document's.
-/
import Derived.Test.YtnidfbcninkglaaDoorVb
namespace Go.Proofs.YtnidfbcninkglaaDoor
open Go.RowKit
set_option linter.unusedVariables false
set_option maxRecDepth 100000

/-- The number that bytes are. -/
def valL : List Int → Int := List.foldl (fun n x => 256 * n + x) 0
theorem valL_snoc (l : List Int) (x : Int) : valL (l ++ [x]) = 256 * valL l + x := by simp [valL]
theorem fold_ge (l : List Int) (h : Byt l) : ∀ n : Int, 0 ≤ n → n ≤ List.foldl (fun n x => 256 * n + x) n l := by
  induction l with
  | nil => intro n _; exact Int.le_refl n
  | cons x l ih =>
    intro n hn
    have := h.head
    have h2 := ih h.tail (256 * n + x) (by omega)
    simp only [List.foldl_cons]
    omega
theorem valL_nonneg {l : List Int} (h : Byt l) : 0 ≤ valL l := fold_ge l h 0 (by omega)
theorem valL_take_le {l : List Int} (h : Byt l) (k : Nat) : valL (l.take k) ≤ valL l := by
  conv => rhs; rw [← List.take_append_drop k l]
  unfold valL
  rw [List.foldl_append]
  exact fold_ge _ (h.drop k) _ (valL_nonneg (h.take k))
theorem take_snoc {l : List Int} {k : Nat} {x : Int} (h : l[k]? = some x) : l.take (k + 1) = l.take k ++ [x] := by
  rw [List.take_add_one, h]; rfl
/-- More than four bytes, the first of them no nought. -/
theorem valL_big {x : Int} {l : List Int} (h : Byt (x :: l)) (hx : x ≠ 0) (hl : 4 ≤ l.length) : 2147483648 ≤ valL (x :: l) := by
  have h0 := h.head
  have h1 := valL_take_le h 5
  match l, hl with
  | a :: b :: c :: d :: r, _ =>
    have ha := h.tail.head
    have hb := h.tail.tail.head
    have hc := h.tail.tail.tail.head
    have hd := h.tail.tail.tail.tail.head
    simp [valL] at h1
    unfold valL
    simp only [List.foldl_cons] at h1 ⊢
    simp only [Int.mul_zero, Int.zero_add] at h1 ⊢
    omega

def smallOk (xs : List Int) : Bool := numOk xs && decide (valL (numV xs) < 2147483648)
def smallE (xs : List Int) : Int := if smallOk xs = true then 0 else 144
def smallR (xs : List Int) : Int := if smallOk xs = true then valL (numV xs) else 0

theorem or_add (a b : Nat) (ha : a < 72057594037927936) (hb : b < 256) : bits .or .u64 ((a : Int) * 256) (b : Int) = 256 * (a : Int) + (b : Int) := by
  have h := u64_or_nat (a * 256) b (by omega) (by omega)
  rw [Int.natCast_mul] at h
  refine h.trans ?_
  have : a * 256 ||| b = a * 256 + b := by
    have := Nat.two_pow_add_eq_or_of_lt (i := 8) (b := b) (by omega) a
    rw [Nat.mul_comm, ← this]
  rw [this]
  omega

theorem numV_cons (x y : Int) (r : List Int) : numV (x :: y :: r) = if x = 0 then y :: r else x :: y :: r := rfl
theorem numV_byt {xs : List Int} (h : Byt xs) : Byt (numV xs) := by
  match xs, h with
  | [], h => exact h
  | [x], h => exact h
  | x :: y :: r, h =>
    rw [numV_cons]
    split
    · exact h.tail
    · exact h
theorem numV_ne {xs : List Int} (h : numOk xs = true) : numV xs ≠ [] := by
  match xs, h with
  | [], h => simp [numOk] at h
  | [x], h => simp [numV]
  | x :: y :: r, h =>
    rw [numV_cons]
    split <;> simp
theorem numV_len {xs : List Int} (h : numOk xs = true) : (numV xs).length ≤ 33 := by
  match xs, h with
  | [], h => simp [numOk] at h
  | [x], h => simp [numV]
  | x :: y :: r, h =>
    simp [numOk] at h
    rw [numV_cons]
    split <;> simp <;> omega

set_option maxHeartbeats 1600000 in
theorem small_any (v : Value) (xs : List Int) (hb : Byt xs) (w : World) (hv : Rd w v xs) :
    Calls Tryd.prog 18 #[v] w fun e w' => e = .returned (.tuple #[.int .i64 (smallR xs), .int .i64 (smallE xs)]) ∧ Chg Non w w' := by
  have HC : Hid (Calls Tryd.prog 16 #[v] w fun e w' => ∃ v', e = .returned (.tuple #[v', .int .i64 (numE xs)]) ∧ OwnN w w' v' (numR xs)) := num_any v xs hb w hv
  obtain ⟨q, hq⟩ : ∃ q, numOk xs = q := ⟨_, rfl⟩
  have HQ : Hid (numOk xs = q) := hq
  have HB : Hid (Byt xs) := hb
  clear hq hb hv
  cases q
  · have E : numE xs = 144 ∧ numR xs = [] ∧ smallR xs = 0 ∧ smallE xs = 144 := by simp [numE, numR, smallR, smallE, smallOk, HQ.out]
    obtain ⟨E1, E2, E3, E4⟩ := E
    rw [E1, E2] at HC
    rw [E3, E4]
    clear E1 E2 E3 E4
    go_enter Tryd.func18, Tryd.ntmps18
    go_wp2_with (go_at_call 16; refine HC.out.mono ?_)
    rintro e w' ⟨v', rfl, hn⟩
    obtain ⟨ao, c, rfl, hc⟩ := hn.rd.empty
    have HN : Hid (Chg Non w w') := hn.chg
    clear hn
    go_wp2
    go_loop [6, 16] (fun n i => n = .int .u64 0 ∧ i = .int .i64 0) (fun _ i => 0)
    case atStart => exact ⟨rfl, rfl⟩
    case round =>
      obtain ⟨rfl, rfl⟩ := hrel
      go_wp2
      go_ret2
      exact ⟨rfl, HN.out⟩
  · obtain ⟨ds, hds⟩ : ∃ ds, ds = numV xs := ⟨_, rfl⟩
    have HD : Hid (Byt ds) := by rw [hds]; exact numV_byt HB.out
    have hne : ds ≠ [] := by rw [hds]; exact numV_ne HQ.out
    have hle : ds.length ≤ 33 := by rw [hds]; exact numV_len HQ.out
    have E : numE xs = 0 ∧ numR xs = ds ∧ smallR xs = (if valL ds < 2147483648 then valL ds else 0) ∧ smallE xs = (if valL ds < 2147483648 then 0 else 144) := by simp [numE, numR, smallR, smallE, smallOk, HQ.out, hds]
    obtain ⟨E1, E2, E3, E4⟩ := E
    rw [E1, E2] at HC
    obtain ⟨R, hR⟩ : ∃ R, R = smallR xs := ⟨_, rfl⟩
    obtain ⟨E, hE⟩ : ∃ E, E = smallE xs := ⟨_, rfl⟩
    have HR : Hid (R = (if valL ds < 2147483648 then valL ds else 0)) := hR.trans E3
    have HE : Hid (E = (if valL ds < 2147483648 then 0 else 144)) := hE.trans E4
    rw [← hR, ← hE]
    clear E1 E2 E3 E4 hds hR hE
    go_enter Tryd.func18, Tryd.ntmps18
    go_wp2_with (go_at_call 16; refine HC.out.mono ?_)
    rintro e w' ⟨v', rfl, hn⟩
    obtain ⟨b, o, c, rfl, h1, h2, h3⟩ := hn.rd.bs hne
    have HN : Hid (Chg Non w w') := hn.chg
    have H3 : Hid (Bs w' b o ds) := h3
    obtain ⟨L, hL⟩ : ∃ L, L = ds.length := ⟨_, rfl⟩
    rw [← hL] at h1 hle ⊢
    have HL : Hid (L = ds.length) := hL
    clear hn h3 hne HC hL
    go_wp2
    go_loop [6, 16] (fun n i => ∃ (k : Nat) (t : Int), k ≤ L ∧ i = .int .i64 k ∧ n = .int .u64 t ∧ Hid (t = valL (ds.take k)) ∧ Hid (0 ≤ t ∧ t < 2147483648)) (fun _ i => L - (intOf i).toNat)
    case atStart => exact ⟨0, 0, Nat.zero_le _, rfl, rfl, (rfl : (0 : Int) = valL []), (⟨by decide, by decide⟩ : (0 : Int) ≤ 0 ∧ (0 : Int) < 2147483648)⟩
    case round =>
      obtain ⟨k, t, hk, rfl, rfl, ht, Ht2⟩ := hrel
      obtain ⟨ht1, ht2⟩ := Ht2.out
      by_cases hlt : k < L
      · obtain ⟨x, hx⟩ : ∃ x, ds[k]? = some x := ⟨ds[k]'(by rw [← HL.out]; exact hlt), List.getElem?_eq_getElem _⟩
        have hc := H3.out k x hx
        obtain ⟨hx0, hx1⟩ := HD.out.get hx
        obtain ⟨T, hT⟩ : ∃ T, T = 256 * t + x := ⟨_, rfl⟩
        have hor : bits .or .u64 (t * 256) x = T := by
          have := or_add t.toNat x.toNat (by omega) (by omega)
          rw [Int.toNat_of_nonneg ht1, Int.toNat_of_nonneg hx0] at this
          rw [this, hT]
        have HS : Hid (T = valL (ds.take (k + 1))) := by show _ = _; rw [take_snoc hx, valL_snoc, ← ht.out, hT]
        have hT1 : 0 ≤ T := by omega
        have hT2 : T < 549755813888 := by omega
        clear hx hT
        by_cases hg : T < 2147483648
        · go_upto_region 7 with fail
          go_show
          go_wp2
          go_round
          case rel => exact ⟨k + 1, T, by omega, by go_num, rfl, HS, (⟨hT1, hg⟩ : 0 ≤ T ∧ T < 2147483648)⟩
          case measure => simp [intOf]; omega
        · have HV : Hid (2147483648 ≤ valL ds) := by
            show _ ≤ _
            have h4 := HS.out
            have h5 := valL_take_le HD.out (k + 1)
            omega
          go_wp2
          go_ret2
          exact ⟨by rw [HR.out, HE.out, if_neg (by have := HV.out; omega), if_neg (by have := HV.out; omega)]; rfl, HN.out⟩
      · have HV : Hid (valL ds = t) := by
          show _ = _
          have h4 := ht.out
          rw [List.take_of_length_le (by have := HL.out; omega)] at h4
          exact h4.symm
        go_wp2
        go_ret2
        exact ⟨by rw [HR.out, HE.out, HV.out, if_pos (by omega), if_pos (by omega)]; rfl, HN.out⟩

theorem valL_lt {l : List Int} (h : Byt l) (k : Nat) (hl : l.length ≤ k) : valL l < 256 ^ k := by
  induction k generalizing l with
  | zero => have : l = [] := List.eq_nil_of_length_eq_zero (by omega); subst this; decide
  | succ k ih =>
    by_cases hn : l = []
    · subst hn
      show (0 : Int) < _
      exact Int.pow_pos (by decide)
    · obtain ⟨s, x, rfl⟩ := snoc_of hn
      rw [valL_snoc]
      have h1 := ih (l := s) (fun y hy => h y (by simp [hy])) (by simp at hl; omega)
      have h2 := h x (by simp)
      rw [Int.pow_succ]
      omega

theorem num_first {xs : List Int} (hb : Byt xs) (h : numOk xs = true) (hl : ¬ (numV xs).length ≤ 4) : 2147483648 ≤ valL (numV xs) := by
  match xs, h with
  | [], h => simp [numOk] at h
  | [x], h => simp [numV] at hl
  | x :: y :: r, h =>
    simp [numOk] at h
    rw [numV_cons] at hl ⊢
    by_cases hx : x = 0
    · rw [if_pos hx] at hl ⊢
      simp at hl
      exact valL_big hb.tail (by have := h.2.resolve_left (fun e => e hx); omega) (by omega)
    · rw [if_neg hx] at hl ⊢
      simp at hl
      exact valL_big hb hx (by simp; omega)

set_option maxHeartbeats 1600000 in
theorem rsmall_any (v : Value) (xs : List Int) (hb : Byt xs) (w : World) (hv : Rd w v xs) :
    Calls Tryd.prog 19 #[v] w fun e w' => e = .returned (.tuple #[.int .i64 (smallR xs), .int .i64 (smallE xs)]) ∧ Chg Non w w' := by
  have HC : Hid (Calls Tryd.prog 17 #[v] w fun e w' => ∃ v', e = .returned (.tuple #[v', .int .i64 (numE xs)]) ∧ OwnN w w' v' (numR xs)) := rnum_any v xs hb w hv
  obtain ⟨q, hq⟩ : ∃ q, numOk xs = q := ⟨_, rfl⟩
  have HQ : Hid (numOk xs = q) := hq
  have HB : Hid (Byt xs) := hb
  clear hq hb hv
  cases q
  · have E : numE xs = 144 ∧ numR xs = [] ∧ smallR xs = 0 ∧ smallE xs = 144 := by simp [numE, numR, smallR, smallE, smallOk, HQ.out]
    obtain ⟨E1, E2, E3, E4⟩ := E
    rw [E1, E2] at HC
    rw [E3, E4]
    clear E1 E2 E3 E4
    go_enter Tryd.func19, Tryd.ntmps19
    go_wp2_with (go_at_call 17; refine HC.out.mono ?_)
    rintro e w' ⟨v', rfl, hn⟩
    obtain ⟨ao, c, rfl, hc⟩ := hn.rd.empty
    have HN : Hid (Chg Non w w') := hn.chg
    clear hn
    go_wp2
    go_ret2
    exact ⟨rfl, HN.out⟩
  · obtain ⟨ds, hds⟩ : ∃ ds, ds = numV xs := ⟨_, rfl⟩
    have HD : Hid (Byt ds) := by rw [hds]; exact numV_byt HB.out
    have hne : ds ≠ [] := by rw [hds]; exact numV_ne HQ.out
    have hle : ds.length ≤ 33 := by rw [hds]; exact numV_len HQ.out
    have HF : Hid (¬ ds.length ≤ 4 → 2147483648 ≤ valL ds) := by rw [hds]; exact num_first HB.out HQ.out
    have E : numE xs = 0 ∧ numR xs = ds ∧ smallR xs = (if valL ds < 2147483648 then valL ds else 0) ∧ smallE xs = (if valL ds < 2147483648 then 0 else 144) := by simp [numE, numR, smallR, smallE, smallOk, HQ.out, hds]
    obtain ⟨E1, E2, E3, E4⟩ := E
    rw [E1, E2] at HC
    obtain ⟨R, hR⟩ : ∃ R, R = smallR xs := ⟨_, rfl⟩
    obtain ⟨E, hE⟩ : ∃ E, E = smallE xs := ⟨_, rfl⟩
    have HR : Hid (R = (if valL ds < 2147483648 then valL ds else 0)) := hR.trans E3
    have HE : Hid (E = (if valL ds < 2147483648 then 0 else 144)) := hE.trans E4
    rw [← hR, ← hE]
    clear E1 E2 E3 E4 hds hR hE
    go_enter Tryd.func19, Tryd.ntmps19
    go_wp2_with (go_at_call 17; refine HC.out.mono ?_)
    rintro e w' ⟨v', rfl, hn⟩
    obtain ⟨b, o, c, rfl, h1, h2, h3⟩ := hn.rd.bs hne
    have HN : Hid (Chg Non w w') := hn.chg
    have H3 : Hid (Bs w' b o ds) := h3
    obtain ⟨L, hL⟩ : ∃ L, L = ds.length := ⟨_, rfl⟩
    rw [← hL] at h1 hle HF ⊢
    have HL : Hid (L = ds.length) := hL
    clear hn h3 hne HC hL
    by_cases h4 : L ≤ 4
    · have h4' : decide ((4 : Int) < (L : Int)) = false := by simp; omega
      go_wp2
      go_loop [6, 7] (fun n i => ∃ (k : Nat) (t : Nat), k ≤ L ∧ i = .int .i64 k ∧ n = .int .i64 t ∧ Hid ((t : Int) = valL (ds.take k))) (fun _ i => L - (intOf i).toNat)
      case atStart => exact ⟨0, 0, Nat.zero_le _, rfl, rfl, (rfl : (0 : Int) = valL [])⟩
      case round =>
        obtain ⟨k, t, hk, rfl, rfl, ht⟩ := hrel
        by_cases hlt : k < L
        · obtain ⟨x, hx⟩ : ∃ x, ds[k]? = some x := ⟨ds[k]'(by rw [← HL.out]; exact hlt), List.getElem?_eq_getElem _⟩
          have hc := H3.out k x hx
          obtain ⟨hx0, hx1⟩ := HD.out.get hx
          obtain ⟨y, rfl⟩ := Int.eq_ofNat_of_zero_le hx0
          have ht2 : t < 16777216 := by
            have h5 := valL_lt (HD.out.take k) 3 (by rw [List.length_take]; omega)
            rw [← ht.out] at h5
            omega
          obtain ⟨T, hT⟩ : ∃ T, T = 256 * t + y := ⟨_, rfl⟩
          have HT : Hid (256 * (t : Int) + (y : Int) = (T : Int)) := by show _ = _; rw [hT]; omega
          have HS : Hid ((T : Int) = valL (ds.take (k + 1))) := by
            show _ = _
            rw [take_snoc hx, valL_snoc, ← ht.out, hT]; omega
          clear hx hT
          go_wp2
          go_round
          case rel => exact ⟨k + 1, T, by omega, by go_num, by rw [HT.out], HS⟩
          case measure => simp [intOf]; omega
        · have HV : Hid (valL ds = (t : Int)) := by
            show _ = _
            have h4 := ht.out
            rw [List.take_of_length_le (by have := HL.out; omega)] at h4
            exact h4.symm
          by_cases hg : (t : Int) < 2147483648
          · have hgd : decide ((2147483648 : Int) ≤ (t : Int)) = false := by simp; omega
            have HG : Hid ((t : Int) < 2147483648) := hg
            clear hg
            go_wp2
            go_ret2
            exact ⟨by rw [HR.out, HE.out, HV.out, if_pos HG.out, if_pos HG.out]; rfl, HN.out⟩
          · have hgd : decide ((2147483648 : Int) ≤ (t : Int)) = true := by simp; omega
            have HG : Hid (2147483648 ≤ (t : Int)) := by show _ ≤ _; omega
            clear hg
            go_wp2
            go_ret2
            exact ⟨by rw [HR.out, HE.out, HV.out, if_neg (by have := HG.out; omega), if_neg (by have := HG.out; omega)]; rfl, HN.out⟩
    · have h4' : decide ((4 : Int) < (L : Int)) = true := by simp; omega
      have HV : Hid (2147483648 ≤ valL ds) := by
        show _ ≤ _
        have := HF.out h4
        omega
      go_wp2
      go_ret2
      exact ⟨by rw [HR.out, HE.out, if_neg (by have := HV.out; omega), if_neg (by have := HV.out; omega)]; rfl, HN.out⟩
end Go.Proofs.YtnidfbcninkglaaDoor
