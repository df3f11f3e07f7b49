/-
  The program and the document take the same texts, and write the same of them.
-/
import Derived.Test.YtnidfbcninkglaaDoorWf
namespace Go.Proofs.YtnidfbcninkglaaDoor
set_option linter.unusedVariables false
set_option maxRecDepth 100000

theorem dec_len10 : ∀ (k n : Nat), n < 10 ^ (k + 1) → (Lib.decDigits n).length ≤ k + 1
  | 0, n, h => by rw [dec_small (by simpa using h)]; simp
  | k + 1, n, h => by
    by_cases h10 : n < 10
    · rw [dec_small h10]; simp
    · rw [dec_great h10, List.length_append]
      have := dec_len10 k (n / 10) (by rw [Nat.pow_succ] at h; omega)
      simp
      omega
/-- A text that tells an OID, and its numbers. -/
structure GoodO (s : List UInt8) (l : List Int) : Prop where
  lt : ∀ x ∈ l, 0 ≤ x ∧ x < 4294967296
  l1 : 1 ≤ l.length
  l2 : l.length ≤ 16
  tx : oidT l = s
def txN (x : Int) (r : List Int) : List Int := topI x :: (x - 40 * topI x) :: r
theorem top_ok {x : Int} (h0 : 0 ≤ x) : 0 ≤ topI x ∧ topI x ≤ 2 ∧ 0 ≤ x - 40 * topI x ∧ (topI x < 2 → x - 40 * topI x < 40) ∧ 40 * topI x + (x - 40 * topI x) = x := by
  unfold topI
  split
  · omega
  · split <;> omega
theorem jn_rest : ∀ (r : List Int) (p : List UInt8), jnD (p :: r.map decI) = p ++ restT r
  | [], p => by simp [jnD, restT]
  | x :: r, p => by
    rw [List.map_cons, jnD, jn_rest r (decI x)]
    simp [restT]
theorem oidT_jn (x : Int) (r : List Int) : oidT (x :: r) = jnD ((txN x r).map decI) := by
  unfold txN
  rw [List.map_cons, List.map_cons, jnD, jn_rest]
  simp [oidT, firstT]
theorem decI_nodot (x : Int) : ∀ b ∈ decI x, b ≠ 46 := dec_nodot _
theorem sp_oidT (x : Int) (r : List Int) : spD (oidT (x :: r)) = (txN x r).map decI := by
  rw [oidT_jn, spD_jn _ (by simp [txN]) (fun p hp => by obtain ⟨y, -, rfl⟩ := List.mem_map.1 hp; exact decI_nodot y)]
theorem prD_dec {x : Int} (h0 : 0 ≤ x) (h1 : x < 4294967296) : prD (decI x) = some x := by
  unfold prD decI
  rw [if_pos ⟨dec_can _, dec_len10 9 _ (by omega)⟩, dec_val]
  congr 1
  omega
theorem prP_dec {x : Int} (h0 : 0 ≤ x) (h1 : x < 4294967296) : prP (decI x) = some x := by
  unfold prP decI
  rw [if_pos ⟨dec_ne _, dec_all _, by rw [dec_val]; omega⟩, dec_val]
  congr 1
  omega
theorem mapM_dec (f : List UInt8 → Option Int) : ∀ (q : List Int), (∀ x ∈ q, f (decI x) = some x) → (q.map decI).mapM f = some q
  | [], _ => rfl
  | x :: q, h => by
    rw [List.map_cons, List.mapM_cons, h x List.mem_cons_self, mapM_dec f q (fun y hy => h y (List.mem_cons_of_mem _ hy))]
    rfl
theorem txN_lt {x : Int} {r : List Int} (h0 : 0 ≤ x) (h1 : x < 4294967296) (hr : ∀ y ∈ r, 0 ≤ y ∧ y < 4294967296) : ∀ y ∈ txN x r, 0 ≤ y ∧ y < 4294967296 := by
  obtain ⟨t1, t2, t3, t4, t5⟩ := top_ok h0
  intro y hy
  unfold txN at hy
  rcases List.mem_cons.1 hy with rfl | hy
  · omega
  · rcases List.mem_cons.1 hy with rfl | hy
    · omega
    · exact hr y hy
theorem poD_good {s : List UInt8} {l : List Int} (h : GoodO s l) : poD s = encL 6 (sevAll l) := by
  obtain ⟨h1, h2, h3, rfl⟩ := h
  match l, h1, h2, h3 with
  | x :: r, h1, h2, h3 =>
    have hx := h1 x List.mem_cons_self
    have hr : ∀ y ∈ r, 0 ≤ y ∧ y < 4294967296 := fun y hy => h1 y (List.mem_cons_of_mem _ hy)
    have hq := txN_lt hx.1 hx.2 hr
    obtain ⟨t1, t2, t3, t4, t5⟩ := top_ok hx.1
    unfold poD
    rw [sp_oidT, mapM_dec prD _ (fun y hy => prD_dec (hq y hy).1 (hq y hy).2)]
    have hok : okD (txN x r) = true := by
      simp only [txN, okD, Bool.and_eq_true, decide_eq_true_eq, Bool.or_eq_true, List.all_eq_true]
      refine ⟨⟨⟨⟨t2, ?_⟩, by omega⟩, fun y hy => (hr y hy).2⟩, by simp at h3; omega⟩
      by_cases h : topI x < 2
      · exact .inr (t4 h)
      · exact .inl (by omega)
    simp only [txN, folds] at hok ⊢
    simp only [hok, if_true]
    rw [t5]
theorem poP_good {s : List UInt8} {l : List Int} (h : GoodO s l) : poP s = encL 6 (sevAll l) := by
  obtain ⟨h1, h2, h3, rfl⟩ := h
  have hol : oidL (sevAll l) = some l := by
    rw [oidL_all l (fun x hx => ⟨(h1 x hx).1, by have := (h1 x hx).2; omega⟩), if_pos ⟨List.all_eq_true.2 (fun x hx => by simpa using (h1 x hx).2), h2, h3⟩]
  match l, h1, h2, h3, hol with
  | x :: r, h1, h2, h3, hol =>
    have hx := h1 x List.mem_cons_self
    have hr : ∀ y ∈ r, 0 ≤ y ∧ y < 4294967296 := fun y hy => h1 y (List.mem_cons_of_mem _ hy)
    have hq := txN_lt hx.1 hx.2 hr
    obtain ⟨t1, t2, t3, t4, t5⟩ := top_ok hx.1
    unfold poP
    rw [sp_oidT, if_pos (by simp [txN] at h3 ⊢; omega), mapM_dec prP _ (fun y hy => prP_dec (hq y hy).1 (hq y hy).2)]
    simp only [txN, folds]
    rw [t5, if_pos ⟨hol, rfl⟩]
theorem mapM_len (f : List UInt8 → Option Int) : ∀ (ps : List (List UInt8)) (q : List Int), ps.mapM f = some q → ps.length = q.length ∧ ∀ (i : Nat) p, ps[i]? = some p → ∃ x, q[i]? = some x ∧ f p = some x
  | [], q, h => by
    have : q = [] := by simpa using h.symm
    subst this
    exact ⟨rfl, fun i p hp => by simp at hp⟩
  | p :: ps, q, h => by
    rw [List.mapM_cons] at h
    cases hf : f p with
    | none => rw [hf] at h; cases h
    | some x =>
      rw [hf] at h
      cases hm : ps.mapM f with
      | none => rw [hm] at h; cases h
      | some t =>
        rw [hm] at h
        obtain rfl : q = x :: t := (Option.some.inj h).symm
        obtain ⟨e1, e2⟩ := mapM_len f ps t hm
        refine ⟨by simp [e1], fun i p' hp => ?_⟩
        cases i with
        | zero =>
          simp at hp
          subst hp
          exact ⟨x, rfl, hf⟩
        | succ i => exact e2 i p' (by simpa using hp)
theorem poP_is {s : List UInt8} (h : poP s ≠ []) : ∃ l, GoodO s l := by
  unfold poP at h
  cases hm : (if (spD s).length ≤ 17 then (spD s).mapM prP else none) with
  | none => rw [hm] at h; exact absurd rfl h
  | some q =>
    rw [hm] at h
    dsimp only at h
    cases hf : folds q with
    | none => rw [hf] at h; exact absurd rfl h
    | some l =>
      rw [hf] at h
      dsimp only at h
      by_cases hc : oidL (sevAll l) = some l ∧ oidT l = s
      · have hm' : (spD s).mapM prP = some q := by
          by_cases h17 : (spD s).length ≤ 17
          · rw [if_pos h17] at hm; exact hm
          · rw [if_neg h17] at hm; cases hm
        obtain ⟨e1, e2⟩ := mapM_len prP _ q hm'
        have hq : ∀ x ∈ q, 0 ≤ x ∧ x < 4294967296 := fun x hx => by
          obtain ⟨i, hi, hxi⟩ := List.mem_iff_getElem.1 hx
          obtain ⟨x', g1, g2⟩ := e2 i _ (List.getElem?_eq_getElem (by omega))
          rw [List.getElem?_eq_getElem hi, hxi] at g1
          obtain rfl := Option.some.inj g1
          unfold prP at g2
          split at g2
          · rename_i hp
            have := Option.some.inj g2
            omega
          · cases g2
        match q, hf, hq with
        | a :: b :: r, hf, hq =>
          obtain rfl : l = (40 * a + b) :: r := (Option.some.inj hf).symm
          have ha := hq a List.mem_cons_self
          have hb := hq b (List.mem_cons_of_mem _ List.mem_cons_self)
          have hr : ∀ y ∈ r, 0 ≤ y ∧ y < 4294967296 := fun y hy => hq y (List.mem_cons_of_mem _ (List.mem_cons_of_mem _ hy))
          have hall := oidL_all ((40 * a + b) :: r) (fun y hy => by
            rcases List.mem_cons.1 hy with rfl | hy
            · omega
            · have := hr y hy; omega)
          rw [hc.1] at hall
          by_cases hk : (((40 * a + b) :: r).all (fun x => decide (x < 4294967296)) = true ∧ 1 ≤ ((40 * a + b) :: r).length ∧ ((40 * a + b) :: r).length ≤ 16)
          · refine ⟨_, ⟨fun y hy => ⟨?_, by simpa using List.all_eq_true.1 hk.1 y hy⟩, hk.2.1, hk.2.2, hc.2⟩⟩
            rcases List.mem_cons.1 hy with rfl | hy
            · omega
            · exact (hr y hy).1
          · rw [if_neg hk] at hall
            cases hall
      · rw [if_neg hc] at h
        exact absurd rfl h
theorem prD_is {p : List UInt8} {x : Int} (h : prD p = some x) : p = decI x ∧ 0 ≤ x := by
  unfold prD at h
  split at h
  · rename_i hc
    obtain rfl := Option.some.inj h
    refine ⟨?_, by omega⟩
    unfold decI
    rw [Int.toNat_natCast]
    exact (dec_back _ p rfl hc.1).symm
  · cases h
theorem mapM_back : ∀ (ps : List (List UInt8)) (q : List Int), ps.mapM prD = some q → ps = q.map decI ∧ ∀ x ∈ q, 0 ≤ x
  | [], q, h => by
    have : q = [] := by simpa using h.symm
    subst this
    exact ⟨rfl, fun x hx => by cases hx⟩
  | p :: ps, q, h => by
    rw [List.mapM_cons] at h
    cases hf : prD p with
    | none => rw [hf] at h; cases h
    | some x =>
      rw [hf] at h
      cases hm : ps.mapM prD with
      | none => rw [hm] at h; cases h
      | some t =>
        rw [hm] at h
        obtain rfl : q = x :: t := (Option.some.inj h).symm
        obtain ⟨e1, e2⟩ := mapM_back ps t hm
        obtain ⟨g1, g2⟩ := prD_is hf
        refine ⟨by rw [List.map_cons, ← g1, ← e1], fun y hy => ?_⟩
        rcases List.mem_cons.1 hy with rfl | hy
        · exact g2
        · exact e2 y hy
theorem poD_is {s : List UInt8} (h : poD s ≠ []) : ∃ l, GoodO s l := by
  unfold poD at h
  cases hm : (spD s).mapM prD with
  | none => rw [hm] at h; exact absurd rfl h
  | some q =>
    rw [hm] at h
    dsimp only at h
    obtain ⟨e1, e2⟩ := mapM_back _ q hm
    match q, h, e1, e2 with
    | [], h, e1, e2 => exact absurd rfl h
    | [a], h, e1, e2 => exact absurd rfl h
    | a :: b :: r, h, e1, e2 =>
      dsimp only [folds] at h
      by_cases hok : okD (a :: b :: r) = true
      · have ha := e2 a List.mem_cons_self
        have hb := e2 b (List.mem_cons_of_mem _ List.mem_cons_self)
        simp only [okD, Bool.and_eq_true, decide_eq_true_eq, Bool.or_eq_true, List.all_eq_true] at hok
        obtain ⟨⟨⟨⟨k1, k2⟩, k3⟩, k4⟩, k5⟩ := hok
        have ht : topI (40 * a + b) = a := by
          unfold topI
          split
          · omega
          · split <;> omega
        refine ⟨(40 * a + b) :: r, ⟨fun y hy => ?_, by simp, by simp; omega, ?_⟩⟩
        · rcases List.mem_cons.1 hy with rfl | hy
          · omega
          · exact ⟨e2 y (List.mem_cons_of_mem _ (List.mem_cons_of_mem _ hy)), k4 y hy⟩
        · rw [oidT_jn]
          unfold txN
          rw [ht, show 40 * a + b - 40 * a = b by omega, ← e1, jn_spD]
      · rw [if_neg hok] at h
        exact absurd rfl h
theorem po_same (s : List UInt8) : poP s = poD s := by
  by_cases h : ∃ l, GoodO s l
  · obtain ⟨l, hl⟩ := h
    rw [poP_good hl, poD_good hl]
  · have h1 : poP s = [] := by
      by_cases e : poP s = []
      · exact e
      · exact absurd (poP_is e) h
    have h2 : poD s = [] := by
      by_cases e : poD s = []
      · exact e
      · exact absurd (poD_is e) h
    rw [h1, h2]
end Go.Proofs.YtnidfbcninkglaaDoor
