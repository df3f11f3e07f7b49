/-
  Numbers that a reader reads.
-/
import Derived.Test.YtdhckndehijemaaMj03
namespace Go.Proofs.Ytdhckndehijemaa
open Go.RowKit
set_option linter.unusedVariables false
set_option maxRecDepth 100000

theorem RS.of {w : World} {r : Nat} {v : Value} {al : Int} {xs : List Int} {s : St} (h : RM w r v al xs) (k : AB s xs al) : RS w r s := ⟨v, al, xs, h, k⟩
theorem RS.lt {w : World} {r : Nat} {s : St} (h : RS w r s) : r < w.heap.size := by obtain ⟨v, al, xs, h, -⟩ := h; exact h.lt
theorem RS.keep {S : Nat → Prop} {w w' : World} {r : Nat} {s : St} (h : RS w r s) (c : Chg S w w') (hS : ∀ k, S k → r < k) : RS w' r s := by
  obtain ⟨v, al, xs, h, k⟩ := h
  exact ⟨v, al, xs, h.keep c hS, k⟩
theorem RS.non {w w' : World} {r : Nat} {s : St} (h : RS w r s) (c : Chg Non w w') : RS w' r s := h.keep c (fun k q => q.elim)

theorem AB.none {s : St} {xs : List Int} {al : Int} (h : AB s xs al) (e : s = none) : al = 50 := by
  rcases h with ⟨-, h⟩ | ⟨o, rfl, -⟩
  · exact h
  · cases e

/-- The next bytes, by where a reader stands. -/
theorem takeS_any (r n : Nat) (s : St) (w : World) (h : RS w r s) :
    Calls Try.prog 229 #[.pointer (some ⟨r, 0, none⟩), .int .i64 n] w fun e w' => ∃ v' ys s', e = .returned v' ∧ Rd w' v' ys ∧ Byt ys ∧ ys.length ≤ n ∧ (∀ k, v'.ownBlock = some k → k < r) ∧ Chg (One r) w w' ∧ RS w' r s' ∧ Res (pTake n) s ys s' := by
  obtain ⟨v, al, xs, h, k⟩ := h
  refine (take_any r n v al xs w h).mono ?_
  rintro e w' ⟨v', rfl, hc, ho, h⟩
  rcases h with ⟨h1, rfl, h2⟩ | ⟨h1, h2, v2, h3⟩
  · refine ⟨_, [], none, rfl, Rd.nil w', Byt.nil, Nat.zero_le _, ho, hc, RS.of h2 (.inl ⟨rfl, rfl⟩), ?_⟩
    rcases k with ⟨rfl, -⟩ | ⟨o, rfl, -⟩
    · rfl
    · simp [Res, pTake, h1]
  · refine ⟨v', xs.take n, s.map fun q => (xs.drop n, q.2), rfl, h2, RM.byt h |>.take n, by simp; omega, ho, hc, ?_, ?_⟩
    · rcases k with ⟨rfl, rfl⟩ | ⟨o, rfl, rfl⟩
      · exact RS.of h3 (.inl ⟨rfl, rfl⟩)
      · exact RS.of h3 (.inr ⟨o, rfl, rfl⟩)
    · rcases k with ⟨rfl, rfl⟩ | ⟨o, rfl, rfl⟩
      · rfl
      · simp [Res, pTake, Nat.not_lt.2 h1]

theorem take_snoc {xs : List Int} {k : Nat} {x : Int} (h : xs[k]? = some x) : xs.take (k + 1) = xs.take k ++ [x] := by
  rw [List.take_add_one, h]
  rfl
theorem dig_take {xs : List Int} (h : Byt xs) {k n : Nat} (hk : k ≤ n) : 0 ≤ dig (xs.take k) ∧ dig (xs.take k) < 256 ^ n := by
  obtain ⟨h1, h2⟩ := dig_le (h.take k)
  refine ⟨h1, Int.lt_of_lt_of_le h2 ?_⟩
  have h3 : (xs.take k).length ≤ n := by simp; omega
  have : (256 : Nat) ^ (xs.take k).length ≤ 256 ^ n := Nat.pow_le_pow_right (by decide) h3
  exact_mod_cast this

theorem Res.dig {n : Nat} {s s' : St} {ys : List Int} (h : Res (pTake n) s ys s') : Res (pDig n) s (dig ys) s' := by
  unfold Res at h ⊢
  cases s with
  | none => exact h
  | some z =>
    obtain ⟨xs, o⟩ := z
    dsimp only at h ⊢
    unfold pTake at h
    unfold pDig
    split at h
    · rename_i hq
      split at hq
      · rename_i hl
        rw [if_pos hl]
        exact h
      · cases hq
    · rename_i hq
      split at hq
      · cases hq
      · rename_i hl
        rw [if_neg hl]
        injection hq with hq
        injection hq with q1 hq
        injection hq with q2 q3
        subst q1; subst q2; subst q3
        exact ⟨by rw [h.1], h.2⟩

/-- What a method of a reader leaves. -/
structure PS {α : Type} (p : Pr α) (w w' : World) (r : Nat) (s : St) (x : α) : Prop where
  chg : Chg (One r) w w'
  st : ∃ s', RS w' r s' ∧ Res p s x s'
/-- A number of n bytes. -/
structure ND (n : Nat) (w w' : World) (r : Nat) (s : St) (x : Int) : Prop where
  ps : PS (pDig n) w w' r s x
  lo : 0 ≤ x
  hi : x < 256 ^ n
/-- What reads as data of a kind. -/
structure RP (t : Ty) (p : Pr t.Dat) (w w' : World) (r : Nat) (s : St) (us : List Value) (x : t.Dat) : Prop where
  rel : Rel t (Btw w.heap.size w'.heap.size) w' us x
  ps : PS p w w' r s x

theorem PS.bind {α β : Type} {p : Pr α} {q : α → Pr β} {a b c : World} {r : Nat} {s : St} {x : α} {y : β} (h : PS p a b r s x) (k : ∀ s', RS b r s' → PS (q x) b c r s' y) : PS (pBind p q) a c r s y := by
  obtain ⟨s1, h1, h2⟩ := h.st
  have hk := k s1 h1
  obtain ⟨s2, k1, k2⟩ := hk.st
  exact ⟨h.chg.one hk.chg, s2, k1, h2.bind k2⟩
theorem PS.map {α β : Type} {p : Pr α} {a b : World} {r : Nat} {s : St} {x : α} (f : α → β) (h : PS p a b r s x) : PS (pBind p fun a => pRet (f a)) a b r s (f x) := by
  obtain ⟨s1, h1, h2⟩ := h.st
  exact ⟨h.chg, s1, h1, h2.map f⟩
theorem PS.after {α : Type} {p : Pr α} {a b c : World} {r : Nat} {s : St} {x : α} (h : PS p a b r s x) (k : Chg Non b c) : PS p a c r s x := by
  obtain ⟨s1, h1, h2⟩ := h.st
  exact ⟨h.chg.trans k (fun _ _ q => q.elim), s1, h1.non k, h2⟩
theorem PS.ahead {α : Type} {p : Pr α} {a b c : World} {r : Nat} {s : St} {x : α} (h : PS p b c r s x) (k : Chg Non a b) : PS p a c r s x :=
  ⟨(k.non _).trans h.chg (fun _ _ q => q), h.st⟩

set_option maxHeartbeats 1600000 in
theorem digits_any (r n : Nat) (hn : n ≤ 4) (s : St) (w : World) (h : RS w r s) :
    Calls Try.prog 214 #[.pointer (some ⟨r, 0, none⟩), .int .i64 n] w fun e w' => ∃ x, e = .returned (.int .u32 x) ∧ ND n w w' r s x := by
  have HT := takeS_any r n s w h
  have HN : Hid (n ≤ 4) := hn
  clear h
  go_enter Try.func214, Try.ntmps214
  go_wp2_with (go_at_call 229; refine HT.mono ?_)
  rintro e w' ⟨v', ys, s', rfl, h1, h2, h3, h4, h5, h6, h7⟩
  obtain ⟨ao, L, c, rfl, hL, hc, hm⟩ := h1.shape
  have HL : Hid (L = ys.length) := hL
  have HR : Hid (Rd w' (.slice ao L c) ys) := h1
  have HB : Hid (Byt ys) := h2
  have HX : Hid (Chg (One r) w w' ∧ RS w' r s' ∧ Res (pTake n) s ys s') := ⟨h5, h6, h7⟩
  have hLn : L ≤ 4 := by omega
  have HLn : Hid (L ≤ n) := by show _ ≤ _; omega
  clear h1 h2 h3 h4 h5 h6 h7 hL hm HT
  go_wp2
  go_loop [5, 12] (fun v i => ∃ (k : Nat) (t : Int), k ≤ L ∧ i = .int .i64 k ∧ v = .int .u32 t ∧ Hid (t = dig (ys.take k)) ∧ Hid (0 ≤ t ∧ t < 4294967296)) (fun _ i => L - (intOf i).toNat)
  case atStart => exact ⟨0, 0, Nat.zero_le _, rfl, rfl, (rfl : (0 : Int) = dig []), (⟨by decide, by decide⟩ : (0 : Int) ≤ 0 ∧ (0 : Int) < 4294967296)⟩
  case round =>
    obtain ⟨k, t, hk, rfl, rfl, ht, Ht2⟩ := hrel
    obtain ⟨ht1, ht2⟩ := Ht2.out
    by_cases hlt : k < L
    · obtain ⟨x, hx⟩ : ∃ x, ys[k]? = some x := ⟨ys[k]'(by rw [← HL.out]; exact hlt), List.getElem?_eq_getElem _⟩
      obtain ⟨b, o, c', e, hc', hm', h3⟩ := HR.out.bs (by intro e; subst e; cases hx)
      injection e with e1 e2 e3
      subst e1; subst e3
      have hcx := h3 k x hx
      obtain ⟨hx0, hx1⟩ := HB.out x (List.mem_of_getElem? hx)
      obtain ⟨T, hT⟩ : ∃ T, T = t * 256 + x := ⟨_, rfl⟩
      have HS : Hid (T = dig (ys.take (k + 1))) := by show _ = _; rw [take_snoc hx, dig_snoc, ← ht.out, hT]
      have htb := (dig_take HB.out (k := k) (n := 3) (by omega))
      rw [← ht.out] at htb
      have htb' : t < 16777216 := by have := htb.2; simpa using this
      clear e2 hc' hm' h3 hx htb
      have hor : bits .or .u32 (t * 256) x = T := by
        have h := u32_or_nat (t.toNat * 256) x.toNat (by omega) (by omega)
        have e1 : ((t.toNat * 256 : Nat) : Int) = t * 256 := by omega
        have e2 : ((x.toNat : Nat) : Int) = x := by omega
        rw [e1, e2] at h
        refine h.trans ?_
        have : t.toNat * 256 ||| x.toNat = t.toNat * 256 + x.toNat := by
          have := Nat.two_pow_add_eq_or_of_lt (i := 8) (b := x.toNat) (by omega) t.toNat
          rw [Nat.mul_comm, ← this]
        rw [this, hT]
        omega
      have hT' : 0 ≤ T ∧ T < 4294967296 := by omega
      have HT' : Hid (0 ≤ T ∧ T < 4294967296) := hT'
      have hw : IntKind.u32.wrap (t * 256) = t * 256 := by rw [IntKind.wrap_u32]; omega
      clear hT
      go_wp2_with fail
      go_round
      case rel => exact ⟨k + 1, T, by omega, by go_num, rfl, HS, HT'⟩
      case measure => simp [intOf]; omega
    · have HV : Hid (t = dig ys) := by
        show _ = _
        have h4 := ht.out
        rw [List.take_of_length_le (by have := HL.out; omega)] at h4
        exact h4
      have HV2 : Hid (0 ≤ t ∧ t < 256 ^ n) := by
        have h4 := HV.out
        have := dig_take HB.out (k := L) (n := n) HLn.out
        rw [List.take_of_length_le (by have := HL.out; omega), ← h4] at this
        exact this
      go_wp2
      go_ret
      exact ⟨t, rfl, ⟨⟨HX.out.1, s', HX.out.2.1, by rw [HV.out]; exact HX.out.2.2.dig⟩, HV2.out.1, HV2.out.2⟩⟩

set_option maxHeartbeats 400000 in
theorem octet_any (r : Nat) (s : St) (w : World) (h : RS w r s) : Calls Try.prog 201 #[.pointer (some ⟨r, 0, none⟩)] w fun e w' => ∃ x, e = .returned (.int .u8 x) ∧ ND 1 w w' r s x := by
  have HD := digits_any r 1 (by decide) s w h
  clear h
  go_enter Try.func201, Try.ntmps201
  go_wp2_with (go_at_call 214; refine HD.mono ?_)
  rintro e w' ⟨x, rfl, h1⟩
  have H1 : Hid (ND 1 w w' r s x) := h1
  have hw : IntKind.u8.wrap x = x := by rw [IntKind.wrap_u8]; have := h1.lo; have := h1.hi; omega
  clear h1 HD
  go_wp2
  go_ret
  exact ⟨x, rfl, H1.out⟩

set_option maxHeartbeats 400000 in
theorem number_any (r : Nat) (s : St) (w : World) (h : RS w r s) : Calls Try.prog 156 #[.pointer (some ⟨r, 0, none⟩)] w fun e w' => ∃ x, e = .returned (.int .u16 x) ∧ ND 2 w w' r s x := by
  have HD := digits_any r 2 (by decide) s w h
  clear h
  go_enter Try.func156, Try.ntmps156
  go_wp2_with (go_at_call 214; refine HD.mono ?_)
  rintro e w' ⟨x, rfl, h1⟩
  have H1 : Hid (ND 2 w w' r s x) := h1
  have hw : IntKind.u16.wrap x = x := by rw [IntKind.wrap_u16]; have := h1.lo; have := h1.hi; omega
  clear h1 HD
  go_wp2
  go_ret
  exact ⟨x, rfl, H1.out⟩

set_option maxHeartbeats 400000 in
theorem long_any (r : Nat) (s : St) (w : World) (h : RS w r s) : Calls Try.prog 204 #[.pointer (some ⟨r, 0, none⟩)] w fun e w' => ∃ x, e = .returned (.int .u32 x) ∧ ND 4 w w' r s x := by
  have HD := digits_any r 4 (by decide) s w h
  clear h
  go_enter Try.func204, Try.ntmps204
  go_wp2_with (go_at_call 214; refine HD.mono ?_)
  rintro e w' ⟨x, rfl, h1⟩
  have H1 : Hid (ND 4 w w' r s x) := h1
  clear h1 HD
  go_wp2
  go_ret
  exact ⟨x, rfl, H1.out⟩

/-- A byte that may be no other one. -/
def pOnly (c : Int) : Pr Unit := pBind (pDig 1) fun v => pOdd (v != c)
theorem pOnly_shr (c : Int) : Shr (pOnly c) := pBind_shr (pDig_shr (by decide)) fun _ => pOdd_shq _

theorem PS.odd {w w' : World} {r : Nat} {v : Value} {al : Int} {xs : List Int} {s : St} (h : RM w r v al xs) (k : AB s xs al) (h' : RM w' r v (tell al 47) xs) (c : Chg (One r) w w') : PS (pOdd true) w w' r s () :=
  ⟨c, s.map fun q => (q.1, q.2 || true), RS.of h' k.odd, Res.odd true s⟩
theorem PS.even {w : World} {r : Nat} {s : St} (h : RS w r s) : PS (pOdd false) w w r s () := by
  refine ⟨Chg.refl _ _, s, h, ?_⟩
  have := Res.odd false s
  have e : (s.map fun q => (q.1, q.2 || false)) = s := by cases s <;> simp
  rwa [e] at this

set_option maxHeartbeats 400000 in
theorem only_any (r : Nat) (c : Int) (s : St) (w : World) (h : RS w r s) : Calls Try.prog 219 #[.pointer (some ⟨r, 0, none⟩), .int .u8 c] w fun e w' => e = .returned (.tuple #[]) ∧ PS (pOnly c) w w' r s () := by
  have HO := octet_any r s w h
  clear h
  go_enter Try.func219, Try.ntmps219
  go_wp2_with (go_at_call 201; refine HO.mono ?_)
  rintro e w1 ⟨x, rfl, h1⟩
  have H1 : Hid (ND 1 w w1 r s x) := h1
  obtain ⟨s1, q1, q2⟩ := h1.ps.st
  obtain ⟨v, al, xs, q3, q4⟩ := q1
  have HQ : Hid (RM w1 r v al xs ∧ AB s1 xs al) := ⟨q3, q4⟩
  have HR := refuse_any r 47 v al xs w1 q3
  by_cases hx : x = c
  · have hx' : (x != c) = false := by simpa using hx
    have HX : Hid (x = c) := hx
    clear h1 HO q2 q3 q4 HR hx
    go_wp2
    go_end0
    refine ⟨rfl, H1.out.ps.bind fun s' h' => ?_⟩
    rw [HX.out, show (c != c) = false by simp]
    exact PS.even h'
  · have hx' : (x != c) = true := by simpa using hx
    have HX : Hid ((x != c) = true) := hx'
    have HS : Hid (PS (pDig 1) w w1 r s x ∧ Res (pDig 1) s x s1) := ⟨h1.ps, q2⟩
    clear h1 HO q2 q3 q4 hx
    go_wp2_with (go_at_call 182; refine HR.mono ?_)
    rintro e w2 ⟨rfl, h2, h3⟩
    have HP : Hid (RM w2 r v (tell al 47) xs ∧ Chg (One r) w1 w2) := ⟨h2, h3⟩
    clear h2 h3 HR
    go_wp2
    go_end0
    have hb := PS.odd HQ.out.1 HQ.out.2 HP.out.1 HP.out.2
    obtain ⟨s2, k1, k2⟩ := hb.st
    refine ⟨rfl, HS.out.1.chg.one hb.chg, s2, k1, HS.out.2.bind ?_⟩
    rw [HX.out]
    exact k2


set_option maxHeartbeats 400000 in
theorem filled_any (n : Int) (w : World) : Calls Try.prog 185 #[.int .i64 n] w fun e w' => e = .returned (.agg #[.int .i64 n, .int .i64 1, .int .i64 16777216]) ∧ Chg Non w w' := by
  go_enter Try.func185, Try.ntmps185
  go_wp2
  refine bodyPost_ret (v := .agg #[.int .i64 n, .int .i64 1, .int .i64 16777216]) ?_ rfl ⟨rfl, ?_⟩
  · simp [results, Try.results185, go_sem]
  · first | exact (Chg.refl _ _).alloc _ | (refine Chg.setCell (Chg.setCell (Chg.setCell ((Chg.refl _ _).alloc _) ?_ _) ?_ _) ?_ _ <;> (intro q; exact absurd q (Nat.lt_irrefl _)))

set_option maxHeartbeats 400000 in
theorem free_any (n : Int) (w : World) : Calls Try.prog 197 #[.int .i64 n] w fun e w' => e = .returned (.agg #[.int .i64 n, .int .i64 0, .int .i64 16777216]) ∧ Chg Non w w' := by
  go_enter Try.func197, Try.ntmps197
  go_wp2
  refine bodyPost_ret (v := .agg #[.int .i64 n, .int .i64 0, .int .i64 16777216]) ?_ rfl ⟨rfl, ?_⟩
  · simp [results, Try.results197, go_sem]
  · first | exact (Chg.refl _ _).alloc _ | (refine Chg.setCell (Chg.setCell (Chg.setCell ((Chg.refl _ _).alloc _) ?_ _) ?_ _) ?_ _ <;> (intro q; exact absurd q (Nat.lt_irrefl _)))

set_option maxHeartbeats 400000 in
theorem exactly_any (m n : Int) (w : World) : Calls Try.prog 187 #[.int .i64 m, .int .i64 n] w fun e w' => e = .returned (.agg #[.int .i64 n, .int .i64 m, .int .i64 m]) ∧ Chg Non w w' := by
  go_enter Try.func187, Try.ntmps187
  go_wp2
  refine bodyPost_ret (v := .agg #[.int .i64 n, .int .i64 m, .int .i64 m]) ?_ rfl ⟨rfl, ?_⟩
  · simp [results, Try.results187, go_sem]
  · first | exact (Chg.refl _ _).alloc _ | (refine Chg.setCell (Chg.setCell (Chg.setCell ((Chg.refl _ _).alloc _) ?_ _) ?_ _) ?_ _ <;> (intro q; exact absurd q (Nat.lt_irrefl _)))

set_option maxHeartbeats 400000 in
theorem session_any (w : World) : Calls Try.prog 230 #[] w fun e w' => e = .returned (.agg #[.int .i64 1, .int .i64 0, .int .i64 32]) ∧ Chg Non w w' := by
  go_enter Try.func230, Try.ntmps230
  go_wp2
  refine bodyPost_ret (v := .agg #[.int .i64 1, .int .i64 0, .int .i64 32]) ?_ rfl ⟨rfl, ?_⟩
  · simp [results, Try.results230, go_sem]
  · first | exact (Chg.refl _ _).alloc _ | (refine Chg.setCell (Chg.setCell (Chg.setCell ((Chg.refl _ _).alloc _) ?_ _) ?_ _) ?_ _ <;> (intro q; exact absurd q (Nat.lt_irrefl _)))

set_option maxHeartbeats 400000 in
theorem binderS_any (w : World) : Calls Try.prog 233 #[] w fun e w' => e = .returned (.agg #[.int .i64 1, .int .i64 32, .int .i64 16777216]) ∧ Chg Non w w' := by
  go_enter Try.func233, Try.ntmps233
  go_wp2
  refine bodyPost_ret (v := .agg #[.int .i64 1, .int .i64 32, .int .i64 16777216]) ?_ rfl ⟨rfl, ?_⟩
  · simp [results, Try.results233, go_sem]
  · first | exact (Chg.refl _ _).alloc _ | (refine Chg.setCell (Chg.setCell (Chg.setCell ((Chg.refl _ _).alloc _) ?_ _) ?_ _) ?_ _ <;> (intro q; exact absurd q (Nat.lt_irrefl _)))

set_option maxHeartbeats 400000 in
theorem fits_any (a b c n : Int) (w : World) : Calls Try.prog 231 #[.agg #[.int .i64 a, .int .i64 b, .int .i64 c], .int .i64 n] w fun e w' => e = .returned (.bool (decide (b ≤ n ∧ n ≤ c))) ∧ Chg Non w w' := by
  by_cases h1 : b ≤ n
  · have d1 : decide (n ≥ b) = true := by simpa using h1
    have H1 : Hid (b ≤ n) := h1
    clear h1
    go_enter Try.func231, Try.ntmps231
    go_wp2
    go_ret
    refine ⟨?_, (Chg.refl _ _).alloc _⟩
    have := H1.out
    simp [this]
  · have d1 : decide (n ≥ b) = false := by simpa using h1
    have H1 : Hid (¬ b ≤ n) := h1
    clear h1
    go_enter Try.func231, Try.ntmps231
    go_wp2
    go_ret
    refine ⟨?_, (Chg.refl _ _).alloc _⟩
    have := H1.out
    simp
end Go.Proofs.Ytdhckndehijemaa
