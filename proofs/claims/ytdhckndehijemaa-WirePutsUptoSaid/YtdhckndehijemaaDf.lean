/-
  The document's reader: numbers, lists, parts, the end.
-/
import Derived.Test.YtdhckndehijemaaMj27
namespace Go.Proofs.Ytdhckndehijemaa
open Go.RowKit
set_option linter.unusedVariables false
set_option maxRecDepth 100000

theorem dig_take_succ {ys : List Int} {k : Nat} {u : Int} (h : ys[k]? = some u) : dig (ys.take (k + 1)) = dig (ys.take k) * 256 + u := by
  rw [List.take_add_one, h]
  exact dig_snoc _ _
theorem dig_mono {ys : List Int} (h : Byt ys) {n : Nat} (hn : ys.length ≤ n) : 0 ≤ dig ys ∧ dig ys < 256 ^ n := by
  obtain ⟨h1, h2⟩ := dig_le h
  refine ⟨h1, Int.lt_of_lt_of_le h2 ?_⟩
  have : (256 : Nat) ^ ys.length ≤ 256 ^ n := Nat.pow_le_pow_right (by decide) hn
  exact_mod_cast this
theorem res_dig {n : Nat} {s s1 : St} {ys : List Int} (h : Res (pTake n) s ys s1) : Res (pDig n) s (dig ys) s1 := by
  cases s with
  | none => exact h
  | some z =>
    obtain ⟨xs, o⟩ := z
    unfold Res pTake at h
    unfold Res pDig
    dsimp only at h ⊢
    by_cases hl : xs.length < n
    · rw [if_pos hl] at h ⊢
      exact h
    · rw [if_neg hl] at h ⊢
      exact ⟨by rw [h.1], h.2⟩

set_option maxHeartbeats 1600000 in
theorem dnumber_any (r n : Nat) (hn : n ≤ 4) (s : St) (w : World) (h : DS w r s) :
    Calls Try.prog 127 #[.pointer (some ⟨r, 0, none⟩), .int .i64 n] w fun e w' => ∃ x, e = .returned (.int .i64 x) ∧ DN n w w' r s x := by
  have ht := dtake_any r n (by omega) s w h
  clear h
  have HN : Hid (n ≤ 4) := hn
  go_enter Try.func127, Try.ntmps127
  go_wp2_with (go_at_call 190; refine ht.mono ?_)
  rintro e w1 ⟨ao, L, c, ys, rfl, hk, hl, hL⟩
  obtain ⟨bo, N, c', e', m1⟩ := hk.dp.rel.ofByt.lies (by decide)
  injection e' with e1 e2 e3
  subst e1; subst e2; subst e3
  have HK : Hid (TK (pTake n) w w1 r s (.slice ao L c) ys ∧ ys.length ≤ n ∧ L = ys.length ∧ L ≤ 4) := ⟨hk, hl, hL, by omega⟩
  have HA : Hid (∀ (j : Nat) (a : Int), ys[j]? = some a → ∃ b o us', ao = some ⟨b, o, none⟩ ∧ Rel (.num .u8) (Btw w.heap.size w1.heap.size) w1 us' a ∧ ∀ i u, us'[i]? = some u → w1.cell? ⟨b, o + j * 1 + i, none⟩ = some u) := m1.els
  have hL4 : L ≤ 4 := by omega
  clear hk hl hL ht m1 hn
  go_wp2_with fail
  go_loopw [6, 7] (fun v i wr => ∃ k : Nat, k ≤ L ∧ i = .int .i64 k ∧ v = .int .i64 (dig (ys.take k)) ∧ wr = w1) (fun v i _ => L - (intOf i).toNat)
  case atStart => exact ⟨0, Nat.zero_le _, rfl, rfl, rfl⟩
  case round =>
    obtain ⟨k, hk, rfl, rfl, rfl⟩ := hrel
    by_cases hlt : k < L
    · obtain ⟨u, hu⟩ : ∃ u, ys[k]? = some u := ⟨ys[k]'(by rw [← HK.out.2.2.1]; exact hlt), List.getElem?_eq_getElem _⟩
      obtain ⟨b1, o1, us1, rfl, r1, r2⟩ := HA.out k u hu
      obtain ⟨rfl, -⟩ := r1
      have y1 : wr.cell? ⟨b1, o1 + k, none⟩ = some (.int .u8 u) := by simpa using r2 0 _ rfl
      have hb : Byt ys := by obtain ⟨-, b, -⟩ := HK.out.1.bt; exact b
      obtain ⟨u0, u1⟩ := hb u (List.mem_of_getElem? hu)
      obtain ⟨d0, d1⟩ := dig_mono (hb.take k) (n := 3) (by rw [List.length_take]; omega)
      have e256 : (256 : Int) ^ 3 = 16777216 := rfl
      rw [e256] at d1
      obtain ⟨D, hD⟩ : ∃ D, D = dig (ys.take k) := ⟨_, rfl⟩
      rw [← hD] at d0 d1
      have HD : Hid (dig (ys.take (k + 1)) = 256 * D + u) := by show _ = _; rw [dig_take_succ hu, hD]; omega
      rw [← hD]
      have hw1 : IntKind.i64.wrap (256 * D) = 256 * D := by rw [IntKind.wrap_i64]; omega
      have hw2 : IntKind.i64.wrap (256 * D + u) = 256 * D + u := by rw [IntKind.wrap_i64]; omega
      have hw3 : IntKind.i64.wrap u = u := by rw [IntKind.wrap_i64]; omega
      have HLT : Hid (k + 1 ≤ L) := hlt
      clear hu r2 hb hD
      go_wp2
      go_roundw
      case rel => exact ⟨k + 1, HLT.out, by go_num, by rw [HD.out], trivial⟩
      case measure => simp [intOf]; omega
    · have hkL : k = L := by omega
      subst hkL
      have HE : Hid (ys.take k = ys) := List.take_of_length_le (by have := HK.out.2.2.1; omega)
      go_wp2
      go_ret
      have hb : Byt ys := by obtain ⟨-, b, -⟩ := HK.out.1.bt; exact b
      obtain ⟨s', q1, q2⟩ := HK.out.1.ps.st
      obtain ⟨d0, d1⟩ := dig_mono hb HK.out.2.1
      exact ⟨dig ys, by rw [HE.out]; rfl, ⟨HK.out.1.ps.chg, s', q1, res_dig q2⟩, d0, d1⟩


/-- A list of the document's: a number, bounds of its bytes, the bytes. -/
def pRaw (n least most : Nat) : Pr (List Int) := pBind (pDig n) fun k => if least ≤ k.toNat ∧ k.toNat ≤ most then pTake k.toNat else fun _ => none
theorem raw_bytes {n least most most' : Nat} (hm : ∀ L : Nat, L < 256 ^ n → L ≤ most ∧ L ≤ most') {xs : List Int} (hb : Byt xs) : pRaw n least most xs = pBytes n least most' xs := by
  unfold pRaw pBytes pBind pDig pList
  by_cases hl : xs.length < n
  · rw [if_pos hl, if_pos hl]
  · rw [if_neg hl, if_neg hl]
    dsimp only
    obtain ⟨d0, d1⟩ := dig_mono (hb.take n) (n := n) (by rw [List.length_take]; omega)
    obtain ⟨k, hk⟩ : ∃ k : Nat, k = (dig (xs.take n)).toNat := ⟨_, rfl⟩
    have hk' : dig (xs.take n) = (k : Int) := by omega
    rw [← hk]
    have hkl : k < 256 ^ n := by rw [hk'] at d1; exact_mod_cast d1
    obtain ⟨m1, m2⟩ := hm k hkl
    have hmany : ∀ ys : List Int, Byt ys → many (pDig 1) ys = some (ys, false) := by
      intro ys
      induction ys with
      | nil => intro _; exact many_nil _
      | cons y ys ih =>
        intro hy
        have h1 : pDig 1 (y :: ys) = some (y, ys, false) := by
          unfold pDig
          rw [if_neg (by simp)]
          simp [dig]
        rw [many_some (pDig_shr (by decide)) (by simp) h1, ih hy.tail]
        rfl
    have hbt := (hb.drop n).take k
    by_cases hg : least ≤ k ∧ k ≤ most
    · rw [if_pos hg]
      unfold pTake
      by_cases hd : (xs.drop n).length < k
      · rw [if_pos hd, if_pos hd]
      · rw [if_neg hd, if_neg hd]
        have hlen : ((xs.drop n).take k).length = k := by rw [List.length_take]; omega
        have := hmany _ hbt
        unfold pDig at this
        rw [this]
        dsimp only
        rw [hlen, if_pos ⟨hg.1, m2⟩]
        rfl
    · rw [if_neg hg]
      by_cases hd : (xs.drop n).length < k
      · rw [if_pos hd]
      · rw [if_neg hd]
        have hlen : ((xs.drop n).take k).length = k := by rw [List.length_take]; omega
        have := hmany _ hbt
        unfold pDig at this
        rw [this]
        dsimp only
        rw [hlen, if_neg (fun q => hg ⟨q.1, m1⟩)]

set_option maxHeartbeats 1600000 in
theorem dlist_any (r n least most most' : Nat) (hn : n ≤ 3) (a b c : Int) (ha : a = n) (hb : b = least) (hc : c = most) (hm : ∀ L : Nat, L < 256 ^ n → L ≤ most ∧ L ≤ most') (s : St) (w : World) (h : DS w r s) :
    Calls Try.prog 119 #[.pointer (some ⟨r, 0, none⟩), .int .i64 a, .int .i64 b, .int .i64 c] w fun e w' => ∃ ao L c ys, e = .returned (.slice ao L c) ∧ TK (pBytes n least most') w w' r s (.slice ao L c) ys ∧ ys.length ≤ 16777216 ∧ L = ys.length := by
  subst ha hb hc
  have hd := dnumber_any r n (by omega) s w h
  have HM : Hid ((∀ L : Nat, L < 256 ^ n → L ≤ most ∧ L ≤ most') ∧ n ≤ 3) := ⟨hm, hn⟩
  have HSB : Hid (∀ xs o, s = some (xs, o) → Byt xs) := fun xs o e => DB.byt h e
  clear h hm hn
  go_enter Try.func119, Try.ntmps119
  go_wp2_with (go_at_call 127; refine hd.mono ?_)
  rintro e w1 ⟨x, rfl, hx⟩
  obtain ⟨k, rfl⟩ : ∃ k : Nat, x = k := ⟨x.toNat, by have := hx.lo; omega⟩
  obtain ⟨s1, q1, q2⟩ := hx.ps.st
  have hk : k < 16777216 := by
    have h1 := hx.hi
    have h2 : (256 : Nat) ^ n ≤ 256 ^ 3 := Nat.pow_le_pow_right (by decide) HM.out.2
    have h3 : ((256 : Int) ^ n) = ((256 ^ n : Nat) : Int) := by norm_cast
    rw [h3] at h1
    have h4 : (256 : Nat) ^ 3 = 16777216 := by decide
    omega
  have H1 : Hid (Chg (One r) w w1 ∧ Res (pDig n) s (k : Int) s1 ∧ k < 16777216) := ⟨hx.ps.chg, q2, hk⟩
  have HS1 : Hid (DS w1 r s1) := q1
  have HFIN : Hid (∀ ys s2, Res (pRaw n least most) s ys s2 → Res (pBytes n least most') s ys s2) := fun ys s2 hr => hr.congr fun xs o e => raw_bytes HM.out.1 (HSB.out xs o e)
  clear hx q1 q2 hd
  by_cases hg : least ≤ k ∧ k ≤ most
  · have d1 : decide (k < least) = false := by simp; omega
    have d2 : decide (most < k) = false := by simp; omega
    have HG : Hid (least ≤ k ∧ k ≤ most) := hg
    have ht := dtake_any r k (by omega) s1 w1 HS1.out
    clear hg hk
    go_wp2_with (go_at_call 190; refine ht.mono ?_)
    rintro e w2 ⟨ao, L, c, ys, rfl, hq, hl, hL⟩
    have HQ : Hid (TK (pTake k) w1 w2 r s1 (.slice ao L c) ys ∧ ys.length ≤ k ∧ L = ys.length) := ⟨hq, hl, hL⟩
    clear hq hl hL ht
    go_wp2
    go_ret
    obtain ⟨s2, q1, q2⟩ := HQ.out.1.ps.st
    refine ⟨ao, L, c, ys, rfl, ⟨⟨HQ.out.1.bt.1, HQ.out.1.bt.2.1, fun i e => ⟨Nat.le_trans H1.out.1.size (HQ.out.1.bt.2.2 i e).1, (HQ.out.1.bt.2.2 i e).2⟩⟩, H1.out.1.one HQ.out.1.ps.chg, s2, q1, HFIN.out _ _ (H1.out.2.1.bind ?_)⟩, by have := HQ.out.2.1; have := H1.out.2.2; omega, HQ.out.2.2⟩
    rw [Int.toNat_natCast, if_pos HG.out]
    exact q2
  · have HG : Hid (¬ (least ≤ k ∧ k ≤ most)) := hg
    obtain ⟨v, sh, od, zs, m, kb⟩ := HS1.out
    have m2 := m.short true
    have ht := dtake_any r k (by omega) none (w1.setCell ⟨r, 1, none⟩ (.bool true)) (DS.of m2 (.inl ⟨rfl, rfl⟩))
    have C2 : Hid (Chg (One r) w1 (w1.setCell ⟨r, 1, none⟩ (.bool true))) := chg_rest _ _ _ _
    obtain ⟨z0, z1, z2, f0, f1, f2⟩ := m.facts
    clear m kb m2 hk
    by_cases h1 : k < least
    · have d1 : decide (k < least) = true := by simp; omega
      clear hg h1
      go_wp2_with (go_at_call 190; refine ht.mono ?_)
      rintro e w2 ⟨ao, L, c, ys, rfl, hq, hl, hL⟩
      have HQ : Hid (TK (pTake k) (w1.setCell ⟨r, 1, none⟩ (.bool true)) w2 r none (.slice ao L c) ys ∧ ys.length ≤ k ∧ L = ys.length) := ⟨hq, hl, hL⟩
      clear hq hl hL ht z0 z1 z2 f0 f1 f2
      go_wp2
      go_ret
      obtain ⟨s2, q1, q2⟩ := HQ.out.1.ps.st
      obtain rfl : s2 = none := q2
      refine ⟨ao, L, c, ys, rfl, ⟨⟨HQ.out.1.bt.1, HQ.out.1.bt.2.1, fun i e => ⟨Nat.le_trans (H1.out.1.one C2.out).size (HQ.out.1.bt.2.2 i e).1, (HQ.out.1.bt.2.2 i e).2⟩⟩, (H1.out.1.one C2.out).one HQ.out.1.ps.chg, none, q1, HFIN.out _ _ (H1.out.2.1.bind ?_)⟩, by have := HQ.out.2.1; have := H1.out.2.2; omega, HQ.out.2.2⟩
      rw [Int.toNat_natCast, if_neg HG.out]
      cases s1 with
      | none => rfl
      | some z => rfl
    · have d1 : decide (k < least) = false := by simp; omega
      have d2 : decide (most < k) = true := by simp; omega
      clear hg h1
      go_wp2_with (go_at_call 190; refine ht.mono ?_)
      rintro e w2 ⟨ao, L, c, ys, rfl, hq, hl, hL⟩
      have HQ : Hid (TK (pTake k) (w1.setCell ⟨r, 1, none⟩ (.bool true)) w2 r none (.slice ao L c) ys ∧ ys.length ≤ k ∧ L = ys.length) := ⟨hq, hl, hL⟩
      clear hq hl hL ht z0 z1 z2 f0 f1 f2
      go_wp2
      go_ret
      obtain ⟨s2, q1, q2⟩ := HQ.out.1.ps.st
      obtain rfl : s2 = none := q2
      refine ⟨ao, L, c, ys, rfl, ⟨⟨HQ.out.1.bt.1, HQ.out.1.bt.2.1, fun i e => ⟨Nat.le_trans (H1.out.1.one C2.out).size (HQ.out.1.bt.2.2 i e).1, (HQ.out.1.bt.2.2 i e).2⟩⟩, (H1.out.1.one C2.out).one HQ.out.1.ps.chg, none, q1, HFIN.out _ _ (H1.out.2.1.bind ?_)⟩, by have := HQ.out.2.1; have := H1.out.2.2; omega, HQ.out.2.2⟩
      rw [Int.toNat_natCast, if_neg HG.out]
      cases s1 with
      | none => rfl
      | some z => rfl

/-- A reader of a list's bytes, as the document makes one. -/
structure PT (n least most : Nat) (w w' : World) (r P : Nat) (s : St) (s1 : St) (body : List Int) : Prop where
  chg : Chg (One r) w w'
  st : DS w' r s1
  res : Res (pBytes n least most) s body s1
  part : DS w' P (s1.map fun _ => (body, false))
  new : w.heap.size ≤ P
  len : body.length ≤ 16777216

set_option maxHeartbeats 1600000 in
theorem dpart_any (r n least most most' : Nat) (hn : n ≤ 3) (a b c : Int) (ha : a = n) (hb : b = least) (hc : c = most) (hm : ∀ L : Nat, L < 256 ^ n → L ≤ most ∧ L ≤ most') (s : St) (w : World) (h : DS w r s) :
    Calls Try.prog 120 #[.pointer (some ⟨r, 0, none⟩), .int .i64 a, .int .i64 b, .int .i64 c] w fun e w' => ∃ P s1 body, e = .returned (.pointer (some ⟨P, 0, none⟩)) ∧ PT n least most' w w' r P s s1 body := by
  have hd := dlist_any r n least most most' hn a b c ha hb hc hm s w h
  have HR : Hid (r < w.heap.size) := h.lt
  clear h hm ha hb hc hn
  go_enter Try.func120, Try.ntmps120
  go_wp2_with (go_at_call 119; refine hd.mono ?_)
  rintro e w1 ⟨ao, L, c', ys, rfl, hq, hl, hL⟩
  obtain ⟨s1, q1, q2⟩ := hq.ps.st
  obtain ⟨v, sh, od, zs, m, kb⟩ := q1
  obtain ⟨z0, z1, z2, f0, f1, f2⟩ := m.facts
  have HQ : Hid (TK (pBytes n least most') w w1 r s (.slice ao L c') ys ∧ Res (pBytes n least most') s ys s1 ∧ DM w1 r v sh od zs ∧ DB s1 zs sh od ∧ ys.length ≤ 16777216) := ⟨hq, q2, m, kb, hl⟩
  clear hq hl hL hd q2 m kb
  go_wp2
  go_ret
  have cA : Chg Non w1 (w1.alloc (.cells #[.slice ao L c', .bool sh, .bool false] 124)) := (Chg.refl _ _).alloc _
  refine ⟨w1.heap.size, s1, ys, rfl, (HQ.out.1.ps.chg).trans cA (fun _ _ q => q.elim), DS.of (HQ.out.2.2.1.non cA) HQ.out.2.2.2.1, HQ.out.2.1, ?_, HQ.out.1.ps.chg.size, HQ.out.2.2.2.2⟩
  refine DS.of (v := .slice ao L c') (sh := sh) (od := false) (xs := ys) ⟨heap_alloc_last w1 _, HQ.out.1.bt.1.keep (fun k e hk => cA.block k hk (fun q => q)), HQ.out.1.bt.2.1, fun k e => (HQ.out.1.bt.2.2 k e).2⟩ ?_
  rcases HQ.out.2.2.2.1 with ⟨rfl, rfl⟩ | ⟨rfl, rfl⟩
  · exact .inl ⟨rfl, rfl⟩
  · exact .inr ⟨rfl, rfl⟩

/-- Is something left? -/
def mor (s : St) : Bool := match s with
  | none => false
  | some (xs, _) => decide (0 < xs.length)
set_option maxHeartbeats 800000 in
theorem dmore_any (r : Nat) (s : St) (w : World) (h : DS w r s) : Calls Try.prog 121 #[.pointer (some ⟨r, 0, none⟩)] w fun e w' => e = .returned (.bool (mor s)) ∧ w' = w := by
  obtain ⟨v, sh, od, xs, m, k⟩ := h
  obtain ⟨ao, N, c, rfl, hN, hc, hm⟩ := m.rd.shape
  obtain ⟨z0, z1, z2, f0, f1, f2⟩ := m.facts
  rcases k with ⟨rfl, rfl⟩ | ⟨rfl, rfl⟩
  · clear m hN hc hm
    go_enter Try.func121, Try.ntmps121
    go_wp2
    go_ret
    exact ⟨rfl, rfl⟩
  · have HN : Hid (mor (some (xs, od)) = decide (0 < N)) := by show decide _ = _; rw [hN]
    rw [HN.out]
    clear m hN hc hm
    go_enter Try.func121, Try.ntmps121
    go_wp2
    go_ret
    exact ⟨by simp, rfl⟩

/-- What a part found, told to its reader. -/
def wth (s sp : St) : St := match s, sp with
  | some (ys, o), some (_, o') => some (ys, o || o')
  | _, _ => none
set_option maxHeartbeats 3200000 in
theorem dwith_any (r p : Nat) (hrp : r ≠ p) (s sp : St) (w : World) (h : DS w r s) (g : DS w p sp) : Calls Try.prog 122 #[.pointer (some ⟨r, 0, none⟩), .pointer (some ⟨p, 0, none⟩)] w fun e w' => e = .returned (.tuple #[]) ∧ Chg (One r) w w' ∧ DS w' r (wth s sp) := by
  obtain ⟨v, sh, od, xs, m, k⟩ := h
  obtain ⟨v', sh', od', xs', m', k'⟩ := g
  have M : Hid (DM w r v sh od xs ∧ DB s xs sh od ∧ DB sp xs' sh' od') := ⟨m, k, k'⟩
  obtain ⟨z0, z1, z2, f0, f1, f2⟩ := m.facts
  obtain ⟨y0, y1, y2, g0, g1, g2⟩ := m'.facts
  have HW : Hid (∀ b1 b2, DB (wth s sp) xs b1 b2 → DS ((w.setCell ⟨r, 1, none⟩ (.bool b1)).setCell ⟨r, 2, none⟩ (.bool b2)) r (wth s sp)) := fun b1 b2 hb => DS.of ((M.out.1.short b1).odd b2) hb
  have HC : Hid (∀ b1 b2 : Bool, Chg (One r) w ((w.setCell ⟨r, 1, none⟩ (.bool b1)).setCell ⟨r, 2, none⟩ (.bool b2))) := fun b1 b2 => (chg_rest _ _ _ _).one (chg_rest _ _ _ _)
  have HD : Hid (DB (wth s sp) xs (sh || sh') (od || od')) := by
    rcases k with ⟨rfl, rfl⟩ | ⟨rfl, rfl⟩
    · exact .inl ⟨rfl, rfl⟩
    · rcases k' with ⟨rfl, rfl⟩ | ⟨rfl, rfl⟩
      · exact .inl ⟨rfl, rfl⟩
      · exact .inr ⟨rfl, rfl⟩
  clear m m' k k'
  cases sh <;> cases sh' <;> cases od <;> cases od' <;>
  · go_enter Try.func122, Try.ntmps122
    go_wp2
    go_end0
    exact ⟨rfl, HC.out _ _, HW.out _ _ HD.out⟩

/-- What the end tells. -/
def endA (s : St) : Int := match s with
  | none => 50
  | some (xs, o) => if xs ≠ [] then 50 else if o then 47 else 0
set_option maxHeartbeats 800000 in
theorem dend_any (r : Nat) (s : St) (w : World) (h : DS w r s) : Calls Try.prog 106 #[.pointer (some ⟨r, 0, none⟩)] w fun e w' => e = .returned (.int .i64 (endA s)) ∧ w' = w := by
  obtain ⟨v, sh, od, xs, m, k⟩ := h
  obtain ⟨ao, N, c, rfl, hN, hc, hm⟩ := m.rd.shape
  obtain ⟨z0, z1, z2, f0, f1, f2⟩ := m.facts
  rcases k with ⟨rfl, rfl⟩ | ⟨rfl, rfl⟩
  · clear m hN hc hm
    go_enter Try.func106, Try.ntmps106
    go_wp2
    go_ret
    exact ⟨rfl, rfl⟩
  · by_cases hz : N = 0
    · subst hz
      have hx : xs = [] := List.eq_nil_of_length_eq_zero hN.symm
      subst hx
      clear m hN hc hm
      cases od <;>
      · go_enter Try.func106, Try.ntmps106
        go_wp2
        go_ret
        exact ⟨rfl, rfl⟩
    · have hx : xs ≠ [] := by intro e; subst e; exact hz hN
      have HE : Hid (endA (some (xs, od)) = 50) := by show (if xs ≠ [] then (50 : Int) else _) = 50; rw [if_pos hx]
      have d0 : decide (0 < N) = true := by simp; omega
      rw [HE.out]
      clear m hN hc hm hx hz
      go_enter Try.func106, Try.ntmps106
      go_wp2
      go_ret
      exact ⟨rfl, rfl⟩
end Go.Proofs.Ytdhckndehijemaa
