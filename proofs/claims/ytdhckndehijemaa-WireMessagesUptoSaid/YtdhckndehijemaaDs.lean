/-
  The document's reader: where its bytes lie does not change.
-/
import Derived.Test.YtdhckndehijemaaDg
namespace Go.Proofs.Ytdhckndehijemaa
open Go.RowKit
set_option linter.unusedVariables false
set_option maxRecDepth 100000

/-- A reader's bytes lie where they lay, or nowhere. -/
def SameB (w w' : World) (r : Nat) : Prop := ∀ v sh od v' sh' od', w.heap[r]? = some (.cells #[v, .bool sh, .bool od] 124) → w'.heap[r]? = some (.cells #[v', .bool sh', .bool od'] 124) → v'.ownBlock = v.ownBlock ∨ v'.ownBlock = none
theorem cells_inj {a b : Value} {sh sh' od od' : Bool} {o : Option Obj} (h : o = some (.cells #[a, .bool sh, .bool od] 124)) (k : o = some (.cells #[b, .bool sh', .bool od'] 124)) : a = b := by
  rw [h] at k
  injection k with k
  injection k with k _
  have := congrArg (fun x => x[0]?) k
  simpa using this
theorem DM.same {w w' : World} {r : Nat} {v v' : Value} {sh od sh' od' : Bool} {xs xs' : List Int} (h : DM w r v sh od xs) (k : DM w' r v' sh' od' xs') (e : v'.ownBlock = v.ownBlock ∨ v'.ownBlock = none) : SameB w w' r := by
  intro a _ _ b _ _ h1 h2
  have e1 := cells_inj h.blk h1
  have e2 := cells_inj k.blk h2
  rw [← e1, ← e2]
  exact e
theorem SameB.trans {a b c : World} {r : Nat} {s : St} (h : SameB a b r) (k : SameB b c r) (m : DS b r s) : SameB a c r := by
  obtain ⟨v, sh, od, xs, m, -⟩ := m
  intro x _ _ y _ _ h1 h2
  rcases k _ _ _ _ _ _ m.blk h2 with k | k
  · rcases h _ _ _ _ _ _ h1 m.blk with h | h
    · exact .inl (k.trans h)
    · exact .inr (k.trans h)
  · exact .inr k
theorem SameB.refl {w : World} {r : Nat} {s : St} (h : DS w r s) : SameB w w r := by
  obtain ⟨v, sh, od, xs, m, -⟩ := h
  exact m.same m (.inl rfl)
theorem SameB.short {w w' : World} {r : Nat} {v : Value} {sh od : Bool} {xs : List Int} (b : Bool) (h : DM w r v sh od xs) : SameB w (w.setCell ⟨r, 1, none⟩ (.bool b)) r := h.same (h.short b) (.inl rfl)
/-- A reader stays beside a block in which its bytes don't lie. -/
theorem DS.keepG {w w' : World} {r g : Nat} {s : St} (h : DS w r s) (c : Chg (One g) w w') (hg : r ≠ g) (hown : ∀ v sh od, w.heap[r]? = some (.cells #[v, .bool sh, .bool od] 124) → ∀ k, v.ownBlock = some k → k ≠ g) : DS w' r s := by
  obtain ⟨v, sh, od, xs, m, k⟩ := h
  have h1 := hown _ _ _ m.blk
  exact ⟨v, sh, od, xs, ⟨by rw [c.block r m.lt hg]; exact m.blk, m.rd.keep (fun i e hi => c.block i hi (h1 i e)), m.byt, m.own⟩, k⟩

set_option maxHeartbeats 1600000 in
theorem dtakeS_any (r n : Nat) (hn : n ≤ 140737488355328) (s : St) (w : World) (h : DS w r s) :
    Calls Try.prog 190 #[.pointer (some ⟨r, 0, none⟩), .int .i64 n] w fun e w' => ∃ ao L c ys, e = .returned (.slice ao L c) ∧ TK (pTake n) w w' r s (.slice ao L c) ys ∧ ys.length ≤ n ∧ L = ys.length ∧ SameB w w' r := by
  obtain ⟨v, sh, od, xs, m, k⟩ := h
  obtain ⟨ao, N, c, rfl, hN, hc, hm⟩ := m.rd.shape
  have hm' : c ≤ 9223372036854775807 := by simpa [maxLen] using hm
  have M : Hid (DM w r (.slice ao N c) sh od xs) := m
  have HN : Hid (N = xs.length) := hN
  obtain ⟨z0, z1, z2, f0, f1, f2⟩ := m.facts
  have HR : Hid (r < w.heap.size) := m.lt
  cases sh with
  | true =>
    have hs : s = none := by
      rcases k with ⟨h, -⟩ | ⟨-, h⟩
      · exact h
      · cases h
    subst hs
    clear m k hN hc hm hm'
    go_enter Try.func190, Try.ntmps190
    go_wp2
    go_ret
    exact ⟨none, 0, 0, [], rfl, ⟨⟨Rd.nil _, Byt.nil, fun k e => by cases e⟩, chg_rest _ _ _ _, none, DS.of (M.out.short true) (.inl ⟨rfl, rfl⟩), rfl⟩, by simp, rfl, SameB.short (w' := w) true M.out⟩
  | false =>
    have hs : s = some (xs, od) := by
      rcases k with ⟨-, h⟩ | ⟨h, -⟩
      · cases h
      · exact h
    subst hs
    by_cases hlt : N < n
    · have d1 : decide ((n : Int) > (N : Int)) = true := by simp; omega
      have HL : Hid (N < n) := hlt
      clear m k hN hc hm hm' hlt
      go_enter Try.func190, Try.ntmps190
      go_wp2
      go_ret
      refine ⟨none, 0, 0, [], rfl, ⟨⟨Rd.nil _, Byt.nil, fun k e => by cases e⟩, chg_rest _ _ _ _, none, DS.of (M.out.short true) (.inl ⟨rfl, rfl⟩), ?_⟩, by simp, rfl, SameB.short (w' := w) true M.out⟩
      unfold Res pTake
      dsimp only
      rw [if_pos (by rw [← HN.out]; exact HL.out)]
    · have d1 : decide ((n : Int) > (N : Int)) = false := by simp; omega
      have HL : Hid (n ≤ N) := by show _ ≤ _; omega
      have hlt' : n ≤ N := by omega
      have HRD : Hid (Rd (w.alloc (.cells #[] 5)) (.slice ao n c) (xs.take n)) := (Rd.takeN m.rd HL.out).keep (fun k e hk => ((Chg.refl Non w).alloc _).block k hk (fun q => q))
      have HLE : Hid (([] : List Int).length + (xs.take n).length ≤ 140737488355328) := by show _ ≤ _; simp; omega
      have hres : Res (pTake n) (some (xs, od)) (xs.take n) (some (xs.drop n, od)) := by
        unfold Res pTake
        dsimp only
        rw [if_neg (by have := HN.out; omega)]
        exact ⟨rfl, by simp⟩
      have HRES : Hid (Res (pTake n) (some (xs, od)) (xs.take n) (some (xs.drop n, od))) := hres
      have HTL : Hid ((xs.take n).length ≤ n ∧ (xs.take n).length = n) := ⟨by simp; omega, by rw [List.length_take]; have := HN.out; have := HL.out; omega⟩
      obtain ⟨z0', z1', z2', f0', f1', f2'⟩ := (M.out.non ((Chg.refl Non w).alloc (.cells #[] 5))).facts
      clear m k hN hlt hm hres
      cases ao with
      | none =>
        go_enter Try.func190, Try.ntmps190
        go_wp2_with (at_builtin; refine wpList_app _ rfl (.tmp 22) (.tmp 28) rfl _ _ [] (xs.take n) rfl rfl (OwnV.empty w) (HRD.out) (HLE.out) ?_)
        intro v5 w5 j1 j2 j3
        have H5 : Hid (OwnN w w5 v5 (xs.take n)) := (OwnN.start w w (Chg.refl _ _)).more j1 j2 (by rw [World.size_alloc]; exact j3)
        obtain ⟨a5, n5, c5, rfl, hn5, -, -⟩ := j1.rd.shape
        have M5 : Hid (DM w5 r (.slice none N c) false od xs) := M.out.non H5.out.chg
        have HN5 : Hid (n5 = (xs.take n).length) := hn5
        clear z0 z1 z2 f0 f1 f2 z0' z1' z2' f0' f1' f2' j1 j2 j3 hn5
        obtain ⟨z0, z1, z2, f0, f1, f2⟩ := M5.out.facts
        go_wp2_with fail
        go_ret
        have cs := chg_rest w5 r 0 (Value.slice none (N - n) (c - n))
        refine ⟨a5, n5, c5, xs.take n, rfl, ⟨⟨?_, M5.out.byt.take _, fun k e => ⟨H5.out.new k e, by have := H5.out.own.lt k e; have := cs.size; omega⟩⟩, (H5.out.chg.non _).one cs, _, DS.of (M5.out.rest (Rd.dropNone M5.out.rd HL.out) (M5.out.byt.drop n) (fun k e => by cases e)) (.inr ⟨rfl, rfl⟩), HRES.out⟩, HTL.out.1, HN5.out, M.out.same (M5.out.rest (Rd.dropNone M5.out.rd HL.out) (M5.out.byt.drop n) (fun k e => by cases e)) (.inr rfl)⟩
        exact H5.out.rd.keep (fun k e hk => cs.block k hk (fun q => by have q' : k = r := q; have := H5.out.new k e; have := HR.out; omega))
      | some x =>
        go_enter Try.func190, Try.ntmps190
        go_wp2_with (at_builtin; refine wpList_app _ rfl (.tmp 22) (.tmp 28) rfl _ _ [] (xs.take n) rfl rfl (OwnV.empty w) (HRD.out) (HLE.out) ?_)
        intro v5 w5 j1 j2 j3
        have H5 : Hid (OwnN w w5 v5 (xs.take n)) := (OwnN.start w w (Chg.refl _ _)).more j1 j2 (by rw [World.size_alloc]; exact j3)
        obtain ⟨a5, n5, c5, rfl, hn5, -, -⟩ := j1.rd.shape
        have M5 : Hid (DM w5 r (.slice (some x) N c) false od xs) := M.out.non H5.out.chg
        have HN5 : Hid (n5 = (xs.take n).length) := hn5
        clear z0 z1 z2 f0 f1 f2 z0' z1' z2' f0' f1' f2' j1 j2 j3 hn5
        obtain ⟨z0, z1, z2, f0, f1, f2⟩ := M5.out.facts
        go_wp2_with fail
        · subst h
          go_ret
          refine ⟨a5, n5, c5, rfl, _, ⟨⟨?_, M5.out.byt.take _, fun k e => ⟨H5.out.new k e, by have := H5.out.own.lt k e; have := (chg_rest w5 r 0 (Value.slice (some x) (N - c) 0)).size; exact Nat.lt_of_lt_of_le (H5.out.own.lt k e) (chg_rest _ _ _ _).size⟩⟩, (H5.out.chg.non _).one (chg_rest _ _ _ _), _, DS.of (M5.out.rest (Rd.dropAll M5.out.rd HL.out rfl) (M5.out.byt.drop _) M5.out.own) (.inr ⟨rfl, rfl⟩), HRES.out⟩, HTL.out.1, HN5.out, M.out.same (M5.out.rest (Rd.dropAll M5.out.rd HL.out rfl) (M5.out.byt.drop _) M5.out.own) (.inl rfl)⟩
          exact H5.out.rd.keep (fun k e hk => (chg_rest _ _ _ _).block k hk (fun q => by have q' : k = r := q; have := H5.out.new k e; have := HR.out; omega))
        · go_ret
          have cs := chg_rest w5 r 0 (Value.slice (some (x.add n)) (N - n) (c - n))
          refine ⟨a5, n5, c5, rfl, xs.take n, ⟨⟨?_, M5.out.byt.take _, fun k e => ⟨H5.out.new k e, by have := H5.out.own.lt k e; have := cs.size; omega⟩⟩, (H5.out.chg.non _).one (chg_rest _ _ _ _), _, DS.of (M5.out.rest (Rd.dropN M5.out.rd HL.out) (M5.out.byt.drop n) (fun k e => M5.out.own k (by rw [← e]; simp [Value.ownBlock, add_block]))) (.inr ⟨rfl, rfl⟩), HRES.out⟩, HTL.out.1, HN5.out, M.out.same (M5.out.rest (Rd.dropN M5.out.rd HL.out) (M5.out.byt.drop n) (fun k e => M5.out.own k (by rw [← e]; simp [Value.ownBlock, add_block]))) (.inl (by simp [Value.ownBlock, add_block]))⟩
          exact H5.out.rd.keep (fun k e hk => (chg_rest _ _ _ _).block k hk (fun q => by have q' : k = r := q; have := H5.out.new k e; have := HR.out; omega))
set_option maxHeartbeats 1600000 in
theorem dnumberS_any (r n : Nat) (hn : n ≤ 4) (s : St) (w : World) (h : DS w r s) :
    Calls Try.prog 127 #[.pointer (some ⟨r, 0, none⟩), .int .i64 n] w fun e w' => ∃ x, e = .returned (.int .i64 x) ∧ DN n w w' r s x ∧ SameB w w' r := by
  have ht := dtakeS_any r n (by omega) s w h
  clear h
  have HN : Hid (n ≤ 4) := hn
  go_enter Try.func127, Try.ntmps127
  go_wp2_with (go_at_call 190; refine ht.mono ?_)
  rintro e w1 ⟨ao, L, c, ys, rfl, hk, hl, hL, hsb⟩
  have HSB9 : Hid (SameB w w1 r) := hsb
  clear hsb
  obtain ⟨bo, N, c', e', m1⟩ := hk.dp.rel.ofByt.lies (by decide)
  injection e' with e1 e2 e3
  subst e1; subst e2; subst e3
  have HK : Hid (TK (pTake n) w w1 r s (.slice ao L c) ys ∧ ys.length ≤ n ∧ L = ys.length ∧ L ≤ 4) := ⟨hk, hl, hL, by omega⟩
  have HA : Hid (∀ (j : Nat) (a : Int), ys[j]? = some a → ∃ b o us', ao = some ⟨b, o, none⟩ ∧ Rel (.num .u8) (Btw w.heap.size w1.heap.size) w1 us' a ∧ ∀ i u, us'[i]? = some u → w1.cell? ⟨b, o + j * 1 + i, none⟩ = some u) := m1.els
  have hL4 : L ≤ 4 := by omega
  clear hk hl hL ht m1 hn
  go_wp2_with fail
  go_loopw [6, 7] (fun v i wr => ∃ k : Nat, k ≤ L ∧ i = .int .i64 k ∧ v = .int .i64 (dig (ys.take k)) ∧ wr = w1) (fun v i _ => L - (intOf i).toNat)
  case atStart => exact ⟨0, Nat.zero_le _, rfl, rfl, rfl⟩
  case round =>
    obtain ⟨k, hk, rfl, rfl, rfl⟩ := hrel
    by_cases hlt : k < L
    · obtain ⟨u, hu⟩ : ∃ u, ys[k]? = some u := ⟨ys[k]'(by rw [← HK.out.2.2.1]; exact hlt), List.getElem?_eq_getElem _⟩
      obtain ⟨b1, o1, us1, rfl, r1, r2⟩ := HA.out k u hu
      obtain ⟨rfl, -⟩ := r1
      have y1 : wr.cell? ⟨b1, o1 + k, none⟩ = some (.int .u8 u) := by simpa using r2 0 _ rfl
      have hb : Byt ys := by obtain ⟨-, b, -⟩ := HK.out.1.bt; exact b
      obtain ⟨u0, u1⟩ := hb u (List.mem_of_getElem? hu)
      obtain ⟨d0, d1⟩ := dig_mono (hb.take k) (n := 3) (by rw [List.length_take]; omega)
      have e256 : (256 : Int) ^ 3 = 16777216 := rfl
      rw [e256] at d1
      obtain ⟨D, hD⟩ : ∃ D, D = dig (ys.take k) := ⟨_, rfl⟩
      rw [← hD] at d0 d1
      have HD : Hid (dig (ys.take (k + 1)) = 256 * D + u) := by show _ = _; rw [dig_take_succ hu, hD]; omega
      rw [← hD]
      have hw1 : IntKind.i64.wrap (256 * D) = 256 * D := by rw [IntKind.wrap_i64]; omega
      have hw2 : IntKind.i64.wrap (256 * D + u) = 256 * D + u := by rw [IntKind.wrap_i64]; omega
      have hw3 : IntKind.i64.wrap u = u := by rw [IntKind.wrap_i64]; omega
      have HLT : Hid (k + 1 ≤ L) := hlt
      clear hu r2 hb hD
      go_wp2
      go_roundw
      case rel => exact ⟨k + 1, HLT.out, by go_num, by rw [HD.out], trivial⟩
      case measure => simp [intOf]; omega
    · have hkL : k = L := by omega
      subst hkL
      have HE : Hid (ys.take k = ys) := List.take_of_length_le (by have := HK.out.2.2.1; omega)
      go_wp2
      go_ret
      have hb : Byt ys := by obtain ⟨-, b, -⟩ := HK.out.1.bt; exact b
      obtain ⟨s', q1, q2⟩ := HK.out.1.ps.st
      obtain ⟨d0, d1⟩ := dig_mono hb HK.out.2.1
      exact ⟨dig ys, by rw [HE.out]; rfl, ⟨⟨HK.out.1.ps.chg, s', q1, res_dig q2⟩, d0, d1⟩, HSB9.out⟩


set_option maxHeartbeats 1600000 in
theorem dlistS_any (r n least most most' : Nat) (hn : n ≤ 3) (a b c : Int) (ha : a = n) (hb : b = least) (hc : c = most) (hm : ∀ L : Nat, L < 256 ^ n → L ≤ most ∧ L ≤ most') (s : St) (w : World) (h : DS w r s) :
    Calls Try.prog 119 #[.pointer (some ⟨r, 0, none⟩), .int .i64 a, .int .i64 b, .int .i64 c] w fun e w' => ∃ ao L c ys, e = .returned (.slice ao L c) ∧ TK (pBytes n least most') w w' r s (.slice ao L c) ys ∧ ys.length ≤ 16777216 ∧ L = ys.length ∧ SameB w w' r := by
  subst ha hb hc
  have hd := dnumberS_any r n (by omega) s w h
  have HM : Hid ((∀ L : Nat, L < 256 ^ n → L ≤ most ∧ L ≤ most') ∧ n ≤ 3) := ⟨hm, hn⟩
  have HSB : Hid (∀ xs o, s = some (xs, o) → Byt xs) := fun xs o e => DB.byt h e
  clear h hm hn
  go_enter Try.func119, Try.ntmps119
  go_wp2_with (go_at_call 127; refine hd.mono ?_)
  rintro e w1 ⟨x, rfl, hx, hsb⟩
  have HSB1 : Hid (SameB w w1 r) := hsb
  clear hsb
  obtain ⟨k, rfl⟩ : ∃ k : Nat, x = k := ⟨x.toNat, by have := hx.lo; omega⟩
  obtain ⟨s1, q1, q2⟩ := hx.ps.st
  have hk : k < 16777216 := by
    have h1 := hx.hi
    have h2 : (256 : Nat) ^ n ≤ 256 ^ 3 := Nat.pow_le_pow_right (by decide) HM.out.2
    have h3 : ((256 : Int) ^ n) = ((256 ^ n : Nat) : Int) := by norm_cast
    rw [h3] at h1
    have h4 : (256 : Nat) ^ 3 = 16777216 := by decide
    omega
  have H1 : Hid (Chg (One r) w w1 ∧ Res (pDig n) s (k : Int) s1 ∧ k < 16777216) := ⟨hx.ps.chg, q2, hk⟩
  have HS1 : Hid (DS w1 r s1) := q1
  have HFIN : Hid (∀ ys s2, Res (pRaw n least most) s ys s2 → Res (pBytes n least most') s ys s2) := fun ys s2 hr => hr.congr fun xs o e => raw_bytes HM.out.1 (HSB.out xs o e)
  clear hx q1 q2 hd
  by_cases hg : least ≤ k ∧ k ≤ most
  · have d1 : decide (k < least) = false := by simp; omega
    have d2 : decide (most < k) = false := by simp; omega
    have HG : Hid (least ≤ k ∧ k ≤ most) := hg
    have ht := dtakeS_any r k (by omega) s1 w1 HS1.out
    clear hg hk
    go_wp2_with (go_at_call 190; refine ht.mono ?_)
    rintro e w2 ⟨ao, L, c, ys, rfl, hq, hl, hL, hsb⟩
    have HSB2 : Hid (SameB _ w2 r) := hsb
    clear hsb
    have HQ : Hid (TK (pTake k) w1 w2 r s1 (.slice ao L c) ys ∧ ys.length ≤ k ∧ L = ys.length) := ⟨hq, hl, hL⟩
    clear hq hl hL ht
    go_wp2
    go_ret
    obtain ⟨s2, q1, q2⟩ := HQ.out.1.ps.st
    refine ⟨ao, L, c, ys, rfl, ⟨⟨HQ.out.1.bt.1, HQ.out.1.bt.2.1, fun i e => ⟨Nat.le_trans H1.out.1.size (HQ.out.1.bt.2.2 i e).1, (HQ.out.1.bt.2.2 i e).2⟩⟩, H1.out.1.one HQ.out.1.ps.chg, s2, q1, HFIN.out _ _ (H1.out.2.1.bind ?_)⟩, by have := HQ.out.2.1; have := H1.out.2.2; omega, HQ.out.2.2, HSB1.out.trans HSB2.out HS1.out⟩
    rw [Int.toNat_natCast, if_pos HG.out]
    exact q2
  · have HG : Hid (¬ (least ≤ k ∧ k ≤ most)) := hg
    obtain ⟨v, sh, od, zs, m, kb⟩ := HS1.out
    have m2 := m.short true
    have ht := dtakeS_any r k (by omega) none (w1.setCell ⟨r, 1, none⟩ (.bool true)) (DS.of m2 (.inl ⟨rfl, rfl⟩))
    have C2 : Hid (Chg (One r) w1 (w1.setCell ⟨r, 1, none⟩ (.bool true))) := chg_rest _ _ _ _
    have HSBM : Hid (SameB w1 (w1.setCell ⟨r, 1, none⟩ (.bool true)) r) := SameB.short (w' := w1) true m
    have HDM : Hid (DS (w1.setCell ⟨r, 1, none⟩ (.bool true)) r none) := DS.of m2 (.inl ⟨rfl, rfl⟩)
    obtain ⟨z0, z1, z2, f0, f1, f2⟩ := m.facts
    clear m kb m2 hk
    by_cases h1 : k < least
    · have d1 : decide (k < least) = true := by simp; omega
      clear hg h1
      go_wp2_with (go_at_call 190; refine ht.mono ?_)
      rintro e w2 ⟨ao, L, c, ys, rfl, hq, hl, hL, hsb⟩
      have HSB2 : Hid (SameB _ w2 r) := hsb
      clear hsb
      have HQ : Hid (TK (pTake k) (w1.setCell ⟨r, 1, none⟩ (.bool true)) w2 r none (.slice ao L c) ys ∧ ys.length ≤ k ∧ L = ys.length) := ⟨hq, hl, hL⟩
      clear hq hl hL ht z0 z1 z2 f0 f1 f2
      go_wp2
      go_ret
      obtain ⟨s2, q1, q2⟩ := HQ.out.1.ps.st
      obtain rfl : s2 = none := q2
      refine ⟨ao, L, c, ys, rfl, ⟨⟨HQ.out.1.bt.1, HQ.out.1.bt.2.1, fun i e => ⟨Nat.le_trans (H1.out.1.one C2.out).size (HQ.out.1.bt.2.2 i e).1, (HQ.out.1.bt.2.2 i e).2⟩⟩, (H1.out.1.one C2.out).one HQ.out.1.ps.chg, none, q1, HFIN.out _ _ (H1.out.2.1.bind ?_)⟩, by have := HQ.out.2.1; have := H1.out.2.2; omega, HQ.out.2.2, HSB1.out.trans (HSBM.out.trans HSB2.out HDM.out) HS1.out⟩
      rw [Int.toNat_natCast, if_neg HG.out]
      cases s1 with
      | none => rfl
      | some z => rfl
    · have d1 : decide (k < least) = false := by simp; omega
      have d2 : decide (most < k) = true := by simp; omega
      clear hg h1
      go_wp2_with (go_at_call 190; refine ht.mono ?_)
      rintro e w2 ⟨ao, L, c, ys, rfl, hq, hl, hL, hsb⟩
      have HSB2 : Hid (SameB _ w2 r) := hsb
      clear hsb
      have HQ : Hid (TK (pTake k) (w1.setCell ⟨r, 1, none⟩ (.bool true)) w2 r none (.slice ao L c) ys ∧ ys.length ≤ k ∧ L = ys.length) := ⟨hq, hl, hL⟩
      clear hq hl hL ht z0 z1 z2 f0 f1 f2
      go_wp2
      go_ret
      obtain ⟨s2, q1, q2⟩ := HQ.out.1.ps.st
      obtain rfl : s2 = none := q2
      refine ⟨ao, L, c, ys, rfl, ⟨⟨HQ.out.1.bt.1, HQ.out.1.bt.2.1, fun i e => ⟨Nat.le_trans (H1.out.1.one C2.out).size (HQ.out.1.bt.2.2 i e).1, (HQ.out.1.bt.2.2 i e).2⟩⟩, (H1.out.1.one C2.out).one HQ.out.1.ps.chg, none, q1, HFIN.out _ _ (H1.out.2.1.bind ?_)⟩, by have := HQ.out.2.1; have := H1.out.2.2; omega, HQ.out.2.2, HSB1.out.trans (HSBM.out.trans HSB2.out HDM.out) HS1.out⟩
      rw [Int.toNat_natCast, if_neg HG.out]
      cases s1 with
      | none => rfl
      | some z => rfl

set_option maxHeartbeats 1600000 in
theorem dpartS_any (r n least most most' : Nat) (hn : n ≤ 3) (a b c : Int) (ha : a = n) (hb : b = least) (hc : c = most) (hm : ∀ L : Nat, L < 256 ^ n → L ≤ most ∧ L ≤ most') (s : St) (w : World) (h : DS w r s) :
    Calls Try.prog 120 #[.pointer (some ⟨r, 0, none⟩), .int .i64 a, .int .i64 b, .int .i64 c] w fun e w' => ∃ P s1 body, e = .returned (.pointer (some ⟨P, 0, none⟩)) ∧ PT n least most' w w' r P s s1 body ∧ ∀ v sh od, w'.heap[P]? = some (.cells #[v, .bool sh, .bool od] 124) → ∀ k, v.ownBlock = some k → w.heap.size ≤ k := by
  have hd := dlist_any r n least most most' hn a b c ha hb hc hm s w h
  have HR : Hid (r < w.heap.size) := h.lt
  clear h hm ha hb hc hn
  go_enter Try.func120, Try.ntmps120
  go_wp2_with (go_at_call 119; refine hd.mono ?_)
  rintro e w1 ⟨ao, L, c', ys, rfl, hq, hl, hL⟩
  obtain ⟨s1, q1, q2⟩ := hq.ps.st
  obtain ⟨v, sh, od, zs, m, kb⟩ := q1
  obtain ⟨z0, z1, z2, f0, f1, f2⟩ := m.facts
  have HQ : Hid (TK (pBytes n least most') w w1 r s (.slice ao L c') ys ∧ Res (pBytes n least most') s ys s1 ∧ DM w1 r v sh od zs ∧ DB s1 zs sh od ∧ ys.length ≤ 16777216) := ⟨hq, q2, m, kb, hl⟩
  clear hq hl hL hd q2 m kb
  go_wp2
  go_ret
  have cA : Chg Non w1 (w1.alloc (.cells #[.slice ao L c', .bool sh, .bool false] 124)) := (Chg.refl _ _).alloc _
  refine ⟨w1.heap.size, s1, ys, rfl, ⟨(HQ.out.1.ps.chg).trans cA (fun _ _ q => q.elim), DS.of (HQ.out.2.2.1.non cA) HQ.out.2.2.2.1, HQ.out.2.1, ?_, HQ.out.1.ps.chg.size, HQ.out.2.2.2.2⟩, fun v2 sh2 od2 hv k e => ?_⟩
  rotate_left
  · have e1 := cells_inj (heap_alloc_last w1 (.cells #[.slice ao L c', .bool sh, .bool false] 124)) hv
    rw [← e1] at e
    exact (HQ.out.1.bt.2.2 k e).1
  refine DS.of (v := .slice ao L c') (sh := sh) (od := false) (xs := ys) ⟨heap_alloc_last w1 _, HQ.out.1.bt.1.keep (fun k e hk => cA.block k hk (fun q => q)), HQ.out.1.bt.2.1, fun k e => (HQ.out.1.bt.2.2 k e).2⟩ ?_
  rcases HQ.out.2.2.2.1 with ⟨rfl, rfl⟩ | ⟨rfl, rfl⟩
  · exact .inl ⟨rfl, rfl⟩
  · exact .inr ⟨rfl, rfl⟩

end Go.Proofs.Ytdhckndehijemaa
