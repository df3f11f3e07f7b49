/-
  A row of tickets beside a reader of binders; the document's two lists, plainly.
-/
import Derived.Test.YtdhckndehijemaaPq
import Derived.Test.YtdhckndehijemaaDh
import Derived.Test.YtdhckndehijemaaDs
namespace Go.Proofs.Ytdhckndehijemaa
open Go.RowKit
set_option linter.unusedVariables false
set_option maxRecDepth 100000

theorem zipB_over : ∀ (ts : List PSK) (bs cs : List (List Int)), ts.length ≤ bs.length → zipB ts (bs ++ cs) = zipB ts bs
  | [], _, _, _ => by simp [zipB]
  | p :: ps, [], _, h => by simp at h
  | p :: ps, b :: bs, cs, h => by
    simp only [List.cons_append, zipB]
    rw [zipB_over ps bs cs (by simpa using h)]

/-- A row of tickets of which nothing lies in Q. -/
structure LG (b0 Q : Nat) (w : World) (va : Value) (cs : List (List Value)) (l : List tPSK.Dat) : Prop where
  row : w.ownsRow b0 200 3 va l.length cs.flatten
  len : cs.length = l.length
  els : ∀ (j : Nat) (us : List Value) (a : tPSK.Dat), cs[j]? = some us → l[j]? = some a → Rel tPSK (fun k => b0 ≤ k ∧ k < w.heap.size ∧ k ≠ Q ∧ ¬ va.ownBlock = some k) w us a
theorem LG.lr {b0 Q : Nat} {w : World} {va : Value} {cs : List (List Value)} {l : List tPSK.Dat} (h : LG b0 Q w va cs l) : LR tPSK 200 b0 w va cs l :=
  ⟨h.row, h.len, fun j us a h1 h2 => (h.els j us a h1 h2).keep (fun k q => ⟨q.1, q.2.1, q.2.2.2⟩) (fun _ _ _ => rfl)⟩
theorem LG.of {b0 Q : Nat} {w : World} {va : Value} {cs : List (List Value)} {l : List tPSK.Dat} (h : LR tPSK 200 b0 w va cs l) (hQ : w.heap.size ≤ Q) : LG b0 Q w va cs l :=
  ⟨h.row, h.len, fun j us a h1 h2 => (h.els j us a h1 h2).keep (fun k q => ⟨q.1, q.2.1, by omega, q.2.2⟩) (fun _ _ _ => rfl)⟩
theorem LG.keep {S : Nat → Prop} {b0 Q : Nat} {w w' : World} {va : Value} {cs : List (List Value)} {l : List tPSK.Dat} (h : LG b0 Q w va cs l) (c : Chg S w w') (hS : ∀ k, S k → k < b0 ∨ k = Q) (hQ : ¬ va.ownBlock = some Q) : LG b0 Q w' va cs l := by
  refine ⟨row_same h.row fun k e => ?_, h.len, fun j us a h1 h2 => (h.els j us a h1 h2).keep (fun k q => ⟨q.1, Nat.lt_of_lt_of_le q.2.1 c.size, q.2.2⟩) (fun k q hk => ?_)⟩
  · obtain ⟨q1, q2⟩ := h.lr.blk k e
    refine c.block k q2 (fun s => ?_)
    rcases hS k s with s | s
    · omega
    · subst s; exact hQ e
  · refine c.block k hk (fun s => ?_)
    rcases hS k s with s | s
    · have := q.1; omega
    · exact q.2.2.1 s

theorem LG.setB {b0 Q g n cap : Nat} {w : World} {cs : List (List Value)} {l : List tPSK.Dat} (h : LG b0 Q w (.slice (some ⟨g, 0, none⟩) n cap) cs l) {k : Nat} {x : tPSK.Dat} (hk : l[k]? = some x) {u : Value} {b : List Int} (hu : Rel .byt (fun i => b0 ≤ i ∧ i < w.heap.size ∧ i ≠ Q ∧ ¬ i = g) w [u] b) :
    (∃ cs', LG b0 Q (w.setCell ⟨g, k * 3 + 2, none⟩ u) (.slice (some ⟨g, 0, none⟩) n cap) cs' (l.set k (wb x b))) ∧ w.frozen? ⟨g, k * 3 + 2, none⟩ = false ∧ (∃ old, w.cell? ⟨g, k * 3 + 2, none⟩ = some old) ∧ Chg (One g) w (w.setCell ⟨g, k * 3 + 2, none⟩ u) := by
  have hklt : k < l.length := (List.getElem?_eq_some_iff.1 hk).1
  obtain ⟨us, hus⟩ : ∃ us, cs[k]? = some us := ⟨cs[k]'(by rw [h.len]; exact hklt), List.getElem?_eq_getElem _⟩
  have hrel := h.els k us x hus hk
  have hl3 : ∀ us ∈ cs, us.length = 3 := by
    intro us' hu'
    obtain ⟨j, hj, rfl⟩ := List.getElem_of_mem hu'
    exact (h.els j _ (l[j]'(by rw [← h.len]; exact hj)) (List.getElem?_eq_getElem hj) (List.getElem?_eq_getElem _)).len
  have hc := chg_rest w g (k * 3 + 2) u
  obtain rfl : n = l.length := by
    obtain ⟨a, b, e⟩ := ownsRow_any h.row
    injection e
  have hst := h.row.stored (k * 3 + 2) u
  obtain ⟨us1, us2, rfl, r1, us3, us4, rfl, r2, r3⟩ := hrel
  obtain ⟨v1, rfl, -⟩ := r1
  obtain ⟨rfl, -⟩ := r2
  obtain ⟨v3, rfl, -⟩ := r3
  have hF : ∀ i, (b0 ≤ i ∧ i < w.heap.size ∧ i ≠ Q ∧ ¬ (Value.slice (some ⟨g, 0, none⟩) l.length cap).ownBlock = some i) → (b0 ≤ i ∧ i < (w.setCell ⟨g, k * 3 + 2, none⟩ u).heap.size ∧ i ≠ Q ∧ ¬ (Value.slice (some ⟨g, 0, none⟩) l.length cap).ownBlock = some i) := fun i q => ⟨q.1, Nat.lt_of_lt_of_le q.2.1 hc.size, q.2.2⟩
  have hK : ∀ i, (b0 ≤ i ∧ i < w.heap.size ∧ i ≠ Q ∧ ¬ (Value.slice (some ⟨g, 0, none⟩) l.length cap).ownBlock = some i) → i < w.heap.size → (w.setCell ⟨g, k * 3 + 2, none⟩ u).heap[i]? = w.heap[i]? := fun i q hi => hc.block i hi (fun e => q.2.2.2 (by have e' : i = g := e; rw [e']; rfl))
  refine ⟨⟨cs.set k [v1, .int .u32 x.2.1, u], ⟨?_, ?_, ?_⟩⟩, h.row.frozenAt _, ?_, hc⟩
  · have := hst.1
    rw [flat_set hl3 k 2 _ hus (by decide)] at this
    rw [List.length_set]
    exact this
  · rw [List.length_set, List.length_set]; exact h.len
  · intro j us a hj ha
    by_cases hjk : j = k
    · subst hjk
      rw [List.getElem?_set_self (by rw [h.len]; exact hklt)] at hj
      rw [List.getElem?_set_self hklt] at ha
      injection hj with hj
      injection ha with ha
      subst hj; subst ha
      have hr := h.els j _ x hus hk
      obtain ⟨us1, us2, e1, r1, us3, us4, e2, r2, r3⟩ := hr
      obtain ⟨q1, rfl, -⟩ := id r1
      obtain ⟨rfl, -⟩ := id r2
      injection e1 with e1 e3
      subst e1
      refine ⟨[v1], [.int .u32 x.2.1, u], rfl, r1.keep hF hK, [.int .u32 x.2.1], [u], rfl, r2.keep hF hK, ?_⟩
      refine hu.keep (fun i q => ⟨q.1, Nat.lt_of_lt_of_le q.2.1 hc.size, q.2.2.1, fun e => q.2.2.2 (by injection e with e; exact e.symm)⟩) (fun i q hi => hc.block i hi (fun e => q.2.2.2 e))
    · rw [List.getElem?_set_ne (fun e => hjk e.symm)] at hj ha
      exact (h.els j us a hj ha).keep hF hK
  · obtain ⟨b', o', c', e', -, -, -, q⟩ := h.lr.rel.at (N := l.length) rfl (by omega) (by decide)
    injection e' with e1 _ _
    injection e1 with e1
    injection e1 with e1 e4
    subst e1; subst e4
    obtain ⟨us', p1, p2⟩ := q k x hk
    have p3 := p1.len
    have p4 : us'[2]? = some (us'[2]'(by rw [p3]; decide)) := List.getElem?_eq_getElem _
    have p5 := p2 2 _ p4
    exact ⟨_, by rw [Nat.zero_add] at p5; exact p5⟩

/-- What the loop over binders keeps. -/
structure QI (b0 Q : Nat) (w7 : World) (s6 : St) (body : List Int) (ts : List PSK) (va : Value) (pre : List (List Int)) (wr : World) (sc : St) : Prop where
  chg : Chg (fun i => i = Q ∨ va.ownBlock = some i) w7 wr
  st : DS wr Q sc
  lop : Lop (pBytes 1 32 16777216) (inn (prt s6) body) pre sc
  row : ∃ cs, LG b0 Q wr va cs (zipB ts pre)
  le : pre.length ≤ body.length
  lt : ∀ zs o, sc = some (zs, o) → pre.length + zs.length ≤ body.length
  own : ∀ v sh od, wr.heap[Q]? = some (.cells #[v, .bool sh, .bool od] 124) → ∀ k, v.ownBlock = some k → ¬ va.ownBlock = some k
theorem QI.start {b0 Q : Nat} {w7 : World} {s6 : St} {body : List Int} {ts : List PSK} {va : Value} {cs : List (List Value)} (h : DS w7 Q (inn (prt s6) body)) (hr : LG b0 Q w7 va cs ts) (ho : ∀ v sh od, w7.heap[Q]? = some (.cells #[v, .bool sh, .bool od] 124) → ∀ k, v.ownBlock = some k → ¬ va.ownBlock = some k) : QI b0 Q w7 s6 body ts va [] w7 (inn (prt s6) body) :=
  ⟨Chg.refl _ _, h, Lop.start _ _, ⟨cs, by rw [zipB_nil]; exact hr⟩, Nat.zero_le _, fun zs o e => by
    cases s6 with
    | none => cases e
    | some q =>
      injection e with e
      injection e with e _
      rw [← e]
      simp, ho⟩
/-- A binder is read. -/
theorem QI.read {b0 Q : Nat} {w7 wr wA : World} {s6 sc : St} {body : List Int} {ts : List PSK} {va v : Value} {pre : List (List Int)} {x : List Int} (h : QI b0 Q w7 s6 body ts va pre wr sc) (hne : ∃ zs o, sc = some (zs, o) ∧ zs ≠ []) (hk : TK (pBytes 1 32 16777216) wr wA Q sc v x) (hQ : ¬ va.ownBlock = some Q) (hb : b0 ≤ wr.heap.size) (hQ7 : Q < w7.heap.size) (hsb : SameB wr wA Q) :
    ∃ sc', Chg (fun i => i = Q ∨ va.ownBlock = some i) w7 wA ∧ DS wA Q sc' ∧ Lop (pBytes 1 32 16777216) (inn (prt s6) body) (pre ++ [x]) sc' ∧ (∃ cs, LG b0 Q wA va cs (zipB ts pre)) ∧ (pre ++ [x]).length ≤ body.length ∧ (∀ zs o, sc' = some (zs, o) → (pre ++ [x]).length + zs.length ≤ body.length) ∧
      Rel .byt (fun i => b0 ≤ i ∧ i < wA.heap.size ∧ i ≠ Q ∧ ¬ va.ownBlock = some i) wA [v] x ∧ (sc' = none ∨ ∃ zs' o', sc' = some (zs', o') ∧ ∀ zs o, sc = some (zs, o) → zs'.length < zs.length) ∧
      ∀ v sh od, wA.heap[Q]? = some (.cells #[v, .bool sh, .bool od] 124) → ∀ k, v.ownBlock = some k → ¬ va.ownBlock = some k := by
  obtain ⟨zs, oz, hzs, hzn⟩ := hne
  obtain ⟨sc', k1, k2⟩ := hk.ps.st
  obtain ⟨cs, hcs⟩ := h.row
  have hp : Shr (pBytes 1 32 16777216) := pBytes_shr (by decide)
  have hlen' : pre.length + 1 ≤ body.length := by
    have := h.lt zs oz hzs
    have : 0 < zs.length := List.length_pos_iff.2 hzn
    omega
  have hres := k2
  rw [hzs] at hres
  unfold Res at hres
  dsimp only at hres
  refine ⟨sc', ?_, k1, ?_, ⟨cs, hcs.keep hk.ps.chg (fun k e => .inr e) hQ⟩, by simp; omega, ?_, ?_, ?_, ?_⟩
  · exact h.chg.trans hk.ps.chg (fun i hi e => .inl e)
  · exact h.lop.step hp (fun ys' o' e => by rw [hzs] at e; injection e with e; injection e with e _; rw [← e]; exact hzn) k2
  · intro zs' o' e
    cases hq : pBytes 1 32 16777216 zs with
    | none => rw [hq] at hres; rw [hres] at e; cases e
    | some q =>
      obtain ⟨a, zs2, o2⟩ := q
      rw [hq] at hres
      dsimp only at hres
      rw [hres.2] at e
      injection e with e
      injection e with e _
      have := hp _ _ _ _ hq
      have := h.lt zs oz hzs
      rw [← e]
      simp
      omega
  · refine (hk.bt.rel).keep (fun i q => ⟨Nat.le_trans hb q.1, q.2, ?_, fun e => ?_⟩) (fun _ _ _ => rfl)
    · have := h.chg.size; have := q.1; omega
    · have h1 := (hcs.lr.blk i e).2; have := q.1; omega
  · cases hq : pBytes 1 32 16777216 zs with
    | none => rw [hq] at hres; exact .inl hres
    | some q =>
      obtain ⟨a, zs2, o2⟩ := q
      rw [hq] at hres
      dsimp only at hres
      refine .inr ⟨zs2, _, hres.2, fun zs' o' e => ?_⟩
      rw [hzs] at e
      injection e with e
      injection e with e _
      rw [← e]
      exact hp _ _ _ _ hq
  · intro v2 sh2 od2 hv2 k e
    obtain ⟨v0, sh0, od0, xs0, m0, -⟩ := h.st
    rcases hsb _ _ _ _ _ _ m0.blk hv2 with q | q
    · rw [q] at e
      exact h.own _ _ _ m0.blk k e
    · rw [q] at e; cases e

theorem list_pos {α : Type} {q : Pr α} {n least most : Nat} {s s1 : St} {l : List α} (h : Res (pList n least most q) s l s1) : s1 = none ∨ least ≤ l.length := by
  cases s with
  | none => exact .inl h
  | some z =>
    obtain ⟨xs, o⟩ := z
    unfold Res pList at h
    dsimp only at h
    by_cases h1 : xs.length < n
    · rw [if_pos h1] at h; exact .inl h
    · rw [if_neg h1] at h
      by_cases h2 : (xs.drop n).length < (dig (xs.take n)).toNat
      · rw [if_pos h2] at h; exact .inl h
      · rw [if_neg h2] at h
        cases e : many q ((xs.drop n).take (dig (xs.take n)).toNat) with
        | none => rw [e] at h; exact .inl h
        | some z =>
          obtain ⟨l2, o2⟩ := z
          rw [e] at h
          dsimp only at h
          by_cases h3 : least ≤ l2.length ∧ l2.length ≤ most
          · rw [if_pos h3] at h
            obtain ⟨rfl, -⟩ := h
            exact .inr h3.1
          · rw [if_neg h3] at h
            exact .inl h

/-- Just so many parts. -/
theorem res_exact {α : Type} {q : Pr α} (hq : Shr q) {n T : Nat} (hn : n ≤ 3) {s s1 sp : St} {body : List Int} {pre : List α} (hT : s = none ∨ 1 ≤ T) (hb : ∀ xs o, s = some (xs, o) → Byt xs) (h1 : Res (pBytes n 1 16777216) s body s1) (h2 : Lop q (s1.map fun _ => (body, false)) pre sp)
    (he : ∀ ys o, sp = some (ys, o) → ys = []) : Res (pList n T T q) s pre (wth s1 (if pre.length = T then sp else none)) := by
  cases s with
  | none =>
    obtain rfl : s1 = none := h1
    rfl
  | some z =>
    obtain ⟨xs, o⟩ := z
    have hT1 : 1 ≤ T := by
      rcases hT with h | h
      · cases h
      · exact h
    have hby := hb xs o rfl
    unfold Res pBytes pList at h1
    unfold Res pList
    dsimp only at h1 ⊢
    by_cases hl : xs.length < n
    · rw [if_pos hl] at h1 ⊢
      dsimp only at h1 ⊢
      rw [h1]
      rfl
    · rw [if_neg hl] at h1 ⊢
      obtain ⟨d0, d1⟩ := dig_mono (hby.take n) (n := n) (by rw [List.length_take]; omega)
      obtain ⟨k, hk⟩ : ∃ k : Nat, k = (dig (xs.take n)).toNat := ⟨_, rfl⟩
      rw [← hk] at h1 ⊢
      have hkl : k < 16777216 := by
        have h2 : (256 : Nat) ^ n ≤ 256 ^ 3 := Nat.pow_le_pow_right (by decide) hn
        have h3 : ((256 : Int) ^ n) = ((256 ^ n : Nat) : Int) := by norm_cast
        rw [h3] at d1
        have h4 : (256 : Nat) ^ 3 = 16777216 := by decide
        omega
      by_cases hd : (xs.drop n).length < k
      · rw [if_pos hd] at h1 ⊢
        dsimp only at h1 ⊢
        rw [h1]
        rfl
      · rw [if_neg hd] at h1 ⊢
        obtain ⟨b, hbd⟩ : ∃ b, b = (xs.drop n).take k := ⟨_, rfl⟩
        have hbl : b.length = k := by rw [hbd, List.length_take]; omega
        rw [← hbd] at h1 ⊢
        rw [many_dig1] at h1
        dsimp only at h1
        by_cases hg : 1 ≤ b.length
        · rw [if_pos ⟨hg, by omega⟩] at h1
          obtain ⟨rfl, rfl⟩ := h1
          rcases Lop.fin h2 he with ⟨rfl, hm⟩ | ⟨o1, rfl, hm⟩
          · rw [hm, show (if pre.length = T then (none : St) else none) = none from by split <;> rfl]
            rfl
          · rw [hm]
            dsimp only
            by_cases hx : pre.length = T
            · rw [if_pos ⟨by omega, by omega⟩, if_pos hx]
              exact ⟨rfl, by simp [wth]⟩
            · rw [if_neg (by omega), if_neg hx]
              rfl
        · rw [if_neg (fun e => hg e.1)] at h1
          dsimp only at h1
          subst h1
          have hb0 : b = [] := List.eq_nil_of_length_eq_zero (by omega)
          rw [hb0, many_nil]
          dsimp only
          rw [if_neg (by simp; omega)]
          rfl
end Go.Proofs.Ytdhckndehijemaa
