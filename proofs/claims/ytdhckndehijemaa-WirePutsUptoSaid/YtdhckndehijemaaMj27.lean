/-
  The document's reader in memory.
-/
import Derived.Test.YtdhckndehijemaaMj20
import Derived.Test.YtdhckndehijemaaSx
namespace Go.Proofs.Ytdhckndehijemaa
open Go.RowKit
set_option linter.unusedVariables false
set_option maxRecDepth 100000

theorem set_three {W : World} {B : Nat} {t : TypeId} {a b c : Value} (i : Nat) (hi : i < 3) (u : Value) (h : W.heap[B]? = some (.cells #[a, b, c] t)) : (W.setCell ⟨B, i, none⟩ u).heap[B]? = some (.cells (#[a, b, c].set! i u) t) := by
  obtain ⟨hlt, hk⟩ := Array.getElem?_eq_some_iff.1 h
  show (W.heap.modify B _)[B]? = _
  rw [Array.getElem?_eq_getElem (by rw [Array.size_modify]; exact hlt), Array.getElem_modify_self, hk]
  rfl

/-- The document's reader: what is left, not in the form, in the form but for a value. -/
structure DM (w : World) (r : Nat) (v : Value) (sh od : Bool) (xs : List Int) : Prop where
  blk : w.heap[r]? = some (.cells #[v, .bool sh, .bool od] 124)
  rd : Rd w v xs
  byt : Byt xs
  own : ∀ k, v.ownBlock = some k → k < r
def DB (s : St) (xs : List Int) (sh od : Bool) : Prop := (s = none ∧ sh = true) ∨ (s = some (xs, od) ∧ sh = false)
def DS (w : World) (r : Nat) (s : St) : Prop := ∃ v sh od xs, DM w r v sh od xs ∧ DB s xs sh od
theorem DM.facts {w : World} {r : Nat} {v : Value} {sh od : Bool} {xs : List Int} (h : DM w r v sh od xs) : w.cell? ⟨r, 0, none⟩ = some v ∧ w.cell? ⟨r, 1, none⟩ = some (.bool sh) ∧ w.cell? ⟨r, 2, none⟩ = some (.bool od) ∧ w.frozen? ⟨r, 0, none⟩ = false ∧ w.frozen? ⟨r, 1, none⟩ = false ∧ w.frozen? ⟨r, 2, none⟩ = false :=
  ⟨(cell3 h.blk).1, (cell3 h.blk).2.1, (cell3 h.blk).2.2, frozen_of_row w r 0 _ _ h.blk, frozen_of_row w r 1 _ _ h.blk, frozen_of_row w r 2 _ _ h.blk⟩
theorem DM.lt {w : World} {r : Nat} {v : Value} {sh od : Bool} {xs : List Int} (h : DM w r v sh od xs) : r < w.heap.size := (Array.getElem?_eq_some_iff.1 h.blk).1
theorem DM.keep {S : Nat → Prop} {w w' : World} {r : Nat} {v : Value} {sh od : Bool} {xs : List Int} (h : DM w r v sh od xs) (c : Chg S w w') (hS : ∀ k, S k → r < k) : DM w' r v sh od xs :=
  ⟨by rw [c.block r h.lt (fun s => by have := hS _ s; omega)]; exact h.blk, h.rd.keep (fun k e hk => c.block k hk (fun s => by have := hS _ s; have := h.own k e; omega)), h.byt, h.own⟩
theorem DM.non {w w' : World} {r : Nat} {v : Value} {sh od : Bool} {xs : List Int} (h : DM w r v sh od xs) (c : Chg Non w w') : DM w' r v sh od xs := h.keep c (fun k s => s.elim)
theorem DM.rest {w : World} {r : Nat} {v v' : Value} {sh od : Bool} {xs xs' : List Int} (h : DM w r v sh od xs) (h1 : Rd w v' xs') (h2 : Byt xs') (h3 : ∀ k, v'.ownBlock = some k → k < r) : DM (w.setCell ⟨r, 0, none⟩ v') r v' sh od xs' := by
  have c := chg_rest w r 0 v'
  exact ⟨set_three 0 (by decide) v' h.blk, h1.keep (fun k e hk => c.block k hk (fun s => by have q : k = r := s; have := h3 k e; omega)), h2, h3⟩
theorem DM.short {w : World} {r : Nat} {v : Value} {sh od : Bool} {xs : List Int} (h : DM w r v sh od xs) (b : Bool) : DM (w.setCell ⟨r, 1, none⟩ (.bool b)) r v b od xs := by
  have c := chg_rest w r 1 (.bool b)
  exact ⟨set_three 1 (by decide) _ h.blk, h.rd.keep (fun k e hk => c.block k hk (fun s => by have q : k = r := s; have := h.own k e; omega)), h.byt, h.own⟩
theorem DM.odd {w : World} {r : Nat} {v : Value} {sh od : Bool} {xs : List Int} (h : DM w r v sh od xs) (b : Bool) : DM (w.setCell ⟨r, 2, none⟩ (.bool b)) r v sh b xs := by
  have c := chg_rest w r 2 (.bool b)
  exact ⟨set_three 2 (by decide) _ h.blk, h.rd.keep (fun k e hk => c.block k hk (fun s => by have q : k = r := s; have := h.own k e; omega)), h.byt, h.own⟩
theorem DS.of {w : World} {r : Nat} {v : Value} {sh od : Bool} {xs : List Int} {s : St} (h : DM w r v sh od xs) (k : DB s xs sh od) : DS w r s := ⟨v, sh, od, xs, h, k⟩
theorem DS.lt {w : World} {r : Nat} {s : St} (h : DS w r s) : r < w.heap.size := by obtain ⟨v, sh, od, xs, h, -⟩ := h; exact h.lt
theorem DS.keep {S : Nat → Prop} {w w' : World} {r : Nat} {s : St} (h : DS w r s) (c : Chg S w w') (hS : ∀ k, S k → r < k) : DS w' r s := by
  obtain ⟨v, sh, od, xs, h, k⟩ := h
  exact ⟨v, sh, od, xs, h.keep c hS, k⟩
theorem DS.non {w w' : World} {r : Nat} {s : St} (h : DS w r s) (c : Chg Non w w') : DS w' r s := h.keep c (fun k q => q.elim)


/-- What a method of a reader leaves. -/
structure DT {α : Type} (p : Pr α) (w w' : World) (r : Nat) (s : St) (x : α) : Prop where
  chg : Chg (One r) w w'
  st : ∃ s', DS w' r s' ∧ Res p s x s'
/-- A number of n bytes. -/
structure DN (n : Nat) (w w' : World) (r : Nat) (s : St) (x : Int) : Prop where
  ps : DT (pDig n) w w' r s x
  lo : 0 ≤ x
  hi : x < 256 ^ n
/-- What reads as data of a kind. -/
structure DP (t : Ty) (p : Pr t.Dat) (w w' : World) (r : Nat) (s : St) (us : List Value) (x : t.Dat) : Prop where
  rel : Rel t (Btw w.heap.size w'.heap.size) w' us x
  ps : DT p w w' r s x

theorem DT.bind {α β : Type} {p : Pr α} {q : α → Pr β} {a b c : World} {r : Nat} {s : St} {x : α} {y : β} (h : DT p a b r s x) (k : ∀ s', DS b r s' → DT (q x) b c r s' y) : DT (pBind p q) a c r s y := by
  obtain ⟨s1, h1, h2⟩ := h.st
  have hk := k s1 h1
  obtain ⟨s2, k1, k2⟩ := hk.st
  exact ⟨h.chg.one hk.chg, s2, k1, h2.bind k2⟩
theorem DT.map {α β : Type} {p : Pr α} {a b : World} {r : Nat} {s : St} {x : α} (f : α → β) (h : DT p a b r s x) : DT (pBind p fun a => pRet (f a)) a b r s (f x) := by
  obtain ⟨s1, h1, h2⟩ := h.st
  exact ⟨h.chg, s1, h1, h2.map f⟩
theorem DT.after {α : Type} {p : Pr α} {a b c : World} {r : Nat} {s : St} {x : α} (h : DT p a b r s x) (k : Chg Non b c) : DT p a c r s x := by
  obtain ⟨s1, h1, h2⟩ := h.st
  exact ⟨h.chg.trans k (fun _ _ q => q.elim), s1, h1.non k, h2⟩
theorem DT.ahead {α : Type} {p : Pr α} {a b c : World} {r : Nat} {s : St} {x : α} (h : DT p b c r s x) (k : Chg Non a b) : DT p a c r s x :=
  ⟨(k.non _).trans h.chg (fun _ _ q => q), h.st⟩


theorem DP.pair {ta tb : Ty} {pa : Pr ta.Dat} {pb : Pr tb.Dat} {a b c : World} {r : Nat} {s s1 : St} {us1 us2 : List Value} {x1 : ta.Dat} {x2 : tb.Dat} (h1 : DP ta pa a b r s us1 x1) (q : Res pa s x1 s1) (h2 : DP tb pb b c r s1 us2 x2) (hr : r < a.heap.size) :
    DP (.pair ta tb) (pPair pa pb) a c r s (us1 ++ us2) (x1, x2) := by
  obtain ⟨s2, k1, k2⟩ := h2.ps.st
  refine ⟨⟨us1, us2, rfl, ?_, ?_⟩, h1.ps.chg.one h2.ps.chg, s2, k1, q.bind (k2.bind (Res.ret _ _))⟩
  · exact (h1.rel.chg h2.ps.chg (fun k e => by have e' : k = r := e; omega)).btw (Nat.le_refl _) h2.ps.chg.size
  · exact h2.rel.btw h1.ps.chg.size (Nat.le_refl _)
theorem DP.ahead {t : Ty} {p : Pr t.Dat} {a b c : World} {r : Nat} {s : St} {us : List Value} {x : t.Dat} (h : DP t p b c r s us x) (k : Chg Non a b) : DP t p a c r s us x :=
  ⟨h.rel.btw k.size (Nat.le_refl _), h.ps.ahead k⟩
theorem DP.after {t : Ty} {p : Pr t.Dat} {a b c : World} {r : Nat} {s : St} {us : List Value} {x : t.Dat} (h : DP t p a b r s us x) (k : Chg Non b c) : DP t p a c r s us x :=
  ⟨(h.rel.oldN k).btw (Nat.le_refl _) k.size, h.ps.after k⟩
/-- The result's own cell is new. -/
theorem DP.outC {t : Ty} {p : Pr t.Dat} {w w0 b b' : World} {r : Nat} {s : St} {us : List Value} {x : t.Dat} (h : DP t p w0 b r s us x) (k : Chg Non w w0) (k0 : w.heap.size < w0.heap.size) (c : Chg (One w.heap.size) b b') (hr : r < w.heap.size) : DP t p w b' r s us x := by
  obtain ⟨s2, k1, k2⟩ := h.ps.st
  refine ⟨(h.rel.chg c (fun i e => by have e' : i = w.heap.size := e; omega)).btw (by omega) c.size, ⟨((k.non _).trans h.ps.chg (fun _ _ q => q)).trans c (fun i hi e => by have e' : i = w.heap.size := e; omega), s2, k1.keep c (fun i e => by have e' : i = w.heap.size := e; omega), k2⟩⟩
theorem DP.map {t t' : Ty} {p : Pr t.Dat} {a b : World} {r : Nat} {s : St} {us : List Value} {x : t.Dat} (f : t.Dat → t'.Dat) (h : DP t p a b r s us x) (hf : Rel t (Btw a.heap.size b.heap.size) b us x → Rel t' (Btw a.heap.size b.heap.size) b us (f x)) : DP t' (pBind p fun y => pRet (f y)) a b r s us (f x) :=
  ⟨hf h.rel, h.ps.map f⟩
theorem DP.byt {p : Pr (List Int)} {a b : World} {r : Nat} {s : St} {us : List Value} {x : List Int} (h : DP (.lst (.num .u8)) p a b r s us x) : DP .byt p a b r s us x := ⟨h.rel.toByt, h.ps⟩
theorem DP.slice {t : Ty} {p : Pr (List t.Dat)} {a b : World} {r : Nat} {s : St} {v : Value} {x : List t.Dat} (h : DP (.lst t) p a b r s [v] x) : ∃ ao n c, v = .slice ao n c := by
  obtain ⟨ao, n, c, e, -⟩ := h.rel
  injection e with e
  exact ⟨ao, n, c, e⟩


/-- Something odd is told, or not. -/
theorem DP.oddIf {t : Ty} {p : Pr t.Dat} {c : t.Dat → Bool} {a b b' : World} {r : Nat} {s s1 : St} {us : List Value} {x : t.Dat} (h : DP t p a b r s us x) (q : Res p s x s1) (k : DT (pOdd (c x)) b b' r s1 ()) (hr : r < a.heap.size) : DP t (pOddIf p c) a b' r s us x := by
  obtain ⟨s2, k1, k2⟩ := k.st
  exact ⟨(h.rel.chg k.chg (fun k e => by have e' : k = r := e; omega)).btw (Nat.le_refl _) k.chg.size, h.ps.chg.one k.chg, s2, k1, q.bind (k2.bind (Res.ret _ _))⟩
theorem DT.non {α : Type} {p : Pr α} {a b : World} {r : Nat} {s : St} {x : α} (h : DT p a a r s x) (k : Chg Non a b) : DT p a b r s x := h.after k


theorem DT.then {α β : Type} {p : Pr α} {q : Pr β} {a b c : World} {r : Nat} {s s1 : St} {x : α} {y : β} (h : DT p a b r s x) (e : Res p s x s1) (k : DT q b c r s1 y) : DT (pBind p fun _ => q) a c r s y := by
  obtain ⟨s2, k1, k2⟩ := k.st
  exact ⟨h.chg.one k.chg, s2, k1, e.bind k2⟩

/-- What the loop of a list keeps. -/
structure DI (t : Ty) (κ : TypeId) (p : Pr t.Dat) (w4 : World) (r : Nat) (s2 : St) (ys : List Int) (pre : List t.Dat) (va : Value) (wr : World) (sc : St) : Prop where
  chg : Chg (One r) w4 wr
  st : DS wr r sc
  lop : Lop p (inn s2 ys) pre sc
  row : ∃ cs, LR t κ w4.heap.size wr va cs pre
  le : pre.length ≤ ys.length
  lt : ∀ zs o, sc = some (zs, o) → pre.length + zs.length ≤ ys.length

theorem DI.start {t : Ty} {κ : TypeId} {p : Pr t.Dat} {w4 : World} {r : Nat} {s2 : St} {ys : List Int} (h : DS w4 r (inn s2 ys)) : DI t κ p w4 r s2 ys [] (.slice none 0 0) w4 (inn s2 ys) :=
  ⟨Chg.refl _ _, h, Lop.start p _, ⟨[], LR.nil t κ _ _⟩, Nat.zero_le _, fun zs o e => by
    cases s2 with
    | none => cases e
    | some q =>
      injection e with e
      injection e with e _
      rw [← e]
      simp⟩


/-- A part more. -/
theorem DI.more {t : Ty} {κ : TypeId} {p : Pr t.Dat} {w4 wr w1 w2 : World} {r : Nat} {s2 sc : St} {ys : List Int} {pre : List t.Dat} {va va' : Value} {us : List Value} {x : t.Dat} {cs : List (List Value)} {o : Obj} (hp : Shr p) (h : DI t κ p w4 r s2 ys pre va wr sc)
    (hne : ∃ zs o, sc = some (zs, o) ∧ zs ≠ []) (hx : DP t p wr w1 r sc us x) (hl : LR t κ w4.heap.size wr va cs pre)
    (hr : w2.ownsRow w4.heap.size κ t.sz va' (pre.length + 1) (cs.flatten ++ us)) (hg : (w1.alloc o).grownBy w2 va.ownBlock) (hv : va'.ownBlock = va.ownBlock ∨ va'.ownBlock = some (w1.heap.size + 1)) (hr4 : r < w4.heap.size) :
    ∃ sc', DI t κ p w4 r s2 ys (snocD pre x) va' w2 sc' ∧ (sc' = none ∨ ∃ zs' o', sc' = some (zs', o') ∧ ∀ zs o, sc = some (zs, o) → zs'.length < zs.length) := by
  obtain ⟨zs, oz, hzs, hzn⟩ := hne
  obtain ⟨sc', k1, k2⟩ := hx.ps.st
  have hszr : w4.heap.size ≤ wr.heap.size := h.chg.size
  have hrow1 : LR t κ w4.heap.size w1 va cs pre := hl.keep hx.ps.chg (fun k e => by have e' : k = r := e; omega)
  have hrow2 : LR t κ w4.heap.size (w1.alloc o) va cs pre := hrow1.keep (S := Non) ((Chg.refl _ _).alloc o) (fun k e => e.elim)
  have hblk := hrow2.blk
  have c2 : Chg (fun k => va.ownBlock = some k) (w1.alloc o) w2 := ⟨hg.os, hg.tape, hg.output, hg.size, fun b hb hnn => hg.block b hb (fun e => hnn e.symm)⟩
  have c12 : Chg (fun k => va.ownBlock = some k) w1 w2 := ((Chg.refl _ _).alloc o).trans c2 (fun _ _ q => q)
  have hlen' : pre.length + 1 ≤ ys.length := by
    have := h.lt zs oz hzs
    have : 0 < zs.length := List.length_pos_iff.2 hzn
    omega
  have hres := k2
  rw [hzs] at hres
  unfold Res at hres
  dsimp only at hres
  refine ⟨sc', ⟨?_, ?_, ?_, ?_, ?_, ?_⟩, ?_⟩
  · exact (h.chg.one hx.ps.chg).trans c12 (fun i hi q => by have := (hblk i q).1; omega)
  · exact k1.keep c12 (fun k q => by have := (hblk k q).1; omega)
  · exact h.lop.step hp (fun ys' o' e => by rw [hzs] at e; injection e with e; injection e with e _; rw [← e]; exact hzn) k2
  · refine ⟨cs ++ [us], LR.more (w := wr) (w1 := w1.alloc o) hl ?_ hrow2 ?_ hr hg ?_ h.chg.size⟩
    · exact Nat.le_trans hx.ps.chg.size (by simp)
    · exact (hx.rel.oldN ((Chg.refl _ _).alloc o)).btw (Nat.le_refl _) (by simp)
    · rcases hv with hv | hv
      · exact .inl hv
      · exact .inr ⟨_, hv, by simp⟩
  · simp [snocD]; omega
  · intro zs' o' e
    cases hq : p zs with
    | none => rw [hq] at hres; rw [hres] at e; cases e
    | some q =>
      obtain ⟨a, zs2, o2⟩ := q
      rw [hq] at hres
      dsimp only at hres
      rw [hres.2] at e
      injection e with e
      injection e with e _
      have := hp _ _ _ _ hq
      have := h.lt zs oz hzs
      rw [← e]
      simp [snocD]
      omega
  · cases hq : p zs with
    | none => rw [hq] at hres; exact .inl hres
    | some q =>
      obtain ⟨a, zs2, o2⟩ := q
      rw [hq] at hres
      dsimp only at hres
      refine .inr ⟨zs2, _, hres.2, fun zs' o' e => ?_⟩
      rw [hzs] at e
      injection e with e
      injection e with e _
      rw [← e]
      exact hp _ _ _ _ hq


theorem DI.row2 {t : Ty} {κ : TypeId} {p q : Pr t.Dat} {w4 wr w1 : World} {r : Nat} {s2 sc : St} {ys : List Int} {pre : List t.Dat} {va : Value} {us : List Value} {x : t.Dat} {cs : List (List Value)} (o : Obj) (h : DI t κ p w4 r s2 ys pre va wr sc)
    (hx : DP t q wr w1 r sc us x) (hl : LR t κ w4.heap.size wr va cs pre) (hr4 : r < w4.heap.size) : (w1.alloc o).ownsRow w4.heap.size κ t.sz va pre.length cs.flatten ∧ w4.heap.size ≤ (w1.alloc o).heap.size := by
  refine ⟨((hl.keep hx.ps.chg (fun k e => by have e' : k = r := e; omega)).keep (S := Non) ((Chg.refl _ _).alloc o) (fun k e => e.elim)).row, ?_⟩
  have := h.chg.size
  have := hx.ps.chg.size
  simp
  omega
end Go.Proofs.Ytdhckndehijemaa
namespace Go.Proofs.Ytdhckndehijemaa
open Go.RowKit
set_option linter.unusedVariables false
set_option maxRecDepth 100000

/-- Bytes that were taken: they lie in memory of their own. -/
structure TK (p : Pr (List Int)) (w w' : World) (r : Nat) (s : St) (v : Value) (ys : List Int) : Prop where
  bt : Bt (Btw w.heap.size w'.heap.size) w' v ys
  ps : DT p w w' r s ys
theorem TK.dp {p : Pr (List Int)} {w w' : World} {r : Nat} {s : St} {v : Value} {ys : List Int} (h : TK p w w' r s v ys) : DP .byt p w w' r s [v] ys := ⟨h.bt.rel, h.ps⟩
theorem DB.byt {w : World} {r : Nat} {s : St} {xs : List Int} {o : Bool} (h : DS w r s) (e : s = some (xs, o)) : Byt xs := by
  obtain ⟨v, sh, od, zs, m, k⟩ := h
  rcases k with ⟨k, -⟩ | ⟨k, -⟩
  · rw [k] at e; cases e
  · rw [k] at e
    injection e with e
    injection e with e _
    rw [← e]; exact m.byt

set_option maxHeartbeats 1600000 in
theorem dtake_any (r n : Nat) (hn : n ≤ 140737488355328) (s : St) (w : World) (h : DS w r s) :
    Calls Try.prog 190 #[.pointer (some ⟨r, 0, none⟩), .int .i64 n] w fun e w' => ∃ ao L c ys, e = .returned (.slice ao L c) ∧ TK (pTake n) w w' r s (.slice ao L c) ys ∧ ys.length ≤ n ∧ L = ys.length := by
  obtain ⟨v, sh, od, xs, m, k⟩ := h
  obtain ⟨ao, N, c, rfl, hN, hc, hm⟩ := m.rd.shape
  have hm' : c ≤ 9223372036854775807 := by simpa [maxLen] using hm
  have M : Hid (DM w r (.slice ao N c) sh od xs) := m
  have HN : Hid (N = xs.length) := hN
  obtain ⟨z0, z1, z2, f0, f1, f2⟩ := m.facts
  have HR : Hid (r < w.heap.size) := m.lt
  cases sh with
  | true =>
    have hs : s = none := by
      rcases k with ⟨h, -⟩ | ⟨-, h⟩
      · exact h
      · cases h
    subst hs
    clear m k hN hc hm hm'
    go_enter Try.func190, Try.ntmps190
    go_wp2
    go_ret
    exact ⟨none, 0, 0, [], rfl, ⟨⟨Rd.nil _, Byt.nil, fun k e => by cases e⟩, chg_rest _ _ _ _, none, DS.of (M.out.short true) (.inl ⟨rfl, rfl⟩), rfl⟩, by simp, rfl⟩
  | false =>
    have hs : s = some (xs, od) := by
      rcases k with ⟨-, h⟩ | ⟨h, -⟩
      · cases h
      · exact h
    subst hs
    by_cases hlt : N < n
    · have d1 : decide ((n : Int) > (N : Int)) = true := by simp; omega
      have HL : Hid (N < n) := hlt
      clear m k hN hc hm hm' hlt
      go_enter Try.func190, Try.ntmps190
      go_wp2
      go_ret
      refine ⟨none, 0, 0, [], rfl, ⟨⟨Rd.nil _, Byt.nil, fun k e => by cases e⟩, chg_rest _ _ _ _, none, DS.of (M.out.short true) (.inl ⟨rfl, rfl⟩), ?_⟩, by simp, rfl⟩
      unfold Res pTake
      dsimp only
      rw [if_pos (by rw [← HN.out]; exact HL.out)]
    · have d1 : decide ((n : Int) > (N : Int)) = false := by simp; omega
      have HL : Hid (n ≤ N) := by show _ ≤ _; omega
      have hlt' : n ≤ N := by omega
      have HRD : Hid (Rd (w.alloc (.cells #[] 5)) (.slice ao n c) (xs.take n)) := (Rd.takeN m.rd HL.out).keep (fun k e hk => ((Chg.refl Non w).alloc _).block k hk (fun q => q))
      have HLE : Hid (([] : List Int).length + (xs.take n).length ≤ 140737488355328) := by show _ ≤ _; simp; omega
      have hres : Res (pTake n) (some (xs, od)) (xs.take n) (some (xs.drop n, od)) := by
        unfold Res pTake
        dsimp only
        rw [if_neg (by have := HN.out; omega)]
        exact ⟨rfl, by simp⟩
      have HRES : Hid (Res (pTake n) (some (xs, od)) (xs.take n) (some (xs.drop n, od))) := hres
      have HTL : Hid ((xs.take n).length ≤ n ∧ (xs.take n).length = n) := ⟨by simp; omega, by rw [List.length_take]; have := HN.out; have := HL.out; omega⟩
      obtain ⟨z0', z1', z2', f0', f1', f2'⟩ := (M.out.non ((Chg.refl Non w).alloc (.cells #[] 5))).facts
      clear m k hN hlt hm hres
      cases ao with
      | none =>
        go_enter Try.func190, Try.ntmps190
        go_wp2_with (at_builtin; refine wpList_app _ rfl (.tmp 22) (.tmp 28) rfl _ _ [] (xs.take n) rfl rfl (OwnV.empty w) (HRD.out) (HLE.out) ?_)
        intro v5 w5 j1 j2 j3
        have H5 : Hid (OwnN w w5 v5 (xs.take n)) := (OwnN.start w w (Chg.refl _ _)).more j1 j2 (by rw [World.size_alloc]; exact j3)
        obtain ⟨a5, n5, c5, rfl, hn5, -, -⟩ := j1.rd.shape
        have M5 : Hid (DM w5 r (.slice none N c) false od xs) := M.out.non H5.out.chg
        have HN5 : Hid (n5 = (xs.take n).length) := hn5
        clear z0 z1 z2 f0 f1 f2 z0' z1' z2' f0' f1' f2' j1 j2 j3 hn5
        obtain ⟨z0, z1, z2, f0, f1, f2⟩ := M5.out.facts
        go_wp2_with fail
        go_ret
        have cs := chg_rest w5 r 0 (Value.slice none (N - n) (c - n))
        refine ⟨a5, n5, c5, xs.take n, rfl, ⟨⟨?_, M5.out.byt.take _, fun k e => ⟨H5.out.new k e, by have := H5.out.own.lt k e; have := cs.size; omega⟩⟩, (H5.out.chg.non _).one cs, _, DS.of (M5.out.rest (Rd.dropNone M5.out.rd HL.out) (M5.out.byt.drop n) (fun k e => by cases e)) (.inr ⟨rfl, rfl⟩), HRES.out⟩, HTL.out.1, HN5.out⟩
        exact H5.out.rd.keep (fun k e hk => cs.block k hk (fun q => by have q' : k = r := q; have := H5.out.new k e; have := HR.out; omega))
      | some x =>
        go_enter Try.func190, Try.ntmps190
        go_wp2_with (at_builtin; refine wpList_app _ rfl (.tmp 22) (.tmp 28) rfl _ _ [] (xs.take n) rfl rfl (OwnV.empty w) (HRD.out) (HLE.out) ?_)
        intro v5 w5 j1 j2 j3
        have H5 : Hid (OwnN w w5 v5 (xs.take n)) := (OwnN.start w w (Chg.refl _ _)).more j1 j2 (by rw [World.size_alloc]; exact j3)
        obtain ⟨a5, n5, c5, rfl, hn5, -, -⟩ := j1.rd.shape
        have M5 : Hid (DM w5 r (.slice (some x) N c) false od xs) := M.out.non H5.out.chg
        have HN5 : Hid (n5 = (xs.take n).length) := hn5
        clear z0 z1 z2 f0 f1 f2 z0' z1' z2' f0' f1' f2' j1 j2 j3 hn5
        obtain ⟨z0, z1, z2, f0, f1, f2⟩ := M5.out.facts
        go_wp2_with fail
        · subst h
          go_ret
          refine ⟨a5, n5, c5, rfl, _, ⟨⟨?_, M5.out.byt.take _, fun k e => ⟨H5.out.new k e, by have := H5.out.own.lt k e; have := (chg_rest w5 r 0 (Value.slice (some x) (N - c) 0)).size; exact Nat.lt_of_lt_of_le (H5.out.own.lt k e) (chg_rest _ _ _ _).size⟩⟩, (H5.out.chg.non _).one (chg_rest _ _ _ _), _, DS.of (M5.out.rest (Rd.dropAll M5.out.rd HL.out rfl) (M5.out.byt.drop _) M5.out.own) (.inr ⟨rfl, rfl⟩), HRES.out⟩, HTL.out.1, HN5.out⟩
          exact H5.out.rd.keep (fun k e hk => (chg_rest _ _ _ _).block k hk (fun q => by have q' : k = r := q; have := H5.out.new k e; have := HR.out; omega))
        · go_ret
          have cs := chg_rest w5 r 0 (Value.slice (some (x.add n)) (N - n) (c - n))
          refine ⟨a5, n5, c5, rfl, xs.take n, ⟨⟨?_, M5.out.byt.take _, fun k e => ⟨H5.out.new k e, by have := H5.out.own.lt k e; have := cs.size; omega⟩⟩, (H5.out.chg.non _).one (chg_rest _ _ _ _), _, DS.of (M5.out.rest (Rd.dropN M5.out.rd HL.out) (M5.out.byt.drop n) (fun k e => M5.out.own k (by rw [← e]; simp [Value.ownBlock, add_block]))) (.inr ⟨rfl, rfl⟩), HRES.out⟩, HTL.out.1, HN5.out⟩
          exact H5.out.rd.keep (fun k e hk => (chg_rest _ _ _ _).block k hk (fun q => by have q' : k = r := q; have := H5.out.new k e; have := HR.out; omega))
end Go.Proofs.Ytdhckndehijemaa
