/-
  What a list leaves, plainly.
-/
import Derived.Test.YtdhckndehijemaaSb
import Derived.Deep.LoopGhost
namespace Go.Proofs.Ytdhckndehijemaa
open Go.RowKit
set_option linter.unusedVariables false
set_option maxRecDepth 100000

/-- Where a list's parts are read from. -/
def inn (s : St) (ys : List Int) : St := s.map fun q => (ys, q.2)
/-- Where a reader stands behind a list. -/
def finS (s sc : St) (ok : Prop) [Decidable ok] : St := if ok then (match s, sc with
  | some (xs, _), some (_, o) => some (xs, o)
  | _, _ => none) else none

theorem res_list {α : Type} {p : Pr α} {size k least most : Nat} {s s1 s2 sc : St} {ys : List Int} {pre : List α} (h1 : Res (pDig size) s (k : Int) s1) (h2 : Res (pTake k) s1 ys s2)
    (h3 : Lop p (inn s2 ys) pre sc) (h4 : ∀ zs o, sc = some (zs, o) → zs = []) : Res (pList size least most p) s pre (finS s2 sc (least ≤ pre.length ∧ pre.length ≤ most)) := by
  have hn : s2 = none → finS s2 sc (least ≤ pre.length ∧ pre.length ≤ most) = none := by
    intro e
    subst e
    unfold finS
    split <;> rfl
  unfold Res at h1
  cases s with
  | none =>
    dsimp only at h1
    subst h1
    have h2' : s2 = none := h2
    exact hn h2'
  | some z =>
    obtain ⟨xs, o⟩ := z
    dsimp only at h1
    unfold Res
    dsimp only
    unfold pList
    unfold pDig at h1
    split at h1
    · rename_i hq
      split at hq
      · rename_i hl
        rw [if_pos hl]
        subst h1
        have h2' : s2 = none := h2
        exact hn h2'
      · cases hq
    · rename_i hq
      split at hq
      · cases hq
      · rename_i hl
        rw [if_neg hl]
        injection hq with hq
        injection hq with q1 hq
        injection hq with q2 q3
        subst q1; subst q2; subst q3
        obtain ⟨hk, rfl⟩ := h1
        have hk' : (dig (xs.take size)).toNat = k := by omega
        rw [hk']
        unfold Res pTake at h2
        dsimp only at h2
        by_cases hd : (xs.drop size).length < k
        · rw [if_pos hd] at h2 ⊢
          exact hn h2
        · rw [if_neg hd] at h2 ⊢
          obtain ⟨rfl, rfl⟩ := h2
          rcases Lop.fin h3 h4 with ⟨rfl, hm⟩ | ⟨o1, rfl, hm⟩
          · rw [hm]
            dsimp only
            unfold finS
            by_cases hf : least ≤ pre.length ∧ pre.length ≤ most
            · rw [if_pos hf]
            · rw [if_neg hf]
          · rw [hm]
            dsimp only
            unfold finS
            by_cases hf : least ≤ pre.length ∧ pre.length ≤ most
            · rw [if_pos hf, if_pos hf]
              simp
            · rw [if_neg hf, if_neg hf]

/-- What the loop of a list keeps. -/
structure LI (t : Ty) (κ : TypeId) (p : Pr t.Dat) (w4 : World) (r : Nat) (s2 : St) (ys : List Int) (pre : List t.Dat) (va : Value) (wr : World) (sc : St) : Prop where
  chg : Chg (One r) w4 wr
  st : RS wr r sc
  lop : Lop p (inn s2 ys) pre sc
  row : ∃ cs, LR t κ w4.heap.size wr va cs pre
  le : pre.length ≤ ys.length
  lt : ∀ zs o, sc = some (zs, o) → pre.length + zs.length ≤ ys.length

theorem LI.start {t : Ty} {κ : TypeId} {p : Pr t.Dat} {w4 : World} {r : Nat} {s2 : St} {ys : List Int} (h : RS w4 r (inn s2 ys)) : LI t κ p w4 r s2 ys [] (.slice none 0 0) w4 (inn s2 ys) :=
  ⟨Chg.refl _ _, h, Lop.start p _, ⟨[], LR.nil t κ _ _⟩, Nat.zero_le _, fun zs o e => by
    cases s2 with
    | none => cases e
    | some q =>
      injection e with e
      injection e with e _
      rw [← e]
      simp⟩

def snocD {t : Ty} (l : List t.Dat) (x : t.Dat) : List t.Dat := l ++ [x]
/-- A part more. -/
theorem LI.more {t : Ty} {κ : TypeId} {p : Pr t.Dat} {w4 wr w1 w2 : World} {r : Nat} {s2 sc : St} {ys : List Int} {pre : List t.Dat} {va va' : Value} {us : List Value} {x : t.Dat} {cs : List (List Value)} {o : Obj} (hp : Shr p) (h : LI t κ p w4 r s2 ys pre va wr sc)
    (hne : ∃ zs o, sc = some (zs, o) ∧ zs ≠ []) (hx : RP t p wr w1 r sc us x) (hl : LR t κ w4.heap.size wr va cs pre)
    (hr : w2.ownsRow w4.heap.size κ t.sz va' (pre.length + 1) (cs.flatten ++ us)) (hg : (w1.alloc o).grownBy w2 va.ownBlock) (hv : va'.ownBlock = va.ownBlock ∨ va'.ownBlock = some (w1.heap.size + 1)) (hr4 : r < w4.heap.size) :
    ∃ sc', LI t κ p w4 r s2 ys (snocD pre x) va' w2 sc' ∧ (sc' = none ∨ ∃ zs' o', sc' = some (zs', o') ∧ ∀ zs o, sc = some (zs, o) → zs'.length < zs.length) := by
  obtain ⟨zs, oz, hzs, hzn⟩ := hne
  obtain ⟨sc', k1, k2⟩ := hx.ps.st
  have hszr : w4.heap.size ≤ wr.heap.size := h.chg.size
  have hrow1 : LR t κ w4.heap.size w1 va cs pre := hl.keep hx.ps.chg (fun k e => by have e' : k = r := e; omega)
  have hrow2 : LR t κ w4.heap.size (w1.alloc o) va cs pre := hrow1.keep (S := Non) ((Chg.refl _ _).alloc o) (fun k e => e.elim)
  have hblk := hrow2.blk
  have c2 : Chg (fun k => va.ownBlock = some k) (w1.alloc o) w2 := ⟨hg.os, hg.tape, hg.output, hg.size, fun b hb hnn => hg.block b hb (fun e => hnn e.symm)⟩
  have c12 : Chg (fun k => va.ownBlock = some k) w1 w2 := ((Chg.refl _ _).alloc o).trans c2 (fun _ _ q => q)
  have hlen' : pre.length + 1 ≤ ys.length := by
    have := h.lt zs oz hzs
    have : 0 < zs.length := List.length_pos_iff.2 hzn
    omega
  have hres := k2
  rw [hzs] at hres
  unfold Res at hres
  dsimp only at hres
  refine ⟨sc', ⟨?_, ?_, ?_, ?_, ?_, ?_⟩, ?_⟩
  · exact (h.chg.one hx.ps.chg).trans c12 (fun i hi q => by have := (hblk i q).1; omega)
  · exact k1.keep c12 (fun k q => by have := (hblk k q).1; omega)
  · exact h.lop.step hp (fun ys' o' e => by rw [hzs] at e; injection e with e; injection e with e _; rw [← e]; exact hzn) k2
  · refine ⟨cs ++ [us], LR.more (w := wr) (w1 := w1.alloc o) hl ?_ hrow2 ?_ hr hg ?_ h.chg.size⟩
    · exact Nat.le_trans hx.ps.chg.size (by simp)
    · exact (hx.rel.oldN ((Chg.refl _ _).alloc o)).btw (Nat.le_refl _) (by simp)
    · rcases hv with hv | hv
      · exact .inl hv
      · exact .inr ⟨_, hv, by simp⟩
  · simp [snocD]; omega
  · intro zs' o' e
    cases hq : p zs with
    | none => rw [hq] at hres; rw [hres] at e; cases e
    | some q =>
      obtain ⟨a, zs2, o2⟩ := q
      rw [hq] at hres
      dsimp only at hres
      rw [hres.2] at e
      injection e with e
      injection e with e _
      have := hp _ _ _ _ hq
      have := h.lt zs oz hzs
      rw [← e]
      simp [snocD]
      omega
  · cases hq : p zs with
    | none => rw [hq] at hres; exact .inl hres
    | some q =>
      obtain ⟨a, zs2, o2⟩ := q
      rw [hq] at hres
      dsimp only at hres
      refine .inr ⟨zs2, _, hres.2, fun zs' o' e => ?_⟩
      rw [hzs] at e
      injection e with e
      injection e with e _
      rw [← e]
      exact hp _ _ _ _ hq

theorem ownsRow_succ {w : World} {base size n : Nat} {e : TypeId} {v : Value} {xs : List Value} (h : w.ownsRow base e size v (n + 1) xs) : ∃ g cap, v = .slice (some ⟨g, 0, none⟩) (n + 1) cap := by
  rcases h.2 with ⟨_, h⟩ | ⟨g, cap, cur, rfl, _⟩
  · omega
  · exact ⟨g, cap, rfl⟩
theorem ownsRow_any {w : World} {base size n : Nat} {e : TypeId} {v : Value} {xs : List Value} (h : w.ownsRow base e size v n xs) : ∃ ao cap, v = .slice ao n cap := by
  rcases h.2 with ⟨rfl, rfl⟩ | ⟨g, cap, cur, rfl, _⟩
  · exact ⟨_, _, rfl⟩
  · exact ⟨_, cap, rfl⟩
theorem LI.row2 {t : Ty} {κ : TypeId} {p q : Pr t.Dat} {w4 wr w1 : World} {r : Nat} {s2 sc : St} {ys : List Int} {pre : List t.Dat} {va : Value} {us : List Value} {x : t.Dat} {cs : List (List Value)} (o : Obj) (h : LI t κ p w4 r s2 ys pre va wr sc)
    (hx : RP t q wr w1 r sc us x) (hl : LR t κ w4.heap.size wr va cs pre) (hr4 : r < w4.heap.size) : (w1.alloc o).ownsRow w4.heap.size κ t.sz va pre.length cs.flatten ∧ w4.heap.size ≤ (w1.alloc o).heap.size := by
  refine ⟨((hl.keep hx.ps.chg (fun k e => by have e' : k = r := e; omega)).keep (S := Non) ((Chg.refl _ _).alloc o) (fun k e => e.elim)).row, ?_⟩
  have := h.chg.size
  have := hx.ps.chg.size
  simp
  omega
theorem ND.rp2 {w w' : World} {r : Nat} {s : St} {x : Int} (h : ND 2 w w' r s x) : RP (.num .u16) (pDig 2) w w' r s [.int .u16 x] x := ⟨⟨rfl, h.lo, by have := h.hi; simpa [kmax] using this⟩, h.ps⟩
theorem ND.rp1 {w w' : World} {r : Nat} {s : St} {x : Int} (h : ND 1 w w' r s x) : RP (.num .u8) (pDig 1) w w' r s [.int .u8 x] x := ⟨⟨rfl, h.lo, by have := h.hi; simpa [kmax] using this⟩, h.ps⟩
theorem ND.rp4 {w w' : World} {r : Nat} {s : St} {x : Int} (h : ND 4 w w' r s x) : RP (.num .u32) (pDig 4) w w' r s [.int .u32 x] x := ⟨⟨rfl, h.lo, by have := h.hi; simpa [kmax] using this⟩, h.ps⟩
theorem AB.some {s : St} {xs : List Int} {al : Int} (h : AB s xs al) (e : ¬ al = 50) : ∃ o, s = some (xs, o) := by
  rcases h with ⟨-, h⟩ | ⟨o, h, -⟩
  · exact absurd h e
  · exact ⟨o, h⟩

/-- The end of a list: what is left is what is behind it. -/
theorem li_fin {t : Ty} {κ : TypeId} {p : Pr t.Dat} {w w1 w4 wr w6 w7 : World} {r size k least most : Nat} {s s1 s2 sc : St} {ys zs xs8 : List Int} {pre : List t.Dat} {va v8 : Value} {al8 al : Int}
    (h : LI t κ p w4 r s2 ys pre va wr sc) (hw1 : Chg Non w w1) (h14 : Chg (One r) w1 w4) (hD : Res (pDig size) s (k : Int) s1) (hT : Res (pTake k) s1 ys s2) (h8 : AB s2 xs8 al8) (hab : AB sc zs al) (hend : zs = [] ∨ al = 50)
    (h6 : RM w6 r v8 al xs8) (c6 : Chg (One r) wr w6) (hr : r < w.heap.size)
    (h7 : (least ≤ pre.length ∧ pre.length ≤ most ∧ w7 = w6) ∨ (¬ (least ≤ pre.length ∧ pre.length ≤ most) ∧ RM w7 r v8 50 xs8 ∧ Chg (One r) w6 w7)) :
    RP (.lst t) (pList size least most p) w w7 r s [va] pre := by
  have c67 : Chg (One r) w6 w7 := by
    rcases h7 with ⟨-, -, rfl⟩ | ⟨-, -, h7⟩
    · exact Chg.refl _ _
    · exact h7
  have hle : w.heap.size ≤ w4.heap.size := Nat.le_trans hw1.size h14.size
  obtain ⟨cs, hcs⟩ := h.row
  have hrow : Rel (.lst t) (Btw w4.heap.size w7.heap.size) w7 [va] pre := (hcs.keep (c6.one c67) (fun i e => by have e' : i = r := e; omega)).rel
  refine ⟨hrow.btw hle (Nat.le_refl _), ⟨(hw1.non _).trans ((h14.one h.chg).one (c6.one c67)) (fun _ _ q => q), _, ?_, res_list (least := least) (most := most) hD hT h.lop (fun ws o e => ?_)⟩⟩
  · have hnone : sc = none → al = 50 := fun e => hab.none e
    rcases hab with ⟨rfl, rfl⟩ | ⟨o, rfl, rfl⟩
    · have hf : finS s2 none (least ≤ pre.length ∧ pre.length ≤ most) = none := by
        unfold finS
        split
        · cases s2 <;> rfl
        · rfl
      rw [hf]
      rcases h7 with ⟨-, -, rfl⟩ | ⟨-, h7, -⟩
      · exact RS.of h6 (.inl ⟨rfl, rfl⟩)
      · exact RS.of h7 (.inl ⟨rfl, rfl⟩)
    · rcases h7 with ⟨g1, g2, rfl⟩ | ⟨g1, h7, -⟩
      · have hs2 : s2 ≠ none := by
          intro e
          subst e
          have := h.lop
          unfold Lop at this
          dsimp only [inn, Option.map] at this
          cases this
        rcases h8 with ⟨rfl, -⟩ | ⟨o2, rfl, -⟩
        · exact absurd rfl hs2
        · have hf : finS (some (xs8, o2)) (some (zs, o)) (least ≤ pre.length ∧ pre.length ≤ most) = some (xs8, o) := by
            unfold finS
            rw [if_pos ⟨g1, g2⟩]
          rw [hf]
          exact RS.of h6 (.inr ⟨o, rfl, rfl⟩)
      · have hf : finS s2 (some (zs, o)) (least ≤ pre.length ∧ pre.length ≤ most) = none := by
          unfold finS
          rw [if_neg g1]
        rw [hf]
        exact RS.of h7 (.inl ⟨rfl, rfl⟩)
  · rcases hab with ⟨rfl, -⟩ | ⟨o', rfl, rfl⟩
    · cases e
    · injection e with e
      injection e with e _
      subst e
      rcases hend with hend | hend
      · exact hend
      · cases o' <;> simp at hend
end Go.Proofs.Ytdhckndehijemaa
