/-
  Readers of bytes, plainly: what a parser makes of bytes, what is left, and whether something odd was met.
-/
import Derived.Test.YtdhckndehijemaaBase
import Derived.Laws.BitsAllLaws
import Derived.Laws.BitsLemmas
import Derived.Deep.WholeRow
import Derived.Laws.Rows
import Derived.Lib.SliceRun
import Derived.Deep.Cut
import Derived.Deep.CutBlock
namespace Go.Proofs.Ytdhckndehijemaa
open Go.RowKit
set_option linter.unusedVariables false

/-- Each of them is a byte. -/
def Byt (xs : List Int) : Prop := ∀ x ∈ xs, 0 ≤ x ∧ x < 256

theorem Byt.nil : Byt [] := fun x h => by cases h
theorem Byt.take {xs : List Int} (h : Byt xs) (n : Nat) : Byt (xs.take n) := fun x hx => h x (List.mem_of_mem_take hx)
theorem Byt.drop {xs : List Int} (h : Byt xs) (n : Nat) : Byt (xs.drop n) := fun x hx => h x (List.mem_of_mem_drop hx)
theorem Byt.head {x : Int} {xs : List Int} (h : Byt (x :: xs)) : 0 ≤ x ∧ x < 256 := h x (by simp)
theorem Byt.tail {x : Int} {xs : List Int} (h : Byt (x :: xs)) : Byt xs := fun y hy => h y (by simp [hy])
theorem Byt.cons {x : Int} {xs : List Int} (h0 : 0 ≤ x) (h1 : x < 256) (h : Byt xs) : Byt (x :: xs) := fun y hy => by
  rcases List.mem_cons.1 hy with rfl | hy
  · exact ⟨h0, h1⟩
  · exact h y hy
theorem Byt.append {xs ys : List Int} (h : Byt xs) (g : Byt ys) : Byt (xs ++ ys) := fun y hy => by
  rcases List.mem_append.1 hy with hy | hy
  · exact h y hy
  · exact g y hy

abbrev Pr (α : Type) := List Int → Option (α × List Int × Bool)

/-- A number, its highest byte first. -/
def dig (xs : List Int) : Int := xs.foldl (fun v c => v * 256 + c) 0
theorem dig_snoc (xs : List Int) (x : Int) : dig (xs ++ [x]) = dig xs * 256 + x := by simp [dig]
theorem dig_le_aux : ∀ (xs : List Int) (v : Int), Byt xs → 0 ≤ v → 0 ≤ xs.foldl (fun v c => v * 256 + c) v ∧ xs.foldl (fun v c => v * 256 + c) v < (v + 1) * 256 ^ xs.length
  | [], v, _, h => by simp; omega
  | x :: xs, v, h, h0 => by
    obtain ⟨h1, h2⟩ := h.head
    obtain ⟨h3, h4⟩ := dig_le_aux xs (v * 256 + x) h.tail (by omega)
    refine ⟨h3, Int.lt_of_lt_of_le h4 ?_⟩
    rw [List.length_cons, Int.pow_succ, Int.mul_comm (256 ^ xs.length) 256, ← Int.mul_assoc]
    exact Int.mul_le_mul_of_nonneg_right (by omega) (Int.le_of_lt (Int.pow_pos (by decide)))
theorem dig_le {xs : List Int} (h : Byt xs) : 0 ≤ dig xs ∧ dig xs < 256 ^ xs.length := by
  have := dig_le_aux xs 0 h (Int.le_refl _)
  simpa [dig] using this

def pDig (n : Nat) : Pr Int := fun xs => if xs.length < n then none else some (dig (xs.take n), xs.drop n, false)
def pTake (n : Nat) : Pr (List Int) := fun xs => if xs.length < n then none else some (xs.take n, xs.drop n, false)
def pRet {α : Type} (a : α) : Pr α := fun xs => some (a, xs, false)
def pOdd (c : Bool) : Pr Unit := fun xs => some ((), xs, c)
def pBind {α β : Type} (p : Pr α) (q : α → Pr β) : Pr β := fun xs => match p xs with
  | none => none
  | some (a, ys, o) => match q a ys with
    | none => none
    | some (b, zs, o') => some (b, zs, o || o')

/-- It takes something. -/
def Shr {α : Type} (p : Pr α) : Prop := ∀ xs a ys o, p xs = some (a, ys, o) → ys.length < xs.length
/-- It gives nothing back that was not there. -/
def Shq {α : Type} (p : Pr α) : Prop := ∀ xs a ys o, p xs = some (a, ys, o) → ys.length ≤ xs.length

theorem Shr.shq {α : Type} {p : Pr α} (h : Shr p) : Shq p := fun xs a ys o e => Nat.le_of_lt (h xs a ys o e)
theorem pDig_shr {n : Nat} (h : 0 < n) : Shr (pDig n) := fun xs a ys o e => by
  unfold pDig at e
  split at e
  · cases e
  · injection e with e
    injection e with _ e
    injection e with e _
    subst e
    simp
    omega
theorem pTake_shq (n : Nat) : Shq (pTake n) := fun xs a ys o e => by
  unfold pTake at e
  split at e
  · cases e
  · injection e with e
    injection e with _ e
    injection e with e _
    subst e
    simp
theorem pRet_shq {α : Type} (a : α) : Shq (pRet a) := fun xs b ys o e => by
  unfold pRet at e
  injection e with e
  injection e with _ e
  injection e with e _
  subst e
  exact Nat.le_refl _
theorem pOdd_shq (c : Bool) : Shq (pOdd c) := fun xs b ys o e => by
  unfold pOdd at e
  injection e with e
  injection e with _ e
  injection e with e _
  subst e
  exact Nat.le_refl _
theorem pBind_some {α β : Type} {p : Pr α} {q : α → Pr β} {xs : List Int} {b : β} {zs : List Int} {o : Bool} (h : pBind p q xs = some (b, zs, o)) :
    ∃ a ys o1 o2, p xs = some (a, ys, o1) ∧ q a ys = some (b, zs, o2) ∧ o = (o1 || o2) := by
  unfold pBind at h
  split at h
  · cases h
  · rename_i a ys o1 h1
    split at h
    · cases h
    · rename_i b' zs' o2 h2
      injection h with h
      injection h with e1 h
      injection h with e2 e3
      subst e1; subst e2
      exact ⟨a, ys, o1, o2, h1, h2, e3.symm⟩
theorem pBind_shr {α β : Type} {p : Pr α} {q : α → Pr β} (h : Shr p) (k : ∀ a, Shq (q a)) : Shr (pBind p q) := fun xs b zs o e => by
  obtain ⟨a, ys, o1, o2, h1, h2, -⟩ := pBind_some e
  exact Nat.lt_of_le_of_lt (k a _ _ _ _ h2) (h _ _ _ _ h1)
theorem pBind_shq {α β : Type} {p : Pr α} {q : α → Pr β} (h : Shq p) (k : ∀ a, Shq (q a)) : Shq (pBind p q) := fun xs b zs o e => by
  obtain ⟨a, ys, o1, o2, h1, h2, -⟩ := pBind_some e
  exact Nat.le_trans (k a _ _ _ _ h2) (h _ _ _ _ h1)
theorem pBind_shr' {α β : Type} {p : Pr α} {q : α → Pr β} (h : Shq p) (k : ∀ a, Shr (q a)) : Shr (pBind p q) := fun xs b zs o e => by
  obtain ⟨a, ys, o1, o2, h1, h2, -⟩ := pBind_some e
  exact Nat.lt_of_lt_of_le (k a _ _ _ _ h2) (h _ _ _ _ h1)

/-- One behind the other, to the end. -/
def manyF {α : Type} (p : Pr α) : Nat → List Int → Option (List α × Bool)
  | _, [] => some ([], false)
  | 0, _ :: _ => none
  | f + 1, x :: xs => match p (x :: xs) with
    | none => none
    | some (a, ys, o) => (manyF p f ys).map fun q => (a :: q.1, o || q.2)
def many {α : Type} (p : Pr α) (xs : List Int) : Option (List α × Bool) := manyF p xs.length xs

theorem manyF_more {α : Type} {p : Pr α} (hp : Shr p) : ∀ (f g : Nat) (xs : List Int), xs.length ≤ f → xs.length ≤ g → manyF p f xs = manyF p g xs
  | _, _, [], _, _ => by simp [manyF]
  | 0, _, _ :: _, h, _ => by simp at h
  | _ + 1, 0, _ :: _, _, h => by simp at h
  | f + 1, g + 1, x :: xs, hf, hg => by
    unfold manyF
    cases h : p (x :: xs) with
    | none => rfl
    | some q =>
      obtain ⟨a, ys, o⟩ := q
      have := hp _ _ _ _ h
      simp only [List.length_cons] at this hf hg
      dsimp only
      rw [manyF_more hp f g ys (by omega) (by omega)]

theorem many_nil {α : Type} (p : Pr α) : many p [] = some ([], false) := by simp [many, manyF]
theorem many_none {α : Type} {p : Pr α} {xs : List Int} (h : xs ≠ []) (e : p xs = none) : many p xs = none := by
  cases xs with
  | nil => exact absurd rfl h
  | cons x xs => simp [many, manyF, e]
theorem many_some {α : Type} {p : Pr α} (hp : Shr p) {xs ys : List Int} {a : α} {o : Bool} (h : xs ≠ []) (e : p xs = some (a, ys, o)) : many p xs = (many p ys).map fun q => (a :: q.1, o || q.2) := by
  cases xs with
  | nil => exact absurd rfl h
  | cons x xs =>
    have := hp _ _ _ _ e
    simp only [List.length_cons] at this
    simp only [many, List.length_cons, manyF, e]
    rw [manyF_more hp xs.length ys.length ys (by omega) (Nat.le_refl _)]

/-- A list: a number of so many bytes, and as many bytes, which are parts. -/
def pList {α : Type} (size least most : Nat) (p : Pr α) : Pr (List α) := fun xs =>
  if xs.length < size then none else
  if (xs.drop size).length < (dig (xs.take size)).toNat then none else
  match many p ((xs.drop size).take (dig (xs.take size)).toNat) with
  | none => none
  | some (l, o) => if least ≤ l.length ∧ l.length ≤ most then some (l, (xs.drop size).drop (dig (xs.take size)).toNat, o) else none

theorem pList_shr {α : Type} {size least most : Nat} {p : Pr α} (h : 0 < size) : Shr (pList size least most p) := fun xs a ys o e => by
  unfold pList at e
  split at e
  · cases e
  · split at e
    · cases e
    · split at e
      · cases e
      · split at e
        · injection e with e
          injection e with _ e
          injection e with e _
          subst e
          simp
          omega
        · cases e

/-- Where a reader stands: nothing more can be read, or these bytes are left, and something odd was met or not. -/
abbrev St := Option (List Int × Bool)

/-- What reading leaves. -/
def Res {α : Type} (p : Pr α) (s : St) (x : α) (s' : St) : Prop := match s with
  | none => s' = none
  | some (xs, o) => match p xs with
    | none => s' = none
    | some (y, ys, o') => x = y ∧ s' = some (ys, o || o')

theorem Res.none {α : Type} {p : Pr α} {x : α} {s' : St} : Res p none x s' ↔ s' = none := Iff.rfl
theorem Res.bind {α β : Type} {p : Pr α} {q : α → Pr β} {s s1 s2 : St} {x : α} {y : β} (h : Res p s x s1) (k : Res (q x) s1 y s2) : Res (pBind p q) s y s2 := by
  unfold Res at h ⊢
  cases s with
  | none =>
    dsimp only at h ⊢
    subst h
    exact k
  | some z =>
    obtain ⟨xs, o⟩ := z
    dsimp only at h ⊢
    unfold pBind
    cases hp : p xs with
    | none =>
      rw [hp] at h
      dsimp only at h ⊢
      subst h
      exact k
    | some z =>
      obtain ⟨a, ys, o1⟩ := z
      rw [hp] at h
      dsimp only at h ⊢
      obtain ⟨rfl, rfl⟩ := h
      unfold Res at k
      dsimp only at k
      cases hq : q x ys with
      | none => rw [hq] at k; exact k
      | some z =>
        obtain ⟨b, zs, o2⟩ := z
        rw [hq] at k
        dsimp only at k ⊢
        exact ⟨k.1, by rw [k.2, Bool.or_assoc]⟩
theorem Res.ret {α : Type} (a : α) (s : St) : Res (pRet a) s a s := by
  cases s with
  | none => rfl
  | some z => simp [Res, pRet]
theorem Res.map {α β : Type} {p : Pr α} {s s1 : St} {x : α} (f : α → β) (h : Res p s x s1) : Res (pBind p fun a => pRet (f a)) s (f x) s1 := h.bind (Res.ret _ _)
theorem Res.odd (c : Bool) (s : St) : Res (pOdd c) s () (s.map fun q => (q.1, q.2 || c)) := by
  cases s with
  | none => rfl
  | some z => simp [Res, pOdd]
theorem Res.congr {α : Type} {p q : Pr α} {s s1 : St} {x : α} (h : Res p s x s1) (e : ∀ xs o, s = some (xs, o) → p xs = q xs) : Res q s x s1 := by
  cases s with
  | none => exact h
  | some z =>
    obtain ⟨xs, o⟩ := z
    unfold Res at h ⊢
    dsimp only at h ⊢
    rwa [← e xs o rfl]

/-- What the whole of bytes is: the alert, and the value. -/
def whole {α : Type} (p : Pr α) (xs : List Int) : Option α × Int := match p xs with
  | none => (none, 50)
  | some (a, ys, o) => if ys ≠ [] then (none, 50) else if o then (none, 47) else (some a, 0)

/-- What a loop over parts keeps: from where it began, what it has, where it stands. -/
def Lop {α : Type} (p : Pr α) (s0 : St) (pre : List α) (s : St) : Prop := match s0 with
  | none => s = none
  | some (xs, o0) => match s with
    | none => many p xs = none
    | some (ys, o) => ∃ o1, o = (o0 || o1) ∧ many p xs = (many p ys).map fun q => (pre ++ q.1, o1 || q.2)

theorem Lop.start {α : Type} (p : Pr α) (s : St) : Lop p s [] s := by
  unfold Lop
  cases s with
  | none => rfl
  | some z =>
    obtain ⟨xs, o⟩ := z
    refine ⟨false, by simp, ?_⟩
    cases many p xs <;> simp

theorem Lop.step {α : Type} {p : Pr α} (hp : Shr p) {s0 s s' : St} {pre : List α} {x : α} (h : Lop p s0 pre s) (hn : ∀ ys o, s = some (ys, o) → ys ≠ []) (hr : Res p s x s') : Lop p s0 (pre ++ [x]) s' := by
  unfold Lop at h ⊢
  cases s0 with
  | none =>
    dsimp only at h ⊢
    subst h
    exact hr
  | some z =>
    obtain ⟨xs, o0⟩ := z
    dsimp only at h ⊢
    cases s with
    | none =>
      dsimp only at h
      have hr' : s' = none := hr
      subst hr'
      exact h
    | some z =>
      obtain ⟨ys, o⟩ := z
      dsimp only at h
      obtain ⟨o1, ho, hm⟩ := h
      unfold Res at hr
      dsimp only at hr
      have hne := hn ys o rfl
      cases hq : p ys with
      | none =>
        rw [hq] at hr
        dsimp only at hr
        subst hr
        dsimp only
        rw [hm, many_none hne hq]
        rfl
      | some z =>
        obtain ⟨a, zs, o2⟩ := z
        rw [hq] at hr
        dsimp only at hr
        obtain ⟨rfl, rfl⟩ := hr
        dsimp only
        refine ⟨o1 || o2, by rw [ho, Bool.or_assoc], ?_⟩
        rw [hm, many_some hp hne hq, Option.map_map]
        congr 1
        funext q
        simp [Bool.or_assoc]

/-- A loop that has come to the end. -/
theorem Lop.fin {α : Type} {p : Pr α} {xs : List Int} {o0 : Bool} {pre : List α} {s : St} (h : Lop p (some (xs, o0)) pre s) (he : ∀ ys o, s = some (ys, o) → ys = []) :
    (s = none ∧ many p xs = none) ∨ ∃ o1, s = some ([], o0 || o1) ∧ many p xs = some (pre, o1) := by
  unfold Lop at h
  dsimp only at h
  cases s with
  | none => exact .inl ⟨rfl, h⟩
  | some z =>
    obtain ⟨ys, o⟩ := z
    obtain rfl := he ys o rfl
    dsimp only at h
    obtain ⟨o1, ho, hm⟩ := h
    refine .inr ⟨o1, by rw [ho], ?_⟩
    rw [hm, many_nil]
    simp
end Go.Proofs.Ytdhckndehijemaa
namespace Go.Proofs.Ytdhckndehijemaa
open Go.RowKit
set_option linter.unusedVariables false
set_option maxRecDepth 100000

theorem ret_int {k : IntKind} {a b : Int} (h : a = b) : Ending.returned (.int k a) = .returned (.int k b) := by rw [h]
theorem ret_bool {a b : Bool} (h : a = b) : Ending.returned (.bool a) = .returned (.bool b) := by rw [h]

theorem spot_none {w : World} {a : Addr} {v : Value} (h : w.cell? a = some v) : a.spot = none := by
  unfold World.cell? at h
  cases hs : a.spot with
  | none => rfl
  | some s =>
    exfalso
    revert h
    split
    · simp [hs]
    · simp

/-- Bytes in a row of memory. -/
def Bs (w : World) (b o : Nat) (xs : List Int) : Prop := ∀ j u, xs[j]? = some u → w.cell? ⟨b, o + j, none⟩ = some (.int .u8 u)

theorem Rd.bs {w : World} {v : Value} {xs : List Int} (h : Rd w v xs) (hn : xs ≠ []) : ∃ b o c, v = .slice (some ⟨b, o, none⟩) xs.length c ∧ xs.length ≤ c ∧ c ≤ 9223372036854775807 ∧ Bs w b o xs := by
  obtain ⟨ao, m, c, rfl, hm, hc, hmx, h0, hx⟩ := h
  have hp : 0 < xs.length := List.length_pos_iff.2 hn
  have hm' : c ≤ 9223372036854775807 := by simpa [maxLen] using hmx
  cases ao with
  | none => have := h0 rfl; omega
  | some x =>
    have h1 := hx x rfl 0 _ (List.getElem?_eq_getElem hp)
    have hs := spot_none h1
    have hs' : x.spot = none := by
      unfold Addr.add at hs
      split at hs
      · assumption
      · simp_all
    obtain ⟨b, o, sp⟩ := x
    dsimp only at hs'
    subst hs'
    refine ⟨b, o, c, by rw [hm], by omega, hm', fun j u hj => ?_⟩
    have := hx _ rfl j u hj
    have hadd : (⟨b, o, none⟩ : Addr).add j = ⟨b, o + j, none⟩ := by unfold Addr.add; split <;> simp_all
    rwa [hadd] at this

theorem Bs.rd {w : World} {b o n c : Nat} {xs : List Int} (h : Bs w b o xs) (hn : n = xs.length) (hc : n ≤ c) (hm : c ≤ 9223372036854775807) : Rd w (.slice (some ⟨b, o, none⟩) n c) xs := by
  refine ⟨_, n, c, rfl, hn, hc, by simpa [maxLen] using hm, (fun e => by cases e), fun x e j u hj => ?_⟩
  injection e with e
  subst e
  have hadd : (⟨b, o, none⟩ : Addr).add j = ⟨b, o + j, none⟩ := by unfold Addr.add; split <;> simp_all
  rw [hadd, h j u hj]

theorem Rd.empty {w : World} {v : Value} (h : Rd w v []) : ∃ ao c, v = .slice ao 0 c ∧ c ≤ 9223372036854775807 := by
  obtain ⟨ao, m, c, rfl, hm, hc, hmx, h0, hx⟩ := h
  exact ⟨ao, c, by rw [hm]; rfl, by simpa [maxLen] using hmx⟩

theorem Bs.at0 {w : World} {b o : Nat} {x : Int} {xs : List Int} (h : Bs w b o (x :: xs)) : w.cell? ⟨b, o, none⟩ = some (.int .u8 x) := h 0 x rfl
theorem Bs.at1 {w : World} {b o : Nat} {x y : Int} {xs : List Int} (h : Bs w b o (x :: y :: xs)) : w.cell? ⟨b, o + 1, none⟩ = some (.int .u8 y) := h 1 y rfl
theorem Bs.tail {w : World} {b o : Nat} {x : Int} {xs : List Int} (h : Bs w b o (x :: xs)) : Bs w b (o + 1) xs := fun j u hj => by
  have := h (j + 1) u (by simpa using hj)
  rwa [show o + (j + 1) = o + 1 + j by omega] at this
theorem Bs.drop {w : World} {b o : Nat} {xs : List Int} (h : Bs w b o xs) (n : Nat) : Bs w b (o + n) (xs.drop n) := fun j u hj => by
  have := h (n + j) u (by rw [List.getElem?_drop] at hj; exact hj)
  rwa [show o + (n + j) = o + n + j by omega] at this
theorem Bs.take {w : World} {b o : Nat} {xs : List Int} (h : Bs w b o xs) (n : Nat) : Bs w b o (xs.take n) := fun j u hj => by
  rw [List.getElem?_take] at hj
  split at hj
  · exact h j u hj
  · cases hj
theorem Bs.keep {w w' : World} {b o : Nat} {xs : List Int} (h : Bs w b o xs) (hk : b < w.heap.size → w'.heap[b]? = w.heap[b]?) : Bs w' b o xs := fun j u hj => by
  have h1 := h j u hj
  rw [← h1]
  exact World.cell?_of_block (hk (World.block_lt_of_cell? w _ h1))

theorem Rd.chg {w w' : World} {v : Value} {xs : List Int} (h : Rd w v xs) (k : Chg Non w w') : Rd w' v xs := h.keep (fun i _ hi => k.block i hi (fun x => x))
theorem Bs.chg {w w' : World} {b o : Nat} {xs : List Int} (h : Bs w b o xs) (k : Chg Non w w') : Bs w' b o xs := h.keep (fun hi => k.block b hi (fun x => x))
theorem OwnV.chg {w w' : World} {v : Value} {xs : List Int} (h : OwnV w v xs) (k : Chg Non w w') : OwnV w' v xs := h.keep (fun i e => k.block i (h.lt i e) (fun x => x))
theorem Chg.two {a b c : World} (h : Chg Non a b) (k : Chg Non b c) : Chg Non a c := h.trans k (fun _ _ x => x)
/-- What is added into a new list. -/
theorem Chg.new {a b c : World} {S : Nat → Prop} (h : Chg Non a b) (k : Chg S b c) (hS : ∀ i, S i → a.heap.size ≤ i) : Chg Non a c := h.trans k (fun i hi x => by have := hS i x; omega)
theorem OwnV.empty (u : World) : OwnV (u.alloc (.cells #[] 5)) (.slice (some ⟨u.heap.size, 0, none⟩) 0 0) [] :=
  .inr ⟨_, _, _, _, rfl, rfl, Nat.le_refl _, by decide, #[], heap_alloc_last u _, by simp, by simp⟩

/-- A list of bytes that is new since w. -/
structure OwnN (w : World) (w' : World) (v : Value) (xs : List Int) : Prop where
  own : OwnV w' v xs
  new : ∀ k, v.ownBlock = some k → w.heap.size ≤ k
  chg : Chg Non w w'
theorem OwnN.more {w u u' : World} {v v' : Value} {xs ys : List Int} (h : OwnN w u v xs) (h1 : OwnV u' v' ys) (h2 : Chg (fun k => v.ownBlock = some k) u u') (h3 : v'.ownBlock = v.ownBlock ∨ v'.ownBlock = some u.heap.size) : OwnN w u' v' ys := by
  refine ⟨h1, fun k e => ?_, h.chg.new h2 h.new⟩
  rcases h3 with h3 | h3
  · rw [h3] at e
    exact h.new k e
  · rw [h3] at e
    injection e with e
    rw [← e]
    exact h.chg.size
theorem OwnN.after {w u u' : World} {v : Value} {xs : List Int} (h : OwnN w u v xs) (k : Chg Non u u') : OwnN w u' v xs := ⟨h.own.chg k, h.new, h.chg.two k⟩
theorem OwnN.from {a w u : World} {v : Value} {xs : List Int} (h : OwnN w u v xs) (k : Chg Non a w) : OwnN a u v xs := ⟨h.own, fun i e => Nat.le_trans k.size (h.new i e), k.two h.chg⟩
theorem OwnN.nought (w : World) : OwnN w w (.slice none 0 0) [] := ⟨.inl ⟨rfl, rfl⟩, (fun k e => by cases e), Chg.refl _ _⟩
theorem OwnN.rd {w u : World} {v : Value} {xs : List Int} (h : OwnN w u v xs) : Rd u v xs := h.own.rd
theorem OwnN.start (w u : World) (k : Chg Non w u) : OwnN w (u.alloc (.cells #[] 5)) (.slice (some ⟨u.heap.size, 0, none⟩) 0 0) [] :=
  ⟨OwnV.empty u, fun i e => by injection e with e; rw [← e]; exact k.size, k.alloc _⟩

theorem row_rd (w : World) (xs : List Int) (n : Nat) (hn : n = xs.length) (hm : n ≤ 9223372036854775807) : Rd (w.alloc (.cells (xs.map (Value.int .u8)).toArray 5)) (.slice (some ⟨w.heap.size, 0, none⟩) n n) xs := by
  refine Bs.rd (fun j u hj => ?_) hn (Nat.le_refl _) hm
  have := cell_of_row (w.alloc (.cells (xs.map (Value.int .u8)).toArray 5)) w.heap.size (0 + j) _ 5 (0, 0) (heap_alloc_last w _)
  rw [this]
  simp [hj]

set_option maxHeartbeats 400000 in
/-- bytes.Clone. -/
theorem clone_any (v : Value) (xs : List Int) (w : World) (hv : Rd w v xs) (hl : xs.length ≤ 140737488355328) :
    Calls Try.prog 99 #[v] w fun e w' => ∃ v', e = .returned v' ∧ OwnN w w' v' xs := by
  have hv' := hv
  obtain ⟨ao, n, c, rfl, hn, hc, hmx, h0, hx⟩ := hv
  cases ao with
  | none =>
    have h0' := h0 rfl
    have : xs = [] := List.eq_nil_of_length_eq_zero (by omega)
    subst this
    subst h0'
    obtain rfl : n = 0 := by omega
    have hq := Go.Lib.run_eql_slice_nil w 23 5 none 0 0 0 0 Try.underlying23
    clear hn h0 hx hv' hc hmx
    go_enter Try.func99, Try.ntmps99
    go_wp2
    go_ret
    exact ⟨_, rfl, OwnN.nought w⟩
  | some x =>
    have HV : Hid (Rd w (.slice (some x) n c) xs) := hv'
    have hq := Go.Lib.run_eql_slice_nil w 23 5 (some x) n c 0 0 Try.underlying23
    clear hn h0 hx hv'
    go_enter Try.func99, Try.ntmps99
    go_wp2_with (at_builtin; refine wpList_app _ rfl (.tmp 5) (.tmp 6) rfl _ _ [] xs rfl rfl (OwnV.empty w) (HV.out.chg ((Chg.refl _ _).alloc _)) (by simpa using hl) ?_)
    intro v' w' h1 h2 h3
    go_wp2
    go_ret
    exact ⟨_, rfl, (OwnN.start w w (Chg.refl _ _)).more h1 h2 (by rw [World.size_alloc]; exact h3)⟩
end Go.Proofs.Ytdhckndehijemaa
