/-
  What values in memory are, by their kind; what a reader in memory is.
-/
import Derived.Test.YtdhckndehijemaaMj01
import Derived.Maps.AppendAt
namespace Go.Proofs.Ytdhckndehijemaa
open Go.RowKit
set_option linter.unusedVariables false
set_option maxRecDepth 100000

inductive Ty where
  | num (k : IntKind) | str | byt | arr (n : Nat) | lst (e : Ty) | pair (a b : Ty) | unit

def Ty.Dat : Ty → Type
  | .num _ => Int
  | .str => List Int
  | .byt => List Int
  | .arr _ => List Int
  | .lst e => List e.Dat
  | .pair a b => a.Dat × b.Dat
  | .unit => Unit

def Ty.sz : Ty → Nat
  | .num _ => 1
  | .str => 1
  | .byt => 1
  | .arr n => n
  | .lst _ => 1
  | .pair a b => a.sz + b.sz
  | .unit => 0

def kmax : IntKind → Int
  | .u8 => 256
  | .u16 => 65536
  | .u32 => 4294967296
  | _ => 9223372036854775808

abbrev Ty.Num : Ty := .num .u16

def InK (k : IntKind) (x : Int) : Prop := 0 ≤ x ∧ x < kmax k
def IsA (n : Nat) (us : List Value) (x : List Int) : Prop := us = x.map (Value.int .u8) ∧ x.length = n ∧ Byt x
theorem IsA.len {n : Nat} {x : List Int} (h : x.length = n) : (x.map (Value.int .u8)).length = n := by simpa using h
def lenE {α : Type} (n : Nat) (l : List α) : Prop := n = l.length
def atE {α : Type} (l : List α) (j : Nat) (a : α) : Prop := l[j]? = some a

/-- What lies in cells: data of a kind, whose lists lie in blocks of F. -/
def Rel : (t : Ty) → (F : Nat → Prop) → World → List Value → t.Dat → Prop
  | .num k, _, _, us, x => us = [.int k x] ∧ InK k x
  | .str, _, _, us, x => us = [.string (strOfNums x)] ∧ Byt x
  | .byt, F, w, us, x => ∃ v, us = [v] ∧ Rd w v x ∧ Byt x ∧ ∀ k, v.ownBlock = some k → List.length (α := Int) x ≠ 0 → F k
  | .arr n, _, _, us, x => IsA n us x
  | .lst e, F, w, us, l => ∃ ao n c, us = [.slice ao n c] ∧ lenE n l ∧ n ≤ c ∧ c ≤ maxLen ∧ (ao = none → c = 0) ∧ ∀ b, ao = some b →
      ∀ (j : Nat) (a : e.Dat), atE l j a → F b.block ∧ ∃ us', Rel e F w us' a ∧ ∀ i u, us'[i]? = some u → w.cell? (b.add (j * e.sz + i)) = some u
  | .pair a b, F, w, us, x => ∃ us1 us2, us = us1 ++ us2 ∧ Rel a F w us1 x.1 ∧ Rel b F w us2 x.2
  | .unit, _, _, us, _ => us = []

theorem Rd.keep0 {w w' : World} {v : Value} {xs : List Int} (h : Rd w v xs) (hk : xs.length ≠ 0 → ∀ k, v.ownBlock = some k → k < w.heap.size → w'.heap[k]? = w.heap[k]?) : Rd w' v xs := by
  cases xs with
  | nil =>
    obtain ⟨ao, n, c, rfl, hn, hc, hmx, h0, hx⟩ := h
    exact ⟨ao, n, c, rfl, hn, hc, hmx, h0, fun x e j u hj => by cases hj⟩
  | cons x xs => exact h.keep (hk (by simp))

theorem add_block (x : Addr) (j : Nat) : (x.add j).block = x.block := by unfold Addr.add; split <;> rfl

theorem Rel.len : ∀ {t : Ty} {F : Nat → Prop} {w : World} {us : List Value} {x : t.Dat}, Rel t F w us x → us.length = t.sz
  | .num _, _, _, us, _, h => by have := h.1; subst this; rfl
  | .str, _, _, us, _, h => by have := h.1; subst this; rfl
  | .byt, _, _, _, _, h => by obtain ⟨v, rfl, -⟩ := h; rfl
  | .arr n, _, _, us, x, h => by
    obtain ⟨q, h, -⟩ : IsA n us x := h
    exact q ▸ IsA.len h
  | .lst e, _, _, _, _, h => by obtain ⟨ao, n, c, rfl, -⟩ := h; rfl
  | .pair a b, _, _, _, _, h => by
    obtain ⟨us1, us2, rfl, h1, h2⟩ := h
    rw [List.length_append, h1.len, h2.len]
    rfl
  | .unit, _, _, _, _, h => by obtain rfl : _ = [] := h; rfl

/-- It stays where those blocks stay. -/
theorem Rel.keep : ∀ {t : Ty} {F G : Nat → Prop} {w w' : World} {us : List Value} {x : t.Dat}, Rel t F w us x → (∀ k, F k → G k) → (∀ k, F k → k < w.heap.size → w'.heap[k]? = w.heap[k]?) → Rel t G w' us x
  | .num _, _, _, _, _, _, _, h, _, _ => h
  | .str, _, _, _, _, _, _, h, _, _ => h
  | .byt, _, _, _, _, _, _, h, hg, hk => by
    obtain ⟨v, rfl, h1, h2, h3⟩ := h
    exact ⟨v, rfl, Rd.keep0 h1 (fun n k e => hk k (h3 k e n)), h2, fun k e n => hg k (h3 k e n)⟩
  | .arr _, _, _, _, _, _, _, h, _, _ => h
  | .lst e, _, _, w, w', _, _, h, hg, hk => by
    obtain ⟨ao, n, c, rfl, h1, h2, h3, h4, h5⟩ := h
    refine ⟨ao, n, c, rfl, h1, h2, h3, h4, fun b eb j a hj => ?_⟩
    obtain ⟨q0, us', q1, q2⟩ := h5 b eb j a hj
    refine ⟨hg _ q0, us', q1.keep hg hk, fun i u hu => ?_⟩
    have q3 := q2 i u hu
    rw [← q3]
    apply World.cell?_of_block
    rw [add_block]
    exact hk _ q0 (by have := World.block_lt_of_cell? w _ q3; rwa [add_block] at this)
  | .pair a b, _, _, _, _, _, _, h, hg, hk => by
    obtain ⟨us1, us2, rfl, h1, h2⟩ := h
    exact ⟨us1, us2, rfl, h1.keep hg hk, h2.keep hg hk⟩
  | .unit, _, _, _, _, _, _, h, _, _ => h

/-- Between two sizes of memory. -/
def Btw (a b : Nat) : Nat → Prop := fun k => a ≤ k ∧ k < b
def Bel (b : Nat) : Nat → Prop := fun k => k < b

theorem Rel.btw {t : Ty} {a b c d : Nat} {w : World} {us : List Value} {x : t.Dat} (h : Rel t (Btw a b) w us x) (h1 : c ≤ a) (h2 : b ≤ d) : Rel t (Btw c d) w us x :=
  h.keep (fun k q => ⟨Nat.le_trans h1 q.1, Nat.lt_of_lt_of_le q.2 h2⟩) (fun _ _ _ => rfl)
theorem Rel.chg {t : Ty} {a b : Nat} {S : Nat → Prop} {w w' : World} {us : List Value} {x : t.Dat} (h : Rel t (Btw a b) w us x) (c : Chg S w w') (hS : ∀ k, S k → k < a) : Rel t (Btw a b) w' us x :=
  h.keep (fun _ q => q) (fun k q hk => c.block k hk (fun s => by have := hS k s; have := q.1; omega))
theorem Rel.old {t : Ty} {b : Nat} {S : Nat → Prop} {w w' : World} {us : List Value} {x : t.Dat} (h : Rel t (Bel b) w us x) (c : Chg S w w') (hS : ∀ k, S k → b ≤ k) : Rel t (Bel b) w' us x :=
  h.keep (fun _ q => q) (fun k q hk => c.block k hk (fun s => by have := hS k s; have : k < b := q; omega))
theorem Rel.oldN {t : Ty} {F : Nat → Prop} {w w' : World} {us : List Value} {x : t.Dat} (h : Rel t F w us x) (c : Chg Non w w') : Rel t F w' us x :=
  h.keep (fun _ q => q) (fun k q hk => c.block k hk (fun s => s))
theorem Rel.bel {t : Ty} {a b : Nat} {w : World} {us : List Value} {x : t.Dat} (h : Rel t (Btw a b) w us x) : Rel t (Bel b) w us x := h.keep (fun k q => q.2) (fun _ _ _ => rfl)
theorem Rel.bel2 {t : Ty} {a b : Nat} {w : World} {us : List Value} {x : t.Dat} (h : Rel t (Bel a) w us x) (hb : a ≤ b) : Rel t (Bel b) w us x := h.keep (fun k q => Nat.lt_of_lt_of_le q hb) (fun _ _ _ => rfl)

/-- A list of our own, with what its parts are. -/
structure LR (t : Ty) (κ : TypeId) (b0 : Nat) (w : World) (va : Value) (cs : List (List Value)) (l : List t.Dat) : Prop where
  row : w.ownsRow b0 κ t.sz va l.length cs.flatten
  len : cs.length = l.length
  els : ∀ (j : Nat) (us : List Value) (a : t.Dat), cs[j]? = some us → l[j]? = some a → Rel t (fun k => b0 ≤ k ∧ k < w.heap.size ∧ ¬ va.ownBlock = some k) w us a

theorem LR.nil (t : Ty) (κ : TypeId) (b0 : Nat) (w : World) : LR t κ b0 w (.slice none 0 0) [] [] :=
  ⟨⟨by simp, .inl ⟨rfl, rfl⟩⟩, rfl, fun j us a h => by cases h⟩

theorem LR.blk {t : Ty} {κ : TypeId} {b0 : Nat} {w : World} {va : Value} {cs : List (List Value)} {l : List t.Dat} (h : LR t κ b0 w va cs l) : ∀ k, va.ownBlock = some k → b0 ≤ k ∧ k < w.heap.size := by
  intro k e
  rcases h.row.2 with ⟨rfl, -⟩ | ⟨g, cap, cur, rfl, hb, hg, -⟩
  · cases e
  · injection e with e
    subst e
    exact ⟨hb, (Array.getElem?_eq_some_iff.1 hg).1⟩

theorem row_same {w w' : World} {base size n : Nat} {e : TypeId} {v : Value} {xs : List Value} (h : w.ownsRow base e size v n xs) (hk : ∀ k, v.ownBlock = some k → w'.heap[k]? = w.heap[k]?) : w'.ownsRow base e size v n xs := by
  refine ⟨h.1, ?_⟩
  rcases h.2 with q | ⟨g, cap, cur, rfl, hb, hg, q⟩
  · exact .inl q
  · exact .inr ⟨g, cap, cur, rfl, hb, by rw [hk g rfl]; exact hg, q⟩

theorem LR.keep {t : Ty} {κ : TypeId} {b0 : Nat} {S : Nat → Prop} {w w' : World} {va : Value} {cs : List (List Value)} {l : List t.Dat} (h : LR t κ b0 w va cs l) (c : Chg S w w') (hS : ∀ k, S k → k < b0) : LR t κ b0 w' va cs l := by
  refine ⟨row_same h.row fun k e => ?_, h.len, fun j us a h1 h2 => (h.els j us a h1 h2).keep (fun k q => ⟨q.1, Nat.lt_of_lt_of_le q.2.1 c.size, q.2.2⟩) (fun k q hk => ?_)⟩
  · obtain ⟨q1, q2⟩ := h.blk k e
    exact c.block k q2 (fun s => by have := hS k s; omega)
  · exact c.block k hk (fun s => by have := hS k s; have := q.1; omega)

/-- One part more: what was read since w is laid behind. -/
theorem LR.more {t : Ty} {κ : TypeId} {b0 : Nat} {w w1 w2 : World} {va va' : Value} {cs : List (List Value)} {l : List t.Dat} {us : List Value} {x : t.Dat} (h : LR t κ b0 w va cs l) (c : w.heap.size ≤ w1.heap.size)
    (h1 : LR t κ b0 w1 va cs l) (hx : Rel t (Btw w.heap.size w1.heap.size) w1 us x)
    (hr : w2.ownsRow b0 κ t.sz va' (l.length + 1) (cs.flatten ++ us)) (hg : w1.grownBy w2 va.ownBlock) (hv : va'.ownBlock = va.ownBlock ∨ ∃ g, va'.ownBlock = some g ∧ w1.heap.size ≤ g) (hb : b0 ≤ w.heap.size) :
    LR t κ b0 w2 va' (cs ++ [us]) (l ++ [x]) := by
  have hw : ∀ k, b0 ≤ k ∧ k < w1.heap.size ∧ ¬ va.ownBlock = some k → w2.heap[k]? = w1.heap[k]? := fun k q => hg.block k q.2.1 (fun e => q.2.2 e.symm)
  have hF : ∀ k, b0 ≤ k ∧ k < w1.heap.size ∧ ¬ va.ownBlock = some k → b0 ≤ k ∧ k < w2.heap.size ∧ ¬ va'.ownBlock = some k := fun k q => by
    refine ⟨q.1, Nat.lt_of_lt_of_le q.2.1 hg.size, fun e => ?_⟩
    rcases hv with hv | ⟨g, hv, hv'⟩
    · rw [hv] at e; exact q.2.2 e
    · rw [hv] at e
      injection e with e
      omega
  refine ⟨by simpa using hr, by simp [h.len], fun j us' a hj ha => ?_⟩
  by_cases hlt : j < l.length
  · rw [List.getElem?_append_left (by rw [h.len]; exact hlt)] at hj
    rw [List.getElem?_append_left hlt] at ha
    exact (h1.els j us' a hj ha).keep hF (fun k q _ => hw k q)
  · rw [List.getElem?_append_right (by rw [h.len]; omega), h.len] at hj
    rw [List.getElem?_append_right (by omega)] at ha
    cases hd : j - l.length with
    | succ m => rw [hd] at hj; cases hj
    | zero =>
      rw [hd] at hj ha
      injection hj with hj
      injection ha with ha
      subst hj; subst ha
      have hq : ∀ k, Btw w.heap.size w1.heap.size k → b0 ≤ k ∧ k < w1.heap.size ∧ ¬ va.ownBlock = some k := fun k q => ⟨Nat.le_trans hb q.1, q.2, fun e => by have := (h.blk k e).2; have := q.1; omega⟩
      exact hx.keep (fun k q => hF k (hq k q)) (fun k q _ => hw k (hq k q))

theorem flat_get {n : Nat} : ∀ {cs : List (List Value)}, (∀ us ∈ cs, us.length = n) → ∀ (j i : Nat) (us : List Value) (u : Value), cs[j]? = some us → us[i]? = some u → cs.flatten[j * n + i]? = some u
  | [], _, j, i, us, u, h, _ => by cases h
  | c :: cs, hl, 0, i, us, u, h, hu => by
    injection h with h
    subst h
    have hi := (List.getElem?_eq_some_iff.1 hu).1
    rw [List.flatten_cons, List.getElem?_append_left (by omega)]
    simpa using hu
  | c :: cs, hl, j + 1, i, us, u, h, hu => by
    have hc : c.length = n := hl c (by simp)
    rw [List.flatten_cons, List.getElem?_append_right (by rw [hc, Nat.add_mul]; omega), hc, show (j + 1) * n + i - n = j * n + i by rw [Nat.add_mul]; omega]
    exact flat_get (fun us h => hl us (by simp [h])) j i us u (by simpa using h) hu

theorem LR.rel {t : Ty} {κ : TypeId} {b0 : Nat} {w : World} {va : Value} {cs : List (List Value)} {l : List t.Dat} (h : LR t κ b0 w va cs l) : Rel (.lst t) (Btw b0 w.heap.size) w [va] l := by
  have hlen : ∀ us ∈ cs, us.length = t.sz := by
    intro us hu
    obtain ⟨j, hj, rfl⟩ := List.getElem_of_mem hu
    exact (h.els j _ (l[j]'(by rw [← h.len]; exact hj)) (List.getElem?_eq_getElem hj) (List.getElem?_eq_getElem _)).len
  rcases h.row.2 with ⟨rfl, e⟩ | ⟨g, cap, cur, rfl, hb, hg, hn, hc, hs, ht⟩
  · exact ⟨none, 0, 0, rfl, e.symm, Nat.le_refl _, by decide, fun _ => rfl, fun b e => by cases e⟩
  · refine ⟨some ⟨g, 0, none⟩, l.length, cap, rfl, rfl, hn, hc, fun e => by (cases e), fun b e j a ha => ?_⟩
    injection e with e
    subst e
    have hgl := (Array.getElem?_eq_some_iff.1 hg).1
    refine ⟨⟨hb, hgl⟩, ?_⟩
    have hj : j < cs.length := by rw [h.len]; exact (List.getElem?_eq_some_iff.1 ha).1
    refine ⟨cs[j], (h.els j _ a (List.getElem?_eq_getElem hj) ha).keep (fun k q => ⟨q.1, q.2.1⟩) (fun _ _ _ => rfl), fun i u hu => ?_⟩
    have q := flat_get hlen j i _ u (List.getElem?_eq_getElem hj) hu
    have hlt := (List.getElem?_eq_some_iff.1 q).1
    rw [Addr.add_lit, cell_of_row w g (0 + (j * t.sz + i)) cur κ (0, 0) hg]
    rw [← ht, List.getElem?_take] at q
    split at q
    · simpa using q
    · cases q

/-- A list of bytes is a slice of bytes. -/
theorem Rel.toByt {F : Nat → Prop} {w : World} {us : List Value} {l : List Int} (h : Rel (.lst (.num .u8)) F w us l) : Rel .byt F w us l := by
  obtain ⟨ao, n, c, rfl, h1, h2, h3, h4, h5⟩ := h
  have hb : Byt l := by
    intro x hx
    obtain ⟨j, hj, rfl⟩ := List.getElem_of_mem hx
    cases ao with
    | none => have := h4 rfl; have : l.length = n := h1.symm; omega
    | some b =>
      obtain ⟨-, us', ⟨-, q1, q2⟩, -⟩ := h5 b rfl j _ (List.getElem?_eq_getElem hj)
      exact ⟨q1, q2⟩
  refine ⟨_, rfl, ⟨ao, n, c, rfl, h1, h2, h3, h4, fun x e j u hu => ?_⟩, hb, fun k e n0 => ?_⟩
  · obtain ⟨-, us', ⟨rfl, -, -⟩, q⟩ := h5 x e j u hu
    have := q 0 _ rfl
    simpa [Ty.sz] using this
  · cases ao with
    | none => cases e
    | some b =>
      injection e with e
      rw [← e]
      obtain ⟨x, hx⟩ : ∃ x, l[0]? = some x := ⟨l[0]'(by omega), List.getElem?_eq_getElem _⟩
      exact (h5 b rfl 0 x hx).1

/-- Bytes that lie in a block of F, be there any or not. -/
def Bt (F : Nat → Prop) (w : World) (v : Value) (xs : List Int) : Prop := Rd w v xs ∧ Byt xs ∧ ∀ k, v.ownBlock = some k → F k
theorem Bt.rel {F : Nat → Prop} {w : World} {v : Value} {xs : List Int} (h : Bt F w v xs) : Rel .byt F w [v] xs := ⟨v, rfl, h.1, h.2.1, fun k e _ => h.2.2 k e⟩
theorem Bt.oldN {F : Nat → Prop} {w w' : World} {v : Value} {xs : List Int} (h : Bt F w v xs) (c : Chg Non w w') : Bt F w' v xs := ⟨h.1.keep (fun k e hk => c.block k hk (fun s => s)), h.2.1, h.2.2⟩
theorem Bt.bel2 {a b : Nat} {w : World} {v : Value} {xs : List Int} (h : Bt (Bel a) w v xs) (k : a ≤ b) : Bt (Bel b) w v xs := ⟨h.1, h.2.1, fun i e => Nat.lt_of_lt_of_le (h.2.2 i e) k⟩
end Go.Proofs.Ytdhckndehijemaa
