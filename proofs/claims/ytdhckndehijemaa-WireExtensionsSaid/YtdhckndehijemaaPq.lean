/-
  Offers of tickets, plainly: tickets and their binders put together; a binder laid into a row of its own.
-/
import Derived.Test.YtdhckndehijemaaLt
import Derived.Test.YtdhckndehijemaaLi
import Derived.Laws.OwnMore
namespace Go.Proofs.Ytdhckndehijemaa
open Go.RowKit
set_option linter.unusedVariables false
set_option maxRecDepth 100000

abbrev PSK := List Int × Int × List Int
def zipB : List PSK → List (List Int) → List PSK
  | [], _ => []
  | p :: ps, [] => p :: ps
  | p :: ps, b :: bs => (p.1, p.2.1, b) :: zipB ps bs
theorem zipB_nil (ts : List PSK) : zipB ts [] = ts := by cases ts <;> rfl
theorem zipB_len : ∀ (ts : List PSK) (bs : List (List Int)), (zipB ts bs).length = ts.length
  | [], _ => rfl
  | p :: ps, [] => rfl
  | p :: ps, b :: bs => by simp [zipB, zipB_len ps bs]
theorem zipB_get : ∀ (ts : List PSK) (bs : List (List Int)) (k : Nat), bs.length ≤ k → (zipB ts bs)[k]? = ts[k]?
  | [], _, k, _ => by simp [zipB]
  | p :: ps, [], k, _ => rfl
  | p :: ps, b :: bs, 0, h => by simp at h
  | p :: ps, b :: bs, k + 1, h => by
    simp only [zipB, List.getElem?_cons_succ]
    exact zipB_get ps bs k (by simpa using h)
theorem zipB_snoc : ∀ (ts : List PSK) (bs : List (List Int)) (x : PSK) (b : List Int), ts[bs.length]? = some x → zipB ts (bs ++ [b]) = (zipB ts bs).set bs.length (x.1, x.2.1, b)
  | [], _, x, b, h => by cases h
  | p :: ps, [], x, b, h => by
    have h' : p = x := by simpa using h
    subst h'
    simp [zipB, zipB_nil]
  | p :: ps, c :: bs, x, b, h => by
    simp only [List.cons_append, zipB, List.length_cons, List.set_cons_succ]
    rw [zipB_snoc ps bs x b (by simpa using h)]
theorem zipB_past : ∀ (ts : List PSK) (bs : List (List Int)) (m : Nat), ts.length ≤ m → zipB ts (bs.take m) = zipB ts bs
  | [], _, _, _ => by simp [zipB]
  | p :: ps, [], m, _ => by simp
  | p :: ps, b :: bs, 0, h => by simp at h
  | p :: ps, b :: bs, m + 1, h => by
    simp only [List.take_succ_cons, zipB]
    rw [zipB_past ps bs m (by simpa using h)]

def pLen : Pr Int := fun xs => some ((xs.length : Int), xs, false)
def pOffer : Pr (List PSK × Int) := pBind (pList 2 1 16777216 pTicket) fun ts => pBind pLen fun n => pBind (pList 2 ts.length ts.length (pBytes 1 32 16777216)) fun bs => pRet (zipB ts bs, n)
abbrev tOffer : Ty := .pair (.lst tPSK) (.num .i64)
theorem Res.len {s : St} {n : Int} (h : ∀ xs o, s = some (xs, o) → n = (xs.length : Int)) : Res pLen s n s := by
  cases s with
  | none => rfl
  | some z =>
    obtain ⟨xs, o⟩ := z
    exact ⟨h xs o rfl, by simp⟩

theorem flat_set {n : Nat} {u : Value} : ∀ {cs : List (List Value)}, (∀ us ∈ cs, us.length = n) → ∀ (k i : Nat) (us : List Value), cs[k]? = some us → i < n → cs.flatten.set (k * n + i) u = (cs.set k (us.set i u)).flatten
  | [], _, k, i, us, h, _ => by cases h
  | c :: cs, hl, 0, i, us, h, hi => by
    have h' : c = us := by simpa using h
    subst h'
    have hc : c.length = n := hl c (by simp)
    simp only [List.flatten_cons, List.set_cons_zero, Nat.zero_mul, Nat.zero_add]
    rw [List.set_append_left _ _ (by omega)]
  | c :: cs, hl, k + 1, i, us, h, hi => by
    have hc : c.length = n := hl c (by simp)
    simp only [List.flatten_cons, List.set_cons_succ]
    rw [List.set_append_right _ _ (by rw [hc, Nat.add_mul]; omega), hc, show (k + 1) * n + i - n = k * n + i by rw [Nat.add_mul]; omega]
    rw [flat_set (fun us h => hl us (by simp [h])) k i us (by simpa using h) hi]

def wb (x : tPSK.Dat) (b : List Int) : tPSK.Dat := (x.1, x.2.1, b)
/-- A binder laid into the row. -/
theorem LR.setB {b0 g n cap : Nat} {w : World} {cs : List (List Value)} {l : List tPSK.Dat} (h : LR tPSK 200 b0 w (.slice (some ⟨g, 0, none⟩) n cap) cs l) {k : Nat} {x : tPSK.Dat} (hk : l[k]? = some x) {u : Value} {b : List Int} (hu : Rel .byt (fun i => b0 ≤ i ∧ i < w.heap.size ∧ ¬ i = g) w [u] b) :
    (∃ cs', LR tPSK 200 b0 (w.setCell ⟨g, k * 3 + 2, none⟩ u) (.slice (some ⟨g, 0, none⟩) n cap) cs' (l.set k (wb x b))) ∧ w.frozen? ⟨g, k * 3 + 2, none⟩ = false ∧ (∃ old, w.cell? ⟨g, k * 3 + 2, none⟩ = some old) ∧ Chg (One g) w (w.setCell ⟨g, k * 3 + 2, none⟩ u) := by
  have hklt : k < l.length := (List.getElem?_eq_some_iff.1 hk).1
  obtain ⟨us, hus⟩ : ∃ us, cs[k]? = some us := ⟨cs[k]'(by rw [h.len]; exact hklt), List.getElem?_eq_getElem _⟩
  have hrel := h.els k us x hus hk
  have hl3 : ∀ us ∈ cs, us.length = 3 := by
    intro us' hu'
    obtain ⟨j, hj, rfl⟩ := List.getElem_of_mem hu'
    exact (h.els j _ (l[j]'(by rw [← h.len]; exact hj)) (List.getElem?_eq_getElem hj) (List.getElem?_eq_getElem _)).len
  have hc := chg_rest w g (k * 3 + 2) u
  obtain rfl : n = l.length := by
    obtain ⟨a, b, e⟩ := ownsRow_any h.row
    injection e
  have hst := h.row.stored (k * 3 + 2) u
  obtain ⟨us1, us2, rfl, r1, us3, us4, rfl, r2, r3⟩ := hrel
  obtain ⟨v1, rfl, -⟩ := r1
  obtain ⟨rfl, -⟩ := r2
  obtain ⟨v3, rfl, -⟩ := r3
  refine ⟨⟨cs.set k [v1, .int .u32 x.2.1, u], ⟨?_, ?_, ?_⟩⟩, h.row.frozenAt _, ?_, hc⟩
  · have := hst.1
    rw [flat_set hl3 k 2 _ hus (by decide)] at this
    rw [List.length_set]
    exact this
  · rw [List.length_set, List.length_set]; exact h.len
  · intro j us a hj ha
    have hF : ∀ i, (b0 ≤ i ∧ i < w.heap.size ∧ ¬ (Value.slice (some ⟨g, 0, none⟩) l.length cap).ownBlock = some i) → (b0 ≤ i ∧ i < (w.setCell ⟨g, k * 3 + 2, none⟩ u).heap.size ∧ ¬ (Value.slice (some ⟨g, 0, none⟩) l.length cap).ownBlock = some i) := fun i q => ⟨q.1, Nat.lt_of_lt_of_le q.2.1 hc.size, q.2.2⟩
    have hK : ∀ i, (b0 ≤ i ∧ i < w.heap.size ∧ ¬ (Value.slice (some ⟨g, 0, none⟩) l.length cap).ownBlock = some i) → i < w.heap.size → (w.setCell ⟨g, k * 3 + 2, none⟩ u).heap[i]? = w.heap[i]? := fun i q hi => hc.block i hi (fun e => q.2.2 (by have e' : i = g := e; rw [e']; rfl))
    by_cases hjk : j = k
    · subst hjk
      rw [List.getElem?_set_self (by rw [h.len]; exact hklt)] at hj
      rw [List.getElem?_set_self hklt] at ha
      injection hj with hj
      injection ha with ha
      subst hj; subst ha
      have hr := h.els j _ x hus hk
      obtain ⟨us1, us2, e1, r1, us3, us4, e2, r2, r3⟩ := hr
      obtain ⟨q1, rfl, -⟩ := id r1
      obtain ⟨rfl, -⟩ := id r2
      injection e1 with e1 e3
      subst e1
      refine ⟨[v1], [.int .u32 x.2.1, u], rfl, r1.keep hF hK, [.int .u32 x.2.1], [u], rfl, r2.keep hF hK, ?_⟩
      refine hu.keep (fun i q => ⟨q.1, Nat.lt_of_lt_of_le q.2.1 hc.size, fun e => q.2.2 (by injection e with e; exact e.symm)⟩) (fun i q hi => hc.block i hi (fun e => q.2.2 e))
    · rw [List.getElem?_set_ne (fun e => hjk e.symm)] at hj ha
      exact (h.els j us a hj ha).keep hF hK
  · have hrow := h.rel
    obtain ⟨b', o', c', e', -, -, -, q⟩ := hrow.at (N := l.length) rfl (by omega) (by decide)
    injection e' with e1 _ _
    injection e1 with e1
    injection e1 with e1 e4
    subst e1; subst e4
    obtain ⟨us', p1, p2⟩ := q k x hk
    have p3 := p1.len
    have p4 : us'[2]? = some (us'[2]'(by rw [p3]; decide)) := List.getElem?_eq_getElem _
    have p5 := p2 2 _ p4
    exact ⟨_, by rw [Nat.zero_add] at p5; exact p5⟩
end Go.Proofs.Ytdhckndehijemaa
