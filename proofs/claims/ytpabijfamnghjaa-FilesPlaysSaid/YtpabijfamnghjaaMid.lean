/-
  Within the law's do: both stores, the list that is handed in, the box that holds the call; what a call to both leaves of them.
-/
import Derived.Test.YtpabijfamnghjaaPair
namespace Go.Proofs.Ytpabijfamnghjaa
open Go.RowKit
set_option linter.unusedVariables false

/-- What do may write of what was there. -/
def DS (b q : Nat) (sv : Value) : Nat → Prop := fun k => k = b ∨ QS q sv k

structure Mid (w0 w : World) (p b : Nat) (L : List Ent) (q : Nat) (sv0 sv : Value) (R : List Ent) (own : Value) (ys : List Int) (bx : Nat) (box : Array Value) : Prop where
  both : Both w p b L q sv R
  lst : OwnV w own ys
  off : ∀ k, own.ownBlock = some k → OffB p b L q sv R k ∧ w0.heap.size ≤ k
  bxs : w.heap[bx]? = some (.cells box 33 (0, 0))
  chg : Chg (DS b q sv0) w0 w
  row : ∀ k, sv.ownBlock = some k → sv0.ownBlock = some k ∨ w0.heap.size ≤ k

theorem St.offbox {w : World} {p b : Nat} {L : List Ent} (h : St w p b L) {k : Nat} {cur : Array Value} (hk : w.heap[k]? = some (.cells cur 33 (0, 0))) : k ≠ b := by
  intro e
  subst e
  obtain ⟨es, clock, hm, _⟩ := h.map
  rw [hm] at hk
  cases hk

theorem RSt.offbox {w : World} {q : Nat} {sv : Value} {R : List Ent} (h : RSt w q sv R) {k : Nat} {cur : Array Value} (hk : w.heap[k]? = some (.cells cur 33 (0, 0))) : ¬ QS q sv k := by
  rintro (rfl | e)
  · rw [h.blk] at hk; cases hk
  · rcases h.row.2 with ⟨e', _⟩ | ⟨g, cap, cur', e', _, hb, _⟩
    · rw [e'] at e; simp [Value.ownBlock] at e
    · rw [e'] at e; simp [Value.ownBlock] at e; subst e; rw [hb] at hk; cases hk

theorem Off.not {p b : Nat} {L : List Ent} {k : Nat} (h : Off p b L k) : ¬ One b k := fun e => h.2.1 e

/-- The program's call is done, the document's not yet. -/
structure Half (w0 w1 : World) (p b : Nat) (L' : List Ent) (q : Nat) (sv0 sv : Value) (R : List Ent) (own : Value) (ys : List Int) (bx : Nat) (box : Array Value) : Prop where
  a : St w1 p b L'
  r : RSt w1 q sv R
  lst : OwnV w1 own ys
  off : ∀ k, own.ownBlock = some k → Off p b L' k ∧ (k ≠ q ∧ sv.ownBlock ≠ some k ∧ ∀ e ∈ R, e.vo.ownBlock ≠ some k ∧ e.vf.ownBlock ≠ some k) ∧ w0.heap.size ≤ k
  bxs : w1.heap[bx]? = some (.cells box 33 (0, 0))
  chg : Chg (DS b q sv0) w0 w1
  row : ∀ k, sv.ownBlock = some k → sv0.ownBlock = some k ∨ w0.heap.size ≤ k

theorem Mid.half {w0 w w1 : World} {p b : Nat} {L L' : List Ent} {q : Nat} {sv0 sv : Value} {R : List Ent} {own : Value} {ys : List Int} {bx : Nat} {box : Array Value} (h : Mid w0 w p b L q sv0 sv R own ys bx box) (hst : St w1 p b L') (hc : Chg (One b) w w1)
    (hoff : ∀ k, k < w.heap.size → Off p b L k → Off p b L' k) : Half w0 w1 p b L' q sv0 sv R own ys bx box := by
  refine ⟨hst, h.both.r.by_prog h.both.a hc, h.lst.keep (fun k e => hc.block k (h.lst.lt k e) (h.off k e).1.1.not), fun k e => ⟨hoff k (h.lst.lt k e) (h.off k e).1.1, (h.off k e).1.2, (h.off k e).2⟩, ?_, h.chg.trans hc (fun i hi e => .inl e), h.row⟩
  rw [hc.block bx (Array.getElem?_eq_some_iff.1 h.bxs).1 (fun e => h.both.a.offbox h.bxs e)]
  exact h.bxs

theorem Half.mid {w0 w1 w2 : World} {p b : Nat} {L' : List Ent} {q : Nat} {sv0 sv sv' : Value} {R R' : List Ent} {own : Value} {ys : List Int} {bx : Nat} {box : Array Value} (h : Half w0 w1 p b L' q sv0 sv R own ys bx box) (hst : RSt w2 q sv' R') (hc : Chg (QS q sv) w1 w2)
    (hoff : ∀ k, k < w1.heap.size → (∀ e ∈ R, e.vo.ownBlock ≠ some k ∧ e.vf.ownBlock ≠ some k) → ∀ e ∈ R', e.vo.ownBlock ≠ some k ∧ e.vf.ownBlock ≠ some k) (hrow : ∀ k, sv'.ownBlock = some k → sv.ownBlock = some k ∨ w1.heap.size ≤ k) (hs : Same L' R') :
    Mid w0 w2 p b L' q sv0 sv' R' own ys bx box := by
  have hown : ∀ k, own.ownBlock = some k → ¬ QS q sv k := fun k e => by
    obtain ⟨-, ⟨h1, h2, -⟩, -⟩ := h.off k e
    rintro (x | x)
    · exact h1 x
    · exact h2 x
  refine ⟨⟨h.a.by_ref h.r hc, hst, hs⟩, h.lst.keep (fun k e => hc.block k (h.lst.lt k e) (hown k e)), fun k e => ?_, ?_, ?_, fun k e => ?_⟩
  · obtain ⟨h1, ⟨h2, h3, h4⟩, h5⟩ := h.off k e
    refine ⟨⟨h1, h2, fun x => ?_, hoff k (h.lst.lt k e) h4⟩, h5⟩
    rcases hrow k x with y | y
    · exact h3 y
    · have := h.lst.lt k e; omega
  · rw [hc.block bx (Array.getElem?_eq_some_iff.1 h.bxs).1 (h.r.offbox h.bxs)]
    exact h.bxs
  · refine h.chg.trans hc (fun i hi e => ?_)
    rcases e with e | e
    · exact .inr (.inl e)
    · rcases h.row i e with y | y
      · exact .inr (.inr y)
      · omega
  · rcases hrow k e with y | y
    · exact h.row k y
    · right; have := h.chg.size; omega

theorem offE_put {R : List Ent} {f : Ent} {k : Nat} (h : ∀ e ∈ R, e.vo.ownBlock ≠ some k ∧ e.vf.ownBlock ≠ some k) (h1 : f.vo.ownBlock ≠ some k) (h2 : f.vf.ownBlock ≠ some k) : ∀ e ∈ putL f R, e.vo.ownBlock ≠ some k ∧ e.vf.ownBlock ≠ some k := by
  intro x hx
  rcases mem_put.1 hx with rfl | ⟨hx, _⟩
  · exact ⟨h1, h2⟩
  · exact h x hx

theorem offE_del {R : List Ent} {nm : List UInt8} {k : Nat} (h : ∀ e ∈ R, e.vo.ownBlock ≠ some k ∧ e.vf.ownBlock ≠ some k) : ∀ e ∈ delL nm R, e.vo.ownBlock ≠ some k ∧ e.vf.ownBlock ≠ some k := fun x hx => h x (mem_del.1 hx).1

theorem offE_old {R : List Ent} {nm : List UInt8} {k : Nat} (h : ∀ e ∈ R, e.vo.ownBlock ≠ some k ∧ e.vf.ownBlock ≠ some k) : (oldV nm R).ownBlock ≠ some k ∧ (newV nm R).ownBlock ≠ some k := by
  unfold oldV newV
  cases hf : findL nm R with
  | none => simp [Value.ownBlock]
  | some e => exact h e (find_name hf).2

theorem nil_off (k : Nat) : (Value.slice none 0 0).ownBlock ≠ some k := by simp [Value.ownBlock]

/-! A call to both. -/
section
variable {w0 w w1 w2 : World} {p b : Nat} {L : List Ent} {q : Nat} {sv0 sv : Value} {R : List Ent} {own : Value} {ys : List Int} {bx : Nat} {box : Array Value} {nm : List UInt8} {xs : List Int} {n : Int}

theorem Mid.put1 (h : Mid w0 w p b L q sv0 sv R own ys bx box) (hp : PutPost w w1 p b nm xs L) : ∃ L', Half w0 w1 p b L' q sv0 sv R own ys bx box ∧ ((mayL nm xs.length L ≠ 0 ∧ L' = L) ∨ (mayL nm xs.length L = 0 ∧ ∃ v', L' = putL (fresh nm v' xs) L)) := by
  by_cases hm : mayL nm xs.length L = 0
  · obtain ⟨v', hst, hv⟩ := hp.yes hm
    exact ⟨_, h.half hst hp.chg (fun k hk ho => off_put ho (fun e => by have := hv k e; omega) (nil_off k)), .inr ⟨hm, v', rfl⟩⟩
  · exact ⟨L, h.half (hp.no hm) hp.chg (fun k hk ho => ho), .inl ⟨hm, rfl⟩⟩

theorem Half.put2 {L' : List Ent} (hs : Same L R) (h : Half w0 w1 p b L' q sv0 sv R own ys bx box) (hL : (mayL nm xs.length L ≠ 0 ∧ L' = L) ∨ (mayL nm xs.length L = 0 ∧ ∃ v', L' = putL (fresh nm v' xs) L)) (hp : RPut w1 w2 q sv nm xs R) : ∃ sv' R', Mid w0 w2 p b L' q sv0 sv' R' own ys bx box := by
  have hm := hs.may nm xs.length
  rcases hL with ⟨h1, rfl⟩ | ⟨h1, v', rfl⟩
  · rw [hm] at h1
    exact ⟨sv, R, h.mid (hp.no h1) hp.chg (fun k _ x => x) (fun k e => .inl e) hs⟩
  · rw [hm] at h1
    obtain ⟨u, sv', hst, hu, hrow⟩ := hp.yes h1
    exact ⟨sv', _, h.mid hst hp.chg (fun k hk x => offE_put x (fun e => by have := hu k e; omega) (nil_off k)) hrow (hs.put rfl)⟩

theorem Mid.tear1 (h : Mid w0 w p b L q sv0 sv R own ys bx box) (hp : TearPost w w1 p b nm xs n L) : ∃ L', Half w0 w1 p b L' q sv0 sv R own ys bx box ∧ ((tearC nm xs.length n L ≠ 0 ∧ L' = L) ∨ (tearC nm xs.length n L = 0 ∧ ∃ v', L' = putL (tearE nm v' xs n.toNat L) L)) := by
  by_cases hm : tearC nm xs.length n L = 0
  · obtain ⟨v', hst, hv⟩ := hp.yes hm
    exact ⟨_, h.half hst hp.chg (fun k hk ho => off_put ho (offE_old ho.2.2).1 (fun e => by have := hv k e; omega)), .inr ⟨hm, v', rfl⟩⟩
  · exact ⟨L, h.half (hp.no hm) hp.chg (fun k hk ho => ho), .inl ⟨hm, rfl⟩⟩

theorem Half.tear2 {L' : List Ent} (hs : Same L R) (h : Half w0 w1 p b L' q sv0 sv R own ys bx box) (hL : (tearC nm xs.length n L ≠ 0 ∧ L' = L) ∨ (tearC nm xs.length n L = 0 ∧ ∃ v', L' = putL (tearE nm v' xs n.toNat L) L)) (hp : RTear w1 w2 q sv nm xs n R) : ∃ sv' R', Mid w0 w2 p b L' q sv0 sv' R' own ys bx box := by
  have hm := hs.tear nm xs.length n
  rcases hL with ⟨h1, rfl⟩ | ⟨h1, v', rfl⟩
  · rw [hm] at h1
    exact ⟨sv, R, h.mid (hp.no h1) hp.chg (fun k _ x => x) (fun k e => .inl e) hs⟩
  · rw [hm] at h1
    obtain ⟨u, sv', hst, hu, hrow⟩ := hp.yes h1
    refine ⟨sv', _, h.mid hst hp.chg (fun k hk x => offE_put x (offE_old x).1 (fun e => by have := hu k e; omega)) hrow (hs.put ?_)⟩
    simp only [lg, tearE, hs.oldX nm]

theorem Mid.settle1 (h : Mid w0 w p b L q sv0 sv R own ys bx box) (hp : SettlePost w w1 p b nm L) : ∃ L', Half w0 w1 p b L' q sv0 sv R own ys bx box ∧ ((settleC nm L ≠ 0 ∧ L' = L) ∨ (settleC nm L = 0 ∧ L' = putL (fresh nm (newV nm L) (newX nm L)) L)) := by
  by_cases hm : settleC nm L = 0
  · exact ⟨_, h.half (hp.yes hm) hp.chg (fun k hk ho => off_put ho (offE_old ho.2.2).2 (nil_off k)), .inr ⟨hm, rfl⟩⟩
  · exact ⟨L, h.half (hp.no hm) hp.chg (fun k hk ho => ho), .inl ⟨hm, rfl⟩⟩

theorem Half.settle2 {L' : List Ent} (hs : Same L R) (h : Half w0 w1 p b L' q sv0 sv R own ys bx box) (hL : (settleC nm L ≠ 0 ∧ L' = L) ∨ (settleC nm L = 0 ∧ L' = putL (fresh nm (newV nm L) (newX nm L)) L)) (hp : RSettle w1 w2 q sv nm R) : ∃ sv' R', Mid w0 w2 p b L' q sv0 sv' R' own ys bx box := by
  have hm := hs.settle nm
  rcases hL with ⟨h1, rfl⟩ | ⟨h1, rfl⟩
  · rw [hm] at h1
    exact ⟨sv, R, h.mid (hp.no h1) hp.chg (fun k _ x => x) (fun k e => .inl e) hs⟩
  · rw [hm] at h1
    refine ⟨sv, _, h.mid (hp.yes h1) hp.chg (fun k hk x => offE_put x (offE_old x).2 (nil_off k)) (fun k e => .inl e) (hs.put ?_)⟩
    simp only [lg, fresh, hs.newX nm]

theorem Mid.remove1 (h : Mid w0 w p b L q sv0 sv R own ys bx box) (hp : RemovePost w w1 p b nm L) : Half w0 w1 p b (delL nm L) q sv0 sv R own ys bx box :=
  h.half hp.st hp.chg (fun k hk ho => ⟨ho.1, ho.2.1, offE_del ho.2.2⟩)

theorem Half.remove2 (hs : Same L R) (h : Half w0 w1 p b (delL nm L) q sv0 sv R own ys bx box) (hp : RRemove w1 w2 q sv nm R) : ∃ sv' R', Mid w0 w2 p b (delL nm L) q sv0 sv' R' own ys bx box := by
  obtain ⟨sv', hst, hrow⟩ := hp.st
  exact ⟨sv', _, h.mid hst hp.chg (fun k hk x => offE_del x) hrow (hs.del nm)⟩
end
end Go.Proofs.Ytpabijfamnghjaa
