/-
  The program's store and the document's, side by side.
-/
import Derived.Test.YtpabijfamnghjaaRef5
import Derived.Test.YtpabijfamnghjaaRef6
import Derived.Test.YtpabijfamnghjaaRef7
namespace Go.Proofs.Ytpabijfamnghjaa
open Go.RowKit
set_option linter.unusedVariables false

/-- What a file is, without where it lies. -/
def lg (e : Ent) : List UInt8 × List Int × Bool × List Int × Nat := (e.name, e.xo, e.torn, e.xf, e.n)
def Same (L R : List Ent) : Prop := L.map lg = R.map lg

theorem Same.len {L R : List Ent} (h : Same L R) : L.length = R.length := by have := congrArg List.length h; simpa using this

theorem Same.find {L R : List Ent} (h : Same L R) (nm : List UInt8) : (findL nm L).map lg = (findL nm R).map lg := by
  have e1 : ∀ Q : List Ent, (findL nm Q).map lg = (Q.map lg).find? (fun t => t.1 == nm) := fun Q => by rw [List.find?_map]; rfl
  rw [e1, e1, h]

theorem Same.cases {L R : List Ent} (h : Same L R) (nm : List UInt8) : (findL nm L = none ∧ findL nm R = none) ∨ ∃ e f, findL nm L = some e ∧ findL nm R = some f ∧ lg e = lg f := by
  have := h.find nm
  cases h1 : findL nm L with
  | none =>
    cases h2 : findL nm R with
    | none => exact .inl ⟨rfl, rfl⟩
    | some f => rw [h1, h2] at this; cases this
  | some e =>
    cases h2 : findL nm R with
    | none => rw [h1, h2] at this; cases this
    | some f => rw [h1, h2] at this; exact .inr ⟨e, f, rfl, rfl, by simpa using this⟩

theorem lg_parts {e f : Ent} (h : lg e = lg f) : e.name = f.name ∧ e.xo = f.xo ∧ e.torn = f.torn ∧ e.xf = f.xf ∧ e.n = f.n := by
  unfold lg at h
  simpa using h

theorem Same.may {L R : List Ent} (h : Same L R) (nm : List UInt8) (len : Nat) : mayL nm len L = mayL nm len R := by
  unfold mayL
  rw [h.len]
  rcases h.cases nm with ⟨h1, h2⟩ | ⟨e, f, h1, h2, _⟩ <;> rw [h1, h2] <;> simp

theorem Same.torn {L R : List Ent} (h : Same L R) (nm : List UInt8) : tornL nm L = tornL nm R := by
  unfold tornL
  rcases h.cases nm with ⟨h1, h2⟩ | ⟨e, f, h1, h2, h3⟩ <;> rw [h1, h2]
  exact (lg_parts h3).2.2.1

theorem Same.tear {L R : List Ent} (h : Same L R) (nm : List UInt8) (len : Nat) (n : Int) : tearC nm len n L = tearC nm len n R := by
  unfold tearC
  rw [h.may, h.torn]

theorem Same.settle {L R : List Ent} (h : Same L R) (nm : List UInt8) : settleC nm L = settleC nm R := by
  unfold settleC
  rcases h.cases nm with ⟨h1, h2⟩ | ⟨e, f, h1, h2, h3⟩ <;> rw [h1, h2]
  simp only [(lg_parts h3).2.2.1]

theorem Same.remove {L R : List Ent} (h : Same L R) (nm : List UInt8) : removeC nm L = removeC nm R := by
  unfold removeC
  rcases h.cases nm with ⟨h1, h2⟩ | ⟨e, f, h1, h2, h3⟩ <;> rw [h1, h2]

theorem Same.read {L R : List Ent} (h : Same L R) (nm : List UInt8) : readR nm L = readR nm R := by
  unfold readR
  rcases h.cases nm with ⟨h1, h2⟩ | ⟨e, f, h1, h2, h3⟩ <;> rw [h1, h2]

theorem Same.seen {L R : List Ent} (h : Same L R) (nm : List UInt8) : seenL nm L = seenL nm R := by
  unfold seenL
  rcases h.cases nm with ⟨h1, h2⟩ | ⟨e, f, h1, h2, h3⟩ <;> rw [h1, h2]
  obtain ⟨_, h4, _, h5, h6⟩ := lg_parts h3
  simp only [seenE, h4, h5, h6]

theorem Same.oldX {L R : List Ent} (h : Same L R) (nm : List UInt8) : Ytpabijfamnghjaa.oldX nm L = Ytpabijfamnghjaa.oldX nm R := by
  unfold Ytpabijfamnghjaa.oldX
  rcases h.cases nm with ⟨h1, h2⟩ | ⟨e, f, h1, h2, h3⟩ <;> rw [h1, h2]
  exact (lg_parts h3).2.1

theorem Same.newX {L R : List Ent} (h : Same L R) (nm : List UInt8) : Ytpabijfamnghjaa.newX nm L = Ytpabijfamnghjaa.newX nm R := by
  unfold Ytpabijfamnghjaa.newX
  rcases h.cases nm with ⟨h1, h2⟩ | ⟨e, f, h1, h2, h3⟩ <;> rw [h1, h2]
  exact (lg_parts h3).2.2.2.1

theorem Same.del {L R : List Ent} (h : Same L R) (nm : List UInt8) : Same (delL nm L) (delL nm R) := by
  have e1 : ∀ Q : List Ent, (delL nm Q).map lg = (Q.map lg).filter (fun t => !(t.1 == nm)) := fun Q => by rw [List.filter_map]; rfl
  unfold Same
  rw [e1, e1, h]

def insT (t : List UInt8 × List Int × Bool × List Int × Nat) : List (List UInt8 × List Int × Bool × List Int × Nat) → List (List UInt8 × List Int × Bool × List Int × Nat)
  | [] => [t]
  | y :: r => if bytesBefore t.1 y.1 then t :: y :: r else y :: insT t r

theorem ins_lg (e : Ent) : ∀ Q : List Ent, (insL e Q).map lg = insT (lg e) (Q.map lg)
  | [] => rfl
  | y :: r => by
    have h : bytesBefore (lg e).1 (lg y).1 = bytesBefore e.name y.name := rfl
    simp only [insL, List.map_cons, insT, h]
    split
    · rfl
    · rw [List.map_cons, ins_lg e r]

theorem Same.put {L R : List Ent} (h : Same L R) {e f : Ent} (hef : lg e = lg f) : Same (putL e L) (putL f R) := by
  have hd := h.del e.name
  unfold Same putL at *
  rw [ins_lg, ins_lg, hef, hd, (lg_parts hef).1]

theorem Same.names {L R : List Ent} (h : Same L R) : namesL L = namesL R := by
  have e1 : ∀ Q : List Ent, namesL Q = (Q.map lg).map (fun t => t.1) := fun Q => by unfold namesL; rw [List.map_map]; rfl
  rw [e1, e1, h]

/-! Where both lie. -/
theorem St.by_ref {w w' : World} {p b q : Nat} {sv : Value} {L R : List Ent} (h : St w p b L) (hr : RSt w q sv R) (hc : Chg (QS q sv) w w') : St w' p b L := by
  refine h.chg hc (fun k hk => ?_)
  have hblk : ∃ cur t, w.heap[k]? = some (.cells cur t (0, 0)) ∧ t ≠ 52 ∧ t ≠ 5 := by
    rcases hk with rfl | hk
    · exact ⟨_, _, hr.blk, by decide, by decide⟩
    · rcases hr.row.2 with ⟨e, _⟩ | ⟨g, cap, cur, e, _, hb, _⟩
      · rw [e] at hk; simp [Value.ownBlock] at hk
      · rw [e] at hk; simp [Value.ownBlock] at hk; subst hk; exact ⟨_, _, hb, by decide, by decide⟩
  obtain ⟨cur, t, hb, h52, h5⟩ := hblk
  refine ⟨fun e => ?_, fun e => ?_, fun e he => ⟨fun x => ?_, fun x => ?_⟩⟩
  · subst e; rw [h.blk] at hb; cases hb; exact h52 rfl
  · subst e
    obtain ⟨es, clock, hm, _⟩ := h.map
    rw [hm] at hb; cases hb
  · obtain ⟨cur', hc'⟩ := (h.ent e he).old.blk k x
    rw [hc'] at hb; cases hb; exact h5 rfl
  · obtain ⟨cur', hc'⟩ := (h.ent e he).new.blk k x
    rw [hc'] at hb; cases hb; exact h5 rfl

theorem RSt.by_prog {w w' : World} {p b q : Nat} {sv : Value} {L R : List Ent} (hr : RSt w q sv R) (h : St w p b L) (hc : Chg (One b) w w') : RSt w' q sv R := by
  refine hr.keep (fun k hk hx => hc.block k hk (fun e => ?_))
  cases e
  obtain ⟨es, clock, hm, _⟩ := h.map
  rcases hx with rfl | hx | ⟨e, he, hx⟩
  · rw [hr.blk] at hm; cases hm
  · rcases hr.row.2 with ⟨e, _⟩ | ⟨g, cap, cur, e, _, hb, _⟩
    · rw [e] at hx; simp [Value.ownBlock] at hx
    · rw [e] at hx; simp [Value.ownBlock] at hx; subst hx; rw [hb] at hm; cases hm
  · rcases hx with hx | hx
    · obtain ⟨cur', hc'⟩ := (hr.ent e he).old.blk _ hx
      rw [hc'] at hm; cases hm
    · obtain ⟨cur', hc'⟩ := (hr.ent e he).new.blk _ hx
      rw [hc'] at hm; cases hm

/-- Block k is none of either's. -/
def OffB (p b : Nat) (L : List Ent) (q : Nat) (sv : Value) (R : List Ent) (k : Nat) : Prop :=
  Off p b L k ∧ k ≠ q ∧ sv.ownBlock ≠ some k ∧ ∀ e ∈ R, e.vo.ownBlock ≠ some k ∧ e.vf.ownBlock ≠ some k

/-- Both stores, with the same files. -/
structure Both (w : World) (p b : Nat) (L : List Ent) (q : Nat) (sv : Value) (R : List Ent) : Prop where
  a : St w p b L
  r : RSt w q sv R
  same : Same L R

theorem RSt.off {w : World} {q : Nat} {sv : Value} {R : List Ent} (h : RSt w q sv R) {k : Nat} (hk : w.heap.size ≤ k) : k ≠ q ∧ sv.ownBlock ≠ some k ∧ ∀ e ∈ R, e.vo.ownBlock ≠ some k ∧ e.vf.ownBlock ≠ some k :=
  ⟨fun e => by have := h.lt; omega, fun e => by have := (h.row.lt k e).2; omega, fun e he => ⟨fun x => by have := (h.ent e he).old.lt k x; omega, fun x => by have := (h.ent e he).new.lt k x; omega⟩⟩

theorem Both.off {w : World} {p b : Nat} {L : List Ent} {q : Nat} {sv : Value} {R : List Ent} (h : Both w p b L q sv R) {k : Nat} (hk : w.heap.size ≤ k) : OffB p b L q sv R k := ⟨h.a.off hk, h.r.off hk⟩

theorem Both.chg {w w' : World} {p b : Nat} {L : List Ent} {q : Nat} {sv : Value} {R : List Ent} {S : Nat → Prop} (h : Both w p b L q sv R) (hc : Chg S w w') (hS : ∀ k, S k → OffB p b L q sv R k) : Both w' p b L q sv R := by
  refine ⟨h.a.chg hc (fun k x => (hS k x).1), h.r.keep (fun k hk hx => hc.block k hk (fun x => ?_)), h.same⟩
  obtain ⟨-, h1, h2, h3⟩ := hS k x
  rcases hx with e | e | ⟨e, he, hx⟩
  · exact h1 e
  · exact h2 e
  · rcases hx with hx | hx
    · exact (h3 e he).1 hx
    · exact (h3 e he).2 hx

theorem Both.non {w w' : World} {p b : Nat} {L : List Ent} {q : Nat} {sv : Value} {R : List Ent} (h : Both w p b L q sv R) (hc : Chg Non w w') : Both w' p b L q sv R := h.chg hc (fun k x => x.elim)
end Go.Proofs.Ytpabijfamnghjaa
