/-
  The document's store: its files in a list by rising names; where a name stands in it.
-/
import Derived.Test.YtpabijfamnghjaaTurn
import Derived.Test.YtpabijfamnghjaaNames
import Derived.Deep.QuietTactic
import Derived.BigQuiet
import Derived.Laws.OwnMore
namespace Go.Proofs.Ytpabijfamnghjaa
open Go.RowKit
set_option linter.unusedVariables false

/-! The order of names. -/
theorem before_irrefl' (a : List UInt8) : bytesBefore a a = false := by
  induction a with
  | nil => rfl
  | cons x r ih => simp [bytesBefore, ih]

theorem before_trans' {a b c : List UInt8} (h1 : bytesBefore a b = true) (h2 : bytesBefore b c = true) : bytesBefore a c = true := WideShapes.before_trans (a := .string a) (b := .string b) (c := .string c) h1 h2

theorem before_asymm {a b : List UInt8} (h : bytesBefore a b = true) : bytesBefore b a = false := by
  cases h2 : bytesBefore b a
  · rfl
  · have := before_trans' h h2
    rw [before_irrefl'] at this
    cases this

theorem before_total' {a b : List UInt8} (h : bytesBefore a b = false) : a = b ∨ bytesBefore b a = true := by
  by_cases e : a = b
  · exact .inl e
  · right
    rcases ChangeMaps.before_total (a := .string a) (b := .string b) ⟨a, rfl⟩ ⟨b, rfl⟩ (fun x => e (by cases x; rfl)) with h' | h'
    · have : bytesBefore a b = true := h'
      rw [h] at this; cases this
    · exact h'

theorem less_before : ∀ a b : List UInt8, Op.bytesLess a b = bytesBefore a b
  | [], [] => rfl
  | [], _ :: _ => rfl
  | _ :: _, [] => rfl
  | a :: r, b :: s => by
    unfold Op.bytesLess bytesBefore
    rw [less_before r s]

/-! The list. -/
def Rising (R : List Ent) : Prop := R.Pairwise (fun x y => bytesBefore x.name y.name = true)

theorem ins_split {e : Ent} : ∀ (A B : List Ent), (∀ x ∈ A, bytesBefore x.name e.name = true) → (∀ x ∈ B, bytesBefore e.name x.name = true) → insL e (A ++ B) = A ++ e :: B
  | [], [], _, _ => rfl
  | [], y :: r, _, h => by simp [insL, h y (by simp)]
  | x :: A, B, h1, h2 => by
    have h3 := before_asymm (h1 x (by simp))
    simp only [List.cons_append, insL, h3]
    rw [ins_split A B (fun y hy => h1 y (by simp [hy])) h2]
    rfl

/-- Place i of R is where a name stands, or would stand. -/
structure AtP (nm : List UInt8) (R : List Ent) (i : Nat) : Prop where
  le : i ≤ R.length
  low : ∀ x ∈ R.take i, bytesBefore x.name nm = true
  high : ∀ x ∈ R.drop i, bytesBefore x.name nm = false

theorem AtP.none {nm : List UInt8} {R : List Ent} {i : Nat} (h : AtP nm R i) (hf : findL nm R = .none) (e : Ent) (he : e.name = nm) : putL e R = R.take i ++ e :: R.drop i := by
  have hn : ∀ x ∈ R, x.name ≠ nm := fun x hx => by
    have := List.find?_eq_none.1 hf x hx
    simpa using this
  have hd : delL e.name R = R := by
    unfold delL
    rw [List.filter_eq_self]
    intro x hx
    simpa [he] using hn x hx
  unfold putL
  rw [hd]
  conv => lhs; rw [← List.take_append_drop i R]
  refine ins_split _ _ (fun x hx => by rw [he]; exact h.low x hx) (fun x hx => ?_)
  rw [he]
  rcases before_total' (h.high x hx) with h1 | h1
  · exact absurd h1 (hn x (List.mem_of_mem_drop hx))
  · exact h1

theorem AtP.some {nm : List UInt8} {R : List Ent} {i : Nat} {f : Ent} (h : AtP nm R i) (hr : Rising R) (hf : findL nm R = .some f) : R[i]? = .some f ∧ delL nm R = R.take i ++ R.drop (i + 1) ∧ ∀ e : Ent, e.name = nm → putL e R = R.set i e := by
  obtain ⟨h1, h2⟩ := find_name hf
  have hmem : f ∈ R.drop i := by
    rw [← List.take_append_drop i R] at h2
    rcases List.mem_append.1 h2 with h3 | h3
    · have := h.low f h3
      rw [h1, before_irrefl'] at this
      cases this
    · exact h3
  cases hB : R.drop i with
  | nil => rw [hB] at hmem; simp at hmem
  | cons g B =>
    have hrd : Rising (g :: B) := by rw [← hB]; exact hr.sublist (List.drop_sublist i R)
    obtain ⟨hg, hB2⟩ := List.pairwise_cons.1 hrd
    have hfg : f = g := by
      rw [hB] at hmem
      rcases List.mem_cons.1 hmem with e | e
      · exact e
      · have h4 := hg f e
        have h5 := h.high g (by rw [hB]; simp)
        rw [h1] at h4
        rw [h4] at h5
        cases h5
    subst hfg
    have hi : i < R.length := by
      by_cases hlt : i < R.length
      · exact hlt
      · rw [List.drop_eq_nil_of_le (by omega)] at hB; cases hB
    have hRi : R[i]? = .some f := by
      have : (R.drop i)[0]? = .some f := by rw [hB]; rfl
      rwa [List.getElem?_drop, Nat.add_zero] at this
    have hB1 : R.drop (i + 1) = B := by
      have : (R.drop i).drop 1 = B := by rw [hB]; rfl
      rwa [List.drop_drop] at this
    have hR : R = R.take i ++ f :: B := by
      conv => lhs; rw [← List.take_append_drop i R, hB]
    have hdel : delL nm R = R.take i ++ B := by
      conv => lhs; rw [hR]
      unfold delL
      rw [List.filter_append, List.filter_cons, h1]
      simp only [beq_self_eq_true, Bool.not_true, Bool.false_eq_true, if_false]
      congr 1
      · rw [List.filter_eq_self]
        intro x hx
        have := h.low x hx
        simp only [Bool.not_eq_true', beq_eq_false_iff_ne, ne_eq]
        intro e
        rw [e, before_irrefl'] at this
        cases this
      · rw [List.filter_eq_self]
        intro x hx
        have := hg x hx
        simp only [Bool.not_eq_true', beq_eq_false_iff_ne, ne_eq]
        intro e
        rw [e, h1, before_irrefl'] at this
        cases this
    refine ⟨hRi, by rw [hdel, hB1], fun e he => ?_⟩
    unfold putL
    rw [he, hdel, ins_split _ _ (fun x hx => by rw [he]; exact h.low x hx) (fun x hx => by rw [he, ← h1]; exact hg x hx)]
    rw [List.set_eq_take_append_cons_drop, if_pos hi, hB1]

theorem rising_put {e : Ent} {R : List Ent} (h : Rising R) : Rising (putL e R) := by
  have hd : Rising (delL e.name R) := h.filter _
  have hn : ∀ x ∈ delL e.name R, x.name ≠ e.name := fun x hx => (mem_del.1 hx).2
  unfold putL
  generalize delL e.name R = Q at *
  induction Q with
  | nil => simp [insL, Rising]
  | cons y r ih =>
    obtain ⟨h1, h2⟩ := List.pairwise_cons.1 hd
    unfold insL
    split
    · rename_i hb
      refine List.pairwise_cons.2 ⟨fun x hx => ?_, hd⟩
      rcases List.mem_cons.1 hx with rfl | hx
      · exact hb
      · exact before_trans' hb (h1 x hx)
    · rename_i hb
      refine List.pairwise_cons.2 ⟨fun x hx => ?_, ih h2 (fun x hx => hn x (by simp [hx]))⟩
      rcases mem_ins.1 hx with rfl | hx
      · rcases before_total' (by simpa using hb : bytesBefore x.name y.name = false) with h3 | h3
        · exact absurd h3.symm (hn y (by simp))
        · exact h3
      · exact h1 x hx

theorem rising_del {nm : List UInt8} {R : List Ent} (h : Rising R) : Rising (delL nm R) := h.filter _

/-! Its cells. -/
def cellsE (e : Ent) : List Value := [.string ⟨e.name.toArray⟩, e.vo, .bool e.torn, e.vf, .int .i64 e.n]
def rowE (R : List Ent) : List Value := R.flatMap cellsE

theorem rowE_len : ∀ R : List Ent, (rowE R).length = R.length * 5
  | [] => rfl
  | e :: R => by
    have := rowE_len R
    unfold rowE at this ⊢
    simp only [List.flatMap_cons, List.length_append, this, List.length_cons]
    simp [cellsE]
    omega

theorem rowE_get : ∀ (R : List Ent) (i j : Nat) (e : Ent), R[i]? = some e → j < 5 → (rowE R)[i * 5 + j]? = (cellsE e)[j]?
  | [], i, j, e, h, _ => by simp at h
  | x :: R, 0, j, e, h, hj => by
    simp at h
    subst h
    unfold rowE
    simp only [List.flatMap_cons]
    rw [List.getElem?_append_left (by simp [cellsE]; omega)]
    simp
  | x :: R, i + 1, j, e, h, hj => by
    have := rowE_get R i j e (by simpa using h) hj
    unfold rowE at this ⊢
    simp only [List.flatMap_cons]
    rw [List.getElem?_append_right (by simp [cellsE]; omega), ← this]
    congr 1
    simp [cellsE]
    omega

theorem rowE_take (R : List Ent) : ∀ i, (rowE R).take (i * 5) = rowE (R.take i) := by
  induction R with
  | nil => intro i; simp [rowE]
  | cons x R ih =>
    intro i
    cases i with
    | zero => simp [rowE]
    | succ i =>
      have := ih i
      unfold rowE at this ⊢
      simp only [List.flatMap_cons, List.take_succ_cons]
      rw [← this, List.take_append]
      simp [cellsE, Nat.add_mul]

theorem rowE_drop (R : List Ent) : ∀ i, (rowE R).drop (i * 5) = rowE (R.drop i) := by
  induction R with
  | nil => intro i; simp [rowE]
  | cons x R ih =>
    intro i
    cases i with
    | zero => simp [rowE]
    | succ i =>
      have := ih i
      unfold rowE at this ⊢
      simp only [List.flatMap_cons, List.drop_succ_cons]
      rw [← this, List.drop_append]
      simp [cellsE, Nat.add_mul]

theorem rowE_app (A B : List Ent) : rowE (A ++ B) = rowE A ++ rowE B := by unfold rowE; simp

/-- A store of the document's. -/
structure RSt (w : World) (q : Nat) (sv : Value) (R : List Ent) : Prop where
  blk : w.heap[q]? = some (.cells #[sv] 29 (0, 0))
  row : w.ownsRow 0 37 5 sv R.length (rowE R)
  ent : ∀ e ∈ R, EntOk w e
  len : R.length ≤ 64
  ris : Rising R

theorem RSt.lt {w : World} {q : Nat} {sv : Value} {R : List Ent} (h : RSt w q sv R) : q < w.heap.size := (Array.getElem?_eq_some_iff.1 h.blk).1

theorem RSt.cell {w : World} {q : Nat} {sv : Value} {R : List Ent} (h : RSt w q sv R) : w.cell? ⟨q, 0, none⟩ = some sv := by
  rw [cell_of_row w q 0 _ 29 (0, 0) h.blk]
  rfl

theorem RSt.shape {w : World} {q : Nat} {sv : Value} {R : List Ent} (h : RSt w q sv R) : ∃ ao c, sv = .slice ao R.length c ∧ R.length ≤ c ∧ c ≤ maxLen ∧ (ao = none → R = [] ∧ c = 0) ∧ ∀ x, ao = some x → ∃ g, x = ⟨g, 0, none⟩ := by
  rcases h.row.2 with ⟨rfl, h0⟩ | ⟨g, cap, cur, rfl, _, hb, h1, h2, h3, h4⟩
  · exact ⟨none, 0, by rw [h0], by omega, by decide, fun _ => ⟨List.eq_nil_of_length_eq_zero h0, rfl⟩, fun x e => by cases e⟩
  · exact ⟨_, cap, rfl, h1, h2, fun e => by (cases e), fun x e => by cases e; exact ⟨g, rfl⟩⟩

theorem RSt.cellE {w : World} {q g c : Nat} {R : List Ent} (h : RSt w q (.slice (some ⟨g, 0, none⟩) R.length c) R) {i : Nat} {e : Ent} (hi : R[i]? = some e) (j : Nat) (hj : j < 5) : w.cell? ⟨g, i * 5 + j, none⟩ = (cellsE e)[j]? := by
  have hlt := (List.getElem?_eq_some_iff.1 hi).1
  rw [h.row.cellAt (i * 5 + j) (by omega), rowE_get R i j e hi hj]

set_option maxRecDepth 100000 in
set_option maxHeartbeats 2000000 in
theorem at_any (q : Nat) (sv : Value) (R : List Ent) (s : ByteArray) (w : World) (h : RSt w q sv R) :
    Calls Try.prog 26 #[.pointer (some ⟨q, 0, none⟩), .string s] w fun e w' => ∃ i n, e = .returned (.tuple #[.int .i64 (i : Nat), .bool (findL s.data.toList R).isSome]) ∧ w' = w.drewN n ∧ AtP s.data.toList R i := by
  obtain ⟨ao, c, rfl, hc, hcm, hnil, hsm⟩ := h.shape
  have hms : maxLen = 9223372036854775807 := rfl
  have c0 := h.cell
  have hlen := h.len
  have H : Hid (RSt w q (.slice ao R.length c) R) := h
  clear h
  obtain ⟨rn, hrn⟩ : ∃ rn, rn = R.length := ⟨_, rfl⟩
  rw [← hrn] at c0 hlen hc
  have HN : Hid (rn = R.length) := hrn
  clear hrn
  go_enter Try.func26, Try.ntmps26
  go_wp2
  go_loopw [6] (fun i wr => ∃ k : Nat, i = .int .i64 k ∧ k ≤ rn ∧ wr = w ∧ ∀ x ∈ R.take k, bytesBefore x.name s.data.toList = true) (fun i _ => rn - (intOf i).toNat)
  case atStart => exact ⟨0, rfl, by omega, rfl, fun x hx => by simp at hx⟩
  case round =>
    obtain ⟨k, rfl, hk, rfl, hlow⟩ := hrel
    have HL : Hid (∀ x ∈ R.take k, bytesBefore x.name s.data.toList = true) := hlow
    clear hlow
    by_cases hlt : k < rn
    · obtain ⟨e, he⟩ : ∃ e, R[k]? = some e := ⟨R[k]'(by have := HN.out; omega), by simp⟩
      cases ao with
      | none => exfalso; have := (hnil rfl).1; have h2 := HN.out; rw [this] at h2; simp at h2; omega
      | some x =>
        obtain ⟨g, rfl⟩ := hsm x rfl
        have hce : wr.cell? ⟨g, k * 5, none⟩ = some (.string ⟨e.name.toArray⟩) := by have := H.out.cellE he 0 (by decide); simpa [cellsE] using this
        cases hb : Op.bytesLess e.name s.toList
        · have HB : Hid (Op.bytesLess e.name s.toList = false) := hb
          have HE : Hid (R[k]? = some e) := he
          clear he
          have hk1 : (k : Int) < rn := by omega
          go_wp2_with fail
          go_quiet (fail)
          go_wp2
          go_ret2
          have hatp : AtP s.data.toList R k := by
            refine ⟨by have := HN.out; omega, HL.out, fun x hx => ?_⟩
            have hrd : Rising (R.drop k) := H.out.ris.sublist (List.drop_sublist k R)
            have hdk : R.drop k = e :: R.drop (k + 1) := by
              have hlt' := (List.getElem?_eq_some_iff.1 HE.out).1
              rw [List.drop_eq_getElem_cons hlt']
              congr 1
              exact (List.getElem?_eq_some_iff.1 HE.out).2
            have hbe : bytesBefore e.name s.data.toList = false := by rw [← less_before, ← ByteArray.toList_eq]; exact HB.out
            rw [hdk] at hrd hx
            rcases List.mem_cons.1 hx with rfl | hx
            · exact hbe
            · cases hxb : bytesBefore x.name s.data.toList
              · rfl
              · have := before_trans' ((List.pairwise_cons.1 hrd).1 x hx) hxb
                rw [hbe] at this
                cases this
          refine ⟨k, _, ?_, rfl, hatp⟩
          have hfin : (e.name == s.toList) = (findL s.data.toList R).isSome := by
            rw [ByteArray.toList_eq]
            cases hf : findL s.data.toList R with
            | none =>
              have := List.find?_eq_none.1 hf e (List.mem_of_getElem? HE.out)
              simpa using this
            | some f =>
              have := (hatp.some H.out.ris hf).1
              rw [HE.out] at this
              cases this
              simpa using (find_name hf).1
          rw [← hfin]
          rfl
        · have HB : Hid (Op.bytesLess e.name s.toList = true) := hb
          have HE : Hid (R[k]? = some e) := he
          clear he
          go_wp2
          go_roundw
          case rel =>
            refine ⟨k + 1, by go_num, by omega, by first | rfl | trivial, fun x hx => ?_⟩
            rw [List.take_add_one, HE.out] at hx
            rcases List.mem_append.1 hx with hx | hx
            · exact HL.out x hx
            · simp at hx
              subst hx
              rw [← less_before, ← ByteArray.toList_eq]
              exact HB.out
          case measure => simp [intOf]; omega
    · have hkr : ¬ (k : Int) < rn := by omega
      go_wp2
      go_ret2
      have hkn : k = R.length := by have := HN.out; omega
      have hatp : AtP s.data.toList R k := ⟨by omega, HL.out, fun x hx => by rw [List.drop_eq_nil_of_le (by omega)] at hx; simp at hx⟩
      have hfin : (findL s.data.toList R).isSome = false := by
        cases hf : findL s.data.toList R with
        | none => rfl
        | some f =>
          have := (List.getElem?_eq_some_iff.1 (hatp.some H.out.ris hf).1).1
          omega
      have hrk : rn = k := by have := HN.out; omega
      exact ⟨k, by rw [hfin, ← hrk]; rfl, ⟨0, rfl⟩, hatp⟩
end Go.Proofs.Ytpabijfamnghjaa
