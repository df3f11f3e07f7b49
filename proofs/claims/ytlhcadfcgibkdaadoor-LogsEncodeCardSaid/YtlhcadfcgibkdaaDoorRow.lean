/-
  A row of pairs of our own: its cells, and append onto it.
-/
import Derived.Test.YtlhcadfcgibkdaaDoorHead
import Derived.Maps.AppendAt
namespace Go.Proofs.YtlhcadfcgibkdaaDoor
open Go.RowKit
set_option linter.unusedVariables false
set_option maxRecDepth 100000

def pairL (p : PairD) : List Value := [.string p.key, .bool p.isNum, .int .u64 p.num, .string p.text]
def rowP (ps : List PairD) : List Value := ps.flatMap pairL

theorem rowP_len : ∀ R : List PairD, (rowP R).length = R.length * 4
  | [] => rfl
  | e :: R => by
    have := rowP_len R
    unfold rowP at this ⊢
    simp only [List.flatMap_cons, List.length_append, this, List.length_cons]
    simp [pairL]
    omega

theorem rowP_get : ∀ (R : List PairD) (i j : Nat) (e : PairD), R[i]? = some e → j < 4 → (rowP R)[i * 4 + j]? = (pairL e)[j]?
  | [], i, j, e, h, _ => by simp at h
  | x :: R, 0, j, e, h, hj => by
    simp at h
    subst h
    unfold rowP
    simp only [List.flatMap_cons]
    rw [List.getElem?_append_left (by simp [pairL]; omega)]
    simp
  | x :: R, i + 1, j, e, h, hj => by
    have := rowP_get R i j e (by simpa using h) hj
    unfold rowP at this ⊢
    simp only [List.flatMap_cons]
    rw [List.getElem?_append_right (by simp [pairL]; omega), ← this]
    congr 1
    simp [pairL]
    omega

theorem rowP_app (A B : List PairD) : rowP (A ++ B) = rowP A ++ rowP B := by unfold rowP; simp
theorem rowP_one (ps : List PairD) : ∀ u ∈ rowP ps, u.oneCell' = true := by
  intro u hu
  obtain ⟨p, _, hu⟩ := List.mem_flatMap.1 hu
  simp only [pairL, List.mem_cons, List.not_mem_nil, or_false] at hu
  rcases hu with rfl | rfl | rfl | rfl <;> rfl

theorem Tryd.info28 : (Tryd.prog.info? 28).map (fun i => (i.zero, i.size, i.bytes)) = some (some (.agg #[.string ⟨#[]⟩, .bool false, .int .u64 0, .string ⟨#[]⟩]), 4, 48) := by kernel_rfl

/-- What is appended: nothing, or what lies somewhere. -/
def SrcP (w : World) (sv : Value) (m : Nat) (news : List Value) : Prop :=
  (sv = .slice none 0 0 ∧ m = 0 ∧ news = []) ∨ ∃ ad c, sv = .slice (some ad) m c ∧ news.length = m * 4 ∧ ∀ j u, news[j]? = some u → w.cell? (ad.add j) = some u

theorem SrcP.of {w : World} {ao : Option Addr} {n c : Nat} {ps : List PairD} (h : PRd w (.slice ao n c) ps) (h0 : ao = none → c = 0) : SrcP w (.slice ao n c) ps.length (rowP ps) := by
  obtain ⟨ao, n, c, e, hn, hc, hm, hx⟩ := h
  cases e
  cases ao with
  | none =>
    have hps : ps = [] := by
      cases ps with
      | nil => rfl
      | cons p ps =>
        obtain ⟨_, g, off, e, _⟩ := hx 0 p rfl
        cases e
    subst hps
    have := h0 rfl
    subst this
    have : n = 0 := hn
    subst this
    exact .inl ⟨rfl, rfl, rfl⟩
  | some ad =>
    right
    refine ⟨ad, c, by rw [hn], rowP_len ps, fun j u hj => ?_⟩
    have hjl := (List.getElem?_eq_some_iff.1 hj).1
    rw [rowP_len] at hjl
    have hi : j / 4 < ps.length := by omega
    have hat : ps[j / 4]? = some (ps[j / 4]'hi) := by simp
    obtain ⟨_, g, off, e, _, c0, c1, c2, c3⟩ := hx (j / 4) _ hat
    cases e
    have hg := rowP_get ps (j / 4) (j % 4) _ hat (by omega)
    rw [show j / 4 * 4 + j % 4 = j by omega, hj] at hg
    rw [Addr.add_lit]
    have hr : j % 4 = 0 ∨ j % 4 = 1 ∨ j % 4 = 2 ∨ j % 4 = 3 := by omega
    rcases hr with hr | hr | hr | hr
    · rw [hr] at hg; simp [pairL] at hg; rw [hg, show off + j = off + j / 4 * 4 by omega]; exact c0
    · rw [hr] at hg; simp [pairL] at hg; rw [hg, show off + j = off + j / 4 * 4 + 1 by omega]; exact c1
    · rw [hr] at hg; simp [pairL] at hg; rw [hg, show off + j = off + j / 4 * 4 + 2 by omega]; exact c2
    · rw [hr] at hg; simp [pairL] at hg; rw [hg, show off + j = off + j / 4 * 4 + 3 by omega]; exact c3

theorem step_appP {ops : Array Oper} {o : Oper} {a : Act} {w : World} {K : Act → World → Prop} {Q : Exit → Act → World → Prop} {E : Prop}
    (hg : o.guard = none) (s x : Operand) (hop : o.op = Op.call { callee := Callee.builtin Builtin.append, args := #[s, x], argTypes := #[23, 23] })
    (v sv : Value) (n m : Nat) (xs news : List Value) (hs : a.eval s = v) (hx : a.eval x = sv) (hv : w.ownsRow 0 28 4 v n xs) (hr : SrcP w sv m news) (h1 : ∀ u ∈ news, u.oneCell' = true) (hb : (n + m) * 48 ≤ 140737488355328)
    (hK : ∀ v' w', w'.ownsRow 0 28 4 v' (n + m) (xs ++ news) → w.grownBy w' v.ownBlock → (v'.ownBlock = v.ownBlock ∨ v'.ownBlock = some w.heap.size) → K (a.put o.dst v') w') :
    if Region.wanted o (yielded ops a.tmps) = true then Oper.wp Tryd.prog o a w K Q else E := by
  have hw : Region.wanted o (yielded ops a.tmps) = true := by simp [Region.wanted, hg]
  rw [if_pos hw]
  obtain ⟨i, hi, hz, hsz, hby⟩ := info_parts Tryd.info28
  rcases hr with ⟨rfl, rfl, rfl⟩ | ⟨ad, c, rfl, hl, hc⟩
  · have hrun := run_append_owned_none (P := Tryd.prog) w 0 23 o.type 28 i 4 Tryd.underlying23 hi v n xs hv
    unfold Oper.wp
    simp [execOp, hop, resolve, invoke, builtin, hs, hx, hrun, Result.andThen]
    exact hK v w (by simpa using hv) ⟨rfl, rfl, rfl, Nat.le_refl _, fun _ _ _ => rfl⟩ (.inl rfl)
  · have hms : maxLen = 9223372036854775807 := rfl
    obtain ⟨v', w', hrun, h2, h3, -, h5⟩ := run_append_own_at (P := Tryd.prog) w 0 23 o.type 28 i _ 4 48 Tryd.underlying23 hi hz hsz hby rfl (by decide) v n xs hv ad m c news hl hc h1 (by omega) hb (Nat.zero_le _)
    unfold Oper.wp
    simp [execOp, hop, resolve, invoke, builtin, hs, hx, hrun, Result.andThen]
    exact hK v' w' h2 h3 h5

/-- A row of pairs of our own, read as a slice of its first n. -/
theorem PRd.of_row {w : World} {g cap : Nat} {ps qs : List PairD} (h : w.ownsRow 0 28 4 (.slice (some ⟨g, 0, none⟩) (ps ++ qs).length cap) (ps ++ qs).length (rowP (ps ++ qs))) (hok : ∀ p ∈ ps, p.Ok) : PRd w (.slice (some ⟨g, 0, none⟩) ps.length cap) ps := by
  rcases h.2 with ⟨e, _⟩ | ⟨g', cap', cur, e, hbg, hg, hnc, hcm, hcs, htake⟩
  · cases e
  · cases e
    have hcell : ∀ i j p, ps[i]? = some p → j < 4 → w.cell? ⟨g, 0 + i * 4 + j, none⟩ = (pairL p)[j]? := by
      intro i j p hp hj
      have hlt := (List.getElem?_eq_some_iff.1 hp).1
      have h2 : (ps ++ qs)[i]? = some p := by rw [List.getElem?_append_left hlt]; exact hp
      rw [← rowP_get _ i j p h2 hj, ← htake, List.getElem?_take, if_pos (by simp; omega), cell_of_row w g (0 + i * 4 + j) cur 28 (0, 0) hg]
      simp
    refine ⟨_, _, _, rfl, rfl, by simp at hnc; omega, hcm, fun i p hp => ⟨hok p (List.mem_of_getElem? hp), g, 0, rfl, (Array.getElem?_eq_some_iff.1 hg).1, ?_, ?_, ?_, ?_⟩⟩
    · exact hcell i 0 p hp (by omega)
    · exact hcell i 1 p hp (by omega)
    · exact hcell i 2 p hp (by omega)
    · exact hcell i 3 p hp (by omega)
end Go.Proofs.YtlhcadfcgibkdaaDoor
