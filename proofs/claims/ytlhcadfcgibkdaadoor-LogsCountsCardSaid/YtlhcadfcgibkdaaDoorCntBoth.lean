/-
  A log's counters and the law's own list of them: what a call to both leaves.
-/
import Derived.Test.YtlhcadfcgibkdaaDoorCntAll
import Derived.Test.YtlhcadfcgibkdaaDoorCntRef2
import Derived.Test.YtlhcadfcgibkdaaDoorHead
namespace Go.Proofs.YtlhcadfcgibkdaaDoor
open Go.RowKit
set_option linter.unusedVariables false
set_option maxRecDepth 100000

/-- What a count answers, and what it makes of the counters. -/
def cntE (s : ByteArray) : Int := if isWd s.data.toList then 0 else 31
def cntK (s : ByteArray) (n : Nat) (L : List Ent) : List Ent := if isWd s.data.toList then putL ⟨s.data.toList, cntV s.data.toList n L⟩ L else L

theorem cntK_len (s : ByteArray) (n : Nat) (L : List Ent) : (cntK s n L).length ≤ L.length + 1 := by
  unfold cntK
  split
  · unfold putL
    rw [len_ins]
    have : (delL s.data.toList L).length ≤ L.length := List.length_filter_le _ _
    exact Nat.succ_le_succ this
  · omega

/-- What the document's Count leaves. -/
structure RefS (w w' : World) (v v' : Value) (K : List Ent) : Prop where
  own : COwn w' v' K
  chg : Chg Non w w'
  new : ∀ k, v'.ownBlock = some k → v.ownBlock = some k ∨ w.heap.size ≤ k

theorem refCount_all (v : Value) (R : List Ent) (s : ByteArray) (n : Nat) (w : World) (h : COwn w v R) (hs : s.size ≤ 9223372036854775807) (hn : n < 18446744073709551616) (hR : ∀ e ∈ R, e.n < 18446744073709551616) (hb : (R.length + 1) * 24 ≤ 140737488355328) (hr : Rise R) :
    Calls Tryd.prog 18 #[v, .string s, .int .u64 n] w fun e w' => ∃ ao nn c, e = .returned (.tuple #[.slice ao nn c, .int .i64 (cntE s)]) ∧ RefS w w' v (.slice ao nn c) (cntK s n R) := by
  unfold cntE cntK
  cases hw : isWd s.data.toList
  · obtain ⟨ao, c, e, -⟩ := h.shape
    refine (refCount_no v s n w hs hw ⟨_, _, _, e⟩).mono ?_
    rintro e' w' ⟨rfl, rfl⟩
    subst e
    exact ⟨_, _, _, rfl, h, Chg.refl _ _, fun k x => .inl x⟩
  · refine (refCount_yes v R s n w h hs hn hR hb hw).mono ?_
    rintro e' w' ⟨v', rfl, hP⟩
    have hP' := hP
    rw [goR_put _ _ _ hr] at hP'
    obtain ⟨ao, nn, c, rfl⟩ := shapeC hP.own
    exact ⟨_, _, _, rfl, hP'.own, hP'.chg, fun k x => .inr (hP'.new k x)⟩

theorem count_all (p b : Nat) (L : List Ent) (s : ByteArray) (n : Nat) (w : World) (h : CntSt w p b L) (hs : s.size ≤ 9223372036854775807) (hn : n < 18446744073709551616) (hl : L.length < maxLen) :
    Calls Tryd.prog 19 #[.pointer (some ⟨p, 0, none⟩), .string s, .int .u64 n] w fun e w' => e = .returned (.int .i64 (cntE s)) ∧ CntSt w' p b (cntK s n L) ∧ Chg (One b) w w' := by
  unfold cntE cntK
  cases hw : isWd s.data.toList
  · refine (count_no p b L s n w hs hw).mono ?_
    rintro e' w' ⟨rfl, rfl⟩
    exact ⟨rfl, h, Chg.refl _ _⟩
  · exact count_yes p b L s n w h hn hl hw

/-- Within the law: the log's counters, and the law's list. -/
structure Both (w wr : World) (p b : Nat) (L : List Ent) (wv : Value) (K : List Ent) : Prop where
  st : CntSt wr p b L
  want : COwn wr wv K
  chg : Chg Non w wr
  np : w.heap.size ≤ p
  nb : w.heap.size ≤ b
  nw : ∀ j, wv.ownBlock = some j → w.heap.size ≤ j

theorem COwn.blk {w : World} {v : Value} {R : List Ent} (h : COwn w v R) {k : Nat} (e : v.ownBlock = some k) : ∃ c, w.heap[k]? = some (.cells c 56 (0, 0)) := by
  rcases h.2 with ⟨rfl, _⟩ | ⟨g, cap, cur, rfl, _, hg, _⟩
  · simp [Value.ownBlock] at e
  · simp [Value.ownBlock] at e
    subst e
    exact ⟨cur, hg⟩

theorem Both.sepB {w wr : World} {p b : Nat} {L : List Ent} {wv : Value} {K : List Ent} (h : Both w wr p b L wv K) : wv.ownBlock ≠ some b := by
  intro e
  obtain ⟨c, hc⟩ := h.want.blk e
  obtain ⟨es, c', hb⟩ := h.st.map.obj
  rw [hc] at hb
  cases hb

theorem Both.non {w wr w2 : World} {p b : Nat} {L : List Ent} {wv : Value} {K : List Ent} (h : Both w wr p b L wv K) (hc : Chg Non wr w2) : Both w w2 p b L wv K :=
  ⟨h.st.non hc, h.want.keep (fun k e => hc.block k (h.want.lt k e) (fun x => x)), h.chg.trans hc (fun _ _ x => x), h.np, h.nb, h.nw⟩

theorem Both.ref {w wr w2 : World} {p b : Nat} {L : List Ent} {wv v2 : Value} {K K2 : List Ent} (h : Both w wr p b L wv K) (hR : RefS wr w2 wv v2 K2) : Both w w2 p b L v2 K2 := by
  refine ⟨h.st.non hR.chg, hR.own, h.chg.trans hR.chg (fun _ _ x => x), h.np, h.nb, fun j e => ?_⟩
  rcases hR.new j e with x | x
  · exact h.nw j x
  · have := h.chg.size; omega

theorem Both.cnt {w wr w2 : World} {p b : Nat} {L L2 : List Ent} {wv : Value} {K : List Ent} (h : Both w wr p b L wv K) (hs : CntSt w2 p b L2) (hc : Chg (One b) wr w2) : Both w w2 p b L2 wv K := by
  refine ⟨hs, h.want.keep (fun k e => hc.block k (h.want.lt k e) (fun x => h.sepB (by cases x; exact e))), h.chg.trans hc (fun i hi e => ?_), h.np, h.nb, h.nw⟩
  cases e
  have := h.nb
  show False
  omega

theorem Both.turn {w wr w2 : World} {p b : Nat} {L : List Ent} {wv : Value} {K : List Ent} (h : Both w wr p b L wv K) {g : Nat} (hc : Chg (One g) wr w2) (hg : w.heap.size ≤ g) (hp : p ≠ g) (hb : b ≠ g) (hw : wv.ownBlock ≠ some g) : Both w w2 p b L wv K :=
  ⟨h.st.keep hc (fun x => hp x) (fun x => hb x), h.want.keep (fun k e => hc.block k (h.want.lt k e) (fun x => hw (by cases x; exact e))), h.chg.trans hc (fun i hi e => by cases e; show False; omega), h.np, h.nb, h.nw⟩

/-- What is left to be held of the list that was got, and may be written. -/
structure Got (w : World) (g : Nat) (L : List Ent) (j : Nat) : Prop where
  cur : ∃ cur, w.heap[g]? = some (.cells cur 56 (0, 0)) ∧ ∀ t e, j ≤ t → L[t]? = some e → cur[t * 2]? = some (.string ⟨e.name.toArray⟩) ∧ cur[t * 2 + 1]? = some (.int .u64 e.n)

theorem Got.start {w : World} {g cap : Nat} {L : List Ent} (h : COwn w (.slice (some ⟨g, 0, none⟩) L.length cap) L) : Got w g L 0 := by
  rcases h.2 with ⟨e', _⟩ | ⟨g', cap', cur, e', hbg, hg, hnc, hcm, hcs, htake⟩
  · cases e'
  · cases e'
    refine ⟨cur, hg, fun t e _ hat => ?_⟩
    have h0 := h.cell hat 0 (by omega)
    have h1 := h.cell hat 1 (by omega)
    rw [cell_of_row w g _ cur 56 (0, 0) hg] at h0 h1
    exact ⟨h0, h1⟩

theorem Got.cell {w : World} {g : Nat} {L : List Ent} {j : Nat} {e : Ent} (h : Got w g L j) (he : L[j]? = some e) : w.cell? ⟨g, j * 2, none⟩ = some (.string ⟨e.name.toArray⟩) ∧ w.cell? ⟨g, j * 2 + 1, none⟩ = some (.int .u64 e.n) ∧ w.frozen? ⟨g, j * 2 + 1, none⟩ = false := by
  obtain ⟨cur, hg, hc⟩ := h.cur
  obtain ⟨h0, h1⟩ := hc j e (Nat.le_refl _) he
  refine ⟨?_, ?_, by simp [World.frozen?, hg]⟩
  · rw [cell_of_row w g _ cur 56 (0, 0) hg]; exact h0
  · rw [cell_of_row w g _ cur 56 (0, 0) hg]; exact h1

theorem Got.keep {w w' : World} {g : Nat} {L : List Ent} {j : Nat} (h : Got w g L j) (hk : w'.heap[g]? = w.heap[g]?) : Got w' g L j := by
  obtain ⟨cur, hg, hc⟩ := h.cur
  exact ⟨cur, hk.trans hg, hc⟩

theorem Got.lt {w : World} {g : Nat} {L : List Ent} {j : Nat} (h : Got w g L j) : g < w.heap.size := by
  obtain ⟨cur, hg, hc⟩ := h.cur
  exact (Array.getElem?_eq_some_iff.1 hg).1

theorem Got.step {w : World} {g : Nat} {L : List Ent} {j : Nat} (h : Got w g L j) (u : Value) : Got (w.setCell ⟨g, j * 2 + 1, none⟩ u) g L (j + 1) := by
  obtain ⟨cur, hg, hc⟩ := h.cur
  refine ⟨_, heap_setCell_same w g _ cur 56 u hg, fun t e ht hat => ?_⟩
  obtain ⟨h0, h1⟩ := hc t e (by omega) hat
  refine ⟨?_, ?_⟩
  · rw [Array.getElem?_setIfInBounds_ne (by omega)]; exact h0
  · rw [Array.getElem?_setIfInBounds_ne (by omega)]; exact h1
end Go.Proofs.YtlhcadfcgibkdaaDoor
