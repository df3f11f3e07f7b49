/-
  The program's reader: line.
-/
import Derived.Test.YtlhcadfcgibkdaaDoorPsF
import Derived.Test.YtlhcadfcgibkdaaDoorPsRow
import Derived.Test.YtlhcadfcgibkdaaDoorPsBack
namespace Go.Proofs.YtlhcadfcgibkdaaDoor
open Go.RowKit
set_option linter.unusedVariables false
set_option maxRecDepth 100000

/-- What a round of line's loop holds: the reader, the line's box, the result's, the pair's. -/
structure LI (w wr : World) (p : Nat) (s : ByteArray) (r : RS) (t : Nat) (ev : ByteArray) (lv : Value) (ps : List PairD) : Prop where
  rd : PR wr p s r
  chg : Chg (One p) w wr
  box : wr.heap[w.heap.size + 1]? = some (.cells #[.int .u64 t, .string ev, lv] 25 (0, 0))
  res : wr.heap[w.heap.size]? = some (.cells #[.int .u64 0, .string ⟨#[]⟩, .slice none 0 0] 25 (0, 0))
  pb : ∃ d, PairBox wr (w.heap.size + 1 + 1) d
  row : POwn wr lv ps
  ok : ∀ q ∈ ps, q.Ok
  new : ∀ k, lv.ownBlock = some k → w.heap.size + 3 ≤ k
  plt : p < w.heap.size

theorem LI.sz {w wr : World} {p : Nat} {s : ByteArray} {r : RS} {t : Nat} {ev : ByteArray} {lv : Value} {ps : List PairD} (h : LI w wr p s r t ev lv ps) : w.heap.size + 3 ≤ wr.heap.size := by
  obtain ⟨d, hd⟩ := h.pb
  have := (Array.getElem?_eq_some_iff.1 hd).1
  omega

theorem LI.read {w wr w1 : World} {p : Nat} {s : ByteArray} {r r1 : RS} {t : Nat} {ev : ByteArray} {lv : Value} {ps : List PairD} (h : LI w wr p s r t ev lv ps) (h1 : PR w1 p s r1) (hc : Chg (One p) wr w1) : LI w w1 p s r1 t ev lv ps := by
  have hs := h.sz
  have hp := h.plt
  have hk : ∀ k, w.heap.size ≤ k → k < wr.heap.size → w1.heap[k]? = wr.heap[k]? := fun k hk hl => hc.block k hl (fun e => by cases e; omega)
  obtain ⟨d, hd⟩ := h.pb
  refine ⟨h1, h.chg.trans hc (fun _ _ x => x), by rw [hk _ (by omega) (by omega)]; exact h.box, by rw [hk _ (by omega) (by omega)]; exact h.res, ⟨d, by unfold PairBox; rw [hk _ (by omega) (by omega)]; exact hd⟩, h.row.keep (fun k e => hk k (by have := h.new k e; omega) (h.row.lt k e)), h.ok, h.new, hp⟩

theorem valR_key (S : List UInt8) (K K' : ByteArray) (r : RS) : (valR S K r).1 = (valR S K' r).1 := by
  unfold valR
  split
  · rfl
  · split <;> rfl

/-- What has been read so far, where nothing is wrong and something is left. -/
structure LA (s : ByteArray) (r : RS) (t : Nat) (ev : ByteArray) (ps : List PairD) : Prop where
  bad : r.bad = false
  lt : r.pos < s.size
  len : ps.length ≤ 16
  time : t = (timeR s.data.toList).2
  ev : ev = evT s.data.toList
  all : ∃ f, s.size - r.pos < f ∧ pairsP s.data.toList f r ps = allR s.data.toList

/-- What the next pair leaves. -/
structure LB (s : ByteArray) (r3 : RS) (t : Nat) (ev : ByteArray) (qs : List PairD) : Prop where
  time : r3.bad = false → t = (timeR s.data.toList).2
  ev : r3.bad = false → ev = evT s.data.toList
  len : qs.length ≤ 17
  all : (r3.bad = true ∧ (allR s.data.toList).1 = r3) ∨ (r3.bad = false ∧ qs.length ≤ 16 ∧ ∃ f, s.size - r3.pos < f ∧ pairsP s.data.toList f r3 qs = allR s.data.toList)

theorem LA.next {s : ByteArray} {r : RS} {t : Nat} {ev : ByteArray} {ps : List PairD} (h : LA s r t ev ps) {K : ByteArray} {d : PairD} (hK : (keyR s.data.toList ps (tk s.data.toList 32 r)).bad = false → K = ⟨(wdT s.data.toList (tk s.data.toList 32 r).pos).toArray⟩)
    (hd : (valR s.data.toList K (keyR s.data.toList ps (tk s.data.toList 32 r))).1.bad = false → d = (valR s.data.toList K (keyR s.data.toList ps (tk s.data.toList 32 r))).2) :
    LB s (valR s.data.toList K (keyR s.data.toList ps (tk s.data.toList 32 r))).1 t ev (ps ++ [d]) := by
  have hsl : s.data.toList.length = s.size := by simp
  have e1 : (valR s.data.toList K (keyR s.data.toList ps (tk s.data.toList 32 r))).1 = (pairR s.data.toList ps (tk s.data.toList 32 r)).1 := valR_key _ _ _ _
  obtain ⟨f, hf, he⟩ := h.all
  have hlt := h.lt
  obtain ⟨g, rfl⟩ : ∃ g, f = g + 1 := ⟨f - 1, by omega⟩
  have e2 : pairsP s.data.toList (g + 1) r ps = pairsP s.data.toList g (pairR s.data.toList ps (tk s.data.toList 32 r)).1 (ps ++ [(pairR s.data.toList ps (tk s.data.toList 32 r)).2]) := by
    show (if r.bad = true ∨ r.pos = s.data.toList.length then _ else _) = _
    rw [if_neg]
    rintro (x | x)
    · rw [h.bad] at x; cases x
    · omega
  refine ⟨fun _ => h.time, fun _ => h.ev, by have := h.len; simp; omega, ?_⟩
  cases hb : (valR s.data.toList K (keyR s.data.toList ps (tk s.data.toList 32 r))).1.bad
  · right
    have hb2 := hb
    rw [e1] at hb2
    obtain ⟨i1, i2, i3, i4, i5⟩ := pairR_inv hb2
    have hkb : (keyR s.data.toList ps (tk s.data.toList 32 r)).bad = false := (valR_inv hb).1
    have hd2 : d = (pairR s.data.toList ps (tk s.data.toList 32 r)).2 := by
      rw [hd hb, hK hkb]
      rfl
    have hpos : 1 ≤ (pairB (pairR s.data.toList ps (tk s.data.toList 32 r)).2).length := by unfold pairB; simp
    refine ⟨rfl, by simp; omega, g, by rw [e1, i5]; omega, ?_⟩
    rw [e1, hd2, ← e2, he]
  · left
    refine ⟨rfl, ?_⟩
    rw [← he, e2, pairsP_bad (by rw [← e1]; exact hb), e1]

theorem LB.over {s : ByteArray} {r3 : RS} {t : Nat} {ev : ByteArray} {qs : List PairD} (h : LB s r3 t ev qs) (ho : ovr s r3 = true) : (allR s.data.toList).1 = r3 ∧ ((allR s.data.toList).1.bad = false → t = (timeR s.data.toList).2 ∧ ev = evT s.data.toList ∧ qs = (allR s.data.toList).2) := by
  have hsl : s.data.toList.length = s.size := by simp
  rcases h.all with ⟨e1, e2⟩ | ⟨e1, e2, f, hf, e3⟩
  · refine ⟨e2, fun x => ?_⟩
    rw [e2, e1] at x
    cases x
  · have hp : r3.pos = s.data.toList.length := by
      unfold ovr at ho
      rw [e1] at ho
      simp only [Bool.false_or, beq_iff_eq] at ho
      omega
    have e4 : pairsP s.data.toList f r3 qs = (r3, qs) := by
      cases f with
      | zero => rfl
      | succ f => show (if r3.bad = true ∨ r3.pos = s.data.toList.length then _ else _) = _; rw [if_pos (.inr hp)]
    rw [← e3, e4]
    exact ⟨rfl, fun _ => ⟨h.time e1, h.ev e1, rfl⟩⟩

theorem LB.go {s : ByteArray} {r3 : RS} {t : Nat} {ev : ByteArray} {qs : List PairD} (h : LB s r3 t ev qs) (ho : ovr s r3 = false) (hle : r3.pos ≤ s.size) : LA s r3 t ev qs := by
  unfold ovr at ho
  simp only [Bool.or_eq_false_iff, beq_eq_false_iff_ne] at ho
  rcases h.all with ⟨e1, e2⟩ | ⟨e1, e2, e3⟩
  · rw [ho.1] at e1; cases e1
  · exact ⟨e1, by omega, e2, h.time e1, h.ev e1, e3⟩

theorem LI.prd {w wr : World} {p : Nat} {s : ByteArray} {r : RS} {t : Nat} {ev : ByteArray} {lv : Value} {ps : List PairD} (h : LI w wr p s r t ev lv ps) : PRd wr lv ps := h.row.prd h.ok

theorem PairBox.fresh {w : World} {k : Nat} {d : PairD} (h : PairBox w k d) (K : ByteArray) : PairBox ((((w.setCell ⟨k, 0, none⟩ (.string K)).setCell ⟨k, 1, none⟩ (.bool false)).setCell ⟨k, 2, none⟩ (.int .u64 0)).setCell ⟨k, 3, none⟩ (.string ⟨#[]⟩)) k ⟨K, false, 0, ⟨#[]⟩⟩ := by
  unfold PairBox at *
  simp [World.setCell, Array.getElem?_modify, h]
theorem chg_fresh {w : World} {k : Nat} (a b c d : Value) : Chg (One k) w ((((w.setCell ⟨k, 0, none⟩ a).setCell ⟨k, 1, none⟩ b).setCell ⟨k, 2, none⟩ c).setCell ⟨k, 3, none⟩ d) :=
  (((chg_to 0 _).trans (chg_to 1 _) (fun _ _ x => x)).trans (chg_to 2 _) (fun _ _ x => x)).trans (chg_to 3 _) (fun _ _ x => x)

/-- The pair's box is written, by us or by value. -/
theorem LI.pair {w wr w1 : World} {p : Nat} {s : ByteArray} {r r1 : RS} {t : Nat} {ev : ByteArray} {lv : Value} {ps : List PairD} {d : PairD} (h : LI w wr p s r t ev lv ps) (h1 : PR w1 p s r1) (hd : PairBox w1 (w.heap.size + 1 + 1) d) (hc : Chg (Two p (w.heap.size + 1 + 1)) wr w1) : LI w w1 p s r1 t ev lv ps := by
  have hs := h.sz
  have hp := h.plt
  have hk : ∀ k, w.heap.size ≤ k → k < wr.heap.size → k ≠ w.heap.size + 1 + 1 → w1.heap[k]? = wr.heap[k]? := fun k hk hl hn => hc.block k hl (fun e => by rcases e with e | e <;> omega)
  refine ⟨h1, h.chg.trans hc (fun i hi x => ?_), by rw [hk _ (by omega) (by omega) (by omega)]; exact h.box, by rw [hk _ (by omega) (by omega) (by omega)]; exact h.res, ⟨d, hd⟩, h.row.keep (fun k e => hk k (by have := h.new k e; omega) (h.row.lt k e) (by have := h.new k e; omega)), h.ok, h.new, hp⟩
  rcases x with x | x
  · exact x
  · omega

/-- A pair is put behind: the list's new row, and the line's box. -/
theorem LI.put {w wr w4 : World} {p : Nat} {s : ByteArray} {r : RS} {t : Nat} {ev : ByteArray} {lv v4 : Value} {ps : List PairD} {d : PairD} (h : LI w wr p s r t ev lv ps) (hd : d.Ok) (ho : POwn w4 v4 (ps ++ [d])) (hc : Chg (fun k => lv.ownBlock = some k) wr w4) (hk : v4.ownBlock = lv.ownBlock ∨ ∃ n, v4.ownBlock = some n ∧ wr.heap.size ≤ n) :
    LI w (w4.setCell ⟨w.heap.size + 1, 2, none⟩ v4) p s r t ev v4 (ps ++ [d]) ∧ w4.heap[w.heap.size + 1]? = some (.cells #[.int .u64 t, .string ev, lv] 25 (0, 0)) := by
  have hs := h.sz
  have hp := h.plt
  have hnew : ∀ k, v4.ownBlock = some k → w.heap.size + 3 ≤ k := by
    intro k e
    rcases hk with x | ⟨n, x, hn⟩
    · exact h.new k (x ▸ e)
    · rw [x] at e
      cases e
      omega
  have hkk : ∀ k, k < w.heap.size + 3 → w4.heap[k]? = wr.heap[k]? := fun k hl => hc.block k (by omega) (fun e => by have := h.new k e; omega)
  have hb : w4.heap[w.heap.size + 1]? = some (.cells #[.int .u64 t, .string ev, lv] 25 (0, 0)) := by rw [hkk _ (by omega)]; exact h.box
  have hset : ∀ k, k ≠ w.heap.size + 1 → (w4.setCell ⟨w.heap.size + 1, 2, none⟩ v4).heap[k]? = w4.heap[k]? := fun k hn => Below.heap_setCell _ _ _ _ hn
  obtain ⟨d0, hd0⟩ := h.pb
  refine ⟨⟨⟨by rw [hset p (by omega), hkk p (by omega)]; exact h.rd.blk, h.rd.le⟩, ?_, by simp [World.setCell, Array.getElem?_modify, hb], by rw [hset _ (by omega), hkk _ (by omega)]; exact h.res, ⟨d0, by unfold PairBox; rw [hset _ (by omega), hkk _ (by omega)]; exact hd0⟩, ho.keep (fun k e => hset k (by have := hnew k e; omega)), fun q hq => ?_, hnew, hp⟩, hb⟩
  · refine Chg.setCell (h.chg.trans hc (fun i hi e => ?_)) (fun x => ?_) _
    · have := h.new i e; omega
    · simp at x; omega
  · rcases List.mem_append.1 hq with hq | hq
    · exact h.ok q hq
    · simp at hq; subst hq; exact hd

theorem LI.fin {w wr : World} {p : Nat} {s : ByteArray} {r : RS} {t : Nat} {ev : ByteArray} {lv : Value} {ps : List PairD} (h : LI w wr p s r t ev lv ps) (a b c : Value) :
    PR (((wr.setCell ⟨w.heap.size, 0, none⟩ a).setCell ⟨w.heap.size, 1, none⟩ b).setCell ⟨w.heap.size, 2, none⟩ c) p s r ∧ Chg (One p) w (((wr.setCell ⟨w.heap.size, 0, none⟩ a).setCell ⟨w.heap.size, 1, none⟩ b).setCell ⟨w.heap.size, 2, none⟩ c) ∧ POwn (((wr.setCell ⟨w.heap.size, 0, none⟩ a).setCell ⟨w.heap.size, 1, none⟩ b).setCell ⟨w.heap.size, 2, none⟩ c) lv ps := by
  have hc : Chg (One w.heap.size) wr (((wr.setCell ⟨w.heap.size, 0, none⟩ a).setCell ⟨w.heap.size, 1, none⟩ b).setCell ⟨w.heap.size, 2, none⟩ c) := ((chg_to 0 _).trans (chg_to 1 _) (fun _ _ x => x)).trans (chg_to 2 _) (fun _ _ x => x)
  have hp := h.plt
  refine ⟨h.rd.keep hc (fun e => by unfold One at e; omega), h.chg.trans hc (fun i hi e => by unfold One at e; omega), h.row.keep (fun k e => hc.block k (h.row.lt k e) (fun x => by have := h.new k e; unfold One at x; omega))⟩

theorem LI.setT {w wr : World} {p : Nat} {s : ByteArray} {r : RS} {t : Nat} {ev : ByteArray} {lv : Value} {ps : List PairD} (h : LI w wr p s r t ev lv ps) (N : Nat) : LI w (wr.setCell ⟨w.heap.size + 1, 0, none⟩ (.int .u64 N)) p s r N ev lv ps := by
  have hp := h.plt
  have hs := h.sz
  have hset : ∀ k, k ≠ w.heap.size + 1 → (wr.setCell ⟨w.heap.size + 1, 0, none⟩ (.int .u64 N)).heap[k]? = wr.heap[k]? := fun k hn => Below.heap_setCell _ _ _ _ hn
  obtain ⟨d, hd⟩ := h.pb
  exact ⟨⟨by rw [hset p (by omega)]; exact h.rd.blk, h.rd.le⟩, h.chg.setCell (fun x => by simp at x; omega) _, by simp [World.setCell, Array.getElem?_modify, h.box], by rw [hset _ (by omega)]; exact h.res, ⟨d, by unfold PairBox; rw [hset _ (by omega)]; exact hd⟩, h.row.keep (fun k e => hset k (by have := h.new k e; omega)), h.ok, h.new, hp⟩
theorem LI.setE {w wr : World} {p : Nat} {s : ByteArray} {r : RS} {t : Nat} {ev : ByteArray} {lv : Value} {ps : List PairD} (h : LI w wr p s r t ev lv ps) (E : ByteArray) : LI w (wr.setCell ⟨w.heap.size + 1, 1, none⟩ (.string E)) p s r t E lv ps := by
  have hp := h.plt
  have hs := h.sz
  have hset : ∀ k, k ≠ w.heap.size + 1 → (wr.setCell ⟨w.heap.size + 1, 1, none⟩ (.string E)).heap[k]? = wr.heap[k]? := fun k hn => Below.heap_setCell _ _ _ _ hn
  obtain ⟨d, hd⟩ := h.pb
  exact ⟨⟨by rw [hset p (by omega)]; exact h.rd.blk, h.rd.le⟩, h.chg.setCell (fun x => by simp at x; omega) _, by simp [World.setCell, Array.getElem?_modify, h.box], by rw [hset _ (by omega)]; exact h.res, ⟨d, by unfold PairBox; rw [hset _ (by omega)]; exact hd⟩, h.row.keep (fun k e => hset k (by have := h.new k e; omega)), h.ok, h.new, hp⟩

/-- Behind the event. -/
theorem LB.first {s E : ByteArray} {N : Nat} (hN : N = (timeR s.data.toList).2) (hE : (evS s.data.toList).bad = false → E = evT s.data.toList) : LB s (evR s.data.toList) N E [] := by
  have hsl : s.data.toList.length = s.size := by simp
  refine ⟨fun _ => hN, fun hb => hE (wdR_inv hb).1, by simp, ?_⟩
  cases hb : (evR s.data.toList).bad
  · exact .inr ⟨rfl, by simp, s.data.toList.length + 1, by omega, rfl⟩
  · left
    refine ⟨rfl, ?_⟩
    unfold allR
    rw [pairsP_bad hb]

theorem LI.start (w : World) {p : Nat} {s : ByteArray} (h : PR w p s ⟨0, false⟩) : LI w (((w.alloc (.cells #[.int .u64 0, .string ⟨#[]⟩, .slice none 0 0] 25)).alloc (.cells #[.int .u64 0, .string ⟨#[]⟩, .slice none 0 0] 25)).alloc (.cells #[.string ⟨#[]⟩, .bool false, .int .u64 0, .string ⟨#[]⟩] 28)) p s ⟨0, false⟩ 0 ⟨#[]⟩ (.slice none 0 0) [] := by
  have hc : Chg Non w (((w.alloc (.cells #[.int .u64 0, .string ⟨#[]⟩, .slice none 0 0] 25)).alloc (.cells #[.int .u64 0, .string ⟨#[]⟩, .slice none 0 0] 25)).alloc (.cells #[.string ⟨#[]⟩, .bool false, .int .u64 0, .string ⟨#[]⟩] 28)) := (((Chg.refl _ _).alloc _).alloc _).alloc _
  refine ⟨h.non hc, hc.non _, ?_, ?_, ⟨⟨⟨#[]⟩, false, 0, ⟨#[]⟩⟩, ?_⟩, POwn.nil _, fun q hq => by simp at hq, fun k e => by simp [Value.ownBlock] at e, h.lt⟩
  · rw [Below.heap_alloc _ _ _ (by simp)]
    exact new2 w _ _
  · rw [Below.heap_alloc _ _ _ (by simp; omega), Below.heap_alloc _ _ _ (by simp)]
    exact heap_alloc_new w _
  · have := heap_alloc_new ((w.alloc (.cells #[.int .u64 0, .string ⟨#[]⟩, .slice none 0 0] 25)).alloc (.cells #[.int .u64 0, .string ⟨#[]⟩, .slice none 0 0] 25)) (.cells #[.string ⟨#[]⟩, .bool false, .int .u64 0, .string ⟨#[]⟩] 28)
    rw [show ((w.alloc (.cells #[.int .u64 0, .string ⟨#[]⟩, .slice none 0 0] 25)).alloc (.cells #[.int .u64 0, .string ⟨#[]⟩, .slice none 0 0] 25)).heap.size = w.heap.size + 1 + 1 by simp] at this
    exact this

set_option maxHeartbeats 1000000 in
theorem line_rd (p : Nat) (s : ByteArray) (w : World) (h : PR w p s ⟨0, false⟩) (hs : s.size ≤ 1024) (h2 : 2 ≤ w.heap.size) :
    Calls Tryd.prog 31 #[.pointer (some ⟨p, 0, none⟩)] w fun e w' => ∃ (t : Nat) (ev : ByteArray) (lv : Value) (ps : List PairD), e = .returned (.agg #[.int .u64 t, .string ev, lv]) ∧ PR w' p s (allR s.data.toList).1 ∧ Chg (One p) w w' ∧ POwn w' lv ps ∧ (∀ q ∈ ps, q.Ok) ∧
      (∀ k, lv.ownBlock = some k → w.heap.size ≤ k) ∧ ((allR s.data.toList).1.bad = false → t = (timeR s.data.toList).2 ∧ ev = evT s.data.toList ∧ ps = (allR s.data.toList).2) := by
  have H : Hid (PR w p s ⟨0, false⟩) := h
  clear h
  go_enter Tryd.func31, Tryd.ntmps31
  go_wp2_with fail
  go_loopg [5] (s.size + 2) (fun m nx wr => (nx = .int .i64 0 ∧ m = s.size + 2 ∧ LI w wr p s ⟨0, false⟩ 0 ⟨#[]⟩ (.slice none 0 0) []) ∨ (nx = .int .i64 2 ∧ ∃ (r : RS) (t : Nat) (ev : ByteArray) (lv : Value) (ps : List PairD), m = s.size - r.pos ∧ LI w wr p s r t ev lv ps ∧ LA s r t ev ps))
  case atStart =>
    exact .inl ⟨rfl, rfl, LI.start w H.out⟩
  case round =>
    rcases hrel with ⟨rfl, hm, hI⟩ | ⟨rfl, r, t, ev, lv, ps, hm, hI, hA⟩
    · have HA0 : Hid (LI w wr p s ⟨0, false⟩ 0 ⟨#[]⟩ (.slice none 0 0) [] ∧ gk = s.size + 2) := ⟨hI, hm⟩
      clear hI hm
      go_wp2_with fail
      refine (literal_any p s ⟨0, false⟩ ⟨#[116, 61]⟩ _ HA0.out.1.rd hs (by decide)).mono ?_
      rintro e wa ⟨rfl, ha, hca⟩
      have Ha : Hid (LI w wa p s (tks s.data.toList [116, 61] ⟨0, false⟩) 0 ⟨#[]⟩ (.slice none 0 0) []) := HA0.out.1.read ha hca
      clear ha hca
      go_wp2_with fail
      refine (number_rd p s _ _ Ha.out.rd hs).mono ?_
      rintro e wb ⟨rfl, hb, hcb⟩
      have Hb : Hid (LI w wb p s (timeR s.data.toList).1 0 ⟨#[]⟩ (.slice none 0 0) []) := Ha.out.read hb hcb
      obtain ⟨t, ht⟩ : ∃ t, t = (nmR s.data.toList (tks s.data.toList [116, 61] ⟨0, false⟩)).2 := ⟨_, rfl⟩
      have HTm : Hid (t = (timeR s.data.toList).2) := ht
      rw [← ht]
      clear hb hcb ht Ha
      have b0 : wb.cell? ⟨w.heap.size + 1, 0, none⟩ = some (.int .u64 0) := by rw [Lib.cell_of_heap Hb.out.box]; rfl
      have f0 : wb.frozen? ⟨w.heap.size + 1, 0, none⟩ = false := Lib.frozen_of_heap Hb.out.box 0
      go_wp2_with fail
      have Hc := Hb.out.setT t
      refine (literal_any p s _ ⟨#[32, 101, 118, 61]⟩ _ Hc.rd hs (by decide)).mono ?_
      rintro e wd ⟨rfl, hd, hcd⟩
      have Hd : Hid (LI w wd p s (evS s.data.toList) t ⟨#[]⟩ (.slice none 0 0) []) := Hc.read hd hcd
      clear hd hcd Hc b0 f0
      go_wp2_with fail
      refine (word_rd p s _ _ Hd.out.rd hs).mono ?_
      rintro e we ⟨ev, rfl, hevs, hev, he, hce⟩
      have He : Hid (LI w we p s (evR s.data.toList) t ⟨#[]⟩ (.slice none 0 0) [] ∧ LB s (evR s.data.toList) t ev []) := ⟨Hd.out.read he hce, LB.first HTm.out hev⟩
      clear he hce hev Hd
      have b1 : we.cell? ⟨w.heap.size + 1, 1, none⟩ = some (.string ⟨#[]⟩) := by rw [Lib.cell_of_heap He.out.1.box]; rfl
      have f1 : we.frozen? ⟨w.heap.size + 1, 1, none⟩ = false := Lib.frozen_of_heap He.out.1.box 1
      obtain ⟨r, hr⟩ : ∃ r, r = evR s.data.toList := ⟨_, rfl⟩
      rw [← hr] at He
      clear hr
      go_wp2_with fail
      have Hf := He.out.1.setE ev
      refine (over_chg p s r _ Hf.rd hs).mono ?_
      rintro e w5 ⟨rfl, hc5⟩
      have H5 : Hid (LI w w5 p s r t ev (.slice none 0 0) []) := Hf.read (Hf.rd.non hc5) (hc5.non _)
      clear hc5 Hf b1 f1
      cases ho0 : ovr s r
      · have HA : Hid (LI w w5 p s r t ev (.slice none 0 0) [] ∧ LA s r t ev [] ∧ gk = s.size + 2) := ⟨H5.out, He.out.2.go ho0 H5.out.rd.le, HA0.out.2⟩
        clear H5
        go_wp2_with fail
        refine (literal_any p s r ⟨#[32]⟩ _ HA.out.1.rd hs (by decide)).mono ?_
        rintro e w1 ⟨rfl, h1, hc1⟩
        have H1 : Hid (LI w w1 p s (tk s.data.toList 32 r) t ev (.slice none 0 0) []) := HA.out.1.read h1 hc1
        clear h1 hc1
        have b2 : w1.cell? ⟨w.heap.size + 1, 2, none⟩ = some (.slice none 0 0) := by rw [Lib.cell_of_heap H1.out.box]; rfl
        go_wp2_with fail
        refine (key_rd p s (tk s.data.toList 32 r) none 0 0 [] _ H1.out.rd hs H1.out.prd (by simp) (fun _ k e => by have := H1.out.new k e; have := H1.out.plt; omega)).mono ?_
        rintro e w2 ⟨K, rfl, hK, hKw, h2', hc2⟩
        have H2 : Hid (LI w w2 p s (keyR s.data.toList [] (tk s.data.toList 32 r)) t ev (.slice none 0 0) [] ∧ ((keyR s.data.toList [] (tk s.data.toList 32 r)).bad = false → K = ⟨(wdT s.data.toList (tk s.data.toList 32 r).pos).toArray⟩)) := ⟨H1.out.read h2' hc2, hKw⟩
        clear h2' hc2 hKw b2 H1
        obtain ⟨d0, hd0⟩ := H2.out.1.pb
        have q0 : w2.cell? ⟨w.heap.size + 1 + 1, 0, none⟩ = some (.string d0.key) := hd0.cell 0
        have q1 : w2.cell? ⟨w.heap.size + 1 + 1, 1, none⟩ = some (.bool d0.isNum) := hd0.cell 1
        have q2 : w2.cell? ⟨w.heap.size + 1 + 1, 2, none⟩ = some (.int .u64 d0.num) := hd0.cell 2
        have q3 : w2.cell? ⟨w.heap.size + 1 + 1, 3, none⟩ = some (.string d0.text) := hd0.cell 3
        have f0 : w2.frozen? ⟨w.heap.size + 1 + 1, 0, none⟩ = false := Lib.frozen_of_heap hd0 0
        have f1 : w2.frozen? ⟨w.heap.size + 1 + 1, 1, none⟩ = false := Lib.frozen_of_heap hd0 1
        have f2 : w2.frozen? ⟨w.heap.size + 1 + 1, 2, none⟩ = false := Lib.frozen_of_heap hd0 2
        have f3 : w2.frozen? ⟨w.heap.size + 1 + 1, 3, none⟩ = false := Lib.frozen_of_heap hd0 3
        have HD0 : Hid (PairBox w2 (w.heap.size + 1 + 1) d0) := hd0
        clear hd0
        go_wp2_with fail
        have HP3 : Hid (LI w ((((w2.setCell ⟨w.heap.size + 1 + 1, 0, none⟩ (.string K)).setCell ⟨w.heap.size + 1 + 1, 1, none⟩ (.bool false)).setCell ⟨w.heap.size + 1 + 1, 2, none⟩ (.int .u64 0)).setCell ⟨w.heap.size + 1 + 1, 3, none⟩ (.string ⟨#[]⟩)) p s (keyR s.data.toList [] (tk s.data.toList 32 r)) t ev (.slice none 0 0) []) := by
          have hc := chg_fresh (w := w2) (k := w.heap.size + 1 + 1) (.string K) (.bool false) (.int .u64 0) (.string ⟨#[]⟩)
          exact H2.out.1.pair (H2.out.1.rd.keep hc (fun e => by have := H2.out.1.plt; unfold One at e; omega)) (HD0.out.fresh K) (hc.mono (fun _ _ e => .inr e))
        refine (value_rd p (w.heap.size + 1 + 1) s _ K _ HP3.out.rd hs hK (HD0.out.fresh K) (by have := HP3.out.sz; omega)).mono ?_
        rintro e w3 ⟨rfl, d, hd, hdok, hdv, h3, hc3⟩
        have H3 : Hid (LI w w3 p s (valR s.data.toList K (keyR s.data.toList [] (tk s.data.toList 32 r))).1 t ev (.slice none 0 0) [] ∧ PairBox w3 (w.heap.size + 1 + 1) d ∧ d.Ok ∧ LB s (valR s.data.toList K (keyR s.data.toList [] (tk s.data.toList 32 r))).1 t ev ([] ++ [d])) :=
          ⟨HP3.out.pair h3 hd hc3, hd, hdok, HA.out.2.1.next H2.out.2 hdv⟩
        clear h3 hc3 hd hdok hdv HP3 H2 HD0 q0 q1 q2 q3 f0 f1 f2 f3
        obtain ⟨r3, hr3⟩ : ∃ r3, r3 = (valR s.data.toList K (keyR s.data.toList [] (tk s.data.toList 32 r))).1 := ⟨_, rfl⟩
        have HGT : Hid (r3.bad = false → r.pos < r3.pos) := by
          intro hb
          rw [hr3, valR_key s.data.toList K ⟨(wdT s.data.toList (tk s.data.toList 32 r).pos).toArray⟩] at hb ⊢
          have h6 := (pairR_inv (ps := []) (r := r) hb).2.2.2.2
          have h7 : 1 ≤ (pairB (pairR s.data.toList [] (tk s.data.toList 32 r)).2).length := by unfold pairB; simp
          show r.pos < (pairR s.data.toList [] (tk s.data.toList 32 r)).1.pos
          omega
        rw [← hr3] at H3
        clear hr3
        have b2 : w3.cell? ⟨w.heap.size + 1, 2, none⟩ = some (.slice none 0 0) := by rw [Lib.cell_of_heap H3.out.1.box]; rfl
        have q0 : w3.cell? ⟨w.heap.size + 1 + 1, 0, none⟩ = some (.string d.key) := H3.out.2.1.cell 0
        have q1 : w3.cell? ⟨w.heap.size + 1 + 1, 1, none⟩ = some (.bool d.isNum) := H3.out.2.1.cell 1
        have q2 : w3.cell? ⟨w.heap.size + 1 + 1, 2, none⟩ = some (.int .u64 d.num) := H3.out.2.1.cell 2
        have q3 : w3.cell? ⟨w.heap.size + 1 + 1, 3, none⟩ = some (.string d.text) := H3.out.2.1.cell 3
        go_wp2_with (at_builtin; refine wpList_appP w3 rfl _ _ rfl (.slice none 0 0) [] d rfl rfl H3.out.1.row (by simp) ?_)
        intro v4 w4 ho4 hc4 hk4
        have H4 : Hid (LI w (w4.setCell ⟨w.heap.size + 1, 2, none⟩ v4) p s r3 t ev v4 ([] ++ [d]) ∧ w4.heap[w.heap.size + 1]? = some (.cells #[.int .u64 t, .string ev, .slice none 0 0] 25 (0, 0))) := H3.out.1.put H3.out.2.2.1 ho4 hc4 hk4
        have ho4' : POwn w4 v4 ([] ++ [d]) := ho4
        clear ho4
        generalize hqs : [] ++ [d] = qs at *
        clear hqs
        obtain ⟨ao4, c4, rfl, -⟩ := ho4'.shape
        clear ho4' hc4 hk4 b2 q0 q1 q2 q3
        have b2 : w4.cell? ⟨w.heap.size + 1, 2, none⟩ = some (.slice none 0 0) := by rw [Lib.cell_of_heap H4.out.2]; rfl
        have f2 : w4.frozen? ⟨w.heap.size + 1, 2, none⟩ = false := Lib.frozen_of_heap H4.out.2 2
        go_wp2_with fail
        refine (over_chg p s r3 _ H4.out.1.rd hs).mono ?_
        rintro e w5 ⟨rfl, hc5⟩
        have H5 : Hid (LI w w5 p s r3 t ev (.slice ao4 qs.length c4) qs) := H4.out.1.read (H4.out.1.rd.non hc5) (hc5.non _)
        clear hc5 b2 f2
        cases ho : ovr s r3
        · have HB := H3.out.2.2.2.go ho H5.out.rd.le
          have HG : Hid (LA s r3 t ev qs) := HB
          have HM : Hid (s.size - r3.pos < gk) := by
            show _ < _
            have h6 := HA.out.2.2
            have h7 := HA.out.2.1.lt
            have h8 : r.pos < r3.pos := HGT.out HB.bad
            have h9 := H5.out.rd.le
            omega
          clear HB
          go_wp2_with fail
          go_roundg (s.size - r3.pos)
          case measure => exact HM.out
          case rel => exact .inr ⟨rfl, r3, t, ev, _, qs, rfl, H5.out, HG.out⟩
        · have HE : Hid ((allR s.data.toList).1 = r3 ∧ ((allR s.data.toList).1.bad = false → t = (timeR s.data.toList).2 ∧ ev = evT s.data.toList ∧ qs = (allR s.data.toList).2)) := H3.out.2.2.2.over ho
          have b0 : w5.cell? ⟨w.heap.size + 1, 0, none⟩ = some (.int .u64 t) := by rw [Lib.cell_of_heap H5.out.box]; rfl
          have b1 : w5.cell? ⟨w.heap.size + 1, 1, none⟩ = some (.string ev) := by rw [Lib.cell_of_heap H5.out.box]; rfl
          have b2 : w5.cell? ⟨w.heap.size + 1, 2, none⟩ = some (.slice ao4 qs.length c4) := by rw [Lib.cell_of_heap H5.out.box]; rfl
          have a0 : w5.cell? ⟨w.heap.size, 0, none⟩ = some (.int .u64 0) := by rw [Lib.cell_of_heap H5.out.res]; rfl
          have a1 : w5.cell? ⟨w.heap.size, 1, none⟩ = some (.string ⟨#[]⟩) := by rw [Lib.cell_of_heap H5.out.res]; rfl
          have a2 : w5.cell? ⟨w.heap.size, 2, none⟩ = some (.slice none 0 0) := by rw [Lib.cell_of_heap H5.out.res]; rfl
          have f0 : w5.frozen? ⟨w.heap.size, 0, none⟩ = false := Lib.frozen_of_heap H5.out.res 0
          have f1 : w5.frozen? ⟨w.heap.size, 1, none⟩ = false := Lib.frozen_of_heap H5.out.res 1
          have f2 : w5.frozen? ⟨w.heap.size, 2, none⟩ = false := Lib.frozen_of_heap H5.out.res 2
          go_wp2_with fail
          refine bodyPost_ret (v := .agg #[.int .u64 t, .string ev, .slice ao4 qs.length c4]) (by simp [results, Tryd.results31, go_sem, a0, a1, a2]) rfl ?_
          obtain ⟨g1, g2, g3⟩ := H5.out.fin (.int .u64 t) (.string ev) (.slice ao4 qs.length c4)
          exact ⟨t, ev, .slice ao4 qs.length c4, qs, rfl, g1.eq HE.out.1.symm, g2, g3, H5.out.ok, fun k e => by have := H5.out.new k e; omega, HE.out.2⟩
      · have HE : Hid ((allR s.data.toList).1 = r ∧ ((allR s.data.toList).1.bad = false → t = (timeR s.data.toList).2 ∧ ev = evT s.data.toList ∧ [] = (allR s.data.toList).2)) := He.out.2.over ho0
        have b0 : w5.cell? ⟨w.heap.size + 1, 0, none⟩ = some (.int .u64 t) := by rw [Lib.cell_of_heap H5.out.box]; rfl
        have b1 : w5.cell? ⟨w.heap.size + 1, 1, none⟩ = some (.string ev) := by rw [Lib.cell_of_heap H5.out.box]; rfl
        have b2 : w5.cell? ⟨w.heap.size + 1, 2, none⟩ = some (.slice none 0 0) := by rw [Lib.cell_of_heap H5.out.box]; rfl
        have a0 : w5.cell? ⟨w.heap.size, 0, none⟩ = some (.int .u64 0) := by rw [Lib.cell_of_heap H5.out.res]; rfl
        have a1 : w5.cell? ⟨w.heap.size, 1, none⟩ = some (.string ⟨#[]⟩) := by rw [Lib.cell_of_heap H5.out.res]; rfl
        have a2 : w5.cell? ⟨w.heap.size, 2, none⟩ = some (.slice none 0 0) := by rw [Lib.cell_of_heap H5.out.res]; rfl
        have f0 : w5.frozen? ⟨w.heap.size, 0, none⟩ = false := Lib.frozen_of_heap H5.out.res 0
        have f1 : w5.frozen? ⟨w.heap.size, 1, none⟩ = false := Lib.frozen_of_heap H5.out.res 1
        have f2 : w5.frozen? ⟨w.heap.size, 2, none⟩ = false := Lib.frozen_of_heap H5.out.res 2
        go_wp2_with fail
        refine bodyPost_ret (v := .agg #[.int .u64 t, .string ev, .slice none 0 0]) (by simp [results, Tryd.results31, go_sem, a0, a1, a2]) rfl ?_
        obtain ⟨g1, g2, g3⟩ := H5.out.fin (.int .u64 t) (.string ev) (.slice none 0 0)
        exact ⟨t, ev, .slice none 0 0, [], rfl, g1.eq HE.out.1.symm, g2, g3, H5.out.ok, fun k e => by have := H5.out.new k e; omega, HE.out.2⟩
    · have hlen := hA.len
      obtain ⟨lo, lc, rfl, -⟩ := hI.row.shape
      have HA : Hid (LI w wr p s r t ev (.slice lo ps.length lc) ps ∧ LA s r t ev ps ∧ gk = s.size - r.pos) := ⟨hI, hA, hm⟩
      clear hI hA hm
      go_wp2_with fail
      refine (literal_any p s r ⟨#[32]⟩ _ HA.out.1.rd hs (by decide)).mono ?_
      rintro e w1 ⟨rfl, h1, hc1⟩
      have H1 : Hid (LI w w1 p s (tk s.data.toList 32 r) t ev (.slice lo ps.length lc) ps) := HA.out.1.read h1 hc1
      clear h1 hc1
      have b2 : w1.cell? ⟨w.heap.size + 1, 2, none⟩ = some (.slice lo ps.length lc) := by rw [Lib.cell_of_heap H1.out.box]; rfl
      go_wp2_with fail
      refine (key_rd p s (tk s.data.toList 32 r) lo ps.length lc ps _ H1.out.rd hs H1.out.prd hlen (fun _ k e => by have := H1.out.new k e; have := H1.out.plt; omega)).mono ?_
      rintro e w2 ⟨K, rfl, hK, hKw, h2', hc2⟩
      have H2 : Hid (LI w w2 p s (keyR s.data.toList ps (tk s.data.toList 32 r)) t ev (.slice lo ps.length lc) ps ∧ ((keyR s.data.toList ps (tk s.data.toList 32 r)).bad = false → K = ⟨(wdT s.data.toList (tk s.data.toList 32 r).pos).toArray⟩)) := ⟨H1.out.read h2' hc2, hKw⟩
      clear h2' hc2 hKw b2 H1
      obtain ⟨d0, hd0⟩ := H2.out.1.pb
      have q0 : w2.cell? ⟨w.heap.size + 1 + 1, 0, none⟩ = some (.string d0.key) := hd0.cell 0
      have q1 : w2.cell? ⟨w.heap.size + 1 + 1, 1, none⟩ = some (.bool d0.isNum) := hd0.cell 1
      have q2 : w2.cell? ⟨w.heap.size + 1 + 1, 2, none⟩ = some (.int .u64 d0.num) := hd0.cell 2
      have q3 : w2.cell? ⟨w.heap.size + 1 + 1, 3, none⟩ = some (.string d0.text) := hd0.cell 3
      have f0 : w2.frozen? ⟨w.heap.size + 1 + 1, 0, none⟩ = false := Lib.frozen_of_heap hd0 0
      have f1 : w2.frozen? ⟨w.heap.size + 1 + 1, 1, none⟩ = false := Lib.frozen_of_heap hd0 1
      have f2 : w2.frozen? ⟨w.heap.size + 1 + 1, 2, none⟩ = false := Lib.frozen_of_heap hd0 2
      have f3 : w2.frozen? ⟨w.heap.size + 1 + 1, 3, none⟩ = false := Lib.frozen_of_heap hd0 3
      have HD0 : Hid (PairBox w2 (w.heap.size + 1 + 1) d0) := hd0
      clear hd0
      go_wp2_with fail
      have HP3 : Hid (LI w ((((w2.setCell ⟨w.heap.size + 1 + 1, 0, none⟩ (.string K)).setCell ⟨w.heap.size + 1 + 1, 1, none⟩ (.bool false)).setCell ⟨w.heap.size + 1 + 1, 2, none⟩ (.int .u64 0)).setCell ⟨w.heap.size + 1 + 1, 3, none⟩ (.string ⟨#[]⟩)) p s (keyR s.data.toList ps (tk s.data.toList 32 r)) t ev (.slice lo ps.length lc) ps) := by
        have hc := chg_fresh (w := w2) (k := w.heap.size + 1 + 1) (.string K) (.bool false) (.int .u64 0) (.string ⟨#[]⟩)
        exact H2.out.1.pair (H2.out.1.rd.keep hc (fun e => by have := H2.out.1.plt; unfold One at e; omega)) (HD0.out.fresh K) (hc.mono (fun _ _ e => .inr e))
      refine (value_rd p (w.heap.size + 1 + 1) s _ K _ HP3.out.rd hs hK (HD0.out.fresh K) (by have := HP3.out.sz; omega)).mono ?_
      rintro e w3 ⟨rfl, d, hd, hdok, hdv, h3, hc3⟩
      have H3 : Hid (LI w w3 p s (valR s.data.toList K (keyR s.data.toList ps (tk s.data.toList 32 r))).1 t ev (.slice lo ps.length lc) ps ∧ PairBox w3 (w.heap.size + 1 + 1) d ∧ d.Ok ∧ LB s (valR s.data.toList K (keyR s.data.toList ps (tk s.data.toList 32 r))).1 t ev (ps ++ [d])) :=
        ⟨HP3.out.pair h3 hd hc3, hd, hdok, HA.out.2.1.next H2.out.2 hdv⟩
      clear h3 hc3 hd hdok hdv HP3 H2 HD0 q0 q1 q2 q3 f0 f1 f2 f3
      obtain ⟨r3, hr3⟩ : ∃ r3, r3 = (valR s.data.toList K (keyR s.data.toList ps (tk s.data.toList 32 r))).1 := ⟨_, rfl⟩
      have HGT : Hid (r3.bad = false → r.pos < r3.pos) := by
        intro hb
        rw [hr3, valR_key s.data.toList K ⟨(wdT s.data.toList (tk s.data.toList 32 r).pos).toArray⟩] at hb ⊢
        have h6 := (pairR_inv (ps := ps) (r := r) hb).2.2.2.2
        have h7 : 1 ≤ (pairB (pairR s.data.toList ps (tk s.data.toList 32 r)).2).length := by unfold pairB; simp
        show r.pos < (pairR s.data.toList ps (tk s.data.toList 32 r)).1.pos
        omega
      rw [← hr3] at H3
      clear hr3
      have b2 : w3.cell? ⟨w.heap.size + 1, 2, none⟩ = some (.slice lo ps.length lc) := by rw [Lib.cell_of_heap H3.out.1.box]; rfl
      have q0 : w3.cell? ⟨w.heap.size + 1 + 1, 0, none⟩ = some (.string d.key) := H3.out.2.1.cell 0
      have q1 : w3.cell? ⟨w.heap.size + 1 + 1, 1, none⟩ = some (.bool d.isNum) := H3.out.2.1.cell 1
      have q2 : w3.cell? ⟨w.heap.size + 1 + 1, 2, none⟩ = some (.int .u64 d.num) := H3.out.2.1.cell 2
      have q3 : w3.cell? ⟨w.heap.size + 1 + 1, 3, none⟩ = some (.string d.text) := H3.out.2.1.cell 3
      go_wp2_with (at_builtin; refine wpList_appP w3 rfl _ _ rfl (.slice lo ps.length lc) ps d rfl rfl H3.out.1.row (by omega) ?_)
      intro v4 w4 ho4 hc4 hk4
      have H4 : Hid (LI w (w4.setCell ⟨w.heap.size + 1, 2, none⟩ v4) p s r3 t ev v4 (ps ++ [d]) ∧ w4.heap[w.heap.size + 1]? = some (.cells #[.int .u64 t, .string ev, .slice lo ps.length lc] 25 (0, 0))) := H3.out.1.put H3.out.2.2.1 ho4 hc4 hk4
      generalize hqs : ps ++ [d] = qs at *
      clear hqs
      obtain ⟨ao4, c4, rfl, -⟩ := ho4.shape
      clear ho4 hc4 hk4 b2 q0 q1 q2 q3
      have b2 : w4.cell? ⟨w.heap.size + 1, 2, none⟩ = some (.slice lo ps.length lc) := by rw [Lib.cell_of_heap H4.out.2]; rfl
      have f2 : w4.frozen? ⟨w.heap.size + 1, 2, none⟩ = false := Lib.frozen_of_heap H4.out.2 2
      go_wp2_with fail
      refine (over_chg p s r3 _ H4.out.1.rd hs).mono ?_
      rintro e w5 ⟨rfl, hc5⟩
      have H5 : Hid (LI w w5 p s r3 t ev (.slice ao4 qs.length c4) qs) := H4.out.1.read (H4.out.1.rd.non hc5) (hc5.non _)
      clear hc5 b2 f2
      cases ho : ovr s r3
      · have HB := H3.out.2.2.2.go ho H5.out.rd.le
        have HG : Hid (LA s r3 t ev qs) := HB
        have HM : Hid (s.size - r3.pos < gk) := by
          show _ < _
          have h6 := HA.out.2.2
          have h7 := HA.out.2.1.lt
          have h8 : r.pos < r3.pos := HGT.out HB.bad
          have h9 := H5.out.rd.le
          omega
        clear HB
        go_wp2_with fail
        go_roundg (s.size - r3.pos)
        case measure => exact HM.out
        case rel => exact .inr ⟨rfl, r3, t, ev, _, qs, rfl, H5.out, HG.out⟩
      · have HE : Hid ((allR s.data.toList).1 = r3 ∧ ((allR s.data.toList).1.bad = false → t = (timeR s.data.toList).2 ∧ ev = evT s.data.toList ∧ qs = (allR s.data.toList).2)) := H3.out.2.2.2.over ho
        have b0 : w5.cell? ⟨w.heap.size + 1, 0, none⟩ = some (.int .u64 t) := by rw [Lib.cell_of_heap H5.out.box]; rfl
        have b1 : w5.cell? ⟨w.heap.size + 1, 1, none⟩ = some (.string ev) := by rw [Lib.cell_of_heap H5.out.box]; rfl
        have b2 : w5.cell? ⟨w.heap.size + 1, 2, none⟩ = some (.slice ao4 qs.length c4) := by rw [Lib.cell_of_heap H5.out.box]; rfl
        have a0 : w5.cell? ⟨w.heap.size, 0, none⟩ = some (.int .u64 0) := by rw [Lib.cell_of_heap H5.out.res]; rfl
        have a1 : w5.cell? ⟨w.heap.size, 1, none⟩ = some (.string ⟨#[]⟩) := by rw [Lib.cell_of_heap H5.out.res]; rfl
        have a2 : w5.cell? ⟨w.heap.size, 2, none⟩ = some (.slice none 0 0) := by rw [Lib.cell_of_heap H5.out.res]; rfl
        have f0 : w5.frozen? ⟨w.heap.size, 0, none⟩ = false := Lib.frozen_of_heap H5.out.res 0
        have f1 : w5.frozen? ⟨w.heap.size, 1, none⟩ = false := Lib.frozen_of_heap H5.out.res 1
        have f2 : w5.frozen? ⟨w.heap.size, 2, none⟩ = false := Lib.frozen_of_heap H5.out.res 2
        go_wp2_with fail
        refine bodyPost_ret (v := .agg #[.int .u64 t, .string ev, .slice ao4 qs.length c4]) (by simp [results, Tryd.results31, go_sem, a0, a1, a2]) rfl ?_
        obtain ⟨g1, g2, g3⟩ := H5.out.fin (.int .u64 t) (.string ev) (.slice ao4 qs.length c4)
        exact ⟨t, ev, .slice ao4 qs.length c4, qs, rfl, g1.eq HE.out.1.symm, g2, g3, H5.out.ok, fun k e => by have := H5.out.new k e; omega, HE.out.2⟩
end Go.Proofs.YtlhcadfcgibkdaaDoor
