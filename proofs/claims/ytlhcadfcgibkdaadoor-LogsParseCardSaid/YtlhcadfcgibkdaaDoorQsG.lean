/-
  The document's Parse.
-/
import Derived.Test.YtlhcadfcgibkdaaDoorQsF
import Derived.Test.YtlhcadfcgibkdaaDoorPsH
namespace Go.Proofs.YtlhcadfcgibkdaaDoor
open Go.RowKit
set_option linter.unusedVariables false
set_option maxRecDepth 100000

/-- What a round of the document's loop holds. -/
structure RI (w wr : World) (g : Nat) (s : ByteArray) (r : RS) (t : Nat) (ev : ByteArray) (lv : Value) (ps : List PairD) : Prop where
  rd : QR wr (w.heap.size + 1) s r
  chg : Chg Non w wr
  box : wr.heap[g]? = some (.cells #[.int .u64 t, .string ev, lv] 25 (0, 0))
  res : wr.heap[w.heap.size]? = some (.cells #[.int .u64 0, .string ⟨#[]⟩, .slice none 0 0] 25 (0, 0))
  glt : w.heap.size + 1 < g
  row : POwn wr lv ps
  ok : ∀ q ∈ ps, q.Ok
  new : ∀ k, lv.ownBlock = some k → w.heap.size + 1 < k ∧ k ≠ g

theorem RI.lts {w wr : World} {g : Nat} {s : ByteArray} {r : RS} {t : Nat} {ev : ByteArray} {lv : Value} {ps : List PairD} (h : RI w wr g s r t ev lv ps) : g < wr.heap.size ∧ w.heap.size + 1 < wr.heap.size ∧ w.heap.size < wr.heap.size := by
  have h1 := (Array.getElem?_eq_some_iff.1 h.box).1
  have := h.glt
  omega
theorem RI.read {w wr w1 : World} {g : Nat} {s : ByteArray} {r r1 : RS} {t : Nat} {ev : ByteArray} {lv : Value} {ps : List PairD} (h : RI w wr g s r t ev lv ps) (h1 : QR w1 (w.heap.size + 1) s r1) (hc : Chg (One (w.heap.size + 1)) wr w1) : RI w w1 g s r1 t ev lv ps := by
  obtain ⟨l1, l2, l3⟩ := h.lts
  have := h.glt
  have hk : ∀ k, k ≠ w.heap.size + 1 → k < wr.heap.size → w1.heap[k]? = wr.heap[k]? := fun k hk hl => hc.block k hl (fun e => by unfold One at e; omega)
  exact ⟨h1, h.chg.trans hc (fun i hi x => by unfold One at x; omega), by rw [hk _ (by omega) l1]; exact h.box, by rw [hk _ (by omega) l3]; exact h.res, h.glt, h.row.keep (fun k e => hk k (by have := (h.new k e).1; omega) (h.row.lt k e)), h.ok, h.new⟩
theorem RI.alloc {w wr : World} {g : Nat} {s : ByteArray} {r : RS} {t : Nat} {ev : ByteArray} {lv : Value} {ps : List PairD} (h : RI w wr g s r t ev lv ps) (o : Obj) : RI w (wr.alloc o) g s r t ev lv ps := by
  exact h.read (h.rd.non ((Chg.refl _ _).alloc o)) ((Chg.refl _ _).alloc o)
theorem RI.setE {w wr : World} {g : Nat} {s : ByteArray} {r : RS} {t : Nat} {ev : ByteArray} {lv : Value} {ps : List PairD} (h : RI w wr g s r t ev lv ps) (E : ByteArray) : RI w (wr.setCell ⟨g, 1, none⟩ (.string E)) g s r t E lv ps := by
  obtain ⟨l1, l2, l3⟩ := h.lts
  have := h.glt
  have hset : ∀ k, k ≠ g → (wr.setCell ⟨g, 1, none⟩ (.string E)).heap[k]? = wr.heap[k]? := fun k hn => Below.heap_setCell _ _ _ _ hn
  exact ⟨⟨by rw [hset _ (by omega)]; exact h.rd.blk, h.rd.le⟩, h.chg.setCell (fun x => by simp at x; omega) _, by simp [World.setCell, Array.getElem?_modify, h.box], by rw [hset _ (by omega)]; exact h.res, h.glt, h.row.keep (fun k e => hset k (h.new k e).2), h.ok, h.new⟩
theorem RI.put {w wr w4 : World} {g : Nat} {s : ByteArray} {r : RS} {t : Nat} {ev : ByteArray} {lv v4 : Value} {ps : List PairD} {d : PairD} (h : RI w wr g s r t ev lv ps) (hd : d.Ok) (ho : POwn w4 v4 (ps ++ [d])) (hc : Chg (fun k => lv.ownBlock = some k) wr w4) (hk : v4.ownBlock = lv.ownBlock ∨ ∃ n, v4.ownBlock = some n ∧ wr.heap.size ≤ n) :
    RI w (w4.setCell ⟨g, 2, none⟩ v4) g s r t ev v4 (ps ++ [d]) ∧ w4.heap[g]? = some (.cells #[.int .u64 t, .string ev, lv] 25 (0, 0)) := by
  obtain ⟨l1, l2, l3⟩ := h.lts
  have hgl := h.glt
  have hnew : ∀ k, v4.ownBlock = some k → w.heap.size + 1 < k ∧ k ≠ g := by
    intro k e
    rcases hk with x | ⟨n, x, hn⟩
    · exact h.new k (x ▸ e)
    · rw [x] at e
      cases e
      omega
  have hkk : ∀ k, k < wr.heap.size → (k = g ∨ k ≤ w.heap.size + 1) → w4.heap[k]? = wr.heap[k]? := fun k hl ho => hc.block k hl (fun e => by have := h.new k e; omega)
  have hb : w4.heap[g]? = some (.cells #[.int .u64 t, .string ev, lv] 25 (0, 0)) := by rw [hkk _ l1 (.inl rfl)]; exact h.box
  have hset : ∀ k, k ≠ g → (w4.setCell ⟨g, 2, none⟩ v4).heap[k]? = w4.heap[k]? := fun k hn => Below.heap_setCell _ _ _ _ hn
  refine ⟨⟨⟨by rw [hset _ (by omega), hkk _ l2 (.inr (by omega))]; exact h.rd.blk, h.rd.le⟩, ?_, by simp [World.setCell, Array.getElem?_modify, hb], by rw [hset _ (by omega), hkk _ l3 (.inr (by omega))]; exact h.res, h.glt, ho.keep (fun k e => hset k (hnew k e).2), fun q hq => ?_, hnew⟩, hb⟩
  · refine Chg.setCell (h.chg.trans hc (fun i hi e => ?_)) (fun x => ?_) _
    · have := h.new i e; omega
    · simp at x; omega
  · rcases List.mem_append.1 hq with hq | hq
    · exact h.ok q hq
    · simp at hq; subst hq; exact hd

theorem LB.first' {s E : ByteArray} {N : Nat} (hN : N = (timeR s.data.toList).2) (hE : (evR s.data.toList).bad = false → E = evT s.data.toList) : LB s (evR s.data.toList) N E [] := by
  have hsl : s.data.toList.length = s.size := by simp
  refine ⟨fun _ => hN, hE, by simp, ?_⟩
  cases hb : (evR s.data.toList).bad
  · exact .inr ⟨rfl, by simp, s.data.toList.length + 1, by omega, rfl⟩
  · left
    refine ⟨rfl, ?_⟩
    unfold allR
    rw [pairsP_bad hb]

set_option maxHeartbeats 2000000 in
theorem rparse_any (s : ByteArray) (w : World) (hs : s.size ≤ 9223372036854775807) :
    Calls Tryd.prog 12 #[.string s] w fun e w' => ∃ lv, e = .returned (.tuple #[.agg #[.int .u64 (pTime s), .string (pEv s), lv], .int .i64 (pAt s), .int .i64 (pErr s)]) ∧ PRd w' lv (pPs s) ∧ Chg Non w w' := by
  by_cases hl : s.size ≤ 1024
  · have hl' : ¬ ((1024 : Int) < s.size) := by omega
    go_enter Tryd.func12, Tryd.ntmps12
    go_wp2_with fail
    have hN : QR ((w.alloc (.cells #[.int .u64 0, .string ⟨#[]⟩, .slice none 0 0] 25)).alloc (.cells #[.string s, .int .i64 0, .bool false] 77)) (w.heap.size + 1) s ⟨0, false⟩ := ⟨new2 w _ _, Nat.zero_le _⟩
    have hN0 : ((w.alloc (.cells #[.int .u64 0, .string ⟨#[]⟩, .slice none 0 0] 25)).alloc (.cells #[.string s, .int .i64 0, .bool false] 77)).heap[w.heap.size]? = some (.cells #[.int .u64 0, .string ⟨#[]⟩, .slice none 0 0] 25 (0, 0)) := by
      rw [Below.heap_alloc _ _ _ (by simp)]
      exact heap_alloc_new w _
    refine (take_rd (w.heap.size + 1) s ⟨0, false⟩ 116 _ hN hl).mono ?_
    rintro e w1 ⟨rfl, h1, hc1⟩
    go_wp2_with fail
    refine (take_rd (w.heap.size + 1) s _ 61 _ h1 hl).mono ?_
    rintro e w2 ⟨rfl, h2, hc2⟩
    go_wp2_with fail
    refine (rnumber_rd (w.heap.size + 1) s _ _ h2 hl).mono ?_
    rintro e w3 ⟨rfl, h3, hc3⟩
    have hch : Chg (One (w.heap.size + 1)) ((w.alloc (.cells #[.int .u64 0, .string ⟨#[]⟩, .slice none 0 0] 25)).alloc (.cells #[.string s, .int .i64 0, .bool false] 77)) w3 := (hc1.trans hc2 (fun _ _ x => x)).trans hc3 (fun _ _ x => x)
    obtain ⟨t, ht⟩ : ∃ t, t = (nmR s.data.toList (tk s.data.toList 61 (tk s.data.toList 116 ⟨0, false⟩))).2 := ⟨_, rfl⟩
    have hsz3 : w.heap.size + 1 < w3.heap.size := by have := hch.size; simp at this; omega
    have H3 : Hid (RI w (w3.alloc (.cells #[.int .u64 t, .string ⟨#[]⟩, .slice none 0 0] 25)) w3.heap.size s (timeR s.data.toList).1 t ⟨#[]⟩ (.slice none 0 0) [] ∧ t = (timeR s.data.toList).2) := by
      refine ⟨⟨QR.non h3 ((Chg.refl _ _).alloc _), ?_, heap_alloc_new w3 _, ?_, hsz3, POwn.nil _, fun q hq => by simp at hq, fun k e => by simp [Value.ownBlock] at e⟩, ht⟩
      · exact ((((Chg.refl Non w).alloc _).alloc _).trans hch (fun i hi e => by unfold One at e; omega)).alloc _
      · rw [Below.heap_alloc _ _ _ (by omega), hch.block _ (by simp; omega) (fun e => by unfold One at e; omega)]
        exact hN0
    rw [← ht]
    obtain ⟨g, hg⟩ : ∃ g, g = w3.heap.size := ⟨_, rfl⟩
    rw [← hg] at H3
    clear h1 h2 h3 hc1 hc2 hc3 hch ht hN hN0
    go_wp2_with fail
    rw [← hg]
    clear hg
    refine (take_rd (w.heap.size + 1) s _ 32 _ H3.out.1.rd hl).mono ?_
    rintro e wt0 ⟨rfl, ht0, hct0⟩
    have Ht0 : Hid (RI w wt0 g s (tk s.data.toList 32 (timeR s.data.toList).1) t ⟨#[]⟩ (.slice none 0 0) []) := H3.out.1.read ht0 hct0
    clear ht0 hct0
    go_wp2_with fail
    refine (take_rd (w.heap.size + 1) s _ 101 _ Ht0.out.rd hl).mono ?_
    rintro e wt1 ⟨rfl, ht1, hct1⟩
    have Ht1 : Hid (RI w wt1 g s (tk s.data.toList 101 (tk s.data.toList 32 (timeR s.data.toList).1)) t ⟨#[]⟩ (.slice none 0 0) []) := Ht0.out.read ht1 hct1
    clear ht1 hct1
    go_wp2_with fail
    refine (take_rd (w.heap.size + 1) s _ 118 _ Ht1.out.rd hl).mono ?_
    rintro e wt2 ⟨rfl, ht2, hct2⟩
    have Ht2 : Hid (RI w wt2 g s (tk s.data.toList 118 (tk s.data.toList 101 (tk s.data.toList 32 (timeR s.data.toList).1))) t ⟨#[]⟩ (.slice none 0 0) []) := Ht1.out.read ht2 hct2
    clear ht2 hct2
    go_wp2_with fail
    refine (take_rd (w.heap.size + 1) s _ 61 _ Ht2.out.rd hl).mono ?_
    rintro e wt3 ⟨rfl, ht3, hct3⟩
    have Ht3 : Hid (RI w wt3 g s (tk s.data.toList 61 (tk s.data.toList 118 (tk s.data.toList 101 (tk s.data.toList 32 (timeR s.data.toList).1)))) t ⟨#[]⟩ (.slice none 0 0) []) := Ht2.out.read ht3 hct3
    clear ht3 hct3
    go_wp2_with fail
    refine (rword_rd (w.heap.size + 1) s _ _ Ht3.out.rd hl).mono ?_
    rintro e w5 ⟨ev, rfl, hev, hevw, h5, hc5⟩
    have H5 : Hid (RI w w5 g s (evR s.data.toList) t ⟨#[]⟩ (.slice none 0 0) []) := Ht3.out.read h5 hc5
    have HB5 : Hid (RI w (w5.setCell ⟨g, 1, none⟩ (.string ev)) g s (evR s.data.toList) t ev (.slice none 0 0) [] ∧ (evR s.data.toList).pos ≤ s.size ∧ LB s (evR s.data.toList) t ev []) := by
      refine ⟨H5.out.setE ev, H5.out.rd.le, ?_⟩
      exact LB.first' H3.out.2 hevw
    clear h5 hc5 hevw Ht0 Ht1 Ht2 Ht3
    have b1 : w5.cell? ⟨g, 1, none⟩ = some (.string ⟨#[]⟩) := by rw [Lib.cell_of_heap H5.out.box]; rfl
    have f1 : w5.frozen? ⟨g, 1, none⟩ = false := Lib.frozen_of_heap H5.out.box 1
    go_wp2_with fail
    clear b1 f1
    go_loopg [7] (s.size + 2) (fun m _ wr => ∃ (r : RS) (lv : Value) (ps : List PairD), RI w wr g s r t ev lv ps ∧ LB s r t ev ps ∧ (r.bad = false → s.size + 1 - r.pos ≤ m))
    case atStart => exact ⟨_, _, _, HB5.out.1, HB5.out.2.2, fun _ => by omega⟩
    case round =>
      obtain ⟨r, lv, ps, hI, hB, hm⟩ := hrel
      obtain ⟨c0, c1, c2, f1, f2⟩ := hI.rd.cells
      have hle := hI.rd.le
      have HP : Hid (RI w wr g s r t ev lv ps ∧ LB s r t ev ps ∧ (r.bad = false → s.size + 1 - r.pos ≤ gk)) := ⟨hI, hB, hm⟩
      obtain ⟨lo, lc, rfl, -⟩ := hI.row.shape
      clear hI hB hm
      cases ho : ovr s r
      · have HA : Hid (LA s r t ev ps) := HP.out.2.1.go ho hle
        obtain ⟨pos, bad⟩ := r
        have hbad : bad = false := HA.out.bad
        subst hbad
        have hlt : pos < s.size := HA.out.lt
        have hlt' : (pos : Int) < (s.size : Int) := by omega
        have hlen := HA.out.len
        simp only at c1 c2 hle
        clear ho
        go_wp2_with fail
        refine (take_rd (w.heap.size + 1) s ⟨pos, false⟩ 32 _ HP.out.1.rd hl).mono ?_
        rintro e w6 ⟨rfl, h6, hc6⟩
        have H6 : Hid (RI w w6 g s (tk s.data.toList 32 ⟨pos, false⟩) t ev (.slice lo ps.length lc) ps) := HP.out.1.read h6 hc6
        clear h6 hc6 c0 c1 c2 f1 f2
        have b2 : w6.cell? ⟨g, 2, none⟩ = some (.slice lo ps.length lc) := by rw [Lib.cell_of_heap H6.out.box]; rfl
        go_wp2_with fail
        refine (pair_rd (w.heap.size + 1) s _ lo ps.length lc ps _ H6.out.rd hl (H6.out.row.prd H6.out.ok) hlen (fun _ k e => by have := (H6.out.new k e).1; omega)).mono ?_
        rintro e w7 ⟨d, rfl, hdok, hdv, h7, hc7⟩
        have H7 : Hid (RI w (w7.alloc (.cells #[.string d.key, .bool d.isNum, .int .u64 d.num, .string d.text] 28)) g s (pairR s.data.toList ps (tk s.data.toList 32 ⟨pos, false⟩)).1 t ev (.slice lo ps.length lc) ps ∧ d.Ok ∧ LB s (pairR s.data.toList ps (tk s.data.toList 32 ⟨pos, false⟩)).1 t ev (ps ++ [d]) ∧ ((pairR s.data.toList ps (tk s.data.toList 32 ⟨pos, false⟩)).1.bad = false → pos < (pairR s.data.toList ps (tk s.data.toList 32 ⟨pos, false⟩)).1.pos)) := by
          refine ⟨(H6.out.read h7 hc7).alloc _, hdok, HA.out.next (K := ⟨(wdT s.data.toList (tk s.data.toList 32 ⟨pos, false⟩).pos).toArray⟩) (fun _ => rfl) hdv, fun hb => ?_⟩
          have h8 := (pairR_inv (ps := ps) (r := ⟨pos, false⟩) hb).2.2.2.2
          have h9 : 1 ≤ (pairB (pairR s.data.toList ps (tk s.data.toList 32 ⟨pos, false⟩)).2).length := by unfold pairB; simp
          simp only at h8
          omega
        clear h7 hc7 hdok hdv b2 H6
        obtain ⟨r3, hr3⟩ : ∃ r3, r3 = (pairR s.data.toList ps (tk s.data.toList 32 ⟨pos, false⟩)).1 := ⟨_, rfl⟩
        rw [← hr3] at H7
        clear hr3
        have hgl := H7.out.1.lts.1
        simp only [World.size_alloc] at hgl
        have hgw : g < w7.heap.size ∨ g = w7.heap.size := by omega
        have b2 : (w7.alloc (.cells #[.string d.key, .bool d.isNum, .int .u64 d.num, .string d.text] 28)).cell? ⟨g, 2, none⟩ = some (.slice lo ps.length lc) := by rw [Lib.cell_of_heap H7.out.1.box]; rfl
        have hbb : ((ps.length + 1) * 48 ≤ 140737488355328) := by omega
        go_wp2_with (at_builtin; refine wpList_appP (w7.alloc (.cells #[.string d.key, .bool d.isNum, .int .u64 d.num, .string d.text] 28)) rfl _ _ rfl (.slice lo ps.length lc) ps d rfl (by show Value.slice (some ⟨w7.heap.size + 1, 0, none⟩) 1 1 = _; simp) H7.out.1.row hbb ?_)
        intro v8 w8 ho8 hc8 hk8
        have H8 : Hid (RI w (w8.setCell ⟨g, 2, none⟩ v8) g s r3 t ev v8 (ps ++ [d]) ∧ w8.heap[g]? = some (.cells #[.int .u64 t, .string ev, .slice lo ps.length lc] 25 (0, 0))) := H7.out.1.put H7.out.2.1 ho8 hc8 (hk8.imp id (fun ⟨n, e, hn⟩ => ⟨n, e, by simp; omega⟩))
        generalize hqs : ps ++ [d] = qs at *
        clear hqs
        obtain ⟨ao8, c8, rfl, -⟩ := ho8.shape
        clear ho8 hc8 hk8 b2
        have b2 : w8.cell? ⟨g, 2, none⟩ = some (.slice lo ps.length lc) := by rw [Lib.cell_of_heap H8.out.2]; rfl
        have f2 : w8.frozen? ⟨g, 2, none⟩ = false := Lib.frozen_of_heap H8.out.2 2
        have HM : Hid (∃ m, m < gk ∧ (r3.bad = false → s.size + 1 - r3.pos ≤ m)) := by
          have h9 : s.size + 1 - pos ≤ gk := HP.out.2.2 (by first | rfl | trivial)
          refine ⟨gk - 1, by omega, fun hb => ?_⟩
          have := H7.out.2.2.2 hb
          omega
        obtain ⟨m, hm1, hm2⟩ := HM.out
        have HM2 : Hid (m < gk ∧ (r3.bad = false → s.size + 1 - r3.pos ≤ m)) := ⟨hm1, hm2⟩
        clear hm1 hm2
        go_wp2_with fail
        go_roundg m
        case measure => exact HM2.out.1
        case rel => exact ⟨r3, _, qs, H8.out.1, H7.out.2.2.1, HM2.out.2⟩
      · obtain ⟨l1', l2', l3'⟩ := HP.out.1.lts
        have HE : Hid ((allR s.data.toList).1 = r ∧ ((allR s.data.toList).1.bad = false → t = (timeR s.data.toList).2 ∧ ev = evT s.data.toList ∧ ps = (allR s.data.toList).2)) := HP.out.2.1.over ho
        have a0 : wr.cell? ⟨w.heap.size, 0, none⟩ = some (.int .u64 0) := by rw [Lib.cell_of_heap HP.out.1.res]; rfl
        have a1 : wr.cell? ⟨w.heap.size, 1, none⟩ = some (.string ⟨#[]⟩) := by rw [Lib.cell_of_heap HP.out.1.res]; rfl
        have a2 : wr.cell? ⟨w.heap.size, 2, none⟩ = some (.slice none 0 0) := by rw [Lib.cell_of_heap HP.out.1.res]; rfl
        have b0 : wr.frozen? ⟨w.heap.size, 0, none⟩ = false := Lib.frozen_of_heap HP.out.1.res 0
        have b1 : wr.frozen? ⟨w.heap.size, 1, none⟩ = false := Lib.frozen_of_heap HP.out.1.res 1
        have b2 : wr.frozen? ⟨w.heap.size, 2, none⟩ = false := Lib.frozen_of_heap HP.out.1.res 2
        have l0 : wr.cell? ⟨g, 0, none⟩ = some (.int .u64 t) := by rw [Lib.cell_of_heap HP.out.1.box]; rfl
        have l1 : wr.cell? ⟨g, 1, none⟩ = some (.string ev) := by rw [Lib.cell_of_heap HP.out.1.box]; rfl
        have l2 : wr.cell? ⟨g, 2, none⟩ = some (.slice lo ps.length lc) := by rw [Lib.cell_of_heap HP.out.1.box]; rfl
        obtain ⟨pos, bad⟩ := r
        simp only at c1 c2 hle
        cases bad
        · have hp2 : pos = s.size := by unfold ovr at ho; simpa using ho
          have hlt' : ¬ ((pos : Int) < (s.size : Int)) := by omega
          have hlt2 : ¬ (pos < s.size) := by omega
          have HF : Hid ((t = pTime s ∧ ev = pEv s ∧ ps = pPs s) ∧ pAt s = 0 ∧ pErr s = 0) := by
            have hb : (allR s.data.toList).1.bad = false := by rw [HE.out.1]
            obtain ⟨e1, e2, e3, e4, e5⟩ := pErr_good hl hb
            obtain ⟨g1, g2, g3⟩ := HE.out.2 hb
            exact ⟨⟨by rw [g1, e1], by rw [g2, e2], by rw [g3, e3]⟩, e4, e5⟩
          clear hp2 ho
          go_wp2_with fail
          refine bodyPost_ret (v := .tuple #[.agg #[.int .u64 t, .string ev, .slice lo ps.length lc], .int .i64 0, .int .i64 0]) (by simp [results, Tryd.results12, go_sem, a0, a1, a2]) rfl ?_
          have hc : Chg (One w.heap.size) wr (((wr.setCell ⟨w.heap.size, 0, none⟩ (.int .u64 t)).setCell ⟨w.heap.size, 1, none⟩ (.string ev)).setCell ⟨w.heap.size, 2, none⟩ (.slice lo ps.length lc)) :=
            ((chg_to 0 _).trans (chg_to 1 _) (fun _ _ x => x)).trans (chg_to 2 _) (fun _ _ x => x)
          refine ⟨.slice lo ps.length lc, ?_, ?_, HP.out.1.chg.trans hc (fun i hi e => by unfold One at e; omega)⟩
          · rw [HF.out.2.1, HF.out.2.2, ← HF.out.1.1, ← HF.out.1.2.1]; rfl
          · rw [← HF.out.1.2.2]
            exact (HP.out.1.row.keep (fun k e => hc.block k (HP.out.1.row.lt k e) (fun x => by have := (HP.out.1.new k e).1; unfold One at x; omega))).prd HP.out.1.ok
        · have HF : Hid (pTime s = 0 ∧ pEv s = ⟨#[]⟩ ∧ pPs s = [] ∧ pAt s = pos ∧ pErr s = 33) := by
            obtain ⟨e1, e2, e3, e4, e5⟩ := pErr_bad hl (by rw [HE.out.1])
            exact ⟨e1, e2, e3, by rw [e4, HE.out.1], e5⟩
          clear ho
          go_wp2_with fail
          go_region
          all_goals
            go_wp2_with fail
            refine bodyPost_ret (v := .tuple #[.agg #[.int .u64 0, .string ⟨#[]⟩, .slice none 0 0], .int .i64 pos, .int .i64 33]) (by simp [results, Tryd.results12, go_sem, a0, a1, a2]) rfl ?_
            have hc : Chg (One w.heap.size) wr (((wr.setCell ⟨w.heap.size, 0, none⟩ (.int .u64 0)).setCell ⟨w.heap.size, 1, none⟩ (.string ⟨#[]⟩)).setCell ⟨w.heap.size, 2, none⟩ (.slice none 0 0)).drew :=
              (((chg_to 0 _).trans (chg_to 1 _) (fun _ _ x => x)).trans (chg_to 2 _) (fun _ _ x => x)).drew
            rw [HF.out.1, HF.out.2.1, HF.out.2.2.1, HF.out.2.2.2.1, HF.out.2.2.2.2]
            exact ⟨_, rfl, PRd.nil _, HP.out.1.chg.trans hc (fun i hi e => by unfold One at e; omega)⟩
  · obtain ⟨e1, e2, e3, e4, e5⟩ := pErr_long hl
    rw [e1, e2, e3, e4, e5]
    have hl' : ((1024 : Int) < s.size) := by omega
    clear e1 e2 e3 e4 e5
    go_enter Tryd.func12, Tryd.ntmps12
    go_wp2_with fail
    refine bodyPost_ret (v := .tuple #[.agg #[.int .u64 0, .string ⟨#[]⟩, .slice none 0 0], .int .i64 0, .int .i64 32]) (by simp [results, Tryd.results12, go_sem]) rfl ?_
    exact ⟨_, rfl, PRd.nil _, (Chg.refl _ _).alloc _⟩
end Go.Proofs.YtlhcadfcgibkdaaDoor
