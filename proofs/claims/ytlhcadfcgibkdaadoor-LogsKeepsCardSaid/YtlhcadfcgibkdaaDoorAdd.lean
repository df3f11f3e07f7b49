/-
  A log's Add: a line's text stands behind the others; where there are too many, the first one is lost.
-/
import Derived.Test.YtlhcadfcgibkdaaDoorEnc
import Derived.Test.YtlhcadfcgibkdaaDoorLog2
namespace Go.Proofs.YtlhcadfcgibkdaaDoor
open Go.RowKit
set_option linter.unusedVariables false
set_option maxRecDepth 100000

theorem heap_setCell_at (w : World) (r o : Nat) (u : Value) (cs : Array Value) (t : TypeId) (h : w.heap[r]? = some (.cells cs t (0, 0))) :
    (w.setCell ⟨r, o, none⟩ u).heap[r]? = some (.cells (cs.setIfInBounds o u) t (0, 0)) := by
  show (w.heap.modify r _)[r]? = _
  rw [Array.getElem?_modify, if_pos rfl, h]
  rfl

theorem OwnS.set {w : World} {g off n cap : Nat} {xs : List ByteArray} (h : OwnS w g off n cap xs) (j : Nat) (hj : j < n) (b : ByteArray) : OwnS (w.setCell ⟨g, off + j, none⟩ (.string b)) g off n cap (xs.set j b) := by
  obtain ⟨cur, hg, hs, ht⟩ := h.blk
  have hle := h.le
  refine ⟨by simpa using h.len, h.le, h.mx, _, heap_setCell_at w g (off + j) _ cur 9 hg, by simpa using hs, ?_⟩
  rw [Array.toList_setIfInBounds, List.drop_set]
  rw [if_neg (by omega), Nat.add_sub_cancel_left, List.take_set, ht, List.map_set]

theorem OwnS.free {w : World} {g off n cap : Nat} {xs : List ByteArray} (h : OwnS w g off n cap xs) (o : Nat) : w.frozen? ⟨g, o, none⟩ = false := by
  obtain ⟨cur, hg, hs, ht⟩ := h.blk
  simp [World.frozen?, hg]

theorem OwnS.at {w : World} {g off n cap : Nat} {xs : List ByteArray} (h : OwnS w g off n cap xs) (j : Nat) (hj : j < n) : ∃ b, w.cell? ⟨g, off + j, none⟩ = some (.string b) := by
  have := h.len
  exact ⟨xs[j], h.cell j _ (by simp)⟩

theorem kept_full {L : List ByteArray} {most first : Nat} (hl : L.length = most) (hf : first < most) (s : ByteArray) :
    kept (L.set first s) ((first + 1) % most) = (kept L first ++ [s]).drop 1 := by
  have hfl : first < L.length := by omega
  obtain ⟨A, x, B, rfl, hA⟩ : ∃ A x B, L = A ++ x :: B ∧ A.length = first := ⟨L.take first, L[first], L.drop (first + 1), by rw [List.getElem_cons_drop hfl, List.take_append_drop], by simp; omega⟩
  have hset : (A ++ x :: B).set first s = A ++ s :: B := by
    rw [List.set_append_right _ _ (by omega), hA]
    simp
  have hk : kept (A ++ x :: B) first = x :: B ++ A := by
    unfold kept
    rw [← hA]
    simp
  rw [hset, hk]
  by_cases hlast : first + 1 = most
  · have hB : B = [] := by
      apply List.eq_nil_of_length_eq_zero
      simp at hl
      omega
    subst hB
    rw [hlast, Nat.mod_self]
    unfold kept
    simp
  · rw [Nat.mod_eq_of_lt (by omega)]
    unfold kept
    have e1 : A ++ s :: B = (A ++ [s]) ++ B := by simp
    have e2 : first + 1 = (A ++ [s]).length := by simp; omega
    rw [e1, e2, List.drop_left, List.take_left]
    simp

theorem kept_zero (L : List ByteArray) : kept L 0 = L := by unfold kept; simp
theorem kept_len (L : List ByteArray) (first : Nat) : (kept L first).length = L.length := by unfold kept; simp; omega

/-- What Add leaves of a log, the line being written. -/
structure AddP (w w' : World) (p most : Nat) (lv : Value) (first lost : Nat) (mv : Value) (L : List ByteArray) (s : ByteArray) (lv' : Value) (first' lost' : Nat) (L' : List ByteArray) : Prop where
  st : LogSt w' p most lv' first' lost' mv L'
  chg : Chg (LS p lv) w w'
  row : ∀ k, lv'.ownBlock = some k → lv.ownBlock = some k ∨ w.heap.size ≤ k
  kp : kept L' first' = if most < L.length + 1 then (kept L first ++ [s]).drop 1 else kept L first ++ [s]
  ls : lost' = if most < L.length + 1 then lost + 1 else lost

theorem add_grow {w w1 w2 : World} {p most : Nat} {lv : Value} {first lost : Nat} {mv : Value} {L : List ByteArray} {s : ByteArray} {v2 : Value} (h : LogSt w p most lv first lost mv L) (hlt : L.length < most) (h1 : LogSt w1 p most lv first lost mv L) (hc1 : Chg Non w w1)
    (ho : OwnVS w2 v2 (L ++ [s])) (hc : Chg (fun k => lv.ownBlock = some k) w1 w2) (hk : v2.ownBlock = lv.ownBlock ∨ ∃ n, v2.ownBlock = some n ∧ w1.heap.size ≤ n) : AddP w (w2.setCell ⟨p, 1, none⟩ v2) p most lv first lost mv L s v2 first lost (L ++ [s]) := by
  have hf := h.f0 hlt
  have hb2 : w2.heap[p]? = some (.cells #[.int .i64 most, lv, .int .i64 first, .int .u64 lost, mv] 82 (0, 0)) := by
    rw [hc.block p h1.lt h1.rowp]; exact h1.blk
  have hne : v2.ownBlock ≠ some p := by
    intro e
    obtain ⟨c, hc⟩ := ho.blk p e
    rw [hb2] at hc
    cases hc
  refine ⟨⟨by rw [heap_setCell_at w2 p 1 v2 _ 82 hb2]; rfl, ho.keep (fun k e => Below.heap_setCell _ _ _ _ (fun x => hne (by rw [e, x]))), h.m1, h.m2, h.fm, by simp; omega, fun _ => hf, fun e => by simp at e⟩, ?_, fun k e => ?_, ?_, ?_⟩
  · exact Chg.setCell (((hc1.non (LS p lv)).trans hc (fun i _ e => .inr e))) (p := ⟨p, 1, none⟩) (fun _ => .inl rfl) _
  · rcases hk with x | ⟨n, x, hn⟩
    · exact .inl (x ▸ e)
    · rw [x] at e
      cases e
      have := hc1.size
      exact .inr (by omega)
  · rw [if_neg (by omega), hf, kept_zero, kept_zero]
  · rw [if_neg (by omega)]

theorem add_turn {w w1 : World} {p most g off n cap : Nat} {first lost : Nat} {mv : Value} {L : List ByteArray} {s : ByteArray} (h : LogSt w p most (.slice (some ⟨g, off, none⟩) n cap) first lost mv L) (hlt : ¬ L.length < most) (h1 : LogSt w1 p most (.slice (some ⟨g, off, none⟩) n cap) first lost mv L) (hc1 : Chg Non w w1)
    (w3 : World) (hw3 : w3 = ((w1.setCell ⟨g, off + first, none⟩ (.string s)).setCell ⟨p, 2, none⟩ (.int .i64 (((first + 1) % most : Nat) : Int))).setCell ⟨p, 3, none⟩ (.int .u64 ((lost + 1 : Nat) : Int))) : AddP w w3 p most (.slice (some ⟨g, off, none⟩) n cap) first lost mv L s (.slice (some ⟨g, off, none⟩) n cap) ((first + 1) % most) (lost + 1) (L.set first s) := by
  have hn := h1.own.own.len
  have hgp : g ≠ p := fun e => h1.rowp (by rw [← e]; rfl)
  have hmost := h.m1
  have hle := h.le
  have hfm := h.fm
  have hl : L.length = most := by omega
  have b1 : (w1.setCell ⟨g, off + first, none⟩ (.string s)).heap[p]? = some (.cells #[.int .i64 most, .slice (some ⟨g, off, none⟩) n cap, .int .i64 first, .int .u64 lost, mv] 82 (0, 0)) := by
    rw [Below.heap_setCell _ _ _ _ (fun e => hgp e.symm)]; exact h1.blk
  have b2 := heap_setCell_at _ p 2 (.int .i64 (((first + 1) % most : Nat) : Int)) _ 82 b1
  have b3 := heap_setCell_at _ p 3 (.int .u64 ((lost + 1 : Nat) : Int)) _ 82 b2
  have ho : OwnS w3 g off n cap (L.set first s) := by
    have o1 := h1.own.own.set first (by omega) s
    have o2 : OwnS ((w1.setCell ⟨g, off + first, none⟩ (.string s)).setCell ⟨p, 2, none⟩ (.int .i64 (((first + 1) % most : Nat) : Int))) g off n cap (L.set first s) := o1.keep (Below.heap_setCell _ _ _ _ hgp)
    rw [hw3]
    exact o2.keep (Below.heap_setCell _ _ _ _ hgp)
  refine ⟨⟨by rw [hw3, b3]; rfl, .inr ⟨g, off, n, cap, rfl, ho⟩, h.m1, h.m2, Nat.mod_lt _ (by omega), by simp; omega, fun x => by simp at x; omega, fun e => by
    exfalso
    have h9 : (L.set first s).length = 0 := by rw [e]; rfl
    rw [List.length_set] at h9
    omega⟩, ?_, fun k e => .inl e, ?_, ?_⟩
  · rw [hw3]
    exact Chg.setCell (Chg.setCell (Chg.setCell (hc1.non (LS p _)) (p := ⟨g, off + first, none⟩) (fun _ => .inr rfl) _) (p := ⟨p, 2, none⟩) (fun _ => .inl rfl) _) (p := ⟨p, 3, none⟩) (fun _ => .inl rfl) _
  · rw [if_pos (by omega)]
    exact kept_full hl h.fm s
  · rw [if_pos (by omega)]

/-- A new slice's one text. -/
theorem RdS.one (w : World) (b : ByteArray) : RdS (w.alloc (.cells #[.string b] 9)) (.slice (some ⟨w.heap.size, 0, none⟩) 1 1) [b] := by
  refine ⟨_, _, _, rfl, rfl, Nat.le_refl _, by decide, fun e => by (cases e), fun x e j u hj => ?_⟩
  cases e
  match j, hj with
  | 0, hj =>
    simp at hj
    subst hj
    simp [Addr.add]

theorem OwnVS.boxed {w : World} {v : Value} {xs : List ByteArray} (h : OwnVS w v xs) (o : Obj) : OwnVS (w.alloc o) v xs := h.keep (fun k e => Below.heap_alloc _ _ _ (h.lt k e))

set_option maxHeartbeats 1000000 in
theorem add_any (p most : Nat) (lv : Value) (first lost : Nat) (mv : Value) (L : List ByteArray) (time : Nat) (event : ByteArray) (sv : Value) (ps : List PairD) (w : World) (h : LogSt w p most lv first lost mv L) (hlost : lost < 9223372036854775807)
    (ht : Tab w) (htime : time < 18446744073709551616) (hev : event.size ≤ 9223372036854775807) (hps : PRd w sv ps) :
    Calls Tryd.prog 15 #[.pointer (some ⟨p, 0, none⟩), .agg #[.int .u64 time, .string event, sv]] w fun e w' => e = .returned (.int .i64 (encE time event ps)) ∧
      (encE time event ps ≠ 0 → LogSt w' p most lv first lost mv L ∧ Chg Non w w') ∧ (encE time event ps = 0 → ∃ lv' first' lost' L', AddP w w' p most lv first lost mv L (encT time event ps) lv' first' lost' L') := by
  obtain ⟨ao, n, c, rfl, hn, hc, hm, hx⟩ := hps
  have hps : PRd w (.slice ao n c) ps := ⟨ao, n, c, rfl, hn, hc, hm, hx⟩
  have H : Hid (LogSt w p most lv first lost mv L ∧ Tab w ∧ PRd w (.slice ao n c) ps) := ⟨h, ht, hps⟩
  clear h ht hps hn hc hm hx
  have hc1 : Chg Non w (w.alloc (.cells #[.int .u64 time, .string event, .slice ao n c] 25)) := (Chg.refl _ _).alloc _
  have H1 : Hid (Chg Non w (w.alloc (.cells #[.int .u64 time, .string event, .slice ao n c] 25))) := hc1
  clear hc1
  obtain ⟨tS, htS⟩ : ∃ tS, tS = encT time event ps := ⟨_, rfl⟩
  obtain ⟨tE, htE⟩ : ∃ tE, tE = encE time event ps := ⟨_, rfl⟩
  have HT : Hid (tS = encT time event ps ∧ tE = encE time event ps) := ⟨htS, htE⟩
  rw [← htS, ← htE]
  clear htS htE
  go_enter Tryd.func15, Tryd.ntmps15
  go_wp2_with fail
  refine (encode_any time event _ ps _ (H.out.2.1.non H1.out) htime hev (H.out.2.2.non H1.out)).mono ?_
  rintro e w2 ⟨rfl, hc2⟩
  rw [← HT.out.1, ← HT.out.2]
  have H2 : Hid (LogSt w2 p most lv first lost mv L ∧ Chg Non w w2) := by
    have hcw := H1.out.trans hc2 (fun _ _ x => x)
    exact ⟨H.out.1.non hcw, hcw⟩
  clear hc2 H1
  by_cases hE : tE = 0
  · rw [hE]
    obtain ⟨c0, c1, c2, c3, -⟩ := H2.out.1.cells
    obtain ⟨lo, lc, rfl, hlc, hlm, hlnil⟩ := H2.out.1.own.shape
    obtain ⟨ln, hln⟩ : ∃ ln, ln = L.length := ⟨_, rfl⟩
    rw [← hln] at c1 hlc
    have HLN : Hid (ln = L.length) := hln
    have hln4 : ln ≤ 4096 := by have := H.out.1.le; have := H.out.1.m2; omega
    have hm4 : most ≤ 4096 := H.out.1.m2
    have hm1 : 1 ≤ most := H.out.1.m1
    rw [← hln] at H H2
    clear hln hlnil
    by_cases hlt : ln < most
    · have hltI : (ln : Int) < most := by omega
      go_wp2_with fail
      go_quiet (fail)
      have hcq : Chg Non w2 (w2.drewN nq) := ⟨rfl, rfl, rfl, Nat.le_refl _, fun _ _ _ => rfl⟩
      have H3 : Hid (LogSt (w2.drewN nq) p most (.slice lo ln lc) first lost mv L ∧ Chg Non w (w2.drewN nq)) := ⟨H2.out.1.non hcq, H2.out.2.trans hcq (fun _ _ x => x)⟩
      obtain ⟨w3, hw3⟩ : ∃ w3, w3 = w2.drewN nq := ⟨_, rfl⟩
      rw [← hw3] at H3 ⊢
      clear hcq hw3 c0 c1 c2 c3 H2
      obtain ⟨c0, c1, c2, c3, -⟩ := H3.out.1.cells
      have d1 : (w3.alloc (.cells #[.string tS] 9)).cell? ⟨p, 1, none⟩ = some (.slice lo ln lc) := by rw [← c1]; exact World.cell?_of_block (Below.heap_alloc _ _ _ H3.out.1.lt)
      go_wp2_with (at_builtin; refine wpList_appS _ rfl _ _ rfl (.slice lo ln lc) _ L [tS] rfl rfl (H3.out.1.own.boxed _) (RdS.one w3 tS) (by have := HLN.out; simp; omega) ?_)
      intro v4 w4 ho4 hc4 hk4
      have HA : Hid (AddP w (w4.setCell ⟨p, 1, none⟩ v4) p most (.slice lo ln lc) first lost mv L tS v4 first lost (L ++ [tS]) ∧ w4.heap[p]? = some (.cells #[.int .i64 most, .slice lo ln lc, .int .i64 first, .int .u64 lost, mv] 82 (0, 0))) := by
        have hlt' : L.length < most := by have := HLN.out; omega
        refine ⟨add_grow H.out.1 hlt' (H3.out.1.non ((Chg.refl _ _).alloc _)) (H3.out.2.alloc _) ho4 hc4 (hk4.imp id (fun x => ⟨_, x, by simp⟩)), ?_⟩
        rw [hc4.block p (by have := H3.out.1.lt; simp; omega) H3.out.1.rowp, Below.heap_alloc _ _ _ H3.out.1.lt]
        exact H3.out.1.blk
      obtain ⟨ao4, n4, cc4, rfl⟩ := shapeS ho4
      have e0 : w4.cell? ⟨p, 1, none⟩ = some (.slice lo ln lc) := by rw [Lib.cell_of_heap HA.out.2]; rfl
      have ef : w4.frozen? ⟨p, 1, none⟩ = false := Lib.frozen_of_heap HA.out.2 1
      clear ho4 hc4 hk4 c0 c1 c2 c3 d1
      go_wp2
      go_ret
      exact ⟨ret_int hE.symm, fun x => absurd hE x, fun _ => ⟨_, _, _, _, by rw [← HLN.out]; exact HA.out.1⟩⟩
    · have hltI : ¬ (ln : Int) < most := by omega
      obtain ⟨g, off, rfl⟩ : ∃ g off, lo = some ⟨g, off, none⟩ := by
        rcases H.out.1.own with ⟨e, e2⟩ | ⟨g, off, n', cap', e, _⟩
        · have := HLN.out; rw [e2] at this; simp at this; omega
        · cases e; exact ⟨g, off, rfl⟩
      go_wp2_with fail
      go_quiet (fail)
      have hcq : Chg Non w2 (w2.drewN nq) := ⟨rfl, rfl, rfl, Nat.le_refl _, fun _ _ _ => rfl⟩
      have H3 : Hid (LogSt (w2.drewN nq) p most (.slice (some ⟨g, off, none⟩) ln lc) first lost mv L ∧ Chg Non w (w2.drewN nq)) := ⟨H2.out.1.non hcq, H2.out.2.trans hcq (fun _ _ x => x)⟩
      obtain ⟨w3, hw3⟩ : ∃ w3, w3 = w2.drewN nq := ⟨_, rfl⟩
      rw [← hw3] at H3 ⊢
      clear hcq hw3 c0 c1 c2 c3 H2
      obtain ⟨c0, c1, c2, c3, -⟩ := H3.out.1.cells
      have hfl : first < ln := by have := H.out.1.fm; omega
      obtain ⟨ob, cb⟩ := H3.out.1.own.own.at first hfl
      have fb := H3.out.1.own.own.free (off + first)
      have hgp : g ≠ p := fun e => H3.out.1.rowp (by rw [← e]; rfl)
      go_wp2_with fail
      go_cut [] from 35 to 44 (fun wc => ∃ wd, wc = wd.setCell ⟨g, off + first, none⟩ (.string tS) ∧ LogSt wd p most (.slice (some ⟨g, off, none⟩) ln lc) first lost mv L ∧ Chg Non w wd)
      case first =>
        go_region
        all_goals
          go_wp2_with fail
          go_meet
          case rel => exact ⟨w3.drew, rfl, H3.out.1.non (Chg.refl _ _).drew, H3.out.2.trans (Chg.refl _ _).drew (fun _ _ x => x)⟩
      case rest =>
        obtain ⟨wd, rfl, hd⟩ := hcut
        have HD : Hid (LogSt wd p most (.slice (some ⟨g, off, none⟩) ln lc) first lost mv L ∧ Chg Non w wd) := hd
        have hbe : (wd.setCell ⟨g, off + first, none⟩ (.string tS)).heap[p]? = some (.cells #[.int .i64 most, .slice (some ⟨g, off, none⟩) ln lc, .int .i64 first, .int .u64 lost, mv] 82 (0, 0)) := by
          rw [Below.heap_setCell _ _ _ _ (fun e => hgp e.symm)]; exact hd.1.blk
        clear hd c0 c1 c2 c3 cb fb
        obtain ⟨we, hwe⟩ : ∃ we, we = wd.setCell ⟨g, off + first, none⟩ (.string tS) := ⟨_, rfl⟩
        rw [← hwe] at hbe ⊢
        have c0 : we.cell? ⟨p, 0, none⟩ = some (.int .i64 most) := by rw [Lib.cell_of_heap hbe]; rfl
        have c2 : we.cell? ⟨p, 2, none⟩ = some (.int .i64 first) := by rw [Lib.cell_of_heap hbe]; rfl
        have c3 : we.cell? ⟨p, 3, none⟩ = some (.int .u64 lost) := by rw [Lib.cell_of_heap hbe]; rfl
        have f2 : we.frozen? ⟨p, 2, none⟩ = false := Lib.frozen_of_heap hbe 2
        have f3 : we.frozen? ⟨p, 3, none⟩ = false := Lib.frozen_of_heap hbe 3
        have HE : Hid (we = wd.setCell ⟨g, off + first, none⟩ (.string tS)) := hwe
        clear hbe hwe
        have hm0 : ((most : Int) == 0) = false := by simp; omega
        go_wp2_with fail
        go_region
        all_goals
          go_wp2_with fail
          go_ret
          refine ⟨ret_int hE.symm, fun x => absurd hE x, fun _ => ⟨.slice (some ⟨g, off, none⟩) ln lc, (first + 1) % most, lost + 1, L.set first tS, ?_⟩⟩
          rw [← HLN.out]
          refine add_turn H.out.1 (by have := HLN.out; omega) (w1 := wd.drew) (HD.out.1.non (Chg.refl _ _).drew) (HD.out.2.trans (Chg.refl _ _).drew (fun _ _ x => x)) _ ?_
          rw [HE.out]
          have e1 : (((first + 1) % most : Nat) : Int) = ((first : Int) + 1) % (most : Int) := by push_cast; rfl
          have e2 : ((lost + 1 : Nat) : Int) = (lost : Int) + 1 := by omega
          rw [e1, e2]
          rfl
  · have hEq : (tE == 0) = false := by simpa using hE
    have HE : Hid (tE ≠ 0) := hE
    clear hE
    go_wp2
    go_ret
    exact ⟨rfl, fun _ => H2.out, fun e => absurd e HE.out⟩
end Go.Proofs.YtlhcadfcgibkdaaDoor
