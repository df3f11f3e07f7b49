/-
  The walk of LogsEncode: it returns true, and nothing that was there is written.
-/
import Derived.Test.YtlhcadfcgibkdaaDoorRow
import Derived.BigQuiet
namespace Go.Proofs.YtlhcadfcgibkdaaDoor
open Go.RowKit
set_option linter.unusedVariables false
set_option maxRecDepth 100000

def lastP : PairD := ⟨⟨#[108, 97, 115, 116]⟩, false, 0, ⟨#[]⟩⟩

theorem PRd.oks {w : World} {sv : Value} {ps : List PairD} (h : PRd w sv ps) : ∀ p ∈ ps, p.Ok := by
  intro p hp
  obtain ⟨i, hi⟩ := List.mem_iff_getElem?.1 hp
  obtain ⟨ao, n, c, rfl, _, _, _, hx⟩ := h
  exact (hx i p hi).1

theorem PRd.drew {w : World} {sv : Value} {ps : List PairD} (h : PRd w sv ps) : PRd w.drew sv ps := h.non (Chg.refl _ _).drew

/-- What the copy leaves. -/
structure Copy (w w' : World) (g cap : Nat) (ps : List PairD) : Prop where
  chg : Chg Non w w'
  new : w.heap.size ≤ g
  row : w'.ownsRow 0 28 4 (.slice (some ⟨g, 0, none⟩) (ps ++ [lastP]).length cap) (ps ++ [lastP]).length (rowP (ps ++ [lastP]))

theorem Copy.last {w w' : World} {g cap n : Nat} {ps : List PairD} (h : Copy w w' g cap ps) (hn : n = ps.length) : w'.cell? ⟨g, n * 4, none⟩ = some (.string ⟨#[108, 97, 115, 116]⟩) := by
  have h1 := PRd.of_row (ps := ps ++ [lastP]) (qs := []) (by simpa using h.row) (w := w') (g := g) (cap := cap)
  rcases h.row.2 with ⟨e, _⟩ | ⟨g', cap', cur, e, hbg, hg, hnc, hcm, hcs, htake⟩
  · cases e
  · cases e
    have h2 : (ps ++ [lastP])[n]? = some lastP := by rw [hn]; simp
    have h3 := rowP_get _ n 0 lastP h2 (by omega)
    rw [← htake, List.getElem?_take, if_pos (by simp; omega)] at h3
    rw [cell_of_row w' g (n * 4) cur 28 (0, 0) hg]
    simpa [pairL, lastP] using h3

theorem Copy.room {w w' : World} {g cap n : Nat} {ps : List PairD} (h : Copy w w' g cap ps) (hn : n = ps.length) : n + 1 ≤ cap := by
  rcases h.row.2 with ⟨e, _⟩ | ⟨g', cap', cur, e, hbg, hg, hnc, hcm, hcs, htake⟩
  · cases e
  · cases e
    simp at hnc
    omega

theorem Copy.cap {w w' : World} {g cap : Nat} {ps : List PairD} (h : Copy w w' g cap ps) : cap ≤ 9223372036854775807 := by
  rcases h.row.2 with ⟨e, _⟩ | ⟨g', cap', cur, e, hbg, hg, hnc, hcm, hcs, htake⟩
  · cases e
  · cases e
    exact hcm

theorem Copy.non {w w' w2 : World} {g cap : Nat} {ps : List PairD} (h : Copy w w' g cap ps) (hc : Chg Non w' w2) : Copy w w2 g cap ps :=
  ⟨h.chg.trans hc (fun _ _ x => x), h.new, h.row.kept (row := none) ⟨hc.os, hc.tape, hc.output, hc.size, fun k hk _ => hc.block k hk (fun x => x)⟩ (.inr (by simp [Value.ownBlock]))⟩

theorem drewN_chg (w : World) (n : Nat) : Chg Non w (w.drewN n) := ⟨rfl, rfl, rfl, Nat.le_refl _, fun _ _ _ => rfl⟩

theorem own_new (w : World) : (w.alloc (.cells #[] 28)).ownsRow 0 28 4 (.slice (some ⟨w.heap.size, 0, none⟩) 0 0) 0 [] :=
  ⟨rfl, .inr ⟨w.heap.size, 0, #[], rfl, Nat.zero_le _, heap_alloc_new w _, Nat.le_refl _, by decide, rfl, rfl⟩⟩

theorem own_new2 (w : World) (o : Obj) : ((w.alloc o).alloc (.cells #[] 28)).ownsRow 0 28 4 (.slice (some ⟨w.heap.size + 1, 0, none⟩) 0 0) 0 [] := by
  have := own_new (w.alloc o)
  rwa [show (w.alloc o).heap.size = w.heap.size + 1 by simp] at this

theorem src_at {w : World} {k : Nat} (h : w.heap[k]? = some (.cells #[.string ⟨#[108, 97, 115, 116]⟩, .bool false, .int .u64 0, .string ⟨#[]⟩] 28 (0, 0))) : SrcP w (.slice (some ⟨k, 0, none⟩) 1 1) 1 (rowP [lastP]) := by
  refine .inr ⟨_, _, rfl, rfl, fun j u hj => ?_⟩
  rw [Addr.add_lit, cell_of_row _ k (0 + j) _ 28 _ h]
  simp [rowP, pairL, lastP] at hj ⊢
  match j, hj with
  | 0, hj => simpa using hj
  | 1, hj => simpa using hj
  | 2, hj => simpa using hj
  | 3, hj => simpa using hj

theorem copy_first {w1 W w2 : World} {v v2 : Value} {k : Nat} {o : Obj} (hc : W.drew.grownBy w2 v.ownBlock) (hW : Chg Non w1 W) (hB : ∀ j, v.ownBlock = some j → w1.heap.size ≤ j) (hk : w1.heap[k]? = some o) (hv : v2.ownBlock = v.ownBlock ∨ v2.ownBlock = some W.drew.heap.size) :
    Chg Non w1 w2 ∧ w2.heap[k]? = some o ∧ (∀ j, v2.ownBlock = some j → w1.heap.size ≤ j) := by
  have h1 : Chg Non w1 w2 := hW.trans (Chg.of_grown hc).undrew (fun i hi e => by have := hB i e; show False; omega)
  refine ⟨h1, by rw [h1.block k (Array.getElem?_eq_some_iff.1 hk).1 (fun x => x)]; exact hk, fun j e => ?_⟩
  rcases hv with x | x
  · exact hB j (x ▸ e)
  · rw [x] at e
    have := hW.size
    have e2 : W.drew.heap.size = W.heap.size := rfl
    have e3 := Option.some.inj e
    omega

theorem copy_last {w1 W w3 : World} {v2 v3 : Value} {k : Nat} {o : Obj} (hc : W.grownBy w3 v2.ownBlock) (h1 : Chg Non w1 W) (hn : ∀ j, v2.ownBlock = some j → w1.heap.size ≤ j) (hk : w1.heap[k]? = some o) (hv : v3.ownBlock = v2.ownBlock ∨ v3.ownBlock = some W.heap.size) :
    Chg Non w1 w3 ∧ w3.heap[k]? = some o ∧ (∀ j, v3.ownBlock = some j → w1.heap.size ≤ j) := by
  have h3 : Chg Non w1 w3 := h1.trans (Chg.of_grown hc) (fun i hi e => by have := hn i e; show False; omega)
  refine ⟨h3, by rw [h3.block k (Array.getElem?_eq_some_iff.1 hk).1 (fun x => x)]; exact hk, fun j e => ?_⟩
  rcases hv with x | x
  · exact hn j (x ▸ e)
  · rw [x] at e
    have := h1.size
    have e3 := Option.some.inj e
    omega

theorem cell2_of {w1 W : World} {k : Nat} {cs : Array Value} {v : Value} (hk : w1.heap[k]? = some (.cells cs 25 (0, 0))) (hv : cs[2]? = some v) (hW : Chg Non w1 W) : W.cell? ⟨k, 2, none⟩ = some v := by
  rw [World.cell?_of_block (hW.block k (Array.getElem?_eq_some_iff.1 hk).1 (fun x => x)), Lib.cell_of_heap hk]
  exact hv

theorem row_shape {w : World} {v : Value} {n : Nat} {xs : List Value} (h : w.ownsRow 0 28 4 v n xs) (hn : 0 < n) : ∃ g cap, v = .slice (some ⟨g, 0, none⟩) n cap ∧ n ≤ cap ∧ cap ≤ maxLen := by
  rcases h.2 with ⟨_, e⟩ | ⟨g, cap, cur, e, _, _, h1, h2, _⟩
  · omega
  · exact ⟨g, cap, e, h1, h2⟩

set_option maxHeartbeats 16000000 in
theorem encode_walk (time : Nat) (event : ByteArray) (ao : Option Addr) (n c : Nat) (ps : List PairD) (w : World) (ht : Tab w) (htime : time < 18446744073709551616) (hev : event.size ≤ 9223372036854775807) (hps : PRd w (.slice ao n c) ps) (h0 : ao = none → c = 0) (hb : (n + 1) * 48 ≤ 140737488355328) :
    Calls Tryd.prog 3 #[.agg #[.int .u64 time, .string event, .slice ao n c]] w fun e w' => e = .returned (.bool true) ∧ Below w.heap.size w w' := by
  have hn : n = ps.length := by obtain ⟨a, b, d, e, hn, _⟩ := hps; cases e; exact hn
  have hc1 : Chg Non w (w.alloc (.cells #[.int .u64 time, .string event, .slice ao n c] 25)) := (Chg.refl _ _).alloc _
  have hl1 := heap_alloc_new w (.cells #[.int .u64 time, .string event, .slice ao n c] 25)
  have H : Hid (PRd w (.slice ao n c) ps ∧ Tab w ∧ (ao = none → c = 0) ∧ n = ps.length ∧ Chg Non w (w.alloc (.cells #[.int .u64 time, .string event, .slice ao n c] 25)) ∧ (w.alloc (.cells #[.int .u64 time, .string event, .slice ao n c] 25)).heap[w.heap.size]? = some (.cells #[.int .u64 time, .string event, .slice ao n c] 25 (0, 0))) := ⟨hps, ht, h0, hn, hc1, hl1⟩
  clear hps ht h0 hc1 hl1 hn
  go_enter Tryd.func3, Tryd.ntmps3
  go_wp2_with fail
  refine (head_any _ (H.out.2.1.non H.out.2.2.2.2.1)).mono ?_
  rintro e w1 ⟨rfl, hc1⟩
  have H1 : Hid (Chg Non w w1 ∧ w1.heap[w.heap.size]? = some (.cells #[.int .u64 time, .string event, .slice ao n c] 25 (0, 0)) ∧ PRd w1 (.slice ao n c) ps) := by
    have hcw := H.out.2.2.2.2.1.trans hc1 (fun _ _ x => x)
    exact ⟨hcw, by rw [hc1.block _ (by simp) (fun x => x)]; exact H.out.2.2.2.2.2, H.out.1.non hcw⟩
  have b2 : w1.cell? ⟨w.heap.size, 2, none⟩ = some (.slice ao n c) := by rw [Lib.cell_of_heap H1.out.2.1]; rfl
  clear hc1
  have d1 : (w1.alloc (.cells #[] 28)).cell? ⟨w.heap.size, 2, none⟩ = some (.slice ao n c) := cell2_of H1.out.2.1 rfl ((Chg.refl _ _).alloc _)
  have d2 : (w1.alloc (.cells #[.string ⟨#[108, 97, 115, 116]⟩, .bool false, .int .u64 0, .string ⟨#[]⟩] 28)).cell? ⟨w.heap.size, 2, none⟩ = some (.slice ao n c) := cell2_of H1.out.2.1 rfl ((Chg.refl _ _).alloc _)
  have d3 : ((w1.alloc (.cells #[] 28)).alloc (.cells #[.string ⟨#[108, 97, 115, 116]⟩, .bool false, .int .u64 0, .string ⟨#[]⟩] 28)).cell? ⟨w.heap.size, 2, none⟩ = some (.slice ao n c) := cell2_of H1.out.2.1 rfl (((Chg.refl _ _).alloc _).alloc _)
  have d4 : ((w1.alloc (.cells #[.string ⟨#[108, 97, 115, 116]⟩, .bool false, .int .u64 0, .string ⟨#[]⟩] 28)).alloc (.cells #[] 28)).cell? ⟨w.heap.size, 2, none⟩ = some (.slice ao n c) := cell2_of H1.out.2.1 rfl (((Chg.refl _ _).alloc _).alloc _)
  go_wp2_with fail
  go_cut [4] from 11 to 21 (fun v wc => ∃ g cap, v = .slice (some ⟨g, 0, none⟩) n cap ∧ Copy w1 wc g cap ps)
  case first =>
    go_region_law (first
      | ((first | refine step_appP rfl (.tmp 11) (.tmp 13) rfl (.slice (some ⟨w1.heap.size, 0, none⟩) 0 0) (.slice ao n c) 0 ps.length [] (rowP ps) rfl rfl ?_ ?_ ?_ ?_ ?_ | refine step_appP rfl (.tmp 11) (.tmp 13) rfl (.slice (some ⟨w1.heap.size + 1, 0, none⟩) 0 0) (.slice ao n c) 0 ps.length [] (rowP ps) rfl rfl ?_ ?_ ?_ ?_ ?_); (first | exact own_new w1 | exact (own_new w1).alloc _ | exact own_new2 w1 _); (first | exact SrcP.of (H1.out.2.2.non ((Chg.refl _ _).alloc _)).drew H.out.2.2.1 | exact SrcP.of (H1.out.2.2.non (((Chg.refl _ _).alloc _).alloc _)).drew H.out.2.2.1); exact rowP_one ps; (have := H.out.2.2.2.1; omega); intro v2 w2 ho2 hc2 hk2; have hA := copy_first hc2 (by first | exact (Chg.refl _ _).alloc _ | exact ((Chg.refl _ _).alloc _).alloc _) (by intro j e; simp [Value.ownBlock] at e; omega) H1.out.2.1 hk2; have g2 : (w2.alloc (.cells #[.string ⟨#[108, 97, 115, 116]⟩, .bool false, .int .u64 0, .string ⟨#[]⟩] 28)).cell? ⟨w.heap.size, 2, none⟩ = some (.slice ao n c) := cell2_of hA.2.1 rfl ((Chg.refl _ _).alloc _); have f2 : w2.cell? ⟨w.heap.size, 2, none⟩ = some (.slice ao n c) := cell2_of hA.2.1 rfl (Chg.refl _ _))
      | (refine step_appP rfl (.tmp 14) (.tmp 16) rfl v2 _ ps.length 1 (rowP ps) (rowP [lastP]) rfl rfl ?_ ?_ ?_ ?_ ?_; (have ho2' : w2.ownsRow 0 28 4 v2 ps.length (rowP ps) := (by simpa using ho2); first | exact ho2'.alloc _ | exact ho2'); (first | exact src_at (heap_alloc_new w2 _) | exact src_at (by rw [hc2.block (w1.heap.size + 1) (by simp [World.drew]) (by simp [Value.ownBlock])]; exact new2 w1 _ _) | exact src_at (by rw [hc2.block w1.heap.size (by simp [World.drew]; omega) (by simp [Value.ownBlock])]; exact (Below.heap_alloc _ _ _ (by simp)).trans (heap_alloc_new w1 _))); exact rowP_one _; (have := H.out.2.2.2.1; omega); intro v3 w3 ho3 hc3 hk3; have hB := copy_last hc3 (by first | exact hA.1.alloc _ | exact hA.1) hA.2.2 H1.out.2.1 hk3; obtain ⟨g3, cap3, rfl, hle3, hcm3⟩ := row_shape ho3 (by omega); have f3 : w3.cell? ⟨w.heap.size, 2, none⟩ = some (.slice ao n c) := cell2_of hB.2.1 rfl (Chg.refl _ _); have hnc : n ≤ cap3 := (by have := H.out.2.2.2.1; omega)))
    all_goals
      have HC : Hid (Copy w1 w3 g3 cap3 ps) := ⟨hB.1, hB.2.2 g3 rfl, by rw [List.length_append, rowP_app]; exact ho3⟩
      clear ho2 hc2 hk2 hA g2 f2 ho3 hc3 hk3 hB f3 b2 d1 d2 d3 d4
      go_wp2_with fail
      go_meet
      case rel => exact ⟨g3, cap3, rfl, HC.out⟩
  case rest =>
    obtain ⟨g, cap, rfl, hC⟩ := hcut
    obtain ⟨w3, hw3⟩ : ∃ w3, w3 = wc := ⟨_, rfl⟩
    subst hw3
    have H3 : Hid (Copy w1 w3 g cap ps ∧ Chg Non w w3 ∧ w3.heap[w.heap.size]? = some (.cells #[.int .u64 time, .string event, .slice ao n c] 25 (0, 0)) ∧ PRd w3 (.slice (some ⟨g, 0, none⟩) n cap) ps) := by
      refine ⟨hC, H1.out.1.trans hC.chg (fun _ _ x => x), by rw [hC.chg.block _ (Array.getElem?_eq_some_iff.1 H1.out.2.1).1 (fun x => x)]; exact H1.out.2.1, ?_⟩
      rw [H.out.2.2.2.1]
      exact PRd.of_row hC.row H1.out.2.2.oks
    have y0 : w3.cell? ⟨w.heap.size, 0, none⟩ = some (.int .u64 time) := by rw [Lib.cell_of_heap H3.out.2.2.1]; rfl
    have y1 : w3.cell? ⟨w.heap.size, 1, none⟩ = some (.string event) := by rw [Lib.cell_of_heap H3.out.2.2.1]; rfl
    clear hC b2 d1 d2 d3 d4
    go_wp2_with fail
    clear y0 y1
    refine (encode_any time event _ ps _ (H.out.2.1.non H3.out.2.1) htime hev H3.out.2.2.2).mono ?_
    rintro e w4 ⟨rfl, hc4⟩
    have H4 : Hid (Copy w1 w4 g cap ps ∧ Chg Non w w4 ∧ w4.heap[w.heap.size]? = some (.cells #[.int .u64 time, .string event, .slice ao n c] 25 (0, 0))) := by
      refine ⟨⟨H3.out.1.chg.trans hc4 (fun _ _ x => x), H3.out.1.new, H3.out.1.row.kept (row := none) ⟨hc4.os, hc4.tape, hc4.output, hc4.size, fun k hk _ => hc4.block k hk (fun x => x)⟩ (.inr (by simp [Value.ownBlock]))⟩, H3.out.2.1.trans hc4 (fun _ _ x => x), by rw [hc4.block _ (Array.getElem?_eq_some_iff.1 H3.out.2.2.1).1 (fun x => x)]; exact H3.out.2.2.1⟩
    have y0 : w4.cell? ⟨w.heap.size, 0, none⟩ = some (.int .u64 time) := by rw [Lib.cell_of_heap H4.out.2.2]; rfl
    have y1 : w4.cell? ⟨w.heap.size, 1, none⟩ = some (.string event) := by rw [Lib.cell_of_heap H4.out.2.2]; rfl
    have y2 : w4.cell? ⟨w.heap.size, 2, none⟩ = some (.slice ao n c) := by rw [Lib.cell_of_heap H4.out.2.2]; rfl
    clear hc4 H3
    obtain ⟨tS, htS⟩ : ∃ tS, tS = encT time event ps := ⟨_, rfl⟩
    obtain ⟨tE, htE⟩ : ∃ tE, tE = encE time event ps := ⟨_, rfl⟩
    rw [← htS, ← htE]
    have HT : Hid (tS = encT time event ps ∧ tE = encE time event ps) := ⟨htS, htE⟩
    clear htS htE
    go_wp2_with fail
    clear y0 y1 y2
    refine (refEncode_any time event _ ps _ (H.out.2.1.non H4.out.2.1) htime hev (H.out.1.non H4.out.2.1)).mono ?_
    rintro e w5 ⟨rfl, hc5⟩
    rw [← HT.out.1, ← HT.out.2]
    have H5 : Hid (Copy w1 w5 g cap ps ∧ Chg Non w w5 ∧ w5.heap[w.heap.size]? = some (.cells #[.int .u64 time, .string event, .slice ao n c] 25 (0, 0))) := by
      refine ⟨⟨H4.out.1.chg.trans hc5 (fun _ _ x => x), H4.out.1.new, H4.out.1.row.kept (row := none) ⟨hc5.os, hc5.tape, hc5.output, hc5.size, fun k hk _ => hc5.block k hk (fun x => x)⟩ (.inr (by simp [Value.ownBlock]))⟩, H4.out.2.1.trans hc5 (fun _ _ x => x), by rw [hc5.block _ (Array.getElem?_eq_some_iff.1 H4.out.2.2).1 (fun x => x)]; exact H4.out.2.2⟩
    clear hc5 H4
    go_wp2_with fail
    go_loopw [9] (fun i wr => ∃ k : Nat, i = .int .i64 k ∧ k ≤ n ∧ Copy w1 wr g cap ps ∧ Chg Non w wr ∧ wr.heap[w.heap.size]? = some (.cells #[.int .u64 time, .string event, .slice ao n c] 25 (0, 0))) (fun i _ => n - (intOf i).toNat)
    case atStart => exact ⟨0, rfl, by omega, H5.out⟩
    case round =>
      obtain ⟨k, rfl, hk, hC, hcw, hbx⟩ := hrel
      have H6 : Hid (Copy w1 wr g cap ps ∧ Chg Non w wr ∧ wr.heap[w.heap.size]? = some (.cells #[.int .u64 time, .string event, .slice ao n c] 25 (0, 0))) := ⟨hC, hcw, hbx⟩
      have y2 : wr.cell? ⟨w.heap.size, 2, none⟩ = some (.slice ao n c) := by rw [Lib.cell_of_heap hbx]; rfl
      clear H5
      by_cases hp : k < n
      · have hpl : k < ps.length := by have := H.out.2.2.2.1; omega
        have hat : ps[k]? = some (ps[k]'hpl) := by simp
        obtain ⟨p, hpd⟩ : ∃ p, p = ps[k]'hpl := ⟨_, rfl⟩
        rw [← hpd] at hat
        obtain ⟨ao', n', c', e', -, -, -, hx⟩ := H.out.1.non hcw
        cases e'
        obtain ⟨ok, g2, off, rfl, hg, d0, d1, d2, d3⟩ := hx k p hat
        have hprd : PRd wr (.slice (some ⟨g, 0, none⟩) ps.length cap) ps := PRd.of_row hC.row H1.out.2.2.oks
        obtain ⟨ao', n', c', e', -, -, -, hx2⟩ := hprd
        cases e'
        obtain ⟨-, g3, off3, e3, -, o0, o1, o2, o3⟩ := hx2 k p hat
        cases e3
        simp only [Nat.zero_add] at o0 o1 o2 o3
        obtain ⟨key, isNum, num, text⟩ := p
        simp only at d0 d1 d2 d3 o0 o1 o2 o3
        clear hpd hat hx ok hC hcw hbx hg hx2
        have hkI : (k : Int) < n := by omega
        go_wp2_with fail
        go_quiet (fail)
        have H7 : Hid (Copy w1 (wr.drewN nq) g cap ps ∧ Chg Non w (wr.drewN nq) ∧ (wr.drewN nq).heap[w.heap.size]? = some (.cells #[.int .u64 time, .string event, .slice (some ⟨g2, off, none⟩) n c] 25 (0, 0))) := ⟨H6.out.1.non (drewN_chg wr _), H6.out.2.1.trans (drewN_chg wr _) (fun _ _ x => x), H6.out.2.2⟩
        clear d0 d1 d2 d3 o0 o1 o2 o3 y2 H6
        go_wp2
        go_roundw
        case rel => exact ⟨k + 1, by go_num, by omega, H7.out⟩
        case measure => simp [intOf]; omega
      · have hlast : wr.cell? ⟨g, n * 4, none⟩ = some (.string ⟨#[108, 97, 115, 116]⟩) := hC.last H.out.2.2.2.1
        have hnc : n + 1 ≤ cap := hC.room H.out.2.2.2.1
        have hcap : cap ≤ 9223372036854775807 := hC.cap
        clear hC hcw hbx
        have hnI : ((n : Int) + 1 ≤ cap) := by omega
        have hnJ : ((n : Int) < n + 1) := by omega
        go_wp2_with fail
        go_quiet (fail)
        go_wp2
        go_ret
        exact ⟨rfl, (H6.out.2.1.trans (drewN_chg wr _) (fun _ _ x => x)).below (Nat.le_refl _) (fun k x => x.elim)⟩
end Go.Proofs.YtlhcadfcgibkdaaDoor
