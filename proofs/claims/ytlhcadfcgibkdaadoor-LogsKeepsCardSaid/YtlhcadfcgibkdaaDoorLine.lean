/-
  The pen: a whole line.
-/
import Derived.Test.YtlhcadfcgibkdaaDoorPen2
namespace Go.Proofs.YtlhcadfcgibkdaaDoor
open Go.RowKit
set_option linter.unusedVariables false
set_option maxRecDepth 100000

/-- What must hold of a pair ahead of its being written. -/
structure Fit (p : PairD) : Prop where
  ok : p.Ok
  key : p.key.size ≤ 32
  text : p.isNum = false → p.text.size ≤ 1024

theorem val_len {p : PairD} (h : Fit p) : (valB p).length ≤ 4098 := by
  unfold valB
  split
  · have := dec_len p.num h.ok.num; omega
  · rename_i hn
    have := letts_len p.text.data.toList
    have h2 := h.text (by simpa using hn)
    have h3 : p.text.data.toList.length = p.text.size := by simp
    simp only [List.length_append, List.length_cons, List.length_nil]
    omega

theorem pair_len {p : PairD} (h : Fit p) : (pairB p).length ≤ 4132 := by
  have h1 := val_len h
  have h2 := h.key
  have h3 : p.key.data.toList.length = p.key.size := by simp
  unfold pairB
  simp only [List.length_append, List.length_cons, List.length_nil]
  omega

theorem pairs_len : ∀ {ps : List PairD}, (∀ p ∈ ps, Fit p) → (ps.flatMap pairB).length ≤ 4132 * ps.length
  | [], _ => by simp
  | p :: ps, h => by
    have h1 := pair_len (h p (by simp))
    have h2 := pairs_len (ps := ps) (fun q hq => h q (by simp [hq]))
    simp only [List.flatMap_cons, List.length_append, List.length_cons]
    omega

def headB (time : Nat) (event : ByteArray) : List UInt8 := [116, 61] ++ Lib.decDigits time ++ [32, 101, 118, 61] ++ event.data.toList

theorem line_snoc (time : Nat) (event : ByteArray) {ps : List PairD} {k : Nat} {p : PairD} (h : ps[k]? = some p) : lineB time event (ps.take (k + 1)) = lineB time event (ps.take k) ++ [32] ++ p.key.data.toList ++ [61] ++ valB p := by
  have : ps.take (k + 1) = ps.take k ++ [p] := by rw [List.take_add_one, h]; rfl
  unfold lineB
  rw [this]
  simp [pairB, List.append_assoc]

theorem line_len {time : Nat} (ht : time < 18446744073709551616) {event : ByteArray} (he : event.size ≤ 32) {ps : List PairD} (hp : ∀ p ∈ ps, Fit p) (hl : ps.length ≤ 16) (k : Nat) : (lineB time event (ps.take k)).length ≤ 66170 := by
  have h1 := pairs_len (ps := ps.take k) (fun p hp' => hp p (List.mem_of_mem_take hp'))
  have h2 := dec_len time ht
  have h3 : event.data.toList.length = event.size := by simp
  have h4 : (ps.take k).length ≤ 16 := by simp; omega
  unfold lineB
  simp only [List.length_append, List.length_cons, List.length_nil]
  omega

set_option maxHeartbeats 1000000 in
theorem line_any (b : Nat) (v : Value) (time : Nat) (event : ByteArray) (sv : Value) (ps : List PairD) (w : World) (h : Bld w b v []) (ht : Tab w) (htime : time < 18446744073709551616) (hev : event.size ≤ 32)
    (hps : PRd w sv ps) (hl : ps.length ≤ 16) (hfit : ∀ p ∈ ps, Fit p) (hap : ps ≠ [] → ∀ k, sv.ownBlock = some k → ¬ BS b v k) :
    Calls Tryd.prog 24 #[penV b, .agg #[.int .u64 time, .string event, sv]] w fun e w' => e = .returned (.tuple #[]) ∧ ∃ v', Wrote w b v w' v' (lineB time event ps) := by
  obtain ⟨ao, n, c, rfl, hn, hc, hm, hx⟩ := hps
  have hps : PRd w (.slice ao n c) ps := ⟨ao, n, c, rfl, hn, hc, hm, hx⟩
  have H : Hid (Bld w b v [] ∧ Tab w ∧ PRd w (.slice ao n c) ps ∧ (∀ p ∈ ps, Fit p) ∧ (ps ≠ [] → ∀ k, (Value.slice ao n c).ownBlock = some k → ¬ BS b v k) ∧ n = ps.length ∧ (Lib.decDigits time).length ≤ 20) := ⟨h, ht, hps, hfit, hap, hn, dec_len time htime⟩
  have hn16 : n ≤ 16 := by omega
  have HLen : Hid (∀ k, (lineB time event (ps.take k)).length ≤ 66170) := line_len htime hev hfit hl
  clear h ht hps hfit hap hn hc hm hx hl
  unfold penV fText fSign
  go_enter Tryd.func24, Tryd.ntmps24
  go_wp2_with fail
  have hc0 : Chg Non w ((w.alloc (.cells #[.func (.func 22) #[.pointer (some ⟨b, 0, none⟩)] #[], .func (.func 23) #[.pointer (some ⟨b, 0, none⟩)] #[]] 65)).alloc (.cells #[.int .u64 time, .string event, .slice ao n c] 25)) := ((Chg.refl _ _).alloc _).alloc _
  have hb0 := (PenBox.new w b).keep ((Chg.refl _ _).alloc (.cells #[.int .u64 time, .string event, .slice ao n c] 25))
  have hl0 := new2 w (.cells #[.func (.func 22) #[.pointer (some ⟨b, 0, none⟩)] #[], .func (.func 23) #[.pointer (some ⟨b, 0, none⟩)] #[]] 65) (.cells #[.int .u64 time, .string event, .slice ao n c] 25)
  obtain ⟨wb, hwb⟩ : ∃ wb, wb = ((w.alloc (.cells #[.func (.func 22) #[.pointer (some ⟨b, 0, none⟩)] #[], .func (.func 23) #[.pointer (some ⟨b, 0, none⟩)] #[]] 65)).alloc (.cells #[.int .u64 time, .string event, .slice ao n c] 25)) := ⟨_, rfl⟩
  rw [← hwb] at hc0 hb0 hl0 ⊢
  have H0 : Hid (Chg Non w wb ∧ PenBox wb w.heap.size b ∧ wb.heap[w.heap.size + 1]? = some (.cells #[.int .u64 time, .string event, .slice ao n c] 25 (0, 0)) ∧ Bld wb b v [] ∧ Tab wb) := ⟨hc0, hb0, hl0, H.out.1.keep hc0, H.out.2.1.non hc0⟩
  clear hwb hc0 hb0 hl0
  refine (writeString_any b v [] ⟨#[116, 61]⟩ _ H0.out.2.2.2.1 (by simp [ByteArray.size])).mono ?_
  rintro e w1 ⟨rfl, v1, h1⟩
  have H1 : Hid (Wrote wb b v w1 v1 [116, 61] ∧ PenBox w1 w.heap.size b ∧ w1.heap[w.heap.size + 1]? = some (.cells #[.int .u64 time, .string event, .slice ao n c] 25 (0, 0)) ∧ Tab w1) := ⟨h1, H0.out.2.1.wrote h1 H0.out.2.2.2.1, h1.kept H0.out.2.2.2.1 H0.out.2.2.1 (by decide) (by decide), h1.tab H0.out.2.2.2.1 H0.out.2.2.2.2⟩
  have a0 := H1.out.2.1.cell0
  have a1 := H1.out.2.1.cell1
  have l0 : w1.cell? ⟨w.heap.size + 1, 0, none⟩ = some (.int .u64 time) := by rw [Lib.cell_of_heap H1.out.2.2.1]; rfl
  clear h1
  go_wp2_with fail
  clear a0 a1 l0
  refine (number_any b v1 [116, 61] time _ H1.out.1.bld H1.out.2.2.2 htime (by simp)).mono ?_
  rintro e w2 ⟨rfl, v2, h2⟩
  have H2 : Hid (Wrote wb b v w2 v2 ([116, 61] ++ Lib.decDigits time) ∧ PenBox w2 w.heap.size b ∧ w2.heap[w.heap.size + 1]? = some (.cells #[.int .u64 time, .string event, .slice ao n c] 25 (0, 0)) ∧ Tab w2) := ⟨H1.out.1.trans h2, H1.out.2.1.wrote h2 H1.out.1.bld, h2.kept H1.out.1.bld H1.out.2.2.1 (by decide) (by decide), h2.tab H1.out.1.bld H1.out.2.2.2⟩
  have a0 := H2.out.2.1.cell0
  clear h2 H1
  go_wp2_with fail
  clear a0
  refine (writeString_any b v2 _ ⟨#[32, 101, 118, 61]⟩ _ H2.out.1.bld (by have := H.out.2.2.2.2.2.2; simp [ByteArray.size]; omega)).mono ?_
  rintro e w3 ⟨rfl, v3, h3⟩
  have H3 : Hid (Wrote wb b v w3 v3 ([116, 61] ++ Lib.decDigits time ++ [32, 101, 118, 61]) ∧ PenBox w3 w.heap.size b ∧ w3.heap[w.heap.size + 1]? = some (.cells #[.int .u64 time, .string event, .slice ao n c] 25 (0, 0)) ∧ Tab w3) := ⟨H2.out.1.trans h3, H2.out.2.1.wrote h3 H2.out.1.bld, h3.kept H2.out.1.bld H2.out.2.2.1 (by decide) (by decide), h3.tab H2.out.1.bld H2.out.2.2.2⟩
  have a0 := H3.out.2.1.cell0
  have l1 : w3.cell? ⟨w.heap.size + 1, 1, none⟩ = some (.string event) := by rw [Lib.cell_of_heap H3.out.2.2.1]; rfl
  clear h3 H2
  go_wp2_with fail
  clear a0 l1
  refine (writeString_any b v3 _ event _ H3.out.1.bld (by have := H.out.2.2.2.2.2.2; simp; omega)).mono ?_
  rintro e w4 ⟨rfl, v4, h4⟩
  have H4 : Hid (Wrote wb b v w4 v4 (lineB time event (ps.take 0)) ∧ PenBox w4 w.heap.size b ∧ Tab w4) := ⟨by simpa [lineB] using H3.out.1.trans h4, H3.out.2.1.wrote h4 H3.out.1.bld, h4.tab H3.out.1.bld H3.out.2.2.2⟩
  have l2 : w4.cell? ⟨w.heap.size + 1, 2, none⟩ = some (.slice ao n c) := by rw [Lib.cell_of_heap (h4.kept H3.out.1.bld H3.out.2.2.1 (by decide) (by decide))]; rfl
  clear h4 H3
  go_wp2_with fail
  clear l2
  go_loopw [5, 24] (fun _ i wr => ∃ (k : Nat) (v2 : Value), i = .int .i64 k ∧ k ≤ n ∧ Wrote wb b v wr v2 (lineB time event (ps.take k)) ∧ PenBox wr w.heap.size b ∧ Tab wr) (fun _ i _ => n - (intOf i).toNat)
  case atStart => exact ⟨0, v4, rfl, by omega, H4.out⟩
  case round =>
    obtain ⟨k, v5, rfl, hk, h5⟩ := hrel
    have H5 : Hid (Wrote wb b v wr v5 (lineB time event (ps.take k)) ∧ PenBox wr w.heap.size b ∧ Tab wr) := h5
    clear h5 H4
    by_cases hlt : k < n
    · have hpl : k < ps.length := by have := H.out.2.2.2.2.2.1; omega
      have hat : ps[k]? = some (ps[k]'hpl) := by simp
      obtain ⟨p, hpd⟩ : ∃ p, p = ps[k]'hpl := ⟨_, rfl⟩
      rw [← hpd] at hat
      have hne : ps ≠ [] := by rintro rfl; simp at hat
      have hprd : PRd wr (.slice ao n c) ps := (H.out.2.2.1.non H0.out.1).keep H5.out.1.chg.size (fun _ k e hk => H5.out.1.chg.block k hk (H.out.2.2.2.2.1 hne k e))
      obtain ⟨ao', n', c', e', -, -, -, hx⟩ := hprd
      cases e'
      obtain ⟨ok, g, off, rfl, hg, d0, d1, d2, d3⟩ := hx k p hat
      have HP : Hid (ps[k]? = some p ∧ Fit p ∧ (lineB time event (ps.take k)).length ≤ 66170) := ⟨hat, H.out.2.2.2.1 p (List.mem_of_getElem? hat), HLen.out k⟩
      clear hpd hat hne hx ok
      obtain ⟨key, isNum, num, text⟩ := p
      simp only at d0 d1 d2 d3
      have hbw := H5.out.1.bld.boxed (.cells #[.string key, .bool isNum, .int .u64 num, .string text] 28)
      have hpb := H5.out.2.1.keep ((Chg.refl _ _).alloc (.cells #[.string key, .bool isNum, .int .u64 num, .string text] 28))
      have htw := H5.out.2.2.non ((Chg.refl _ _).alloc (.cells #[.string key, .bool isNum, .int .u64 num, .string text] 28))
      have hxb : PairBox (wr.alloc (.cells #[.string key, .bool isNum, .int .u64 num, .string text] 28)) wr.heap.size ⟨key, isNum, num, text⟩ := heap_alloc_new wr _
      have a1 := hpb.cell1
      have H6 : Hid (Bld (wr.alloc (.cells #[.string key, .bool isNum, .int .u64 num, .string text] 28)) b v5 (lineB time event (ps.take k)) ∧ PenBox (wr.alloc (.cells #[.string key, .bool isNum, .int .u64 num, .string text] 28)) w.heap.size b ∧ PairBox (wr.alloc (.cells #[.string key, .bool isNum, .int .u64 num, .string text] 28)) wr.heap.size ⟨key, isNum, num, text⟩ ∧ Tab (wr.alloc (.cells #[.string key, .bool isNum, .int .u64 num, .string text] 28))) := ⟨hbw, hpb, hxb, htw⟩
      clear hbw hpb hxb htw
      go_wp2_with fail
      clear d0 d1 d2 d3 a1
      refine (writeByte_any b v5 (lineB time event (ps.take k)) 32 _ H6.out.1 (by have := HP.out.2.2; omega)).mono ?_
      rintro e w6 ⟨rfl, v6, h6⟩
      have H7 : Hid (Wrote wb b v w6 v6 (lineB time event (ps.take k) ++ [32]) ∧ PenBox w6 w.heap.size b ∧ PairBox w6 wr.heap.size ⟨key, isNum, num, text⟩ ∧ Tab w6) := ⟨H5.out.1.trans (Wrote.boxed H5.out.1.bld h6), H6.out.2.1.wrote h6 H6.out.1, H6.out.2.2.1.wrote h6 H6.out.1, h6.tab H6.out.1 H6.out.2.2.2⟩
      have a0 := H7.out.2.1.cell0
      have x0 : w6.cell? ⟨wr.heap.size, 0, none⟩ = some (.string key) := by rw [H7.out.2.2.1.cell]; rfl
      clear h6 H6
      go_wp2_with fail
      clear a0 x0
      refine (writeString_any b v6 (lineB time event (ps.take k) ++ [32]) key _ H7.out.1.bld (by have := HP.out.2.2; have := HP.out.2.1.key; simp only at this; simp; omega)).mono ?_
      rintro e w7 ⟨rfl, v7, h7⟩
      have H8 : Hid (Wrote wb b v w7 v7 (lineB time event (ps.take k) ++ [32] ++ key.data.toList) ∧ PenBox w7 w.heap.size b ∧ PairBox w7 wr.heap.size ⟨key, isNum, num, text⟩ ∧ Tab w7) := ⟨H7.out.1.trans h7, H7.out.2.1.wrote h7 H7.out.1.bld, H7.out.2.2.1.wrote h7 H7.out.1.bld, h7.tab H7.out.1.bld H7.out.2.2.2⟩
      have a1 := H8.out.2.1.cell1
      clear h7 H7
      go_wp2_with fail
      clear a1
      have hl8 : (lineB time event (ps.take k) ++ [32] ++ key.data.toList).length ≤ 66210 := by have := HP.out.2.2; have := HP.out.2.1.key; simp only at this; simp; omega
      refine (writeByte_any b v7 (lineB time event (ps.take k) ++ [32] ++ key.data.toList) 61 _ H8.out.1.bld (by omega)).mono ?_
      rintro e w8 ⟨rfl, v8, h8⟩
      have H9 : Hid (Wrote wb b v w8 v8 (lineB time event (ps.take k) ++ [32] ++ key.data.toList ++ [61]) ∧ PenBox w8 w.heap.size b ∧ PairBox w8 wr.heap.size ⟨key, isNum, num, text⟩ ∧ Tab w8) := ⟨H8.out.1.trans h8, H8.out.2.1.wrote h8 H8.out.1.bld, H8.out.2.2.1.wrote h8 H8.out.1.bld, h8.tab H8.out.1.bld H8.out.2.2.2⟩
      have a0 := H9.out.2.1.cell0
      have a1 := H9.out.2.1.cell1
      have x0 : w8.cell? ⟨wr.heap.size, 0, none⟩ = some (.string key) := by rw [H9.out.2.2.1.cell]; rfl
      have x1 : w8.cell? ⟨wr.heap.size, 1, none⟩ = some (.bool isNum) := by rw [H9.out.2.2.1.cell]; rfl
      have x2 : w8.cell? ⟨wr.heap.size, 2, none⟩ = some (.int .u64 num) := by rw [H9.out.2.2.1.cell]; rfl
      have x3 : w8.cell? ⟨wr.heap.size, 3, none⟩ = some (.string text) := by rw [H9.out.2.2.1.cell]; rfl
      clear h8 H8
      go_wp2_with fail
      clear a0 a1 x0 x1 x2 x3
      refine (value_any b v8 (lineB time event (ps.take k) ++ [32] ++ key.data.toList ++ [61]) ⟨key, isNum, num, text⟩ _ H9.out.1.bld H9.out.2.2.2 HP.out.2.1.ok HP.out.2.1.text (by simp at hl8 ⊢; omega)).mono ?_
      rintro e w9 ⟨rfl, v9, h9⟩
      have H10 : Hid (Wrote wb b v w9 v9 (lineB time event (ps.take (k + 1))) ∧ PenBox w9 w.heap.size b ∧ Tab w9) := by
        refine ⟨?_, H9.out.2.1.wrote h9 H9.out.1.bld, h9.tab H9.out.1.bld H9.out.2.2.2⟩
        rw [line_snoc time event HP.out.1]
        exact H9.out.1.trans h9
      clear h9 H9
      go_wp2
      go_roundw
      case rel => exact ⟨k + 1, v9, by go_num, by omega, H10.out⟩
      case measure => simp [intOf]; omega
    · go_wp2
      go_end0
      have e : ps.take k = ps := List.take_of_length_le (by have := H.out.2.2.2.2.2.1; omega)
      exact ⟨rfl, v5, Wrote.from H.out.1 H0.out.1 (by have := H5.out.1; rw [e] at this; exact this)⟩
end Go.Proofs.YtlhcadfcgibkdaaDoor
