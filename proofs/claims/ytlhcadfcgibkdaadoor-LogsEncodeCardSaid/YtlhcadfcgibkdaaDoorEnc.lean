/-
  The program's Encode: the line's text, or an error.
-/
import Derived.Test.YtlhcadfcgibkdaaDoorMay
namespace Go.Proofs.YtlhcadfcgibkdaaDoor
open Go.RowKit
set_option linter.unusedVariables false
set_option maxRecDepth 100000

def encT (time : Nat) (event : ByteArray) (ps : List PairD) : ByteArray := if mayW event ps = 0 ∧ (lineB time event ps).length ≤ 1024 then ⟨(lineB time event ps).toArray⟩ else ⟨#[]⟩
def encE (time : Nat) (event : ByteArray) (ps : List PairD) : Int := if mayW event ps = 0 then (if (lineB time event ps).length ≤ 1024 then 0 else 32) else mayW event ps

theorem mayW_cases (ev : ByteArray) (ps : List PairD) : mayW ev ps = 0 ∨ mayW ev ps = 2 ∨ mayW ev ps = 31 ∨ mayW ev ps = 32 := by
  unfold mayW
  repeat' split
  all_goals simp

theorem ret_two {k : IntKind} {s t : ByteArray} {a b : Int} (h1 : s = t) (h : a = b) : Ending.returned (.tuple #[.string s, .int k a]) = .returned (.tuple #[.string t, .int k b]) := by rw [h, h1]

/-- A row at a higher base. -/
theorem rebase {w : World} {B : Nat} {v : Value} {n : Nat} {xs : List Value} (h : w.ownsRow 0 5 1 v n xs) (hB : ∀ k, v.ownBlock = some k → B ≤ k) : w.ownsRow B 5 1 v n xs := by
  refine ⟨h.1, ?_⟩
  rcases h.2 with x | ⟨g, cap, cur, rfl, _, r⟩
  · exact .inl x
  · exact .inr ⟨g, cap, cur, rfl, hB g rfl, r⟩

theorem Bld.is {w : World} {b : Nat} {v : Value} {xs : List UInt8} (h : Bld w b v xs) {B : Nat} (hB : ∀ k, BS b v k → B ≤ k) : Lib.IsBuilder 61 5 B b (Lib.byteCells xs) w := by
  obtain ⟨p, hp, hb⟩ := h.blk
  have hr := rebase h.own (fun k e => hB k (.inr e))
  rw [show xs.length = (Lib.byteCells xs).length by rw [Lib.byteCells_length]] at hr
  rcases hp with rfl | rfl
  · exact .inl ⟨hB b (.inl rfl), v, hb, hr, h.ne⟩
  · exact .inr ⟨hB b (.inl rfl), v, hb, hr, h.ne⟩

theorem len_any (b : Nat) (v : Value) (xs : List UInt8) (w : World) (h : Bld w b v xs) :
    Calls Tryd.prog 25 #[.pointer (some ⟨b, 0, none⟩)] w fun e w' => e = .returned (.int .i64 xs.length) ∧ w' = w := by
  refine (Tryd.Builder_Len 0 b (Lib.byteCells xs) w (h.is (fun _ _ => Nat.zero_le _))).mono ?_
  rintro e w' ⟨rfl, rfl⟩
  exact ⟨by rw [Lib.byteCells_length], rfl⟩

theorem string_any (b : Nat) (v : Value) (xs : List UInt8) (w : World) (h : Bld w b v xs) (B : Nat) (hB : ∀ k, BS b v k → B ≤ k) (hw : B ≤ w.heap.size) :
    Calls Tryd.prog 26 #[.pointer (some ⟨b, 0, none⟩)] w fun e w' => e = .returned (.string ⟨xs.toArray⟩) ∧ Below B w w' :=
  Tryd.Builder_String_any B b xs w (h.is hB) hw

set_option maxHeartbeats 1000000 in
theorem encode_any (time : Nat) (event : ByteArray) (sv : Value) (ps : List PairD) (w : World) (ht : Tab w) (htime : time < 18446744073709551616) (hev : event.size ≤ 9223372036854775807) (hps : PRd w sv ps) :
    Calls Tryd.prog 9 #[.agg #[.int .u64 time, .string event, sv]] w fun e w' => e = .returned (.tuple #[.string (encT time event ps), .int .i64 (encE time event ps)]) ∧ Chg Non w w' := by
  obtain ⟨ao, n, c, rfl, hn, hc, hm, hx⟩ := hps
  have hps : PRd w (.slice ao n c) ps := ⟨ao, n, c, rfl, hn, hc, hm, hx⟩
  have H : Hid (PRd w (.slice ao n c) ps ∧ Tab w) := ⟨hps, ht⟩
  clear hps hn hm hx hc ht
  have hc1 : Chg Non w (w.alloc (.cells #[.int .u64 time, .string event, .slice ao n c] 25)) := (Chg.refl _ _).alloc _
  have hl1 := heap_alloc_new w (.cells #[.int .u64 time, .string event, .slice ao n c] 25)
  have H1 : Hid (Chg Non w (w.alloc (.cells #[.int .u64 time, .string event, .slice ao n c] 25)) ∧ (w.alloc (.cells #[.int .u64 time, .string event, .slice ao n c] 25)).heap[w.heap.size]? = some (.cells #[.int .u64 time, .string event, .slice ao n c] 25 (0, 0))) := ⟨hc1, hl1⟩
  clear hc1 hl1
  go_enter Tryd.func9, Tryd.ntmps9
  go_wp2_with fail
  refine (mayWrite_any time event _ ps _ hev (H.out.1.non H1.out.1)).mono ?_
  rintro e w2 ⟨rfl, hc2⟩
  have H2 : Hid (Chg Non w w2 ∧ w2.heap[w.heap.size]? = some (.cells #[.int .u64 time, .string event, .slice ao n c] 25 (0, 0)) ∧ w.heap.size < w2.heap.size) := ⟨H1.out.1.trans hc2 (fun _ _ x => x), by rw [hc2.block _ (by simp) (fun x => x)]; exact H1.out.2, by have := hc2.size; simp at this; omega⟩
  clear hc2 H1
  by_cases hm : mayW event ps = 0
  · rw [hm]
    have b0 : w2.heap[w.heap.size]? = some (.cells #[.int .u64 time, .string event, .slice ao n c] 25 (0, 0)) := H2.out.2.1
    have hc3 : Chg Non w2 (w2.alloc (.cells #[.pointer none, .slice none 0 0] 61)) := (Chg.refl _ _).alloc _
    have hb3 : (w2.alloc (.cells #[.pointer none, .slice none 0 0] 61)).heap[w.heap.size]? = some (.cells #[.int .u64 time, .string event, .slice ao n c] 25 (0, 0)) := by
      rw [hc3.block _ (Array.getElem?_eq_some_iff.1 b0).1 (fun x => x)]; exact b0
    have y0 : (w2.alloc (.cells #[.pointer none, .slice none 0 0] 61)).cell? ⟨w.heap.size, 0, none⟩ = some (.int .u64 time) := by rw [Lib.cell_of_heap hb3]; rfl
    have y1 : (w2.alloc (.cells #[.pointer none, .slice none 0 0] 61)).cell? ⟨w.heap.size, 1, none⟩ = some (.string event) := by rw [Lib.cell_of_heap hb3]; rfl
    have y2 : (w2.alloc (.cells #[.pointer none, .slice none 0 0] 61)).cell? ⟨w.heap.size, 2, none⟩ = some (.slice ao n c) := by rw [Lib.cell_of_heap hb3]; rfl
    have hmf : ∀ (fn : Fn) (first cap : Array Value) (w : World), (Instr.makeFunc fn first cap).run Tryd.prog w = .ok (.func fn first cap) w := fun _ _ _ _ => rfl
    have H3 : Hid (Chg Non w (w2.alloc (.cells #[.pointer none, .slice none 0 0] 61)) ∧ Bld (w2.alloc (.cells #[.pointer none, .slice none 0 0] 61)) w2.heap.size (.slice none 0 0) []) := ⟨H2.out.1.trans hc3 (fun _ _ x => x), Bld.fresh w2 (H.out.2.non H2.out.1).size⟩
    clear b0 hc3 hb3
    go_wp2_with fail
    clear y0 y1 y2 hmf
    have hf := fits_of H.out.1 hm
    refine (line_any w2.heap.size (.slice none 0 0) time event (.slice ao n c) ps _ H3.out.2 (H.out.2.non H3.out.1) htime (isWd_size hf.1).2 (H.out.1.non H3.out.1) hf.2.1 hf.2.2 ?_).mono ?_
    · intro hne k e x
      obtain ⟨ao', n', c', e', -, -, -, hx⟩ := H.out.1
      cases e'
      obtain ⟨p, hp⟩ := List.exists_mem_of_ne_nil ps hne
      obtain ⟨i, hi⟩ := List.mem_iff_getElem?.1 hp
      obtain ⟨_, g, off, rfl, hg, _⟩ := hx i p hi
      have hkg : g = k := by simpa [Value.ownBlock] using e
      have h3 := H2.out.2.2
      rcases x with x | x
      · omega
      · simp [Value.ownBlock] at x
    rintro e w3 ⟨rfl, v3, h3⟩
    have H4 : Hid (Bld w3 w2.heap.size v3 (lineB time event ps) ∧ Chg Non w w3 ∧ (∀ k, BS w2.heap.size v3 k → w.heap.size ≤ k)) := by
      have hs := H2.out.2.2
      refine ⟨h3.bld, H3.out.1.trans h3.chg (fun i hi e => ?_), fun k e => ?_⟩
      · rcases e with e | e
        · show False
          omega
        · simp [Value.ownBlock] at e
      · rcases e with e | e
        · omega
        · rcases h3.row k e with x | x
          · simp [Value.ownBlock] at x
          · have : w2.heap.size ≤ (w2.alloc (.cells #[.pointer none, .slice none 0 0] 61)).heap.size := by simp
            omega
    clear h3
    go_wp2_with fail
    refine (len_any _ _ _ _ H4.out.1).mono ?_
    rintro e w4 ⟨rfl, hw4⟩
    obtain rfl := hw4.symm
    by_cases hlen : (lineB time event ps).length ≤ 1024
    · have hlen' : ¬ (1024 : Int) < (lineB time event ps).length := by omega
      have HF : Hid (encT time event ps = ⟨(lineB time event ps).toArray⟩ ∧ encE time event ps = 0) := ⟨by unfold encT; rw [if_pos ⟨hm, hlen⟩], by unfold encE; rw [if_pos hm, if_pos hlen]⟩
      go_wp2_with fail
      refine (string_any _ _ _ _ H4.out.1 w.heap.size H4.out.2.2 H4.out.2.1.size).mono ?_
      rintro e w5 ⟨rfl, hb5⟩
      go_wp2
      go_ret2
      exact ⟨ret_two HF.out.1.symm HF.out.2.symm, H4.out.2.1.trans (S' := fun k => w.heap.size ≤ k) ⟨hb5.os, hb5.tape, hb5.output, hb5.size, fun k hk hn => hb5.block k (by omega)⟩ (fun i hi e => by show False; omega)⟩
    · have hlen' : (1024 : Int) < (lineB time event ps).length := by omega
      have HF : Hid (encT time event ps = ⟨#[]⟩ ∧ encE time event ps = 32) := ⟨by unfold encT; rw [if_neg (by omega)], by unfold encE; rw [if_pos hm, if_neg hlen]⟩
      go_wp2
      go_ret2
      exact ⟨ret_two HF.out.1.symm HF.out.2.symm, H4.out.2.1⟩
  · have hmq : (mayW event ps == 0) = false := by simpa using hm
    have HF : Hid (encT time event ps = ⟨#[]⟩ ∧ encE time event ps = mayW event ps) := ⟨by unfold encT; rw [if_neg (by omega)], by unfold encE; rw [if_neg hm]⟩
    go_wp2
    go_ret2
    exact ⟨ret_two HF.out.1.symm HF.out.2.symm, H2.out.1⟩
end Go.Proofs.YtlhcadfcgibkdaaDoor
