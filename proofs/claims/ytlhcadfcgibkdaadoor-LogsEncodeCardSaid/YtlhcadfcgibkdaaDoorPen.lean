/-
  The pen, a builder's method values: number and letter.
-/
import Derived.Test.YtlhcadfcgibkdaaDoorNum
import Derived.Deep.RegionWith
import Derived.Deep.CutBlock
import Derived.Laws.BitsAllLaws
namespace Go.Proofs.YtlhcadfcgibkdaaDoor
open Go.RowKit
set_option linter.unusedVariables false
set_option maxRecDepth 100000

def fText (b : Nat) : Value := .func (.func 22) #[.pointer (some ⟨b, 0, none⟩)] #[]
def fSign (b : Nat) : Value := .func (.func 23) #[.pointer (some ⟨b, 0, none⟩)] #[]
def penV (b : Nat) : Value := .agg #[fText b, fSign b]

theorem Bld.boxed {w : World} {b : Nat} {v : Value} {xs : List UInt8} (h : Bld w b v xs) (o : Obj) : Bld (w.alloc o) b v xs := h.keep ((Chg.refl _ _).alloc o)
theorem Wrote.boxed {w w' : World} {b : Nat} {v v' : Value} {xs ys : List UInt8} (h : Bld w b v xs) {o : Obj} (k : Wrote (w.alloc o) b v w' v' ys) : Wrote w b v w' v' ys := Wrote.from h ((Chg.refl _ _).alloc o) k

theorem Chg.undrew {S : Nat → Prop} {a b : World} (h : Chg S a.drew b) : Chg S a b := ⟨h.os, h.tape, h.output, h.size, h.block⟩

theorem new_heap {S : Nat → Prop} {w w1 : World} {o : Obj} (hc : Chg S (w.alloc o) w1) (hS : ¬ S w.heap.size) : w1.heap[w.heap.size]? = some o := by
  rw [hc.block w.heap.size (by simp) hS]
  exact heap_alloc_new w o

theorem sz_arr (l : List UInt8) : (⟨l.toArray⟩ : ByteArray).size = l.length := by simp [ByteArray.size]

set_option maxHeartbeats 400000 in
theorem number_any (b : Nat) (v : Value) (xs : List UInt8) (n : Nat) (w : World) (h : Bld w b v xs) (ht : Tab w) (hn : n < 18446744073709551616) (hlen : xs.length + 20 ≤ 140737488355328) :
    Calls Tryd.prog 43 #[penV b, .int .u64 n] w fun e w' => e = .returned (.tuple #[]) ∧ ∃ v', Wrote w b v w' v' (xs ++ Lib.decDigits n) := by
  have H : Hid (Bld w b v xs ∧ Tab w) := ⟨h, ht⟩
  have hd := dec_len n hn
  clear h ht
  unfold penV fText fSign
  go_enter Tryd.func43, Tryd.ntmps43
  go_wp2_with fail
  go_region_with (first
    | (go_at_call 29; (refine (formatUint_any n hn _ ?_).mono ?_; exact H.out.2.non (((Chg.refl _ _).alloc _).drew); rintro e w1 ⟨rfl, hc1⟩; have hb1 : w1.cell? ⟨w.heap.size, 0, none⟩ = some (.func (.func 22) #[.pointer (some ⟨b, 0, none⟩)] #[]) := (by rw [Lib.cell_of_heap (new_heap hc1.undrew (fun x => x))]; rfl)))
    | (go_at_call 22; (refine (writeString_any b v xs ⟨(Lib.decDigits n).toArray⟩ _ ?_ ?_).mono ?_; exact (H.out.1.boxed _).keep hc1.undrew; (rw [sz_arr]; omega); rintro e w2 ⟨rfl, v2, h2⟩)))
  all_goals
    have HW : Hid (Wrote w b v w2 v2 (xs ++ Lib.decDigits n)) := Wrote.boxed H.out.1 (Wrote.from (H.out.1.boxed _) hc1.undrew h2)
    clear h2 hc1 hb1
    go_end0
    exact ⟨rfl, v2, HW.out⟩

theorem Wrote.on {w w1 w2 : World} {b : Nat} {v v1 v2 : Value} {xs ys : List UInt8} (h : Wrote w b v w1 v1 xs) (k : Wrote w1.drew b v1 w2 v2 ys) : Wrote w b v w2 v2 ys := h.trans ⟨k.bld, k.chg.undrew, k.row⟩

/-- A block of another type is none of the builder's, and stays as it is. -/
theorem Bld.apart {w : World} {b : Nat} {v : Value} {xs : List UInt8} (h : Bld w b v xs) {k : Nat} {cs : Array Value} {t : TypeId} {z : Nat × Nat} (hk : w.heap[k]? = some (.cells cs t z)) (h5 : t ≠ 5) (h61 : t ≠ 61) : ¬ BS b v k := by
  rintro (e | e)
  · subst e
    obtain ⟨p, _, hb⟩ := h.blk
    rw [hb] at hk
    cases hk
    exact h61 rfl
  · obtain ⟨c, hc⟩ := row5 h.own k e
    rw [hc] at hk
    cases hk
    exact h5 rfl

theorem Wrote.kept {w w' : World} {b : Nat} {v v' : Value} {xs ys : List UInt8} (h : Wrote w b v w' v' ys) (hb : Bld w b v xs) {k : Nat} {cs : Array Value} {t : TypeId} {z : Nat × Nat} (hk : w.heap[k]? = some (.cells cs t z)) (h5 : t ≠ 5) (h61 : t ≠ 61) : w'.heap[k]? = some (.cells cs t z) := by
  rw [h.chg.block k (Array.getElem?_eq_some_iff.1 hk).1 (hb.apart hk h5 h61)]
  exact hk

theorem Wrote.undrew {w w' : World} {b : Nat} {v v' : Value} {ys : List UInt8} (h : Wrote w.drew b v w' v' ys) : Wrote w b v w' v' ys := ⟨h.bld, h.chg.undrew, h.row⟩

/-- The pen's box. -/
def PenBox (w : World) (k b : Nat) : Prop := w.heap[k]? = some (.cells #[.func (.func 22) #[.pointer (some ⟨b, 0, none⟩)] #[], .func (.func 23) #[.pointer (some ⟨b, 0, none⟩)] #[]] 65 (0, 0))

theorem PenBox.cell0 {w : World} {k b : Nat} (h : PenBox w k b) : w.cell? ⟨k, 0, none⟩ = some (.func (.func 22) #[.pointer (some ⟨b, 0, none⟩)] #[]) := by rw [Lib.cell_of_heap h]; rfl
theorem PenBox.cell1 {w : World} {k b : Nat} (h : PenBox w k b) : w.cell? ⟨k, 1, none⟩ = some (.func (.func 23) #[.pointer (some ⟨b, 0, none⟩)] #[]) := by rw [Lib.cell_of_heap h]; rfl
theorem PenBox.new (w : World) (b : Nat) : PenBox (w.alloc (.cells #[.func (.func 22) #[.pointer (some ⟨b, 0, none⟩)] #[], .func (.func 23) #[.pointer (some ⟨b, 0, none⟩)] #[]] 65)) w.heap.size b := heap_alloc_new w _
theorem PenBox.wrote {w w' : World} {k b : Nat} (h : PenBox w k b) {v v' : Value} {xs ys : List UInt8} (hw : Wrote w b v w' v' ys) (hb : Bld w b v xs) : PenBox w' k b := hw.kept hb h (by decide) (by decide)
theorem PenBox.keep {w w' : World} {k b : Nat} (h : PenBox w k b) (hc : Chg Non w w') : PenBox w' k b := by
  unfold PenBox at *
  rw [hc.block k (Array.getElem?_eq_some_iff.1 h).1 (fun x => x)]
  exact h

def hexD : List UInt8 := [48, 49, 50, 51, 52, 53, 54, 55, 56, 57, 97, 98, 99, 100, 101, 102]
def hexAt (n : Nat) : UInt8 := hexD.getD n 0
def lett (c : UInt8) : List UInt8 := if plainB c.toNat = false then [92, 120, hexAt (c.toNat / 16), hexAt (c.toNat % 16)] else if c = 34 ∨ c = 92 then [92, c] else [c]

def hexS : ByteArray := ⟨#[48, 49, 50, 51, 52, 53, 54, 55, 56, 57, 97, 98, 99, 100, 101, 102]⟩

theorem run_hex (n : Nat) (hn : n < 16) : ∀ W : World, (Instr.index 9 (.string ⟨#[48, 49, 50, 51, 52, 53, 54, 55, 56, 57, 97, 98, 99, 100, 101, 102]⟩) (.int .u8 n)).run Tryd.prog W = .ok (.int .u8 (hexAt n).toNat) W := by
  intro W
  rw [run_index_string W 9 _ .u8 n Tryd.underlying9, dif_pos (by simp [ByteArray.size]; omega)]
  have : n = 0 ∨ n = 1 ∨ n = 2 ∨ n = 3 ∨ n = 4 ∨ n = 5 ∨ n = 6 ∨ n = 7 ∨ n = 8 ∨ n = 9 ∨ n = 10 ∨ n = 11 ∨ n = 12 ∨ n = 13 ∨ n = 14 ∨ n = 15 := by omega
  rcases this with rfl | rfl | rfl | rfl | rfl | rfl | rfl | rfl | rfl | rfl | rfl | rfl | rfl | rfl | rfl | rfl <;> rfl

set_option maxHeartbeats 400000 in
theorem letter_hex (b : Nat) (v : Value) (xs : List UInt8) (c : UInt8) (w : World) (h : Bld w b v xs) (hp : plainB c.toNat = false) (hlen : xs.length + 4 ≤ 140737488355328) :
    Calls Tryd.prog 62 #[penV b, .int .u8 c.toNat] w fun e w' => e = .returned (.tuple #[]) ∧ ∃ v', Wrote w b v w' v' (xs ++ lett c) := by
  have H : Hid (Bld w b v xs) := h
  clear h
  have hc := c.toNat_lt
  obtain ⟨ci, hci⟩ : ∃ ci : Int, ci = (c.toNat : Int) := ⟨_, rfl⟩
  obtain ⟨dh, hdh⟩ : ∃ dh, dh = hexAt (c.toNat / 16) := ⟨_, rfl⟩
  obtain ⟨dl, hdl⟩ : ∃ dl, dl = hexAt (c.toNat % 16) := ⟨_, rfl⟩
  have hx1 : ∀ W : World, (Instr.index 9 (.string ⟨#[48, 49, 50, 51, 52, 53, 54, 55, 56, 57, 97, 98, 99, 100, 101, 102]⟩) (.int .u8 (ci / 16))).run Tryd.prog W = .ok (.int .u8 dh.toNat) W := by
    intro W
    have e : ci / 16 = ((c.toNat / 16 : Nat) : Int) := by omega
    rw [e, hdh]
    exact run_hex _ (by omega) W
  obtain ⟨lo, hlo⟩ : ∃ lo : Int, lo = ((c.toNat % 16 : Nat) : Int) := ⟨_, rfl⟩
  have hand : bits .and .u8 ci 15 = lo := by
    rw [hci, hlo, ← nat_mask4]
    exact u8_and_nat _ 15 (by omega) (by omega)
  have hx2 : ∀ W : World, (Instr.index 9 (.string ⟨#[48, 49, 50, 51, 52, 53, 54, 55, 56, 57, 97, 98, 99, 100, 101, 102]⟩) (.int .u8 lo)).run Tryd.prog W = .ok (.int .u8 dl.toNat) W := by
    intro W
    rw [hlo, hdl]
    exact run_hex _ (by omega) W
  have HL : Hid (xs ++ lett c = xs ++ [92, 120] ++ [dh] ++ [dl]) := by
    show _ = _
    unfold lett
    rw [if_pos hp, hdh, hdl]
    simp
  rw [HL.out, ← hci]
  rw [← hci] at hp
  clear hci hlo hdh hdl hc
  unfold penV fText fSign
  go_enter Tryd.func62, Tryd.ntmps62
  go_wp2_with fail
  refine (isPlain_any _ _).mono ?_
  rintro e w1 ⟨rfl, rfl⟩
  rw [hp]
  go_wp2_with fail
  refine (writeString_any b v xs ⟨#[92, 120]⟩ _ (H.out.boxed _) (by simp [ByteArray.size]; omega)).mono ?_
  rintro e w1 ⟨rfl, v1, h1⟩
  have hb1 : PenBox w1 w.heap.size b := (PenBox.new w b).wrote h1 (H.out.boxed _)
  have c1 := hb1.cell1
  have H1 : Hid (Wrote w b v w1 v1 (xs ++ [92, 120]) ∧ PenBox w1 w.heap.size b) := ⟨Wrote.boxed H.out h1, hb1⟩
  clear h1 hb1
  go_wp2_with fail
  go_cut [] from 16 to 21 (fun wc => ∃ v2, Wrote w b v wc v2 (xs ++ [92, 120] ++ [dh]) ∧ PenBox wc w.heap.size b)
  case first =>
    go_region_with (go_at_call 23; (refine (writeByte_any b v1 (xs ++ [92, 120]) dh _ ?_ ?_).mono ?_; exact H1.out.1.bld.keep (Chg.refl _ _).drew; (simp; omega); rintro e w2 ⟨rfl, v2, h2⟩))
    all_goals
      have HW2 : Hid (Wrote w b v w2 v2 (xs ++ [92, 120] ++ [dh]) ∧ PenBox w2 w.heap.size b) := ⟨H1.out.1.on h2, H1.out.2.wrote h2.undrew H1.out.1.bld⟩
      clear h2
      go_wp2_with fail
      go_meet
      case rel => exact ⟨v2, HW2.out⟩
  case rest =>
    obtain ⟨v2, hw2, hb2⟩ := hcut
    obtain ⟨wo, hwo⟩ : ∃ wo, wo = wc := ⟨_, rfl⟩
    subst hwo
    have c2 := hb2.cell1
    have H2 : Hid (Wrote w b v wo v2 (xs ++ [92, 120] ++ [dh])) := hw2
    clear hw2 hb2 c1 H1
    go_wp2_with fail
    go_cut [] from 22 to 27 (fun wd => ∃ v3, Wrote w b v wd v3 (xs ++ [92, 120] ++ [dh] ++ [dl]))
    case first =>
      go_region_with (go_at_call 23; (refine (writeByte_any b v2 (xs ++ [92, 120] ++ [dh]) dl _ ?_ ?_).mono ?_; exact H2.out.bld.keep (Chg.refl _ _).drew; (simp; omega); rintro e w3 ⟨rfl, v3, h3⟩))
      all_goals
        have HW3 : Hid (Wrote w b v w3 v3 (xs ++ [92, 120] ++ [dh] ++ [dl])) := H2.out.on h3
        clear h3
        go_wp2_with fail
        go_meet
        case rel => exact ⟨v3, HW3.out⟩
    case rest =>
      obtain ⟨v3, hw3⟩ := hcut
      have H3 : Hid (Wrote w b v _ v3 (xs ++ [92, 120] ++ [dh] ++ [dl])) := hw3
      clear hw3
      go_wp2
      go_end0
      exact ⟨rfl, v3, H3.out⟩

set_option maxHeartbeats 400000 in
theorem penLetter_any (b : Nat) (v : Value) (xs : List UInt8) (c : UInt8) (w : World) (h : Bld w b v xs) (hlen : xs.length + 4 ≤ 140737488355328) :
    Calls Tryd.prog 62 #[penV b, .int .u8 c.toNat] w fun e w' => e = .returned (.tuple #[]) ∧ ∃ v', Wrote w b v w' v' (xs ++ lett c) := by
  cases hp : plainB c.toNat
  · exact letter_hex b v xs c w h hp hlen
  · have H : Hid (Bld w b v xs) := h
    clear h
    unfold penV fText fSign
    by_cases h34 : c = 34 ∨ c = 92
    · have hl : lett c = [92] ++ [c] := by unfold lett; rw [if_neg (by rw [hp]; simp), if_pos h34]; rfl
      rw [hl, ← List.append_assoc]
      have hcases : c.toNat = 34 ∨ c.toNat = 92 := by rcases h34 with rfl | rfl; exact .inl rfl; exact .inr rfl
      obtain ⟨ci, hci⟩ : ∃ ci : Int, ci = (c.toNat : Int) := ⟨_, rfl⟩
      have HCI : Hid (ci = (c.toNat : Int)) := hci
      have hcases' : ci = 34 ∨ ci = 92 := by omega
      rw [← hci] at hp ⊢
      clear hl h34 hcases hci
      rcases hcases' with rfl | rfl
      all_goals
        go_enter Tryd.func62, Tryd.ntmps62
        go_wp2_with fail
        refine (isPlain_any _ _).mono ?_
        rintro e w1 ⟨rfl, rfl⟩
        rw [hp]
        go_wp2_with fail
        refine (writeByte_any b v xs 92 _ (H.out.boxed _) (by omega)).mono ?_
        rintro e w1 ⟨rfl, v1, h1⟩
        have hb1 : PenBox w1 w.heap.size b := (PenBox.new w b).wrote h1 (H.out.boxed _)
        have c1 := hb1.cell1
        have H1 : Hid (Wrote w b v w1 v1 (xs ++ [92])) := Wrote.boxed H.out h1
        clear h1 hb1
        go_wp2_with fail
        rw [HCI.out]
        refine (writeByte_any b v1 (xs ++ [92]) c _ H1.out.bld (by simp; omega)).mono ?_
        rintro e w2 ⟨rfl, v2, h2⟩
        go_wp2
        go_end0
        exact ⟨rfl, v2, H1.out.trans h2⟩
    · have hl : lett c = [c] := by unfold lett; rw [if_neg (by rw [hp]; simp), if_neg h34]
      rw [hl]
      have hcases : c.toNat ≠ 34 ∧ c.toNat ≠ 92 := ⟨fun e => h34 (.inl (UInt8.toNat_inj.1 e)), fun e => h34 (.inr (UInt8.toNat_inj.1 e))⟩
      obtain ⟨ci, hci⟩ : ∃ ci : Int, ci = (c.toNat : Int) := ⟨_, rfl⟩
      have HCI : Hid (ci = (c.toNat : Int)) := hci
      have q1 : (ci == 34) = false := by simp; omega
      have q2 : (ci == 92) = false := by simp; omega
      rw [← hci] at hp ⊢
      clear hl h34 hcases hci
      go_enter Tryd.func62, Tryd.ntmps62
      go_wp2_with fail
      refine (isPlain_any _ _).mono ?_
      rintro e w1 ⟨rfl, rfl⟩
      rw [hp]
      go_wp2_with fail
      rw [HCI.out]
      refine (writeByte_any b v xs c _ (H.out.boxed _) (by omega)).mono ?_
      rintro e w1 ⟨rfl, v1, h1⟩
      go_wp2
      go_end0
      exact ⟨rfl, v1, Wrote.boxed H.out h1⟩
end Go.Proofs.YtlhcadfcgibkdaaDoor
