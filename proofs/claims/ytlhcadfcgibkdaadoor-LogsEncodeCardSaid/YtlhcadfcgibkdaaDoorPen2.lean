/-
  The pen: what a pair's key has.
-/
import Derived.Test.YtlhcadfcgibkdaaDoorPen
import Derived.Test.YtlhcadfcgibkdaaDoorKey
namespace Go.Proofs.YtlhcadfcgibkdaaDoor
open Go.RowKit
set_option linter.unusedVariables false
set_option maxRecDepth 100000

def valB (p : PairD) : List UInt8 := if p.isNum then Lib.decDigits p.num else [34] ++ p.text.data.toList.flatMap lett ++ [34]
def pairB (p : PairD) : List UInt8 := [32] ++ p.key.data.toList ++ [61] ++ valB p
def lineB (time : Nat) (event : ByteArray) (ps : List PairD) : List UInt8 := [116, 61] ++ Lib.decDigits time ++ [32, 101, 118, 61] ++ event.data.toList ++ ps.flatMap pairB

theorem lett_len (c : UInt8) : (lett c).length ≤ 4 := by
  unfold lett
  split
  · simp
  · split <;> simp

theorem letts_len (l : List UInt8) : (l.flatMap lett).length ≤ 4 * l.length := by
  induction l with
  | nil => simp
  | cons a l ih =>
    have := lett_len a
    simp only [List.flatMap_cons, List.length_append, List.length_cons]
    omega

/-- A pair's box. -/
def PairBox (w : World) (k : Nat) (p : PairD) : Prop := w.heap[k]? = some (.cells #[.string p.key, .bool p.isNum, .int .u64 p.num, .string p.text] 28 (0, 0))

theorem PairBox.cell {w : World} {k : Nat} {p : PairD} (h : PairBox w k p) (j : Nat) : w.cell? ⟨k, j, none⟩ = (#[Value.string p.key, .bool p.isNum, .int .u64 p.num, .string p.text] : Array Value)[j]? := Lib.cell_of_heap h j
theorem PairBox.wrote {w w' : World} {k b : Nat} {p : PairD} (h : PairBox w k p) {v v' : Value} {xs ys : List UInt8} (hw : Wrote w b v w' v' ys) (hb : Bld w b v xs) : PairBox w' k p := hw.kept hb h (by decide) (by decide)
theorem PairBox.keep {w w' : World} {k : Nat} {p : PairD} (h : PairBox w k p) (hc : Chg Non w w') : PairBox w' k p := by
  unfold PairBox at *
  rw [hc.block k (Array.getElem?_eq_some_iff.1 h).1 (fun x => x)]
  exact h

theorem new2 (w : World) (o1 o2 : Obj) : ((w.alloc o1).alloc o2).heap[w.heap.size + 1]? = some o2 := by
  have := heap_alloc_new (w.alloc o1) o2
  rwa [show (w.alloc o1).heap.size = w.heap.size + 1 by simp] at this

theorem flat_snoc {s : ByteArray} {k : Nat} (hk : k < s.size) : (s.data.toList.take (k + 1)).flatMap lett = (s.data.toList.take k).flatMap lett ++ lett (s[k]'hk) := by
  have : s.data.toList.take (k + 1) = s.data.toList.take k ++ [s[k]'hk] := by
    rw [List.take_add_one]
    congr 1
    have h2 : k < s.data.toList.length := by simpa using hk
    rw [List.getElem?_eq_getElem h2]
    rfl
  rw [this]
  simp

set_option maxHeartbeats 1000000 in
theorem value_any (b : Nat) (v : Value) (xs : List UInt8) (p : PairD) (w : World) (h : Bld w b v xs) (ht : Tab w) (hp : p.Ok) (htx : p.isNum = false → p.text.size ≤ 1024) (hlen : xs.length ≤ 1000000) :
    Calls Tryd.prog 44 #[penV b, .agg #[.string p.key, .bool p.isNum, .int .u64 p.num, .string p.text]] w fun e w' => e = .returned (.tuple #[]) ∧ ∃ v', Wrote w b v w' v' (xs ++ valB p) := by
  have H : Hid (Bld w b v xs ∧ Tab w) := ⟨h, ht⟩
  clear h ht
  obtain ⟨key, isNum, num, text⟩ := p
  simp only
  have hnum : num < 18446744073709551616 := hp.num
  have htx' : isNum = false → text.size ≤ 1024 := htx
  clear hp htx
  have hbox : ∀ w1 : World, Chg Non w w1 → Bld w1 b v xs ∧ Tab w1 := fun w1 hc => ⟨H.out.1.keep hc, H.out.2.non hc⟩
  have HB : Hid (∀ w1 : World, Chg Non w w1 → Bld w1 b v xs ∧ Tab w1) := hbox
  clear hbox
  cases isNum
  · have hts := htx' rfl
    clear htx'
    have HV : Hid (valB ⟨key, false, num, text⟩ = [34] ++ text.data.toList.flatMap lett ++ [34]) := rfl
    rw [HV.out]
    unfold penV fText fSign
    go_enter Tryd.func44, Tryd.ntmps44
    go_wp2_with fail
    have hc0 : Chg Non w ((w.alloc (.cells #[.func (.func 22) #[.pointer (some ⟨b, 0, none⟩)] #[], .func (.func 23) #[.pointer (some ⟨b, 0, none⟩)] #[]] 65)).alloc (.cells #[.string key, .bool false, .int .u64 num, .string text] 28)) := ((Chg.refl _ _).alloc _).alloc _
    have hb0 := (PenBox.new w b).keep ((Chg.refl _ _).alloc (.cells #[.string key, .bool false, .int .u64 num, .string text] 28))
    have hp0 : PairBox ((w.alloc (.cells #[.func (.func 22) #[.pointer (some ⟨b, 0, none⟩)] #[], .func (.func 23) #[.pointer (some ⟨b, 0, none⟩)] #[]] 65)).alloc (.cells #[.string key, .bool false, .int .u64 num, .string text] 28)) (w.heap.size + 1) ⟨key, false, num, text⟩ := by
      exact new2 w _ _
    obtain ⟨wb, hwb⟩ : ∃ wb, wb = ((w.alloc (.cells #[.func (.func 22) #[.pointer (some ⟨b, 0, none⟩)] #[], .func (.func 23) #[.pointer (some ⟨b, 0, none⟩)] #[]] 65)).alloc (.cells #[.string key, .bool false, .int .u64 num, .string text] 28)) := ⟨_, rfl⟩
    rw [← hwb] at hc0 hb0 hp0 ⊢
    have H0 : Hid (Chg Non w wb ∧ PenBox wb w.heap.size b ∧ PairBox wb (w.heap.size + 1) ⟨key, false, num, text⟩ ∧ Bld wb b v xs) := ⟨hc0, hb0, hp0, (HB.out _ hc0).1⟩
    clear hwb hc0 hb0 hp0
    refine (writeByte_any b v xs 34 _ H0.out.2.2.2 (by omega)).mono ?_
    rintro e w1 ⟨rfl, v1, h1⟩
    have H1 : Hid (Wrote wb b v w1 v1 (xs ++ [34]) ∧ PenBox w1 w.heap.size b ∧ PairBox w1 (w.heap.size + 1) ⟨key, false, num, text⟩) := ⟨h1, H0.out.2.1.wrote h1 H0.out.2.2.2, H0.out.2.2.1.wrote h1 H0.out.2.2.2⟩
    have c3 : w1.cell? ⟨w.heap.size + 1, 3, none⟩ = some (.string text) := by rw [H1.out.2.2.cell]; rfl
    clear h1
    go_wp2_with fail
    go_loopw [4, 17] (fun _ i wr => ∃ (k : Nat) (v2 : Value), i = .int .i64 k ∧ k ≤ text.size ∧ Wrote wb b v wr v2 (xs ++ [34] ++ (text.data.toList.take k).flatMap lett) ∧ PenBox wr w.heap.size b ∧ PairBox wr (w.heap.size + 1) ⟨key, false, num, text⟩) (fun _ i _ => text.size - (intOf i).toNat)
    case atStart => exact ⟨0, v1, rfl, by omega, by simpa using H1.out.1, H1.out.2.1, H1.out.2.2⟩
    case round =>
      obtain ⟨k, v2, rfl, hk, hw2, hp2, hx2⟩ := hrel
      have H2 : Hid (Wrote wb b v wr v2 (xs ++ [34] ++ (text.data.toList.take k).flatMap lett) ∧ PenBox wr w.heap.size b ∧ PairBox wr (w.heap.size + 1) ⟨key, false, num, text⟩) := ⟨hw2, hp2, hx2⟩
      have a0 := hp2.cell0
      have a1 := hp2.cell1
      have a3 : wr.cell? ⟨w.heap.size + 1, 3, none⟩ = some (.string text) := by rw [hx2.cell]; rfl
      have hl2 : (xs ++ [34] ++ (text.data.toList.take k).flatMap lett).length ≤ 1005000 := by
        have := letts_len (text.data.toList.take k)
        have h3 : text.data.toList.length = text.size := by simp
        simp at this ⊢
        omega
      clear hw2 hp2 hx2 c3 H1
      by_cases hlt : k < text.size
      · have hix := run_at text k hlt _ rfl
        have HS : Hid ((text.data.toList.take (k + 1)).flatMap lett = (text.data.toList.take k).flatMap lett ++ lett (text[k]'hlt)) := flat_snoc hlt
        go_wp2_with fail
        go_region_with (go_at_call 62; (refine (penLetter_any b v2 (xs ++ [34] ++ (text.data.toList.take k).flatMap lett) (text[k]'hlt) _ ?_ ?_).mono ?_; exact H2.out.1.bld.keep (Chg.refl _ _).drew; omega; rintro e w3 ⟨rfl, v3, h3⟩))
        all_goals
          have H3 : Hid (Wrote wb b v w3 v3 (xs ++ [34] ++ (text.data.toList.take (k + 1)).flatMap lett) ∧ PenBox w3 w.heap.size b ∧ PairBox w3 (w.heap.size + 1) ⟨key, false, num, text⟩) := by
            refine ⟨?_, H2.out.2.1.wrote h3.undrew H2.out.1.bld, H2.out.2.2.wrote h3.undrew H2.out.1.bld⟩
            rw [HS.out, ← List.append_assoc]
            exact H2.out.1.on h3
          clear h3 a0 a1 a3 hix
          go_wp2
          go_roundw
          case rel => exact ⟨k + 1, v3, by go_num, by omega, H3.out⟩
          case measure => simp [intOf]; omega
      · go_wp2_with fail
        refine (writeByte_any b v2 _ 34 _ H2.out.1.bld (by omega)).mono ?_
        rintro e w3 ⟨rfl, v3, h3⟩
        have H3 : Hid (Wrote w b v w3 v3 (xs ++ ([34] ++ text.data.toList.flatMap lett ++ [34]))) := by
          show Wrote _ _ _ _ _ _
          have h4 := Wrote.from H.out.1 H0.out.1 (H2.out.1.trans h3)
          rw [List.take_of_length_le (by simp; omega)] at h4
          simpa [List.append_assoc] using h4
        clear h3
        go_wp2
        go_end0
        exact ⟨rfl, v3, H3.out⟩
  · have HV : Hid (valB ⟨key, true, num, text⟩ = Lib.decDigits num) := rfl
    rw [HV.out]
    unfold penV fText fSign
    go_enter Tryd.func44, Tryd.ntmps44
    go_wp2_with fail
    have hc0 : Chg Non w ((w.alloc (.cells #[.func (.func 22) #[.pointer (some ⟨b, 0, none⟩)] #[], .func (.func 23) #[.pointer (some ⟨b, 0, none⟩)] #[]] 65)).alloc (.cells #[.string key, .bool true, .int .u64 num, .string text] 28)) := ((Chg.refl _ _).alloc _).alloc _
    refine (number_any b v xs num _ (HB.out _ hc0).1 (HB.out _ hc0).2 hnum (by omega)).mono ?_
    rintro e w1 ⟨rfl, v1, h1⟩
    go_wp2
    refine bodyPost_ret (results_none rfl _ _ _) rfl ?_
    exact ⟨rfl, v1, Wrote.from H.out.1 hc0 h1⟩
end Go.Proofs.YtlhcadfcgibkdaaDoor
