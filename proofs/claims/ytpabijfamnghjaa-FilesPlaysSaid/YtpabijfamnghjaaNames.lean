/-
  The program's Names: the names of the store's files, rising, in a new list.
-/
import Derived.Test.YtpabijfamnghjaaStore3
import Derived.Test.YtpabijfamnghjaaSort
import Derived.Maps.RangeWalk
import Derived.Maps.Ext
import Derived.Sort.KeysCollected
import Derived.Sort.OwnSorted
namespace Go.Proofs.Ytpabijfamnghjaa
open Go.RowKit Go.Maps Go.Sort
set_option linter.unusedVariables false

theorem lt_of_before : ∀ a b : List UInt8, bytesBefore a b = true → a < b
  | [], [], h => by cases h
  | [], _ :: _, _ => List.nil_lt_cons _ _
  | _ :: _, [], h => by cases h
  | a :: r, b :: s, h => by
    unfold bytesBefore at h
    simp only [Bool.or_eq_true, decide_eq_true_eq, Bool.and_eq_true, beq_iff_eq] at h
    rw [List.cons_lt_cons_iff]
    rcases h with h | ⟨h1, h2⟩
    · exact .inl h
    · exact .inr ⟨h1, lt_of_before r s h2⟩

def namesL (L : List Ent) : List (List UInt8) := L.map Ent.name

theorem MapAt.rising {w : World} {b : Nat} {L : List Ent} (h : MapAt w b L) : L.Pairwise (fun x y => bytesBefore x.name y.name = true) := by
  obtain ⟨es, hD, hp, _⟩ := World.ownsMap.canon h law
  unfold dmap at hD
  cases hD
  rw [List.pairwise_map] at hp
  exact hp

theorem strKeys_dmap (L : List Ent) : strKeys (dmap L) = namesL L := by
  unfold strKeys dmap namesL
  simp only [List.map_map]
  rfl

theorem MapAt.sorted {w : World} {b : Nat} {L : List Ent} (h : MapAt w b L) : (namesL L).mergeSort leB = namesL L := by
  apply List.mergeSort_of_pairwise
  unfold namesL
  rw [List.pairwise_map]
  refine h.rising.imp (fun {x y} hxy => ?_)
  simp only [leB, decide_eq_true_eq]
  exact List.le_of_lt (lt_of_before _ _ hxy)

theorem Try.info9 : (Try.prog.info? 9).map (fun i => (i.zero, i.size, i.bytes)) = some (some (.string ⟨#[]⟩), 1, 16) := by kernel_rfl

set_option maxRecDepth 100000 in
set_option maxHeartbeats 2000000 in
theorem names_any (p b : Nat) (L : List Ent) (w : World) (h : St w p b L) :
    Calls Try.prog 10 #[.pointer (some ⟨p, 0, none⟩)] w fun e w' => ∃ (g cap : Nat), e = .returned (.slice (some ⟨g, 0, none⟩) L.length cap) ∧
      w'.ownsRow w.heap.size 9 1 (.slice (some ⟨g, 0, none⟩) L.length cap) L.length ((namesL L).map encStr) ∧ Chg Non w w' := by
  obtain ⟨i0, hi, hz0, hz1, hz2⟩ := info_parts Try.info9
  have hown : w.ownsMap Try.prog 9 heldElem b L.length (dmap L) := h.map
  have hbl := hown.lt
  have hpl := h.lt
  have hms : maxLen = 9223372036854775807 := rfl
  have hlen := h.len
  have c0 := h.cell
  have HS : Hid (St w p b L) := h
  have hsz : Maps.size (dmap L) = L.length := dmap_size L
  have hmax : Maps.size (dmap L) ≤ maxLen := by omega
  have hln := h.map.len
  have HSZ : Hid (Maps.size (dmap L) = L.length) := hsz
  clear h hsz
  go_enter Try.func10, Try.ntmps10
  go_wp2_with (first
    | (at_make; refine wpList_make_own _ rfl _ _ 34 rfl w.heap.size 9 i0 (.string ⟨#[]⟩) 1 Try.underlying34 hi hz0 hz1 _ _ _ L.length rfl rfl rfl (by rw [hz2]; omega) (by omega) (Nat.le_refl _) ?_; intro w1 hrow1 hg1; have c1 := (HS.out.non (Chg.of_none hg1)).cell)
    | (at_range; refine wpList_range_own _ rfl _ 50 rfl 9 55 law Try.underlying50 _ b L.length _ rfl (hown.kept hg1 (by simp)) ?_; intro w0 hrg0 hg0 hs0)
    | go_in)
  go_frame
  clear hln c0 c1
  go_loopw [3, 4] (fun v _ wr => ∃ (left : Lit → Bool) (cnt : Nat) (ss : List (List UInt8)), wr.ranges Try.prog 9 heldElem b w1.heap.size L.length (dmap L) left cnt ∧ ss.length + cnt ≤ Maps.size (dmap L) ∧
      wr.ownsRow w.heap.size 9 1 v ss.length (ss.map encStr) ∧ v ≠ .slice none 0 0 ∧ Collected (dmap L) left ss ∧ Below w.heap.size w wr)
    (fun _ _ wr => wr.rangeLeft b w1.heap.size)
  case atStart =>
    exact ⟨_, _, [], hrg0, by simp, hrow1.kept hg0 (Or.inr (by simp [Value.ownBlock])), by simp, Collected.start (dmap L),
      ((Below.refl _ _).grown hg1 (Nat.le_refl _) (fun j hj => by cases hj)).grown hg0 hg1.size (fun j hj => by cases hj)⟩
  case round =>
    obtain ⟨left, cnt, ss, hrg, hcs, hrow, hnn, hC, hnx⟩ := hrel
    go_wp2_with (first
      | (at_next; refine wpList_next_ranges _ rfl _ rfl 9 law heldElem encStr (fun c : Value => c) (fun key kl hk => by obtain ⟨x, hx, _⟩ := Maps.keyOf_str Try.underlying9 hk; exact ⟨x, hx⟩) (fun v y hv => ⟨v, rfl⟩) b w1.heap.size L.length _ _ _ rfl hrg ?_ ?_)
      | go_in)
    · intro hc0 hl0
      rcases hrow.2 with ⟨hnil, _⟩ | ⟨g, cap, cur, rfl, hbase, hb, h1, h2, h3, h4⟩
      · exact absurd hnil hnn
      have hH : Holds encStr wr g 0 ss.toArray := holds_of_block hb (by simpa using h4)
      have hgl : g < wr.heap.size := (Array.getElem?_eq_some_iff.1 hb).1
      have hsl := HSZ.out
      have hc := sort_any g 0 cap ss wr hH hgl (by omega)
      have HP : Hid (ss.Perm (namesL L)) := by rw [← strKeys_dmap]; exact hC.perm hown law Try.underlying9 hl0
      clear hsl
      go_wp2_with (go_at_call 24; refine hc.mono ?_; rintro e w' ⟨rfl, nn, os, rfl⟩)
      go_ret
      have hpl : ss.length = L.length := by rw [HP.out.length_eq]; simp [namesL]
      have hms2 : (ss.mergeSort fun x y => decide (x ≤ y)) = namesL L := (mergeSort_of_perm HP.out).trans HS.out.map.sorted
      have hfin := ownsRow_sorted (n := nn) (os := os) (ts := ss.mergeSort fun x y => decide (x ≤ y)) (by simp) hbase hb h1 h2 h3
      have hbel := hnx.grown (grownBy_sorted (n := nn) (os := os) (ss.mergeSort fun x y => decide (x ≤ y)).toArray) hnx.size (fun j hj => by cases hj; exact hbase)
      refine ⟨g, cap, by rw [← hpl]; rfl, ?_, ?_⟩
      · rw [← hms2, ← hpl]
        exact hfin
      · exact ⟨hbel.os, hbel.tape, hbel.output, hbel.size, fun k hk _ => hbel.block k hk⟩
    · intro x c kl yd yp w2 cnt2 hkey hlk hv hat hrg2 hlt hg2 hs2 hen
      obtain ⟨x', ex, rfl, _⟩ := Maps.keyOf_str Try.underlying9 hkey
      obtain rfl : x = x' := encStr_inj ex
      have hrow2 := hrow.kept hg2 (Or.inr (row_ne_iter hrow hrg).symm)
      have hcs2 : ss.length + cnt2 < 64 := by have := HSZ.out; omega
      clear hs2
      go_wp2_with (first
        | (at_builtin; refine wpList_append_own _ rfl _ _ 34 rfl w.heap.size 9 i0 (.string ⟨#[]⟩) 1 16 Try.underlying34 hi hz0 hz1 hz2 rfl (by decide) _ _ _ rfl (hrow2.alloc _) ⟨w2.heap.size, 0, none⟩ 1 1 [encStr x] rfl rfl (cell_one_new _ _ _) (by simp [Value.oneCell', encStr]) (by omega) (by omega) (by have := hnx.size; have := hg2.size; simp; omega) ?_; intro v' w3 hown' hg3 hnil3; go_frame)
        | go_in)
      have hrg3 := (hrg2.alloc (.cells #[encStr x] 9)).kept hg3 (row_ne_low hrow2 hbl) (row_ne_iter hrow2 hrg2)
      go_roundw
      case rel =>
        refine ⟨_, cnt2, ss ++ [x], hrg3, by simp; omega, by simpa using hown', fun hv' => by have := (hnil3.1 hv').2; omega, hC.step hlk hat, ?_⟩
        exact ((hnx.grown hg2 hnx.size (fun j hj => by cases hj; exact hg1.size)).alloc (by have := hnx.size; have := hg2.size; omega) _).grown hg3 (by have := hnx.size; have := hg2.size; simp; omega) (fun j hj => (hrow2.lt j hj).1)
      case measure => rw [hrg3.left_eq, hrg.left_eq]; exact hlt
end Go.Proofs.Ytpabijfamnghjaa
