/-
  A log's Counters: all that was counted, by rising names, in a new list.
-/
import Derived.Test.YtlhcadfcgibkdaaDoorCntList
namespace Go.Proofs.YtlhcadfcgibkdaaDoor
open Go.RowKit Go.Maps Go.Sort
set_option linter.unusedVariables false
set_option maxRecDepth 100000

theorem elem_was {L : List Ent} {x : List UInt8} {c : Value} {yd : DataW Value} {yp : List MemPlace} (hv : heldElem c = some (yd, yp)) (hat : ∀ zd, (dmap L).atKey (.string x) zd = yd) : c = .int .u64 (wasN x L) := by
  have h1 := hat (.held zeroFile)
  have h2 := hat (.held (.int .u64 1))
  rw [dmap_at] at h1 h2
  unfold heldElem at hv
  simp only [Option.some.injEq, Prod.mk.injEq] at hv
  obtain ⟨rfl, -⟩ := hv
  unfold wasN
  cases hf : findL x L with
  | none =>
    rw [hf] at h1 h2
    simp only at h1 h2
    rw [← h1] at h2
    simp [zeroFile] at h2
  | some e =>
    rw [hf] at h1
    simp only [DataW.held.injEq] at h1
    rw [← h1]
    rfl

theorem cell_two_new (w : World) (x y : Value) (t : TypeId) : ∀ j u, [x, y][j]? = some u → (w.alloc (.cells #[x, y] t)).cell? ((⟨w.heap.size, 0, none⟩ : Addr).add j) = some u := by
  intro j u hj
  rw [Addr.add_lit, cell_of_row _ w.heap.size (0 + j) _ t _ (heap_alloc_new w _)]
  match j, hj with
  | 0, hj => simpa using hj
  | 1, hj => simpa using hj

theorem row_ents (L : List Ent) (ss : List (List UInt8)) (x : List UInt8) : rowC (entsOf L (ss ++ [x])) = rowC (entsOf L ss) ++ [.string ⟨x.toArray⟩, .int .u64 (wasN x L)] := by
  unfold entsOf
  rw [List.map_append, rowC_app]
  rfl

theorem ents_len (L : List Ent) (ss : List (List UInt8)) : (entsOf L ss).length = ss.length := by unfold entsOf; simp

theorem low_row {w : World} {B : Nat} {v : Value} {R : List Ent} (h : w.ownsRow B 56 2 v R.length (rowC R)) : COwn w v R := by
  refine ⟨h.1, ?_⟩
  rcases h.2 with x | ⟨g, cap, cur, rfl, hb, hg, r⟩
  · exact .inl x
  · exact .inr ⟨g, cap, cur, rfl, Nat.zero_le _, hg, r⟩

set_option maxHeartbeats 2000000 in
theorem counters_any (p b : Nat) (L : List Ent) (w : World) (h : CntSt w p b L) (hby : L.length * 24 ≤ 140737488355328) :
    Calls Tryd.prog 20 #[.pointer (some ⟨p, 0, none⟩)] w fun e w' => ∃ (g cap : Nat), e = .returned (.slice (some ⟨g, 0, none⟩) L.length cap) ∧
      COwn w' (.slice (some ⟨g, 0, none⟩) L.length cap) L ∧ w.heap.size ≤ g ∧ Chg Non w w' := by
  obtain ⟨i0, hi, hz0, hz1, hz2⟩ := info_parts Tryd.info56
  have hown : w.ownsMap Tryd.prog 9 heldElem b L.length (dmap L) := h.map
  have hbl := hown.lt
  have hpl := h.lt
  have hms : maxLen = 9223372036854775807 := rfl
  have c0 := h.cell
  have HS : Hid (CntSt w p b L) := h
  have hsz : Maps.size (dmap L) = L.length := dmap_size L
  have hmax : Maps.size (dmap L) ≤ maxLen := by omega
  have hln := h.map.len
  have HSZ : Hid (Maps.size (dmap L) = L.length) := hsz
  clear h hsz
  go_enter Tryd.func20, Tryd.ntmps20
  go_wp2_with (first
    | (at_make; refine wpList_make_own _ rfl _ _ 49 rfl w.heap.size 56 i0 _ 2 Tryd.underlying49 hi hz0 hz1 _ _ _ L.length rfl rfl rfl (by rw [hz2]; omega) (by omega) (Nat.le_refl _) ?_; intro w1 hrow1 hg1; have c1 := (HS.out.non (Chg.of_none hg1)).cell)
    | (at_range; refine wpList_range_own _ rfl _ 80 rfl 9 22 law Tryd.underlying80 _ b L.length _ rfl (hown.kept hg1 (by simp)) ?_; intro w0 hrg0 hg0 hs0)
    | go_in)
  go_frame
  clear hln c0 c1
  go_loopw [3, 4, 5] (fun v _ _ wr => ∃ (left : Lit → Bool) (cnt : Nat) (ss : List (List UInt8)), wr.ranges Tryd.prog 9 heldElem b w1.heap.size L.length (dmap L) left cnt ∧ ss.length + cnt ≤ Maps.size (dmap L) ∧
      wr.ownsRow w.heap.size 56 2 v ss.length (rowC (entsOf L ss)) ∧ v ≠ .slice none 0 0 ∧ Collected (dmap L) left ss ∧ Below w.heap.size w wr)
    (fun _ _ _ wr => wr.rangeLeft b w1.heap.size)
  case atStart =>
    exact ⟨_, _, [], hrg0, by simp, hrow1.kept hg0 (Or.inr (by simp [Value.ownBlock])), by simp, Collected.start (dmap L),
      ((Below.refl _ _).grown hg1 (Nat.le_refl _) (fun j hj => by cases hj)).grown hg0 hg1.size (fun j hj => by cases hj)⟩
  case round =>
    obtain ⟨left, cnt, ss, hrg, hcs, hrow, hnn, hC, hnx⟩ := hrel
    go_wp2_with (first
      | (at_next; refine wpList_next_ranges _ rfl _ rfl 9 law heldElem encStr (fun c : Value => c) (fun key kl hk => by obtain ⟨x, hx, _⟩ := Maps.keyOf_str Tryd.underlying9 hk; exact ⟨x, hx⟩) (fun v y hv => ⟨v, rfl⟩) b w1.heap.size L.length _ _ _ rfl hrg ?_ ?_)
      | go_in)
    · intro hc0 hl0
      have hown3 : COwn wr u3 (entsOf L ss) := low_row (B := w.heap.size) (by rw [ents_len]; exact hrow)
      rcases hrow.2 with ⟨hnil, _⟩ | ⟨g, cap, cur, rfl, hbase, -⟩
      · exact absurd hnil hnn
      have hR : Rise L := HS.out.map.rising
      have HP : Hid (ss.Perm (namesL L)) := by rw [← strKeys_dmap]; exact hC.perm hown law Tryd.underlying9 hl0
      have hpe : (entsOf L ss).Perm L := by
        have := HP.out.map fun nm => (⟨nm, wasN nm L⟩ : Ent)
        have e := ents_names hR
        unfold entsOf at e ⊢
        rw [e] at this
        exact this
      have hle : (entsOf L ss).length = ss.length := ents_len L ss
      have hlL : ss.length = L.length := by rw [← hle]; exact hpe.length_eq
      rw [← hle] at hown3
      have hc := sort_C g cap (entsOf L ss) L wr hown3 hpe hR (by omega)
      rw [hle, hlL] at hc
      clear hown3 hpe hle
      go_wp2_with (go_at_call 38; refine hc.mono ?_; rintro e w' ⟨rfl, hw', hch⟩)
      go_ret
      exact ⟨g, cap, by first | rfl | rw [hlL], hw', hbase, ⟨hch.os.trans hnx.os, hch.tape.trans hnx.tape, hch.output.trans hnx.output, Nat.le_trans hnx.size hch.size, fun k hk _ => (hch.block k (Nat.lt_of_lt_of_le hk hnx.size) (fun e => by subst e; omega)).trans (hnx.block k hk)⟩⟩
    · intro x c kl yd yp w2 cnt2 hkey hlk hv hat hrg2 hlt hg2 hs2 hen
      obtain ⟨x', ex, rfl, _⟩ := Maps.keyOf_str Tryd.underlying9 hkey
      obtain rfl : x = x' := encStr_inj ex
      obtain rfl := elem_was hv hat
      have hrow2 := hrow.kept hg2 (Or.inr (row_ne_iter hrow hrg).symm)
      have hcs2 : ss.length + cnt2 < L.length := by have := HSZ.out; omega
      clear hs2
      go_wp2_with (first
        | (at_builtin; refine wpList_append_own _ rfl _ _ 49 rfl w.heap.size 56 i0 _ 2 24 Tryd.underlying49 hi hz0 hz1 hz2 rfl (by decide) _ _ _ rfl (hrow2.alloc _) ⟨w2.heap.size, 0, none⟩ 1 1 [.string ⟨x.toArray⟩, .int .u64 (wasN x L)] rfl rfl (cell_two_new _ _ _ _) (by simp [Value.oneCell']) (by omega) (by omega) (by have := hnx.size; have := hg2.size; simp; omega) ?_; intro v' w3 hown' hg3 hnil3; go_frame)
        | go_in)
      have hrg3 := (hrg2.alloc (.cells #[.string ⟨x.toArray⟩, .int .u64 (wasN x L)] 56)).kept hg3 (row_ne_low hrow2 hbl) (row_ne_iter hrow2 hrg2)
      go_roundw
      case rel =>
        refine ⟨_, cnt2, ss ++ [x], hrg3, by simp; omega, by rw [row_ents]; simpa using hown', fun hv' => by have := (hnil3.1 hv').2; omega, hC.step hlk hat, ?_⟩
        exact ((hnx.grown hg2 hnx.size (fun j hj => by cases hj; exact hg1.size)).alloc (by have := hnx.size; have := hg2.size; omega) _).grown hg3 (by have := hnx.size; have := hg2.size; simp; omega) (fun j hj => (hrow2.lt j hj).1)
      case measure => rw [hrg3.left_eq, hrg.left_eq]; exact hlt
end Go.Proofs.YtlhcadfcgibkdaaDoor
