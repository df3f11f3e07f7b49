/-
  A log's Counters: all that was counted, by rising names, in a new list.
-/
import Derived.Test.YtlhcadfcgibkdaaDoorCnt
import Derived.Maps.RangeWalk
import Derived.Maps.Ext
import Derived.Sort.KeysCollected
import Derived.Sort.OwnSorted
namespace Go.Proofs.YtlhcadfcgibkdaaDoor
open Go.RowKit Go.Maps Go.Sort Go.Lib Go.Shelf
set_option linter.unusedVariables false
set_option maxRecDepth 100000

def namesL (L : List Ent) : List (List UInt8) := L.map Ent.name
def entsOf (L : List Ent) (ss : List (List UInt8)) : List Ent := ss.map fun nm => ⟨nm, wasN nm L⟩

theorem MapAt.rising {w : World} {b : Nat} {L : List Ent} (h : MapAt w b L) : Rise L := by
  obtain ⟨es, hD, hp, _⟩ := World.ownsMap.canon h law
  unfold dmap at hD
  cases hD
  rw [List.pairwise_map] at hp
  exact hp

theorem strKeys_dmap (L : List Ent) : strKeys (dmap L) = namesL L := by
  unfold strKeys dmap namesL
  simp only [List.map_map]
  rfl

theorem wasN_mem : ∀ {L : List Ent}, Rise L → ∀ e ∈ L, wasN e.name L = e.n
  | [], _, e, h => by simp at h
  | c :: L, hL, e, h => by
    obtain ⟨hc, hr⟩ := List.pairwise_cons.1 hL
    unfold wasN findL
    rcases List.mem_cons.1 h with rfl | h
    · simp
    · have hne : (c.name == e.name) = false := by
        rw [beq_eq_false_iff_ne]
        intro x
        have := hc e h
        rw [x, before_irrefl] at this
        cases this
      have := wasN_mem hr e h
      unfold wasN findL at this
      simpa [hne] using this

theorem ents_names {L : List Ent} (h : Rise L) : entsOf L (namesL L) = L := by
  unfold entsOf namesL
  rw [List.map_map]
  conv => rhs; rw [← List.map_id L]
  apply List.map_congr_left
  intro e he
  simp only [Function.comp, id]
  rw [wasN_mem h e he]

theorem holds_C {w : World} {g cap : Nat} {S : List Ent} (h : COwn w (.slice (some ⟨g, 0, none⟩) S.length cap) S) [Inhabited Ent] : HoldsK encC 2 w g 0 S.toArray := by
  intro t ht
  have ht' : t < S.length * 2 := by simpa using ht
  have hi : t / 2 < S.length := by omega
  have hat : S[t / 2]? = some (S[t / 2]'hi) := by simp
  refine ⟨?_, ?_⟩
  · rw [get_flatK _ _ _ _ (by simpa using ht')]
    have e1 : S.toArray[t / 2]! = S[t / 2]'hi := by simp [hi]
    rw [e1, Nat.zero_add]
    have := h.cell hat (t % 2) (by omega)
    rw [show t / 2 * 2 + t % 2 = t by omega] at this
    rw [this]
    have hm : t % 2 = 0 ∨ t % 2 = 1 := by omega
    rcases hm with hm | hm <;> rw [hm] <;> rfl
  · rcases h.2 with ⟨e', _⟩ | ⟨g', cap', cur, e', hbg, hg, _⟩
    · cases e'
    · cases e'
      simp [World.frozen?, hg]

theorem flat_row [Inhabited Ent] (S : List Ent) : (flatK encC 2 S.toArray).toList = rowC S := by
  apply List.ext_getElem?
  intro t
  by_cases ht : t < S.length * 2
  · have hi : t / 2 < S.length := by omega
    have hat : S[t / 2]? = some (S[t / 2]'hi) := by simp
    have h1 := rowC_get S (t / 2) (t % 2) _ hat (by omega)
    rw [show t / 2 * 2 + t % 2 = t by omega] at h1
    rw [h1]
    have h2 := get_flatK encC 2 S.toArray t (by simpa using ht)
    have e1 : S.toArray[t / 2]! = S[t / 2]'hi := by simp [hi]
    rw [e1] at h2
    have h3 : t < (flatK encC 2 S.toArray).size := by simpa using ht
    rw [Array.getElem?_toList, Array.getElem?_eq_getElem h3]
    rw [getElem!_pos _ t h3] at h2
    rw [h2]
    have hm : t % 2 = 0 ∨ t % 2 = 1 := by omega
    rcases hm with hm | hm <;> rw [hm] <;> rfl
  · rw [List.getElem?_eq_none (by simp; omega), List.getElem?_eq_none (by rw [rowC_len]; omega)]

/-- Behind the sort the same slice holds the sorted list; nothing else has changed. -/
theorem sorted_C [Inhabited Ent] {w : World} {g cap n : Nat} {os : Array Obj} {S S' : List Ent} (h : COwn w (.slice (some ⟨g, 0, none⟩) S.length cap) S) (hl : S'.length = S.length) :
    COwn (sortWorldK encC 2 w g 0 n S'.toArray os) (.slice (some ⟨g, 0, none⟩) S'.length cap) S' ∧ Chg (One g) w (sortWorldK encC 2 w g 0 n S'.toArray os) := by
  rcases h.2 with ⟨e', _⟩ | ⟨g', cap', cur, e', hbg, hg, h1, h2, h3, h4⟩
  · cases e'
  · cases e'
    have hgl := (Array.getElem?_eq_some_iff.1 hg).1
    have hheap : (sortWorldK encC 2 w g 0 n S'.toArray os).heap[g]? = some (.cells (putCells id 0 (flatK encC 2 S'.toArray) cur) 56 (0, 0)) := by
      unfold sortWorldK putRowK
      rw [heap_grow_old _ _ (by simpa using hgl)]
      simp [putRow, mapBlock, Sort.ahead, Array.getElem?_modify, hg, onCells]
    refine ⟨⟨by rw [rowC_len], .inr ⟨g, cap, _, rfl, hbg, hheap, by rw [hl]; exact h1, h2, by simp [putCells, h3], ?_⟩⟩, ⟨rfl, rfl, rfl, by simp [sortWorldK, putRowK, grow, putRow, mapBlock, Sort.ahead], fun k hk hn => ?_⟩⟩
    · apply List.ext_getElem?
      intro j
      have hsz : cur.size = cap * 2 := h3
      rw [hl]
      by_cases hj : j < S.length * 2
      · rw [List.getElem?_take_of_lt hj, Array.getElem?_toList, ← flat_row S', Array.getElem?_toList]
        have h5 : j < (flatK encC 2 S'.toArray).size := by simp; omega
        simp [putCells, show j < cur.size by omega, hl, hj]
      · rw [List.getElem?_take_eq_none (by omega), List.getElem?_eq_none (by rw [rowC_len]; omega)]
    · unfold sortWorldK putRowK
      rw [heap_grow_old _ _ (by simpa using hk)]
      have : g ≠ k := fun e => hn e.symm
      simp [putRow, mapBlock, Sort.ahead, Array.getElem?_modify, this]

theorem agg56 : ∀ w, (isAgg 56).run Tryd.prog w = .ok true w := Tryd.isAgg56
theorem size56 : ∀ w, (Go.sizeOf 56).run Tryd.prog w = .ok 2 w := Tryd.sizeOf56

/-- The sort, of a list whose names are those of a list by rising names. -/
theorem sort_C (g cap : Nat) (S L : List Ent) (w : World) (h : COwn w (.slice (some ⟨g, 0, none⟩) S.length cap) S) (hp : S.Perm L) (hL : Rise L) (hsz : S.length < 4611686018427387904) :
    Calls Tryd.prog 38 #[.slice (some ⟨g, 0, none⟩) S.length cap, .func (.func 39) #[] #[]] w fun e w' => e = .returned (.tuple #[]) ∧ COwn w' (.slice (some ⟨g, 0, none⟩) L.length cap) L ∧ Chg (One g) w w' := by
  have : Inhabited Ent := ⟨⟨[], 0⟩⟩
  have hgl : g < w.heap.size := h.lt g rfl
  have hc := AnyQ.slices_SortFunc Tryd.sortC 2 agg56 size56 encC (fun x => rfl) (fun x v hv => by simp [encC] at hv; rcases hv with rfl | rfl <;> rfl) cmpC swo_cmp 39 #[] g 0 cap S.toArray w (enters_of Tryd.func39 (by kernel_rfl) rfl) (cmpLays g 0 S.toArray.size w) (holds_C h) hgl (by simpa using hsz)
  rw [List.size_toArray] at hc
  refine hc.mono ?_
  rintro e w' ⟨rfl, d', n, os, hpm, hst, rfl⟩
  have hperm : d'.toList.Perm S := by
    have := hpm.2.2
    have e1 : d'.extract 0 S.length = d' := by
      have : d'.size = S.length := by simpa using hpm.1
      rw [← this]; simp
    rw [e1] at this
    simpa using this
  have hlen : d'.toList.length = S.length := hperm.length_eq
  have hL2 : d'.toList = L := by
    refine rise_unique L d'.toList hL (hperm.trans hp) ?_
    rw [List.pairwise_iff_getElem]
    intro i j hi hj hij
    have := hst i j (Nat.zero_le _) hij (by omega)
    have e : ∀ x y, Go.Proofs.ltOf cmpC x y = bytesBefore x.name y.name := fun x y => cmp_before x.name y.name
    rw [e] at this
    have hi' : i < d'.size := by simpa using hi
    have hj' : j < d'.size := by simpa using hj
    rw [getElem!_pos d' i hi', getElem!_pos d' j hj'] at this
    simpa using this
  have hd : d' = L.toArray := by rw [← hL2]
  have hll : L.length = S.length := by rw [← hL2]; exact hlen
  subst hd
  obtain ⟨h1, h2⟩ := sorted_C (n := n) (os := os) h hll
  exact ⟨rfl, h1, h2⟩
end Go.Proofs.YtlhcadfcgibkdaaDoor
