/-
  Small letters for great ones: the document's.
-/
import Derived.Test.YtbbopehpmnebiaaGreatDoorTl
import Derived.Lib.ConvBytes
import Derived.Laws.IdiomStrings
namespace Go.Proofs.YtbbopehpmnebiaaGreatDoor
open Go.RowKit Go.Shelf
set_option linter.unusedVariables false
set_option maxRecDepth 100000

/-- A text's bytes, the first k of them made small. -/
structure SmS (w wr : World) (s : ByteArray) (k : Nat) : Prop where
  chg : Chg Non w wr
  row : ∃ C : Array Value, wr.heap[w.heap.size]? = some (.cells C 5 (C.size, C.size + 1)) ∧ s.size ≤ C.size ∧ ∀ j b, s.data.toList[j]? = some b → C[j]? = some (Value.int .u8 ((if j < k then Lib.lowerB b else b).toNat : Int))
theorem SmS.start (w : World) (s : ByteArray) : SmS w (Lib.bytesWorld w 5 s) s 0 := by
  refine ⟨⟨?_, ?_, ?_, by rw [Lib.bytesWorld_size]; omega, fun i hi _ => Lib.bytesWorld_at_old w 5 s i hi⟩, Lib.bytesCells w 5 s, Lib.bytesWorld_at_new w 5 s, ?_, fun j b hb => ?_⟩
  · simp [Lib.bytesWorld, World.freeze, World.alloc, World.drew, -World.alloc_eq, -World.drew_eq]
  · simp [Lib.bytesWorld, World.freeze, World.alloc, World.drew, -World.alloc_eq, -World.drew_eq]
  · simp [Lib.bytesWorld, World.freeze, World.alloc, World.drew, -World.alloc_eq, -World.drew_eq]
  · simp [Lib.bytesCells]
  · have hlt : j < s.data.size := by
      have := (List.getElem?_eq_some_iff.1 hb).1
      simpa using this
    rw [Array.getElem?_toList] at hb
    simp only [Lib.bytesCells]
    rw [Array.getElem?_append_left (by simpa using hlt), Array.getElem?_map, hb]
    simp
theorem SmS.cell {w wr : World} {s : ByteArray} {k : Nat} (h : SmS w wr s k) {b : UInt8} (hb : s.data.toList[k]? = some b) : wr.cell? ⟨w.heap.size, k, none⟩ = some (.int .u8 (b.toNat : Int)) ∧ wr.frozen? ⟨w.heap.size, k, none⟩ = false := by
  obtain ⟨C, h1, h2, h3⟩ := h.row
  have := h3 k b hb
  rw [if_neg (Nat.lt_irrefl _)] at this
  have hk : k < s.size := by
    have := (List.getElem?_eq_some_iff.1 hb).1
    rw [Lib.size_eq]; exact this
  refine ⟨by rw [cell_of_row wr _ k C 5 _ h1]; exact this, ?_⟩
  simp [World.frozen?, h1]
  omega
theorem SmS.skip {w wr : World} {s : ByteArray} {k : Nat} (h : SmS w wr s k) {b : UInt8} (hb : s.data.toList[k]? = some b) (hl : Lib.lowerB b = b) : SmS w wr s (k + 1) := by
  obtain ⟨C, h1, h2, h3⟩ := h.row
  refine ⟨h.chg, C, h1, h2, fun j c hc => ?_⟩
  rw [h3 j c hc]
  by_cases hj : j = k
  · subst hj
    rw [hb] at hc
    obtain rfl := Option.some.inj hc
    rw [if_neg (Nat.lt_irrefl _), if_pos (Nat.lt_succ_self _), hl]
  · by_cases hj2 : j < k
    · rw [if_pos hj2, if_pos (by omega)]
    · rw [if_neg hj2, if_neg (by omega)]
theorem SmS.put {w wr : World} {s : ByteArray} {k : Nat} (h : SmS w wr s k) {b : UInt8} (hb : s.data.toList[k]? = some b) : SmS w (wr.setCell ⟨w.heap.size, k, none⟩ (.int .u8 ((Lib.lowerB b).toNat : Int))) s (k + 1) := by
  obtain ⟨C, h1, h2, h3⟩ := h.row
  have hk : k < s.size := by
    have := (List.getElem?_eq_some_iff.1 hb).1
    rw [Lib.size_eq]; exact this
  refine ⟨h.chg.setCell (p := ⟨w.heap.size, k, none⟩) (fun q => absurd q (Nat.lt_irrefl _)) _, C.setIfInBounds k (.int .u8 ((Lib.lowerB b).toNat : Int)), ?_, by simpa using h2, fun j c hc => ?_⟩
  · have : (wr.setCell ⟨w.heap.size, k, none⟩ (.int .u8 ((Lib.lowerB b).toNat : Int))).heap[w.heap.size]? = some (.cells (C.setIfInBounds k (.int .u8 ((Lib.lowerB b).toNat : Int))) 5 (C.size, C.size + 1)) := by
      simp [World.setCell, Array.getElem?_modify, h1]
    rw [this]
    simp
  · by_cases hj : j = k
    · subst hj
      rw [hb] at hc
      obtain rfl := Option.some.inj hc
      rw [Array.getElem?_setIfInBounds_self_of_lt (by omega), if_pos (Nat.lt_succ_self _)]
    · rw [Array.getElem?_setIfInBounds_ne (by omega), h3 j c hc]
      by_cases hj2 : j < k
      · rw [if_pos hj2, if_pos (by omega)]
      · rw [if_neg hj2, if_neg (by omega)]
theorem SmS.back {w wr : World} {s : ByteArray} {cap : Nat} (h : SmS w wr s s.size) : (convert 40 9 (.slice (some ⟨w.heap.size, 0, none⟩) s.size cap)).run Tryz.prog wr = .ok (.string ⟨(low s.data.toList).toArray⟩) wr := by
  obtain ⟨C, h1, h2, h3⟩ := h.row
  have hl : (low s.data.toList).length = s.size := by rw [low_len, Lib.size_eq]
  have := run_convert_bytes_back (P := Tryz.prog) wr 40 9 5 ⟨w.heap.size, 0, none⟩ cap (low s.data.toList) Tryz.underlying40 Tryz.underlying5 Tryz.underlying9 (fun j hj => ?_)
  · rw [hl] at this
    exact this
  · rw [low_len] at hj
    have e := h3 j _ (List.getElem?_eq_getElem hj)
    rw [if_pos (by rw [Lib.size_eq]; exact hj)] at e
    rw [Addr.add_lit, cell_of_row wr _ (0 + j) C 5 _ h1, Nat.zero_add, e]
    simp [low, Lib.toLowerA]

set_option maxHeartbeats 4000000 in
theorem small_any (s : ByteArray) (w : World) (hs : s.size ≤ 140737488355328) :
    Calls Tryz.prog 15 #[.string s] w fun e w' => e = .returned (.string ⟨(low s.data.toList).toArray⟩) ∧ Chg Non w w' := by
  have hcv := Lib.run_convert_string_bytes (P := Tryz.prog) w 9 40 5 s Tryz.underlying9 Tryz.underlying40 Tryz.underlying5
  have H0 : Hid (SmS w (Lib.bytesWorld w 5 s) s 0) := SmS.start w s
  obtain ⟨w1, hw1⟩ : ∃ w1, w1 = Lib.bytesWorld w 5 s := ⟨_, rfl⟩
  obtain ⟨cap, hcap⟩ : ∃ cap, cap = grownCap w s.size 0 5 := ⟨_, rfl⟩
  rw [← hw1] at hcv H0
  rw [← hcap] at hcv
  obtain ⟨R, hR⟩ : ∃ R : ByteArray, R = ⟨(low s.data.toList).toArray⟩ := ⟨_, rfl⟩
  rw [← hR]
  have HR : Hid (R = ⟨(low s.data.toList).toArray⟩) := hR
  clear hR hw1 hcap
  go_enter Tryz.func15, Tryz.ntmps15
  go_wp2
  go_loopw [4] (fun i wr => ∃ k : Nat, k ≤ s.size ∧ i = .int .i64 k ∧ Hid (SmS w wr s k)) (fun i _ => s.size - (intOf i).toNat)
  case atStart => exact ⟨0, Nat.zero_le _, rfl, H0⟩
  case round =>
    obtain ⟨k, hk, rfl, hS⟩ := hrel
    by_cases hlt : k < s.size
    · have hb := ba_get s k hlt
      obtain ⟨b, hbe⟩ : ∃ b, b = s[k]'hlt := ⟨_, rfl⟩
      rw [← hbe] at hb
      obtain ⟨c1, c2⟩ := hS.out.cell hb
      by_cases hup : Lib.isUpperB b = true
      · have h65 : (65 : Int) ≤ (b.toNat : Int) := by rw [Lib.isUpperB_int] at hup; simp at hup; exact hup.1
        have h90 : (b.toNat : Int) ≤ 90 := by rw [Lib.isUpperB_int] at hup; simp at hup; exact hup.2
        have hci : (b.toNat : Int) + 32 = ((Lib.lowerB b).toNat : Int) := by rw [Lib.lowerB_int _ hup]
        obtain ⟨c, hc⟩ : ∃ c : Int, c = ((Lib.lowerB b).toNat : Int) := ⟨_, rfl⟩
        have HP : Hid (SmS w (wr.setCell ⟨w.heap.size, k, none⟩ (.int .u8 c)) s (k + 1)) := by rw [hc]; exact hS.out.put hb
        rw [← hc] at hci
        obtain ⟨bi, hbi⟩ : ∃ bi : Int, bi = (b.toNat : Int) := ⟨_, rfl⟩
        rw [← hbi] at c1 h65 h90 hci
        have hwr : IntKind.u8.wrap (bi + 32) = c := by rw [IntKind.wrap_u8]; omega
        clear hup hb hbe hc hbi
        go_wp2
        go_roundw
        case rel => exact ⟨k + 1, by omega, by go_num, HP⟩
        case measure => simp [intOf]; omega
      · have hup' : Lib.isUpperB b = false := by simpa using hup
        have HP : Hid (SmS w wr s (k + 1)) := hS.out.skip hb (Lib.lowerB_of_not b hup')
        have hnot : ¬ ((65 : Int) ≤ (b.toNat : Int) ∧ (b.toNat : Int) ≤ 90) := by
          rw [Lib.isUpperB_int] at hup'
          simpa using hup'
        obtain ⟨bi, hbi⟩ : ∃ bi : Int, bi = (b.toNat : Int) := ⟨_, rfl⟩
        rw [← hbi] at c1 hnot
        clear hup hup' hb hbe hbi
        by_cases hq : 65 ≤ bi
        · have hq2 : ¬ bi ≤ 90 := fun h => hnot ⟨hq, h⟩
          clear hnot
          go_wp2
          go_roundw
          case rel => exact ⟨k + 1, by omega, by go_num, HP⟩
          case measure => simp [intOf]; omega
        · clear hnot
          go_wp2
          go_roundw
          case rel => exact ⟨k + 1, by omega, by go_num, HP⟩
          case measure => simp [intOf]; omega
    · have hke : k = s.size := by omega
      have HC : Hid (Chg Non w wr) := hS.out.chg
      have hbk : (convert 40 9 (.slice (some ⟨w.heap.size, 0, none⟩) s.size cap)).run Tryz.prog wr = .ok (.string R) wr := by
        rw [HR.out]
        have := hS.out
        rw [hke] at this
        exact this.back
      clear hS hke
      go_wp2
      go_ret
      exact ⟨rfl, HC.out⟩
end Go.Proofs.YtbbopehpmnebiaaGreatDoor
