/-
  The document's bytes, words and states are the program's: plain facts.
-/
import Derived.Test.YtijpdhjlafihkaaDoorTj21
import Derived.Test.YtijpdhjlafihkaaDoorTj11
import Derived.Test.YtijpdhjlafihkaaDoorTj22
namespace Go.Proofs.YtijpdhjlafihkaaDoor
open Go.RowKit
set_option linter.unusedVariables false
set_option maxRecDepth 100000

theorem padC_cnt (xs : List Int) : padC xs.length = IntKind.u64.wrap (cnt xs * 8) := by
  unfold padC cnt
  rw [IntKind.wrap_u64, IntKind.wrap_u64, IntKind.wrap_u64]
  omega
theorem padL_length (q : Int) (hv : Valid q) (n : Nat) : (padL (blockOf q) n).length = endN q (n % blockOf q) := by
  have hB : blockOf q = 64 ∨ blockOf q = 128 := by
    rcases hv.block with ⟨e, _⟩ | ⟨e, _⟩
    · exact .inl e
    · exact .inr e
  simp only [padL, padE, padK, endN, List.length_append, List.length_replicate, List.length_cons, List.length_nil, List.length_map, List.length_range]
  rcases hB with e | e <;> rw [e] <;> omega

theorem pad_end (q : Int) (hv : Valid q) (xs : List Int) : padL (blockOf q) xs.length = endL q xs := by
  have hB : blockOf q = 64 ∨ blockOf q = 128 := by
    rcases hv.block with ⟨e, _⟩ | ⟨e, _⟩
    · exact .inl e
    · exact .inr e
  obtain ⟨T, hT⟩ : ∃ T, T = endN q (xs.length % blockOf q) := ⟨_, rfl⟩
  have hlen := padL_length q hv xs.length
  rw [← hT] at hlen
  have hT9 : 9 ≤ T := by
    rw [hT, endN]
    rcases hB with e | e <;> rw [e] <;> omega
  unfold endL
  rw [← hT]
  apply List.ext_getElem?
  intro j
  by_cases hj : j < T
  · rw [List.getElem?_map, List.getElem?_range hj]
    simp only [Option.map_some]
    have hk : padK (blockOf q) xs.length + 1 + (blockOf q / 8 - 8) + 8 = T := by
      rw [← hlen]
      simp only [padL, padE, List.length_append, List.length_replicate, List.length_cons, List.length_nil, List.length_map, List.length_range]
      omega
    unfold padL endB endUp
    by_cases h0 : j = 0
    · subst h0
      simp
    · by_cases h8 : T - 8 ≤ j
      · rw [if_neg h0, if_pos h8, List.getElem?_append_right (by simp; omega)]
        unfold padE
        rw [List.getElem?_map, List.getElem?_range (by simp; omega)]
        simp only [Option.map_some]
        rw [padC_cnt]
        congr 4
        simp
        omega
      · rw [if_neg h0, if_neg h8, List.getElem?_append_left (by simp; omega), List.append_assoc, List.getElem?_append_right (by simp; omega)]
        rw [List.replicate_append_replicate, List.getElem?_replicate, if_pos (by simp; omega)]
  · rw [List.getElem?_eq_none (by omega), List.getElem?_eq_none (by simp; omega)]
end Go.Proofs.YtijpdhjlafihkaaDoor
namespace Go.Proofs.YtijpdhjlafihkaaDoor
open Go.RowKit
set_option linter.unusedVariables false
set_option maxRecDepth 100000

theorem wraps_u32 : ∀ n : Int, 0 ≤ n → n < 2 ^ 32 → IntKind.u32.wrap n = n := by
  intro n h0 h1
  rw [IntKind.wrap_u32]
  omega
theorem or32 {i : Nat} {x y : Int} (hx0 : 0 ≤ x) (hx : x % 2 ^ i = 0) (hx1 : x < 2 ^ 32) (hy0 : 0 ≤ y) (hy : y < 2 ^ i) (hi : (2 : Int) ^ i ≤ 2 ^ 32) : Go.bits .or .u32 x y = x + y :=
  bits_join .u32 32 (by decide) wraps_u32 i x y hx0 hx hx1 hy0 hy (by omega)

theorem wordR_eq (d : Nat → Int) (t : Nat) (h : ∀ j, 0 ≤ d j ∧ d j < 256) : wordR d t = wordW .u32 4 d t := by
  have h0 := h (4 * t)
  have h1 := h (4 * t + 1)
  have h2 := h (4 * t + 2)
  have h3 := h (4 * t + 3)
  unfold wordR wordW
  simp only [joinW, Nat.add_zero]
  rw [wraps_u32 (d (4 * t)) (by omega) (by omega), wraps_u32 (d (4 * t + 1)) (by omega) (by omega), wraps_u32 (d (4 * t + 2)) (by omega) (by omega), wraps_u32 (d (4 * t + 3)) (by omega) (by omega)]
  obtain ⟨a, ha⟩ : ∃ a, a = d (4 * t) := ⟨_, rfl⟩
  obtain ⟨b, hb⟩ : ∃ a, a = d (4 * t + 1) := ⟨_, rfl⟩
  obtain ⟨c, hc⟩ : ∃ a, a = d (4 * t + 2) := ⟨_, rfl⟩
  obtain ⟨e, he⟩ : ∃ a, a = d (4 * t + 3) := ⟨_, rfl⟩
  rw [← ha] at h0 ⊢
  rw [← hb] at h1 ⊢
  rw [← hc] at h2 ⊢
  rw [← he] at h3 ⊢
  have e0 : Go.bits .or .u32 (IntKind.u32.wrap (0 * 256)) a = a := by
    rw [wraps_u32 (0 * 256) (by omega) (by omega), or32 (i := 8) (by omega) (by omega) (by omega) (by omega) (by omega) (by omega)]
    omega
  rw [e0, wraps_u32 (a * 256) (by omega) (by omega), or32 (i := 8) (x := a * 256) (by omega) (by omega) (by omega) (by omega) (by omega) (by omega)]
  rw [wraps_u32 ((a * 256 + b) * 256) (by omega) (by omega), or32 (i := 8) (x := (a * 256 + b) * 256) (by omega) (by omega) (by omega) (by omega) (by omega) (by omega)]
  rw [wraps_u32 (((a * 256 + b) * 256 + c) * 256) (by omega) (by omega), or32 (i := 8) (x := ((a * 256 + b) * 256 + c) * 256) (by omega) (by omega) (by omega) (by omega) (by omega) (by omega)]
  rw [wraps_u32 (a * 16777216) (by omega) (by omega), wraps_u32 (b * 65536) (by omega) (by omega), wraps_u32 (c * 256) (by omega) (by omega)]
  rw [or32 (i := 24) (x := a * 16777216) (by omega) (by omega) (by omega) (by omega) (by omega) (by omega)]
  rw [or32 (i := 16) (x := a * 16777216 + b * 65536) (by omega) (by omega) (by omega) (by omega) (by omega) (by omega)]
  rw [or32 (i := 8) (x := a * 16777216 + b * 65536 + c * 256) (by omega) (by omega) (by omega) (by omega) (by omega) (by omega)]
  omega

theorem wordsR_eq (d : Nat → Int) (h : ∀ j, 0 ≤ d j ∧ d j < 256) : wordsR d = words32 d := by
  unfold wordsR words32
  have e : firstR d 16 = firstW .u32 4 d 16 := by
    funext j
    unfold firstR firstW
    rw [wordR_eq d j h]
  rw [e]

theorem mixR_eq (s d : Nat → Int) (hs : ∀ i, 0 ≤ s i ∧ s i < 4294967296) (h : ∀ j, 0 ≤ d j ∧ d j < 256) : mixR s d = mix32 s d ∧ ∀ i, 0 ≤ mixR s d i ∧ mixR s d i < 4294967296 := by
  have hc : ∀ i, cv32 (s i) = s i := fun i => by
    have := hs i
    unfold cv32
    exact wraps_u32 _ this.1 (by omega)
  have hcf : (fun i => cv32 (s i)) = s := funext hc
  have hr : ∀ i, 0 ≤ mixR s d i ∧ mixR s d i < 4294967296 := fun i => by
    unfold mixR
    rw [IntKind.wrap_u32]
    omega
  refine ⟨?_, hr⟩
  funext i
  unfold mix32
  rw [hcf, hc i, ← wordsR_eq d h]
  have := hr i
  unfold mixR at this ⊢
  unfold up32
  rw [IntKind.wrap_u64]
  omega

theorem root_range (i : Nat) : 0 ≤ root i ∧ root i < 18446744073709551616 := by
  unfold root
  rcases Nat.lt_or_ge i 16 with h | h
  · have : (List.range 16).all (fun i => decide (0 ≤ rootL.getD i 0 ∧ rootL.getD i 0 < 18446744073709551616)) = true := by decide +kernel
    rw [List.all_eq_true] at this
    exact of_decide_eq_true (this i (List.mem_range.2 h))
  · have : rootL.getD i 0 = 0 := by
      rw [List.getD_eq_getElem?_getD, List.getElem?_eq_none (by simpa [rootL] using h)]
      rfl
    rw [this]
    omega

theorem refN_eq (f : Nat → Int) (h : ∀ j, 0 ≤ f j ∧ f j < 256) (k : Nat) : refN f k = stN 1 f k ∧ ∀ i, 0 ≤ refN f k i ∧ refN f k i < 4294967296 := by
  induction k with
  | zero =>
    refine ⟨rfl, fun i => ?_⟩
    have := root_range i
    simp only [refN, startOf, if_true]
    omega
  | succ k ih =>
    have hm := mixR_eq (refN f k) (fun j => f (64 * k + j)) ih.2 (fun j => h _)
    refine ⟨?_, hm.2⟩
    rw [refN, stN, hm.1, mixH, if_pos rfl, ih.1]
    rfl

theorem outR_eq (s : Nat → Int) : outR s 8 = (List.range 32).map (sumByte 1 s) := by
  have hb : blockOf 1 / 16 = 4 := by decide
  have e : ∀ i, sumByte 1 s i = IntKind.u8.wrap (s (i / 4) / 2 ^ (8 * (3 - i % 4))) := fun i => by
    unfold sumByte
    rw [hb]
  simp only [List.range, List.range.loop, List.map_cons, List.map_nil, e, outR]
  simp

/-- The document's sum by words of 32 bits is the program's. -/
theorem out32 (xs : List Int) (h : ∀ x ∈ xs, 0 ≤ x ∧ x < 256) : outR (refN (fun j => (xs ++ padL 64 xs.length).getD j 0) ((xs ++ padL 64 xs.length).length / 64)) 8 = (List.range 32).map (sumByte 1 (sumSt 1 xs)) := by
  have hp : padL 64 xs.length = endL 1 xs := pad_end 1 (.inl rfl) xs
  have hr : ∀ j, 0 ≤ (xs ++ padL 64 xs.length).getD j 0 ∧ (xs ++ padL 64 xs.length).getD j 0 < 256 := fun j => by
    rw [List.getD_eq_getElem?_getD]
    cases hq : (xs ++ padL 64 xs.length)[j]? with
    | none => simp
    | some x =>
      have hm := List.mem_of_getElem? hq
      rw [List.mem_append] at hm
      simp only [Option.getD_some]
      rcases hm with hm | hm
      · exact h x hm
      · unfold padL padE at hm
        simp only [List.mem_append, List.mem_cons, List.not_mem_nil, or_false, List.mem_replicate, List.mem_map] at hm
        rcases hm with ((hm | hm) | hm) | ⟨i, _, hm⟩
        · omega
        · omega
        · omega
        · rw [← hm, IntKind.wrap_u8]
          omega
  rw [(refN_eq _ hr _).1, outR_eq, hp]
  rfl
end Go.Proofs.YtijpdhjlafihkaaDoor
