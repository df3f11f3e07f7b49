/-
  A slice of pairs that can be read; may a key stand behind pairs: the program's isKey and the document's mayKey.
-/
import Derived.Test.YtlhcadfcgibkdaaDoorWord2
namespace Go.Proofs.YtlhcadfcgibkdaaDoor
open Go.RowKit
set_option linter.unusedVariables false
set_option maxRecDepth 100000

/-- A pair: a key, and a number or a text. -/
structure PairD where
  key : ByteArray
  isNum : Bool
  num : Nat
  text : ByteArray

structure PairD.Ok (p : PairD) : Prop where
  num : p.num < 18446744073709551616
  key : p.key.size ≤ 9223372036854775807
  text : p.text.size ≤ 9223372036854775807

def pairC (p : PairD) : Array Value := #[.string p.key, .bool p.isNum, .int .u64 p.num, .string p.text]

/-- A slice of pairs that can be read. -/
def PRd (w : World) (sv : Value) (ps : List PairD) : Prop :=
  ∃ ao n c, sv = .slice ao n c ∧ n = ps.length ∧ n ≤ c ∧ c ≤ maxLen ∧ ∀ i p, ps[i]? = some p → p.Ok ∧ ∃ g off, ao = some ⟨g, off, none⟩ ∧ g < w.heap.size ∧ w.cell? ⟨g, off + i * 4, none⟩ = some (.string p.key) ∧
    w.cell? ⟨g, off + i * 4 + 1, none⟩ = some (.bool p.isNum) ∧ w.cell? ⟨g, off + i * 4 + 2, none⟩ = some (.int .u64 p.num) ∧ w.cell? ⟨g, off + i * 4 + 3, none⟩ = some (.string p.text)

theorem PRd.keep {w w' : World} {sv : Value} {ps : List PairD} (h : PRd w sv ps) (hsz : w.heap.size ≤ w'.heap.size) (hk : ps ≠ [] → ∀ k, sv.ownBlock = some k → k < w.heap.size → w'.heap[k]? = w.heap[k]?) : PRd w' sv ps := by
  obtain ⟨ao, n, c, rfl, hn, hc, hm, hx⟩ := h
  refine ⟨ao, n, c, rfl, hn, hc, hm, fun i p hp => ?_⟩
  obtain ⟨ok, g, off, rfl, hg, c0, c1, c2, c3⟩ := hx i p hp
  have hne : ps ≠ [] := by rintro rfl; simp at hp
  have hb := hk hne g rfl hg
  refine ⟨ok, g, off, rfl, by omega, ?_, ?_, ?_, ?_⟩
  · rw [← c0]; exact World.cell?_of_block hb
  · rw [← c1]; exact World.cell?_of_block hb
  · rw [← c2]; exact World.cell?_of_block hb
  · rw [← c3]; exact World.cell?_of_block hb

theorem PRd.non {w w' : World} {sv : Value} {ps : List PairD} (h : PRd w sv ps) (hc : Chg Non w w') : PRd w' sv ps := h.keep hc.size (fun _ k _ hk => hc.block k hk (fun x => x))

theorem PRd.take {w : World} {ao : Option Addr} {n c : Nat} {ps : List PairD} (h : PRd w (.slice ao n c) ps) {k : Nat} (hk : k ≤ n) : PRd w (.slice ao k c) (ps.take k) := by
  obtain ⟨ao, n, c, e, hn, hc, hm, hx⟩ := h
  cases e
  refine ⟨ao, k, c, rfl, by simp; omega, by omega, hm, fun i p hp => hx i p ?_⟩
  rw [List.getElem?_take] at hp
  split at hp
  · exact hp
  · cases hp

def tB : List UInt8 := [116]
def evB : List UInt8 := [101, 118]
def keyOk (key : ByteArray) (ahead : List PairD) : Bool := isWd key.data.toList && !(key.data.toList == tB) && !(key.data.toList == evB) && ahead.all (fun p => !(p.key.data.toList == key.data.toList))

theorem keyOk_word {key : ByteArray} {ahead : List PairD} (h : isWd key.data.toList = false) : keyOk key ahead = false := by unfold keyOk; rw [h]; rfl
theorem keyOk_t {key : ByteArray} {ahead : List PairD} (h : (key.data.toList == tB) = true) : keyOk key ahead = false := by unfold keyOk; rw [h]; simp
theorem keyOk_ev {key : ByteArray} {ahead : List PairD} (h : (key.data.toList == evB) = true) : keyOk key ahead = false := by unfold keyOk; rw [h]; simp
theorem keyOk_twice {key : ByteArray} {ahead : List PairD} {p : PairD} (hp : p ∈ ahead) (h : (p.key.data.toList == key.data.toList) = true) : keyOk key ahead = false := by
  unfold keyOk
  have : ahead.all (fun p => !(p.key.data.toList == key.data.toList)) = false := by
    rw [List.all_eq_false]
    exact ⟨p, hp, by simp [h]⟩
  rw [this]; simp
theorem keyOk_true {key : ByteArray} {ahead : List PairD} (h : isWd key.data.toList = true) (h1 : (key.data.toList == tB) = false) (h2 : (key.data.toList == evB) = false) (hp : ∀ (i : Nat) (p : PairD), ahead[i]? = some p → (p.key.data.toList == key.data.toList) = false) : keyOk key ahead = true := by
  unfold keyOk
  rw [h, h1, h2]
  simp only [Bool.not_false, Bool.and_self, Bool.true_and, List.all_eq_true]
  intro p hm
  obtain ⟨i, hi⟩ := List.mem_iff_getElem?.1 hm
  rw [hp i p hi]; rfl

set_option maxHeartbeats 400000 in
theorem isKey_any (key : ByteArray) (sv : Value) (ps : List PairD) (w : World) (hk : key.size ≤ 9223372036854775807) (h : PRd w sv ps) :
    Calls Tryd.prog 41 #[.string key, sv] w fun e w' => e = .returned (.bool (keyOk key ps)) ∧ Chg Non w w' := by
  obtain ⟨ao, n, c, rfl, hn, hc, hm, hx⟩ := h
  have HN : Hid (n = ps.length ∧ n ≤ 9223372036854775807 ∧ ∀ i p, ps[i]? = some p → p.Ok ∧ ∃ g off, ao = some ⟨g, off, none⟩ ∧ g < w.heap.size ∧ w.cell? ⟨g, off + i * 4, none⟩ = some (.string p.key) ∧
    w.cell? ⟨g, off + i * 4 + 1, none⟩ = some (.bool p.isNum) ∧ w.cell? ⟨g, off + i * 4 + 2, none⟩ = some (.int .u64 p.num) ∧ w.cell? ⟨g, off + i * 4 + 3, none⟩ = some (.string p.text)) := ⟨hn, by unfold maxLen at hm; omega, hx⟩
  have hn64 : n ≤ 9223372036854775807 := HN.out.2.1
  clear hn hc hm hx
  cases h1 : isWd key.data.toList
  · go_enter Tryd.func41, Tryd.ntmps41
    go_wp2_with fail
    refine (isWord_any _ _ hk).mono ?_
    rintro e w1 ⟨rfl, rfl⟩
    rw [h1]
    go_wp2
    go_ret
    exact ⟨ret_bool (keyOk_word h1).symm, Chg.refl _ _⟩
  · cases h2 : (key.data.toList == tB)
    · cases h3 : (key.data.toList == evB)
      · have g2 : (key.toList == [116]) = false := by rw [ByteArray.toList_eq]; exact h2
        have g3 : (key.toList == [101, 118]) = false := by rw [ByteArray.toList_eq]; exact h3
        go_enter Tryd.func41, Tryd.ntmps41
        go_wp2_with fail
        refine (isWord_any _ _ hk).mono ?_
        rintro e w ⟨rfl, rfl⟩
        rw [h1]
        go_wp2_with fail
        go_loopw [6, 20] (fun _ i wr => ∃ k : Nat, i = .int .i64 k ∧ k ≤ n ∧ Chg Non w wr ∧ ∀ (j : Nat) (p : PairD), ps[j]? = some p → j < k → (p.key.data.toList == key.data.toList) = false) (fun _ i _ => n - (intOf i).toNat)
        case atStart => exact ⟨0, rfl, by omega, Chg.refl _ _, fun j p _ hj => by omega⟩
        case round =>
          obtain ⟨k, rfl, hkn, hch, hl⟩ := hrel
          have HL : Hid (Chg Non w wr ∧ ∀ (j : Nat) (p : PairD), ps[j]? = some p → j < k → (p.key.data.toList == key.data.toList) = false) := ⟨hch, hl⟩
          clear hl
          by_cases hp : k < n
          · have hpl : k < ps.length := by have := HN.out.1; omega
            have hat : ps[k]? = some (ps[k]'hpl) := by simp
            obtain ⟨p, hpd⟩ : ∃ p, p = ps[k]'hpl := ⟨_, rfl⟩
            rw [← hpd] at hat
            obtain ⟨ok, g, off, rfl, hg, e0, e1, e2, e3⟩ := HN.out.2.2 k p hat
            have hblk : wr.heap[g]? = w.heap[g]? := hch.block g hg (fun x => x)
            have d0 : wr.cell? ⟨g, off + k * 4, none⟩ = some (.string p.key) := by rw [← e0]; exact World.cell?_of_block hblk
            have d1 : wr.cell? ⟨g, off + k * 4 + 1, none⟩ = some (.bool p.isNum) := by rw [← e1]; exact World.cell?_of_block hblk
            have d2 : wr.cell? ⟨g, off + k * 4 + 2, none⟩ = some (.int .u64 p.num) := by rw [← e2]; exact World.cell?_of_block hblk
            have d3 : wr.cell? ⟨g, off + k * 4 + 3, none⟩ = some (.string p.text) := by rw [← e3]; exact World.cell?_of_block hblk
            have HP : Hid (ps[k]? = some p) := hat
            clear e0 e1 e2 e3 hblk hg hat hpd ok hch
            cases hq : (p.key.data.toList == key.data.toList)
            · have gq : (p.key.toList == key.toList) = false := by rw [ByteArray.toList_eq, ByteArray.toList_eq]; exact hq
              go_wp2
              go_roundw
              case rel =>
                refine ⟨k + 1, by go_num, by omega, ?_, fun j q hj hjk => ?_⟩
                · exact HL.out.1.alloc _
                · by_cases hjk' : j = k
                  · subst hjk'
                    rw [HP.out] at hj
                    cases hj
                    exact hq
                  · exact HL.out.2 j q hj (by omega)
              case measure => simp [intOf]; omega
            · have gq : (p.key.toList == key.toList) = true := by rw [ByteArray.toList_eq, ByteArray.toList_eq]; exact hq
              go_wp2
              go_ret
              exact ⟨ret_bool (keyOk_twice (List.mem_of_getElem? HP.out) hq).symm, HL.out.1.alloc _⟩
          · go_wp2
            go_ret
            exact ⟨ret_bool (keyOk_true h1 h2 h3 (fun i p hp => HL.out.2 i p hp (by have := (List.getElem?_eq_some_iff.1 hp).1; have := HN.out.1; omega))).symm, HL.out.1⟩
      · go_enter Tryd.func41, Tryd.ntmps41
        go_wp2_with fail
        refine (isWord_any _ _ hk).mono ?_
        rintro e w1 ⟨rfl, rfl⟩
        rw [h1]
        have g2 : (key.toList == [116]) = false := by rw [ByteArray.toList_eq]; exact h2
        have g3 : (key.toList == [101, 118]) = true := by rw [ByteArray.toList_eq]; exact h3
        go_wp2
        go_ret
        exact ⟨ret_bool (keyOk_ev h3).symm, Chg.refl _ _⟩
    · go_enter Tryd.func41, Tryd.ntmps41
      go_wp2_with fail
      refine (isWord_any _ _ hk).mono ?_
      rintro e w1 ⟨rfl, rfl⟩
      rw [h1]
      have g2 : (key.toList == [116]) = true := by rw [ByteArray.toList_eq]; exact h2
      go_wp2
      go_ret
      exact ⟨ret_bool (keyOk_t h2).symm, Chg.refl _ _⟩
set_option maxHeartbeats 400000 in
theorem mayKey_any (key : ByteArray) (sv : Value) (ps : List PairD) (w : World) (hk : key.size ≤ 9223372036854775807) (h : PRd w sv ps) :
    Calls Tryd.prog 28 #[.string key, sv] w fun e w' => e = .returned (.bool (keyOk key ps)) ∧ Chg Non w w' := by
  obtain ⟨ao, n, c, rfl, hn, hc, hm, hx⟩ := h
  have HN : Hid (n = ps.length ∧ n ≤ 9223372036854775807 ∧ ∀ i p, ps[i]? = some p → p.Ok ∧ ∃ g off, ao = some ⟨g, off, none⟩ ∧ g < w.heap.size ∧ w.cell? ⟨g, off + i * 4, none⟩ = some (.string p.key) ∧
    w.cell? ⟨g, off + i * 4 + 1, none⟩ = some (.bool p.isNum) ∧ w.cell? ⟨g, off + i * 4 + 2, none⟩ = some (.int .u64 p.num) ∧ w.cell? ⟨g, off + i * 4 + 3, none⟩ = some (.string p.text)) := ⟨hn, by unfold maxLen at hm; omega, hx⟩
  have hn64 : n ≤ 9223372036854775807 := HN.out.2.1
  clear hn hc hm hx
  cases h1 : isWd key.data.toList
  · go_enter Tryd.func28, Tryd.ntmps28
    go_wp2_with fail
    refine (word_any _ _ hk).mono ?_
    rintro e w1 ⟨rfl, rfl⟩
    rw [h1]
    go_wp2
    go_ret
    exact ⟨ret_bool (keyOk_word h1).symm, Chg.refl _ _⟩
  · cases h2 : (key.data.toList == tB)
    · cases h3 : (key.data.toList == evB)
      · have g2 : (key.toList == [116]) = false := by rw [ByteArray.toList_eq]; exact h2
        have g3 : (key.toList == [101, 118]) = false := by rw [ByteArray.toList_eq]; exact h3
        go_enter Tryd.func28, Tryd.ntmps28
        go_wp2_with fail
        refine (word_any _ _ hk).mono ?_
        rintro e w ⟨rfl, rfl⟩
        rw [h1]
        go_wp2_with fail
        go_loopw [6] (fun i wr => ∃ k : Nat, i = .int .i64 k ∧ k ≤ n ∧ Chg Non w wr ∧ ∀ (j : Nat) (p : PairD), ps[j]? = some p → j < k → (p.key.data.toList == key.data.toList) = false) (fun i _ => n - (intOf i).toNat)
        case atStart => exact ⟨0, rfl, by omega, Chg.refl _ _, fun j p _ hj => by omega⟩
        case round =>
          obtain ⟨k, rfl, hkn, hch, hl⟩ := hrel
          have HL : Hid (Chg Non w wr ∧ ∀ (j : Nat) (p : PairD), ps[j]? = some p → j < k → (p.key.data.toList == key.data.toList) = false) := ⟨hch, hl⟩
          clear hl
          by_cases hp : k < n
          · have hpl : k < ps.length := by have := HN.out.1; omega
            have hat : ps[k]? = some (ps[k]'hpl) := by simp
            obtain ⟨p, hpd⟩ : ∃ p, p = ps[k]'hpl := ⟨_, rfl⟩
            rw [← hpd] at hat
            obtain ⟨ok, g, off, rfl, hg, e0, e1, e2, e3⟩ := HN.out.2.2 k p hat
            have hblk : wr.heap[g]? = w.heap[g]? := hch.block g hg (fun x => x)
            have d0 : wr.cell? ⟨g, off + k * 4, none⟩ = some (.string p.key) := by rw [← e0]; exact World.cell?_of_block hblk
            have d1 : wr.cell? ⟨g, off + k * 4 + 1, none⟩ = some (.bool p.isNum) := by rw [← e1]; exact World.cell?_of_block hblk
            have d2 : wr.cell? ⟨g, off + k * 4 + 2, none⟩ = some (.int .u64 p.num) := by rw [← e2]; exact World.cell?_of_block hblk
            have d3 : wr.cell? ⟨g, off + k * 4 + 3, none⟩ = some (.string p.text) := by rw [← e3]; exact World.cell?_of_block hblk
            have HP : Hid (ps[k]? = some p) := hat
            clear e0 e1 e2 e3 hblk hg hat hpd ok hch
            cases hq : (p.key.data.toList == key.data.toList)
            · have gq : (p.key.toList == key.toList) = false := by rw [ByteArray.toList_eq, ByteArray.toList_eq]; exact hq
              go_wp2
              go_roundw
              case rel =>
                refine ⟨k + 1, by go_num, by omega, ?_, fun j q hj hjk => ?_⟩
                · exact HL.out.1
                · by_cases hjk' : j = k
                  · subst hjk'
                    rw [HP.out] at hj
                    cases hj
                    exact hq
                  · exact HL.out.2 j q hj (by omega)
              case measure => simp [intOf]; omega
            · have gq : (p.key.toList == key.toList) = true := by rw [ByteArray.toList_eq, ByteArray.toList_eq]; exact hq
              go_wp2
              go_ret
              exact ⟨ret_bool (keyOk_twice (List.mem_of_getElem? HP.out) hq).symm, HL.out.1⟩
          · go_wp2
            go_ret
            exact ⟨ret_bool (keyOk_true h1 h2 h3 (fun i p hp => HL.out.2 i p hp (by have := (List.getElem?_eq_some_iff.1 hp).1; have := HN.out.1; omega))).symm, HL.out.1⟩
      · go_enter Tryd.func28, Tryd.ntmps28
        go_wp2_with fail
        refine (word_any _ _ hk).mono ?_
        rintro e w1 ⟨rfl, rfl⟩
        rw [h1]
        have g2 : (key.toList == [116]) = false := by rw [ByteArray.toList_eq]; exact h2
        have g3 : (key.toList == [101, 118]) = true := by rw [ByteArray.toList_eq]; exact h3
        go_wp2
        go_ret
        exact ⟨ret_bool (keyOk_ev h3).symm, Chg.refl _ _⟩
    · go_enter Tryd.func28, Tryd.ntmps28
      go_wp2_with fail
      refine (word_any _ _ hk).mono ?_
      rintro e w1 ⟨rfl, rfl⟩
      rw [h1]
      have g2 : (key.toList == [116]) = true := by rw [ByteArray.toList_eq]; exact h2
      go_wp2
      go_ret
      exact ⟨ret_bool (keyOk_t h2).symm, Chg.refl _ _⟩
end Go.Proofs.YtlhcadfcgibkdaaDoor
