/-
  Bytes written into a digest: what the function Write does.
-/
import Derived.Test.YtijpdhjlafihkaaDoorTj06
import Derived.Laws.CopyRow
namespace Go.Proofs.YtijpdhjlafihkaaDoor
open Go.RowKit
set_option linter.unusedVariables false
set_option maxRecDepth 100000

/-- Some bytes laid over what was left over. -/
def over (r : Nat) (zs : List Int) (rest : Nat → Int) : Nat → Int := fun j => if r ≤ j ∧ j < r + zs.length then gd zs (j - r) else rest j

theorem dig_copy (h : Int) (st rest : Nat → Int) (held count : Int) (r : Nat) (zs : List Int) (hr : r + zs.length ≤ 128) :
    ((dig h st rest held count).toList.take (9 + r) ++ zs.map (Value.int .u8) ++ (dig h st rest held count).toList.drop (9 + r + (zs.map (Value.int .u8)).length)).toArray = dig h st (over r zs rest) held count := by
  have hsz := dig_size h st rest held count
  have hll : (dig h st rest held count).toList.length = 139 := by simpa using hsz
  refine dig_eq (by simp [hsz]; omega) fun j hj => ?_
  have hg := dig_get h st rest held count hj
  rw [← Array.getElem?_toList] at hg
  rw [List.getElem?_toArray]
  by_cases h1 : j < 9 + r
  · rw [List.append_assoc, List.getElem?_append_left (by simp; omega), List.getElem?_take, if_pos h1, hg]
    congr 1
    unfold digF
    by_cases e : 9 ≤ j ∧ j < 137
    · have e0 : ¬ j = 0 := by omega
      have e1 : ¬ j < 9 := by omega
      have e2 : ¬ (r ≤ j - 9 ∧ j - 9 < r + zs.length) := by omega
      simp only [e0, e1, e.2, if_true, if_false, over, e2]
    · by_cases e0 : j = 0
      · simp [e0]
      · have e1 : j < 9 ∨ ¬ j < 137 := by omega
        rcases e1 with e1 | e1
        · simp [e0, e1]
        · have e2 : ¬ j < 9 := by omega
          simp [e0, e1, e2]
  · by_cases h2 : j < 9 + r + zs.length
    · rw [List.getElem?_append_left (by simp; omega), List.getElem?_append_right (by simp; omega)]
      rw [List.length_take, hll, Nat.min_eq_left (by omega), List.getElem?_map]
      have hl : j - (9 + r) < zs.length := by omega
      rw [List.getElem?_eq_getElem hl]
      unfold digF
      rw [if_neg (by omega), if_neg (by omega), if_pos (by omega), over, if_pos (by omega)]
      rw [show j - 9 - r = j - (9 + r) by omega]
      simp [gd, List.getD_eq_getElem?_getD, List.getElem?_eq_getElem hl]
    · rw [List.getElem?_append_right (by simp; omega), List.getElem?_drop]
      rw [show 9 + r + (zs.map (Value.int .u8)).length + (j - ((dig h st rest held count).toList.take (9 + r) ++ zs.map (Value.int .u8)).length) = j by simp; omega, hg]
      congr 1
      unfold digF
      by_cases e : j < 137
      · have e0 : ¬ j = 0 := by omega
        have e1 : ¬ j < 9 := by omega
        have e2 : ¬ (r ≤ j - 9 ∧ j - 9 < r + zs.length) := by omega
        simp only [e0, e1, e, if_true, if_false, over, e2]
      · have e0 : ¬ j = 0 := by omega
        have e1 : ¬ j < 9 := by omega
        simp [e0, e1, e]

theorem u23 : Tryd.prog.underlying 23 = some (.slice 5) := by kernel_rfl
theorem i5 : (Tryd.prog.info? 5).map (·.size) = some 1 := by kernel_rfl

/-- copy, into what is left over. -/
theorem run_cpD (w : World) (D : Nat) (h : Int) (st rest : Nat → Int) (held count : Int) (r dl dc b o sl sc : Nat) (ys : List Int) (hd : Ar w D (dig h st rest held count)) (hs : Bs w b o sl (gd ys)) (hsl : sl = ys.length) (n : Nat) (hn : n = Nat.min sl dl) (hr : r + n ≤ 128) :
    (Builtin.copy_ #[23, 23] 3 #[.slice (some ⟨D, 9 + r, none⟩) dl dc, .slice (some ⟨b, o, none⟩) sl sc]).run Tryd.prog w = .ok (.int .i64 n) (w.setRow D (dig h st (over r (ys.take n) rest) held count)) := by
  obtain ⟨t, hg⟩ := hd
  have hmin : n ≤ ys.length := by
    rw [hn, ← hsl]
    exact Nat.min_le_left _ _
  have hl : ((ys.take n).map (Value.int .u8)).length = n := by simp; omega
  have := run_copy_row (P := Tryd.prog) w 23 23 3 5 D (9 + r) dl dc ⟨b, o, none⟩ sl sc _ t ((ys.take n).map (Value.int .u8)) u23 i5 hg (by rw [hl, hn]) (fun j v hv => ?_) (by rw [hl, dig_size]; omega) (fun v hv => ?_)
  · rw [this, dig_copy _ _ _ _ _ _ _ (by rw [List.length_take]; omega), hl]
    rfl
  · have hadd : (⟨b, o, none⟩ : Addr).add j = ⟨b, o + j, none⟩ := by unfold Addr.add; split <;> simp_all
    rw [List.getElem?_map] at hv
    have hj : j < n := by
      rcases Nat.lt_or_ge j n with hj | hj
      · exact hj
      · rw [List.getElem?_eq_none (by simp; omega)] at hv
        cases hv
    rw [hadd, hs j (by omega), ← hv, List.getElem?_take, if_pos hj, List.getElem?_eq_getElem (by omega)]
    simp [gd, List.getD_eq_getElem?_getD, List.getElem?_eq_getElem (show j < ys.length by omega)]
  · obtain ⟨x, _, rfl⟩ := List.mem_map.1 hv
    rfl

theorem run_cpNil (w : World) (D o dl dc : Nat) : (Builtin.copy_ #[23, 23] 3 #[.slice (some ⟨D, o, none⟩) dl dc, .slice none 0 0]).run Tryd.prog w = .ok (.int .i64 0) w :=
  run_copy_nil Tryd.prog w 23 23 3 5 ⟨D, o, none⟩ dl dc u23 (by first | exact i5 | kernel_rfl)

theorem run_cpEmpty (w : World) (D o dl dc : Nat) (a : Addr) (cap : Nat) (c : Array Value) (hd : Ar w D c) (ho : o ≤ c.size) : (Builtin.copy_ #[23, 23] 3 #[.slice (some ⟨D, o, none⟩) dl dc, .slice (some a) 0 cap]).run Tryd.prog w = .ok (.int .i64 0) w := by
  obtain ⟨t, hg⟩ := hd
  have := run_copy_row (P := Tryd.prog) w 23 23 3 5 D o dl dc a 0 cap c t [] u23 i5 hg (by simp) (fun j v hv => by simp at hv) (by simpa using ho) (fun v hv => by simp at hv)
  rw [this]
  have e : (c.toList.take o ++ [] ++ c.toList.drop (o + ([] : List Value).length)).toArray = c := by simp
  rw [e, setRow_self w D c t (0, 0) hg]
  rfl

/-- Bytes that a slice shows, which lie elsewhere than in one block. -/
def Sl (w : World) (D : Nat) (v : Value) (xs : List Int) : Prop :=
  (v = .slice none 0 0 ∧ xs = []) ∨ (∃ a cap, v = .slice (some a) 0 cap ∧ xs = []) ∨ ∃ b o cap, v = .slice (some ⟨b, o, none⟩) xs.length cap ∧ xs.length ≤ cap ∧ (cap < 9223372036854775808 ∧ xs.length < 4611686018427387904) ∧ Bs w b o xs.length (gd xs) ∧ b ≠ D

theorem Bs.cb {D : Nat} {w w' : World} {b o n : Nat} {d : Nat → Int} (h : Bs w b o n d) (k : Cb D w w') (hb : b ≠ D) : Bs w' b o n d := fun j hj => cell_cb k hb (h j hj)
theorem Sl.cb {D : Nat} {w w' : World} {v : Value} {xs : List Int} (h : Sl w D v xs) (k : Cb D w w') : Sl w' D v xs := by
  rcases h with h | h | ⟨b, o, cap, h1, h2, h3, h4, h5⟩
  · exact .inl h
  · exact .inr (.inl h)
  · exact .inr (.inr ⟨b, o, cap, h1, h2, h3, h4.cb k h5, h5⟩)
theorem Sl.chg {D : Nat} {w w' : World} {v : Value} {xs : List Int} (h : Sl w D v xs) (k : Chg w w') : Sl w' D v xs := h.cb (k.cb D)

/-- A digest that has taken in some bytes; its count may be ahead. -/
def DgC (w : World) (D : Nat) (h : Int) (all : List Int) (count : Int) : Prop :=
  ∃ rest, Ar w D (dig h (stOf h all) rest ((all.length % blockOf h : Nat) : Int) count) ∧ ∀ j, j < all.length % blockOf h → rest j = gd all (blockOf h * (all.length / blockOf h) + j)
def cnt (l : List Int) : Int := ((l.length % 18446744073709551616 : Nat) : Int)
theorem DgC.lt {w : World} {D : Nat} {h : Int} {all : List Int} {c : Int} (k : DgC w D h all c) : D < w.heap.size := k.choose_spec.1.lt
theorem DgC.chg {w w' : World} {D : Nat} {h : Int} {all : List Int} {c : Int} (k : DgC w D h all c) (hc : Chg w w') : DgC w' D h all c := by
  obtain ⟨rest, k1, k2⟩ := k
  exact ⟨rest, k1.chg hc, k2⟩
theorem DgC.cb {w w' : World} {D E : Nat} {h : Int} {all : List Int} {c : Int} (k : DgC w D h all c) (hc : Cb E w w') (hn : D ≠ E) : DgC w' D h all c := by
  obtain ⟨rest, k1, k2⟩ := k
  exact ⟨rest, k1.cb hc hn, k2⟩

theorem Sl.drop {w : World} {D b o m cap k : Nat} {ys : List Int} (hm : m = ys.length) (h : Bs w b o m (gd ys)) (hb : b ≠ D) (hk : k ≤ m) (hc : m ≤ cap) (hc' : cap < 9223372036854775808 ∧ m < 4611686018427387904) : Sl w D (.slice (some ⟨b, o + k, none⟩) (m - k) (cap - k)) (ys.drop k) := by
  have hl : (ys.drop k).length = m - k := by rw [List.length_drop, hm]
  refine .inr (.inr ⟨b, o + k, cap - k, by rw [hl], by omega, by omega, fun j hj => ?_, hb⟩)
  rw [hl] at hj
  rw [gd_drop, Nat.add_assoc]
  exact h (k + j) (by omega)
theorem Sl.dropAll {w : World} {D b o m k : Nat} {ys : List Int} (hm : m = ys.length) (hb : b ≠ D) (hk : m = k) : Sl w D (.slice (some ⟨b, o, none⟩) (m - k) 0) (ys.drop k) := by
  have hl : (ys.drop k).length = m - k := by rw [List.length_drop, hm]
  refine .inr (.inr ⟨b, o, 0, by rw [hl], by omega, by omega, fun j hj => ?_, hb⟩)
  rw [hl] at hj
  omega
end Go.Proofs.YtijpdhjlafihkaaDoor
