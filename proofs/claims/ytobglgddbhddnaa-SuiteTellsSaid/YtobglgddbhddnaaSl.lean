/-
  Slices of bytes that are read, words that are made, bytes that are copied.
-/
import Derived.Test.YtobglgddbhddnaaBxs
import Derived.Deep.MidRow
import Derived.Laws.MakeOwn
import Derived.Laws.CopyOwn
namespace Go.Proofs.Ytobglgddbhddnaa
open Go.RowKit
set_option linter.unusedVariables false

theorem u22 : Try.prog.underlying 35 = some (.slice 5) := by kernel_rfl
theorem u44 : Try.prog.underlying 72 = some (.slice 74) := by kernel_rfl
theorem i5 : (Try.prog.info? 5).map (·.size) = some 1 := by kernel_rfl

/-- Bytes that lie in a row. -/
def Bs (w : World) (b o n : Nat) (f : Nat → By) : Prop := ∀ j, j < n → w.cell? ⟨b, o + j, none⟩ = some (.int .u8 ((f j).toNat : Int))
theorem block_lt_of_cell {w : World} {b o : Nat} {v : Value} (h : w.cell? ⟨b, o, none⟩ = some v) : b < w.heap.size := World.block_lt_of_cell? w _ h
theorem Bs.chg {w w' : World} {b o n : Nat} {f : Nat → By} (h : Bs w b o n f) (k : Chg w w') : Bs w' b o n f := fun j hj => by
  rw [← h j hj]
  exact World.cell?_of_block (k.block b (block_lt_of_cell (h j hj)))

theorem mk44 (n : Nat) (hn : n ≤ 1000) (w : World) : (Instr.makeSlice 72 (.int .i64 n) (.int .i64 n)).run Try.prog w = .ok (.slice (some ⟨w.heap.size, 0, none⟩) n n) (w.alloc (.cells (ba (4 * n) zB) 74)) := by
  have hi : (Try.prog.info? 74).map (fun i => (i.zero, i.size, i.bytes)) = some (some (.agg (ba 4 zB)), 4, 4) := by kernel_rfl
  cases hq : Try.prog.info? 74 with
  | none => rw [hq] at hi; cases hi
  | some i =>
    rw [hq] at hi
    have hi := Option.some.inj hi
    have h1 : i.zero = some (.agg (ba 4 zB)) := congrArg (·.1) hi
    have h2 : i.size = 4 := congrArg (·.2.1) hi
    have h3 : i.bytes = 4 := congrArg (·.2.2) hi
    have := run_make (P := Try.prog) w 72 74 i _ u44 hq h1 .i64 .i64 n n (by omega) (by omega) (by rw [h3]; omega) (by omega)
    rw [this, h2]
    have e : madeCells (Value.agg (ba 4 zB)).cells ((n : Int).toNat * 4) = ba (4 * n) zB := by
      apply Array.ext_getElem?
      intro j
      have hz : (Value.agg (ba 4 zB)).cells = ba 4 zB := rfl
      rw [hz]
      by_cases hj : j < 4 * n
      · rw [ba_get _ _ hj]
        have hj' : j < n * 4 := by omega
        simp only [madeCells, Int.toNat_natCast, ba_size]
        simp [hj', ba, arr, zB, Nat.mod_lt]
      · have hj' : ¬ j < n * 4 := by omega
        simp [madeCells, ba, arr, hj, hj']
    rw [e]
    simp
theorem mk22 (n : Nat) (hn : n ≤ 140737488351232) (w : World) : (Instr.makeSlice 35 (.int .i64 n) (.int .i64 n)).run Try.prog w = .ok (.slice (some ⟨w.heap.size, 0, none⟩) n n) (w.alloc (.cells (ba n zB) 5)) := by
  have hi : (Try.prog.info? 5).map (fun i => (i.zero, i.size, i.bytes)) = some (some (.int .u8 0), 1, 1) := by kernel_rfl
  cases hq : Try.prog.info? 5 with
  | none => rw [hq] at hi; cases hi
  | some i =>
    rw [hq] at hi
    have hi := Option.some.inj hi
    have h1 : i.zero = some (.int .u8 0) := congrArg (·.1) hi
    have h2 : i.size = 1 := congrArg (·.2.1) hi
    have h3 : i.bytes = 1 := congrArg (·.2.2) hi
    have := run_make (P := Try.prog) w 35 5 i _ u22 hq h1 .i64 .i64 n n (by omega) (by omega) (by rw [h3]; omega) (by omega)
    rw [this, h2]
    have e : madeCells (Value.int .u8 0).cells ((n : Int).toNat * 1) = ba n zB := by
      apply Array.ext_getElem?
      intro j
      by_cases hj : j < n
      · simp [madeCells, ba, arr, zB, Value.cells, hj, Nat.mod_one]
      · simp [madeCells, ba, arr, zB, Value.cells, hj]
    rw [e]
    simp

/-- Bytes laid over others. -/
def over (o n : Nat) (x f : Nat → By) : Nat → By := fun j => if o ≤ j ∧ j < o + n then x (j - o) else f j
theorem ba_over (N o n : Nat) (x f : Nat → By) (h : o + n ≤ N) :
    ((ba N f).toList.take o ++ (ba n x).toList ++ (ba N f).toList.drop (o + (ba n x).toList.length)).toArray = ba N (over o n x f) := by
  have hl : (ba N f).toList.length = N := by rw [Array.length_toList, ba_size]
  have hx : (ba n x).toList.length = n := by rw [Array.length_toList, ba_size]
  rw [hx]
  apply Array.ext_getElem?
  intro j
  rw [List.getElem?_toArray]
  by_cases hN : j < N
  · rw [ba_get N _ hN]
    by_cases h1 : j < o
    · rw [List.append_assoc, List.getElem?_append_left (by rw [List.length_take, hl]; omega), List.getElem?_take, if_pos h1, Array.getElem?_toList, ba_get N f hN]
      have : ¬ (o ≤ j ∧ j < o + n) := by omega
      simp [over, this]
    · by_cases h2 : j < o + n
      · rw [List.getElem?_append_left (by rw [List.length_append, List.length_take, hl, hx]; omega), List.getElem?_append_right (by rw [List.length_take, hl]; omega), List.length_take, hl, Nat.min_eq_left (by omega), Array.getElem?_toList, ba_get n x (by omega)]
        have : o ≤ j ∧ j < o + n := by omega
        simp [over, this]
      · rw [List.getElem?_append_right (by rw [List.length_append, List.length_take, hl, hx]; omega), List.length_append, List.length_take, hl, hx, Nat.min_eq_left (by omega), List.getElem?_drop, Array.getElem?_toList]
        have e : o + n + (j - (o + n)) = j := by omega
        rw [e, ba_get N f hN]
        have : ¬ (o ≤ j ∧ j < o + n) := by omega
        simp [over, this]
  · rw [List.getElem?_eq_none (by simp only [List.length_append, List.length_take, List.length_drop, hl, hx]; omega)]
    simp [ba, arr, hN]

/-- copy, into a row of bytes. -/
theorem run_cp (w : World) (g N o dl dc b s sl sc n : Nat) (f x : Nat → By) (hd : Ar w g (ba N f)) (hs : Bs w b s n x) (hn : n = Nat.min sl dl) (hr : o + n ≤ N) :
    (Builtin.copy_ #[35, 35] 3 #[.slice (some ⟨g, o, none⟩) dl dc, .slice (some ⟨b, s, none⟩) sl sc]).run Try.prog w = .ok (.int .i64 n) (w.setRow g (ba N (over o n x f))) := by
  obtain ⟨t, hg⟩ := hd
  have hl : (ba n x).toList.length = n := by rw [Array.length_toList, ba_size]
  have := run_copy_row (P := Try.prog) w 35 35 3 5 g o dl dc ⟨b, s, none⟩ sl sc _ t (ba n x).toList u22 i5 hg (by rw [hl, hn]) (fun j v hv => ?_) (by rw [hl, ba_size]; omega) (fun v hv => (Array.all_eq_true_iff_forall_mem.1 (ba_one n x)) v (by simpa using hv))
  · rw [this, ba_over N o n x f hr, hl]
    rfl
  · have hadd : (⟨b, s, none⟩ : Addr).add j = ⟨b, s + j, none⟩ := by unfold Addr.add; split <;> simp_all
    have hj : j < n := by
      have := (List.getElem?_eq_some_iff.1 hv).1
      omega
    rw [Array.getElem?_toList, ba_get n x hj] at hv
    rw [hadd, hs j hj, hv]
end Go.Proofs.Ytobglgddbhddnaa
