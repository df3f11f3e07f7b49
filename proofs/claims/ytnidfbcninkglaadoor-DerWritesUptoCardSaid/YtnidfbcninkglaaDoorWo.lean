/-
  The body of a text of numbers: the program's.
-/
import Derived.Test.YtnidfbcninkglaaDoorWm
import Derived.Test.YtnidfbcninkglaaDoorWn
namespace Go.Proofs.YtnidfbcninkglaaDoor
open Go.RowKit
set_option linter.unusedVariables false
set_option maxRecDepth 100000

theorem Chg.of_below {w w' : World} (h : Below w.heap.size w w') : Chg Non w w' := ⟨h.os, h.tape, h.output, h.size, fun k hk _ => h.block k hk⟩
/-- The two errors of a number that is none hold something. -/
structure ErrV (w : World) : Prop where
  a : ∃ te pe, w.cell? ⟨4, 0, none⟩ = some (.iface te pe)
  b : ∃ te pe, w.cell? ⟨5, 0, none⟩ = some (.iface te pe)
theorem cell_chg {w w' : World} (k : Chg Non w w') {p : Addr} {v : Value} (h : w.cell? p = some v) : w'.cell? p = some v := by
  rw [← h]
  exact World.cell?_of_block (k.block p.block (World.block_lt_of_cell? w _ h) (fun x => x))
theorem ErrV.chg {w w' : World} (h : ErrV w) (k : Chg Non w w') : ErrV w' := by
  obtain ⟨⟨t1, p1, h1⟩, t2, p2, h2⟩ := h
  exact ⟨⟨t1, p1, cell_chg k h1⟩, t2, p2, cell_chg k h2⟩
theorem parse_yes (s : ByteArray) (hs : s.size ≤ 140737488355328) (u : Int) (h : prP s.data.toList = some u) (w : World) :
    Calls Tryd.prog 76 #[.string s, .int .i64 10, .int .i64 32] w fun e w' => e = .returned (.tuple #[.int .u64 u, .nilIface]) ∧ Chg Non w w' := by
  rw [← parse_prP] at h
  cases hp : Lib.parseUintB 32 s.data.toList with
  | ok n =>
    rw [hp] at h
    obtain rfl : (n : Int) = u := Option.some.inj h
    refine (Tryd.strconv_ParseUint_10_at32_ok s (by omega) n hp w).mono fun e w' ⟨h1, h2⟩ => ⟨h1, ?_⟩
    rcases h2 with rfl | rfl
    · exact Chg.refl _ _
    · exact Chg.of_below (Lib.bytesWorld_below _ _ _)
  | «syntax» => rw [hp] at h; cases h
  | range => rw [hp] at h; cases h
theorem parse_no (s : ByteArray) (hs : s.size ≤ 140737488355328) (h : prP s.data.toList = none) (w : World) (hE : ErrV w) :
    Calls Tryd.prog 76 #[.string s, .int .i64 10, .int .i64 32] w fun e w' => ∃ n t p, e = .returned (.tuple #[.int .u64 n, .iface t p]) ∧ Chg Non w w' := by
  rw [← parse_prP] at h
  obtain ⟨⟨t1, p1, h1⟩, t2, p2, h2⟩ := hE
  cases hp : Lib.parseUintB 32 s.data.toList with
  | ok n => rw [hp] at h; cases h
  | «syntax» => exact (Tryd.strconv_ParseUint_10_at32_syntax s (by omega) hp _ w h1 (.inr ⟨_, _, rfl⟩)).mono fun e w' ⟨N, g1, g2, g3, g4⟩ => ⟨_, _, _, g1, Chg.of_below g4⟩
  | range => exact (Tryd.strconv_ParseUint_10_at32_range s (by omega) hp _ w h2 (.inr ⟨_, _, rfl⟩)).mono fun e w' ⟨N, g1, g2, g3, g4⟩ => ⟨_, _, _, g1, Chg.of_below g4⟩

theorem splitB_small (sep : ByteArray) : ∀ (k : Nat) (s : ByteArray), ∀ x ∈ Lib.splitB sep 0 k s, x.size ≤ s.size
  | 0, s, x, hx => by
    obtain rfl := List.mem_singleton.1 hx
    exact Nat.le_refl _
  | k + 1, s, x, hx => by
    unfold Lib.splitB at hx
    split at hx
    · obtain rfl := List.mem_singleton.1 hx
      exact Nat.le_refl _
    · rcases List.mem_cons.1 hx with rfl | hx
      · rw [ByteArray.size_extract]; omega
      · have := splitB_small sep k _ x hx
        rw [ByteArray.size_extract] at this
        omega
/-- What the program makes of a text's numbers. -/
def numsP (s : List UInt8) : Option (List Int) := if (spD s).length ≤ 17 then (spD s).mapM prP else none
def bodP (s : List UInt8) : List Int := match numsP s with
  | none => []
  | some q => match folds q with
    | none => []
    | some l => sevAll l
theorem parts_nums (s : ByteArray) (N : Nat) (hN : N = min 17 (s.size + 1)) : ((partsB N s).map (·.data.toList)).mapM prP = numsP s.data.toList := by
  unfold partsB numsP
  rw [Lib.splitB_data, hN, Lib.size_eq]
  exact parts_min s.data.toList
theorem parts_cell {w w1 : World} {N : Nat} {ps : List ByteArray} (h : w1 = w.alloc (.cells (Lib.cellsOf ps N) 9)) : ∀ (k : Nat) x, ps[k]? = some x → w1.cell? ⟨w.heap.size, k, none⟩ = some (.string x) := by
  intro k x hx
  subst h
  rw [World.cell?_alloc_new]
  have hl := (List.getElem?_eq_some_iff.1 hx).1
  unfold Lib.cellsOf
  rw [List.getElem?_toArray, List.getElem?_append_left (by simpa using hl), List.getElem?_map, hx]
  rfl
theorem mapM_snoc (f : List UInt8 → Option Int) {a : List (List UInt8)} {q : List Int} {x : List UInt8} {u : Int} (h : a.mapM f = some q) (hx : f x = some u) : (a ++ [x]).mapM f = some (q ++ [u]) := by
  rw [mapM_app f a [x] q h, List.mapM_cons, hx]
  rfl
theorem mapM_cut (f : List UInt8 → Option Int) {a b : List (List UInt8)} {q : List Int} {x : List UInt8} (h : a.mapM f = some q) (hx : f x = none) : (a ++ x :: b).mapM f = none := by
  rw [mapM_app f a (x :: b) q h, List.mapM_cons, hx]
  rfl
theorem prP_lt {l : List UInt8} {u : Int} (h : prP l = some u) : 0 ≤ u ∧ u < 4294967296 := by
  unfold prP at h
  split at h
  · rename_i hp
    have := Option.some.inj h
    omega
  · cases h
end Go.Proofs.YtnidfbcninkglaaDoor
