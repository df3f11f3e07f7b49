/-
  A text cut at its points: SplitN, as far as it is called.
-/
import Derived.Test.YtnidfbcninkglaaDoorWl
import Derived.Test.YtnidfbcninkglaaDoorShelf2
import Derived.Deep.LoopGhost
import Derived.Laws.MakeOwn
import Derived.Deep.OwnRows
namespace Go.Proofs.YtnidfbcninkglaaDoor
open Go.RowKit
set_option linter.unusedVariables false
set_option maxRecDepth 1000000

theorem info9 : (Tryd.prog.info? 9).map (fun i => (i.zero, i.size, i.bytes)) = some (some (.string ByteArray.empty), 1, 16) := by kernel_rfl
def pt46 : ByteArray := ⟨#[46]⟩
def partsB (N : Nat) (s : ByteArray) : List ByteArray := Lib.splitB pt46 0 (N - 1) s
theorem idx46 (x : ByteArray) : Lib.indexByte x.data.toList 46 = Lib.indexB x pt46 := (Lib.one x pt46 rfl).symm

set_option maxHeartbeats 4000000 in
theorem genSplit_any (s : ByteArray) (hs : s.size ≤ 140737488355328) (N : Nat) (hN : (N : Int) = min 17 ((s.size : Int) + 1)) (w : World) :
    Calls Tryd.prog 89 #[.string s, .string pt46, .int .i64 0, .int .i64 17] w fun e w' => e = .returned (.slice (some ⟨w.heap.size, 0, none⟩) (partsB N s).length N) ∧ w' = w.alloc (.cells (Lib.cellsOf (partsB N s) N) 9) := by
  have hI : ∀ (x : ByteArray) (c : Array Value), Calls Tryd.prog 100 #[.string x, .string pt46] (w.alloc (.cells c 9)) fun e w' => e = .returned (.int .i64 (Lib.indexB x pt46)) ∧ w' = w.alloc (.cells c 9) := fun x c => by
    have h := Tryd.strings_Index_one x 46 (w.alloc (.cells c 9))
    rw [idx46] at h
    exact h
  have hse : pt46.toList.isEmpty = false := by rw [Lib.toList_data]; rfl
  have hpz : pt46.size = 1 := rfl
  obtain ⟨pt, hpt⟩ : ∃ pt, pt = pt46 := ⟨_, rfl⟩
  unfold partsB
  rw [← hpt] at hI hse hpz ⊢
  clear hpt
  have eN' : min 17 ((s.size : Int) + 1) = (N : Int) := hN.symm
  have hNs : (N : Int) ≤ (s.size : Int) + 1 := by rw [← eN']; exact Int.min_le_right _ _
  have hN1 : (1 : Int) ≤ (N : Int) := by rw [← eN']; exact Int.le_min.2 ⟨by omega, by omega⟩
  have hN17 : (N : Int) ≤ 17 := by rw [← eN']; exact Int.min_le_left _ _
  have hmk := run_make_row' (P := Tryd.prog) 120 9 (.string ByteArray.empty) 16 Tryd.underlying120 info9 rfl .i64 .i64 N (by omega) (by omega)
  clear hN
  go_enter Tryd.func89, Tryd.ntmps89
  go_wp2
  clear hmk
  go_loopg [0, 10] (N - 1) (fun g s0 s10 wr => ∃ (done : List ByteArray) (rest : ByteArray), s0 = .string rest ∧ s10 = .int .i64 done.length ∧ done.length ≤ N - 1 ∧ g = N - 1 - done.length ∧ rest.size ≤ s.size ∧
    wr = w.alloc (.cells (Lib.cellsOf done N) 9) ∧ done ++ Lib.splitB pt 0 (N - 1 - done.length) rest = Lib.splitB pt 0 (N - 1) s)
  case atStart => exact ⟨[], s, rfl, rfl, Nat.zero_le _, rfl, Nat.le_refl _, by rw [Lib.cellsOf_nil], rfl⟩
  case round =>
    obtain ⟨done, rest, rfl, rfl, hd, rfl, hrs, rfl, hsp⟩ := hrel
    have hnext : (Lib.cellsOf done N)[done.length]? = some (.string ByteArray.empty) := Lib.cellsOf_next (by omega)
    have HS : Hid (done ++ Lib.splitB pt 0 (N - 1 - done.length) rest = Lib.splitB pt 0 (N - 1) s) := hsp
    clear hsp
    have fin : Lib.splitB pt 0 (N - 1 - done.length) rest = [rest] → (Lib.splitB pt 0 (N - 1) s).length = done.length + 1 ∧ (Lib.cellsOf done N).setIfInBounds done.length (.string rest) = Lib.cellsOf (Lib.splitB pt 0 (N - 1) s) N := fun h => by
      have e := HS.out
      rw [h] at e
      rw [← e]
      exact ⟨by simp, Lib.cellsOf_set (by omega) rest⟩
    by_cases hlt : done.length < N - 1
    · have hltz : ((done.length : Nat) : Int) < (N : Int) - 1 := by omega
      rcases Lib.indexB_cases rest pt with hix | ⟨i, hix, hroom⟩
      · go_wp2_with (first | (go_at_call 100; refine (hI rest _).mono ?_; rintro e w' ⟨rfl, hw⟩; rw [hw, hix]))
        go_ret
        obtain ⟨f1, f2⟩ := fin (Lib.splitB_miss pt 0 _ rest hix)
        rw [f1, ← f2]
        exact ⟨by first | rfl | (congr 2 <;> omega), rfl⟩
      · have c0 : ¬ ((i : Int) < 0) := by omega
        have c1 : (0 : Int) ≤ ↑i + 0 := by omega
        have c2 : (↑i + 0 : Int) ≤ ↑rest.size := by omega
        have c3 : (0 : Int) ≤ ↑i + ↑pt.size := by omega
        have c4 : (↑i + ↑pt.size : Int) ≤ ↑rest.size := by omega
        go_wp2_with (first | (go_at_call 100; refine (hI rest _).mono ?_; rintro e w' ⟨rfl, hw⟩; rw [hw, hix]))
        go_roundg (N - 1 - (done.length + 1))
        case measure => omega
        case rel =>
          refine ⟨done ++ [rest.extract 0 (i + 0)], rest.extract (i + pt.size) rest.size, ?_, by simp, by simp; omega, by simp, by rw [ByteArray.size_extract]; omega, by rw [← Lib.cellsOf_set (by omega)]; first | rfl | simp, ?_⟩
          · first | rfl | simp [hpz]
          · rw [← HS.out, show N - 1 - done.length = (N - 1 - (done.length + 1)) + 1 by omega, Lib.splitB_hit pt 0 _ rest i hix]
            simp
    · have hltz : ¬ (((done.length : Nat) : Int) < (N : Int) - 1) := by omega
      go_wp2
      go_ret
      obtain ⟨f1, f2⟩ := fin (by rw [show N - 1 - done.length = 0 by omega]; rfl)
      rw [f1, ← f2]
      exact ⟨by first | rfl | (congr 2 <;> omega), rfl⟩

theorem splitN_any (s : ByteArray) (hs : s.size ≤ 140737488355328) (N : Nat) (hN : (N : Int) = min 17 ((s.size : Int) + 1)) (w : World) :
    Calls Tryd.prog 75 #[.string s, .string ⟨#[46]⟩, .int .i64 17] w fun e w' => e = .returned (.slice (some ⟨w.heap.size, 0, none⟩) (partsB N s).length N) ∧ w' = w.alloc (.cells (Lib.cellsOf (partsB N s) N) 9) := by
  have HG : Hid (Calls Tryd.prog 89 #[.string s, .string ⟨#[46]⟩, .int .i64 0, .int .i64 17] w fun e w' => e = .returned (.slice (some ⟨w.heap.size, 0, none⟩) (partsB N s).length N) ∧ w' = w.alloc (.cells (Lib.cellsOf (partsB N s) N) 9)) := genSplit_any s hs N hN w
  clear hN
  go_enter Tryd.func75, Tryd.ntmps75
  go_wp2_with (go_at_call 89; refine HG.out.mono ?_; rintro e w' ⟨rfl, hw⟩; rw [hw])
  go_ret
  exact ⟨rfl, rfl⟩
end Go.Proofs.YtnidfbcninkglaaDoor
