/-
  The walk of WorldTime: it returns true, and writes nothing that was there.
-/
import Derived.Test.YtiegofelidnnlaaHead
namespace Go.Proofs.Ytiegofelidnnlaa
open Go.RowKit
set_option linter.unusedVariables false

theorem one_cell {w : World} {b : Nat} {v : Value} {t : TypeId} (h : w.heap[b]? = some (.cells #[v] t (0, 0))) : w.cell? ⟨b, 0, none⟩ = some v ∧ w.frozen? ⟨b, 0, none⟩ = false := by
  constructor
  · rw [cell_of_row w b 0 _ t (0, 0) h]; rfl
  · simp [World.frozen?, h]

set_option maxHeartbeats 400000 in
theorem now_any (b : Nat) (t : Int) (w : World) (h : w.heap[b]? = some (.cells #[.int .u64 t] 27 (0, 0))) :
    Calls Try.prog 9 #[.pointer (some ⟨b, 0, none⟩)] w fun e w' => e = .returned (.int .u64 t) ∧ w' = w := by
  obtain ⟨h1, h2⟩ := one_cell h
  go_enter Try.func9, Try.ntmps9
  go_wp2
  go_ret
  exact ⟨rfl, rfl⟩

set_option maxHeartbeats 400000 in
theorem tick_any (b : Nat) (t n : Int) (w : World) (h : w.heap[b]? = some (.cells #[.int .u64 t] 27 (0, 0))) (ht : 0 ≤ t) (hn : 0 ≤ n) :
    Calls Try.prog 10 #[.pointer (some ⟨b, 0, none⟩), .int .u64 n] w fun e w' => e = .returned (.tuple #[]) ∧ w'.heap[b]? = some (.cells #[.int .u64 (after t n)] 27 (0, 0)) ∧ Chg (One b) w w' := by
  obtain ⟨h1, h2⟩ := one_cell h
  go_enter Try.func10, Try.ntmps10
  go_wp2_with fail
  refine (after_any _ _ _ ht hn).mono ?_
  rintro e w1 ⟨rfl, rfl⟩
  go_wp2
  go_end0
  exact ⟨rfl, heap_setCell_at _ _ _ _ _ _ h, Chg.setCell (S := One b) (Chg.refl _ _) (p := ⟨b, 0, none⟩) (fun _ => rfl) _⟩

theorem after_ge (t n : Int) (h0 : 0 ≤ t) (h1 : t ≤ 9223372036854775807) (h : 0 ≤ n) : t ≤ after t n ∧ after t n ≤ 9223372036854775807 := by
  unfold after; split <;> omega

set_option maxHeartbeats 1000000 in
theorem time_walk (a0 a1 : Int) (ad : Option Addr) (len cap : Nat) (zs : List Int) (w : World) (w0 : 0 ≤ a0) (w1 : 0 ≤ a1) (hcap : len ≤ 9223372036854775807)
    (hc : ∀ j, j < len → ∃ b off, ad = some ⟨b, off, none⟩ ∧ b < w.heap.size ∧ w.cell? ⟨b, off + j, none⟩ = some (.int .u64 (zs.getD j 0)) ∧ 0 ≤ zs.getD j 0) :
    Calls Try.prog 3 #[.int .u64 a0, .int .u64 a1, .slice ad len cap] w fun e w' => e = .returned (.bool true) ∧ Below w.heap.size w w' := by
  go_enter Try.func3, Try.ntmps3
  go_wp2_with fail
  refine (head_any _).mono ?_
  rintro e w2 ⟨rfl, hc2⟩
  have hsz := hc2.size
  go_wp2_with fail
  go_loopw [9, 10] (fun at' i wr => ∃ (k : Nat) (t : Int), k ≤ len ∧ i = .int .i64 k ∧ at' = .int .u64 t ∧ 0 ≤ t ∧ t ≤ 9223372036854775807 ∧ wr.heap[w2.heap.size]? = some (.cells #[.int .u64 t] 27 (0, 0)) ∧ Chg Non w wr)
    (fun _ i _ => len - (intOf i).toNat)
  case atStart => exact ⟨0, 0, Nat.zero_le _, rfl, rfl, by omega, by omega, heap_alloc_new w2 _, hc2.alloc _⟩
  case round =>
    obtain ⟨k, t, hk, rfl, rfl, ht0, ht1, hb, hcr⟩ := hrel
    by_cases hlt : k < len
    · obtain ⟨b, off, rfl, hbs, hcell, hz⟩ := hc k hlt
      have hcell2 : wr.cell? ⟨b, off + k, none⟩ = some (.int .u64 (zs.getD k 0)) := by
        rw [← hcell]; exact World.cell?_of_block (hcr.block b hbs (fun e => e))
      clear hcell hc
      generalize zs.getD k 0 = z at *
      have hag := after_ge t z ht0 ht1 hz
      have HB : Hid (wr.heap[w2.heap.size]? = some (.cells #[.int .u64 t] 27 (0, 0))) := hb
      clear hb
      go_wp2_with fail
      refine (now_any _ t _ HB.out).mono ?_
      rintro e w3 ⟨rfl, rfl⟩
      go_wp2_with fail
      refine (tick_any _ t z _ HB.out ht0 hz).mono ?_
      rintro e w4 ⟨rfl, hb4, hc4⟩
      have hcell4 : w4.cell? ⟨b, off + k, none⟩ = some (.int .u64 z) := by
        rw [← hcell2]; exact World.cell?_of_block (hc4.block b (by have := hcr.size; omega) (fun e => by cases e; omega))
      have HC4 : Hid (Chg Non w w4) := hcr.trans hc4 (fun i hi e => by cases e; omega)
      have HB4 : Hid (w4.heap[w2.heap.size]? = some (.cells #[.int .u64 (after t z)] 27 (0, 0))) := hb4
      clear hcell2 hb4 hc4
      go_wp2_with fail
      refine (rafter_any _ _ _ ht0 hz).mono ?_
      rintro e w5 ⟨rfl, rfl⟩
      generalize after t z = t2 at *
      go_wp2_with fail
      refine (now_any _ t2 _ HB4.out).mono ?_
      rintro e w6 ⟨rfl, rfl⟩
      go_wp2_with fail
      refine (now_any _ t2 _ HB4.out).mono ?_
      rintro e w6 ⟨rfl, rfl⟩
      go_wp2
      go_roundw
      case rel => exact ⟨k + 1, t2, by omega, by go_num, rfl, by omega, by omega, HB4.out, HC4.out⟩
      case measure => simp [intOf]; omega
    · clear hc
      go_wp2_with fail
      refine (after_any _ _ _ w0 w1).mono ?_
      rintro e w3 ⟨rfl, rfl⟩
      go_wp2_with fail
      refine (rafter_any _ _ _ w0 w1).mono ?_
      rintro e w3 ⟨rfl, rfl⟩
      go_wp2
      go_ret
      exact ⟨by simp, hcr.below (Nat.le_refl _) (fun _ e => e.elim)⟩
end Go.Proofs.Ytiegofelidnnlaa
