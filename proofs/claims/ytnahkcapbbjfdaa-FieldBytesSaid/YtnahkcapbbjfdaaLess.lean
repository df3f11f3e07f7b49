/-
  Which of two numbers is less, as the program tells it.
-/
import Derived.Test.YtnahkcapbbjfdaaBase
namespace Go.Proofs.Ytnahkcapbbjfdaa
open Go.RowKit
set_option linter.unusedVariables false

theorem ret_bool {a b : Bool} (h : a = b) : Ending.returned (.bool a) = .returned (.bool b) := by rw [h]

set_option maxHeartbeats 1000000 in
theorem below_any (d e : Nat → Int) (w : World) (hd : ∀ i, W64 (d i)) (he : ∀ i, W64 (e i)) :
    Calls Try.prog 54 #[.agg (arr .u64 4 d), .agg (arr .u64 4 e)] w fun r w' => r = .returned (.bool (decide (val B64 4 d < val B64 4 e))) ∧ Chg w w' := by
  have a1 : Ar ((w.alloc (.cells (arr .u64 4 d) 25)).alloc (.cells (arr .u64 4 e) 25)) w.heap.size (arr .u64 4 d) := (Ar.new _ _ _).alloc _
  have a2 : Ar ((w.alloc (.cells (arr .u64 4 d) 25)).alloc (.cells (arr .u64 4 e) 25)) (w.heap.size + 1) (arr .u64 4 e) := by
    have := Ar.new (w.alloc (.cells (arr .u64 4 d) 25)) (arr .u64 4 e) 25
    rw [World.size_alloc] at this
    exact this
  have hc : Chg w ((w.alloc (.cells (arr .u64 4 d) 25)).alloc (.cells (arr .u64 4 e) 25)) := ((Chg.refl w).alloc _).alloc _
  go_enter Try.func54, Try.ntmps54
  go_wp2_with fail
  generalize (w.alloc (.cells (arr .u64 4 d) 25)).alloc (.cells (arr .u64 4 e) 25) = W at *
  go_loopw [8] (fun i wr => ∃ (k : Nat), i = .int .i64 k ∧ k ≤ 4 ∧ Ar wr w.heap.size (arr .u64 4 d) ∧ Ar wr (w.heap.size + 1) (arr .u64 4 e) ∧ Chg w wr ∧ ∀ j, 4 ≤ k + j → j < 4 → d j = e j) (fun i wr => 4 - (intOf i).toNat)
  case atStart => exact ⟨0, rfl, by omega, a1, a2, hc, fun j h1 h2 => by omega⟩
  case round =>
    clear a1 a2 hc
    obtain ⟨k, rfl, hk, h1, h2, hc, hv⟩ := hrel
    have HC : Hid (Chg w wr) := hc
    have HV : Hid (∀ j, 4 ≤ k + j → j < 4 → d j = e j) := hv
    have H1 : Hid (Ar wr w.heap.size (arr .u64 4 d)) := h1
    have H2 : Hid (Ar wr (w.heap.size + 1) (arr .u64 4 e)) := h2
    clear hv hc
    by_cases hk4 : k < 4
    · obtain ⟨q, hq⟩ : ∃ q : Nat, (3 : Int) - k = q := ⟨3 - k, by omega⟩
      have hq4 : q < 4 := by omega
      have c1 := (h1.cell q).trans (arr_get .u64 4 d hq4)
      have c2 := (h2.cell q).trans (arr_get .u64 4 e hq4)
      obtain ⟨x, hx⟩ : ∃ x, x = d q := ⟨_, rfl⟩
      obtain ⟨y, hy⟩ : ∃ x, x = e q := ⟨_, rfl⟩
      rw [← hx] at c1
      rw [← hy] at c2
      have HX : Hid (x = d q ∧ y = e q) := ⟨hx, hy⟩
      clear h1 h2 hx hy
      have hqw : IntKind.i64.wrap (q : Int) = q := by rw [IntKind.wrap_i64]; omega
      by_cases hne : x = y
      · subst hne
        go_wp2_with fail
        go_region_with (fail)
        all_goals go_wp2
        all_goals
          obtain ⟨hx, hy⟩ := HX.out
          go_roundw
          case rel =>
            refine ⟨k + 1, by go_num, by omega, H1.out, H2.out, HC.out.drew, fun j h1 h2 => ?_⟩
            by_cases hj : j = q
            · rw [hj, ← hx, ← hy]
            · exact HV.out j (by omega) h2
          case measure => simp [intOf]; omega
      · go_wp2_with fail
        go_region_with (fail)
        all_goals go_wp2
        all_goals
          obtain ⟨hx, hy⟩ := HX.out
          go_ret
          refine ⟨ret_bool ?_, HC.out.drew⟩
          by_cases hxy : x < y
          · have := val_lt (B := B64) (n := 4) (by decide) (fun i _ => hd i) (fun i _ => he i) hq4 (fun j h1 h2 => HV.out j (by omega) h2) (by rw [← hx, ← hy]; exact hxy)
            simp [hxy, this]
          · have := val_lt (B := B64) (n := 4) (by decide) (fun i _ => he i) (fun i _ => hd i) hq4 (fun j h1 h2 => (HV.out j (by omega) h2).symm) (by rw [← hx, ← hy]; omega)
            have : ¬ val B64 4 d < val B64 4 e := by omega
            simp [hxy, this]
    · clear h1 h2
      go_wp2
      go_ret
      refine ⟨ret_bool ?_, HC.out⟩
      have : val B64 4 d = val B64 4 e := val_congr fun j hj => HV.out j (by omega) hj
      simp [this]
end Go.Proofs.Ytnahkcapbbjfdaa
