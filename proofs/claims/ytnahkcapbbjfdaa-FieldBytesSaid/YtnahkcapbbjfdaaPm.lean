/-
  Sums and differences of numbers of four digits, as the program makes them.
-/
import Derived.Test.YtnahkcapbbjfdaaBase
namespace Go.Proofs.Ytnahkcapbbjfdaa
open Go.RowKit
set_option linter.unusedVariables false

set_option maxHeartbeats 400000 in
theorem plus_any (d e : Nat → Int) (w : World) (hd : ∀ i, W64 (d i)) (he : ∀ i, W64 (e i)) :
    Calls Try.prog 40 #[.agg (arr .u64 4 d), .agg (arr .u64 4 e)] w fun r w' => ∃ s o, r = .returned (.tuple #[.agg (arr .u64 4 s), .int .u64 o]) ∧ Chg w w' ∧ (∀ i, W64 (s i)) ∧ 0 ≤ o ∧ o ≤ 1 ∧ val B64 4 s + o * B64 ^ 4 = val B64 4 d + val B64 4 e := by
  go_enter Try.func40, Try.ntmps40
  go_wp2_with fail
  go_loopw [6, 8] (fun ov i wr => ∃ (k : Nat) (o : Int) (s : Nat → Int), i = .int .i64 k ∧ k ≤ 4 ∧ ov = .int .u64 o ∧ 0 ≤ o ∧ o ≤ 1 ∧ Ar wr w.heap.size (arr .u64 4 s) ∧ Ar wr (w.heap.size + 1) (arr .u64 4 e) ∧ Ar wr (w.heap.size + 1 + 1) (arr .u64 4 fun _ => 0) ∧ Chg w wr ∧ (∀ j, W64 (s j)) ∧ (∀ j, k ≤ j → s j = d j) ∧ val B64 k s + o * B64 ^ k = val B64 k d + val B64 k e) (fun ov i wr => 4 - (intOf i).toNat)
  case atStart =>
    refine ⟨0, 0, d, rfl, by omega, rfl, by omega, by omega, ((Ar.new _ _ _).alloc _).alloc _, ?_, ?_, (((Chg.refl w).alloc _).alloc _).alloc _, hd, fun _ _ => rfl, by simp [val]⟩
    · have := ((Ar.new (w.alloc (.cells (arr .u64 4 d) 25)) (arr .u64 4 e) 25)).alloc (.cells (arr .u64 4 fun _ => 0) 25)
      rw [World.size_alloc] at this; exact this
    · have := ((Ar.new ((w.alloc (.cells (arr .u64 4 d) 25)).alloc (.cells (arr .u64 4 e) 25)) (arr .u64 4 fun _ => 0) 25))
      rw [World.size_alloc, World.size_alloc] at this; exact this
  case round =>
    obtain ⟨k, o, s, rfl, hk, rfl, ho0, ho1, h1, h2, h3, hc, hs, hsd, hv⟩ := hrel
    have HS : Hid (∀ j, W64 (s j)) := hs
    have HV : Hid ((∀ j, k ≤ j → s j = d j) ∧ val B64 k s + o * B64 ^ k = val B64 k d + val B64 k e) := ⟨hsd, hv⟩
    have H1 : Hid (Ar wr w.heap.size (arr .u64 4 s)) := h1
    have H2 : Hid (Ar wr (w.heap.size + 1) (arr .u64 4 e)) := h2
    have H3 : Hid (Ar wr (w.heap.size + 1 + 1) (arr .u64 4 fun _ => 0)) := h3
    have HC : Hid (Chg w wr) := hc
    clear hs hsd hv hc
    by_cases hk4 : k < 4
    · have c1 := (h1.cell k).trans (arr_get .u64 4 s hk4)
      have c2 := (h2.cell k).trans (arr_get .u64 4 e hk4)
      have f1 := h1.frozen k
      obtain ⟨x, hx⟩ : ∃ x, x = s k := ⟨_, rfl⟩
      obtain ⟨y, hy⟩ : ∃ x, x = e k := ⟨_, rfl⟩
      rw [← hx] at c1
      rw [← hy] at c2
      have hadd := run_add64 x y o (by rw [hx]; exact (HS.out k).1) (by rw [hy]; exact (he k).1) ho0 ho1
      have HX : Hid (x = s k ∧ y = e k) := ⟨hx, hy⟩
      clear h1 h2 h3 hx hy
      go_wp2_with fail
      go_region_with (fail)
      all_goals go_wp2
      all_goals
        obtain ⟨hx, hy⟩ := HX.out
        obtain ⟨hsd, hv⟩ := HV.out
        have hxw := HS.out k
        have hyw := he k
        rw [← hx] at hxw
        rw [← hy] at hyw
        unfold W64 at hxw hyw
        go_roundw
        case rel =>
          refine ⟨k + 1, _, upd s k ((x + y + o) % 18446744073709551616), by go_num, by omega, rfl, by omega, by omega, ?_, (H2.out.other (by dsimp only; omega) _).drew, (H3.out.other (by dsimp only; omega) _).drew, (HC.out.setCell (by dsimp only; omega) _).drew, upd_w HS.out k ⟨by omega, by omega⟩, fun j hj => ?_, ?_⟩
          · have := H1.out.set k (.int .u64 ((x + y + o) % 18446744073709551616))
            rw [arr_set] at this
            exact this
          · rw [upd_ne s _ (by omega)]; exact hsd j (by omega)
          · refine val_step hv ?_
            rw [← hsd k (Nat.le_refl _), ← hx, ← hy]
            unfold B64
            omega
        case measure => simp [intOf]; omega
    · obtain ⟨a0, a1, a2, a3⟩ := h1.four
      obtain ⟨b0, b1, b2, b3⟩ := h3.four
      obtain ⟨f0, f1, f2, f3⟩ := h3.free4
      clear h1 h2 h3
      have hk4 : k = 4 := by omega
      subst hk4
      go_wp2
      refine bp_ct (n := 4) Try.results40 rfl rfl rfl (H3.out.put4 _ _ _ _ s rfl rfl rfl rfl) u25 i25 (arr_size _ _ _) ⟨s, o, rfl, ?_, HS.out, ho0, ho1, HV.out.2⟩
      exact (((HC.out.setCell (by dsimp only; omega) _).setCell (by dsimp only; omega) _).setCell (by dsimp only; omega) _).setCell (by dsimp only; omega) _
set_option maxHeartbeats 400000 in
theorem minus_any (d e : Nat → Int) (w : World) (hd : ∀ i, W64 (d i)) (he : ∀ i, W64 (e i)) :
    Calls Try.prog 42 #[.agg (arr .u64 4 d), .agg (arr .u64 4 e)] w fun r w' => ∃ s o, r = .returned (.tuple #[.agg (arr .u64 4 s), .int .u64 o]) ∧ Chg w w' ∧ (∀ i, W64 (s i)) ∧ 0 ≤ o ∧ o ≤ 1 ∧ val B64 4 s - o * B64 ^ 4 = val B64 4 d - val B64 4 e := by
  go_enter Try.func42, Try.ntmps42
  go_wp2_with fail
  go_loopw [6, 8] (fun ov i wr => ∃ (k : Nat) (o : Int) (s : Nat → Int), i = .int .i64 k ∧ k ≤ 4 ∧ ov = .int .u64 o ∧ 0 ≤ o ∧ o ≤ 1 ∧ Ar wr w.heap.size (arr .u64 4 s) ∧ Ar wr (w.heap.size + 1) (arr .u64 4 e) ∧ Ar wr (w.heap.size + 1 + 1) (arr .u64 4 fun _ => 0) ∧ Chg w wr ∧ (∀ j, W64 (s j)) ∧ (∀ j, k ≤ j → s j = d j) ∧ val B64 k s - o * B64 ^ k = val B64 k d - val B64 k e) (fun ov i wr => 4 - (intOf i).toNat)
  case atStart =>
    refine ⟨0, 0, d, rfl, by omega, rfl, by omega, by omega, ((Ar.new _ _ _).alloc _).alloc _, ?_, ?_, (((Chg.refl w).alloc _).alloc _).alloc _, hd, fun _ _ => rfl, by simp [val]⟩
    · have := ((Ar.new (w.alloc (.cells (arr .u64 4 d) 25)) (arr .u64 4 e) 25)).alloc (.cells (arr .u64 4 fun _ => 0) 25)
      rw [World.size_alloc] at this; exact this
    · have := ((Ar.new ((w.alloc (.cells (arr .u64 4 d) 25)).alloc (.cells (arr .u64 4 e) 25)) (arr .u64 4 fun _ => 0) 25))
      rw [World.size_alloc, World.size_alloc] at this; exact this
  case round =>
    obtain ⟨k, o, s, rfl, hk, rfl, ho0, ho1, h1, h2, h3, hc, hs, hsd, hv⟩ := hrel
    have HS : Hid (∀ j, W64 (s j)) := hs
    have HV : Hid ((∀ j, k ≤ j → s j = d j) ∧ val B64 k s - o * B64 ^ k = val B64 k d - val B64 k e) := ⟨hsd, hv⟩
    have H1 : Hid (Ar wr w.heap.size (arr .u64 4 s)) := h1
    have H2 : Hid (Ar wr (w.heap.size + 1) (arr .u64 4 e)) := h2
    have H3 : Hid (Ar wr (w.heap.size + 1 + 1) (arr .u64 4 fun _ => 0)) := h3
    have HC : Hid (Chg w wr) := hc
    clear hs hsd hv hc
    by_cases hk4 : k < 4
    · have c1 := (h1.cell k).trans (arr_get .u64 4 s hk4)
      have c2 := (h2.cell k).trans (arr_get .u64 4 e hk4)
      have f1 := h1.frozen k
      obtain ⟨x, hx⟩ : ∃ x, x = s k := ⟨_, rfl⟩
      obtain ⟨y, hy⟩ : ∃ x, x = e k := ⟨_, rfl⟩
      rw [← hx] at c1
      rw [← hy] at c2
      have hsub := run_sub64 x y o (by rw [hx]; exact (HS.out k).1) (by rw [hy]; exact (he k).1) (by rw [hy]; exact (he k).2) ho0 ho1
      have HX : Hid (x = s k ∧ y = e k) := ⟨hx, hy⟩
      clear h1 h2 h3 hx hy
      go_wp2_with fail
      go_region_with (fail)
      all_goals go_wp2
      all_goals
        obtain ⟨hx, hy⟩ := HX.out
        obtain ⟨hsd, hv⟩ := HV.out
        have hxw := HS.out k
        have hyw := he k
        rw [← hx] at hxw
        rw [← hy] at hyw
        unfold W64 at hxw hyw
        have hb := bor_le x (y + o)
        go_roundw
        case rel =>
          refine ⟨k + 1, _, upd s k ((x - y - o) % 18446744073709551616), by go_num, by omega, rfl, by omega, by omega, ?_, (H2.out.other (by dsimp only; omega) _).drew, (H3.out.other (by dsimp only; omega) _).drew, (HC.out.setCell (by dsimp only; omega) _).drew, upd_w HS.out k ⟨by omega, by omega⟩, fun j hj => ?_, ?_⟩
          · have := H1.out.set k (.int .u64 ((x - y - o) % 18446744073709551616))
            rw [arr_set] at this
            exact this
          · rw [upd_ne s _ (by omega)]; exact hsd j (by omega)
          · refine val_step' hv ?_
            rw [← hsd k (Nat.le_refl _), ← hx, ← hy]
            unfold B64 bor
            split <;> omega
        case measure => simp [intOf]; omega
    · obtain ⟨a0, a1, a2, a3⟩ := h1.four
      obtain ⟨b0, b1, b2, b3⟩ := h3.four
      obtain ⟨f0, f1, f2, f3⟩ := h3.free4
      clear h1 h2 h3
      have hk4 : k = 4 := by omega
      subst hk4
      go_wp2
      refine bp_ct (n := 4) Try.results42 rfl rfl rfl (H3.out.put4 _ _ _ _ s rfl rfl rfl rfl) u25 i25 (arr_size _ _ _) ⟨s, o, rfl, ?_, HS.out, ho0, ho1, HV.out.2⟩
      exact (((HC.out.setCell (by dsimp only; omega) _).setCell (by dsimp only; omega) _).setCell (by dsimp only; omega) _).setCell (by dsimp only; omega) _
end Go.Proofs.Ytnahkcapbbjfdaa
