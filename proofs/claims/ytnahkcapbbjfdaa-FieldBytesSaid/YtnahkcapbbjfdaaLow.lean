/-
  Eight columns of 32 bits as four digits.
-/
import Derived.Test.YtnahkcapbbjfdaaSettle
namespace Go.Proofs.Ytnahkcapbbjfdaa
open Go.RowKit
set_option linter.unusedVariables false

theorem wraps64 : ∀ n : Int, 0 ≤ n → n < 2 ^ 64 → IntKind.u64.wrap n = n := by
  intro n h0 h1
  rw [IntKind.wrap_u64]
  omega

theorem or_low {x : Int} (h0 : 0 ≤ x) (h1 : x < 4294967296) : bits .or .u64 0 x = x := by
  rw [bits_join .u64 64 (by decide) wraps64 32 0 x (by omega) (by decide) (by decide) h0 (by omega) (by omega)]
  omega
theorem or_high {a x : Int} (ha0 : 0 ≤ a) (ha1 : a < 4294967296) (h0 : 0 ≤ x) (h1 : x < 4294967296) : bits .or .u64 a (x * 4294967296) = a + x * 4294967296 := by
  have hc : bits .or .u64 a (x * 4294967296) = bits .or .u64 (x * 4294967296) a := by simp only [bits, BitVec.or_comm]
  rw [hc, bits_join .u64 64 (by decide) wraps64 32 (x * 4294967296) a (by omega) (by omega) (by omega) ha0 (by omega) (by omega)]
  omega

/-- The digits, after i columns. -/
def lowd (c : Nat → Int) (i : Nat) : Nat → Int := fun j => (if 2 * j < i then c (2 * j) else 0) + (if 2 * j + 1 < i then c (2 * j + 1) else 0) * 4294967296

set_option maxRecDepth 100000 in
set_option maxHeartbeats 4000000 in
theorem low_any (b : Nat) (c : Nat → Int) (w : World) (ha : Ar w b (arr .i64 16 c)) (hc : ∀ j, j < 8 → 0 ≤ c j ∧ c j < 4294967296) :
    Calls Try.prog 80 #[.pointer (some ⟨b, 0, none⟩)] w fun r w' => r = .returned (.agg (arr .u64 4 (lowd c 8))) ∧ Chg w w' := by
  have hbl := ha.lt
  have HN : Hid (b < w.heap.size) := hbl
  have HA : Hid (Ar w b (arr .i64 16 c)) := ha
  have HCb : Hid (∀ j, j < 8 → 0 ≤ c j ∧ c j < 4294967296) := hc
  clear ha hc hbl
  go_enter Try.func80, Try.ntmps80
  go_wp2_with fail
  have z1 : Hid (Ar ((w.alloc (.cells #[.int .u64 0, .int .u64 0, .int .u64 0, .int .u64 0] 25)).alloc (.cells #[.int .u64 0, .int .u64 0, .int .u64 0, .int .u64 0] 25)) w.heap.size (arr .u64 4 fun _ => 0)) := (Ar.new _ _ _).alloc _
  have z2 : Hid (Ar ((w.alloc (.cells #[.int .u64 0, .int .u64 0, .int .u64 0, .int .u64 0] 25)).alloc (.cells #[.int .u64 0, .int .u64 0, .int .u64 0, .int .u64 0] 25)) (w.heap.size + 1) (arr .u64 4 (lowd c 0))) := by
    have e : arr .u64 4 (lowd c 0) = arr .u64 4 fun _ => 0 := arr_congr fun i _ => by simp [lowd]
    show Ar _ _ _
    rw [e]
    exact Ar.new1 _ _ _ _
  go_loopw [5] (fun v wr => ∃ (i : Nat), v = .int .i64 i ∧ i ≤ 8 ∧ Chg w wr ∧ Ar wr b (arr .i64 16 c) ∧ Ar wr w.heap.size (arr .u64 4 fun _ => 0) ∧ Ar wr (w.heap.size + 1) (arr .u64 4 (lowd c i))) (fun v wr => 8 - (intOf v).toNat)
  case atStart => exact ⟨0, rfl, by omega, ((Chg.refl w).alloc _).alloc _, (HA.out.alloc _).alloc _, z1.out, z2.out⟩
  case round =>
    clear z1 z2 HA
    obtain ⟨i, rfl, hi, hch, ha, hr, hl⟩ := hrel
    have HC : Hid (Chg w wr) := hch
    have HA : Hid (Ar wr b (arr .i64 16 c)) := ha
    have HR : Hid (Ar wr w.heap.size (arr .u64 4 fun _ => 0)) := hr
    have HL : Hid (Ar wr (w.heap.size + 1) (arr .u64 4 (lowd c i))) := hl
    by_cases hi8 : i < 8
    · obtain ⟨x, hx⟩ : ∃ x, x = c i := ⟨_, rfl⟩
      have bx := HCb.out i hi8
      rw [← hx] at bx
      have hwx : IntKind.u64.wrap x = x := by rw [IntKind.wrap_u64]; omega
      have c0 := (ha.cell i).trans (arr_get .i64 16 c (i := i) (by omega))
      rw [← hx] at c0
      rcases Nat.mod_two_eq_zero_or_one i with he | he
      · obtain ⟨m, hm⟩ : ∃ m : Nat, i = 2 * m := ⟨i / 2, by omega⟩
        subst hm
        have c1 := (hl.cell m).trans (arr_get .u64 4 (lowd c (2 * m)) (i := m) (by omega))
        have hz : lowd c (2 * m) m = 0 := by
          have n1 : ¬ 2 * m + 1 < 2 * m := by omega
          simp [lowd, n1]
        rw [hz] at c1
        have f1 := hl.frozen m
        have hm4 : (m : Int) < 4 := by omega
        have hm0 : (0 : Int) ≤ m := by omega
        have hmw := wrap_i (x := (m : Int)) (by omega) (by omega)
        have hm16 : (2 * (m : Int)) < 16 := by omega
        have hor := or_low bx.1 bx.2
        have HX : Hid (x = c (2 * m)) := hx
        clear hch ha hr hl hx he hz
        go_wp2_with fail
        go_region_with (fail)
        all_goals go_wp2
        all_goals
          have hn := HN.out
          go_roundw
          case rel =>
            refine ⟨2 * m + 1, by go_num, by omega, (HC.out.setCell (by dsimp only; omega) _).drew, (HA.out.other (by dsimp only; omega) _).drew, (HR.out.other (by dsimp only; omega) _).drew, ?_⟩
            have h := HL.out.set m (.int .u64 x)
            rw [arr_set] at h
            have e : arr .u64 4 (upd (lowd c (2 * m)) m x) = arr .u64 4 (lowd c (2 * m + 1)) := arr_congr fun j _ => by
              by_cases hj : j = m
              · subst hj
                rw [upd_same, HX.out]
                simp [lowd]
              · rw [upd_ne _ _ hj]
                have e1 : (2 * j < 2 * m) ↔ (2 * j < 2 * m + 1) := by omega
                have e2 : (2 * j + 1 < 2 * m) ↔ (2 * j + 1 < 2 * m + 1) := by omega
                simp only [lowd, e1, e2]
            rw [e] at h
            exact h
          case measure => simp [intOf]; omega
      · obtain ⟨m, hm⟩ : ∃ m : Nat, i = 2 * m + 1 := ⟨i / 2, by omega⟩
        subst hm
        have c1 := (hl.cell m).trans (arr_get .u64 4 (lowd c (2 * m + 1)) (i := m) (by omega))
        have hz : lowd c (2 * m + 1) m = c (2 * m) := by simp [lowd]
        rw [hz] at c1
        obtain ⟨y, hy⟩ : ∃ y, y = c (2 * m) := ⟨_, rfl⟩
        rw [← hy] at c1
        have by' := HCb.out (2 * m) (by omega)
        rw [← hy] at by'
        have f1 := hl.frozen m
        have hm4 : (m : Int) < 4 := by omega
        have hm0 : (0 : Int) ≤ m := by omega
        have hmw := wrap_i (x := (m : Int)) (by omega) (by omega)
        have hm16 : (2 * (m : Int) + 1) < 16 := by omega
        have hq1 : (2 * (m : Int) + 1).tdiv 2 = m := by rw [Int.tdiv_eq_ediv_of_nonneg (by omega)]; omega
        have hr1 : (2 * (m : Int) + 1).tmod 2 = 1 := by rw [Int.tmod_eq_emod_of_nonneg (by omega)]; omega
        have hor := or_high by'.1 by'.2 bx.1 bx.2
        have hsw : IntKind.u64.wrap (x * 4294967296) = x * 4294967296 := by rw [IntKind.wrap_u64]; omega
        have HX : Hid (x = c (2 * m + 1) ∧ y = c (2 * m)) := ⟨hx, hy⟩
        clear hch ha hr hl hx he hz hy
        go_wp2_with fail
        go_region_with (fail)
        all_goals go_wp2
        all_goals
          have hn := HN.out
          go_roundw
          case rel =>
            refine ⟨2 * m + 1 + 1, by go_num, by omega, (HC.out.setCell (by dsimp only; omega) _).drew, (HA.out.other (by dsimp only; omega) _).drew, (HR.out.other (by dsimp only; omega) _).drew, ?_⟩
            have h := HL.out.set m (.int .u64 (y + x * 4294967296))
            rw [arr_set] at h
            have e : arr .u64 4 (upd (lowd c (2 * m + 1)) m (y + x * 4294967296)) = arr .u64 4 (lowd c (2 * m + 1 + 1)) := arr_congr fun j _ => by
              by_cases hj : j = m
              · subst hj
                rw [upd_same, HX.out.1, HX.out.2]
                have n1 : 2 * j < 2 * j + 1 + 1 := by omega
                simp [lowd, n1]
              · rw [upd_ne _ _ hj]
                have e1 : (2 * j < 2 * m + 1) ↔ (2 * j < 2 * m + 1 + 1) := by omega
                have e2 : (2 * j + 1 < 2 * m + 1) ↔ (2 * j + 1 < 2 * m + 1 + 1) := by omega
                simp only [lowd, e1, e2]
            rw [e] at h
            exact h
          case measure => simp [intOf]; omega
    · have hi8' : i = 8 := by omega
      subst hi8'
      obtain ⟨a0, a1, a2, a3⟩ := hl.four
      obtain ⟨b0, b1, b2, b3⟩ := hr.four
      obtain ⟨f0, f1, f2, f3⟩ := hr.free4
      clear hch ha hr hl
      go_wp2
      refine bp_c (n := 4) (c := arr .u64 4 (lowd c 8)) Try.results80 rfl rfl ?_ Ytnahkcapbbjfdaa.u25 i25 (arr_size _ _ _) ⟨rfl, ?_⟩
      · exact (((HR.out.set 0 _).set 1 _).set 2 _).set 3 _
      · exact (((HC.out.setCell (by dsimp only; omega) _).setCell (by dsimp only; omega) _).setCell (by dsimp only; omega) _).setCell (by dsimp only; omega) _

theorem low_num (b : Nat) (c : Nat → Int) (w : World) (ha : Ar w b (arr .i64 16 c)) (hc : ∀ j, j < 8 → 0 ≤ c j ∧ c j < 4294967296) :
    Calls Try.prog 80 #[.pointer (some ⟨b, 0, none⟩)] w fun r w' => r = .returned (.agg (num (val B32 8 c))) ∧ Chg w w' := by
  refine (low_any b c w ha hc).mono ?_
  rintro r w' ⟨rfl, hch⟩
  have h0 := hc 0 (by omega)
  have h1 := hc 1 (by omega)
  have h2 := hc 2 (by omega)
  have h3 := hc 3 (by omega)
  have h4 := hc 4 (by omega)
  have h5 := hc 5 (by omega)
  have h6 := hc 6 (by omega)
  have h7 := hc 7 (by omega)
  have e : val B32 8 c = val B64 4 (lowd c 8) := by
    simp [val, lowd, B32, B64]
    omega
  have hw : ∀ i, i < 4 → 0 ≤ lowd c 8 i ∧ lowd c 8 i < B64 := by
    intro i hi
    have : i = 0 ∨ i = 1 ∨ i = 2 ∨ i = 3 := by omega
    rcases this with rfl | rfl | rfl | rfl <;> simp [lowd, B64] <;> omega
  have hb := val_bound B64_pos hw
  rw [p4] at hb
  refine ⟨?_, hch⟩
  rw [e]
  congr 2
  exact arr_congr (val_inj B64_pos hw (fun i _ => dg_w _ i) (by rw [val4 _ hb.1 hb.2]))
end Go.Proofs.Ytnahkcapbbjfdaa
