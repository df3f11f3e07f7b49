/-
  What ends the bytes: the function ending.
-/
import Derived.Test.YtijpdhjlafihkaaDoorTj09
namespace Go.Proofs.YtijpdhjlafihkaaDoor
open Go.RowKit
set_option linter.unusedVariables false
set_option maxRecDepth 100000

/-- How many bytes end the bytes, of which some are left over. -/
def endN (q : Int) (r : Nat) : Nat := 1 + (2 * blockOf q - r - 1 - blockOf q / 8) % blockOf q + blockOf q / 8
def endUp (T : Nat) (c : Int) (i : Nat) : Nat → Int := fun j => if j = 0 then 128 else if T - i ≤ j then IntKind.u8.wrap (IntKind.u64.wrap (c * 8) / 2 ^ (8 * (T - 1 - j))) else 0
def endB (T : Nat) (c : Int) : Nat → Int := endUp T c 8

set_option maxRecDepth 100000 in
set_option maxHeartbeats 4000000 in
theorem ending_any (D : Nat) (q : Int) (st rest : Nat → Int) (r : Nat) (c : Int) (w : World) (hv : Valid q) (hd : Ar w D (dig q st rest (r : Int) c)) (hr : r < blockOf q) :
    Calls Tryd.prog 52 #[.pointer (some ⟨D, 0, none⟩)] w fun e w' => e = .returned (.slice (some ⟨w.heap.size, 0, none⟩) (endN q r) (endN q r)) ∧ Chg w w' ∧ Ar w' w.heap.size (arr .u8 (endN q r) (endB (endN q r) c)) := by
  obtain ⟨B, hB⟩ : ∃ B, B = blockOf q := ⟨_, rfl⟩
  have HB : Hid (∀ u, Calls Tryd.prog 50 #[.int .i64 q] u fun r w' => r = .returned (.int .i64 B) ∧ w' = u) := by
    intro u
    rw [hB]
    exact block_any q u
  have hBp : (B = 64 ∨ B = 128) := by
    rw [hB]
    rcases hv.block with ⟨e, _⟩ | ⟨e, _⟩
    · exact .inl e
    · exact .inr e
  rw [← hB] at hr
  obtain ⟨l, hl⟩ : ∃ l : Nat, l = B / 8 := ⟨_, rfl⟩
  have hq1 : (B : Int).tdiv 8 = l := by rw [Int.tdiv_eq_ediv_of_nonneg (by omega), hl]; rfl
  obtain ⟨m2, hm2⟩ : ∃ m : Nat, 2 * (B : Int) = m := ⟨2 * B, by omega⟩
  obtain ⟨m3, hm3⟩ : ∃ m : Nat, (m2 : Int) - r = m := ⟨m2 - r, by omega⟩
  obtain ⟨m4, hm4⟩ : ∃ m : Nat, (m3 : Int) - 1 = m := ⟨m3 - 1, by omega⟩
  obtain ⟨m5, hm5⟩ : ∃ m : Nat, (m4 : Int) - l = m := ⟨m4 - l, by omega⟩
  obtain ⟨g, hg⟩ : ∃ g : Nat, g = m5 % B := ⟨_, rfl⟩
  have hgB : g < B := by rw [hg]; exact Nat.mod_lt _ (by omega)
  have hq2 : (m5 : Int).tmod B = g := by rw [Int.tmod_eq_emod_of_nonneg (by omega), hg]; rfl
  obtain ⟨g1, hg1⟩ : ∃ m : Nat, 1 + (g : Int) = m := ⟨1 + g, by omega⟩
  obtain ⟨T, hT⟩ : ∃ m : Nat, (g1 : Int) + l = m := ⟨g1 + l, by omega⟩
  have hTe : endN q r = T := by
    unfold endN
    rw [← hB, ← hl]
    have : 2 * B - r - 1 - l = m5 := by omega
    rw [this, ← hg]
    omega
  rw [hTe]
  have wl := wrap_i (x := (l : Int)) (by omega) (by omega)
  have w2 := wrap_i (x := (m2 : Int)) (by omega) (by omega)
  have w3 := wrap_i (x := (m3 : Int)) (by omega) (by omega)
  have w4 := wrap_i (x := (m4 : Int)) (by omega) (by omega)
  have w5 := wrap_i (x := (m5 : Int)) (by omega) (by omega)
  have wg := wrap_i (x := (g : Int)) (by omega) (by omega)
  have wg1 := wrap_i (x := (g1 : Int)) (by omega) (by omega)
  have wT := wrap_i (x := (T : Int)) (by omega) (by omega)
  have hB0 : ¬ (B : Int) = 0 := by omega
  have hTb : 9 ≤ T ∧ T ≤ 200 := by omega
  have hT0 : (0 : Int) < T := by omega
  have hmk := mk8 T (by omega)
  have n0 := ((Ar.new w (arr .u8 T fun _ => 0) 5).cell 0).trans (arr_get .u8 T (fun _ => 0) (by omega))
  have n1 := (Ar.new w (arr .u8 T fun _ => 0) 5).frozen 0
  have c0 := (hd.cell 0).trans (dig_hash _ _ _ _ _)
  have c7 := (hd.cell 137).trans (dig_held _ _ _ _ _)
  have HD : Hid (Ar w D (dig q st rest (r : Int) c) ∧ D < w.heap.size) := ⟨hd, hd.lt⟩
  clear hTe hB hl hg hd hv hBp hr
  go_enter Tryd.func52, Tryd.ntmps52
  go_wp2_with (first | (go_at_call 50; (refine (HB.out _).mono ?_; rintro r' w1 ⟨rfl, hw1⟩; rw [hw1])))
  obtain ⟨w9, hw9⟩ : ∃ w9, w9 = w.alloc (.cells ((arr .u8 T fun _ => 0).setIfInBounds 0 (.int .u8 128)) 5) := ⟨_, rfl⟩
  rw [← hw9]
  have z0 : Hid (Chg w w9 ∧ Ar w9 w.heap.size (arr .u8 T (endUp T c 0))) := by
    rw [hw9, arr_set]
    refine ⟨(Chg.refl w).alloc _, ?_⟩
    have e : arr .u8 T (upd (fun _ => 0) 0 128) = arr .u8 T (endUp T c 0) := arr_congr fun j hj => by
      unfold upd endUp
      by_cases h0 : j = 0
      · simp [h0]
      · have h1 : ¬ T - 0 ≤ j := by omega
        simp only [h0, h1, if_false]
    rw [e]
    exact Ar.new w _ _
  clear hw9 hmk n0 n1 c0 c7
  go_loopw [34] (fun v wr => ∃ (i : Nat), v = .int .i64 i ∧ i ≤ 8 ∧ Chg w wr ∧ Ar wr w.heap.size (arr .u8 T (endUp T c i))) (fun v wr => 8 - (intOf v).toNat)
  case atStart => exact ⟨0, rfl, by omega, z0.out.1, z0.out.2⟩
  case round =>
    clear z0
    obtain ⟨i, rfl, hi, hch, h1⟩ := hrel
    have HC : Hid (Chg w wr) := hch
    have H1 : Hid (Ar wr w.heap.size (arr .u8 T (endUp T c i))) := h1
    by_cases hi8 : i < 8
    · have hid : decide ((i : Int) < 8) = true := by simp; omega
      obtain ⟨t1, ht1⟩ : ∃ m : Nat, (T : Int) - 1 = m := ⟨T - 1, by omega⟩
      obtain ⟨j, hj⟩ : ∃ m : Nat, (t1 : Int) - i = m := ⟨t1 - i, by omega⟩
      obtain ⟨s, hs⟩ : ∃ m : Nat, 8 * (i : Int) = m := ⟨8 * i, by omega⟩
      have wt1 := wrap_i (x := (t1 : Int)) (by omega) (by omega)
      have wj := wrap_i (x := (j : Int)) (by omega) (by omega)
      have ws := wrap_i (x := (s : Int)) (by omega) (by omega)
      have ls : (s : Int) ≤ 64 := by omega
      have lj : (j : Int) < T := by omega
      have c8 := ((HD.out.1.chg hch).cell 138).trans (dig_count _ _ _ _ _)
      have c1 := (h1.cell j).trans (arr_get .u8 T (endUp T c i) (i := j) (by omega))
      obtain ⟨y0, hy0⟩ : ∃ x, x = endUp T c i j := ⟨_, rfl⟩
      rw [← hy0] at c1
      have f1 := h1.frozen j
      clear hy0 hch h1
      go_wp2
      go_roundw
      case rel =>
        have hDl := HD.out.2
        refine ⟨i + 1, by go_num, by omega, HC.out.setCell (by dsimp only; omega) _, ?_⟩
        have hh := H1.out.set j (.int .u8 (IntKind.u8.wrap (IntKind.u64.wrap (c * 8) / 2 ^ s)))
        rw [arr_set] at hh
        have e : arr .u8 T (upd (endUp T c i) j (IntKind.u8.wrap (IntKind.u64.wrap (c * 8) / 2 ^ s))) = arr .u8 T (endUp T c (i + 1)) := arr_congr fun k hk => by
          unfold upd endUp
          by_cases hkj : k = j
          · have e0 : ¬ j = 0 := by omega
            have e1 : T - (i + 1) ≤ j := by omega
            have e2 : 8 * (T - 1 - j) = s := by omega
            simp only [hkj, e0, e1, e2, if_true, if_false]
          · have e1 : (T - (i + 1) ≤ k) ↔ (T - i ≤ k) := by omega
            simp only [hkj, e1, if_false]
        rw [e] at hh
        simp only [IntKind.wrap_u8, IntKind.wrap_u64] at hh ⊢
        exact hh
      case measure => simp [intOf]; omega
    · have hid : decide ((i : Int) < 8) = false := by simp; omega
      have hi8' : i = 8 := by omega
      have H1' : Hid (Ar wr w.heap.size (arr .u8 T (endUp T c 8))) := by
        have := h1
        rw [hi8'] at this
        exact this
      clear hch h1 hi8' H1
      go_wp2
      go_ret
      exact ⟨rfl, HC.out, H1'.out⟩

end Go.Proofs.YtijpdhjlafihkaaDoor
