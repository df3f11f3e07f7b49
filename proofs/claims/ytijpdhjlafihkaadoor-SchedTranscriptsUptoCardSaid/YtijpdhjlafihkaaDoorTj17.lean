/-
  begun: a digest that has taken in a key's block.
-/
import Derived.Test.YtijpdhjlafihkaaDoorTj16
namespace Go.Proofs.YtijpdhjlafihkaaDoor
open Go.RowKit
set_option linter.unusedVariables false
set_option maxRecDepth 100000

set_option maxRecDepth 100000 in
set_option maxHeartbeats 4000000 in
theorem begun_any (q : Int) (vk : Value) (key : List Int) (x : Int) (w : World) (hv : Valid q) (ht : Tabs w) (hk : Ap.Rd w vk key) (hkl : key.length ≤ 140737488351232) :
    Calls Tryd.prog 54 #[.int .i64 q, vk, .int .u8 x] w fun r w' => ∃ D, r = .returned (.pointer (some ⟨D, 0, none⟩)) ∧ w.heap.size ≤ D ∧ Chg w w' ∧ DgC w' D q (blkK q key x) (cnt (blkK q key x)) := by
  obtain ⟨ao, n, c, rfl, hn, -⟩ := hk.shape
  obtain ⟨B, hB⟩ : ∃ B, B = blockOf q := ⟨_, rfl⟩
  have hBb : 64 ≤ B ∧ B ≤ 128 := by rw [hB]; exact hv.pos
  have HT : Hid (Tabs w ∧ Valid q ∧ B = blockOf q ∧ n = key.length) := ⟨ht, hv, hB, hn⟩
  have HK : Hid (Ap.Rd w (.slice ao n c) key) := hk
  have HBk : Hid (∀ u, Calls Tryd.prog 50 #[.int .i64 q] u fun r w' => r = .returned (.int .i64 B) ∧ w' = u) := by
    intro u
    rw [hB]
    exact block_any q u
  have hmk := mk8 B (by omega)
  have hnl : n ≤ 140737488351232 := by omega
  clear hv ht hk hB hn hkl
  obtain ⟨Bb, hBb0⟩ : ∃ Bb, Bb = w.heap.size := ⟨_, rfl⟩
  obtain ⟨w1, hw1⟩ : ∃ w1, w1 = w.alloc (.cells (arr .u8 B fun _ => 0) 5) := ⟨_, rfl⟩
  have z1 : Hid (Chg w w1 ∧ Ar w1 Bb (arr .u8 B fun _ => 0) ∧ w.heap.size ≤ Bb) := by
    refine ⟨by rw [hw1]; exact (Chg.refl w).alloc _, ?_, by omega⟩
    rw [hw1, hBb0]
    exact Ar.new w _ _
  have hmk1 := hmk w
  rw [← hw1, ← hBb0] at hmk1
  clear hmk hw1 hBb0
  go_enter Tryd.func54, Tryd.ntmps54
  go_upto_if 17 with (go_at_call 50; (refine (HBk.out _).mono ?_; rintro r' w5 ⟨rfl, hw5⟩; rw [hw5]; clear hw5 w5))
  go_cut [1] from 10 to 21 (fun v wc => ∃ o m cc, v = .slice o m cc ∧ Ap.Rd wc (.slice o m cc) (keyOf q key) ∧ Chg w1 wc)
  case first =>
    by_cases hnB : B < n
    · have hd : decide ((B : Int) < n) = true := by simp; omega
      have hd' : decide (B < n) = true := by simp; omega
      have HO : Hid (∀ u, Chg w1 u → Calls Tryd.prog 21 #[.int .i64 q, .slice (some ⟨u.heap.size, 0, none⟩) 1 1] (u.alloc (.cells #[.slice ao n c] 23)) fun r w' => ∃ o m cc, r = .returned (.slice o m cc) ∧ Ap.Rd w' (.slice o m cc) (keyOf q key) ∧ Chg w1 w') := by
        intro u hu
        have hp : Pt (u.alloc (.cells #[.slice ao n c] 23)) (.slice (some ⟨u.heap.size, 0, none⟩) 1 1) [key] := Pt.made1 (Chg.refl u) (Rd.slA (Rd.chg HK.out (z1.out.1.trans hu)) (by rw [← HT.out.2.2.2]; omega)) 23
        refine (of_any q _ [key] _ HT.out.2.1 (HT.out.1.chg (z1.out.1.trans (hu.alloc _))) hp).mono ?_
        rintro r w' ⟨b, rfl, _, k2, k3⟩
        rw [show [key].flatten = key by simp] at k3
        have := Rd.ofArr k3 (Nat.le_trans (size_le q) (by omega))
        refine ⟨_, _, _, rfl, ?_, (hu.alloc _).trans k2⟩
        rw [keyOf, if_pos (by rw [← HT.out.2.2.1, ← HT.out.2.2.2]; exact hnB)]
        exact this
      go_wp2_with (go_at_call 21; (refine (HO.out _ (Chg.refl _)).mono ?_; rintro e w2 ⟨o, m, cc, rfl, hr, hc⟩))
      all_goals go_meet
      all_goals exact ⟨_, _, _, rfl, hr, hc⟩
    · have hd : decide ((B : Int) < n) = false := by simp; omega
      have hd' : decide (B < n) = false := by simp; omega
      have Z : Hid (Ap.Rd w1 (.slice ao n c) (keyOf q key)) := by
        show Ap.Rd _ _ _
        rw [keyOf, if_neg (by rw [← HT.out.2.2.1, ← HT.out.2.2.2]; exact hnB)]
        exact Rd.chg HK.out z1.out.1
      go_wp2_with fail
      all_goals go_meet
      all_goals exact ⟨_, _, _, rfl, Z.out, Chg.refl _⟩
  obtain ⟨o, m, cc, rfl, hr, hc⟩ := hcut
  obtain ⟨w3, hrun, ha3, hc3⟩ := run_cpB wc Bb B (.slice o m cc) (keyOf q key) (z1.out.2.1.chg hc) hr (by rw [HT.out.2.2.1]; exact keyOf_len q HT.out.2.1 key)
  have z3 : Hid (Chg w w3 ∧ Ar w3 Bb (arr .u8 B (fun j => if j < 0 then blkF q key x j else gd (keyOf q key) j)) ∧ w.heap.size ≤ Bb) := ⟨Cb.low (z1.out.1.trans hc) hc3 z1.out.2.2, ha3, z1.out.2.2⟩
  clear hr hc ha3 hc3 z1 hmk1
  go_wp2_with fail
  go_loopw [27] (fun v wr => ∃ (i : Nat), v = .int .i64 i ∧ i ≤ B ∧ Chg w wr ∧ Ar wr Bb (arr .u8 B (fun j => if j < i then blkF q key x j else gd (keyOf q key) j))) (fun v wr => B - (intOf v).toNat)
  case atStart => exact ⟨0, rfl, by omega, z3.out.1, z3.out.2.1⟩
  case round =>
    have HB : Hid (w.heap.size ≤ Bb) := z3.out.2.2
    clear z3 hrun
    obtain ⟨i, rfl, hi, hch, ha⟩ := hrel
    have H : Hid (Chg w wr ∧ Ar wr Bb (arr .u8 B (fun j => if j < i then blkF q key x j else gd (keyOf q key) j))) := ⟨hch, ha⟩
    by_cases hiB : i < B
    · have hid : decide ((i : Int) < B) = true := by simp; omega
      have li : (i : Int) < B := by omega
      obtain ⟨y, hy⟩ : ∃ y, y = gd (keyOf q key) i := ⟨_, rfl⟩
      have c0 := (ha.cell i).trans (arr_get .u8 B (fun j => if j < i then blkF q key x j else gd (keyOf q key) j) hiB)
      rw [if_neg (Nat.lt_irrefl i), ← hy] at c0
      have f0 := ha.frozen i
      have HY : Hid (y = gd (keyOf q key) i) := hy
      clear hy hch ha
      go_wp2
      go_roundw
      case rel =>
        obtain ⟨k0, k1⟩ := H.out
        refine ⟨i + 1, by go_num, by omega, k0.setCell (by dsimp only; exact HB.out) _, ?_⟩
        have hh := k1.set i (.int .u8 (Go.bits .xor .u8 y x))
        rw [arr_set] at hh
        have e : upd (fun j => if j < i then blkF q key x j else gd (keyOf q key) j) i (Go.bits .xor .u8 y x) = (fun j => if j < i + 1 then blkF q key x j else gd (keyOf q key) j) := by
          funext j
          unfold upd
          by_cases hj : j = i
          · subst hj
            simp [blkF, HY.out]
          · have e : (j < i + 1) ↔ j < i := by omega
            simp [hj, e]
        rw [e] at hh
        exact hh
      case measure => simp [intOf]; omega
    · have hid : decide ((i : Int) < B) = false := by simp; omega
      have z4 : Hid (Chg w wr ∧ Ar wr Bb (arr .u8 B (blkF q key x))) := by
        refine ⟨hch, ?_⟩
        have e : arr .u8 B (fun j => if j < i then blkF q key x j else gd (keyOf q key) j) = arr .u8 B (blkF q key x) := arr_congr fun j hj => by rw [if_pos (by omega)]
        rw [e] at ha
        exact ha
      clear hch ha H
      go_wp2_with fail
      refine (new_any q wr HT.out.2.1 (HT.out.1.chg z4.out.1)).mono ?_
      rintro e w5 ⟨D, rfl, hD, hc5, hd5⟩
      have z5 : Hid (Chg w w5 ∧ Ar w5 Bb (arr .u8 B (blkF q key x)) ∧ DgC w5 D q [] (cnt []) ∧ Bb < D ∧ w.heap.size ≤ D) := ⟨z4.out.1.trans hc5, z4.out.2.chg hc5, hd5, Nat.lt_of_lt_of_le z4.out.2.lt hD, Nat.le_trans z4.out.1.size hD⟩
      clear hc5 hd5 hD z4
      go_wp2_with fail
      refine (write_any D q [] (blkK q key x) (.slice (some ⟨Bb, 0, none⟩) B B) w5 HT.out.2.1 (HT.out.1.chg z5.out.1) (by have := z5.out.2.2.2.2; have := HT.out.1.size; omega) z5.out.2.2.1 ?_).mono ?_
      · have hpos := HT.out.2.1.pos
        have := Rd.ofArr z5.out.2.1 (by omega)
        rw [HT.out.2.2.1] at this ⊢
        exact Rd.sl this (by simp; omega) D (fun e => by have := z5.out.2.2.2.1; simp [Value.ownBlock] at e; omega)
      rintro e w6 ⟨rfl, hc6, hd6⟩
      have z6 : Hid (Chg w w6 ∧ DgC w6 D q (blkK q key x) (cnt (blkK q key x)) ∧ w.heap.size ≤ D) := ⟨Cb.low z5.out.1 hc6 z5.out.2.2.2.2, hd6, z5.out.2.2.2.2⟩
      clear hc6 hd6 z5
      go_wp2_with fail
      go_ret
      exact ⟨D, rfl, z6.out.2.2, z6.out.1, z6.out.2.1⟩
end Go.Proofs.YtijpdhjlafihkaaDoor
