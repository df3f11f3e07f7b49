/-
  What ends the bytes, and the sum's bytes: the functions ending and sumOf.
-/
import Derived.Test.YtijpdhjlafihkaaDoorTj07
import Derived.Laws.MakeOwn
namespace Go.Proofs.YtijpdhjlafihkaaDoor
open Go.RowKit
set_option linter.unusedVariables false
set_option maxRecDepth 100000

theorem mk8 (n : Nat) (hn : n ≤ 1000000) (w : World) : (Instr.makeSlice 23 (.int .i64 n) (.int .i64 n)).run Tryd.prog w = .ok (.slice (some ⟨w.heap.size, 0, none⟩) n n) (w.alloc (.cells (arr .u8 n fun _ => 0) 5)) := by
  have hi : (Tryd.prog.info? 5).map (fun i => (i.zero, i.size, i.bytes)) = some (some (.int .u8 0), 1, 1) := by kernel_rfl
  cases hq : Tryd.prog.info? 5 with
  | none => rw [hq] at hi; cases hi
  | some i =>
    rw [hq] at hi
    have hi := Option.some.inj hi
    have h1 : i.zero = some (.int .u8 0) := congrArg (·.1) hi
    have h2 : i.size = 1 := congrArg (·.2.1) hi
    have h3 : i.bytes = 1 := congrArg (·.2.2) hi
    have := run_make (P := Tryd.prog) w 23 5 i _ u23 hq h1 .i64 .i64 n n (by omega) (by omega) (by rw [h3]; omega) (by omega)
    rw [this, h2]
    have e : madeCells (Value.int .u8 0).cells ((n : Int).toNat * 1) = arr .u8 n fun _ => 0 := by
      apply Array.ext_getElem?
      intro j
      by_cases hj : j < n
      · simp [madeCells, arr, Value.cells, hj, Nat.mod_one]
      · simp [madeCells, arr, Value.cells, hj]
    rw [e]
    simp

/-- The sum's byte number i. -/
def sumByte (h : Int) (st : Nat → Int) (i : Nat) : Int := IntKind.u8.wrap (st (i / (blockOf h / 16)) / 2 ^ (8 * (blockOf h / 16 - 1 - i % (blockOf h / 16))))
def sumUp (h : Int) (st : Nat → Int) (i : Nat) : Nat → Int := fun j => if j < i then sumByte h st j else 0

set_option maxRecDepth 100000 in
set_option maxHeartbeats 4000000 in
theorem sumOf_any (q : Int) (st : Nat → Int) (w : World) (hv : Valid q) :
    Calls Tryd.prog 53 #[.int .i64 q, .agg (arr .u64 8 st)] w fun r w' => ∃ b, r = .returned (.slice (some ⟨b, 0, none⟩) (sizeOfH q) (sizeOfH q)) ∧ w.heap.size ≤ b ∧ Chg w w' ∧ Ar w' b (arr .u8 (sizeOfH q) (sumByte q st)) := by
  obtain ⟨B, hB⟩ : ∃ B, B = blockOf q := ⟨_, rfl⟩
  obtain ⟨S, hS⟩ : ∃ S, S = sizeOfH q := ⟨_, rfl⟩
  have HB : Hid (∀ u, Calls Tryd.prog 50 #[.int .i64 q] u fun r w' => r = .returned (.int .i64 B) ∧ w' = u) := by
    intro u
    rw [hB]
    exact block_any q u
  have HSz : Hid (∀ u, Calls Tryd.prog 20 #[.int .i64 q] u fun r w' => r = .returned (.int .i64 S) ∧ w' = u) := by
    intro u
    rw [hS]
    exact size_any q u
  rw [← hS]
  obtain ⟨z, hz⟩ : ∃ z : Nat, z = B / 16 := ⟨_, rfl⟩
  have hq1 : (B : Int).tdiv 16 = z := by rw [Int.tdiv_eq_ediv_of_nonneg (by omega), hz]; rfl
  have hzS : (z = 4 ∧ S = 32) ∨ (z = 8 ∧ (S = 48 ∨ S = 64)) := by
    rw [hz, hB, hS]
    rcases hv with rfl | rfl | rfl
    · exact .inl ⟨rfl, rfl⟩
    · exact .inr ⟨rfl, .inl rfl⟩
    · exact .inr ⟨rfl, .inr rfl⟩
  have HZ : Hid (B = blockOf q ∧ z = B / 16 ∧ ((z = 4 ∧ S = 32) ∨ (z = 8 ∧ (S = 48 ∨ S = 64)))) := ⟨hB, hz, hzS⟩
  have hzw := wrap_i (x := (z : Int)) (by omega) (by omega)
  have hz0 : ¬ (z : Int) = 0 := by omega
  have hS0 : (0 : Int) ≤ S := by omega
  have hS64 : S ≤ 64 := by omega
  have hmk := mk8 S (by omega)
  clear hB hS hv hz
  go_enter Tryd.func53, Tryd.ntmps53
  go_wp2_with (first | (go_at_call 50; (refine (HB.out _).mono ?_; rintro r w1 ⟨rfl, hw1⟩; rw [hw1])) | (go_at_call 20; (refine (HSz.out _).mono ?_; rintro r w2 ⟨rfl, hw2⟩; rw [hw2])))
  obtain ⟨w3, hw3⟩ : ∃ w3, w3 = (w.alloc (.cells (arr .u64 8 st) 56)).alloc (.cells (arr .u8 S fun _ => 0) 5) := ⟨_, rfl⟩
  rw [← hw3]
  have z0 : Hid (Chg w w3 ∧ Ar w3 w.heap.size (arr .u64 8 st) ∧ Ar w3 (w.heap.size + 1) (arr .u8 S (sumUp q st 0))) := by
    rw [hw3]
    exact ⟨((Chg.refl w).alloc _).alloc _, (Ar.new w _ _).alloc _, Ar.new1 w _ _ _⟩
  clear hw3 hmk
  go_loopw [16] (fun v wr => ∃ (i : Nat), v = .int .i64 i ∧ i ≤ S ∧ Chg w wr ∧ Ar wr w.heap.size (arr .u64 8 st) ∧ Ar wr (w.heap.size + 1) (arr .u8 S (sumUp q st i))) (fun v wr => S - (intOf v).toNat)
  case atStart => exact ⟨0, rfl, by omega, z0.out.1, z0.out.2.1, z0.out.2.2⟩
  case round =>
    clear z0
    obtain ⟨i, rfl, hi, hch, h1, h2⟩ := hrel
    have HC : Hid (Chg w wr) := hch
    have H1 : Hid (Ar wr w.heap.size (arr .u64 8 st)) := h1
    have H2 : Hid (Ar wr (w.heap.size + 1) (arr .u8 S (sumUp q st i))) := h2
    by_cases hiS : i < S
    · obtain ⟨a, ha⟩ : ∃ a : Nat, a = i / z := ⟨_, rfl⟩
      obtain ⟨e, he⟩ : ∃ e : Nat, e = i % z := ⟨_, rfl⟩
      have hdiv : (i : Int).tdiv z = a := by rw [Int.tdiv_eq_ediv_of_nonneg (by omega), ha]; rfl
      have hmod : (i : Int).tmod z = e := by rw [Int.tmod_eq_emod_of_nonneg (by omega), he]; rfl
      have hez : e < z := by rw [he]; exact Nat.mod_lt _ (by omega)
      have haz : a < 8 := by
        rw [ha]
        rcases hzS with ⟨e1, e2⟩ | ⟨e1, e2 | e2⟩
        · rw [e1]; omega
        · rw [e1]; omega
        · rw [e1]; omega
      obtain ⟨z1, hz1⟩ : ∃ z1 : Nat, (z : Int) - 1 = z1 := ⟨z - 1, by omega⟩
      obtain ⟨s1, hs1⟩ : ∃ s1 : Nat, (z1 : Int) - e = s1 := ⟨z1 - e, by omega⟩
      obtain ⟨s, hs⟩ : ∃ s : Nat, 8 * (s1 : Int) = s := ⟨8 * s1, by omega⟩
      have wz1 := wrap_i (x := (z1 : Int)) (by omega) (by omega)
      have ws1 := wrap_i (x := (s1 : Int)) (by omega) (by omega)
      have ws := wrap_i (x := (s : Int)) (by omega) (by omega)
      have wa := wrap_i (x := (a : Int)) (by omega) (by omega)
      have we := wrap_i (x := (e : Int)) (by omega) (by omega)
      have ls : (s : Int) ≤ 64 := by omega
      have la : (a : Int) < 8 := by omega
      have li : (i : Int) < S := by omega
      obtain ⟨x, hx⟩ : ∃ x, x = st a := ⟨_, rfl⟩
      have c0 := (h1.cell a).trans (arr_get .u64 8 st haz)
      rw [← hx] at c0
      have c1 := (h2.cell i).trans (arr_get .u8 S (sumUp q st i) hiS)
      obtain ⟨y0, hy0⟩ : ∃ x, x = sumUp q st i i := ⟨_, rfl⟩
      rw [← hy0] at c1
      have f1 := h2.frozen i
      have hid : decide ((i : Int) < S) = true := by simp; omega
      have HX : Hid (IntKind.u8.wrap (x / 2 ^ s) = sumByte q st i) := by
        show _ = sumByte q st i
        obtain ⟨hB, hz, _⟩ := HZ.out
        have e0 : blockOf q / 16 = z := by rw [← hB, hz]
        have e1 : 8 * (z - 1 - i % z) = s := by omega
        rw [sumByte, e0, e1, ← ha, hx]
      have HZ1 : Hid (1 ≤ S) := by show 1 ≤ S; omega
      clear ha he hx hy0 hch h1 h2 hzS
      go_wp2_with fail
      go_region_with (fail)
      all_goals go_wp2
      all_goals
        have hX := HX.out
        rw [IntKind.wrap_u8] at hX
        go_roundw
        case rel =>
          refine ⟨i + 1, by go_num, by omega, (HC.out.setCell (by dsimp only; omega) _).drew, (H1.out.other (by dsimp only; omega) _).drew, ?_⟩
          have hh := H2.out.set i (.int .u8 (x / 2 ^ s % 256))
          rw [arr_set] at hh
          have e : upd (sumUp q st i) i (x / 2 ^ s % 256) = sumUp q st (i + 1) := by
            funext j
            unfold upd sumUp
            by_cases hj : j = i
            · subst hj; simp [hX]
            · have e : (j < i + 1) ↔ j < i := by omega
              simp [hj, e]
          rw [e] at hh
          exact hh.drew
        case measure => simp [intOf]; omega
    · have hid : decide ((i : Int) < S) = false := by simp; omega
      have hiS' : i = S := by omega
      have e : arr .u8 S (sumUp q st i) = arr .u8 S (sumByte q st) := arr_congr fun j hj => by unfold sumUp; rw [if_pos (by omega)]
      rw [e] at h2
      have H2' : Hid (Ar wr (w.heap.size + 1) (arr .u8 S (sumByte q st))) := h2
      clear hch h1 h2 e hiS' H2 hzS
      go_wp2
      go_ret
      exact ⟨w.heap.size + 1, rfl, by omega, HC.out, H2'.out⟩

end Go.Proofs.YtijpdhjlafihkaaDoor
