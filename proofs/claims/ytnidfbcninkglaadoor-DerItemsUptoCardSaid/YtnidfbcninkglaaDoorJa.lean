/-
  The document's Next, where it is refused.
-/
import Derived.Test.YtnidfbcninkglaaDoorIa
namespace Go.Proofs.YtnidfbcninkglaaDoor
open Go.RowKit
set_option linter.unusedVariables false
set_option maxRecDepth 100000

set_option maxHeartbeats 4000000 in
theorem rn_far (v : Value) (xs : List Int) (a : Int) (w : World) (hv : Rd w v xs) (ha : a < 0 ∨ (xs.length : Int) ≤ a) :
    Calls Tryd.prog 11 #[v, .int .i64 a] w fun e w' => e = .returned (.tuple #[itemV 0 (.slice none 0 0) 0 0, .int .i64 141]) ∧ Chg Non w w' := by
  obtain ⟨ao, n, c, rfl, hn, hc, hmx⟩ := hv.shape
  rw [← hn] at ha
  unfold itemV
  by_cases h0 : a < 0
  · have d0 : decide (a < 0) = true := by simpa using h0
    clear ha hn hv
    go_enter Tryd.func11, Tryd.ntmps11
    go_wp2
    refine bodyPost_ret (v := .tuple #[.agg #[.int .u8 0, .slice none 0 0, .int .i64 0, .int .i64 0], .int .i64 141]) ?_ rfl ⟨rfl, (Chg.refl _ _).alloc _⟩
    simp [results, Tryd.results11, go_sem]
  · have d0 : decide (a < 0) = false := by simpa using h0
    have d1 : decide ((n : Int) ≤ a) = true := by simp; omega
    clear ha hn hv
    go_enter Tryd.func11, Tryd.ntmps11
    go_wp2
    refine bodyPost_ret (v := .tuple #[.agg #[.int .u8 0, .slice none 0 0, .int .i64 0, .int .i64 0], .int .i64 141]) ?_ rfl ⟨rfl, (Chg.refl _ _).alloc _⟩
    simp [results, Tryd.results11, go_sem]

/-- The bytes at a place, and what is laid of them in memory. -/
structure At (w : World) (b o c N k : Nat) (xs : List Int) (t : Int) (r : List Int) : Prop where
  n : N = xs.length
  nc : N ≤ c
  c63 : c ≤ 9223372036854775807
  nb : N ≤ 140737488355328
  bs : Bs w b (o + k) (t :: r)
  byt : Byt (t :: r)
  len : N = k + 1 + r.length

theorem at_of {w : World} {v : Value} {xs : List Int} {k : Nat} {t : Int} {r : List Int} (hv : Rd w v xs) (hb : Byt xs) (hl : xs.length ≤ 140737488355328) (hd : xs.drop k = t :: r) : ∃ b o c N, v = .slice (some ⟨b, o, none⟩) N c ∧ At w b o c N k xs t r := by
  obtain ⟨h1, h2⟩ := drop_lt hd
  obtain ⟨b, o, c, rfl, g1, g2, g3⟩ := hv.bs (by intro e; rw [e] at h1; simp at h1)
  refine ⟨b, o, c, xs.length, rfl, ⟨rfl, g1, g2, hl, ?_, ?_, h2⟩⟩
  · rw [← hd]; exact g3.drop k
  · rw [← hd]; exact hb.drop k
theorem At.chg {w w' : World} {b o c N k : Nat} {xs : List Int} {t : Int} {r : List Int} (A : At w b o c N k xs t r) (h : Chg Non w w') : At w' b o c N k xs t r :=
  ⟨A.n, A.nc, A.c63, A.nb, A.bs.chg h, A.byt, A.len⟩

theorem box_new (w : World) : ∃ w1, w1 = w.alloc (.cells #[.int .u8 0, .slice none 0 0, .int .i64 0, .int .i64 0] 25) ∧ Chg Non w w1 ∧ w1.cell? ⟨w.heap.size, 0, none⟩ = some (.int .u8 0) ∧ w1.cell? ⟨w.heap.size, 1, none⟩ = some (.slice none 0 0) ∧ w1.cell? ⟨w.heap.size, 2, none⟩ = some (.int .i64 0) ∧ w1.cell? ⟨w.heap.size, 3, none⟩ = some (.int .i64 0) ∧ ∀ j, w1.frozen? ⟨w.heap.size, j, none⟩ = false :=
  ⟨_, rfl, (Chg.refl _ _).alloc _, cells4 (heap_alloc_last w _)⟩

set_option maxHeartbeats 8000000 in
theorem rn_tag {w : World} {b o c N k : Nat} {xs : List Int} {t : Int} {r : List Int} (A : At w b o c N k xs t r) (ht : t % 32 = 31) :
    Calls Tryd.prog 11 #[.slice (some ⟨b, o, none⟩) N c, .int .i64 k] w fun e w' => e = .returned (.tuple #[itemV 0 (.slice none 0 0) 0 0, .int .i64 142]) ∧ Chg Non w w' := by
  unfold itemV
  have dt : (t % 32 == 31) = true := by simpa using ht
  obtain ⟨w1, hw1, C1, f0, f1, f2, f3, ff⟩ := box_new w
  have HC1 : Hid (Chg Non w w1) := C1
  have HW1 : Hid (w1 = w.alloc (.cells #[.int .u8 0, .slice none 0 0, .int .i64 0, .int .i64 0] 25)) := hw1
  have B := A.chg C1
  have kt := B.bs.at0
  obtain ⟨t0, t1⟩ := B.byt.head
  have hlen := B.len
  try simp only [List.length_cons, List.length_nil] at hlen
  have hk : k < N := by omega
  have hN := B.nb
  have hNc := B.nc
  have hc63 := B.c63
  clear ht A B C1 hw1 hlen
  go_enter Tryd.func11, Tryd.ntmps11
  go_upto_region 1 with fail
  rw [← HW1.out]
  go_wp2
  refine bodyPost_ret (v := .tuple #[.agg #[.int .u8 0, .slice none 0 0, .int .i64 0, .int .i64 0], .int .i64 142]) ?_ rfl ⟨rfl, Chg.four HC1.out _ _ _ _⟩
  simp [results, Tryd.results11, go_sem, f0, f1, f2, f3]

set_option maxHeartbeats 8000000 in
theorem rn_end {w : World} {b o c N k : Nat} {xs : List Int} {t : Int} (A : At w b o c N k xs t []) (ht : t % 32 ≠ 31) :
    Calls Tryd.prog 11 #[.slice (some ⟨b, o, none⟩) N c, .int .i64 k] w fun e w' => e = .returned (.tuple #[itemV 0 (.slice none 0 0) 0 0, .int .i64 141]) ∧ Chg Non w w' := by
  unfold itemV
  have dt : (t % 32 == 31) = false := by simpa using ht
  obtain ⟨w1, hw1, C1, f0, f1, f2, f3, ff⟩ := box_new w
  have HC1 : Hid (Chg Non w w1) := C1
  have HW1 : Hid (w1 = w.alloc (.cells #[.int .u8 0, .slice none 0 0, .int .i64 0, .int .i64 0] 25)) := hw1
  have B := A.chg C1
  have kt := B.bs.at0
  obtain ⟨t0, t1⟩ := B.byt.head
  have hlen := B.len
  try simp only [List.length_nil] at hlen
  have hk : k < N := by omega
  have hN := B.nb
  have hNc := B.nc
  have hc63 := B.c63
  obtain ⟨K1, hK1⟩ : ∃ K1, K1 = k + 1 := ⟨_, rfl⟩
  have hv1 : IntKind.i64.wrap ((k : Int) + 1) = (K1 : Int) := by rw [IntKind.wrap_i64]; omega
  have d1 : N ≤ K1 := by omega
  clear hK1
  clear ht A B C1 hw1 hlen
  go_enter Tryd.func11, Tryd.ntmps11
  go_upto_region 1 with fail
  rw [← HW1.out]
  go_wp2
  refine bodyPost_ret (v := .tuple #[.agg #[.int .u8 0, .slice none 0 0, .int .i64 0, .int .i64 0], .int .i64 141]) ?_ rfl ⟨rfl, Chg.four HC1.out _ _ _ _⟩
  simp [results, Tryd.results11, go_sem, f0, f1, f2, f3]

set_option maxHeartbeats 8000000 in
theorem rn_form {w : World} {b o c N k : Nat} {xs : List Int} {t x : Int} {r : List Int} (A : At w b o c N k xs t (x :: r)) (ht : t % 32 ≠ 31) (h1 : 128 ≤ x) (h2 : x ≠ 129) (h3 : x ≠ 130) :
    Calls Tryd.prog 11 #[.slice (some ⟨b, o, none⟩) N c, .int .i64 k] w fun e w' => e = .returned (.tuple #[itemV 0 (.slice none 0 0) 0 0, .int .i64 143]) ∧ Chg Non w w' := by
  unfold itemV
  have dt : (t % 32 == 31) = false := by simpa using ht
  obtain ⟨w1, hw1, C1, f0, f1, f2, f3, ff⟩ := box_new w
  have HC1 : Hid (Chg Non w w1) := C1
  have HW1 : Hid (w1 = w.alloc (.cells #[.int .u8 0, .slice none 0 0, .int .i64 0, .int .i64 0] 25)) := hw1
  have B := A.chg C1
  have kt := B.bs.at0
  obtain ⟨t0, t1⟩ := B.byt.head
  have hlen := B.len
  try simp only [List.length_cons] at hlen
  have hk : k < N := by omega
  have hN := B.nb
  have hNc := B.nc
  have hc63 := B.c63
  obtain ⟨K1, hK1⟩ : ∃ K1, K1 = k + 1 := ⟨_, rfl⟩
  have hv1 : IntKind.i64.wrap ((k : Int) + 1) = (K1 : Int) := by rw [IntKind.wrap_i64]; omega
  obtain ⟨K2, hK2⟩ : ∃ K2, K2 = k + 2 := ⟨_, rfl⟩
  have kx : w1.cell? ⟨b, o + K1, none⟩ = some (.int .u8 x) := by have := B.bs.at1; rw [Nat.add_assoc, ← hK1] at this; exact this
  obtain ⟨x0, x1⟩ := B.byt.tail.head
  have hv2 : IntKind.i64.wrap ((k : Int) + 2) = (K2 : Int) := by rw [IntKind.wrap_i64]; omega
  have d1 : K1 < N := by omega
  have e1 : decide (128 ≤ x) = true := by simpa using h1
  obtain ⟨M, hM⟩ : ∃ M, M = x - 128 := ⟨_, rfl⟩
  have hw3 : IntKind.i64.wrap (x - 128) = M := by rw [IntKind.wrap_i64]; omega
  have e2 : (M != 1) = true := by simp; omega
  have e3 : (M != 2) = true := by simp; omega
  clear hK1 hK2 h2 h3 hM
  clear ht A B C1 hw1 hlen
  go_enter Tryd.func11, Tryd.ntmps11
  go_upto_region 1 with fail
  rw [← HW1.out]
  go_wp2
  refine bodyPost_ret (v := .tuple #[.agg #[.int .u8 0, .slice none 0 0, .int .i64 0, .int .i64 0], .int .i64 143]) ?_ rfl ⟨rfl, Chg.four HC1.out _ _ _ _⟩
  simp [results, Tryd.results11, go_sem, f0, f1, f2, f3]

set_option maxHeartbeats 8000000 in
theorem rn_s1 {w : World} {b o c N k : Nat} {xs : List Int} {t : Int} (A : At w b o c N k xs t [129]) (ht : t % 32 ≠ 31) :
    Calls Tryd.prog 11 #[.slice (some ⟨b, o, none⟩) N c, .int .i64 k] w fun e w' => e = .returned (.tuple #[itemV 0 (.slice none 0 0) 0 0, .int .i64 141]) ∧ Chg Non w w' := by
  unfold itemV
  have dt : (t % 32 == 31) = false := by simpa using ht
  obtain ⟨w1, hw1, C1, f0, f1, f2, f3, ff⟩ := box_new w
  have HC1 : Hid (Chg Non w w1) := C1
  have HW1 : Hid (w1 = w.alloc (.cells #[.int .u8 0, .slice none 0 0, .int .i64 0, .int .i64 0] 25)) := hw1
  have B := A.chg C1
  have kt := B.bs.at0
  obtain ⟨t0, t1⟩ := B.byt.head
  have hlen := B.len
  try simp only [List.length_cons, List.length_nil] at hlen
  have hk : k < N := by omega
  have hN := B.nb
  have hNc := B.nc
  have hc63 := B.c63
  obtain ⟨K1, hK1⟩ : ∃ K1, K1 = k + 1 := ⟨_, rfl⟩
  have hv1 : IntKind.i64.wrap ((k : Int) + 1) = (K1 : Int) := by rw [IntKind.wrap_i64]; omega
  obtain ⟨K2, hK2⟩ : ∃ K2, K2 = k + 2 := ⟨_, rfl⟩
  have kx : w1.cell? ⟨b, o + K1, none⟩ = some (.int .u8 129) := by have := B.bs.at1; rw [Nat.add_assoc, ← hK1] at this; exact this
  have hv2 : IntKind.i64.wrap ((k : Int) + 2) = (K2 : Int) := by rw [IntKind.wrap_i64]; omega
  have d1 : K1 < N := by omega
  obtain ⟨R, hR⟩ : ∃ R, R = N - K2 := ⟨_, rfl⟩
  have hvR : IntKind.i64.wrap ((N : Int) - (K2 : Int)) = (R : Int) := by rw [IntKind.wrap_i64]; omega
  have e1 : decide ((R : Int) < 1) = true := by simp; omega
  clear hK1 hK2 hR
  clear ht A B C1 hw1 hlen
  go_enter Tryd.func11, Tryd.ntmps11
  go_upto_region 1 with fail
  rw [← HW1.out]
  go_wp2
  refine bodyPost_ret (v := .tuple #[.agg #[.int .u8 0, .slice none 0 0, .int .i64 0, .int .i64 0], .int .i64 141]) ?_ rfl ⟨rfl, Chg.four HC1.out _ _ _ _⟩
  simp [results, Tryd.results11, go_sem, f0, f1, f2, f3]

set_option maxHeartbeats 8000000 in
theorem rn_s2 {w : World} {b o c N k : Nat} {xs : List Int} {t : Int} {r : List Int} (A : At w b o c N k xs t (130 :: r)) (ht : t % 32 ≠ 31) (h2 : r.length < 2) :
    Calls Tryd.prog 11 #[.slice (some ⟨b, o, none⟩) N c, .int .i64 k] w fun e w' => e = .returned (.tuple #[itemV 0 (.slice none 0 0) 0 0, .int .i64 141]) ∧ Chg Non w w' := by
  unfold itemV
  have dt : (t % 32 == 31) = false := by simpa using ht
  obtain ⟨w1, hw1, C1, f0, f1, f2, f3, ff⟩ := box_new w
  have HC1 : Hid (Chg Non w w1) := C1
  have HW1 : Hid (w1 = w.alloc (.cells #[.int .u8 0, .slice none 0 0, .int .i64 0, .int .i64 0] 25)) := hw1
  have B := A.chg C1
  have kt := B.bs.at0
  obtain ⟨t0, t1⟩ := B.byt.head
  have hlen := B.len
  try simp only [List.length_cons] at hlen
  have hk : k < N := by omega
  have hN := B.nb
  have hNc := B.nc
  have hc63 := B.c63
  obtain ⟨K1, hK1⟩ : ∃ K1, K1 = k + 1 := ⟨_, rfl⟩
  have hv1 : IntKind.i64.wrap ((k : Int) + 1) = (K1 : Int) := by rw [IntKind.wrap_i64]; omega
  obtain ⟨K2, hK2⟩ : ∃ K2, K2 = k + 2 := ⟨_, rfl⟩
  have kx : w1.cell? ⟨b, o + K1, none⟩ = some (.int .u8 130) := by have := B.bs.at1; rw [Nat.add_assoc, ← hK1] at this; exact this
  have hv2 : IntKind.i64.wrap ((k : Int) + 2) = (K2 : Int) := by rw [IntKind.wrap_i64]; omega
  have d1 : K1 < N := by omega
  obtain ⟨R, hR⟩ : ∃ R, R = N - K2 := ⟨_, rfl⟩
  have hvR : IntKind.i64.wrap ((N : Int) - (K2 : Int)) = (R : Int) := by rw [IntKind.wrap_i64]; omega
  have e1 : decide ((R : Int) < 2) = true := by simp; omega
  clear hK1 hK2 hR h2
  clear ht A B C1 hw1 hlen
  go_enter Tryd.func11, Tryd.ntmps11
  go_upto_region 1 with fail
  rw [← HW1.out]
  go_wp2
  refine bodyPost_ret (v := .tuple #[.agg #[.int .u8 0, .slice none 0 0, .int .i64 0, .int .i64 0], .int .i64 141]) ?_ rfl ⟨rfl, Chg.four HC1.out _ _ _ _⟩
  simp [results, Tryd.results11, go_sem, f0, f1, f2, f3]

set_option maxHeartbeats 8000000 in
theorem rn_l1 {w : World} {b o c N k : Nat} {xs : List Int} {t y : Int} {r : List Int} (A : At w b o c N k xs t (129 :: y :: r)) (ht : t % 32 ≠ 31) (h2 : y < 128) :
    Calls Tryd.prog 11 #[.slice (some ⟨b, o, none⟩) N c, .int .i64 k] w fun e w' => e = .returned (.tuple #[itemV 0 (.slice none 0 0) 0 0, .int .i64 143]) ∧ Chg Non w w' := by
  unfold itemV
  have dt : (t % 32 == 31) = false := by simpa using ht
  obtain ⟨w1, hw1, C1, f0, f1, f2, f3, ff⟩ := box_new w
  have HC1 : Hid (Chg Non w w1) := C1
  have HW1 : Hid (w1 = w.alloc (.cells #[.int .u8 0, .slice none 0 0, .int .i64 0, .int .i64 0] 25)) := hw1
  have B := A.chg C1
  have kt := B.bs.at0
  obtain ⟨t0, t1⟩ := B.byt.head
  have hlen := B.len
  try simp only [List.length_cons] at hlen
  have hk : k < N := by omega
  have hN := B.nb
  have hNc := B.nc
  have hc63 := B.c63
  obtain ⟨K1, hK1⟩ : ∃ K1, K1 = k + 1 := ⟨_, rfl⟩
  have hv1 : IntKind.i64.wrap ((k : Int) + 1) = (K1 : Int) := by rw [IntKind.wrap_i64]; omega
  obtain ⟨K2, hK2⟩ : ∃ K2, K2 = k + 2 := ⟨_, rfl⟩
  have kx : w1.cell? ⟨b, o + K1, none⟩ = some (.int .u8 129) := by have := B.bs.at1; rw [Nat.add_assoc, ← hK1] at this; exact this
  have hv2 : IntKind.i64.wrap ((k : Int) + 2) = (K2 : Int) := by rw [IntKind.wrap_i64]; omega
  have d1 : K1 < N := by omega
  obtain ⟨K3, hK3⟩ : ∃ K3, K3 = k + 3 := ⟨_, rfl⟩
  have hv3 : IntKind.i64.wrap ((K2 : Int) + 1) = (K3 : Int) := by rw [IntKind.wrap_i64]; omega
  have ky : w1.cell? ⟨b, o + K2, none⟩ = some (.int .u8 y) := by have := B.bs.tail.at1; rw [show o + k + 1 + 1 = o + K2 by omega] at this; exact this
  obtain ⟨y0, y1⟩ := B.byt.tail.tail.head
  have d2 : K2 < N := by omega
  obtain ⟨R, hR⟩ : ∃ R, R = N - K2 := ⟨_, rfl⟩
  have hvR : IntKind.i64.wrap ((N : Int) - (K2 : Int)) = (R : Int) := by rw [IntKind.wrap_i64]; omega
  have e1 : decide ((R : Int) < 1) = false := by simp; omega
  have e2 : decide (y < 128) = true := by simpa using h2
  have hy1 : IntKind.i64.wrap y = y := by rw [IntKind.wrap_i64]; omega
  clear hK1 hK2 hK3 hR
  clear ht A B C1 hw1 hlen
  go_enter Tryd.func11, Tryd.ntmps11
  go_upto_region 1 with fail
  rw [← HW1.out]
  go_wp2
  refine wp_loop_rounds 2 ?_
  rw [rounds_succ]
  go_wp2
  rw [rounds_succ]
  go_wp2
  refine bodyPost_ret (v := .tuple #[.agg #[.int .u8 0, .slice none 0 0, .int .i64 0, .int .i64 0], .int .i64 143]) ?_ rfl ⟨rfl, Chg.four HC1.out _ _ _ _⟩
  simp [results, Tryd.results11, go_sem, f0, f1, f2, f3]

set_option maxHeartbeats 8000000 in
theorem rn_l2 {w : World} {b o c N k : Nat} {xs : List Int} {t z : Int} {r : List Int} (A : At w b o c N k xs t (130 :: 0 :: z :: r)) (ht : t % 32 ≠ 31) :
    Calls Tryd.prog 11 #[.slice (some ⟨b, o, none⟩) N c, .int .i64 k] w fun e w' => e = .returned (.tuple #[itemV 0 (.slice none 0 0) 0 0, .int .i64 143]) ∧ Chg Non w w' := by
  unfold itemV
  have dt : (t % 32 == 31) = false := by simpa using ht
  obtain ⟨w1, hw1, C1, f0, f1, f2, f3, ff⟩ := box_new w
  have HC1 : Hid (Chg Non w w1) := C1
  have HW1 : Hid (w1 = w.alloc (.cells #[.int .u8 0, .slice none 0 0, .int .i64 0, .int .i64 0] 25)) := hw1
  have B := A.chg C1
  have kt := B.bs.at0
  obtain ⟨t0, t1⟩ := B.byt.head
  have hlen := B.len
  try simp only [List.length_cons] at hlen
  have hk : k < N := by omega
  have hN := B.nb
  have hNc := B.nc
  have hc63 := B.c63
  obtain ⟨K1, hK1⟩ : ∃ K1, K1 = k + 1 := ⟨_, rfl⟩
  have hv1 : IntKind.i64.wrap ((k : Int) + 1) = (K1 : Int) := by rw [IntKind.wrap_i64]; omega
  obtain ⟨K2, hK2⟩ : ∃ K2, K2 = k + 2 := ⟨_, rfl⟩
  have kx : w1.cell? ⟨b, o + K1, none⟩ = some (.int .u8 130) := by have := B.bs.at1; rw [Nat.add_assoc, ← hK1] at this; exact this
  have hv2 : IntKind.i64.wrap ((k : Int) + 2) = (K2 : Int) := by rw [IntKind.wrap_i64]; omega
  have d1 : K1 < N := by omega
  obtain ⟨K3, hK3⟩ : ∃ K3, K3 = k + 3 := ⟨_, rfl⟩
  have hv3 : IntKind.i64.wrap ((K2 : Int) + 1) = (K3 : Int) := by rw [IntKind.wrap_i64]; omega
  have ky : w1.cell? ⟨b, o + K2, none⟩ = some (.int .u8 0) := by have := B.bs.tail.at1; rw [show o + k + 1 + 1 = o + K2 by omega] at this; exact this
  have d2 : K2 < N := by omega
  obtain ⟨K4, hK4⟩ : ∃ K4, K4 = k + 4 := ⟨_, rfl⟩
  have hv4 : IntKind.i64.wrap ((K2 : Int) + 2) = (K4 : Int) := by rw [IntKind.wrap_i64]; omega
  have kz : w1.cell? ⟨b, o + K3, none⟩ = some (.int .u8 z) := by have := B.bs.tail.tail.at1; rw [show o + k + 1 + 1 + 1 = o + K3 by omega] at this; exact this
  obtain ⟨z0, z1⟩ := B.byt.tail.tail.tail.head
  have d3 : K3 < N := by omega
  obtain ⟨R, hR⟩ : ∃ R, R = N - K2 := ⟨_, rfl⟩
  have hvR : IntKind.i64.wrap ((N : Int) - (K2 : Int)) = (R : Int) := by rw [IntKind.wrap_i64]; omega
  have e1 : decide ((R : Int) < 2) = false := by simp; omega
  have e2 : decide (z < 256) = true := by simpa using z1
  have hz1 : IntKind.i64.wrap z = z := by rw [IntKind.wrap_i64]; omega
  clear hK1 hK2 hK3 hK4 hR
  clear ht A B C1 hw1 hlen
  go_enter Tryd.func11, Tryd.ntmps11
  go_upto_region 1 with fail
  rw [← HW1.out]
  go_wp2
  refine wp_loop_rounds 3 ?_
  rw [rounds_succ]
  go_wp2
  rw [rounds_succ]
  go_wp2
  rw [rounds_succ]
  go_wp2
  refine bodyPost_ret (v := .tuple #[.agg #[.int .u8 0, .slice none 0 0, .int .i64 0, .int .i64 0], .int .i64 143]) ?_ rfl ⟨rfl, Chg.four HC1.out _ _ _ _⟩
  simp [results, Tryd.results11, go_sem, f0, f1, f2, f3]

set_option maxHeartbeats 8000000 in
theorem rn_o0 {w : World} {b o c N k : Nat} {xs : List Int} {t x : Int} {r : List Int} (A : At w b o c N k xs t (x :: r)) (ht : t % 32 ≠ 31) (h1 : x < 128) (h2 : (r.length : Int) < x) :
    Calls Tryd.prog 11 #[.slice (some ⟨b, o, none⟩) N c, .int .i64 k] w fun e w' => e = .returned (.tuple #[itemV 0 (.slice none 0 0) 0 0, .int .i64 141]) ∧ Chg Non w w' := by
  unfold itemV
  have dt : (t % 32 == 31) = false := by simpa using ht
  obtain ⟨w1, hw1, C1, f0, f1, f2, f3, ff⟩ := box_new w
  have HC1 : Hid (Chg Non w w1) := C1
  have HW1 : Hid (w1 = w.alloc (.cells #[.int .u8 0, .slice none 0 0, .int .i64 0, .int .i64 0] 25)) := hw1
  have B := A.chg C1
  have kt := B.bs.at0
  obtain ⟨t0, t1⟩ := B.byt.head
  have hlen := B.len
  try simp only [List.length_cons] at hlen
  have hk : k < N := by omega
  have hN := B.nb
  have hNc := B.nc
  have hc63 := B.c63
  obtain ⟨K1, hK1⟩ : ∃ K1, K1 = k + 1 := ⟨_, rfl⟩
  have hv1 : IntKind.i64.wrap ((k : Int) + 1) = (K1 : Int) := by rw [IntKind.wrap_i64]; omega
  obtain ⟨K2, hK2⟩ : ∃ K2, K2 = k + 2 := ⟨_, rfl⟩
  have kx : w1.cell? ⟨b, o + K1, none⟩ = some (.int .u8 x) := by have := B.bs.at1; rw [Nat.add_assoc, ← hK1] at this; exact this
  obtain ⟨x0, x1⟩ := B.byt.tail.head
  have hv2 : IntKind.i64.wrap ((k : Int) + 2) = (K2 : Int) := by rw [IntKind.wrap_i64]; omega
  have d1 : K1 < N := by omega
  obtain ⟨R, hR⟩ : ∃ R, R = N - K2 := ⟨_, rfl⟩
  have hvR : IntKind.i64.wrap ((N : Int) - (K2 : Int)) = (R : Int) := by rw [IntKind.wrap_i64]; omega
  have e0 : decide (128 ≤ x) = false := by simp; omega
  have e1 : decide ((R : Int) < x) = true := by simp; omega
  clear hK1 hK2 hR h2
  clear ht A B C1 hw1 hlen
  go_enter Tryd.func11, Tryd.ntmps11
  go_upto_region 1 with fail
  rw [← HW1.out]
  go_wp2
  refine bodyPost_ret (v := .tuple #[.agg #[.int .u8 0, .slice none 0 0, .int .i64 0, .int .i64 0], .int .i64 141]) ?_ rfl ⟨rfl, Chg.four HC1.out _ _ _ _⟩
  simp [results, Tryd.results11, go_sem, f0, f1, f2, f3]

set_option maxHeartbeats 8000000 in
theorem rn_o1 {w : World} {b o c N k : Nat} {xs : List Int} {t y : Int} {r : List Int} (A : At w b o c N k xs t (129 :: y :: r)) (ht : t % 32 ≠ 31) (h1 : 128 ≤ y) (h2 : (r.length : Int) < y) :
    Calls Tryd.prog 11 #[.slice (some ⟨b, o, none⟩) N c, .int .i64 k] w fun e w' => e = .returned (.tuple #[itemV 0 (.slice none 0 0) 0 0, .int .i64 141]) ∧ Chg Non w w' := by
  unfold itemV
  have dt : (t % 32 == 31) = false := by simpa using ht
  obtain ⟨w1, hw1, C1, f0, f1, f2, f3, ff⟩ := box_new w
  have HC1 : Hid (Chg Non w w1) := C1
  have HW1 : Hid (w1 = w.alloc (.cells #[.int .u8 0, .slice none 0 0, .int .i64 0, .int .i64 0] 25)) := hw1
  have B := A.chg C1
  have kt := B.bs.at0
  obtain ⟨t0, t1⟩ := B.byt.head
  have hlen := B.len
  try simp only [List.length_cons] at hlen
  have hk : k < N := by omega
  have hN := B.nb
  have hNc := B.nc
  have hc63 := B.c63
  obtain ⟨K1, hK1⟩ : ∃ K1, K1 = k + 1 := ⟨_, rfl⟩
  have hv1 : IntKind.i64.wrap ((k : Int) + 1) = (K1 : Int) := by rw [IntKind.wrap_i64]; omega
  obtain ⟨K2, hK2⟩ : ∃ K2, K2 = k + 2 := ⟨_, rfl⟩
  have kx : w1.cell? ⟨b, o + K1, none⟩ = some (.int .u8 129) := by have := B.bs.at1; rw [Nat.add_assoc, ← hK1] at this; exact this
  have hv2 : IntKind.i64.wrap ((k : Int) + 2) = (K2 : Int) := by rw [IntKind.wrap_i64]; omega
  have d1 : K1 < N := by omega
  obtain ⟨K3, hK3⟩ : ∃ K3, K3 = k + 3 := ⟨_, rfl⟩
  have hv3 : IntKind.i64.wrap ((K2 : Int) + 1) = (K3 : Int) := by rw [IntKind.wrap_i64]; omega
  have ky : w1.cell? ⟨b, o + K2, none⟩ = some (.int .u8 y) := by have := B.bs.tail.at1; rw [show o + k + 1 + 1 = o + K2 by omega] at this; exact this
  obtain ⟨y0, y1⟩ := B.byt.tail.tail.head
  have d2 : K2 < N := by omega
  obtain ⟨R, hR⟩ : ∃ R, R = N - K2 := ⟨_, rfl⟩
  have hvR : IntKind.i64.wrap ((N : Int) - (K2 : Int)) = (R : Int) := by rw [IntKind.wrap_i64]; omega
  obtain ⟨S, hS⟩ : ∃ S, S = N - K3 := ⟨_, rfl⟩
  have hvS : IntKind.i64.wrap ((N : Int) - (K3 : Int)) = (S : Int) := by rw [IntKind.wrap_i64]; omega
  have e1 : decide ((R : Int) < 1) = false := by simp; omega
  have e2 : decide (y < 128) = false := by simpa using h1
  have hy1 : IntKind.i64.wrap y = y := by rw [IntKind.wrap_i64]; omega
  have e3 : decide ((S : Int) < y) = true := by simp; omega
  clear hK1 hK2 hK3 hR hS h1 h2
  clear ht A B C1 hw1 hlen
  go_enter Tryd.func11, Tryd.ntmps11
  go_upto_region 1 with fail
  rw [← HW1.out]
  go_wp2
  refine wp_loop_rounds 2 ?_
  rw [rounds_succ]
  go_wp2
  rw [rounds_succ]
  go_wp2
  refine bodyPost_ret (v := .tuple #[.agg #[.int .u8 0, .slice none 0 0, .int .i64 0, .int .i64 0], .int .i64 141]) ?_ rfl ⟨rfl, Chg.four HC1.out _ _ _ _⟩
  simp [results, Tryd.results11, go_sem, f0, f1, f2, f3]

set_option maxHeartbeats 8000000 in
theorem rn_o2 {w : World} {b o c N k : Nat} {xs : List Int} {t y z : Int} {r : List Int} (A : At w b o c N k xs t (130 :: y :: z :: r)) (ht : t % 32 ≠ 31) (h1 : y ≠ 0) (h2 : (r.length : Int) < 256 * y + z) :
    Calls Tryd.prog 11 #[.slice (some ⟨b, o, none⟩) N c, .int .i64 k] w fun e w' => e = .returned (.tuple #[itemV 0 (.slice none 0 0) 0 0, .int .i64 141]) ∧ Chg Non w w' := by
  unfold itemV
  have dt : (t % 32 == 31) = false := by simpa using ht
  obtain ⟨w1, hw1, C1, f0, f1, f2, f3, ff⟩ := box_new w
  have HC1 : Hid (Chg Non w w1) := C1
  have HW1 : Hid (w1 = w.alloc (.cells #[.int .u8 0, .slice none 0 0, .int .i64 0, .int .i64 0] 25)) := hw1
  have B := A.chg C1
  have kt := B.bs.at0
  obtain ⟨t0, t1⟩ := B.byt.head
  have hlen := B.len
  try simp only [List.length_cons] at hlen
  have hk : k < N := by omega
  have hN := B.nb
  have hNc := B.nc
  have hc63 := B.c63
  obtain ⟨K1, hK1⟩ : ∃ K1, K1 = k + 1 := ⟨_, rfl⟩
  have hv1 : IntKind.i64.wrap ((k : Int) + 1) = (K1 : Int) := by rw [IntKind.wrap_i64]; omega
  obtain ⟨K2, hK2⟩ : ∃ K2, K2 = k + 2 := ⟨_, rfl⟩
  have kx : w1.cell? ⟨b, o + K1, none⟩ = some (.int .u8 130) := by have := B.bs.at1; rw [Nat.add_assoc, ← hK1] at this; exact this
  have hv2 : IntKind.i64.wrap ((k : Int) + 2) = (K2 : Int) := by rw [IntKind.wrap_i64]; omega
  have d1 : K1 < N := by omega
  obtain ⟨K3, hK3⟩ : ∃ K3, K3 = k + 3 := ⟨_, rfl⟩
  have hv3 : IntKind.i64.wrap ((K2 : Int) + 1) = (K3 : Int) := by rw [IntKind.wrap_i64]; omega
  have ky : w1.cell? ⟨b, o + K2, none⟩ = some (.int .u8 y) := by have := B.bs.tail.at1; rw [show o + k + 1 + 1 = o + K2 by omega] at this; exact this
  obtain ⟨y0, y1⟩ := B.byt.tail.tail.head
  have d2 : K2 < N := by omega
  obtain ⟨K4, hK4⟩ : ∃ K4, K4 = k + 4 := ⟨_, rfl⟩
  have hv4 : IntKind.i64.wrap ((K2 : Int) + 2) = (K4 : Int) := by rw [IntKind.wrap_i64]; omega
  have kz : w1.cell? ⟨b, o + K3, none⟩ = some (.int .u8 z) := by have := B.bs.tail.tail.at1; rw [show o + k + 1 + 1 + 1 = o + K3 by omega] at this; exact this
  obtain ⟨z0, z1⟩ := B.byt.tail.tail.tail.head
  have d3 : K3 < N := by omega
  obtain ⟨R, hR⟩ : ∃ R, R = N - K2 := ⟨_, rfl⟩
  have hvR : IntKind.i64.wrap ((N : Int) - (K2 : Int)) = (R : Int) := by rw [IntKind.wrap_i64]; omega
  obtain ⟨S, hS⟩ : ∃ S, S = N - K4 := ⟨_, rfl⟩
  have hvS : IntKind.i64.wrap ((N : Int) - (K4 : Int)) = (S : Int) := by rw [IntKind.wrap_i64]; omega
  obtain ⟨q, hq⟩ : ∃ q, q = 256 * y + z := ⟨_, rfl⟩
  have e1 : decide ((R : Int) < 2) = false := by simp; omega
  have e2 : decide (q < 256) = false := by simp; omega
  have hy1 : IntKind.i64.wrap y = y := by rw [IntKind.wrap_i64]; omega
  have hy2 : IntKind.i64.wrap (256 * y) = 256 * y := by rw [IntKind.wrap_i64]; omega
  have hq1 : IntKind.i64.wrap (256 * y + z) = q := by rw [IntKind.wrap_i64]; omega
  have e3 : decide ((S : Int) < q) = true := by simp; omega
  clear hK1 hK2 hK3 hK4 hR hS h1 h2 hq
  clear ht A B C1 hw1 hlen
  go_enter Tryd.func11, Tryd.ntmps11
  go_upto_region 1 with fail
  rw [← HW1.out]
  go_wp2
  refine wp_loop_rounds 3 ?_
  rw [rounds_succ]
  go_wp2
  rw [rounds_succ]
  go_wp2
  rw [rounds_succ]
  go_wp2
  refine bodyPost_ret (v := .tuple #[.agg #[.int .u8 0, .slice none 0 0, .int .i64 0, .int .i64 0], .int .i64 141]) ?_ rfl ⟨rfl, Chg.four HC1.out _ _ _ _⟩
  simp [results, Tryd.results11, go_sem, f0, f1, f2, f3]
end Go.Proofs.YtnidfbcninkglaaDoor
