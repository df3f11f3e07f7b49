/-
  Columns of 32 bits modulo the prime of P-256: a high column is brought down.
-/
import Derived.Test.YtnahkcapbbjfdaaRed1
namespace Go.Proofs.Ytnahkcapbbjfdaa
open Go.RowKit
set_option linter.unusedVariables false

/-- Below the old size only one block has changed, and nothing is new. -/
structure Bt (b : Nat) (w w' : World) : Prop where
  os : w'.os = w.os
  tape : w'.tape = w.tape
  output : w'.output = w.output
  size : w'.heap.size = w.heap.size
  block : ∀ k, k ≠ b → w'.heap[k]? = w.heap[k]?

theorem Bt.refl (b : Nat) (w : World) : Bt b w w := ⟨rfl, rfl, rfl, rfl, fun _ _ => rfl⟩
theorem Bt.trans {b : Nat} {u v w : World} (h : Bt b u v) (k : Bt b v w) : Bt b u w :=
  ⟨k.os.trans h.os, k.tape.trans h.tape, k.output.trans h.output, k.size.trans h.size, fun i hi => (k.block i hi).trans (h.block i hi)⟩
theorem Bt.drew {b : Nat} {v w : World} (h : Bt b v w) : Bt b v w.drew := ⟨h.os, h.tape, h.output, h.size, h.block⟩
theorem Bt.set {b : Nat} {v w : World} (h : Bt b v w) (i : Nat) (x : Value) : Bt b v (w.setCell ⟨b, i, none⟩ x) :=
  ⟨h.os, h.tape, h.output, by simp [World.setCell]; exact h.size, fun k hk => (Below.heap_setCell _ _ _ _ hk).trans (h.block k hk)⟩
theorem Ar.bt {w w' : World} {b b' : Nat} {c : Array Value} (h : Ar w b c) (k : Bt b' w w') (hb : b ≠ b') : Ar w' b c := by
  obtain ⟨t, h⟩ := h
  exact ⟨t, (k.block b hb).trans h⟩
theorem Chg.bt {a w w' : World} {b : Nat} (h : Chg a w) (k : Bt b w w') (hb : a.heap.size ≤ b) : Chg a w' :=
  ⟨k.os.trans h.os, k.tape.trans h.tape, k.output.trans h.output, by rw [k.size]; exact h.size, fun i hi => (k.block i (by omega)).trans (h.block i hi)⟩

/-- Columns within some bound. -/
def Cb (m : Int) (c : Nat → Int) : Prop := ∀ i, -m ≤ c i ∧ c i ≤ m

def fold (c : Nat → Int) (k : Nat) : Nat → Int :=
  let v := c k
  let c1 := upd c k 0
  let c2 := upd c1 (k - 1) (c1 (k - 1) + v)
  let c3 := upd c2 (k - 2) (c2 (k - 2) - v)
  let c4 := upd c3 (k - 5) (c3 (k - 5) - v)
  upd c4 (k - 8) (c4 (k - 8) + v)

theorem wrap_i {x : Int} (h0 : -9223372036854775808 ≤ x) (h1 : x < 9223372036854775808) : IntKind.i64.wrap x = x := by rw [IntKind.wrap_i64]; omega

set_option maxRecDepth 100000 in
set_option maxHeartbeats 4000000 in
theorem fold_any (b k : Nat) (c : Nat → Int) (w : World) (hk : 8 ≤ k) (hk' : k < 16) (ha : Ar w b (arr .i64 16 c)) (hc : Cb 1099511627776 c) :
    Calls Try.prog 78 #[.pointer (some ⟨b, 0, none⟩), .int .i64 k] w fun r w' => r = .returned (.tuple #[]) ∧ Bt b w w' ∧ Ar w' b (arr .i64 16 (fold c k)) := by
  obtain ⟨k1, hk1⟩ : ∃ q : Nat, (k : Int) - 1 = q := ⟨k - 1, by omega⟩
  obtain ⟨k2, hk2⟩ : ∃ q : Nat, (k : Int) - 2 = q := ⟨k - 2, by omega⟩
  obtain ⟨k5, hk5⟩ : ∃ q : Nat, (k : Int) - 5 = q := ⟨k - 5, by omega⟩
  obtain ⟨k8, hk8⟩ : ∃ q : Nat, (k : Int) - 8 = q := ⟨k - 8, by omega⟩
  have e1 : k - 1 = k1 := by omega
  have e2 : k - 2 = k2 := by omega
  have e5 : k - 5 = k5 := by omega
  have e8 : k - 8 = k8 := by omega
  obtain ⟨v, hv⟩ : ∃ v, v = c k := ⟨_, rfl⟩
  obtain ⟨x1, hx1⟩ : ∃ v, v = c k1 := ⟨_, rfl⟩
  obtain ⟨x2, hx2⟩ : ∃ v, v = c k2 := ⟨_, rfl⟩
  obtain ⟨x5, hx5⟩ : ∃ v, v = c k5 := ⟨_, rfl⟩
  obtain ⟨x8, hx8⟩ : ∃ v, v = c k8 := ⟨_, rfl⟩
  have gv := (ha.cell k).trans (arr_get .i64 16 c hk')
  have g1 := (ha.cell k1).trans (arr_get .i64 16 c (by omega))
  have g2 := (ha.cell k2).trans (arr_get .i64 16 c (by omega))
  have g5 := (ha.cell k5).trans (arr_get .i64 16 c (by omega))
  have g8 := (ha.cell k8).trans (arr_get .i64 16 c (by omega))
  have fv := ha.frozen k
  have f1 := ha.frozen k1
  have f2 := ha.frozen k2
  have f5 := ha.frozen k5
  have f8 := ha.frozen k8
  rw [← hv] at gv
  rw [← hx1] at g1
  rw [← hx2] at g2
  rw [← hx5] at g5
  rw [← hx8] at g8
  have bv := hc k
  have b1 := hc k1
  have b2 := hc k2
  have b5 := hc k5
  have b8 := hc k8
  rw [← hv] at bv
  rw [← hx1] at b1
  rw [← hx2] at b2
  rw [← hx5] at b5
  rw [← hx8] at b8
  have w1 := wrap_i (x := x1 + v) (by omega) (by omega)
  have w2 := wrap_i (x := x2 - v) (by omega) (by omega)
  have w5 := wrap_i (x := x5 - v) (by omega) (by omega)
  have w8 := wrap_i (x := x8 + v) (by omega) (by omega)
  have v1 := wrap_i (x := (k1 : Int)) (by omega) (by omega)
  have v2 := wrap_i (x := (k2 : Int)) (by omega) (by omega)
  have v5 := wrap_i (x := (k5 : Int)) (by omega) (by omega)
  have v8 := wrap_i (x := (k8 : Int)) (by omega) (by omega)
  have l0 : (k : Int) < 16 := by omega
  have l1 : (k1 : Int) < 16 := by omega
  have l2 : (k2 : Int) < 16 := by omega
  have l5 : (k5 : Int) < 16 := by omega
  have l8 : (k8 : Int) < 16 := by omega
  have n01 : ¬ k1 = k := by omega
  have n02 : ¬ k2 = k := by omega
  have n05 : ¬ k5 = k := by omega
  have n08 : ¬ k8 = k := by omega
  have n12 : ¬ k2 = k1 := by omega
  have n15 : ¬ k5 = k1 := by omega
  have n18 : ¬ k8 = k1 := by omega
  have n25 : ¬ k5 = k2 := by omega
  have n28 : ¬ k8 = k2 := by omega
  have n58 : ¬ k8 = k5 := by omega
  have hf : arr .i64 16 (fold c k) = arr .i64 16 (upd (upd (upd (upd (upd c k 0) k1 (x1 + v)) k2 (x2 - v)) k5 (x5 - v)) k8 (x8 + v)) := by
    unfold fold
    rw [e1, e2, e5, e8]
    simp only [upd_ne _ _ n01, upd_ne _ _ n02, upd_ne _ _ n05, upd_ne _ _ n08, upd_ne _ _ n12, upd_ne _ _ n15, upd_ne _ _ n18, upd_ne _ _ n25, upd_ne _ _ n28, upd_ne _ _ n58, ← hv, ← hx1, ← hx2, ← hx5, ← hx8]
  obtain ⟨c1, hc1⟩ : ∃ c1, c1 = upd (upd c k 0) k1 (x1 + v) := ⟨_, rfl⟩
  obtain ⟨c2, hc2⟩ : ∃ c2, c2 = upd c1 k2 (x2 - v) := ⟨_, rfl⟩
  obtain ⟨c3, hc3⟩ : ∃ c3, c3 = upd c2 k5 (x5 - v) := ⟨_, rfl⟩
  have HZ : Hid (c1 = upd (upd c k 0) k1 (x1 + v) ∧ c2 = upd c1 k2 (x2 - v) ∧ c3 = upd c2 k5 (x5 - v)) := ⟨hc1, hc2, hc3⟩
  have HY : Hid (c1 k2 = x2 ∧ c2 k5 = x5 ∧ c3 k8 = x8) := by
    refine ⟨?_, ?_, ?_⟩
    · rw [hc1, upd_ne _ _ n12, upd_ne _ _ n02, hx2]
    · rw [hc2, hc1, upd_ne _ _ n25, upd_ne _ _ n15, upd_ne _ _ n05, hx5]
    · rw [hc3, hc2, hc1, upd_ne _ _ n58, upd_ne _ _ n28, upd_ne _ _ n18, upd_ne _ _ n08, hx8]
  rw [← hc1, ← hc2, ← hc3] at hf
  have HF : Hid (arr .i64 16 (fold c k) = arr .i64 16 (upd c3 k8 (x8 + v))) := hf
  have HA : Hid (Ar w b (arr .i64 16 c)) := ha
  clear hf ha hc hc1 hc2 hc3 hv hx1 hx2 hx5 hx8 bv b1 b2 b5 b8 e1 e2 e5 e8 g2 g5 g8 f2 f5 f8
  go_enter Try.func78, Try.ntmps78
  go_upto_region 2 with (fail)
  go_cut [] from 14 to 23 (fun wc => Bt b w wc ∧ Ar wc b (arr .i64 16 c1))
  case first =>
    go_region_with (fail)
    all_goals go_wp2_with fail
    all_goals go_meet
    all_goals
      refine ⟨(((Bt.refl b w).set _ _).set _ _).drew, ?_⟩
      have := (HA.out.set k (.int .i64 0)).set k1 (.int .i64 (x1 + v))
      rw [arr_set, arr_set, ← HZ.out.1] at this
      exact this
  case rest =>
    obtain ⟨hb, ha⟩ := hcut
    obtain ⟨wa, hwa⟩ : ∃ wa, wa = wc := ⟨_, rfl⟩
    subst hwa
    clear gv g1 fv f1
    have g2 := (ha.cell k2).trans (arr_get .i64 16 c1 (i := k2) (by omega))
    rw [HY.out.1] at g2
    have f2 := ha.frozen k2
    have HB1 : Hid (Bt b w wa) := hb
    have HA1 : Hid (Ar wa b (arr .i64 16 c1)) := ha
    clear hb ha
    go_upto_region 3 with (fail)
    go_cut [] from 24 to 33 (fun wc => Bt b w wc ∧ Ar wc b (arr .i64 16 c2))
    case first =>
      go_region_with (fail)
      all_goals go_wp2_with fail
      all_goals go_meet
      all_goals
        refine ⟨(HB1.out.set _ _).drew, ?_⟩
        have := HA1.out.set k2 (.int .i64 (x2 - v))
        rw [arr_set, ← HZ.out.2.1] at this
        exact this
    case rest =>
      obtain ⟨hb, ha⟩ := hcut
      obtain ⟨wb, hwb⟩ : ∃ wb, wb = wc := ⟨_, rfl⟩
      subst hwb
      clear g2 f2
      have g5 := (ha.cell k5).trans (arr_get .i64 16 c2 (i := k5) (by omega))
      rw [HY.out.2.1] at g5
      have f5 := ha.frozen k5
      have HB2 : Hid (Bt b w wb) := hb
      have HA2 : Hid (Ar wb b (arr .i64 16 c2)) := ha
      clear hb ha
      go_upto_region 4 with (fail)
      go_cut [] from 34 to 43 (fun wc => Bt b w wc ∧ Ar wc b (arr .i64 16 c3))
      case first =>
        go_region_with (fail)
        all_goals go_wp2_with fail
        all_goals go_meet
        all_goals
          refine ⟨(HB2.out.set _ _).drew, ?_⟩
          have := HA2.out.set k5 (.int .i64 (x5 - v))
          rw [arr_set, ← HZ.out.2.2] at this
          exact this
      case rest =>
        obtain ⟨hb, ha⟩ := hcut
        obtain ⟨wd, hwd⟩ : ∃ wd, wd = wc := ⟨_, rfl⟩
        subst hwd
        clear g5 f5
        have g8 := (ha.cell k8).trans (arr_get .i64 16 c3 (i := k8) (by omega))
        rw [HY.out.2.2] at g8
        have f8 := ha.frozen k8
        have HB3 : Hid (Bt b w wd) := hb
        have HA3 : Hid (Ar wd b (arr .i64 16 c3)) := ha
        clear hb ha
        go_wp2_with fail
        go_region_with (fail)
        all_goals go_wp2
        all_goals
          go_end0
          refine ⟨rfl, (HB3.out.set _ _).drew, ?_⟩
          have := HA3.out.set k8 (.int .i64 (x8 + v))
          rw [arr_set, ← HF.out] at this
          exact this
end Go.Proofs.Ytnahkcapbbjfdaa
