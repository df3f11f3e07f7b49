/-
  The walk of WorldWhole: it returns true, and writes nothing that was there.
-/
import Derived.Test.YtiegofelidnnlaaHead
import Derived.Deep.QuietTactic
import Derived.BigQuiet
namespace Go.Proofs.Ytiegofelidnnlaa
open Go.RowKit
set_option linter.unusedVariables false

theorem rd_first {w : World} {v : Value} {xs : List Int} (h : Rd w v xs) {w' : World} (hc : Chg Non w w') : Rd w' v xs := h.keep (fun k _ hk => hc.block k hk (fun e => e))

/-- A source that nobody touched. -/
theorem RandA.kept {S : Nat → Prop} {w w' : World} {r : Nat} {v : Value} {xs : List Int} {st : Int} (h : RandA w r v xs st) (hc : Chg S w w') (h1 : ¬ S r) (h2 : ∀ k, v.ownBlock = some k → ¬ S k) : RandA w' r v xs st :=
  h.keep (hc.block r h.lt h1) (fun k e => hc.block k (h.2.lt k e) (h2 k e))

theorem Own.kept {S : Nat → Prop} {w w' : World} {g o n c : Nat} {xs : List Int} (h : Own w g o n c xs) (hc : Chg S w w') (h1 : ¬ S g) : Own w' g o n c xs :=
  h.keep (hc.block g h.lt h1)

theorem step_len (s : List Int × Int) : (step1 s).2.1.length ≤ max s.1.length 7 := by
  obtain ⟨l, st⟩ := s
  cases l with
  | nil => simp [step1, bytes8]
  | cons x r => simp [step1]; omega

theorem draw_rest (n : Nat) (s : List Int × Int) : (draw n s).2.1.length ≤ max s.1.length 7 := by
  induction n generalizing s with
  | zero => simp [draw]; omega
  | succ n ih =>
    have h1 := ih (step1 s).2
    have h2 := step_len s
    simp only [draw]
    omega

theorem draw_take (n k : Nat) (s : List Int × Int) : (draw (n + k) s).1.take n = (draw n s).1 := by
  rw [draw_add]
  simp only
  rw [List.take_append_of_le_length (by rw [draw_len]; exact Nat.le_refl _), List.take_of_length_le (by rw [draw_len]; exact Nat.le_refl _)]

theorem rd_drewN {w : World} {v : Value} {xs : List Int} (h : Rd w v xs) (n : Nat) : Rd (w.drewN n) v xs := h.keep (fun k _ _ => by simp)

set_option maxHeartbeats 2000000 in
theorem whole_walk (ad : Option Addr) (len cap : Nat) (xs : List Int) (st : Int) (n m : Nat) (w : World) (hv : Rd w (.slice ad len cap) xs) (hl : xs.length ≤ 140737488351232) (hn : n ≤ 65535) (hm : m ≤ 65535) :
    Calls Try.prog 5 #[.slice ad len cap, .int .u64 st, .int .u16 n, .int .u16 m] w fun e w' => e = .returned (.bool true) ∧ Below w.heap.size w w' := by
  have HV : Hid (Rd w (.slice ad len cap) xs) := hv
  clear hv
  go_enter Try.func5, Try.ntmps5
  go_wp2_with fail
  refine (head_any _).mono ?_
  rintro e w1 ⟨rfl, hc1⟩
  have HC1 : Hid (Chg Non w w1) := hc1
  clear hc1
  go_wp2_with fail
  refine (newRand_any _ xs _ _ (rd_first HV.out HC1.out) (by omega)).mono ?_
  rintro e w2 ⟨r1, v1, rfl, hR1, hc2, hr1, hv1⟩
  have HC2 : Hid (Chg Non w w2) := HC1.out.trans hc2 (fun _ _ e => e)
  have hs1 := HC1.out.size
  have HR1 : Hid (RandA w2 r1 v1 xs st ∧ ∀ k, v1.ownBlock = some k → w1.heap.size ≤ k ∧ k ≠ r1) := ⟨hR1, hv1⟩
  have hlt1 := hR1.lt
  clear hR1 hc2 hv1
  go_wp2_with fail
  refine (newRand_any _ xs _ _ (rd_first HV.out HC2.out) (by omega)).mono ?_
  rintro e w3 ⟨r2, v2, rfl, hR2, hc3, hr2, hv2⟩
  have HC3 : Hid (Chg Non w w3) := HC2.out.trans hc3 (fun _ _ e => e)
  have HR1' : Hid (RandA w3 r1 v1 xs st ∧ ∀ k, v1.ownBlock = some k → w1.heap.size ≤ k ∧ k ≠ r1 ∧ k < w2.heap.size) := ⟨HR1.out.1.kept hc3 (fun e => e) (fun _ _ e => e), fun k e => ⟨(HR1.out.2 k e).1, (HR1.out.2 k e).2, HR1.out.1.2.lt k e⟩⟩
  have HR2 : Hid (RandA w3 r2 v2 xs st ∧ ∀ k, v2.ownBlock = some k → w2.heap.size ≤ k ∧ k ≠ r2) := ⟨hR2, hv2⟩
  have hlt2 := hR2.lt
  clear hR2 hc3 hv2 HR1 HC2 HC1
  go_wp2_with fail
  refine (read_any r1 v1 xs st _ _ HR1'.out.1 (by omega) (fun e => (HR1'.out.2 r1 e).2.1 rfl)).mono ?_
  rintro e w4 ⟨N, hN, g1, v1', rfl, ho1, hR4, hc4, hg1, hb1, hb2, hb3⟩
  obtain rfl : N = n := by omega
  have HA1 : Hid (Own w4 g1 0 N N (draw N (xs, st)).1 ∧ Chg (One r1) w3 w4) := ⟨ho1, hc4⟩
  have HR4 : Hid (RandA w4 r1 v1' (draw N (xs, st)).2.1 (draw N (xs, st)).2.2 ∧ v1'.ownBlock ≠ some r1) := ⟨hR4, hb1⟩
  have hs4 := hc4.size
  clear ho1 hR4 hc4 hb1 hb2 hb3 HR1' hN
  go_wp2_with fail
  refine (read_any r1 v1' _ _ _ _ HR4.out.1 (Nat.le_trans (draw_rest N (xs, st)) (by simp only; omega)) HR4.out.2).mono ?_
  rintro e w5 ⟨M, hM, g2, v1'', rfl, ho2, -, hc5, hg2, -⟩
  obtain rfl : M = m := by omega
  have HA2 : Hid (Own w5 g1 0 N N (draw N (xs, st)).1 ∧ Own w5 g2 0 M M (draw M (draw N (xs, st)).2).1 ∧ Chg (One r1) w3 w5) := ⟨HA1.out.1.kept hc5 (fun e => by cases e; omega), ho2, HA1.out.2.trans hc5 (fun _ _ e => e)⟩
  clear ho2 hc5 HA1 HR4 hM
  go_wp2_with (at_builtin; refine wpList_app _ rfl (.tmp 35) (.tmp 39) rfl (.slice (some ⟨g1, 0, none⟩) N N) (.slice (some ⟨g2, 0, none⟩) M M) (draw N (xs, st)).1 (draw M (draw N (xs, st)).2).1 rfl rfl (.inr ⟨_, _, _, _, rfl, HA2.out.1⟩) HA2.out.2.1.rd ?hlen ?hkk)
  case hlen => rw [draw_len, draw_len]; omega
  case hkk =>
    intro v' w6 ho6 hc6 hb6
    have HX : Hid (OwnV w6 v' (draw (N + M) (xs, st)).1) := by rw [draw_add]; exact ho6
    have HC6 : Hid (Chg (One r1) w3 w6) := HA2.out.2.2.trans hc6 (fun i hi e => by simp [Value.ownBlock] at e; omega)
    obtain ⟨ao, n', c', rfl, hn', hnc', hmx'⟩ := ho6.rd.shape
    obtain rfl : n' = N + M := by rw [hn']; simp [draw_len]
    unfold maxLen at hmx'
    have HR6 : Hid (RandA w6 r2 v2 xs st) := HR2.out.1.kept HC6.out (fun e => by cases e; omega) (fun k hk e => by cases e; have := (HR2.out.2 r1 hk).1; omega)
    have HCN : Hid (Chg Non w w6) := HC3.out.trans HC6.out (fun i hi e => by cases e; omega)
    have hs6 := HC6.out.size
    have HB6 : Hid (∀ k, (Value.slice ao (N + M) c').ownBlock = some k → w3.heap.size ≤ k) := by
      intro k e
      have hs5 := HA2.out.2.2.size
      rcases hb6 with h | h <;> rw [h] at e <;> simp [Value.ownBlock] at e <;> omega
    clear ho6 hc6 hb6 hn' HA2
    go_wp2_with fail
    refine (read_any r2 v2 _ _ _ _ HR6.out (by omega) (fun e => (HR2.out.2 r2 e).2 rfl)).mono ?_
    rintro e w7 ⟨K, hK, g3, v2', rfl, ho7, -, hc7, hg3, -⟩
    have HY7 : Hid (Own w7 g3 0 K K (draw K (xs, st)).1) := ho7
    have HC7 : Hid (Chg (One r2) w6 w7) := hc7
    have HN7 : Hid (Chg Non w w7) := HCN.out.trans hc7 (fun i hi e => by cases e; omega)
    have HK : Hid ((K : Int) = max 0 (min ((N : Int) + M) 65536)) := hK
    have hs7 := hc7.size
    have hg7 := ho7.lt
    clear hc7 ho7 hK HCN HR6
    go_wp2_with fail
    refine (newRand_any _ xs _ _ (rd_first HV.out HN7.out) (by omega)).mono ?_
    rintro e w8 ⟨r3, v3, rfl, hR8, hc8, hr3, hv3⟩
    have HR8 : Hid (RandA w8 r3 v3 xs st ∧ v3.ownBlock ≠ some r3) := ⟨hR8, fun e => (hv3 r3 e).2 rfl⟩
    have HC8 : Hid (Chg Non w7 w8) := hc8
    have hs8 := hc8.size
    clear hR8 hc8 hv3
    go_wp2_with fail
    refine (read_any r3 v3 _ _ _ _ HR8.out.1 (by omega) HR8.out.2).mono ?_
    rintro e w9 ⟨P, hP, g4, v4, rfl, -, -, hc9, -, -⟩
    obtain rfl : P = 65536 := by omega
    have h79 : Chg Non w7 w9 := HC8.out.trans hc9 (fun i hi e => by cases e; omega)
    have HN9 : Hid (Chg Non w w9) := HN7.out.trans h79 (fun _ _ e => e)
    have HY9 : Hid (Own w9 g3 0 K K (draw K (xs, st)).1) := HY7.out.kept h79 (fun e => e)
    have HX9 : Hid (Rd w9 (.slice ao (N + M) c') (draw (N + M) (xs, st)).1) :=
      (HX.out.keep (fun k e => (HC7.out.trans h79 (fun _ _ e => e.elim)).block k (HX.out.lt k e) (fun e' => by cases e'; have := HB6.out r2 e; omega))).rd
    clear hP hc9 h79 HC8 HR8 HN7 HY7 HC7 HB6 HX HC3 HC6 HR2
    by_cases hle : N + M ≤ 65536
    · have hle' : (N : Int) + M ≤ 65536 := by omega
      obtain rfl : K = N + M := by have := HK.out; omega
      have hys := run_str w9 _ _ HY9.out.rd
      have hxs := run_str w9 _ _ HX9.out
      generalize strOfNums (draw (N + M) (xs, st)).1 = sx at *
      go_wp2
      go_ret
      exact ⟨by simp, HN9.out.below (Nat.le_refl _) (fun _ e => e.elim)⟩
    · have hle' : ¬ (N : Int) + M ≤ 65536 := by omega
      obtain rfl : K = 65536 := by have := HK.out; omega
      obtain ⟨x, rfl⟩ : ∃ x, ao = some x := by
        obtain ⟨ao', _, _, e, hnn, hcc, _, h0, _⟩ := HX9.out
        cases e
        cases ao with
        | none => have := h0 rfl; omega
        | some x => exact ⟨x, rfl⟩
      have hys := fun nq => run_str (w9.drewN nq) _ _ (rd_drewN HY9.out.rd nq)
      have hxs := fun nq => run_str (w9.drewN nq) _ _ (rd_drewN (rd_take (m := 65536) HX9.out (by omega)) nq)
      have hcc : (65536 : Int) ≤ (c' : Int) := by omega
      have hdt : (draw (N + M) (xs, st)).1.take 65536 = (draw 65536 (xs, st)).1 := by
        have := draw_take 65536 (N + M - 65536) (xs, st)
        rwa [show 65536 + (N + M - 65536) = N + M from by omega] at this
      simp only [hdt] at hxs
      clear hdt
      generalize strOfNums (draw 65536 (xs, st)).1 = sx at *
      go_wp2_with fail
      go_quiet (fail)
      go_wp2
      go_ret
      exact ⟨by simp, below_drewN (HN9.out.below (Nat.le_refl _) (fun _ e => e.elim)) _⟩
end Go.Proofs.Ytiegofelidnnlaa
