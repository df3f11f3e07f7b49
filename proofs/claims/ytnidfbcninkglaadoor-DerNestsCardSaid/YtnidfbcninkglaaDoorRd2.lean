/-
  The item at a place.
-/
import Derived.Test.YtnidfbcninkglaaDoorRd1
import Derived.Deep.RegionHeld3
namespace Go.Proofs.YtnidfbcninkglaaDoor
open Go.RowKit
set_option linter.unusedVariables false
set_option maxRecDepth 100000

theorem drop_rd {w : World} {b o n c : Nat} {xs : List Int} (h : Bs w b o xs) (hn : n = xs.length) (hc : n ≤ c) (hm : c ≤ 9223372036854775807) (j : Nat) (hj : j ≤ n) : Rd w (.slice (if c = j then some ⟨b, o, none⟩ else some ⟨b, o + j, none⟩) (n - j) (c - j)) (xs.drop j) := by
  by_cases h1 : c = j
  · have : xs.drop j = [] := List.drop_of_length_le (by omega)
    rw [this, if_pos h1]
    exact Bs.rd (fun j u hj => by simp at hj) (by simp; omega) (by omega) (by omega)
  · rw [if_neg h1]
    exact Bs.rd (h.drop j) (by rw [List.length_drop]; omega) (by omega) (by omega)
theorem take_rd {w : World} {ao : Option Addr} {n c : Nat} {xs : List Int} (h : Rd w (.slice ao n c) xs) (k : Nat) (hk : k ≤ n) : Rd w (.slice ao k c) (xs.take k) := by
  obtain ⟨ao', n', c', e, hn, hc, hmx, h0, hx⟩ := h
  injection e with e1 e2 e3
  subst e1 e2 e3
  refine ⟨_, _, _, rfl, by rw [List.length_take]; omega, by omega, hmx, h0, fun x e j u hj => ?_⟩
  rw [List.getElem?_take] at hj
  split at hj
  · exact hx x e j u hj
  · cases hj

structure ReadP (w w' : World) (v : Value) (xs : List Int) : Prop where
  own : OwnN w w' v xs

theorem keep4 {w u : World} (a b c d : Value) (i : Nat) (hi : w.heap.size ≠ i) : ((((u.setCell ⟨w.heap.size, 0, none⟩ a).setCell ⟨w.heap.size, 1, none⟩ b).setCell ⟨w.heap.size, 2, none⟩ c).setCell ⟨w.heap.size, 3, none⟩ d).heap[i]? = u.heap[i]? := by
  rw [Below.heap_setCell _ _ _ _ (fun e => hi e.symm), Below.heap_setCell _ _ _ _ (fun e => hi e.symm), Below.heap_setCell _ _ _ _ (fun e => hi e.symm), Below.heap_setCell _ _ _ _ (fun e => hi e.symm)]
theorem Chg.four {w u : World} (h : Chg Non w u) (a b c d : Value) : Chg Non w ((((u.setCell ⟨w.heap.size, 0, none⟩ a).setCell ⟨w.heap.size, 1, none⟩ b).setCell ⟨w.heap.size, 2, none⟩ c).setCell ⟨w.heap.size, 3, none⟩ d) :=
  Chg.setCell (p := ⟨w.heap.size, 3, none⟩) (Chg.setCell (p := ⟨w.heap.size, 2, none⟩) (Chg.setCell (p := ⟨w.heap.size, 1, none⟩) (Chg.setCell (p := ⟨w.heap.size, 0, none⟩) h (fun h => absurd h (Nat.lt_irrefl _)) _) (fun h => absurd h (Nat.lt_irrefl _)) _) (fun h => absurd h (Nat.lt_irrefl _)) _) (fun h => absurd h (Nat.lt_irrefl _)) _

set_option maxHeartbeats 4000000 in
theorem read_tag (v : Value) (xs : List Int) (hb : Byt xs) (k : Nat) (t : Int) (r : List Int) (w : World) (hv : Rd w v xs) (hk : k < xs.length) (hd : xs.drop k = t :: r) (hl : xs.length ≤ 140737488355328) (ht : t % 32 = 31) :
    Calls Tryd.prog 35 #[v, .int .i64 k] w fun e w' => e = .returned (.tuple #[itemV 0 (.slice none 0 0) 0 0, faultV 142 k]) ∧ Chg Non w w' := by
  obtain ⟨b, o, c, rfl, h1, h2, h3⟩ := hv.bs (by intro e; rw [e] at hk; simp at hk)
  obtain ⟨n, hn⟩ : ∃ n, n = xs.length := ⟨_, rfl⟩
  rw [← hn] at h1 hk hl ⊢
  have hbd : Byt (t :: r) := by rw [← hd]; exact hb.drop k
  have h4 : Bs w b (o + k) (t :: r) := by rw [← hd]; exact h3.drop k
  have hlen : n - k = r.length + 1 := by
    have := congrArg List.length hd
    rw [List.length_drop, ← hn] at this
    simpa using this
  obtain ⟨t0, t1⟩ := hbd.head
  have hx := h4.at0
  have d0 : decide ((k : Int) < 0) = false := by simp
  have d1 : decide ((n : Int) ≤ (k : Int)) = false := by simp; omega
  have hck : ¬ c = k := by omega
  have HB : Hid (Byt r) := hbd.tail
  obtain ⟨o', ho'⟩ : ∃ o', o' = o + k := ⟨_, rfl⟩
  obtain ⟨n', hn'⟩ : ∃ n', n' = n - k := ⟨_, rfl⟩
  obtain ⟨c', hc'⟩ : ∃ c', c' = c - k := ⟨_, rfl⟩
  rw [← ho'] at h4 hx
  rw [← hn'] at hlen
  have hnc' : n' ≤ c' := by omega
  have hcm' : c' ≤ 9223372036854775807 := by omega
  have hn47 : n' ≤ 140737488355328 := by omega
  have H4 : Hid (Bs w b o' (t :: r)) := h4
  have HLEN : Hid (n' = r.length + 1) := hlen
  have HO : Hid (o' = o + k ∧ n' = n - k ∧ c' = c - k) := ⟨ho', hn', hc'⟩
  have hn1 : 1 ≤ n' := by omega
  obtain ⟨w1, hw1⟩ : ∃ w1, w1 = w.alloc (.cells #[.int .u8 0, .slice none 0 0, .int .i64 0, .int .i64 0] 25) := ⟨_, rfl⟩
  have HW1 : Hid (Chg Non w w1) := by rw [hw1]; exact (Chg.refl _ _).alloc _
  have HW2 : Hid (w1 = w.alloc (.cells #[.int .u8 0, .slice none 0 0, .int .i64 0, .int .i64 0] 25)) := hw1
  have hx1 : w1.cell? ⟨b, o', none⟩ = some (.int .u8 t) := (H4.out.chg HW1.out).at0
  unfold itemV faultV
  clear hv h3 hbd h4 hn hb hlen hd ho' hn' hc' hx hw1
  have dt : (t % 32 != 31) = false := by simpa using ht
  have HC4 := four (w := w) (u := w1) (by rw [HW2.out]; exact Chg.refl _ _)
  obtain ⟨c0, c1, c2, c3, cf⟩ := cells4 HC4
  clear HC4
  go_enter Tryd.func35, Tryd.ntmps35
  go_upto_region 4 with fail
  rw [← HO.out.1, ← HO.out.2.1, ← HO.out.2.2, ← HW2.out]
  go_wp2_with (go_at_call 40; refine (isTag_any t t0 t1 _).mono ?_; rintro e w9 ⟨rfl, hw9⟩; obtain rfl := hw9.symm; rw [dt])
  refine bodyPost_ret (v := .tuple #[.agg #[.int .u8 0, .slice none 0 0, .int .i64 0, .int .i64 0], .iface 66 (.agg #[.int .i64 142, .int .i64 k])]) ?_ rfl ⟨rfl, ?_⟩
  · simp [results, Tryd.results35, go_sem, c0, c1, c2, c3]
  · exact Chg.four HW1.out _ _ _ _

set_option maxHeartbeats 4000000 in
theorem read_len (v : Value) (xs : List Int) (hb : Byt xs) (k : Nat) (t : Int) (r : List Int) (w : World) (hv : Rd w v xs) (hk : k < xs.length) (hd : xs.drop k = t :: r) (hl : xs.length ≤ 140737488355328) (ht : t % 32 ≠ 31) (he : (lenL r).1 ≠ 0) :
    Calls Tryd.prog 35 #[v, .int .i64 k] w fun e w' => e = .returned (.tuple #[itemV 0 (.slice none 0 0) 0 0, faultV (lenL r).1 k]) ∧ Chg Non w w' := by
  obtain ⟨b, o, c, rfl, h1, h2, h3⟩ := hv.bs (by intro e; rw [e] at hk; simp at hk)
  obtain ⟨n, hn⟩ : ∃ n, n = xs.length := ⟨_, rfl⟩
  rw [← hn] at h1 hk hl ⊢
  have hbd : Byt (t :: r) := by rw [← hd]; exact hb.drop k
  have h4 : Bs w b (o + k) (t :: r) := by rw [← hd]; exact h3.drop k
  have hlen : n - k = r.length + 1 := by
    have := congrArg List.length hd
    rw [List.length_drop, ← hn] at this
    simpa using this
  obtain ⟨t0, t1⟩ := hbd.head
  have hx := h4.at0
  have d0 : decide ((k : Int) < 0) = false := by simp
  have d1 : decide ((n : Int) ≤ (k : Int)) = false := by simp; omega
  have hck : ¬ c = k := by omega
  have HB : Hid (Byt r) := hbd.tail
  obtain ⟨o', ho'⟩ : ∃ o', o' = o + k := ⟨_, rfl⟩
  obtain ⟨n', hn'⟩ : ∃ n', n' = n - k := ⟨_, rfl⟩
  obtain ⟨c', hc'⟩ : ∃ c', c' = c - k := ⟨_, rfl⟩
  rw [← ho'] at h4 hx
  rw [← hn'] at hlen
  have hnc' : n' ≤ c' := by omega
  have hcm' : c' ≤ 9223372036854775807 := by omega
  have hn47 : n' ≤ 140737488355328 := by omega
  have H4 : Hid (Bs w b o' (t :: r)) := h4
  have HLEN : Hid (n' = r.length + 1) := hlen
  have HO : Hid (o' = o + k ∧ n' = n - k ∧ c' = c - k) := ⟨ho', hn', hc'⟩
  have hn1 : 1 ≤ n' := by omega
  obtain ⟨w1, hw1⟩ : ∃ w1, w1 = w.alloc (.cells #[.int .u8 0, .slice none 0 0, .int .i64 0, .int .i64 0] 25) := ⟨_, rfl⟩
  have HW1 : Hid (Chg Non w w1) := by rw [hw1]; exact (Chg.refl _ _).alloc _
  have HW2 : Hid (w1 = w.alloc (.cells #[.int .u8 0, .slice none 0 0, .int .i64 0, .int .i64 0] 25)) := hw1
  have hx1 : w1.cell? ⟨b, o', none⟩ = some (.int .u8 t) := (H4.out.chg HW1.out).at0
  unfold itemV faultV
  clear hv h3 hbd h4 hn hb hlen hd ho' hn' hc' hx hw1
  have dt : (t % 32 != 31) = true := by simpa using ht
  obtain ⟨T, hT⟩ : ∃ T, T = (lenL r).2.1 := ⟨_, rfl⟩
  obtain ⟨N, hN⟩ : ∃ N, N = (lenL r).2.2 := ⟨_, rfl⟩
  obtain ⟨E, hE⟩ : ∃ E, E = (lenL r).1 := ⟨_, rfl⟩
  have HTN : Hid (T = (lenL r).2.1 ∧ N = (lenL r).2.2 ∧ E = (lenL r).1) := ⟨hT, hN, hE⟩
  have HLE : Calls Tryd.prog 59 #[.slice (if c' = 1 then some (⟨b, o', none⟩ : Addr) else some ⟨b, o' + 1, none⟩) (n' - 1) (c' - 1)] w1 fun e w' => e = .returned (.tuple #[.int .i64 T, .int .i64 N, .int .i64 E]) ∧ Chg Non w1 w' := by
    rw [hT, hN, hE]
    exact length_any _ r HB.out w1 (tail_rd (H4.out.chg HW1.out) HLEN.out hnc' hcm')
  clear hT hN hE
  have HC4 : Hid (∀ u, Chg Non w1 u → u.cell? ⟨w.heap.size, 0, none⟩ = some (.int .u8 0) ∧ u.cell? ⟨w.heap.size, 1, none⟩ = some (.slice none 0 0) ∧ u.cell? ⟨w.heap.size, 2, none⟩ = some (.int .i64 0) ∧ u.cell? ⟨w.heap.size, 3, none⟩ = some (.int .i64 0) ∧ (∀ j, u.frozen? ⟨w.heap.size, j, none⟩ = false)) := fun u hu => cells4 (four (w := w) (u := u) (by rw [← HW2.out]; exact hu))
  rw [← HTN.out.2.2] at he ⊢
  have de : (E != 0) = true := by simpa using he
  by_cases hc1 : c' = 1
  · have HLE' : Hid (Calls Tryd.prog 59 #[.slice (some ⟨b, o', none⟩) 0 0] w1 fun e w' => e = .returned (.tuple #[.int .i64 T, .int .i64 N, .int .i64 E]) ∧ Chg Non w1 w') := by
      rw [if_pos hc1, hc1, show n' - 1 = 0 by omega] at HLE
      exact HLE
    have hn11 : n' = 1 := by omega
    subst hc1
    subst hn11
    clear HLE he
    go_enter Tryd.func35, Tryd.ntmps35
    go_upto_region 4 with fail
    rw [← HO.out.1, ← HO.out.2.1, ← HO.out.2.2, ← HW2.out]
    go_wp2_with (first | (go_at_call 40; refine (isTag_any t t0 t1 _).mono ?_; rintro e w9 ⟨rfl, hw9⟩; obtain rfl := hw9.symm; rw [dt]) | (go_at_call 59; refine HLE'.out.mono ?_; rintro e w2 ⟨rfl, hc2⟩; obtain ⟨c0, c1, c2, c3, cf⟩ := HC4.out w2 hc2))
    refine bodyPost_ret (v := .tuple #[.agg #[.int .u8 0, .slice none 0 0, .int .i64 0, .int .i64 0], .iface 66 (.agg #[.int .i64 E, .int .i64 k])]) ?_ rfl ⟨rfl, ?_⟩
    · simp [results, Tryd.results35, go_sem, c0, c1, c2, c3]
    · exact Chg.four (HW1.out.two hc2) _ _ _ _
  · have HLE' : Hid (Calls Tryd.prog 59 #[.slice (some ⟨b, o' + 1, none⟩) (n' - 1) (c' - 1)] w1 fun e w' => e = .returned (.tuple #[.int .i64 T, .int .i64 N, .int .i64 E]) ∧ Chg Non w1 w') := by
      rw [if_neg hc1] at HLE
      exact HLE
    clear HLE he
    go_enter Tryd.func35, Tryd.ntmps35
    go_upto_region 4 with fail
    rw [← HO.out.1, ← HO.out.2.1, ← HO.out.2.2, ← HW2.out]
    go_wp2_with (first | (go_at_call 40; refine (isTag_any t t0 t1 _).mono ?_; rintro e w9 ⟨rfl, hw9⟩; obtain rfl := hw9.symm; rw [dt]) | (go_at_call 59; refine HLE'.out.mono ?_; rintro e w2 ⟨rfl, hc2⟩; obtain ⟨c0, c1, c2, c3, cf⟩ := HC4.out w2 hc2))
    refine bodyPost_ret (v := .tuple #[.agg #[.int .u8 0, .slice none 0 0, .int .i64 0, .int .i64 0], .iface 66 (.agg #[.int .i64 E, .int .i64 k])]) ?_ rfl ⟨rfl, ?_⟩
    · simp [results, Tryd.results35, go_sem, c0, c1, c2, c3]
    · exact Chg.four (HW1.out.two hc2) _ _ _ _

set_option maxHeartbeats 4000000 in
theorem read_short (v : Value) (xs : List Int) (hb : Byt xs) (k : Nat) (t : Int) (r : List Int) (w : World) (hv : Rd w v xs) (hk : k < xs.length) (hd : xs.drop k = t :: r) (hl : xs.length ≤ 140737488355328) (ht : t % 32 ≠ 31) (he : (lenL r).1 = 0) (hs : r.length - (lenL r).2.1 < (lenL r).2.2) :
    Calls Tryd.prog 35 #[v, .int .i64 k] w fun e w' => e = .returned (.tuple #[itemV 0 (.slice none 0 0) 0 0, faultV 141 k]) ∧ Chg Non w w' := by
  obtain ⟨b, o, c, rfl, h1, h2, h3⟩ := hv.bs (by intro e; rw [e] at hk; simp at hk)
  obtain ⟨n, hn⟩ : ∃ n, n = xs.length := ⟨_, rfl⟩
  rw [← hn] at h1 hk hl ⊢
  have hbd : Byt (t :: r) := by rw [← hd]; exact hb.drop k
  have h4 : Bs w b (o + k) (t :: r) := by rw [← hd]; exact h3.drop k
  have hlen : n - k = r.length + 1 := by
    have := congrArg List.length hd
    rw [List.length_drop, ← hn] at this
    simpa using this
  obtain ⟨t0, t1⟩ := hbd.head
  have hx := h4.at0
  have d0 : decide ((k : Int) < 0) = false := by simp
  have d1 : decide ((n : Int) ≤ (k : Int)) = false := by simp; omega
  have hck : ¬ c = k := by omega
  have HB : Hid (Byt r) := hbd.tail
  obtain ⟨o', ho'⟩ : ∃ o', o' = o + k := ⟨_, rfl⟩
  obtain ⟨n', hn'⟩ : ∃ n', n' = n - k := ⟨_, rfl⟩
  obtain ⟨c', hc'⟩ : ∃ c', c' = c - k := ⟨_, rfl⟩
  rw [← ho'] at h4 hx
  rw [← hn'] at hlen
  have hnc' : n' ≤ c' := by omega
  have hcm' : c' ≤ 9223372036854775807 := by omega
  have hn47 : n' ≤ 140737488355328 := by omega
  have H4 : Hid (Bs w b o' (t :: r)) := h4
  have HLEN : Hid (n' = r.length + 1) := hlen
  have HO : Hid (o' = o + k ∧ n' = n - k ∧ c' = c - k) := ⟨ho', hn', hc'⟩
  have hn1 : 1 ≤ n' := by omega
  obtain ⟨w1, hw1⟩ : ∃ w1, w1 = w.alloc (.cells #[.int .u8 0, .slice none 0 0, .int .i64 0, .int .i64 0] 25) := ⟨_, rfl⟩
  have HW1 : Hid (Chg Non w w1) := by rw [hw1]; exact (Chg.refl _ _).alloc _
  have HW2 : Hid (w1 = w.alloc (.cells #[.int .u8 0, .slice none 0 0, .int .i64 0, .int .i64 0] 25)) := hw1
  have hx1 : w1.cell? ⟨b, o', none⟩ = some (.int .u8 t) := (H4.out.chg HW1.out).at0
  unfold itemV faultV
  clear hv h3 hbd h4 hn hb hlen hd ho' hn' hc' hx hw1
  have dt : (t % 32 != 31) = true := by simpa using ht
  obtain ⟨T, hT⟩ : ∃ T, T = (lenL r).2.1 := ⟨_, rfl⟩
  obtain ⟨N, hN⟩ : ∃ N, N = (lenL r).2.2 := ⟨_, rfl⟩
  obtain ⟨E, hE⟩ : ∃ E, E = (lenL r).1 := ⟨_, rfl⟩
  have HTN : Hid (T = (lenL r).2.1 ∧ N = (lenL r).2.2 ∧ E = (lenL r).1) := ⟨hT, hN, hE⟩
  have HLE : Calls Tryd.prog 59 #[.slice (if c' = 1 then some (⟨b, o', none⟩ : Addr) else some ⟨b, o' + 1, none⟩) (n' - 1) (c' - 1)] w1 fun e w' => e = .returned (.tuple #[.int .i64 T, .int .i64 N, .int .i64 E]) ∧ Chg Non w1 w' := by
    rw [hT, hN, hE]
    exact length_any _ r HB.out w1 (tail_rd (H4.out.chg HW1.out) HLEN.out hnc' hcm')
  clear hT hN hE
  have HC4 : Hid (∀ u, Chg Non w1 u → u.cell? ⟨w.heap.size, 0, none⟩ = some (.int .u8 0) ∧ u.cell? ⟨w.heap.size, 1, none⟩ = some (.slice none 0 0) ∧ u.cell? ⟨w.heap.size, 2, none⟩ = some (.int .i64 0) ∧ u.cell? ⟨w.heap.size, 3, none⟩ = some (.int .i64 0) ∧ (∀ j, u.frozen? ⟨w.heap.size, j, none⟩ = false)) := fun u hu => cells4 (four (w := w) (u := u) (by rw [← HW2.out]; exact hu))
  have hbl := lenL_ok HB.out he
  rw [← HTN.out.1, ← HTN.out.2.1] at hbl
  have hE0 : E = 0 := HTN.out.2.2.trans he
  subst hE0
  obtain ⟨g1, -, g3, g4, g5⟩ := hbl
  have hT1 : 1 + T ≤ n' := by have := HLEN.out; omega
  have hc1 : ¬ c' = 1 := by omega
  have HLE' : Hid (Calls Tryd.prog 59 #[.slice (some ⟨b, o' + 1, none⟩) (n' - 1) (c' - 1)] w1 fun e w' => e = .returned (.tuple #[.int .i64 T, .int .i64 N, .int .i64 0]) ∧ Chg Non w1 w') := by
    rw [if_neg hc1] at HLE
    exact HLE
  have HBD : Hid (∀ u, Chg Non w1 u → Rd u (.slice (if c' = 1 + T then some (⟨b, o', none⟩ : Addr) else some ⟨b, o' + (1 + T), none⟩) (n' - (1 + T)) (c' - (1 + T))) (r.drop T)) := fun u hu => by
    have := drop_rd (H4.out.chg (HW1.out.two hu)) (n := n') (c := c') (by have := HLEN.out; simpa using this) hnc' hcm' (1 + T) hT1
    have e : (t :: r).drop (1 + T) = r.drop T := by rw [Nat.add_comm]; rfl
    rwa [e] at this
  clear HLE he g1
  rw [← HTN.out.1, ← HTN.out.2.1] at hs
  have hs2 : n' - (1 + T) < N := by have := HLEN.out; omega
  obtain ⟨m, hm⟩ : ∃ m, m = n' - (1 + T) := ⟨_, rfl⟩
  go_enter Tryd.func35, Tryd.ntmps35
  go_upto_region 4 with fail
  rw [← HO.out.1, ← HO.out.2.1, ← HO.out.2.2, ← HW2.out]
  go_wp2_with (first | (go_at_call 40; refine (isTag_any t t0 t1 _).mono ?_; rintro e w9 ⟨rfl, hw9⟩; obtain rfl := hw9.symm; rw [dt]) | (go_at_call 59; refine HLE'.out.mono ?_; rintro e w2 ⟨rfl, hc2⟩; obtain ⟨c0, c1, c2, c3, cf⟩ := HC4.out w2 hc2))
  all_goals
    refine bodyPost_ret (v := .tuple #[.agg #[.int .u8 0, .slice none 0 0, .int .i64 0, .int .i64 0], .iface 66 (.agg #[.int .i64 141, .int .i64 k])]) ?_ rfl ⟨rfl, ?_⟩
    · simp [results, Tryd.results35, go_sem, c0, c1, c2, c3]
    · exact Chg.four (HW1.out.two hc2) _ _ _ _

end Go.Proofs.YtnidfbcninkglaaDoor
