/-
  The item at a place, where there is one.
-/
import Derived.Test.YtnidfbcninkglaaDoorRd2
namespace Go.Proofs.YtnidfbcninkglaaDoor
open Go.RowKit
set_option linter.unusedVariables false
set_option maxRecDepth 100000

set_option maxHeartbeats 4000000 in
theorem read_ok (v : Value) (xs : List Int) (hb : Byt xs) (k : Nat) (t : Int) (r : List Int) (w : World) (hv : Rd w v xs) (hk : k < xs.length) (hd : xs.drop k = t :: r) (hl : xs.length ≤ 140737488355328) (ht : t % 32 ≠ 31) (he : (lenL r).1 = 0) (hs : ¬ r.length - (lenL r).2.1 < (lenL r).2.2) :
    Calls Tryd.prog 35 #[v, .int .i64 k] w fun e w' => ∃ v', e = .returned (.tuple #[itemV t v' k (1 + (lenL r).2.1 + (lenL r).2.2 : Nat), .nilIface]) ∧ ReadP w w' v' ((r.drop (lenL r).2.1).take (lenL r).2.2) := by
  obtain ⟨b, o, c, rfl, h1, h2, h3⟩ := hv.bs (by intro e; rw [e] at hk; simp at hk)
  obtain ⟨n, hn⟩ : ∃ n, n = xs.length := ⟨_, rfl⟩
  rw [← hn] at h1 hk hl ⊢
  have hbd : Byt (t :: r) := by rw [← hd]; exact hb.drop k
  have h4 : Bs w b (o + k) (t :: r) := by rw [← hd]; exact h3.drop k
  have hlen : n - k = r.length + 1 := by
    have := congrArg List.length hd
    rw [List.length_drop, ← hn] at this
    simpa using this
  obtain ⟨t0, t1⟩ := hbd.head
  have hx := h4.at0
  have d0 : decide ((k : Int) < 0) = false := by simp
  have d1 : decide ((n : Int) ≤ (k : Int)) = false := by simp; omega
  have hck : ¬ c = k := by omega
  have HB : Hid (Byt r) := hbd.tail
  obtain ⟨o', ho'⟩ : ∃ o', o' = o + k := ⟨_, rfl⟩
  obtain ⟨n', hn'⟩ : ∃ n', n' = n - k := ⟨_, rfl⟩
  obtain ⟨c', hc'⟩ : ∃ c', c' = c - k := ⟨_, rfl⟩
  rw [← ho'] at h4 hx
  rw [← hn'] at hlen
  have hnc' : n' ≤ c' := by omega
  have hcm' : c' ≤ 9223372036854775807 := by omega
  have hn47 : n' ≤ 140737488355328 := by omega
  have H4 : Hid (Bs w b o' (t :: r)) := h4
  have HLEN : Hid (n' = r.length + 1) := hlen
  have HO : Hid (o' = o + k ∧ n' = n - k ∧ c' = c - k) := ⟨ho', hn', hc'⟩
  have hn1 : 1 ≤ n' := by omega
  obtain ⟨w1, hw1⟩ : ∃ w1, w1 = w.alloc (.cells #[.int .u8 0, .slice none 0 0, .int .i64 0, .int .i64 0] 25) := ⟨_, rfl⟩
  have HW1 : Hid (Chg Non w w1) := by rw [hw1]; exact (Chg.refl _ _).alloc _
  have HW2 : Hid (w1 = w.alloc (.cells #[.int .u8 0, .slice none 0 0, .int .i64 0, .int .i64 0] 25)) := hw1
  have hx1 : w1.cell? ⟨b, o', none⟩ = some (.int .u8 t) := (H4.out.chg HW1.out).at0
  unfold itemV
  clear hv h3 hbd h4 hn hb hlen hd ho' hn' hc' hx hw1
  have dt : (t % 32 != 31) = true := by simpa using ht
  obtain ⟨T, hT⟩ : ∃ T, T = (lenL r).2.1 := ⟨_, rfl⟩
  obtain ⟨N, hN⟩ : ∃ N, N = (lenL r).2.2 := ⟨_, rfl⟩
  obtain ⟨E, hE⟩ : ∃ E, E = (lenL r).1 := ⟨_, rfl⟩
  have HTN : Hid (T = (lenL r).2.1 ∧ N = (lenL r).2.2 ∧ E = (lenL r).1) := ⟨hT, hN, hE⟩
  have HLE : Calls Tryd.prog 59 #[.slice (if c' = 1 then some (⟨b, o', none⟩ : Addr) else some ⟨b, o' + 1, none⟩) (n' - 1) (c' - 1)] w1 fun e w' => e = .returned (.tuple #[.int .i64 T, .int .i64 N, .int .i64 E]) ∧ Chg Non w1 w' := by
    rw [hT, hN, hE]
    exact length_any _ r HB.out w1 (tail_rd (H4.out.chg HW1.out) HLEN.out hnc' hcm')
  clear hT hN hE
  have HC4 : Hid (∀ u, Chg Non w1 u → u.cell? ⟨w.heap.size, 0, none⟩ = some (.int .u8 0) ∧ u.cell? ⟨w.heap.size, 1, none⟩ = some (.slice none 0 0) ∧ u.cell? ⟨w.heap.size, 2, none⟩ = some (.int .i64 0) ∧ u.cell? ⟨w.heap.size, 3, none⟩ = some (.int .i64 0) ∧ (∀ j, u.frozen? ⟨w.heap.size, j, none⟩ = false)) := fun u hu => cells4 (four (w := w) (u := u) (by rw [← HW2.out]; exact hu))
  have hbl := lenL_ok HB.out he
  rw [← HTN.out.1, ← HTN.out.2.1] at hbl
  have hE0 : E = 0 := HTN.out.2.2.trans he
  subst hE0
  obtain ⟨g1, -, g3, g4, g5⟩ := hbl
  have hT1 : 1 + T ≤ n' := by have := HLEN.out; omega
  have hc1 : ¬ c' = 1 := by omega
  have HLE' : Hid (Calls Tryd.prog 59 #[.slice (some ⟨b, o' + 1, none⟩) (n' - 1) (c' - 1)] w1 fun e w' => e = .returned (.tuple #[.int .i64 T, .int .i64 N, .int .i64 0]) ∧ Chg Non w1 w') := by
    rw [if_neg hc1] at HLE
    exact HLE
  have HBD : Hid (∀ u, Chg Non w1 u → Rd u (.slice (if c' = 1 + T then some (⟨b, o', none⟩ : Addr) else some ⟨b, o' + (1 + T), none⟩) (n' - (1 + T)) (c' - (1 + T))) (r.drop T)) := fun u hu => by
    have := drop_rd (H4.out.chg (HW1.out.two hu)) (n := n') (c := c') (by have := HLEN.out; simpa using this) hnc' hcm' (1 + T) hT1
    have e : (t :: r).drop (1 + T) = r.drop T := by rw [Nat.add_comm]; rfl
    rwa [e] at this
  clear HLE he g1
  rw [← HTN.out.1, ← HTN.out.2.1] at hs ⊢
  have hs2 : N ≤ n' - (1 + T) := by have := HLEN.out; omega
  have hs3 : decide (((n' - (1 + T) : Nat) : Int) < (N : Int)) = false := by simp; omega
  obtain ⟨LL, hLL⟩ : ∃ LL, LL = 1 + T + N := ⟨_, rfl⟩
  have HLL : Hid ((1 : Int) + (T : Int) + (N : Int) = (LL : Int)) := by show _ = _; omega
  rw [← hLL]
  have hw1 : IntKind.i64.wrap (1 + (T : Int)) = 1 + (T : Int) := by rw [IntKind.wrap_i64]; omega
  have hw2 : IntKind.i64.wrap (1 + (T : Int) + (N : Int)) = (LL : Int) := by rw [IntKind.wrap_i64]; have := HLL.out; omega
  have HK : Hid (∀ u, Chg Non w1 u → u.cell? ⟨b, o', none⟩ = some (.int .u8 t)) := fun u hu => (H4.out.chg (HW1.out.two hu)).at0
  clear hLL hs
  by_cases hc9 : c' = 1 + T
  · have hN0 : N = 0 := by omega
    have HN9 : Hid (n' = 1 + T) := (by omega : n' = 1 + T)
    subst hc9
    subst hN0
    have HLE2 : Hid (Calls Tryd.prog 59 #[.slice (some ⟨b, o' + 1, none⟩) (n' - 1) T] w1 fun e w' => e = .returned (.tuple #[.int .i64 T, .int .i64 ((0 : Nat) : Int), .int .i64 0]) ∧ Chg Non w1 w') := by
      have := HLE'.out
      rw [show 1 + T - 1 = T by omega] at this
      exact this
    have HLE' := HLE2
    clear HLE2
    have HCL : Hid (∀ u, Chg Non w1 u → Calls Tryd.prog 42 #[.slice (some ⟨b, o', none⟩) 0 0] u fun e w' => ∃ v', e = .returned v' ∧ OwnN u w' v' ((r.drop T).take 0)) := fun u hu => by
      have h5 := HBD.out u hu
      rw [if_pos rfl, show n' - (1 + T) = 0 by have := HN9.out; omega, show 1 + T - (1 + T) = 0 by omega] at h5
      exact clone_any _ _ u (take_rd h5 0 (by omega)) (by simp)
    go_enter Tryd.func35, Tryd.ntmps35
    go_upto_region 4 with fail
    rw [← HO.out.1, ← HO.out.2.1, ← HO.out.2.2, ← HW2.out]
    go_upto_region 12 with (first | (go_at_call 40; refine (isTag_any t t0 t1 _).mono ?_; rintro e w9 ⟨rfl, hw9⟩; obtain rfl := hw9.symm; rw [dt]) | (go_at_call 59; refine HLE'.out.mono ?_; rintro e w2 ⟨rfl, hc2⟩; obtain ⟨c0, c1, c2, c3, cf⟩ := HC4.out w2 hc2))
    rw [show n' - (1 + T) = 0 by have := HN9.out; omega]
    have m4 : (0 : Int) < (n' : Int) := by omega
    have m5 : 0 < n' := by omega
    clear hs3 hs2 hT1 hnc' hck d0 d1 HBD
    refine wp_region_noPanic ?_
    go_region_held3 (fun w' => w'.cell? ⟨b, o', none⟩ = some (.int .u8 t)) (first | exact HK.out _ hc2.drew | exact HK.out _ hw3 | exact (H4.out.chg (Chg.four (HW1.out.two hw3) _ _ _ _)).at0)
      (first
        | (go_at_call 42; refine (HCL.out _ (by first | exact hc2.drew | assumption)).mono ?_; rintro e w3 ⟨v3, rfl, hv3⟩; have hw3 : Chg Non w1 w3 := Chg.two (by first | exact hc2.drew | assumption) hv3.chg; obtain ⟨f0, f1, f2, f3, ff⟩ := HC4.out w3 hw3; obtain ⟨o3, n3, c9, rfl, -, -, -⟩ := hv3.rd.shape))
    refine NoPanic.normal ?_
    go_wp2_with fail
    have hsz1 : w1.heap.size = w.heap.size + 1 := by rw [HW2.out]; simp
    have hsz2 : w1.heap.size ≤ w2.heap.size := hc2.size
    refine bodyPost_ret (v := .tuple #[.agg #[.int .u8 t, .slice o3 n3 c9, .int .i64 k, .int .i64 LL], .nilIface]) ?_ rfl ⟨_, rfl, ⟨⟨hv3.own.keep (fun i e => ?_), fun i e => ?_, Chg.four (HW1.out.two hw3) _ _ _ _⟩⟩⟩
    · simp [results, Tryd.results35, go_sem, f0, f1, f2, f3]
      have := HLL.out
      omega
    · exact keep4 _ _ _ _ _ (by have h7 : w2.heap.size ≤ i := hv3.new i e; omega)
    · exact Nat.le_trans (HW1.out.two hc2).size (hv3.new i e)
  · have HCL : Hid (∀ u, Chg Non w1 u → Calls Tryd.prog 42 #[.slice (some ⟨b, o' + (1 + T), none⟩) N (c' - (1 + T))] u fun e w' => ∃ v', e = .returned v' ∧ OwnN u w' v' ((r.drop T).take N)) := fun u hu => by
      have h5 := HBD.out u hu
      rw [if_neg hc9] at h5
      exact clone_any _ _ u (take_rd h5 N hs2) (by rw [List.length_take]; omega)
    go_enter Tryd.func35, Tryd.ntmps35
    go_upto_region 4 with fail
    rw [← HO.out.1, ← HO.out.2.1, ← HO.out.2.2, ← HW2.out]
    go_upto_region 12 with (first | (go_at_call 40; refine (isTag_any t t0 t1 _).mono ?_; rintro e w9 ⟨rfl, hw9⟩; obtain rfl := hw9.symm; rw [dt]) | (go_at_call 59; refine HLE'.out.mono ?_; rintro e w2 ⟨rfl, hc2⟩; obtain ⟨c0, c1, c2, c3, cf⟩ := HC4.out w2 hc2))
    obtain ⟨m, hm⟩ : ∃ m, m = n' - (1 + T) := ⟨_, rfl⟩
    obtain ⟨cm, hcm⟩ : ∃ cm, cm = c' - (1 + T) := ⟨_, rfl⟩
    rw [← hcm] at HCL
    rw [← hm, ← hcm]
    have m1 : N ≤ m := by omega
    have m2 : m ≤ cm := by omega
    have m3 : cm ≤ 9223372036854775807 := by omega
    have m4 : (0 : Int) < (n' : Int) := by omega
    have m5 : 0 < n' := by omega
    have m6 : N ≤ cm := by omega
    have m7 : (N : Int) ≤ (cm : Int) := by omega
    clear hm hcm hs3 hs2 hT1 hnc' hck d0 d1 HBD
    refine wp_region_noPanic ?_
    go_region_held3 (fun w' => w'.cell? ⟨b, o', none⟩ = some (.int .u8 t)) (first | exact HK.out _ hc2.drew | exact HK.out _ hw3 | exact (H4.out.chg (Chg.four (HW1.out.two hw3) _ _ _ _)).at0)
      (first
        | (go_at_call 42; refine (HCL.out _ (by first | exact hc2.drew | assumption)).mono ?_; rintro e w3 ⟨v3, rfl, hv3⟩; have hw3 : Chg Non w1 w3 := Chg.two (by first | exact hc2.drew | assumption) hv3.chg; obtain ⟨f0, f1, f2, f3, ff⟩ := HC4.out w3 hw3; obtain ⟨o3, n3, c9, rfl, -, -, -⟩ := hv3.rd.shape))
    refine NoPanic.normal ?_
    go_wp2_with fail
    have hsz1 : w1.heap.size = w.heap.size + 1 := by rw [HW2.out]; simp
    have hsz2 : w1.heap.size ≤ w2.heap.size := hc2.size
    refine bodyPost_ret (v := .tuple #[.agg #[.int .u8 t, .slice o3 n3 c9, .int .i64 k, .int .i64 LL], .nilIface]) ?_ rfl ⟨_, rfl, ⟨⟨hv3.own.keep (fun i e => ?_), fun i e => ?_, Chg.four (HW1.out.two hw3) _ _ _ _⟩⟩⟩
    · simp [results, Tryd.results35, go_sem, f0, f1, f2, f3]
    · exact keep4 _ _ _ _ _ (by have h7 : w2.heap.size ≤ i := hv3.new i e; omega)
    · exact Nat.le_trans (HW1.out.two hc2).size (hv3.new i e)
end Go.Proofs.YtnidfbcninkglaaDoor
