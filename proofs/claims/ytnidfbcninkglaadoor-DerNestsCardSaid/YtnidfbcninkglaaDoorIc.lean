/-
  The iterator over a body's items: what it tells, in which memory.
-/
import Derived.Test.YtnidfbcninkglaaDoorIa
import Derived.Test.YtnidfbcninkglaaDoorIb
import Derived.RangeFuncNested
import Derived.RangeFuncBound
import Derived.RangeFuncCalls
import Derived.RangeFuncLeaves
import Derived.Shelf.Abstract
import Derived.Shelf.RegionOpen
import Derived.WalkKit
import Derived.OwnWalkIn
import Derived.TacticsInMore
import Derived.LoopNIn
import Derived.LoopIn
namespace Go.Proofs.YtnidfbcninkglaaDoor
open Go.RowKit Go.Shelf
set_option linter.unusedVariables false
set_option maxRecDepth 100000

set_option maxHeartbeats 1600000 in
theorem each_any (v : Value) (xs : List Int) (w : World) (hv : Rd w v xs) :
    Calls Tryd.prog 37 #[v] w fun e w' => e = .returned (.func (.func 60) #[] #[.pointer (some ⟨w.heap.size, 0, none⟩)]) ∧ w' = w.alloc (.cells #[v] 22) := by
  obtain ⟨ao, n, c, rfl, -, -, -⟩ := hv.shape
  go_enter Tryd.func37, Tryd.ntmps37
  go_wp2
  go_ret
  exact ⟨rfl, rfl⟩

set_option maxHeartbeats 8000000 in
theorem each1_any (n l B : Nat) (v : Value) (xs : List Int) (hb : Byt xs) (hl : xs.length ≤ 140737488355328)
    (J : List (PI × Value) → Nat → World → Prop) (Jx : Nat → World → Prop)
    (hA : ∀ pre k W W', J pre k W → Chg Non W W' → J pre k W')
    (hR : ∀ pre k W, J pre k W → W.cell? ⟨B, 0, none⟩ = some v ∧ Rd W v xs)
    (hY : ∀ pre k x v' u W, J pre k u → Chg Non u W → nxI xs k = some x → OwnV W v' x.ys → (∀ i, v'.ownBlock = some i → u.heap.size ≤ i) → YieldAt Fence.wide (n - 1) Tryd.prog l #[itemV x.t v' x.k x.l, .nilIface] W fun e W' => e = .returned (.bool true) ∧ J (pre ++ [(x, v')]) (k + x.l) W' ∧ ∀ b, u.heap.size ≤ b → b < W.heap.size → W'.heap[b]? = W.heap[b]?)
    (hE : ∀ pre k W, J pre k W → k < xs.length → nxE xs k ≠ 0 → YieldAt Fence.wide (n - 1) Tryd.prog l #[itemV 0 (.slice none 0 0) 0 0, faultV (nxE xs k) k] W fun e W' => e = .returned (.bool false) ∧ Jx k W')
    (W : World) (h0 : J [] 0 W) :
    CallsIn Fence.wide n Tryd.prog 60 #[.func (.yield l) #[] #[], .pointer (some ⟨B, 0, none⟩)] W fun e W' => (∃ u, e = .returned u) ∧ ((∃ pre k, xs.length ≤ k ∧ J pre k W') ∨ ∃ k, Jx k W') := by
  obtain ⟨-, hv0⟩ := hR _ _ _ h0
  obtain ⟨ao, N, c, rfl, hN, hNc, hc⟩ := hv0.shape
  have HN : Hid (N = xs.length) := hN
  have HA : Hid (∀ pre k W W', J pre k W → Chg Non W W' → J pre k W') := hA
  have HR : Hid (∀ pre k W, J pre k W → W.cell? ⟨B, 0, none⟩ = some (.slice ao N c) ∧ Rd W (.slice ao N c) xs) := hR
  have HY : Hid (∀ pre k x v' u W, J pre k u → Chg Non u W → nxI xs k = some x → OwnV W v' x.ys → (∀ i, v'.ownBlock = some i → u.heap.size ≤ i) → YieldAt Fence.wide (n - 1) Tryd.prog l #[itemV x.t v' x.k x.l, .nilIface] W fun e W' => e = .returned (.bool true) ∧ J (pre ++ [(x, v')]) (k + x.l) W' ∧ ∀ b, u.heap.size ≤ b → b < W.heap.size → W'.heap[b]? = W.heap[b]?) := hY
  have HE : Hid (∀ pre k W, J pre k W → k < xs.length → nxE xs k ≠ 0 → YieldAt Fence.wide (n - 1) Tryd.prog l #[itemV 0 (.slice none 0 0) 0 0, faultV (nxE xs k) k] W fun e W' => e = .returned (.bool false) ∧ Jx k W') := hE
  have HB : Hid (Byt xs) := hb
  have HL : Hid (xs.length ≤ 140737488355328) := hl
  have hN63 : N ≤ 140737488355328 := by omega
  clear hv0 hN hA hR hY hE hb hl
  refine callsIn_of_wp Tryd.func60 rfl trivial ?_ rfl
  simp only [Tryd.ntmps60, List.size_toArray, List.length_cons, List.length_nil, Nat.reduceAdd, Nat.reduceSub, Array.replicate_succ, Array.replicate_zero, List.push_toArray, List.append_toArray, List.nil_append, List.cons_append]
  gi_wp2
  gi_loopw [3] (fun p wr => ∃ (pre : List (PI × Value)) (k : Nat), p = .int .i64 k ∧ k ≤ N ∧ Hid (J pre k wr)) (fun p wr => N - (intOf p).toNat)
  case atStart => exact ⟨[], 0, rfl, Nat.zero_le _, h0⟩
  case round =>
    obtain ⟨pre, k, rfl, hk, hJ⟩ := hrel
    obtain ⟨hcb, hrd⟩ := HR.out _ _ _ hJ.out
    have HRD : Hid (Rd wr (.slice ao N c) xs) := hrd
    clear hrd
    by_cases hlt : k < N
    · by_cases he : nxE xs k = 0
      · obtain ⟨x, hx⟩ := nxI_of (by have := HN.out; omega) he
        obtain ⟨t, r, hd, h1, hxe⟩ := nxI_some hx
        obtain ⟨q1, q2, q3, q4, -⟩ := nxI_len HB.out hx
        have hrg : Calls Tryd.prog 35 #[.slice ao N c, .int .i64 k] wr fun e w' => ∃ v', e = .returned (.tuple #[.agg #[.int .u8 x.t, v', .int .i64 x.k, .int .i64 x.l], .nilIface]) ∧ ReadP wr w' v' x.ys := by
          have := read_good (.slice ao N c) xs HB.out k t r wr HRD.out q1 hd HL.out h1
          rw [hxe]
          exact this
        have HRG : Hid (Calls Tryd.prog 35 #[.slice ao N c, .int .i64 k] wr fun e w' => ∃ v', e = .returned (.tuple #[.agg #[.int .u8 x.t, v', .int .i64 x.k, .int .i64 x.l], .nilIface]) ∧ ReadP wr w' v' x.ys) := hrg
        have HX : Hid (nxI xs k = some x) := hx
        have HQ : Hid (k + x.l ≤ N ∧ 2 ≤ x.l) := ⟨by have := HN.out; omega, q2⟩
        obtain ⟨xt, hxt⟩ : ∃ xt, xt = x.t := ⟨_, rfl⟩
        obtain ⟨xk, hxk⟩ : ∃ xk, xk = x.k := ⟨_, rfl⟩
        obtain ⟨xl, hxl⟩ : ∃ xl, xl = x.l := ⟨_, rfl⟩
        have HXT : Hid (xt = x.t ∧ xk = x.k ∧ xl = x.l) := ⟨hxt, hxk, hxl⟩
        rw [← hxt, ← hxk, ← hxl] at HRG
        have m1 : k + xl ≤ N := by rw [hxl]; exact HQ.out.1
        have m2 : 2 ≤ xl := by rw [hxl]; exact HQ.out.2
        clear hrg hxe hd h1 q1 q2 q3 q4 hx he hxt hxk hxl
        gi_wp2
        refine ⟨trivial, (fun h => by cases h), (callsIn_wide.2 HRG.out).mono ?_⟩
        rintro e w3 ⟨v', rfl, hP⟩
        obtain ⟨bo, bn, bc, rfl, -, -, -⟩ := hP.own.rd.shape
        have HP : Hid (ReadP wr w3 (.slice bo bn bc) x.ys) := hP
        clear hP
        obtain ⟨w4, hw4⟩ : ∃ w4, w4 = w3.alloc (.cells #[.int .u8 xt, .slice bo bn bc, .int .i64 xk, .int .i64 xl] 25) := ⟨_, rfl⟩
        have C4 : Hid (Chg Non w3 w4) := by rw [hw4]; exact (Chg.refl _ _).alloc _
        have hb4 : w4.heap[w3.heap.size]? = some (.cells #[.int .u8 xt, .slice bo bn bc, .int .i64 xk, .int .i64 xl] 25) := by rw [hw4]; exact heap_alloc_last w3 _
        have C34 : Hid (Chg Non wr w4) := HP.out.own.chg.two C4.out
        obtain ⟨fn, tmps, assign, body, hy, hRd⟩ := HY.out pre k x (.slice bo bn bc) wr w4 hJ.out C34.out HX.out (HP.out.own.own.chg C4.out) HP.out.own.new
        have HRd : Hid (RoundIn Fence.wide (n - 1) Tryd.prog l fn tmps assign body w4 fun e W' => e = .returned (.bool true) ∧ J (pre ++ [(x, .slice bo bn bc)]) (k + x.l) W' ∧ ∀ b, wr.heap.size ≤ b → b < w4.heap.size → W'.heap[b]? = w4.heap[b]?) := hRd
        unfold itemV at hy
        rw [← HXT.out.1, ← HXT.out.2.1, ← HXT.out.2.2] at hy
        have H34 : Hid (wr.heap.size ≤ w3.heap.size ∧ w3.heap.size < w4.heap.size ∧ w4.heap[w3.heap.size]? = some (.cells #[.int .u8 xt, .slice bo bn bc, .int .i64 xk, .int .i64 xl] 25)) := ⟨HP.out.own.chg.size, by rw [hw4]; simp, hb4⟩
        rw [hw4] at hy HRd H34
        clear hRd hb4 C4 C34 hw4
        gi_wp2
        refine ⟨(fun h => by cases h), HRd.out.mono ?_⟩
        rintro e W5 ⟨rfl, hJ5, hk5⟩
        have hb5 := (hk5 _ H34.out.1 H34.out.2.1).trans H34.out.2.2
        obtain ⟨y0, y1, y2, y3, yf⟩ := cells4 hb5
        have HJ5 : Hid (J (pre ++ [(x, .slice bo bn bc)]) (k + x.l) W5) := hJ5
        clear hb5 hk5 hJ5 hy HRd H34
        obtain ⟨k', hk'⟩ : ∃ k', k' = k + xl := ⟨_, rfl⟩
        have hw' : IntKind.i64.wrap ((k : Int) + (xl : Int)) = (k' : Int) := by rw [IntKind.wrap_i64]; omega
        have HK' : Hid (k' = k + xl) := hk'
        have m3 : k < k' := by omega
        have m4 : k' ≤ N := by omega
        clear hk'
        gi_wp2
        go_roundw
        case rel => exact ⟨pre ++ [(x, .slice bo bn bc)], k', rfl, m4, by rw [HK'.out, HXT.out.2.2]; exact HJ5.out⟩
        case measure => simp [intOf]; omega
      · have hrb : Calls Tryd.prog 35 #[.slice ao N c, .int .i64 k] wr fun e w' => e = .returned (.tuple #[.agg #[.int .u8 0, .slice none 0 0, .int .i64 0, .int .i64 0], .iface 66 (.agg #[.int .i64 (nxE xs k), .int .i64 k])]) ∧ Chg Non wr w' := by
          have := read_bad (.slice ao N c) xs HB.out k wr HRD.out HL.out he
          exact this
        obtain ⟨E, hE⟩ : ∃ E, E = nxE xs k := ⟨_, rfl⟩
        rw [← hE] at hrb
        have HRB : Hid (Calls Tryd.prog 35 #[.slice ao N c, .int .i64 k] wr fun e w' => e = .returned (.tuple #[.agg #[.int .u8 0, .slice none 0 0, .int .i64 0, .int .i64 0], .iface 66 (.agg #[.int .i64 E, .int .i64 k])]) ∧ Chg Non wr w') := hrb
        have HEE : Hid (E = nxE xs k ∧ ¬ nxE xs k = 0) := ⟨hE, he⟩
        clear hrb hE he
        gi_wp2
        refine ⟨trivial, (fun h => by cases h), (callsIn_wide.2 HRB.out).mono ?_⟩
        rintro e w3 ⟨rfl, hc3⟩
        obtain ⟨w4, hw4⟩ : ∃ w4, w4 = w3.alloc (.cells #[.int .u8 0, .slice none 0 0, .int .i64 0, .int .i64 0] 25) := ⟨_, rfl⟩
        have C34 : Hid (Chg Non wr w4) := by rw [hw4]; exact hc3.alloc _
        obtain ⟨fn, tmps, assign, body, hy, hRd⟩ := HE.out pre k w4 (HA.out _ _ _ _ hJ.out C34.out) (by have := HN.out; omega) HEE.out.2
        unfold itemV faultV at hy
        rw [← HEE.out.1] at hy
        have HRd : Hid (RoundIn Fence.wide (n - 1) Tryd.prog l fn tmps assign body w4 fun e W' => e = .returned (.bool false) ∧ Jx k W') := hRd
        rw [hw4] at hy HRd
        clear hRd hc3 C34 hw4
        gi_wp2
        refine ⟨(fun h => by cases h), HRd.out.mono ?_⟩
        rintro e W5 ⟨rfl, hJ5⟩
        have HJ5 : Hid (Jx k W5) := hJ5
        clear hJ5 hy HRd
        gi_wp2
        refine bodyPost_ret (results_none rfl _ _ _) rfl ?_
        exact ⟨⟨_, rfl⟩, .inr ⟨k, HJ5.out⟩⟩
    · have hkN : k = N := by omega
      gi_wp2
      go_end0
      exact ⟨⟨_, rfl⟩, .inl ⟨pre, k, by have := HN.out; omega, hJ.out⟩⟩
end Go.Proofs.YtnidfbcninkglaaDoor
