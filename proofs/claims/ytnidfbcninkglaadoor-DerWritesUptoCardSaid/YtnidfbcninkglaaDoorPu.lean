/-
  Put: lists of parts, how many bytes they have, an item's bytes.
-/
import Derived.Test.YtnidfbcninkglaaDoorVb
namespace Go.Proofs.YtnidfbcninkglaaDoor
open Go.RowKit
set_option linter.unusedVariables false
set_option maxRecDepth 100000

/-- A list of parts that can be read. -/
def PtR (w : World) (v : Value) (xss : List (List Int)) : Prop :=
  ∃ ao n c, v = .slice ao n c ∧ n = xss.length ∧ n ≤ c ∧ c ≤ 9223372036854775807 ∧ (xss ≠ [] → ∃ b o, ao = some ⟨b, o, none⟩ ∧ ∀ j xs, xss[j]? = some xs → ∃ u, w.cell? ⟨b, o + j, none⟩ = some u ∧ Rd w u xs)
theorem PtR.chg {w w' : World} {v : Value} {xss : List (List Int)} (h : PtR w v xss) (k : Chg Non w w') : PtR w' v xss := by
  obtain ⟨ao, n, c, rfl, h1, h2, h3, h4⟩ := h
  refine ⟨ao, n, c, rfl, h1, h2, h3, fun hn => ?_⟩
  obtain ⟨b, o, e, h5⟩ := h4 hn
  refine ⟨b, o, e, fun j xs hj => ?_⟩
  obtain ⟨u, g1, g2⟩ := h5 j xs hj
  exact ⟨u, by rw [← g1]; exact World.cell?_of_block (k.block b (World.block_lt_of_cell? w _ g1) (fun x => x)), g2.chg k⟩
theorem PtR.one {w : World} {v : Value} {xs : List Int} (h : Rd w v xs) : PtR (w.alloc (.cells #[v] 22)) (.slice (some ⟨w.heap.size, 0, none⟩) 1 1) [xs] := by
  refine ⟨_, 1, 1, rfl, rfl, Nat.le_refl _, by decide, fun _ => ⟨_, _, rfl, fun j ys hj => ?_⟩⟩
  match j, hj with
  | 0, hj =>
    simp at hj
    subst hj
    exact ⟨v, by simp, h.chg ((Chg.refl _ _).alloc _)⟩
theorem flat_take {xss : List (List Int)} {i : Nat} {xs : List Int} (h : xss[i]? = some xs) : (xss.take (i + 1)).flatten = (xss.take i).flatten ++ xs := by
  rw [List.take_add_one, h, List.flatten_append]
  simp
theorem flat_le (xss : List (List Int)) (i : Nat) : (xss.take i).flatten.length ≤ xss.flatten.length := by
  have : xss.flatten = (xss.take i).flatten ++ (xss.drop i).flatten := by rw [← List.flatten_append, List.take_append_drop]
  rw [this, List.length_append]
  omega

def totN (xss : List (List Int)) : Nat := if xss.flatten.length ≤ 65535 then xss.flatten.length else 0
def totB (xss : List (List Int)) : Bool := decide (xss.flatten.length ≤ 65535)

set_option maxHeartbeats 2000000 in
theorem total_any (v : Value) (xss : List (List Int)) (w : World) (hv : PtR w v xss) :
    Calls Tryd.prog 39 #[v] w fun e w' => e = .returned (.tuple #[.int .i64 (totN xss : Nat), .bool (totB xss)]) ∧ w' = w := by
  obtain ⟨ao, L, c, rfl, h1, h2, h3, h4⟩ := hv
  obtain ⟨N, hN⟩ : ∃ N, N = totN xss := ⟨_, rfl⟩
  obtain ⟨B, hB⟩ : ∃ B, B = totB xss := ⟨_, rfl⟩
  have HN : Hid (N = totN xss) := hN
  have HB : Hid (B = totB xss) := hB
  have HL : Hid (L = xss.length) := h1
  have H4 : Hid (xss ≠ [] → ∃ b o, ao = some ⟨b, o, none⟩ ∧ ∀ j xs, xss[j]? = some xs → ∃ u, w.cell? ⟨b, o + j, none⟩ = some u ∧ Rd w u xs) := h4
  rw [← hN, ← hB]
  clear hN hB h1 h4
  go_enter Tryd.func39, Tryd.ntmps39
  go_wp2
  go_loop [2, 8] (fun n i => ∃ (k t : Nat), k ≤ L ∧ i = .int .i64 k ∧ n = .int .i64 t ∧ t ≤ 65535 ∧ Hid (t = (xss.take k).flatten.length)) (fun _ i => L - (intOf i).toNat)
  case atStart => exact ⟨0, 0, Nat.zero_le _, rfl, rfl, by omega, (by simp : 0 = (xss.take 0).flatten.length)⟩
  case round =>
    obtain ⟨k, t, hk, rfl, rfl, ht, hI⟩ := hrel
    by_cases hlt : k < L
    · obtain ⟨xs, hx⟩ : ∃ xs, xss[k]? = some xs := ⟨xss[k]'(by rw [← HL.out]; exact hlt), List.getElem?_eq_getElem _⟩
      obtain ⟨b, o, rfl, h5⟩ := H4.out (by intro e; rw [e] at hx; simp at hx)
      obtain ⟨u, hu, hr⟩ := h5 k xs hx
      obtain ⟨so, m, sc, rfl, hm, hmc, hmx⟩ := hr.shape
      have HM : Hid (m = xs.length) := hm
      have HX : Hid (xss[k]? = some xs) := hx
      unfold maxLen at hmx
      clear h5 hr hm hx
      by_cases hg : t + m ≤ 65535
      · have d1 : decide ((65535 : Int) - (t : Int) < (m : Int)) = false := by simp; omega
        obtain ⟨T, hT⟩ : ∃ T, T = t + m := ⟨_, rfl⟩
        have HT : Hid ((t : Int) + (m : Int) = (T : Int)) := by show _ = _; omega
        have HT2 : Hid (T = (xss.take (k + 1)).flatten.length) := by
          show _ = _
          rw [flat_take HX.out, List.length_append, ← hI.out, ← HM.out]
          exact hT
        have hT65 : T ≤ 65535 := by omega
        clear hT
        go_wp2
        go_round
        case rel => exact ⟨k + 1, T, by omega, by go_num, by rw [HT.out], hT65, HT2⟩
        case measure => simp [intOf]; omega
      · have d1 : decide ((65535 : Int) - (t : Int) < (m : Int)) = true := by simp; omega
        have HE : Hid (N = 0 ∧ B = false) := by
          have h6 := flat_le xss (k + 1)
          rw [flat_take HX.out, List.length_append, ← hI.out, ← HM.out] at h6
          have h7 : ¬ xss.flatten.length ≤ 65535 := by omega
          exact ⟨by rw [HN.out]; unfold totN; rw [if_neg h7], by rw [HB.out]; unfold totB; simpa using h7⟩
        go_wp2
        go_ret2
        exact ⟨by rw [HE.out.1, HE.out.2]; rfl, rfl⟩
    · have HE : Hid (N = t ∧ B = true) := by
        have h6 := hI.out
        rw [List.take_of_length_le (by have := HL.out; omega)] at h6
        have h7 : xss.flatten.length ≤ 65535 := by omega
        exact ⟨by rw [HN.out]; unfold totN; rw [if_pos h7, h6], by rw [HB.out]; unfold totB; simpa using h7⟩
      go_wp2
      go_ret2
      exact ⟨by rw [HE.out.1, HE.out.2]; rfl, rfl⟩

/-- What Put writes. -/
def putL (t : Int) (b : List Int) : List Int := if t % 32 ≠ 31 ∧ b.length ≤ 65535 then encL t b else []

theorem OwnN.made {w u u' : World} {n : Nat} (k : Chg Non w u) (hr : u'.ownsRow u.heap.size 5 1 (.slice (some ⟨u.heap.size, 0, none⟩) 0 n) 0 []) (hg : u.grownBy u' none) : OwnN w u' (.slice (some ⟨u.heap.size, 0, none⟩) 0 n) [] :=
  ⟨.inr ⟨_, 0, 0, n, rfl, Own.of_row (xs := []) hr⟩, fun i e => by injection e with e; rw [← e]; exact k.size, k.two (Chg.of_none hg)⟩

set_option maxHeartbeats 4000000 in
theorem put_any (t : Int) (ht0 : 0 ≤ t) (ht1 : t < 256) (v : Value) (xss : List (List Int)) (w : World) (hv : PtR w v xss) :
    Calls Tryd.prog 15 #[.int .u8 t, v] w fun e w' => ∃ v', e = .returned v' ∧ OwnN w w' v' (putL t xss.flatten) := by
  have HC := total_any v xss w hv
  have HV : Hid (PtR w v xss) := hv
  obtain ⟨ao, L, c, rfl, h1, h2, h3, h4⟩ := hv
  have HL : Hid (L = xss.length) := h1
  clear h4 h1
  obtain ⟨q, hq⟩ : ∃ q, (t % 32 != 31) = q := ⟨_, rfl⟩
  by_cases hle : xss.flatten.length ≤ 65535
  · obtain ⟨N, hN⟩ : ∃ N, N = xss.flatten.length := ⟨_, rfl⟩
    have E1 : totN xss = N := by unfold totN; rw [if_pos hle, hN]
    have E2 : totB xss = true := by unfold totB; simpa using hle
    rw [E1, E2] at HC
    have HC' : Hid (Calls Tryd.prog 39 #[.slice ao L c] w fun e w' => e = .returned (.tuple #[.int .i64 N, .bool true]) ∧ w' = w) := HC
    have HNN : Hid (N = xss.flatten.length) := hN
    have hN65 : N ≤ 65535 := by omega
    clear HC E1 E2 hle hN
    cases q
    · have HE : Hid (putL t xss.flatten = []) := by
        show (if _ then _ else _) = _
        rw [if_neg]
        intro h
        simp at hq
        exact h.1 hq
      go_enter Tryd.func15, Tryd.ntmps15
      go_wp2_with (first
        | (go_at_call 39; refine HC'.out.mono ?_; rintro e w9 ⟨rfl, hw9⟩; obtain rfl := hw9.symm)
        | (go_at_call 40; refine (isTag_any t ht0 ht1 _).mono ?_; rintro e w9 ⟨rfl, hw9⟩; obtain rfl := hw9.symm; rw [hq]))
      go_ret
      exact ⟨_, rfl, by rw [HE.out]; exact OwnN.nought w⟩
    · have HE : Hid (putL t xss.flatten = t :: (lenB N ++ xss.flatten)) := by
        show (if _ then _ else _) = _
        rw [if_pos ⟨by simpa using hq, by have := HNN.out; omega⟩, HNN.out]
        rfl
      obtain ⟨Z, hZ⟩ : ∃ Z, Z = putL t xss.flatten := ⟨_, rfl⟩
      rw [← hZ]
      have HZ : Hid (Z = t :: (lenB N ++ xss.flatten)) := by rw [hZ]; exact HE.out
      obtain ⟨H, hH⟩ : ∃ H, H = (lenB N).length := ⟨_, rfl⟩
      have HH : Hid (H = (lenB N).length) := hH
      have hH3 : H ≤ 3 := by rw [hH, lenB_len]; split; omega; split <;> omega
      have HLB : Hid (Calls Tryd.prog 41 #[.int .i64 N] w fun e w' => e = .returned (.slice (some ⟨w.heap.size, 0, none⟩) H H) ∧ Rd w' (.slice (some ⟨w.heap.size, 0, none⟩) H H) (lenB N) ∧ Chg Non w w') := by rw [hH]; exact lenB_any N hN65 w
      obtain ⟨M, hM⟩ : ∃ M, M = 1 + H + N := ⟨_, rfl⟩
      have HM : Hid ((1 : Int) + (H : Int) + (N : Int) = (M : Int)) := by show _ = _; omega
      have hM2 : M ≤ 65540 := by omega
      obtain ⟨i0, hi, hz0, hz1, hz2⟩ := info_parts Tryd.info5
      clear hZ hH hM HE
      go_enter Tryd.func15, Tryd.ntmps15
      go_wp2_with (first
        | (go_at_call 39; refine HC'.out.mono ?_; rintro e w9 ⟨rfl, hw9⟩; obtain rfl := hw9.symm)
        | (go_at_call 40; refine (isTag_any t ht0 ht1 _).mono ?_; rintro e w9 ⟨rfl, hw9⟩; obtain rfl := hw9.symm; rw [hq])
        | (go_at_call 41; refine HLB.out.mono ?_; rintro e w1 ⟨rfl, hr1, hc1⟩)
        | (at_make; refine wpList_make_own _ rfl _ _ 22 rfl w1.heap.size 5 i0 (.int .u8 0) 1 Tryd.underlying22 hi hz0 hz1 _ _ _ M rfl rfl HM.out (by rw [hz2]; omega) (by unfold maxLen; omega) (Nat.le_refl _) ?_; intro w2 hrow2 hg2)
        | (at_builtin; refine wpList_app _ rfl (.tmp 31) (.tmp 33) rfl _ _ [] [t] rfl rfl ((OwnN.made hc1 hrow2 hg2).own.chg ((Chg.refl _ _).alloc _)) (Rd.one _ _) (by simp) ?_))
      intro v3 w3 g1 g2 g3
      have HO2 : Hid (OwnN w w2 (.slice (some ⟨w1.heap.size, 0, none⟩) 0 M) []) := OwnN.made hc1 hrow2 hg2
      have hlt1 : w.heap.size < w1.heap.size := by
        obtain ⟨b', o', c', e, _, _, h5⟩ := hr1.bs (by intro e; have := HH.out; rw [e] at this; have := lenB_len N; rw [e] at this; simp at this; split at this <;> (try split at this) <;> omega)
        injection e with e
        injection e with e
        injection e with e
        have := h5 0 _ (List.getElem?_eq_getElem (by rw [lenB_len]; split; omega; split <;> omega))
        rw [e]
        exact World.block_lt_of_cell? w1 _ this
      have HR3 : Hid (Rd w3 (.slice (some ⟨w.heap.size, 0, none⟩) H H) (lenB N)) := by
        refine (hr1.chg (Chg.of_none hg2)).keep (fun k hk hlt => ?_)
        rw [g2.block k (by rw [World.size_alloc]; omega) (fun e => by simp [Value.ownBlock] at hk e; omega)]
        exact Below.heap_alloc _ _ _ hlt
      have HO3 : Hid (OwnN w w3 v3 [t]) := (HO2.out.after ((Chg.refl _ _).alloc _)).more g1 g2 (by simpa using g3)
      clear hrow2 hg2 hr1 hc1 hi hz0 hz1 hz2 g1 g2 g3 HO2 HLB HC'
      obtain ⟨o3, n3, c3, rfl, hn3, -, -⟩ := HO3.out.rd.shape
      have HN3 : Hid (n3 = 1) := hn3
      clear hn3
      obtain ⟨w4, hw4⟩ : ∃ w4, w4 = w3 := ⟨_, rfl⟩
      go_wp2_with (at_builtin; refine wpList_app _ rfl (.tmp 35) (.tmp 36) rfl _ _ [t] (lenB N) rfl rfl HO3.out.own HR3.out (by have := HH.out; simp; omega) ?_)
      intro v5 w5 g1 g2 g3
      have HO5 : Hid (OwnN w w5 v5 ([t] ++ lenB N)) := HO3.out.more g1 g2 g3
      clear g1 g2 g3 HO3 HR3 hw4
      obtain ⟨o5, n5, c5, rfl, hn5, -, -⟩ := HO5.out.rd.shape
      clear hn5
      go_wp2
      go_loopw [8, 40] (fun b i wr => ∃ (k : Nat), k ≤ L ∧ i = .int .i64 k ∧ Hid (OwnN w wr b (t :: (lenB N ++ (xss.take k).flatten)))) (fun _ i _ => L - (intOf i).toNat)
      case atStart => exact ⟨0, Nat.zero_le _, rfl, (by have := HO5.out; simpa using this : OwnN w w5 _ (t :: (lenB N ++ (xss.take 0).flatten)))⟩
      case round =>
        obtain ⟨k, hk, rfl, hI⟩ := hrel
        rename_i u8' wr _
        by_cases hlt : k < L
        · obtain ⟨xs, hx⟩ : ∃ xs, xss[k]? = some xs := ⟨xss[k]'(by rw [← HL.out]; exact hlt), List.getElem?_eq_getElem _⟩
          have hp := HV.out.chg hI.out.chg
          obtain ⟨ao', n', c', e', -, -, -, h4⟩ := hp
          injection e' with e1 e2 e3
          obtain ⟨b, o, rfl, h5⟩ := h4 (by intro e; rw [e] at hx; simp at hx)
          subst e1
          obtain ⟨u, hu, hr⟩ := h5 k xs hx
          have hfl := flat_le xss (k + 1)
          rw [flat_take hx, List.length_append] at hfl
          have HX : Hid (xss[k]? = some xs) := hx
          have HFL : Hid ((xss.take k).flatten.length + xs.length ≤ 65535) := by show _ ≤ _; have := HNN.out; omega
          have HRU : Hid (Rd wr u xs) := hr
          obtain ⟨so, m, sc, rfl, hm, -, -⟩ := hr.shape
          obtain ⟨o6, n6, c6, hu6, hn6, -, -⟩ := hI.out.rd.shape
          subst hu6
          clear h5 hr hx hfl hm hn6 h4 e2 e3
          go_wp2_with (at_builtin; refine wpList_app _ rfl (.tmp 44) (.tmp 45) rfl _ _ (t :: (lenB N ++ (xss.take k).flatten)) xs rfl rfl hI.out.own HRU.out (by have := HFL.out; have := HH.out; simp only [List.length_cons, List.length_append]; omega) ?_)
          intro v7 w7 g1 g2 g3
          have HO7 : Hid (OwnN w w7 v7 (t :: (lenB N ++ (xss.take (k + 1)).flatten))) := by
            have := hI.out.more g1 g2 g3
            have h8 : OwnN w w7 v7 (t :: (lenB N ++ (xss.take (k + 1)).flatten)) := by
              rw [flat_take HX.out]
              simpa using this
            exact h8
          clear g1 g2 g3
          go_wp2
          go_roundw
          case rel => exact ⟨k + 1, by omega, by go_num, HO7⟩
          case measure => simp [intOf]; omega
        · have HE : Hid (Z = t :: (lenB N ++ (xss.take k).flatten)) := by
            show _ = _
            rw [List.take_of_length_le (by have := HL.out; omega)]
            exact HZ.out
          go_wp2
          go_ret
          exact ⟨_, rfl, by rw [HE.out]; exact hI.out⟩
  · have E1 : totN xss = 0 := by unfold totN; rw [if_neg hle]
    have E2 : totB xss = false := by unfold totB; simpa using hle
    rw [E1, E2] at HC
    have HC' : Hid (Calls Tryd.prog 39 #[.slice ao L c] w fun e w' => e = .returned (.tuple #[.int .i64 ((0 : Nat) : Int), .bool false]) ∧ w' = w) := HC
    have HE : Hid (putL t xss.flatten = []) := by
      show (if _ then _ else _) = _
      rw [if_neg]
      intro h
      exact hle h.2
    clear HC E1 E2 hle
    cases q
    all_goals
      go_enter Tryd.func15, Tryd.ntmps15
      go_wp2_with (first
        | (go_at_call 39; refine HC'.out.mono ?_; rintro e w9 ⟨rfl, hw9⟩; obtain rfl := hw9.symm)
        | (go_at_call 40; refine (isTag_any t ht0 ht1 _).mono ?_; rintro e w9 ⟨rfl, hw9⟩; obtain rfl := hw9.symm; rw [hq]))
      go_ret
      exact ⟨_, rfl, by rw [HE.out]; exact OwnN.nought w⟩
end Go.Proofs.YtnidfbcninkglaaDoor
