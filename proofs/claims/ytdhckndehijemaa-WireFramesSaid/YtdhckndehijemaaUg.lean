/-
  The document's Unframe.
-/
import Derived.Test.YtdhckndehijemaaUf
namespace Go.Proofs.Ytdhckndehijemaa
open Go.RowKit
set_option linter.unusedVariables false
set_option maxRecDepth 100000

set_option maxHeartbeats 6400000 in
theorem runframe_any (vb : Value) (xs : List Int) (w : World) (hb : Rel .byt (Bel w.heap.size) w [vb] xs) :
    Calls Try.prog 13 #[vb] w fun e w' => UO xs w w' e := by
  obtain ⟨v', e, k1, k2, k3⟩ := id hb
  injection e with e
  subst e
  obtain ⟨ao, N, c, rfl, hN, hc, hm⟩ := k1.shape
  have hm' : c ≤ 9223372036854775807 := by simpa [maxLen] using hm
  have HN : Hid (N = xs.length) := hN
  by_cases h4 : N < 4
  · have d1 : decide ((N : Int) < 4) = true := by simp; omega
    have HL : Hid (N < 4) := h4
    clear k1 k2 k3 hN hm hb h4
    go_enter Try.func13, Try.ntmps13
    go_wp2
    refine bodyPost_ret (v := .tuple #[.int .u8 0, .slice none 0 0, .int .i64 0, .int .i64 0]) ?_ rfl ?_
    · simp [results, Try.results13]
    · have hu : unf xs = (0, [], 0, 0) := by unfold unf; rw [if_pos (by rw [← HN.out]; exact HL.out)]
      refine ⟨⟨_, 0, 0, 0, rfl, by rw [hu], by rw [hu], by rw [hu], ?_⟩⟩
      rw [hu]
      exact ⟨Chg.refl _ _, .inl ⟨rfl, rfl⟩, fun k e => by cases e⟩
  · obtain ⟨a0, a1, a2, a3, l0, l1, l2, l3, q0, q1, q2, q3, hn, hg⟩ := front k2 (by omega)
    obtain ⟨bb, oo, c', e', hcc, hcm, hB⟩ := k1.bs (by intro e; rw [e] at q0; cases q0)
    injection e' with e1 e2 e3
    subst e1; subst e3
    have m0 := hB 0 _ q0
    have m1 := hB 1 _ q1
    have m2 := hB 2 _ q2
    have m3 := hB 3 _ q3
    obtain ⟨n, hnn⟩ : ∃ n, n = b3 xs := ⟨_, rfl⟩
    have hor1 := or_a a1 a2 l1 l2
    obtain ⟨X, hX⟩ : ∃ X : Nat, X = a1 * 65536 + a2 * 256 := ⟨_, rfl⟩
    rw [← hX] at hor1
    have hor2 : bits .or .i64 (X : Int) (a3 : Int) = (n : Int) := by
      have := or_b (a1 * 256 + a2) a3 (by omega) l3
      rw [show (a1 * 256 + a2) * 256 = X by omega, show X + a3 = n by omega] at this
      exact this
    have d1 : decide ((N : Int) < 4) = false := by simp; omega
    have i1 : (1 : Int) < (N : Int) := by omega
    have i2 : (2 : Int) < (N : Int) := by omega
    have i3 : (3 : Int) < (N : Int) := by omega
    have HNN : Hid (n = b3 xs ∧ xs.getD 0 0 = (a0 : Int) ∧ 4 ≤ N) := ⟨hnn, hg, by omega⟩
    have HK : Hid (Rd w (.slice (some ⟨bb, oo, none⟩) N c) xs ∧ Bs w bb oo xs ∧ ∀ k, (Value.slice (some ⟨bb, oo, none⟩) N c).ownBlock = some k → k < w.heap.size) := ⟨k1, hB, k3⟩
    have hn24 : n < 16777216 := by omega
    have hw1 : IntKind.i64.wrap (a1 : Int) = (a1 : Int) := wraps_i63 _ (by omega) (by omega)
    have hw2 : IntKind.i64.wrap (a2 : Int) = (a2 : Int) := wraps_i63 _ (by omega) (by omega)
    have hw3 : IntKind.i64.wrap (a3 : Int) = (a3 : Int) := wraps_i63 _ (by omega) (by omega)
    have hw4 : IntKind.i64.wrap ((a1 : Int) * 65536) = (a1 : Int) * 65536 := wraps_i63 _ (by omega) (by omega)
    have hw5 : IntKind.i64.wrap ((a2 : Int) * 256) = (a2 : Int) * 256 := wraps_i63 _ (by omega) (by omega)
    obtain ⟨M, hM⟩ : ∃ M, M = 4 + n := ⟨_, rfl⟩
    have e4 : 4 + (n : Int) = (M : Int) := by omega
    have HM : Hid (M = 4 + n) := hM
    have hwM : IntKind.i64.wrap (M : Int) = (M : Int) := wraps_i63 _ (by omega) (by omega)
    clear k1 k2 k3 hm hb hB q0 q1 q2 q3 hn hg hnn hX e2 l0 hN hcc hcm
    by_cases hbig : 16384 < n
    · have d2 : decide ((n : Int) > 16384) = true := by simp; omega
      have HBG : Hid (16384 < n) := hbig
      clear hbig
      go_enter Try.func13, Try.ntmps13
      go_wp2_with fail
      go_region_held3 (fun u => u.cell? ⟨bb, oo + 1, none⟩ = some (.int .u8 a1) ∧ u.cell? ⟨bb, oo + 2, none⟩ = some (.int .u8 a2) ∧ u.cell? ⟨bb, oo + 3, none⟩ = some (.int .u8 a3)) (first | exact ⟨m1, m2, m3⟩) (first | fail)
      go_wp2
      refine bodyPost_ret (v := .tuple #[.int .u8 0, .slice none 0 0, .int .i64 0, .int .i64 50]) ?_ rfl ?_
      · simp [results, Try.results13]
      · have hu : unf xs = (0, [], 0, 50) := by unfold unf; rw [if_neg (by have := HN.out; have := HNN.out.2.2; omega), if_pos (by rw [← HNN.out.1]; exact HBG.out)]
        refine ⟨⟨_, 0, 0, 50, rfl, by rw [hu], by rw [hu], by rw [hu], ?_⟩⟩
        rw [hu]
        exact ⟨(Chg.refl _ _).drew, .inl ⟨rfl, rfl⟩, fun k e => by cases e⟩
    · have d2 : decide ((n : Int) > 16384) = false := by simp; omega
      have HBG : Hid (¬ 16384 < n) := hbig
      by_cases hsh : N < M
      · have d3 : decide ((N : Int) < (M : Int)) = true := by simp; omega
        have HSH : Hid (N < M) := hsh
        clear hbig hsh hM
        go_enter Try.func13, Try.ntmps13
        go_wp2_with fail
        go_region_held3 (fun u => u.cell? ⟨bb, oo + 1, none⟩ = some (.int .u8 a1) ∧ u.cell? ⟨bb, oo + 2, none⟩ = some (.int .u8 a2) ∧ u.cell? ⟨bb, oo + 3, none⟩ = some (.int .u8 a3)) (first | exact ⟨m1, m2, m3⟩) (first | fail)
        go_wp2
        refine bodyPost_ret (v := .tuple #[.int .u8 0, .slice none 0 0, .int .i64 0, .int .i64 0]) ?_ rfl ?_
        · simp [results, Try.results13]
        · have hu : unf xs = (0, [], 0, 0) := by unfold unf; rw [if_neg (by have := HN.out; have := HNN.out.2.2; omega), if_neg (by rw [← HNN.out.1]; exact HBG.out), if_pos (by have h1 := HSH.out; have h2 := HM.out; have h3 := HN.out; have h4 := HNN.out.1; omega)]
          refine ⟨⟨_, 0, 0, 0, rfl, by rw [hu], by rw [hu], by rw [hu], ?_⟩⟩
          rw [hu]
          exact ⟨(Chg.refl _ _).drew, .inl ⟨rfl, rfl⟩, fun k e => by cases e⟩
      · have d3 : decide ((N : Int) < (M : Int)) = false := by simp; omega
        have hu : unf xs = ((a0 : Int), (xs.drop 4).take n, (M : Int), 0) := by
          unfold unf
          rw [if_neg (by have := HN.out; have := HNN.out.2.2; omega), if_neg (by rw [← HNN.out.1]; exact HBG.out), if_neg (by have h2 := HM.out; have h3 := HN.out; have h4 := HNN.out.1; omega), HNN.out.2.1, ← HNN.out.1, ← HM.out]
        have HU : Hid (unf xs = ((a0 : Int), (xs.drop 4).take n, (M : Int), 0)) := hu
        have hMN : (M : Int) ≤ (N : Int) := by omega
        have hM4 : (4 : Int) ≤ (M : Int) := by omega
        have hMn : M - 4 = n := by omega
        have hN0 : (0 : Int) < (N : Int) := by omega
        have hN0' : 0 < N := by omega
        have hN1' : 1 < N := by omega
        have hMc : (M : Int) ≤ (c : Int) := by omega
        have hMc' : M ≤ c := by omega
        have hM4' : 4 ≤ M := by omega
        have hMN' : M ≤ N := by omega
        have m0' : w.cell? ⟨bb, oo, none⟩ = some (.int .u8 a0) := m0
        have HLY : Hid (((xs.drop 4).take n).length ≤ 140737488355328) := by show _ ≤ _; simp; omega
        clear hbig hsh hu
        by_cases hc4 : c = 4
        · have HRD : Hid (Rd w (.slice (some ⟨bb, oo, none⟩) n 0) ((xs.drop 4).take n)) := by
            have h1 : N = 4 := by omega
            have h2 : n = 0 := by omega
            have := (Rd.dropAll (n := 4) HK.out.1 (by omega) hc4).takeN (n := n) (by omega)
            exact this
          obtain rfl : n = 0 := by omega
          obtain rfl : M = 4 := by omega
          obtain rfl : N = 4 := by omega
          have hw44 : IntKind.i64.wrap 4 = 4 := by decide
          subst hc4
          have HRr : Hid (∀ u, Chg Non w u → Rd u (.slice (some ⟨bb, oo, none⟩) 0 0) ((xs.drop 4).take 0)) := fun u hu => HRD.out.chg hu
          have HC0 : Hid (∀ u, Chg Non w u → u.cell? ⟨bb, oo, none⟩ = some (.int .u8 a0)) := fun u hu => by rw [← m0']; exact World.cell?_of_block (hu.block _ (World.block_lt_of_cell? w _ m0') (fun s => s))
          have hbl : bb < w.heap.size := World.block_lt_of_cell? w _ m0'
          clear hM
          go_enter Try.func13, Try.ntmps13
          go_wp2_with fail
          go_region_held3 (fun u => u.cell? ⟨bb, oo + 1, none⟩ = some (.int .u8 a1) ∧ u.cell? ⟨bb, oo + 2, none⟩ = some (.int .u8 a2) ∧ u.cell? ⟨bb, oo + 3, none⟩ = some (.int .u8 a3)) (first | exact ⟨m1, m2, m3⟩) (first | fail)
          go_wp2_with fail
          go_region_law (refine step_app rfl (.tmp 36) (.tmp 40) rfl _ _ [] ((xs.drop 4).take 0) rfl rfl ?_ ?_ ?_ ?_; (exact (OwnV.empty w).keep (fun _ _ => rfl)); (exact HRr.out _ (((Chg.refl Non w).drew.drew).alloc _)); (simp only [List.length_nil, Nat.zero_add]; exact HLY.out); intro v2 w2 ho2 hc2 hk2; have hA2 : OwnN w w2 v2 ((xs.drop 4).take 0) := OwnN.more (OwnN.start w w (Chg.refl _ _)) ho2 ⟨hc2.os, hc2.tape, hc2.output, hc2.size, hc2.block⟩ (by first | exact hk2 | (rw [World.size_alloc]; exact hk2)); obtain ⟨ao2, n2, c2, rfl, -, -, -⟩ := ho2.rd.shape; have p0 := HC0.out w2 hA2.chg)
          all_goals
            have HQ : Hid (OwnN w w2 (.slice ao2 n2 c2) ((xs.drop 4).take 0)) := hA2
            clear hA2 ho2 hc2 hk2
            go_wp2
            refine bodyPost_ret (v := .tuple #[.int .u8 a0, .slice ao2 n2 c2, .int .i64 4, .int .i64 0]) ?_ rfl ?_
            · simp [results, Try.results13, Act.put]
            · refine ⟨⟨_, a0, 4, 0, rfl, by rw [HU.out], by rw [HU.out]; rfl, by rw [HU.out], ?_⟩⟩
              rw [HU.out]
              exact ⟨HQ.out.chg, HQ.out.own, HQ.out.new⟩
        · have HRD : Hid (Rd w (.slice (some ⟨bb, oo + 4, none⟩) n (c - 4)) ((xs.drop 4).take n)) := by
            have := (Rd.dropN (n := 4) HK.out.1 (by omega)).takeN (n := n) (by omega)
            rw [Addr.add_lit] at this
            exact this
          have HRr : Hid (∀ u, Chg Non w u → Rd u (.slice (some ⟨bb, oo + 4, none⟩) n (c - 4)) ((xs.drop 4).take n)) := fun u hu => HRD.out.chg hu
          have HC0 : Hid (∀ u, Chg Non w u → u.cell? ⟨bb, oo, none⟩ = some (.int .u8 a0)) := fun u hu => by rw [← m0']; exact World.cell?_of_block (hu.block _ (World.block_lt_of_cell? w _ m0') (fun s => s))
          have hbl : bb < w.heap.size := World.block_lt_of_cell? w _ m0'
          clear hM
          go_enter Try.func13, Try.ntmps13
          go_wp2_with fail
          go_region_held3 (fun u => u.cell? ⟨bb, oo + 1, none⟩ = some (.int .u8 a1) ∧ u.cell? ⟨bb, oo + 2, none⟩ = some (.int .u8 a2) ∧ u.cell? ⟨bb, oo + 3, none⟩ = some (.int .u8 a3)) (first | exact ⟨m1, m2, m3⟩) (first | fail)
          go_wp2_with fail
          go_region_law (refine step_app rfl (.tmp 36) (.tmp 40) rfl _ _ [] ((xs.drop 4).take n) rfl rfl ?_ ?_ ?_ ?_; (exact (OwnV.empty w).keep (fun _ _ => rfl)); (exact HRr.out _ (((Chg.refl Non w).drew.drew).alloc _)); (simp only [List.length_nil, Nat.zero_add]; exact HLY.out); intro v2 w2 ho2 hc2 hk2; have hA2 : OwnN w w2 v2 ((xs.drop 4).take n) := OwnN.more (OwnN.start w w (Chg.refl _ _)) ho2 ⟨hc2.os, hc2.tape, hc2.output, hc2.size, hc2.block⟩ (by first | exact hk2 | (rw [World.size_alloc]; exact hk2)); obtain ⟨ao2, n2, c2, rfl, -, -, -⟩ := ho2.rd.shape; have p0 := HC0.out w2 hA2.chg)
          all_goals
            have HQ : Hid (OwnN w w2 (.slice ao2 n2 c2) ((xs.drop 4).take n)) := hA2
            clear hA2 ho2 hc2 hk2
            go_wp2
            refine bodyPost_ret (v := .tuple #[.int .u8 a0, .slice ao2 n2 c2, .int .i64 M, .int .i64 0]) ?_ rfl ?_
            · simp [results, Try.results13, Act.put]
            · refine ⟨⟨_, a0, M, 0, rfl, by rw [HU.out], by rw [HU.out], by rw [HU.out], ?_⟩⟩
              rw [HU.out]
              exact ⟨HQ.out.chg, HQ.out.own, HQ.out.new⟩
end Go.Proofs.Ytdhckndehijemaa
