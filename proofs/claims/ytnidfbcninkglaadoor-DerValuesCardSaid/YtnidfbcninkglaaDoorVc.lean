/-
  The document's Bits.
-/
import Derived.Test.YtnidfbcninkglaaDoorVb
namespace Go.Proofs.YtnidfbcninkglaaDoor
open Go.RowKit
set_option linter.unusedVariables false
set_option maxRecDepth 100000

theorem ends_mod (s : List Int) (y u : Nat) (hu : u < 8) (hy : y < 256) : endsL u (s ++ [(y : Int)]) = (((y % 2 ^ u : Nat) : Int) == 0) := by
  rw [endsL_snoc, Int.toNat_natCast, (tz_tab ⟨y, hy⟩).2 ⟨u, hu⟩]
  rw [Bool.eq_iff_iff, beq_iff_eq, beq_iff_eq]
  show y % 2 ^ u = 0 ↔ _
  omega

theorem and_mod (y k : Nat) (hy : y < 256) (hk : k < 8) : bits .and .u8 (y : Int) ((2 ^ k - 1 : Nat) : Int) = ((y % 2 ^ k : Nat) : Int) := by
  have : 2 ^ k ≤ 2 ^ 7 := Nat.pow_le_pow_right (by omega) (by omega)
  rw [u8_and_nat y (2 ^ k - 1) hy (by omega), Nat.and_two_pow_sub_one_eq_mod]

set_option maxHeartbeats 4000000 in
theorem rbits_any (v : Value) (xs : List Int) (hb : Byt xs) (w : World) (hv : Rd w v xs) (hl : xs.length ≤ 140737488355328) :
    Calls Tryd.prog 23 #[v] w fun e w' => ∃ v', e = .returned (.tuple #[v', .int .i64 (bitsU xs), .int .i64 (bitsE xs)]) ∧ OwnN w w' v' (bitsR xs) := by
  match xs, hb, hv, hl with
  | [], hb, hv, hl =>
    obtain ⟨ao, c, rfl, hc⟩ := hv.empty
    go_enter Tryd.func23, Tryd.ntmps23
    go_wp2
    refine bp3 Tryd.results23 rfl ?_
    exact ⟨_, rfl, OwnN.nought w⟩
  | u :: r, hb, hv, hl =>
    obtain ⟨b, o, c, rfl, h1, h2, h3⟩ := hv.bs (by simp)
    have hx := h3.at0
    obtain ⟨h4, h5⟩ := hb.head
    obtain ⟨ao, hao⟩ : ∃ ao, ao = (if c = 1 then some (⟨b, o, none⟩ : Addr) else some ⟨b, o + 1, none⟩) := ⟨_, rfl⟩
    have HA : Hid (ao = (if c = 1 then some (⟨b, o, none⟩ : Addr) else some ⟨b, o + 1, none⟩)) := hao
    by_cases e1 : u ≤ 7
    · have e1' : decide ((7 : Int) < u) = false := by simp; omega
      obtain ⟨k, rfl⟩ := Int.eq_ofNat_of_zero_le h4
      by_cases hr : r = []
      · subst hr
        simp only [List.length_singleton] at h1 ⊢
        have HT : Hid (Rd w (.slice ao (1 - 1) (c - 1)) []) := by have := tail_rd (n := 1) h3 rfl (by omega) h2; rw [← hao] at this; exact this
        clear hv h3 hb hao
        by_cases e2 : k = 0
        · subst e2
          obtain ⟨E1, E2, E3⟩ := bits_yes (u := ((0 : Nat) : Int)) (r := []) (by simp [bitsOk])
          rw [E1, E2, E3]
          clear E1 E2 E3
          go_enter Tryd.func23, Tryd.ntmps23
          go_upto_region 4 with fail
          go_quiet (fail)
          go_wp2
          all_goals (refine bp3 Tryd.results23 rfl ?_; exact ⟨_, rfl, OwnN.start w (w.drewN nq) ((Chg.refl _ _).drewN _)⟩)
        · have e2' : ((k : Int) != 0) = true := by simpa using e2
          obtain ⟨E1, E2, E3⟩ := bits_no (xs := [(k : Int)]) (by simp [bitsOk, endsL, e2])
          rw [E1, E2, E3]
          clear E1 E2 E3
          go_enter Tryd.func23, Tryd.ntmps23
          go_wp2
          refine bp3 Tryd.results23 rfl ?_
          exact ⟨_, rfl, OwnN.nought w⟩
      · obtain ⟨s, y, rfl⟩ := snoc_of hr
        obtain ⟨h6, h7⟩ := hb.tail y (by simp)
        obtain ⟨y, rfl⟩ := Int.eq_ofNat_of_zero_le h6
        have hy := h3 (s.length + 1) y (by simp)
        have hm := ends_mod s y k (by omega) (by omega)
        have HE : Hid (bitsOk ((k : Int) :: (s ++ [(y : Int)])) = (decide (k = 0) || endsL k (s ++ [(y : Int)]))) := show _ = _ by simp [bitsOk]; intro; omega
        have HT : Hid (Bs w b (o + 1) (s ++ [(y : Int)])) := h3.tail
        obtain ⟨m, hm'⟩ : ∃ m, m = s.length := ⟨_, rfl⟩
        have HM : Hid (m = s.length) := hm'
        rw [← hm'] at hy
        have e : ((k : Int) :: (s ++ [(y : Int)])).length = m + 2 := by simp [hm']
        rw [e] at h1 hl ⊢
        have i0 : ¬ c = 1 := by omega
        have i1 : decide ((m : Int) + 2 < 1) = false := by simp; omega
        have i2 : ((m : Int) + 2 == 1) = false := by simp; omega
        have ha := and_mod y k (by omega) (by omega)
        clear hv h3 hb hao hr HA hm' e
        obtain ⟨q, hq⟩ : ∃ q, (((y % 2 ^ k : Nat) : Int) == 0) = q := ⟨_, rfl⟩
        have hok : bitsOk ((k : Int) :: (s ++ [(y : Int)])) = (decide (k = 0) || q) := by rw [HE.out, hm, hq]
        clear hm HE
        have hq : (bits .and .u8 (y : Int) ((2 ^ k - 1 : Nat) : Int) != 0) = !q := by rw [ha, bne, hq]
        clear ha
        have hk : k = 0 ∨ k = 1 ∨ k = 2 ∨ k = 3 ∨ k = 4 ∨ k = 5 ∨ k = 6 ∨ k = 7 := by omega
        rcases hk with rfl | rfl | rfl | rfl | rfl | rfl | rfl | rfl
        · obtain ⟨E1, E2, E3⟩ := bits_yes (u := ((0 : Nat) : Int)) (r := s ++ [(y : Int)]) (by rw [hok]; rfl)
          rw [E1, E2, E3]
          clear E1 E2 E3 hok hq
          go_enter Tryd.func23, Tryd.ntmps23
          go_upto_region 4 with fail
          go_quiet (fail)
          go_wp2_with (at_builtin; refine wpList_app _ rfl (.tmp 45) (.tmp 47) rfl _ _ [] (s ++ [(y : Int)]) rfl rfl (OwnV.empty (w.drewN nq)) ((HT.out.rd (n := m + 1) (c := c - 1) (by have := HM.out; simp; omega) (by omega) (by omega)).chg (((Chg.refl _ _).drewN _).alloc _)) (by have := HM.out; simp; omega) ?_)
          intro v' w' g1 g2 g3
          go_wp2
          refine bp3 Tryd.results23 rfl ?_
          exact ⟨_, rfl, (OwnN.start w (w.drewN nq) ((Chg.refl _ _).drewN _)).more g1 g2 (by rw [World.size_alloc]; exact g3)⟩
        all_goals
          cases q
          · obtain ⟨E1, E2, E3⟩ := bits_no (by rw [hok]; rfl)
            rw [E1, E2, E3]
            clear E1 E2 E3 hok
            simp only [Nat.reducePow, Nat.reduceSub, Int.cast_ofNat_Int, Bool.not_false] at hq
            go_enter Tryd.func23, Tryd.ntmps23
            go_upto_region 4 with fail
            go_quiet (fail)
            go_wp2
            refine bp3 Tryd.results23 rfl ?_
            exact ⟨_, rfl, (OwnN.nought _).from ((Chg.refl _ _).drewN _)⟩
          · obtain ⟨E1, E2, E3⟩ := bits_yes (by rw [hok]; rfl)
            rw [E1, E2, E3]
            clear E1 E2 E3 hok
            simp only [Nat.reducePow, Nat.reduceSub, Int.cast_ofNat_Int, Bool.not_true] at hq
            go_enter Tryd.func23, Tryd.ntmps23
            go_upto_region 4 with fail
            go_quiet (fail)
            go_wp2_with (at_builtin; refine wpList_app _ rfl (.tmp 45) (.tmp 47) rfl _ _ [] (s ++ [(y : Int)]) rfl rfl (OwnV.empty (w.drewN nq)) ((HT.out.rd (n := m + 1) (c := c - 1) (by have := HM.out; simp; omega) (by omega) (by omega)).chg (((Chg.refl _ _).drewN _).alloc _)) (by have := HM.out; simp; omega) ?_)
            intro v' w' g1 g2 g3
            go_wp2
            refine bp3 Tryd.results23 rfl ?_
            exact ⟨_, rfl, (OwnN.start w (w.drewN nq) ((Chg.refl _ _).drewN _)).more g1 g2 (by rw [World.size_alloc]; exact g3)⟩
    · have e1' : decide ((7 : Int) < u) = true := by simp; omega
      have hno : bitsOk (u :: r) = false := by simp [bitsOk, e1]
      obtain ⟨E1, E2, E3⟩ := bits_no hno
      rw [E1, E2, E3]
      obtain ⟨n, hn⟩ : ∃ n, n = (u :: r).length := ⟨_, rfl⟩
      rw [← hn] at h1 ⊢
      have i0 : decide ((n : Int) < 1) = false := by rw [hn]; simp; omega
      have i1 : 1 ≤ n := by rw [hn]; simp
      clear E1 E2 E3 hno hv h3 hb hn
      go_enter Tryd.func23, Tryd.ntmps23
      go_wp2
      refine bp3 Tryd.results23 rfl ?_
      exact ⟨_, rfl, OwnN.nought w⟩
end Go.Proofs.YtnidfbcninkglaaDoor
