/-
  The document's product of two blocks.
-/
import Derived.Test.YtfnibmfmjglmlaaRUp
namespace Go.Proofs.Ytfnibmfmjglmlaa
open Go.RowKit
set_option linter.unusedVariables false

/-- A block, so many times x. -/
def upn (f : Nat → By) : Nat → Nat → By
  | 0 => f
  | n + 1 => upB (upn f n)
theorem pol_upn (f : Nat → By) (n : Nat) : pol (upn f n) = txn n (pol f) := by
  induction n with
  | zero => rfl
  | succ n ih =>
    show pol (upB (upn f n)) = tx (txn n (pol f))
    rw [pol_up, ih]
/-- Behind so many bits. -/
def oun (a b : Nat → By) : Nat → Nat → By
  | 0 => zB
  | n + 1 => if (pol b).getMsbD n then xr (oun a b n) (upn a n) else oun a b n
theorem pol_oun (a b : Nat → By) (n : Nat) : pol (oun a b n) = prS (pol b) (pol a) n := by
  induction n with
  | zero => show pol zB = 0#128; decide +kernel
  | succ n ih =>
    rw [prS_succ, ← ih, ← pol_upn]
    show pol (if (pol b).getMsbD n then xr (oun a b n) (upn a n) else oun a b n) = _
    cases (pol b).getMsbD n
    · simp [sel]
    · rw [if_pos rfl, pol_xr]
      simp [sel]
theorem oun_all (a b : Nat → By) : ba 16 (oun a b 128) = ba 16 (mulB a b) := ba_congr (pol_inj (by
  rw [pol_oun, prS_all, pr_comm, mulB, pol_byt]))

/-- What stands while the document multiplies. -/
structure MuS (w wr : World) (a b o : Nat → By) : Prop where
  chg : Chg w wr
  a : Ar wr w.heap.size (ba 16 a)
  b : Ar wr (w.heap.size + 1) (ba 16 b)
  out : Ar wr (w.heap.size + 1 + 1) (ba 16 zB)
  o : Ar wr (w.heap.size + 1 + 1 + 1) (ba 16 o)
theorem MuS.to {w wr u : World} {a b o : Nat → By} (h : MuS w wr a b o) (k : Chg wr u) : MuS w u a b o := ⟨h.chg.trans k, h.a.chg k, h.b.chg k, h.out.chg k, h.o.chg k⟩

set_option maxRecDepth 100000 in
set_option maxHeartbeats 8000000 in
theorem refMul_any (a b : Nat → By) (w : World) : Calls Try.prog 16 #[.agg (ba 16 a), .agg (ba 16 b)] w fun r w' => r = .returned (.agg (ba 16 (mulB a b))) ∧ Chg w w' := by
  have hz := zero32.1
  have hsA := ba_size 16 a
  have hsB := ba_size 16 b
  obtain ⟨A, hA⟩ : ∃ A, A = ba 16 a := ⟨_, rfl⟩
  obtain ⟨B, hB⟩ : ∃ B, B = ba 16 b := ⟨_, rfl⟩
  have HAB : Hid (A = ba 16 a ∧ B = ba 16 b) := ⟨hA, hB⟩
  rw [← hA] at hsA ⊢
  rw [← hB] at hsB ⊢
  clear hA hB
  go_enter Try.func16, Try.ntmps16
  go_upto_region 2 with fail
  obtain ⟨w1, hw1⟩ : ∃ w1, w1 = (((w.alloc (.cells A 23)).alloc (.cells B 23)).alloc (.cells (ba 16 zB) 23)).alloc (.cells (ba 16 zB) 23) := ⟨_, rfl⟩
  have Z1 : Hid (MuS w w1 (upn a 0) b (oun a b 0)) := by
    rw [hw1, HAB.out.1, HAB.out.2]
    refine ⟨((((Chg.refl w).alloc _).alloc _).alloc _).alloc _, (((Ar.new w _ _).alloc _).alloc _).alloc _, ((Ar.new1 w _ _ _).alloc _).alloc _, (Ar.new2 w _ _ _ _).alloc _, ?_⟩
    have := Ar.new (((w.alloc (.cells (ba 16 a) 23)).alloc (.cells (ba 16 b) 23)).alloc (.cells (ba 16 zB) 23)) (ba 16 zB) 23
    rwa [World.size_alloc, World.size_alloc, World.size_alloc] at this
  rw [← hw1]
  clear hw1 hsA hsB hz
  go_wp2_with fail
  go_loopw [6] (fun v wr => ∃ (i : Nat), v = .int .i64 i ∧ i ≤ 128 ∧ MuS w wr (upn a i) b (oun a b i)) (fun v wr => 128 - (intOf v).toNat)
  case atStart => exact ⟨0, rfl, by omega, Z1.out⟩
  case round =>
    clear Z1
    obtain ⟨i, rfl, hi, hz1⟩ := hrel
    obtain ⟨ua, hua⟩ : ∃ ua, ua = upn a i := ⟨_, rfl⟩
    obtain ⟨oo, hoo⟩ : ∃ oo, oo = oun a b i := ⟨_, rfl⟩
    have HU : Hid (ua = upn a i ∧ oo = oun a b i) := ⟨hua, hoo⟩
    rw [← hua, ← hoo] at hz1
    have Z : Hid (MuS w wr ua b oo) := hz1
    clear hua hoo
    by_cases h128 : i < 128
    · have hd : decide ((i : Int) < 128) = true := by simp; omega
      obtain ⟨bb, hbb⟩ : ∃ bb, bb = (pol b).getMsbD i := ⟨_, rfl⟩
      have HBB : Hid (bb = (pol b).getMsbD i) := hbb
      have HC : Hid (Calls Try.prog 35 #[.agg (ba 16 b), .int .i64 (i : Int)] wr fun r w' => r = .returned (.bool bb) ∧ Chg wr w') := by
        rw [hbb]
        exact bit_any b i h128 wr
      obtain ⟨tb, gb⟩ := hz1.b
      have hsb := szB b zero32.2
      clear hz1 hbb
      go_wp2_with (first | refine wpList_load_row rfl 23 _ rfl _ rfl _ _ _ _ gb und32 rfl hsb ?_)
      go_at_call 35
      refine HC.out.mono ?_
      rintro r w2 ⟨rfl, hc2⟩
      have Z2 : Hid (MuS w w2 ua b oo) := Z.out.to hc2
      clear hc2 gb hsb HC Z
      obtain ⟨on, hon⟩ : ∃ on, on = oun a b (i + 1) := ⟨_, rfl⟩
      have HON : Hid (on = oun a b (i + 1)) := hon
      have HO : Hid ((bb = true → on = xr oo ua) ∧ (bb = false → on = oo)) := by
        constructor
        · intro h
          rw [hon, HU.out.1, HU.out.2, oun, ← HBB.out, h, if_pos rfl]
        · intro h
          rw [hon, HU.out.2, oun, ← HBB.out, h]
          rfl
      clear hon
      go_upto_if 14 with fail
      go_cut [7] from 15 to 28 (fun v wc => MuS w wc ua b on)
      case first =>
        cases bb with
        | true =>
          go_wp2_with fail
          go_loopw [7] (fun v wr => ∃ (k : Nat), v = .int .i64 k ∧ k ≤ 16 ∧ MuS w wr ua b (upTo k (xr oo ua) oo)) (fun v wr => 16 - (intOf v).toNat)
          case atStart =>
            refine ⟨0, rfl, by omega, ?_⟩
            rw [upTo_zero]
            exact Z2.out
          case round =>
            clear Z2
            obtain ⟨k, rfl, hk, hz2⟩ := hrel
            have Z : Hid (MuS w wr ua b (upTo k (xr oo ua) oo)) := hz2
            by_cases h16 : k < 16
            · have hd2 : decide ((k : Int) < 16) = true := by simp; omega
              have lk : (k : Int) < 16 := by omega
              have c1 := (hz2.o.cell k).trans (ba_get 16 _ h16)
              have c2 := (hz2.a.cell k).trans (ba_get 16 _ h16)
              have f1 := hz2.o.frozen k
              have e0 : upTo k (xr oo ua) oo k = oo k := by simp [upTo]
              rw [e0] at c1
              obtain ⟨x, hx⟩ : ∃ x, x = oo k := ⟨_, rfl⟩
              obtain ⟨y, hy⟩ : ∃ y, y = ua k := ⟨_, rfl⟩
              rw [← hx] at c1
              rw [← hy] at c2
              have HX : Hid (xr oo ua k = x ^^^ y) := by show xr oo ua k = _; rw [hx, hy, xr]
              clear hx hy hz2 e0
              go_wp2_with fail
              go_region_with (fail)
              all_goals go_wp2
              all_goals
                go_roundw
                case rel =>
                  obtain ⟨k0, k1, k2, k3, k4⟩ := Z.out
                  refine ⟨k + 1, by go_num, by omega, (k0.setCell (by dsimp only; omega) _).drew, (k1.other (by dsimp only; omega) _).drew, (k2.other (by dsimp only; omega) _).drew, (k3.other (by dsimp only; omega) _).drew, ?_⟩
                  have hh := k4.set k (.int .u8 (Go.bits .xor .u8 (x.toNat : Int) (y.toNat : Int)))
                  rw [xorB, ba_set, ← HX.out, upTo_upd] at hh
                  rw [xorB, ← HX.out]
                  exact hh.drew
                case measure => simp [intOf]; omega
            · have hk2 : k = 16 := by omega
              have hd2 : decide ((k : Int) < 16) = false := by simp; omega
              clear hz2
              go_wp2_with fail
              go_meet
              obtain ⟨k0, k1, k2, k3, k4⟩ := Z.out
              refine ⟨k0, k1, k2, k3, ?_⟩
              rw [hk2, upTo_all] at k4
              rw [HO.out.1 (by first | rfl | trivial)]
              exact k4
        | false =>
          go_wp2_with fail
          go_meet
          rw [HO.out.2 (by first | rfl | trivial)]
          exact Z2.out
      case rest =>
        have Z3 : Hid (MuS w wc ua b on) := hcut
        obtain ⟨t1, g1⟩ := hcut.a
        have s1 := szB ua zero32.2
        obtain ⟨u2, hu2⟩ : ∃ u2, u2 = upn a (i + 1) := ⟨_, rfl⟩
        have HU2 : Hid (u2 = upn a (i + 1)) := hu2
        have HC : Hid (Calls Try.prog 36 #[.agg (ba 16 ua)] wc fun r w' => r = .returned (.agg (ba 16 u2)) ∧ Chg wc w') := by
          rw [hu2, HU.out.1]
          exact up_any (upn a i) wc
        have s2 := szB u2 zero32.2
        have l2 := lenB 16 ua u2
        have o2 := ba_one 16 u2
        clear hcut hu2
        go_wp2_with (first | refine wpList_load_row rfl 23 _ rfl _ rfl _ _ _ _ g1 und32 rfl s1 ?_)
        go_at_call 36
        refine HC.out.mono ?_
        rintro r w4 ⟨rfl, hc4⟩
        have Z4 : Hid (MuS w w4 ua b on) := Z3.out.to hc4
        obtain ⟨t4, g4⟩ := Z4.out.a
        clear hc4 HC g1 s1 Z3
        go_wp2_with (first | refine wpList_store_row rfl 23 _ _ rfl _ _ rfl rfl _ _ g4 s2 l2 o2 ?_)
        go_roundw
        case rel =>
          obtain ⟨k0, k1, k2, k3, k4⟩ := Z4.out
          rw [HON.out] at k4
          refine ⟨i + 1, by go_num, by omega, k0.setRow (by omega) _, ?_, k2.rowOther (by omega) _, k3.rowOther (by omega) _, k4.rowOther (by omega) _⟩
          rw [HU2.out]
          exact k1.row _
        case measure => simp [intOf]; omega
    · have hi2 : i = 128 := by omega
      have hd : decide ((i : Int) < 128) = false := by simp; omega
      have HG : Hid (ba 16 oo = ba 16 (mulB a b)) := by
        show ba 16 oo = _
        rw [HU.out.2, hi2, oun_all]
      obtain ⟨t1, g1⟩ := hz1.o
      obtain ⟨t3, g3⟩ := hz1.out
      have hsz := szB oo zero32.2
      have hlen := lenB 16 zB oo
      have hone := ba_one 16 oo
      clear hz1 hi2
      go_wp2_with (first | refine wpList_load_row rfl 23 _ rfl _ rfl _ _ _ _ g1 und32 rfl hsz ?_ | refine wpList_store_row rfl 23 _ _ rfl _ _ rfl rfl _ _ g3 hsz hlen hone ?_)
      refine bp_c (n := 16) (c := ba 16 oo) Try.results16 rfl rfl ?_ und32 i32 (ba_size _ _) ⟨by rw [HG.out], ?_⟩
      · exact Z.out.out.row _
      · exact Z.out.chg.setRow (by omega) _
end Go.Proofs.Ytfnibmfmjglmlaa
