/-
  Hashes of texts of one length share out over XOR: GcmShares walked.
-/
import Derived.Test.YtfnibmfmjglmlaaFiW
namespace Go.Proofs.Ytfnibmfmjglmlaa
open Go.RowKit
set_option linter.unusedVariables false

theorem blkF_xr (t1 t2 : Nat → By) (n m : Nat) : blkF (xr t1 t2) n m = xr (blkF t1 n m) (blkF t2 n m) := by
  funext j
  simp only [blkF, xr]
  by_cases h : 16 * m + j < n
  · simp [h]
  · simp [h]
theorem hs_xor (s1 s2 y : Po) (t1 t2 : Nat → By) (n m : Nat) : hs (s1 ^^^ s2) y (xr t1 t2) n m = hs s1 y t1 n m ^^^ hs s2 y t2 n m := by
  induction m with
  | zero => rfl
  | succ m ih =>
    show pr (hs (s1 ^^^ s2) y (xr t1 t2) n m ^^^ pol (blkF (xr t1 t2) n m)) y = pr (hs s1 y t1 n m ^^^ pol (blkF t1 n m)) y ^^^ pr (hs s2 y t2 n m ^^^ pol (blkF t2 n m)) y
    rw [ih, blkF_xr, pol_xr, po_swap, pr_xor_left]
theorem ghash_two (h ta : Nat → By) (na : Nat) (t1 t2 : Nat → By) (n : Nat) : pol (xr (ghash h ta na t1 n) (ghash h ta na t2 n)) = pr (hs 0#128 (pol h) (xr t1 t2) n (nb n)) (pol h) := by
  rw [pol_xr]
  unfold ghash
  rw [pol_byt, pol_byt, ← pr_xor_left, po_swap, BitVec.xor_self, BitVec.xor_zero, ← hs_xor, BitVec.xor_self]
theorem xr_zB (t : Nat → By) : xr t zB = t := by
  funext j
  unfold xr zB
  exact BitVec.xor_zero
theorem shares_eq (h ta : Nat → By) (na : Nat) (t1 t2 : Nat → By) (n : Nat) : eqB (xr (ghash h ta na t1 n) (ghash h ta na t2 n)) (xr (ghash h ta na (xr t1 t2) n) (ghash h ta na zB n)) = true :=
  eqB_pol (by rw [ghash_two, ghash_two, xr_zB])
theorem ghash_none (ta : Nat → By) (na : Nat) (t : Nat → By) (n : Nat) : eqB (ghash zB ta na t n) zB = true :=
  eqB_pol (by
    unfold ghash
    rw [pol_byt, pol_zero, pr_zero_right])

set_option maxRecDepth 100000 in
set_option maxHeartbeats 8000000 in
theorem shares_walk (h ta t1 t2 : Nat → By) (na la lb ca c1 c2 : Nat) (ao a1 b1 : Option Addr) (w : World) (hva : Ap.Rd w (.slice ao na ca) (nums na ta)) (hv1 : Ap.Rd w (.slice a1 la c1) (nums la t1)) (hv2 : Ap.Rd w (.slice b1 lb c2) (nums lb t2)) (hna : na ≤ 140737488351232) (hla : la ≤ 140737488351232) (hlb : lb ≤ 140737488351232) :
    Calls Try.prog 8 #[.agg (ba 16 h), .slice ao na ca, .slice a1 la c1, .slice b1 lb c2] w fun r w' => r = .returned (.bool true) ∧ Chg w w' := by
  obtain ⟨n, hn⟩ : ∃ n : Nat, n = min la lb := ⟨_, rfl⟩
  have hmin : min (la : Int) (lb : Int) = n := by omega
  have hnla : n ≤ la := by omega
  have hnlb : n ≤ lb := by omega
  have hcap1 : la ≤ c1 ∧ c1 ≤ 9223372036854775807 := by
    obtain ⟨_, _, _, e1, _, hc1, hm1, _⟩ := hv1
    injection e1 with e11 e12 e13
    subst e12 e13
    exact ⟨hc1, hm1⟩
  have hcap2 : lb ≤ c2 ∧ c2 ≤ 9223372036854775807 := by
    obtain ⟨_, _, _, e1, _, hc1, hm1, _⟩ := hv2
    injection e1 with e11 e12 e13
    subst e12 e13
    exact ⟨hc1, hm1⟩
  obtain ⟨a2, ha2, HA2'⟩ := run_sliceHi a1 la c1 n (by omega) hcap1.2
  obtain ⟨b2, hb2, HB2'⟩ := run_sliceHi b1 lb c2 n (by omega) hcap2.2
  have ha2a : ∀ u, (Instr.sliceAt 22 (.slice a1 la c1) none (some (.int .i64 (n : Int))) none).run Try.prog u = .ok (.slice a2 n c1) u := fun u => (run_sliceAt_slice u 22 _ _ _ _ (by kernel_rfl)).trans (ha2 u)
  have hb2a : ∀ u, (Instr.sliceAt 22 (.slice b1 lb c2) none (some (.int .i64 (n : Int))) none).run Try.prog u = .ok (.slice b2 n c2) u := fun u => (run_sliceAt_slice u 22 _ _ _ _ (by kernel_rfl)).trans (hb2 u)
  have HA2 : Hid (∀ u, Ap.Rd u (.slice a1 la c1) (nums la t1) → Ap.Rd u (.slice a2 n c1) (nums n t1)) := fun u hu => HA2' u t1 hu hnla
  have HB2 : Hid (∀ u, Ap.Rd u (.slice b1 lb c2) (nums lb t2) → Ap.Rd u (.slice b2 n c2) (nums n t2)) := fun u hu => HB2' u t2 hu hnlb
  have HX : Hid (Ap.Rd w (.slice ao na ca) (nums na ta) ∧ Ap.Rd w (.slice a1 la c1) (nums la t1) ∧ Ap.Rd w (.slice b1 lb c2) (nums lb t2) ∧ na ≤ 140737488351232 ∧ n ≤ 140737488351232) := ⟨hva, hv1, hv2, hna, by omega⟩
  have HLA : Hid (la ≤ 140737488351232) := hla
  have hmk := mk22 n (by omega)
  have hn47 : n ≤ 140737488351232 := by omega
  clear HA2' HB2' hva hv1 hv2 hcap1 hcap2 hna hla hlb hn
  have hsA := ba_size 16 h
  obtain ⟨A, hA⟩ : ∃ A, A = ba 16 h := ⟨_, rfl⟩
  have HA : Hid (A = ba 16 h) := hA
  rw [← hA] at hsA ⊢
  clear hA
  go_enter Try.func8, Try.ntmps8
  go_wp2_with fail
  go_at_call 14
  refine (ghead_any _).mono ?_
  rintro r w1 ⟨rfl, hc1⟩
  have Z1 : Hid (Chg w w1 ∧ Ar w1 w.heap.size (ba 16 h)) := by
    rw [← HA.out]
    exact ⟨((Chg.refl w).alloc _).trans hc1, (Ar.new w _ _).chg hc1⟩
  clear hc1 hsA
  go_upto_region 2 with fail
  go_cut [10] from 16 to 21 (fun v wc => v = .int .i64 (n : Int) ∧ wc = w1)
  case first =>
    go_wp2_with fail
    all_goals go_meet
    all_goals
      refine ⟨?_, rfl⟩
      first
        | rw [← hmin, Int.min_eq_right (by omega)]
        | rw [← hmin, Int.min_eq_left (by omega)]
  case rest =>
    obtain ⟨rfl, hwc⟩ := hcut
    rw [hwc]
    clear hwc
    go_upto_region 4 with fail
    obtain ⟨gx, hgx⟩ : ∃ gx, gx = w1.heap.size := ⟨_, rfl⟩
    obtain ⟨w2, hw2⟩ : ∃ w2, w2 = w1.alloc (.cells (ba n zB) 5) := ⟨_, rfl⟩
    obtain ⟨tx, htx⟩ : ∃ tx, tx = xr t1 t2 := ⟨_, rfl⟩
    have HTX : Hid (tx = xr t1 t2) := htx
    have Z2 : Hid (Chg w w2 ∧ Ar w2 w.heap.size (ba 16 h) ∧ Ar w2 gx (ba n (upTo 0 tx zB)) ∧ w.heap.size < gx) := by
      rw [hw2, hgx, upTo_zero]
      exact ⟨Z1.out.1.alloc _, Z1.out.2.alloc _, Ar.new w1 _ _, Z1.out.2.lt⟩
    rw [← hw2, ← hgx]
    clear hw2 hgx htx Z1 hmk hmin
    go_wp2_with fail
    go_loopw [12] (fun v wr => ∃ (i : Nat), v = .int .i64 i ∧ i ≤ n ∧ Chg w wr ∧ Ar wr w.heap.size (ba 16 h) ∧ Ar wr gx (ba n (upTo i tx zB))) (fun v wr => n - (intOf v).toNat)
    case atStart => exact ⟨0, rfl, by omega, Z2.out.1, Z2.out.2.1, Z2.out.2.2.1⟩
    case round =>
      obtain ⟨i, rfl, hi, z0, z1, z2⟩ := hrel
      have Z : Hid (Chg w wr ∧ Ar wr w.heap.size (ba 16 h) ∧ Ar wr gx (ba n (upTo i tx zB)) ∧ w.heap.size < gx) := ⟨z0, z1, z2, Z2.out.2.2.2⟩
      by_cases hin : i < n
      · have hd : decide ((i : Int) < n) = true := by simp; omega
        have li : (i : Int) < n := by omega
        have li1 : (i : Int) < la := by omega
        have li2 : (i : Int) < lb := by omega
        obtain ⟨xb, xo, xc, e1, -, -, hbs1⟩ := Rd.bs HX.out.2.1 (by omega)
        injection e1 with e11 e12 e13
        subst e11 e13
        obtain ⟨yb, yo, yc, e2, -, -, hbs2⟩ := Rd.bs HX.out.2.2.1 (by omega)
        injection e2 with e21 e22 e23
        subst e21 e23
        have c1 := (hbs1.chg z0) i (by omega)
        have c2 := (hbs2.chg z0) i (by omega)
        have c3 := (z2.cell i).trans (ba_get n _ hin)
        have f3 := z2.frozen i
        obtain ⟨x1, hx1⟩ : ∃ x, x = t1 i := ⟨_, rfl⟩
        obtain ⟨x2, hx2⟩ : ∃ x, x = t2 i := ⟨_, rfl⟩
        rw [← hx1] at c1
        rw [← hx2] at c2
        obtain ⟨y, Hy, ey⟩ := nameXor x1 x2
        have HY : Hid (y = tx i) := by
          show y = _
          rw [Hy.out, HTX.out, hx1, hx2, xr]
        clear hx1 hx2 Hy z0 z1 z2 hbs1 hbs2 e12 e22
        go_wp2_with fail
        go_region_with (fail)
        all_goals go_wp2
        all_goals
          go_roundw
          case rel =>
            obtain ⟨k0, k1, k2, k3⟩ := Z.out
            refine ⟨i + 1, by go_num, by omega, (k0.setCell (by dsimp only; omega) _).drew, (k1.other (by dsimp only; omega) _).drew, ?_⟩
            have hh := k2.set i (.int .u8 (y.toNat : Int))
            rw [ba_set, HY.out, upTo_upd i tx zB] at hh
            rw [HY.out]
            exact hh.drew
          case measure => simp [intOf]; omega
      · have hd : decide ((i : Int) < n) = false := by simp; omega
        have hi2 : i = n := by omega
        obtain ⟨w8, hw8⟩ : ∃ w8, w8 = wr := ⟨_, rfl⟩
        have Z8 : Hid (Chg w w8 ∧ Ar w8 w.heap.size (ba 16 h) ∧ Ap.Rd w8 (.slice (some ⟨gx, 0, none⟩) n n) (nums n tx)) := by
          rw [hw8]
          obtain ⟨k0, k1, k2, k3⟩ := Z.out
          rw [hi2, upTo_all] at k2
          exact ⟨k0, k1, Bs.rd (Ar.bs k2) (Nat.le_refl _) (by omega)⟩
        rw [← hw8]
        clear hw8 z0 z1 z2 Z hi2
        go_upto_region 8 with fail
        obtain ⟨p, hp⟩ : ∃ p, p = xr (ghash h ta na t1 n) (ghash h ta na t2 n) := ⟨_, rfl⟩
        obtain ⟨q, hq⟩ : ∃ q, q = xr (ghash h ta na tx n) (ghash h ta na zB n) := ⟨_, rfl⟩
        have hpq : eqB p q = true := by
          rw [hp, hq, HTX.out]
          exact shares_eq h ta na t1 t2 n
        have HP : Hid (p = xr (ghash h ta na t1 n) (ghash h ta na t2 n) ∧ q = xr (ghash h ta na tx n) (ghash h ta na zB n)) := ⟨hp, hq⟩
        clear hp hq
        go_cut [13] from 40 to 53 (fun v wc => ∃ bp, v = .pointer (some ⟨bp, 0, none⟩) ∧ Chg w wc ∧ Chg w8 wc ∧ Ar wc bp (ba 16 p))
        case first =>
          refine wp_region_good 14 (fun j v wg => match j with
            | 0 => v = .agg (ba 16 h)
            | 1 => v = .slice ao na ca
            | 2 => v = .slice a1 la c1
            | 3 => v = .int .i64 (n : Int)
            | 4 => v = .slice a2 n c1
            | 5 => v = .agg (ba 16 (ghash h ta na t1 n))
            | 6 => v = .agg (ba 16 h)
            | 7 => v = .slice ao na ca
            | 8 => v = .slice b1 lb c2
            | 9 => v = .int .i64 (n : Int)
            | 10 => v = .slice b2 n c2
            | 11 => v = .agg (ba 16 (ghash h ta na t2 n))
            | 12 => v = .agg (ba 16 (xr (ghash h ta na t1 n) (ghash h ta na t2 n)))
            | 13 => ∃ bx, v = .pointer (some ⟨bx, 0, none⟩) ∧ Ar wg bx (ba 16 zB) ∧ w8.heap.size ≤ bx
            | _ => True) (by kernel_rfl) (by kernel_rfl) (by kernel_rfl) (by kernel_rfl) (by kernel_rfl) ?_ ?_ ?_
          · intro j v u1 u2 h hc
            match j, h with
            | 0, h => exact h
            | 1, h => exact h
            | 2, h => exact h
            | 3, h => exact h
            | 4, h => exact h
            | 5, h => exact h
            | 6, h => exact h
            | 7, h => exact h
            | 8, h => exact h
            | 9, h => exact h
            | 10, h => exact h
            | 11, h => exact h
            | 12, h => exact h
            | 13, h => (obtain ⟨bx, h1, h2, h3⟩ := h; exact ⟨bx, h1, h2.chg hc, h3⟩)
            | _ + 14, h => exact trivial
          · intro i o ac u hi ho hsz hf hg hc
            have hcs : i = 0 ∨ i = 1 ∨ i = 2 ∨ i = 3 ∨ i = 4 ∨ i = 5 ∨ i = 6 ∨ i = 7 ∨ i = 8 ∨ i = 9 ∨ i = 10 ∨ i = 11 ∨ i = 12 ∨ i = 13 := by omega
            rcases hcs with rfl | rfl | rfl | rfl | rfl | rfl | rfl | rfl | rfl | rfl | rfl | rfl | rfl | rfl
            · injection ho with ho
              subst ho
              refine .inl ⟨wanted_none rfl, ?_⟩
              have e1 : ac.eval (.tmp 4) = .pointer (some ⟨w.heap.size, 0, none⟩) := hf 4 (by kernel_rfl)
              exact wp_load_mid 23 (.tmp 4) rfl _ _ e1 (bl (h)) _ (rangeB (Ar.chg (w := w8.drew) Z8.out.2.1 hc)) und32 rfl (bl_info _) ⟨_, rfl, rfl, Chg.refl _⟩
            · injection ho with ho
              subst ho
              refine .inl ⟨wanted_none rfl, ?_⟩
              have e1 : ac.eval (.tmp 1) = .slice ao na ca := hf 1 (by kernel_rfl)
              exact opG_val (by simp [execOp, e1]) rfl (Chg.refl _)
            · injection ho with ho
              subst ho
              refine .inl ⟨wanted_none rfl, ?_⟩
              have e1 : ac.eval (.tmp 2) = .slice a1 la c1 := hf 2 (by kernel_rfl)
              exact opG_val (by simp [execOp, e1]) rfl (Chg.refl _)
            · injection ho with ho
              subst ho
              refine .inl ⟨wanted_none rfl, ?_⟩
              have e1 : ac.eval (.tmp 10) = .int .i64 (n : Int) := hf 10 (by kernel_rfl)
              exact opG_val (by simp [execOp, e1]) rfl (Chg.refl _)
            · injection ho with ho
              subst ho
              refine .inl ⟨wanted_none rfl, ?_⟩
              have e1 : ac.eval (.tmp 42) = .slice a1 la c1 := hg 2 (by kernel_rfl) (by decide)
              have e2 : ac.eval (.tmp 43) = .int .i64 (n : Int) := hg 3 (by kernel_rfl) (by decide)
              exact opG_val (by simp [execOp, e1, e2, ha2a]) rfl (Chg.refl _)
            · injection ho with ho
              subst ho
              refine .inl ⟨wanted_none rfl, ?_⟩
              have e1 : ac.eval (.tmp 40) = .agg (ba 16 h) := hg 0 (by kernel_rfl) (by decide)
              have e2 : ac.eval (.tmp 41) = .slice ao na ca := hg 1 (by kernel_rfl) (by decide)
              have e3 : ac.eval (.tmp 44) = .slice a2 n c1 := hg 4 (by kernel_rfl) (by decide)
              refine opG_go 17 Try.f17 #[.tmp 40, .tmp 41, .tmp 44] #[23, 22, 22] rfl Try.func17 (by kernel_rfl) (by kernel_rfl) (by simp [e1, e2, e3]) (Calls.mono (hash_any h ta t1 na n _ _ _ (Rd.chg HX.out.1 (Z8.out.1.drew.trans hc)) (HA2.out _ (Rd.chg HX.out.2.1 (Z8.out.1.drew.trans hc))) HX.out.2.2.2.1 HX.out.2.2.2.2) ?_)
              rintro r u2 ⟨rfl, hc2⟩
              exact ⟨_, rfl, rfl, hc2⟩
            · injection ho with ho
              subst ho
              refine .inl ⟨wanted_none rfl, ?_⟩
              have e1 : ac.eval (.tmp 4) = .pointer (some ⟨w.heap.size, 0, none⟩) := hf 4 (by kernel_rfl)
              exact wp_load_mid 23 (.tmp 4) rfl _ _ e1 (bl (h)) _ (rangeB (Ar.chg (w := w8.drew) Z8.out.2.1 hc)) und32 rfl (bl_info _) ⟨_, rfl, rfl, Chg.refl _⟩
            · injection ho with ho
              subst ho
              refine .inl ⟨wanted_none rfl, ?_⟩
              have e1 : ac.eval (.tmp 1) = .slice ao na ca := hf 1 (by kernel_rfl)
              exact opG_val (by simp [execOp, e1]) rfl (Chg.refl _)
            · injection ho with ho
              subst ho
              refine .inl ⟨wanted_none rfl, ?_⟩
              have e1 : ac.eval (.tmp 3) = .slice b1 lb c2 := hf 3 (by kernel_rfl)
              exact opG_val (by simp [execOp, e1]) rfl (Chg.refl _)
            · injection ho with ho
              subst ho
              refine .inl ⟨wanted_none rfl, ?_⟩
              have e1 : ac.eval (.tmp 10) = .int .i64 (n : Int) := hf 10 (by kernel_rfl)
              exact opG_val (by simp [execOp, e1]) rfl (Chg.refl _)
            · injection ho with ho
              subst ho
              refine .inl ⟨wanted_none rfl, ?_⟩
              have e1 : ac.eval (.tmp 48) = .slice b1 lb c2 := hg 8 (by kernel_rfl) (by decide)
              have e2 : ac.eval (.tmp 49) = .int .i64 (n : Int) := hg 9 (by kernel_rfl) (by decide)
              exact opG_val (by simp [execOp, e1, e2, hb2a]) rfl (Chg.refl _)
            · injection ho with ho
              subst ho
              refine .inl ⟨wanted_none rfl, ?_⟩
              have e1 : ac.eval (.tmp 46) = .agg (ba 16 h) := hg 6 (by kernel_rfl) (by decide)
              have e2 : ac.eval (.tmp 47) = .slice ao na ca := hg 7 (by kernel_rfl) (by decide)
              have e3 : ac.eval (.tmp 50) = .slice b2 n c2 := hg 10 (by kernel_rfl) (by decide)
              refine opG_go 17 Try.f17 #[.tmp 46, .tmp 47, .tmp 50] #[23, 22, 22] rfl Try.func17 (by kernel_rfl) (by kernel_rfl) (by simp [e1, e2, e3]) (Calls.mono (hash_any h ta t2 na n _ _ _ (Rd.chg HX.out.1 (Z8.out.1.drew.trans hc)) (HB2.out _ (Rd.chg HX.out.2.2.1 (Z8.out.1.drew.trans hc))) HX.out.2.2.2.1 HX.out.2.2.2.2) ?_)
              rintro r u2 ⟨rfl, hc2⟩
              exact ⟨_, rfl, rfl, hc2⟩
            · injection ho with ho
              subst ho
              refine .inl ⟨wanted_none rfl, ?_⟩
              have e1 : ac.eval (.tmp 45) = .agg (ba 16 (ghash h ta na t1 n)) := hg 5 (by kernel_rfl) (by decide)
              have e2 : ac.eval (.tmp 51) = .agg (ba 16 (ghash h ta na t2 n)) := hg 11 (by kernel_rfl) (by decide)
              refine opG_go 19 Try.f19 #[.tmp 45, .tmp 51] #[23, 23] rfl Try.func19 (by kernel_rfl) (by kernel_rfl) (by simp [e1, e2]) (Calls.mono (with_any (ghash h ta na t1 n) (ghash h ta na t2 n) _) ?_)
              rintro r u2 ⟨rfl, hc2⟩
              exact ⟨_, rfl, rfl, hc2⟩
            · injection ho with ho
              subst ho
              refine .inl ⟨wanted_none rfl, ?_⟩
              exact opG_val (v := .pointer (some ⟨u.heap.size, 0, none⟩)) (w' := u.alloc (.cells (ba 16 zB) 23)) (by generalize ac.eval = ρ; simp [go_sem, execOp, zero32.1]) ⟨_, rfl, Ar.new _ _ _, (show w8.heap.size ≤ u.heap.size from hc.size)⟩ ((Chg.refl _).alloc _)
          · intro o u V ho hV hc
            injection ho with ho
            subst ho
            refine ⟨rfl, ?_⟩
            have q40 : V 0 = .agg (ba 16 h) := hV 0 (by decide)
            have q41 : V 1 = .slice ao na ca := hV 1 (by decide)
            have q42 : V 2 = .slice a1 la c1 := hV 2 (by decide)
            have q43 : V 3 = .int .i64 (n : Int) := hV 3 (by decide)
            have q44 : V 4 = .slice a2 n c1 := hV 4 (by decide)
            have q45 : V 5 = .agg (ba 16 (ghash h ta na t1 n)) := hV 5 (by decide)
            have q46 : V 6 = .agg (ba 16 h) := hV 6 (by decide)
            have q47 : V 7 = .slice ao na ca := hV 7 (by decide)
            have q48 : V 8 = .slice b1 lb c2 := hV 8 (by decide)
            have q49 : V 9 = .int .i64 (n : Int) := hV 9 (by decide)
            have q50 : V 10 = .slice b2 n c2 := hV 10 (by decide)
            have q51 : V 11 = .agg (ba 16 (ghash h ta na t2 n)) := hV 11 (by decide)
            have q52 : V 12 = .agg (ba 16 (xr (ghash h ta na t1 n) (ghash h ta na t2 n))) := hV 12 (by decide)
            obtain ⟨bx, q13, ⟨xx, xl⟩⟩ := hV 13 (by decide)
            refine wp_store_mid 23 (.tmp 13) (.tmp 52) rfl bx 0 (ba 16 (xr (ghash h ta na t1 n) (ghash h ta na t2 n))) (Eq.trans (by rfl) q13) (Eq.trans (by rfl) q52) (by rw [ba_size]; exact thereB xx) (by rw [ba_size]; exact i32) (ba_one _ _) ?_
            rw [show (ba 16 (xr (ghash h ta na t1 n) (ghash h ta na t2 n))).toList = bl (xr (ghash h ta na t1 n) (ghash h ta na t2 n)) from rfl, setRow_of xx _]
            go_wp2_with fail
            go_meet
            refine ⟨bx, q13, (Z8.out.1.drew.trans hc).setRow (Nat.le_trans Z8.out.1.size xl) _, ((Chg.refl w8).drew.trans hc).setRow xl _, ?_⟩
            rw [HP.out.1]
            exact xx.row _
        case rest =>
          obtain ⟨bp, rfl, q0, q1, q2⟩ := hcut
          obtain ⟨w9, hw9⟩ : ∃ w9, w9 = wc := ⟨_, rfl⟩
          have Z9 : Hid (Chg w w9 ∧ Ar w9 w.heap.size (ba 16 h) ∧ Ap.Rd w9 (.slice (some ⟨gx, 0, none⟩) n n) (nums n tx) ∧ Ar w9 bp (ba 16 p)) := by
            rw [hw9]
            exact ⟨q0, Z8.out.2.1.chg q1, Rd.chg Z8.out.2.2 q1, q2⟩
          rw [← hw9]
          clear hw9 q0 q1 q2 Z8 ha2 hb2 ha2a hb2a
          go_upto_region 9 with fail
          go_cut [14] from 53 to 63 (fun v wc => ∃ bq, v = .pointer (some ⟨bq, 0, none⟩) ∧ Chg w wc ∧ Ar wc bp (ba 16 p) ∧ Ar wc bq (ba 16 q))
          case first =>
            refine wp_region_good 11 (fun j v wg => match j with
              | 0 => v = .agg (ba 16 h)
              | 1 => v = .slice ao na ca
              | 2 => v = .slice (some ⟨gx, 0, none⟩) n n
              | 3 => v = .agg (ba 16 (ghash h ta na tx n))
              | 4 => v = .agg (ba 16 h)
              | 5 => v = .slice ao na ca
              | 6 => v = .int .i64 (n : Int)
              | 7 => ∃ vm, v = vm ∧ Ap.Rd wg vm (nums n zB)
              | 8 => v = .agg (ba 16 (ghash h ta na zB n))
              | 9 => v = .agg (ba 16 (xr (ghash h ta na tx n) (ghash h ta na zB n)))
              | 10 => ∃ bx, v = .pointer (some ⟨bx, 0, none⟩) ∧ Ar wg bx (ba 16 zB) ∧ w9.heap.size ≤ bx
              | _ => True) (by kernel_rfl) (by kernel_rfl) (by kernel_rfl) (by kernel_rfl) (by kernel_rfl) ?_ ?_ ?_
            · intro j v u1 u2 h hc
              match j, h with
              | 0, h => exact h
              | 1, h => exact h
              | 2, h => exact h
              | 3, h => exact h
              | 4, h => exact h
              | 5, h => exact h
              | 6, h => exact h
              | 7, h => (obtain ⟨vm, h1, h2⟩ := h; exact ⟨vm, h1, Rd.chg h2 hc⟩)
              | 8, h => exact h
              | 9, h => exact h
              | 10, h => (obtain ⟨bx, h1, h2, h3⟩ := h; exact ⟨bx, h1, h2.chg hc, h3⟩)
              | _ + 11, h => exact trivial
            · intro i o ac u hi ho hsz hf hg hc
              have hcs : i = 0 ∨ i = 1 ∨ i = 2 ∨ i = 3 ∨ i = 4 ∨ i = 5 ∨ i = 6 ∨ i = 7 ∨ i = 8 ∨ i = 9 ∨ i = 10 := by omega
              rcases hcs with rfl | rfl | rfl | rfl | rfl | rfl | rfl | rfl | rfl | rfl | rfl
              · injection ho with ho
                subst ho
                refine .inl ⟨wanted_none rfl, ?_⟩
                have e1 : ac.eval (.tmp 4) = .pointer (some ⟨w.heap.size, 0, none⟩) := hf 4 (by kernel_rfl)
                exact wp_load_mid 23 (.tmp 4) rfl _ _ e1 (bl (h)) _ (rangeB (Ar.chg (w := w9.drew) Z9.out.2.1 hc)) und32 rfl (bl_info _) ⟨_, rfl, rfl, Chg.refl _⟩
              · injection ho with ho
                subst ho
                refine .inl ⟨wanted_none rfl, ?_⟩
                have e1 : ac.eval (.tmp 1) = .slice ao na ca := hf 1 (by kernel_rfl)
                exact opG_val (by simp [execOp, e1]) rfl (Chg.refl _)
              · injection ho with ho
                subst ho
                refine .inl ⟨wanted_none rfl, ?_⟩
                have e1 : ac.eval (.tmp 11) = .slice (some ⟨gx, 0, none⟩) n n := hf 11 (by kernel_rfl)
                exact opG_val (by simp [execOp, e1]) rfl (Chg.refl _)
              · injection ho with ho
                subst ho
                refine .inl ⟨wanted_none rfl, ?_⟩
                have e1 : ac.eval (.tmp 53) = .agg (ba 16 h) := hg 0 (by kernel_rfl) (by decide)
                have e2 : ac.eval (.tmp 54) = .slice ao na ca := hg 1 (by kernel_rfl) (by decide)
                have e3 : ac.eval (.tmp 55) = .slice (some ⟨gx, 0, none⟩) n n := hg 2 (by kernel_rfl) (by decide)
                refine opG_go 17 Try.f17 #[.tmp 53, .tmp 54, .tmp 55] #[23, 22, 22] rfl Try.func17 (by kernel_rfl) (by kernel_rfl) (by simp [e1, e2, e3]) (Calls.mono (hash_any h ta tx na n _ _ _ (Rd.chg HX.out.1 (Z9.out.1.drew.trans hc)) (Rd.chg (w := w9.drew) (Ap.Rd.drew Z9.out.2.2.1) hc) HX.out.2.2.2.1 HX.out.2.2.2.2) ?_)
                rintro r u2 ⟨rfl, hc2⟩
                exact ⟨_, rfl, rfl, hc2⟩
              · injection ho with ho
                subst ho
                refine .inl ⟨wanted_none rfl, ?_⟩
                have e1 : ac.eval (.tmp 4) = .pointer (some ⟨w.heap.size, 0, none⟩) := hf 4 (by kernel_rfl)
                exact wp_load_mid 23 (.tmp 4) rfl _ _ e1 (bl (h)) _ (rangeB (Ar.chg (w := w9.drew) Z9.out.2.1 hc)) und32 rfl (bl_info _) ⟨_, rfl, rfl, Chg.refl _⟩
              · injection ho with ho
                subst ho
                refine .inl ⟨wanted_none rfl, ?_⟩
                have e1 : ac.eval (.tmp 1) = .slice ao na ca := hf 1 (by kernel_rfl)
                exact opG_val (by simp [execOp, e1]) rfl (Chg.refl _)
              · injection ho with ho
                subst ho
                refine .inl ⟨wanted_none rfl, ?_⟩
                have e1 : ac.eval (.tmp 10) = .int .i64 (n : Int) := hf 10 (by kernel_rfl)
                exact opG_val (by simp [execOp, e1]) rfl (Chg.refl _)
              · injection ho with ho
                subst ho
                refine .inl ⟨wanted_none rfl, ?_⟩
                have e1 : ac.eval (.tmp 59) = .int .i64 (n : Int) := hg 6 (by kernel_rfl) (by decide)
                exact opG_val (w' := u.alloc (.cells (ba n zB) 5)) (by simp [execOp, e1, mk22 n HX.out.2.2.2.2]) ⟨_, rfl, Bs.rd (Ar.bs (Ar.new _ _ _)) (Nat.le_refl _) (Nat.le_trans HX.out.2.2.2.2 (by decide))⟩ ((Chg.refl _).alloc _)
              · injection ho with ho
                subst ho
                refine .inl ⟨wanted_none rfl, ?_⟩
                have e1 : ac.eval (.tmp 57) = .agg (ba 16 h) := hg 4 (by kernel_rfl) (by decide)
                have e2 : ac.eval (.tmp 58) = .slice ao na ca := hg 5 (by kernel_rfl) (by decide)
                obtain ⟨vm, e30, xm⟩ := hg 7 (by kernel_rfl) (by decide)
                have e3 : ac.eval (.tmp 60) = vm := e30
                refine opG_go 17 Try.f17 #[.tmp 57, .tmp 58, .tmp 60] #[23, 22, 22] rfl Try.func17 (by kernel_rfl) (by kernel_rfl) (by simp [e1, e2, e3]) (Calls.mono (hash_any h ta zB na n _ _ _ (Rd.chg HX.out.1 (Z9.out.1.drew.trans hc)) xm HX.out.2.2.2.1 HX.out.2.2.2.2) ?_)
                rintro r u2 ⟨rfl, hc2⟩
                exact ⟨_, rfl, rfl, hc2⟩
              · injection ho with ho
                subst ho
                refine .inl ⟨wanted_none rfl, ?_⟩
                have e1 : ac.eval (.tmp 56) = .agg (ba 16 (ghash h ta na tx n)) := hg 3 (by kernel_rfl) (by decide)
                have e2 : ac.eval (.tmp 61) = .agg (ba 16 (ghash h ta na zB n)) := hg 8 (by kernel_rfl) (by decide)
                refine opG_go 19 Try.f19 #[.tmp 56, .tmp 61] #[23, 23] rfl Try.func19 (by kernel_rfl) (by kernel_rfl) (by simp [e1, e2]) (Calls.mono (with_any (ghash h ta na tx n) (ghash h ta na zB n) _) ?_)
                rintro r u2 ⟨rfl, hc2⟩
                exact ⟨_, rfl, rfl, hc2⟩
              · injection ho with ho
                subst ho
                refine .inl ⟨wanted_none rfl, ?_⟩
                exact opG_val (v := .pointer (some ⟨u.heap.size, 0, none⟩)) (w' := u.alloc (.cells (ba 16 zB) 23)) (by generalize ac.eval = ρ; simp [go_sem, execOp, zero32.1]) ⟨_, rfl, Ar.new _ _ _, (show w9.heap.size ≤ u.heap.size from hc.size)⟩ ((Chg.refl _).alloc _)
            · intro o u V ho hV hc
              injection ho with ho
              subst ho
              refine ⟨rfl, ?_⟩
              have q53 : V 0 = .agg (ba 16 h) := hV 0 (by decide)
              have q54 : V 1 = .slice ao na ca := hV 1 (by decide)
              have q55 : V 2 = .slice (some ⟨gx, 0, none⟩) n n := hV 2 (by decide)
              have q56 : V 3 = .agg (ba 16 (ghash h ta na tx n)) := hV 3 (by decide)
              have q57 : V 4 = .agg (ba 16 h) := hV 4 (by decide)
              have q58 : V 5 = .slice ao na ca := hV 5 (by decide)
              have q59 : V 6 = .int .i64 (n : Int) := hV 6 (by decide)
              obtain ⟨vm, q60, xm⟩ := hV 7 (by decide)
              have q61 : V 8 = .agg (ba 16 (ghash h ta na zB n)) := hV 8 (by decide)
              have q62 : V 9 = .agg (ba 16 (xr (ghash h ta na tx n) (ghash h ta na zB n))) := hV 9 (by decide)
              obtain ⟨bx, q14, ⟨xx, xl⟩⟩ := hV 10 (by decide)
              refine wp_store_mid 23 (.tmp 14) (.tmp 62) rfl bx 0 (ba 16 (xr (ghash h ta na tx n) (ghash h ta na zB n))) (Eq.trans (by rfl) q14) (Eq.trans (by rfl) q62) (by rw [ba_size]; exact thereB xx) (by rw [ba_size]; exact i32) (ba_one _ _) ?_
              rw [show (ba 16 (xr (ghash h ta na tx n) (ghash h ta na zB n))).toList = bl (xr (ghash h ta na tx n) (ghash h ta na zB n)) from rfl, setRow_of xx _]
              go_wp2_with fail
              go_meet
              have hbp := Z9.out.2.2.2.lt
              refine ⟨bx, q14, (Z9.out.1.drew.trans hc).setRow (Nat.le_trans Z9.out.1.size xl) _, (Ar.chg (w := w9.drew) Z9.out.2.2.2 hc).rowOther (by omega) _, ?_⟩
              rw [HP.out.2]
              exact xx.row _
          case rest =>
            obtain ⟨bq, rfl, q0, q1, q2⟩ := hcut
            obtain ⟨wd, hwd⟩ : ∃ wd, wd = wc := ⟨_, rfl⟩
            have Zd : Hid (Chg w wd ∧ Ar wd bp (ba 16 p) ∧ Ar wd bq (ba 16 q)) := by
              rw [hwd]
              exact ⟨q0, q1, q2⟩
            rw [← hwd]
            clear hwd q0 q1 q2 Z9
            obtain ⟨t5, g5⟩ := Zd.out.2.1
            obtain ⟨t6, g6⟩ := Zd.out.2.2
            have e5 : ∀ u, (Op.equalIn 10000 23 (.agg (ba 16 p)) (.agg (ba 16 q))).run Try.prog u = .ok true u := fun u => by rw [run_eqB, hpq]
            obtain ⟨z, hzz⟩ : ∃ z, z = ghash zB ta na t1 la := ⟨_, rfl⟩
            have e6 : ∀ u, (Op.equalIn 10000 23 (.agg (ba 16 z)) (.agg (ba 16 zB))).run Try.prog u = .ok true u := fun u => by
              rw [run_eqB, hzz, ghash_none]
            have HC : Hid (Calls Try.prog 17 #[.agg (ba 16 zB), .slice ao na ca, .slice a1 la c1] wd fun r w' => r = .returned (.agg (ba 16 z)) ∧ Chg wd w') := by
              rw [hzz]
              exact hash_any zB ta t1 na la _ _ wd (Rd.chg HX.out.1 Zd.out.1) (Rd.chg HX.out.2.1 Zd.out.1) HX.out.2.2.2.1 HLA.out
            have hz := zero32.1
            clear hzz
            go_wp2_with (first | refine wpList_load23G (by rfl) _ rfl _ rfl _ _ _ g5 ?_ | refine wpList_load23G (by rfl) _ rfl _ rfl _ _ _ g6 ?_)
            go_at_call 17
            refine HC.out.mono ?_
            rintro r we ⟨rfl, hce⟩
            go_wp2_with fail
            go_ret
            exact ⟨rfl, Zd.out.1.trans hce⟩

theorem shares_any (h ta t1 t2 : Nat → By) (na la lb : Nat) (va v1 v2 : Value) (w : World) (hva : Ap.Rd w va (nums na ta)) (hv1 : Ap.Rd w v1 (nums la t1)) (hv2 : Ap.Rd w v2 (nums lb t2)) (hna : na ≤ 140737488351232) (hla : la ≤ 140737488351232) (hlb : lb ≤ 140737488351232) :
    Calls Try.prog 8 #[.agg (ba 16 h), va, v1, v2] w fun r w' => r = .returned (.bool true) ∧ Chg w w' := by
  obtain ⟨ao, m0, c0, rfl, hm0, -⟩ := hva.shape
  obtain ⟨a1, m1, c1, rfl, hm1, -⟩ := hv1.shape
  obtain ⟨b1, m2, c2, rfl, hm2, -⟩ := hv2.shape
  rw [nums_len] at hm0 hm1 hm2
  subst hm0 hm1 hm2
  exact shares_walk h ta t1 t2 m0 m1 m2 c0 c1 c2 ao a1 b1 w hva hv1 hv2 hna hla hlb
end Go.Proofs.Ytfnibmfmjglmlaa
