/-
  The law AesCounts, walked.
-/
import Derived.Test.YtpbnejgoppkghaaHd
import Derived.Test.YtpbnejgoppkghaaStv
import Derived.Test.YtpbnejgoppkghaaRgo
namespace Go.Proofs.Ytpbnejgoppkghaa
open Go.RowKit
set_option linter.unusedVariables false

set_option maxRecDepth 100000 in
set_option maxHeartbeats 4000000 in
theorem countsBad_walk (ao : Option Addr) (L cap : Nat) (av : Nat → By) (v2 : Value) (c : Int) (w : World) (h1 : L ≠ 16) (h2 : L ≠ 32) :
    Calls Try.prog 6 #[.slice ao L cap, .agg (ba 16 av), v2, .int .u8 c] w fun r w' => r = .returned (.bool true) ∧ Chg w w' := by
  have hsA := ba_size 16 av
  obtain ⟨A, hA⟩ : ∃ A, A = ba 16 av := ⟨_, rfl⟩
  rw [← hA] at hsA ⊢
  clear hA
  have e1 : ((L : Int) != 16) = true := by simp; omega
  have e2 : ((L : Int) != 32) = true := by simp; omega
  have HN : Hid (∀ u, Calls Try.prog 8 #[.slice ao L cap] u fun r w' => r = .returned (.tuple #[.pointer none, .int .i64 1]) ∧ w' = u) := fun u => newBad_any ao L cap u h1 h2
  go_enter Try.func6, Try.ntmps6
  go_wp2_with (first | (go_at_call 7; refine (head_any _).mono ?_; rintro r w1 ⟨rfl, hc1⟩) | (go_at_call 8; refine (HN.out _).mono ?_; rintro r w2 ⟨rfl, hw2⟩; rw [hw2]))
  go_ret
  exact ⟨rfl, ((Chg.refl w).alloc _).trans hc1⟩

theorem pad_more (R : Nat) (k a : Nat → By) {p bk i : Nat} (hp : p = 16 * bk) : pad R k (ctr a bk) i = pad R k a (p + i) := by
  unfold pad
  rw [hp, show (16 * bk + i) / 16 = bk + i / 16 by omega, show (16 * bk + i) % 16 = i % 16 by omega]
  exact E16.enc (fun _ _ => rfl) (ctr_ctr a bk (i / 16)) _ (Nat.mod_lt _ (by decide))
theorem str_app (xs ys : List Int) : strOfNums (xs ++ ys) = strOfNums xs ++ strOfNums ys := by
  apply ByteArray.ext
  simp [strOfNums]

/-- Some of the last four bytes are put. -/
def putN (a : Nat → By) (N i : Nat) : Nat → By := fun j => if 12 ≤ j ∧ j < 12 + i then put4 a N j else a j
theorem putN_step (a : Nat → By) (N i : Nat) (hi : i < 4) : updB (putN a N i) (12 + i) (put4 a N (12 + i)) = putN a N (i + 1) := by
  funext j
  unfold updB putN
  by_cases e : j = 12 + i
  · subst e
    have : 12 ≤ 12 + i ∧ 12 + i < 12 + (i + 1) := by omega
    simp only [this, if_true, and_self]
  · have : (12 ≤ j ∧ j < 12 + (i + 1)) ↔ (12 ≤ j ∧ j < 12 + i) := by omega
    simp only [e, if_false, this]
theorem putN_all (a : Nat → By) (N : Nat) : E16 (putN a N 4) (put4 a N) := fun j hj => by
  unfold putN
  by_cases e : j < 12
  · have : ¬ (12 ≤ j ∧ j < 12 + 4) := by omega
    simp only [this, if_false, put4, e, if_true]
  · have : 12 ≤ j ∧ j < 12 + 4 := by omega
    simp only [this, if_true, and_self]

set_option maxRecDepth 100000 in
set_option maxHeartbeats 8000000 in
theorem counts_walk (kb ko cap L nk R n cap2 c : Nat) (ao : Option Addr) (key av txt : Nat → By) (w : World) (hv : Bs w kb ko L key) (hL : L = 4 * nk) (hn : nk = 4 ∨ nk = 8) (hR : R = nk + 6) (hcap : L ≤ cap) (hcap' : cap ≤ 9223372036854775807)
    (ht : Ap.Rd w (.slice ao n cap2) (nums n txt)) (hn' : n ≤ 140737488351232) (hc : c < 256) :
    Calls Try.prog 6 #[.slice (some ⟨kb, ko, none⟩) L cap, .agg (ba 16 av), .slice ao n cap2, .int .u8 (c : Int)] w fun r w' => r = .returned (.bool true) ∧ Chg w w' := by
  have hsA := ba_size 16 av
  obtain ⟨A, hA⟩ : ∃ A, A = ba 16 av := ⟨_, rfl⟩
  have HA : Hid (A = ba 16 av) := hA
  rw [← hA] at hsA ⊢
  clear hA
  obtain ⟨ao2, n2, c2, hsh, hsn, hnc, hcm⟩ := ht.shape
  injection hsh with s1 s2 s3
  subst s1 s2 s3
  have hcm' : cap2 ≤ 9223372036854775807 := by simpa [maxLen] using hcm
  have HN : Hid (∀ u, Chg w u → Calls Try.prog 8 #[.slice (some ⟨kb, ko, none⟩) L cap] u fun r w' => ∃ K k, r = .returned (.tuple #[.pointer (some ⟨K, 0, none⟩), .int .i64 0]) ∧ u.heap.size ≤ K ∧ Chg u w' ∧ Ar w' K (keyC R k) ∧ Ks nk (4 * (R + 1)) key k) := fun u hu => new_any kb ko cap L nk R key u (hv.chg hu) hL hn hR hcap hcap'
  have HX : Hid ((R = 10 ∨ R = 14) ∧ Ap.Rd w (.slice ao n cap2) (nums n txt) ∧ n ≤ 140737488351232) := ⟨by omega, ht, hn'⟩
  clear hv hL hn hR hcap hcap' ht hsn hcm
  obtain ⟨q, hq⟩ : ∃ q : Nat, q = n / 16 := ⟨_, rfl⟩
  have hdiv : (n : Int).tdiv 16 = q := by rw [Int.tdiv_eq_ediv_of_nonneg (by omega), hq]; rfl
  obtain ⟨q1, hq1⟩ : ∃ q1 : Nat, (q : Int) + 1 = q1 := ⟨q + 1, by omega⟩
  obtain ⟨bk, hbk⟩ : ∃ bk : Nat, bk = c % q1 := ⟨_, rfl⟩
  have hmod : (c : Int).tmod q1 = bk := by rw [Int.tmod_eq_emod_of_nonneg (by omega), hbk]; rfl
  have hbq : bk < q1 := by rw [hbk]; exact Nat.mod_lt _ (by omega)
  have hb256 : bk ≤ c := by rw [hbk]; exact Nat.mod_le _ _
  obtain ⟨p, hp⟩ : ∃ p : Nat, 16 * (bk : Int) = p := ⟨16 * bk, by omega⟩
  have hpn : p ≤ n := by omega
  have HP : Hid (p = 16 * bk ∧ p ≤ n) := ⟨by omega, hpn⟩
  have wq := wrap_i (x := (q : Int)) (by omega) (by omega)
  have wq1 := wrap_i (x := (q1 : Int)) (by omega) (by omega)
  have wbk := wrap_i (x := (bk : Int)) (by omega) (by omega)
  have wp := wrap_i (x := (p : Int)) (by omega) (by omega)
  have wc : IntKind.i64.wrap (c : Int) = c := wrap_i (by omega) (by omega)
  have hq1n : ¬ (q1 : Int) = 0 := by omega
  have hz := zero32.1
  clear hq hbk
  go_enter Try.func6, Try.ntmps6
  go_wp2_with fail
  go_at_call 7
  refine (head_any _).mono ?_
  rintro r w1 ⟨rfl, hc1⟩
  have Z1 : Hid (Chg w w1 ∧ Ar w1 w.heap.size (ba 16 av)) := by
    rw [← HA.out]
    exact ⟨((Chg.refl w).alloc _).trans hc1, (Ar.new w _ _).chg hc1⟩
  clear hc1
  go_wp2_with fail
  go_at_call 8
  refine (HN.out _ Z1.out.1).mono ?_
  rintro r w2 ⟨K, k, rfl, hK, hc2, hA, hks⟩
  have Z2 : Hid (Chg w w2 ∧ Ar w2 w.heap.size (ba 16 av) ∧ Ar w2 K (keyC R k)) := ⟨Z1.out.1.trans hc2, Z1.out.2.chg hc2, hA⟩
  clear hK hc2 hA hks Z1 HN hsA
  obtain ⟨t2, g2⟩ := Z2.out.2.1
  have hsz := szB av zero32.2
  have HS : Hid (Calls Try.prog 12 #[.pointer (some ⟨K, 0, none⟩), .agg (ba 16 av), .slice ao n cap2] w2 fun r w' => ∃ g, r = .returned (.slice (some ⟨g, 0, none⟩) n n) ∧ w2.heap.size ≤ g ∧ Chg w2 w' ∧ Ar w' g (ba n (stF R k av txt))) := streamV_any K R n k av txt _ w2 Z2.out.2.2 HX.out.1 (Rd.chg HX.out.2.1 Z2.out.1) HX.out.2.2
  go_wp2_with (first | refine wpList_load_row rfl 32 _ rfl _ rfl _ _ _ _ g2 und32 rfl hsz ?_)
  go_at_call 12
  refine HS.out.mono ?_
  rintro r w3 ⟨g1, rfl, hg1, hc3, ha3⟩
  have Z3 : Hid (Chg w w3 ∧ Ar w3 w.heap.size (ba 16 av) ∧ Ar w3 K (keyC R k) ∧ Ar w3 g1 (ba n (stF R k av txt))) := ⟨Z2.out.1.trans hc3, Z2.out.2.1.chg hc3, Z2.out.2.2.chg hc3, ha3⟩
  clear hg1 hc3 ha3 Z2 g2 HS
  obtain ⟨t3, g3⟩ := Z3.out.2.1
  have hlen := lenB 16 zB av
  have hone := ba_one 16 av
  obtain ⟨lb, hlb⟩ : ∃ lb, lb = w3.heap.size := ⟨_, rfl⟩
  obtain ⟨w4, hw4⟩ : ∃ w4, w4 = (w3.alloc (.cells (ba 16 zB) 32)).setRow w3.heap.size (ba 16 av) := ⟨_, rfl⟩
  have Z4 : Hid (Chg w w4 ∧ Ar w4 w.heap.size (ba 16 av) ∧ Ar w4 K (keyC R k) ∧ Ar w4 g1 (ba n (stF R k av txt)) ∧ Ar w4 lb (ba 16 (putN av (num4 av) 0)) ∧ w.heap.size < lb ∧ K < lb ∧ g1 < lb) := by
    obtain ⟨k0, k1, k2, k3⟩ := Z3.out
    have e1 := k1.lt
    have e2 := k2.lt
    have e3 := k3.lt
    have e : ba 16 (putN av (num4 av) 0) = ba 16 av := ba_congr fun j hj => by
      have : ¬ (12 ≤ j ∧ j < 12 + 0) := by omega
      simp only [putN, this, if_false]
    rw [hw4, hlb, e]
    exact ⟨(k0.alloc _).setRow k0.size _, (k1.alloc _).rowOther (by omega) _, (k2.alloc _).rowOther (by omega) _, (k3.alloc _).rowOther (by omega) _, (Ar.new w3 _ _).row _, e1, e2, e3⟩
  have c12 := (Z4.out.2.1.cell 12).trans (ba_get 16 av (by decide))
  have c13 := (Z4.out.2.1.cell 13).trans (ba_get 16 av (by decide))
  have c14 := (Z4.out.2.1.cell 14).trans (ba_get 16 av (by decide))
  have c15 := (Z4.out.2.1.cell 15).trans (ba_get 16 av (by decide))
  rw [hw4] at c12 c13 c14 c15
  go_wp2_with (first | refine wpList_load_row rfl 32 _ rfl _ rfl _ _ _ _ g3 und32 rfl hsz ?_ | refine wpList_store_row rfl 32 _ _ rfl _ _ rfl rfl _ _ (heap_alloc_last w3 _) hsz hlen hone ?_)
  rw [or4]
  obtain ⟨N, hN⟩ : ∃ N : Nat, (((((av 12).toNat * 16777216 + (av 13).toNat * 65536 + (av 14).toNat * 256 + (av 15).toNat : Nat) : Int) + bk) % 4294967296) = N := ⟨((av 12).toNat * 16777216 + (av 13).toNat * 65536 + (av 14).toNat * 256 + (av 15).toNat + bk) % 4294967296, by omega⟩
  have HN : Hid (N % 4294967296 = (num4 av + bk) % 4294967296 ∧ N < 4294967296) := by
    unfold num4
    show _ ∧ _
    omega
  rw [hN, ← hw4, ← hlb]
  have Z5 : Hid (Chg w w4 ∧ Ar w4 w.heap.size (ba 16 av) ∧ Ar w4 K (keyC R k) ∧ Ar w4 g1 (ba n (stF R k av txt)) ∧ Ar w4 lb (ba 16 (putN av N 0))) := by
    obtain ⟨k0, k1, k2, k3, k4, _⟩ := Z4.out
    have e : ba 16 (putN av N 0) = ba 16 (putN av (num4 av) 0) := ba_congr fun j hj => by
      have : ¬ (12 ≤ j ∧ j < 12 + 0) := by omega
      simp only [putN, this, if_false]
    exact ⟨k0, k1, k2, k3, by rw [e]; exact k4⟩
  have HL : Hid (w.heap.size < lb ∧ K < lb ∧ g1 < lb) := Z4.out.2.2.2.2.2
  clear hN hw4 hlb c12 c13 c14 c15 g3 hsz hlen hone Z3 Z4 hz
  go_loopw [16] (fun v wr => ∃ (i : Nat), v = .int .i64 i ∧ i ≤ 4 ∧ Chg w wr ∧ Ar wr w.heap.size (ba 16 av) ∧ Ar wr K (keyC R k) ∧ Ar wr g1 (ba n (stF R k av txt)) ∧ Ar wr lb (ba 16 (putN av N i))) (fun v wr => 4 - (intOf v).toNat)
  case atStart => exact ⟨0, rfl, by omega, Z5.out⟩
  case round =>
    clear Z5
    obtain ⟨i, rfl, hi, h1, h2, h3, h4, h5⟩ := hrel
    have Z : Hid (Chg w wr ∧ Ar wr w.heap.size (ba 16 av) ∧ Ar wr K (keyC R k) ∧ Ar wr g1 (ba n (stF R k av txt)) ∧ Ar wr lb (ba 16 (putN av N i))) := ⟨h1, h2, h3, h4, h5⟩
    clear h1 h2 h3 h4
    by_cases hi4 : i < 4
    · have hd : decide ((i : Int) < 4) = true := by simp; omega
      obtain ⟨t, ht⟩ : ∃ t : Nat, 12 + (i : Int) = t := ⟨12 + i, by omega⟩
      obtain ⟨e8, he8⟩ : ∃ e8 : Nat, 8 * (i : Int) = e8 := ⟨8 * i, by omega⟩
      obtain ⟨s, hs⟩ : ∃ s : Nat, (24 : Int) - e8 = s := ⟨24 - e8, by omega⟩
      have wt := wrap_i (x := (t : Int)) (by omega) (by omega)
      have we8 := wrap_i (x := (e8 : Int)) (by omega) (by omega)
      have ws := wrap_i (x := (s : Int)) (by omega) (by omega)
      have ls : (s : Int) ≤ 32 := by omega
      have lt : (t : Int) < 16 := by omega
      obtain ⟨y, hy⟩ : ∃ y : By, y = put4 av N (12 + i) := ⟨_, rfl⟩
      have HY : Hid (y = put4 av N (12 + i) ∧ t = 12 + i) := ⟨hy, by omega⟩
      have hyw : IntKind.u8.wrap ((N : Int) / 2 ^ s) = (y.toNat : Int) := by
        rw [hy, put4_byte av N (12 + i) (by omega), IntKind.wrap_u8]
        have : i = 0 ∧ s = 24 ∨ i = 1 ∧ s = 16 ∨ i = 2 ∧ s = 8 ∨ i = 3 ∧ s = 0 := by omega
        rcases this with ⟨rfl, rfl⟩ | ⟨rfl, rfl⟩ | ⟨rfl, rfl⟩ | ⟨rfl, rfl⟩ <;> simp
      have c1 := (h5.cell t).trans (ba_get 16 _ (by omega))
      have f1 := h5.frozen t
      clear hy h5
      go_wp2_with fail
      go_roundw
      case rel =>
        obtain ⟨k0, k1, k2, k3, k4⟩ := Z.out
        obtain ⟨l0, l1, l2⟩ := HL.out
        refine ⟨i + 1, by go_num, by omega, k0.setCell (by dsimp only; omega) _, k1.other (by dsimp only; omega) _, k2.other (by dsimp only; omega) _, k3.other (by dsimp only; omega) _, ?_⟩
        have hh := k4.set t (.int .u8 (y.toNat : Int))
        rw [ba_set, HY.out.1, HY.out.2, putN_step av N i hi4] at hh
        have e1 : IntKind.u8.wrap ((N : Int) / 2 ^ s) = ((put4 av N (12 + i)).toNat : Int) := by rw [hyw, HY.out.1]
        first
          | (rw [HY.out.1, HY.out.2]; exact hh)
          | (rw [IntKind.wrap_u8] at e1; rw [e1, HY.out.2]; exact hh)
      case measure => simp [intOf]; omega
    · have hi42 : i = 4 := by omega
      subst hi42
      obtain ⟨lt', hlt'⟩ : ∃ lt', lt' = ctr av bk := ⟨_, rfl⟩
      obtain ⟨w5, hw5⟩ : ∃ w5, w5 = wr := ⟨_, rfl⟩
      have Z5 : Hid (Chg w w5 ∧ Ar w5 w.heap.size (ba 16 av) ∧ Ar w5 K (keyC R k) ∧ Ar w5 g1 (ba n (stF R k av txt)) ∧ Ar w5 lb (ba 16 lt')) := by
        obtain ⟨k0, k1, k2, k3, k4⟩ := Z.out
        have e : ba 16 (putN av N 4) = ba 16 lt' := by
          rw [hlt']
          exact ba_congr ((putN_all av N).trans (put4_mod av N (num4 av + bk) HN.out.1))
        rw [hw5, ← e]
        exact ⟨k0, k1, k2, k3, k4⟩
      have HLT : Hid (lt' = ctr av bk) := hlt'
      rw [← hw5]
      clear hw5 hlt' Z h5
      obtain ⟨ao1, hs1, hr1⟩ := run_sliceHi ao n cap2 p (by omega) hcm'
      obtain ⟨ao3, hs3, hr3⟩ := run_sliceLo ao n cap2 p hpn hnc hcm'
      have Hs1 : Hid (∀ u, Ap.Rd u (.slice ao n cap2) (nums n txt) → Ap.Rd u (.slice ao1 p cap2) (nums p txt)) := fun u h => hr1 u txt h hpn
      have Hs3 : Hid (∀ u, Ap.Rd u (.slice ao n cap2) (nums n txt) → Ap.Rd u (.slice ao3 (n - p) (cap2 - p)) (nums (n - p) fun i => txt (p + i))) := fun u h => hr3 u txt h
      have hs1a : ∀ u, (Instr.sliceAt 22 (.slice ao n cap2) none (some (.int .i64 (p : Int))) none).run Try.prog u = .ok (.slice ao1 p cap2) u := fun u => (run_sliceAt_slice u 22 _ _ _ _ (by kernel_rfl)).trans (hs1 u)
      have hs3a : ∀ u, (Instr.sliceAt 22 (.slice ao n cap2) (some (.int .i64 (p : Int))) none none).run Try.prog u = .ok (.slice ao3 (n - p) (cap2 - p)) u := fun u => (run_sliceAt_slice u 22 _ _ _ _ (by kernel_rfl)).trans (hs3 u)
      clear hr1 hr3 hs1 hs3
      go_upto_region 14 with fail
      go_cut [17] from 95 to 101 (fun v17 wc => ∃ g2, v17 = .slice (some ⟨g2, 0, none⟩) p p ∧ Chg w5 wc ∧ Ar wc g2 (ba p (stF R k av txt)))
      case first =>
        refine wp_region_good 7 (fun j v wg => match j with
          | 0 => v = .pointer (some ⟨K, 0, none⟩)
          | 1 => v = .agg (ba 16 av)
          | 2 => v = .slice ao n cap2
          | 3 => v = .int .i64 (bk : Int)
          | 4 => v = .int .i64 (p : Int)
          | 5 => v = .slice ao1 p cap2
          | 6 => ∃ gx, v = .slice (some ⟨gx, 0, none⟩) (p) (p) ∧ Ar wg gx (ba (p) (stF R k av txt))
          | _ => True) (by kernel_rfl) (by kernel_rfl) (by kernel_rfl) (by kernel_rfl) (by kernel_rfl) ?_ ?_ ?_
        · intro j v u1 u2 h hc
          match j, h with
          | 0, h => exact h
          | 1, h => exact h
          | 2, h => exact h
          | 3, h => exact h
          | 4, h => exact h
          | 5, h => exact h
          | 6, h => (obtain ⟨gx, h1, h2⟩ := h; exact ⟨gx, h1, h2.chg hc⟩)
          | _ + 7, h => exact trivial
        · intro i o ac u hi ho hsz hf hg hc
          have hcs : i = 0 ∨ i = 1 ∨ i = 2 ∨ i = 3 ∨ i = 4 ∨ i = 5 ∨ i = 6 := by omega
          rcases hcs with rfl | rfl | rfl | rfl | rfl | rfl | rfl
          · injection ho with ho
            subst ho
            refine .inl ⟨wanted_none rfl, ?_⟩
            have e1 : ac.eval (.tmp 10) = .pointer (some ⟨K, 0, none⟩) := hf 10 (by kernel_rfl)
            exact opG_val (by simp [execOp, e1]) rfl (Chg.refl _)
          · injection ho with ho
            subst ho
            refine .inl ⟨wanted_none rfl, ?_⟩
            have e1 : ac.eval (.tmp 5) = .pointer (some ⟨w.heap.size, 0, none⟩) := hf 5 (by kernel_rfl)
            exact wp_load_mid 32 (.tmp 5) rfl _ _ e1 (bl (av)) _ (rangeB (Ar.chg (w := w5.drew) Z5.out.2.1 hc)) und32 rfl (bl_info _) ⟨_, rfl, rfl, Chg.refl _⟩
          · injection ho with ho
            subst ho
            refine .inl ⟨wanted_none rfl, ?_⟩
            have e1 : ac.eval (.tmp 2) = .slice ao n cap2 := hf 2 (by kernel_rfl)
            exact opG_val (by simp [execOp, e1]) rfl (Chg.refl _)
          · injection ho with ho
            subst ho
            refine .inl ⟨wanted_none rfl, ?_⟩
            have e1 : ac.eval (.tmp 13) = .int .i64 (bk : Int) := hf 13 (by kernel_rfl)
            exact opG_val (by simp [execOp, e1]) rfl (Chg.refl _)
          · injection ho with ho
            subst ho
            refine .inl ⟨wanted_none rfl, ?_⟩
            have e1 : ac.eval (.const (.int .i64 16)) = .int .i64 16 := rfl
            have e2 : ac.eval (.tmp 98) = .int .i64 (bk : Int) := hg 3 (by kernel_rfl) (by decide)
            exact opG_val (by revert e1 e2; generalize ac.eval = ρ; intro e1 e2; simp [go_sem, execOp, e1, e2, hp, wp]) rfl (Chg.refl _)
          · injection ho with ho
            subst ho
            refine .inl ⟨wanted_none rfl, ?_⟩
            have e1 : ac.eval (.tmp 97) = .slice ao n cap2 := hg 2 (by kernel_rfl) (by decide)
            have e2 : ac.eval (.tmp 99) = .int .i64 (p : Int) := hg 4 (by kernel_rfl) (by decide)
            exact opG_val (by simp [execOp, e1, e2, hs1a]) rfl (Chg.refl _)
          · injection ho with ho
            subst ho
            refine .inl ⟨wanted_none rfl, ?_⟩
            have e1 : ac.eval (.tmp 95) = .pointer (some ⟨K, 0, none⟩) := hg 0 (by kernel_rfl) (by decide)
            have e2 : ac.eval (.tmp 96) = .agg (ba 16 av) := hg 1 (by kernel_rfl) (by decide)
            have e3 : ac.eval (.tmp 100) = .slice ao1 p cap2 := hg 5 (by kernel_rfl) (by decide)
            refine opG_go 12 Try.f12 #[.tmp 95, .tmp 96, .tmp 100] #[25, 32, 22] rfl Try.func12 (by kernel_rfl) (by kernel_rfl) (by simp [e1, e2, e3]) (Calls.mono (streamV_any K R p k av txt (.slice ao1 p cap2) _ (Ar.chg (w := w5.drew) Z5.out.2.2.1 hc) HX.out.1 (Hs1.out _ (Rd.chg HX.out.2.1 (Z5.out.1.drew.trans hc))) (Nat.le_trans HP.out.2 HX.out.2.2)) ?_)
            rintro e u2 ⟨gy, rfl, hg1, hg2, hg3⟩
            exact ⟨_, rfl, ⟨gy, rfl, hg3⟩, hg2⟩
        · intro o u V ho hV hc
          injection ho with ho
          subst ho
          refine ⟨rfl, ?_⟩
          have q95 : V 0 = .pointer (some ⟨K, 0, none⟩) := hV 0 (by decide)
          have q96 : V 1 = .agg (ba 16 av) := hV 1 (by decide)
          have q97 : V 2 = .slice ao n cap2 := hV 2 (by decide)
          have q98 : V 3 = .int .i64 (bk : Int) := hV 3 (by decide)
          have q99 : V 4 = .int .i64 (p : Int) := hV 4 (by decide)
          have q100 : V 5 = .slice ao1 p cap2 := hV 5 (by decide)
          obtain ⟨gx, q101, xx⟩ := hV 6 (by decide)

          refine op_val1 (v := .slice (some ⟨gx, 0, none⟩) p p) (by rw [← q101]; rfl) ?_
          go_wp2_with fail
          go_meet
          exact ⟨gx, rfl, (Chg.refl w5).drew.trans hc, xx⟩
      case rest =>
        obtain ⟨g2, rfl, hc6, ha6⟩ := hcut
        obtain ⟨w6, hw6⟩ : ∃ w6, w6 = wc := ⟨_, rfl⟩
        have Z6 : Hid (Chg w w6 ∧ Ar w6 w.heap.size (ba 16 av) ∧ Ar w6 K (keyC R k) ∧ Ar w6 g1 (ba n (stF R k av txt)) ∧ Ar w6 lb (ba 16 lt') ∧ Ar w6 g2 (ba p (stF R k av txt))) := by
          rw [hw6]
          obtain ⟨k0, k1, k2, k3, k4⟩ := Z5.out
          exact ⟨k0.trans hc6, k1.chg hc6, k2.chg hc6, k3.chg hc6, k4.chg hc6, ha6⟩
        rw [← hw6]
        clear hw6 hc6 ha6 Z5 hs1a
        obtain ⟨np, hnp⟩ : ∃ np, np = n - p := ⟨_, rfl⟩
        obtain ⟨cp, hcp⟩ : ∃ cp, cp = cap2 - p := ⟨_, rfl⟩
        have HNP : Hid (np = n - p ∧ np ≤ n) := ⟨hnp, by omega⟩
        rw [← hnp, ← hcp] at hs3a Hs3
        clear hnp hcp
        go_upto_region 15 with fail
        go_cut [18] from 102 to 108 (fun v18 wc => ∃ g3, v18 = .slice (some ⟨g3, 0, none⟩) np np ∧ Chg w6 wc ∧ Ar wc g3 (ba np (stF R k lt' fun i => txt (p + i))))
        case first =>
          refine wp_region_good 7 (fun j v wg => match j with
            | 0 => v = .pointer (some ⟨K, 0, none⟩)
            | 1 => v = .agg (ba 16 lt')
            | 2 => v = .slice ao n cap2
            | 3 => v = .int .i64 (bk : Int)
            | 4 => v = .int .i64 (p : Int)
            | 5 => v = .slice ao3 np cp
            | 6 => ∃ gx, v = .slice (some ⟨gx, 0, none⟩) (np) (np) ∧ Ar wg gx (ba (np) (stF R k lt' fun i => txt (p + i)))
            | _ => True) (by kernel_rfl) (by kernel_rfl) (by kernel_rfl) (by kernel_rfl) (by kernel_rfl) ?_ ?_ ?_
          · intro j v u1 u2 h hc
            match j, h with
            | 0, h => exact h
            | 1, h => exact h
            | 2, h => exact h
            | 3, h => exact h
            | 4, h => exact h
            | 5, h => exact h
            | 6, h => (obtain ⟨gx, h1, h2⟩ := h; exact ⟨gx, h1, h2.chg hc⟩)
            | _ + 7, h => exact trivial
          · intro i o ac u hi ho hsz hf hg hc
            have hcs : i = 0 ∨ i = 1 ∨ i = 2 ∨ i = 3 ∨ i = 4 ∨ i = 5 ∨ i = 6 := by omega
            rcases hcs with rfl | rfl | rfl | rfl | rfl | rfl | rfl
            · injection ho with ho
              subst ho
              refine .inl ⟨wanted_none rfl, ?_⟩
              have e1 : ac.eval (.tmp 10) = .pointer (some ⟨K, 0, none⟩) := hf 10 (by kernel_rfl)
              exact opG_val (by simp [execOp, e1]) rfl (Chg.refl _)
            · injection ho with ho
              subst ho
              refine .inl ⟨wanted_none rfl, ?_⟩
              have e1 : ac.eval (.tmp 14) = .pointer (some ⟨lb, 0, none⟩) := hf 14 (by kernel_rfl)
              exact wp_load_mid 32 (.tmp 14) rfl _ _ e1 (bl (lt')) _ (rangeB (Ar.chg (w := w6.drew) Z6.out.2.2.2.2.1 hc)) und32 rfl (bl_info _) ⟨_, rfl, rfl, Chg.refl _⟩
            · injection ho with ho
              subst ho
              refine .inl ⟨wanted_none rfl, ?_⟩
              have e1 : ac.eval (.tmp 2) = .slice ao n cap2 := hf 2 (by kernel_rfl)
              exact opG_val (by simp [execOp, e1]) rfl (Chg.refl _)
            · injection ho with ho
              subst ho
              refine .inl ⟨wanted_none rfl, ?_⟩
              have e1 : ac.eval (.tmp 13) = .int .i64 (bk : Int) := hf 13 (by kernel_rfl)
              exact opG_val (by simp [execOp, e1]) rfl (Chg.refl _)
            · injection ho with ho
              subst ho
              refine .inl ⟨wanted_none rfl, ?_⟩
              have e1 : ac.eval (.const (.int .i64 16)) = .int .i64 16 := rfl
              have e2 : ac.eval (.tmp 105) = .int .i64 (bk : Int) := hg 3 (by kernel_rfl) (by decide)
              exact opG_val (by revert e1 e2; generalize ac.eval = ρ; intro e1 e2; simp [go_sem, execOp, e1, e2, hp, wp]) rfl (Chg.refl _)
            · injection ho with ho
              subst ho
              refine .inl ⟨wanted_none rfl, ?_⟩
              have e1 : ac.eval (.tmp 104) = .slice ao n cap2 := hg 2 (by kernel_rfl) (by decide)
              have e2 : ac.eval (.tmp 106) = .int .i64 (p : Int) := hg 4 (by kernel_rfl) (by decide)
              exact opG_val (by simp [execOp, e1, e2, hs3a]) rfl (Chg.refl _)
            · injection ho with ho
              subst ho
              refine .inl ⟨wanted_none rfl, ?_⟩
              have e1 : ac.eval (.tmp 102) = .pointer (some ⟨K, 0, none⟩) := hg 0 (by kernel_rfl) (by decide)
              have e2 : ac.eval (.tmp 103) = .agg (ba 16 lt') := hg 1 (by kernel_rfl) (by decide)
              have e3 : ac.eval (.tmp 107) = .slice ao3 np cp := hg 5 (by kernel_rfl) (by decide)
              refine opG_go 12 Try.f12 #[.tmp 102, .tmp 103, .tmp 107] #[25, 32, 22] rfl Try.func12 (by kernel_rfl) (by kernel_rfl) (by simp [e1, e2, e3]) (Calls.mono (streamV_any K R np k lt' (fun i => txt (p + i)) (.slice ao3 np cp) _ (Ar.chg (w := w6.drew) Z6.out.2.2.1 hc) HX.out.1 (Hs3.out _ (Rd.chg HX.out.2.1 (Z6.out.1.drew.trans hc))) (Nat.le_trans HNP.out.2 HX.out.2.2)) ?_)
              rintro e u2 ⟨gy, rfl, hg1, hg2, hg3⟩
              exact ⟨_, rfl, ⟨gy, rfl, hg3⟩, hg2⟩
          · intro o u V ho hV hc
            injection ho with ho
            subst ho
            refine ⟨rfl, ?_⟩
            have q102 : V 0 = .pointer (some ⟨K, 0, none⟩) := hV 0 (by decide)
            have q103 : V 1 = .agg (ba 16 lt') := hV 1 (by decide)
            have q104 : V 2 = .slice ao n cap2 := hV 2 (by decide)
            have q105 : V 3 = .int .i64 (bk : Int) := hV 3 (by decide)
            have q106 : V 4 = .int .i64 (p : Int) := hV 4 (by decide)
            have q107 : V 5 = .slice ao3 np cp := hV 5 (by decide)
            obtain ⟨gx, q108, xx⟩ := hV 6 (by decide)

            refine op_val1 (v := .slice (some ⟨gx, 0, none⟩) np np) (by rw [← q108]; rfl) ?_
            go_wp2_with fail
            go_meet
            exact ⟨gx, rfl, (Chg.refl w6).drew.trans hc, xx⟩
        case rest =>
          obtain ⟨g3, rfl, hc7, ha7⟩ := hcut
          obtain ⟨w7, hw7⟩ : ∃ w7, w7 = wc := ⟨_, rfl⟩
          have Z7 : Hid (Chg w w7 ∧ Ar w7 w.heap.size (ba 16 av) ∧ Ar w7 K (keyC R k) ∧ Ar w7 g1 (ba n (stF R k av txt)) ∧ Ar w7 g2 (ba p (stF R k av txt)) ∧ Ar w7 g3 (ba np (stF R k lt' fun i => txt (p + i)))) := by
            rw [hw7]
            obtain ⟨k0, k1, k2, k3, k4, k5⟩ := Z6.out
            exact ⟨k0.trans hc7, k1.chg hc7, k2.chg hc7, k3.chg hc7, k5.chg hc7, ha7⟩
          rw [← hw7]
          clear hw7 hc7 ha7 Z6 hs3a
          obtain ⟨t7, g7⟩ := Z7.out.2.1
          have hsz := szB av zero32.2
          have hz := zero32.1
          obtain ⟨X, hX⟩ : ∃ X, X = enc R k av := ⟨_, rfl⟩
          have HXe : Hid (X = enc R k av) := hX
          have HE : Hid (Calls Try.prog 10 #[.pointer (some ⟨K, 0, none⟩), .agg (ba 16 av)] w7 fun r w' => r = .returned (.agg (ba 16 X)) ∧ Chg w7 w') := by rw [hX]; exact encrypt_any K R k av w7 Z7.out.2.2.1 HX.out.1
          have hszX := szB X zero32.2
          have hlenX := lenB 16 zB X
          have honeX := ba_one 16 X
          clear hX
          go_upto_region 17 with (first | refine wpList_load_row rfl 32 _ rfl _ rfl _ _ _ _ g7 und32 rfl hsz ?_ | (go_at_call 10; refine HE.out.mono ?_; rintro r w8 ⟨rfl, hc8⟩) | refine wpList_store_row rfl 32 _ _ rfl _ _ rfl rfl _ _ (heap_alloc_last w8 _) hszX hlenX honeX ?_)
          obtain ⟨xb, hxb⟩ : ∃ xb, xb = w8.heap.size := ⟨_, rfl⟩
          obtain ⟨w9, hw9⟩ : ∃ w9, w9 = (w8.alloc (.cells (ba 16 zB) 32)).setRow w8.heap.size (ba 16 X) := ⟨_, rfl⟩
          have Z9 : Hid (Chg w w9 ∧ Ar w9 g1 (ba n (stF R k av txt)) ∧ Ar w9 g2 (ba p (stF R k av txt)) ∧ Ar w9 g3 (ba np (stF R k lt' fun i => txt (p + i))) ∧ Ar w9 xb (ba 16 X)) := by
            obtain ⟨k0, k1, k2, k3, k4, k5⟩ := Z7.out
            have l0 := k0.trans hc8
            have l3 := k3.chg hc8
            have l4 := k4.chg hc8
            have l5 := k5.chg hc8
            have e3 := l3.lt
            have e4 := l4.lt
            have e5 := l5.lt
            rw [hw9, hxb]
            exact ⟨(l0.alloc _).setRow l0.size _, (l3.alloc _).rowOther (by omega) _, (l4.alloc _).rowOther (by omega) _, (l5.alloc _).rowOther (by omega) _, (Ar.new w8 _ _).row _⟩
          rw [← hw9, ← hxb]
          clear hw9 hxb hc8 Z7 g7 hsz hz HE hszX hlenX honeX
          dsimp only [Act.put]
          go_cut [20] from 112 to 126 (fun v20 wc => v20 = .bool true ∧ Chg w9 wc)
          case first =>
            by_cases hn0 : n = 0
            · have hnz : ((n : Int) == 0) = true := by simp; omega
              clear hn0
              refine wp_region_good 15 (fun j v wg => match j with
                | 0 => v = .slice ao n cap2
                | 1 => v = .int .i64 (n : Int)
                | 2 => v = .bool true
                | 3 => v = .bool true
                | 4 => v = undef
                | 5 => v = undef
                | 6 => v = undef
                | 7 => v = undef
                | 8 => v = undef
                | 9 => v = undef
                | 10 => v = undef
                | 11 => v = undef
                | 12 => v = undef
                | 13 => v = undef
                | 14 => v = .bool true
                | _ => True) (by kernel_rfl) (by kernel_rfl) (by kernel_rfl) (by kernel_rfl) (by kernel_rfl) ?_ ?_ ?_
              · intro j v u1 u2 h hc
                match j, h with
                | 0, h => exact h
                | 1, h => exact h
                | 2, h => exact h
                | 3, h => exact h
                | 4, h => exact h
                | 5, h => exact h
                | 6, h => exact h
                | 7, h => exact h
                | 8, h => exact h
                | 9, h => exact h
                | 10, h => exact h
                | 11, h => exact h
                | 12, h => exact h
                | 13, h => exact h
                | 14, h => exact h
                | _ + 15, h => exact trivial
              · intro i o ac u hi ho hsz hf hg hc
                have hcs : i = 0 ∨ i = 1 ∨ i = 2 ∨ i = 3 ∨ i = 4 ∨ i = 5 ∨ i = 6 ∨ i = 7 ∨ i = 8 ∨ i = 9 ∨ i = 10 ∨ i = 11 ∨ i = 12 ∨ i = 13 ∨ i = 14 := by omega
                rcases hcs with rfl | rfl | rfl | rfl | rfl | rfl | rfl | rfl | rfl | rfl | rfl | rfl | rfl | rfl | rfl
                · injection ho with ho
                  subst ho
                  refine .inl ⟨wanted_none rfl, ?_⟩
                  have e1 : ac.eval (.tmp 2) = .slice ao n cap2 := hf 2 (by kernel_rfl)
                  exact opG_val (by simp [execOp, e1]) rfl (Chg.refl _)
                · injection ho with ho
                  subst ho
                  refine .inl ⟨wanted_none rfl, ?_⟩
                  have e1 : ac.eval (.tmp 112) = .slice ao n cap2 := hg 0 (by kernel_rfl) (by decide)
                  exact opG_val (by revert e1; generalize ac.eval = ρ; intro e1; simp [go_sem, execOp, e1]) rfl (Chg.refl _)
                · injection ho with ho
                  subst ho
                  refine .inl ⟨wanted_none rfl, ?_⟩
                  have e1 : ac.eval (.tmp 113) = .int .i64 (n : Int) := hg 1 (by kernel_rfl) (by decide)
                  have e2 : ac.eval (.const (.int .i64 0)) = .int .i64 0 := rfl
                  exact opG_val (by revert e1 e2; generalize ac.eval = ρ; intro e1 e2; simp [go_sem, execOp, e1, e2, hnz]) rfl (Chg.refl _)
                · injection ho with ho
                  subst ho
                  refine .inl ⟨wanted_none rfl, ?_⟩
                  have e1 : ac.eval (.tmp 114) = .bool true := hg 2 (by kernel_rfl) (by decide)
                  exact opG_val (by simp [execOp, e1]) rfl (Chg.refl _)
                · injection ho with ho
                  subst ho
                  exact .inr ⟨wanted_not (T := _) (by kernel_rfl) hsz rfl (by decide : 3 < 15) rfl rfl (hg 3 (by kernel_rfl) (by decide)), rfl⟩
                · injection ho with ho
                  subst ho
                  exact .inr ⟨wanted_not (T := _) (by kernel_rfl) hsz rfl (by decide : 3 < 15) rfl rfl (hg 3 (by kernel_rfl) (by decide)), rfl⟩
                · injection ho with ho
                  subst ho
                  exact .inr ⟨wanted_not (T := _) (by kernel_rfl) hsz rfl (by decide : 3 < 15) rfl rfl (hg 3 (by kernel_rfl) (by decide)), rfl⟩
                · injection ho with ho
                  subst ho
                  exact .inr ⟨wanted_not (T := _) (by kernel_rfl) hsz rfl (by decide : 3 < 15) rfl rfl (hg 3 (by kernel_rfl) (by decide)), rfl⟩
                · injection ho with ho
                  subst ho
                  exact .inr ⟨wanted_not (T := _) (by kernel_rfl) hsz rfl (by decide : 3 < 15) rfl rfl (hg 3 (by kernel_rfl) (by decide)), rfl⟩
                · injection ho with ho
                  subst ho
                  exact .inr ⟨wanted_not (T := _) (by kernel_rfl) hsz rfl (by decide : 3 < 15) rfl rfl (hg 3 (by kernel_rfl) (by decide)), rfl⟩
                · injection ho with ho
                  subst ho
                  exact .inr ⟨wanted_not (T := _) (by kernel_rfl) hsz rfl (by decide : 3 < 15) rfl rfl (hg 3 (by kernel_rfl) (by decide)), rfl⟩
                · injection ho with ho
                  subst ho
                  exact .inr ⟨wanted_not (T := _) (by kernel_rfl) hsz rfl (by decide : 3 < 15) rfl rfl (hg 3 (by kernel_rfl) (by decide)), rfl⟩
                · injection ho with ho
                  subst ho
                  exact .inr ⟨wanted_not (T := _) (by kernel_rfl) hsz rfl (by decide : 3 < 15) rfl rfl (hg 3 (by kernel_rfl) (by decide)), rfl⟩
                · injection ho with ho
                  subst ho
                  exact .inr ⟨wanted_not (T := _) (by kernel_rfl) hsz rfl (by decide : 3 < 15) rfl rfl (hg 3 (by kernel_rfl) (by decide)), rfl⟩
                · injection ho with ho
                  subst ho
                  refine .inl ⟨wanted_none rfl, ?_⟩
                  have e1 : ac.eval (.tmp 115) = .bool true := hg 3 (by kernel_rfl) (by decide)
                  have e2 : ac.eval (.const (.bool true)) = .bool true := rfl
                  have e3 : ac.eval (.tmp 125) = undef := hg 13 (by kernel_rfl) (by decide)
                  exact opG_val (by revert e1 e2 e3; generalize ac.eval = ρ; intro e1 e2 e3; simp [go_sem, execOp, e1, e2, e3]) rfl (Chg.refl _)
              · intro o u V ho hV hc
                injection ho with ho
                subst ho
                refine ⟨rfl, ?_⟩
                have q112 : V 0 = .slice ao n cap2 := hV 0 (by decide)
                have q113 : V 1 = .int .i64 (n : Int) := hV 1 (by decide)
                have q114 : V 2 = .bool true := hV 2 (by decide)
                have q115 : V 3 = .bool true := hV 3 (by decide)
                have q116 : V 4 = undef := hV 4 (by decide)
                have q117 : V 5 = undef := hV 5 (by decide)
                have q118 : V 6 = undef := hV 6 (by decide)
                have q119 : V 7 = undef := hV 7 (by decide)
                have q120 : V 8 = undef := hV 8 (by decide)
                have q121 : V 9 = undef := hV 9 (by decide)
                have q122 : V 10 = undef := hV 10 (by decide)
                have q123 : V 11 = undef := hV 11 (by decide)
                have q124 : V 12 = undef := hV 12 (by decide)
                have q125 : V 13 = undef := hV 13 (by decide)
                have q126 : V 14 = .bool true := hV 14 (by decide)
                refine op_val1 (v := .bool true) (by rw [← q126]; rfl) ?_
                go_wp2_with fail
                go_meet
                exact ⟨rfl, (Chg.refl w9).drew.trans hc⟩
            · have hnz : ((n : Int) == 0) = false := by simp; omega
              obtain ⟨tb, tt, cc, hv, _, _, hbs⟩ := Rd.bs HX.out.2.1 (by omega)
              injection hv with s1 s2 s3
              subst s1 s3
              have hn1 : (0 : Int) < n := by omega
              have c1 := (Z9.out.2.1.cell 0).trans (ba_get n _ (by omega))
              have c2 := (hbs.chg Z9.out.1) 0 (by omega)
              rw [Nat.add_zero] at c2
              have c3 := (Z9.out.2.2.2.2.cell 0).trans (ba_get 16 X (by decide))
              obtain ⟨y, Hy, ey⟩ := nameXor (txt 0) (X 0)
              have hyF : stF R k av txt 0 = y := by
                rw [Hy.out, HXe.out, stF, pad]
                show txt 0 ^^^ enc R k (ctr av (0 / 16)) (0 % 16) = _
                rw [show (0 : Nat) / 16 = 0 from rfl, show (0 : Nat) % 16 = 0 from rfl, E16.enc (R := R) (k := k) (k' := k) (fun _ _ => rfl) (ctr_zero av) 0 (by decide)]
              rw [hyF] at c1
              clear hyF hbs
              refine wp_region_good 15 (fun j v wg => match j with
                | 0 => v = .slice (some ⟨tb, tt, none⟩) n cap2
                | 1 => v = .int .i64 (n : Int)
                | 2 => v = .bool false
                | 3 => v = .bool false
                | 4 => v = .slice (some ⟨g1, 0, none⟩) n n
                | 5 => v = .pointer (some ⟨g1, 0, none⟩)
                | 6 => v = .int .u8 (y.toNat : Int)
                | 7 => v = .slice (some ⟨tb, tt, none⟩) n cap2
                | 8 => v = .pointer (some ⟨tb, tt, none⟩)
                | 9 => v = .int .u8 ((txt 0).toNat : Int)
                | 10 => v = .pointer (some ⟨xb, 0, none⟩)
                | 11 => v = .int .u8 ((X 0).toNat : Int)
                | 12 => v = .int .u8 (y.toNat : Int)
                | 13 => v = .bool true
                | 14 => v = .bool true
                | _ => True) (by kernel_rfl) (by kernel_rfl) (by kernel_rfl) (by kernel_rfl) (by kernel_rfl) ?_ ?_ ?_
              · intro j v u1 u2 h hc
                match j, h with
                | 0, h => exact h
                | 1, h => exact h
                | 2, h => exact h
                | 3, h => exact h
                | 4, h => exact h
                | 5, h => exact h
                | 6, h => exact h
                | 7, h => exact h
                | 8, h => exact h
                | 9, h => exact h
                | 10, h => exact h
                | 11, h => exact h
                | 12, h => exact h
                | 13, h => exact h
                | 14, h => exact h
                | _ + 15, h => exact trivial
              · intro i o ac u hi ho hsz hf hg hc
                have hcs : i = 0 ∨ i = 1 ∨ i = 2 ∨ i = 3 ∨ i = 4 ∨ i = 5 ∨ i = 6 ∨ i = 7 ∨ i = 8 ∨ i = 9 ∨ i = 10 ∨ i = 11 ∨ i = 12 ∨ i = 13 ∨ i = 14 := by omega
                rcases hcs with rfl | rfl | rfl | rfl | rfl | rfl | rfl | rfl | rfl | rfl | rfl | rfl | rfl | rfl | rfl
                · injection ho with ho
                  subst ho
                  refine .inl ⟨wanted_none rfl, ?_⟩
                  have e1 : ac.eval (.tmp 2) = .slice (some ⟨tb, tt, none⟩) n cap2 := hf 2 (by kernel_rfl)
                  exact opG_val (by simp [execOp, e1]) rfl (Chg.refl _)
                · injection ho with ho
                  subst ho
                  refine .inl ⟨wanted_none rfl, ?_⟩
                  have e1 : ac.eval (.tmp 112) = .slice (some ⟨tb, tt, none⟩) n cap2 := hg 0 (by kernel_rfl) (by decide)
                  exact opG_val (by revert e1; generalize ac.eval = ρ; intro e1; simp [go_sem, execOp, e1]) rfl (Chg.refl _)
                · injection ho with ho
                  subst ho
                  refine .inl ⟨wanted_none rfl, ?_⟩
                  have e1 : ac.eval (.tmp 113) = .int .i64 (n : Int) := hg 1 (by kernel_rfl) (by decide)
                  have e2 : ac.eval (.const (.int .i64 0)) = .int .i64 0 := rfl
                  exact opG_val (by revert e1 e2; generalize ac.eval = ρ; intro e1 e2; simp [go_sem, execOp, e1, e2, hnz]) rfl (Chg.refl _)
                · injection ho with ho
                  subst ho
                  refine .inl ⟨wanted_none rfl, ?_⟩
                  have e1 : ac.eval (.tmp 114) = .bool false := hg 2 (by kernel_rfl) (by decide)
                  exact opG_val (by simp [execOp, e1]) rfl (Chg.refl _)
                · injection ho with ho
                  subst ho
                  refine .inl ⟨wanted_by (T := _) (by kernel_rfl) hsz rfl (by decide : 3 < 15) rfl (hg 3 (by kernel_rfl) (by decide)), ?_⟩
                  have e1 : ac.eval (.tmp 12) = .slice (some ⟨g1, 0, none⟩) n n := hf 12 (by kernel_rfl)
                  exact opG_val (by simp [execOp, e1]) rfl (Chg.refl _)
                · injection ho with ho
                  subst ho
                  refine .inl ⟨wanted_by (T := _) (by kernel_rfl) hsz rfl (by decide : 3 < 15) rfl (hg 3 (by kernel_rfl) (by decide)), ?_⟩
                  have e1 : ac.eval (.tmp 116) = .slice (some ⟨g1, 0, none⟩) n n := hg 4 (by kernel_rfl) (by decide)
                  have e2 : ac.eval (.const (.int .i64 0)) = .int .i64 0 := rfl
                  exact opG_val (by revert e1 e2; generalize ac.eval = ρ; intro e1 e2; simp [go_sem, execOp, e1, e2, hn0]) rfl (Chg.refl _)
                · injection ho with ho
                  subst ho
                  have ca : u.cell? ⟨g1, 0, none⟩ = some (.int .u8 (y.toNat : Int)) := (World.cell?_of_block (hc.block g1 Z9.out.2.1.lt)).trans c1
                  refine .inl ⟨wanted_by (T := _) (by kernel_rfl) hsz rfl (by decide : 3 < 15) rfl (hg 3 (by kernel_rfl) (by decide)), ?_⟩
                  have e1 : ac.eval (.tmp 117) = .pointer (some ⟨g1, 0, none⟩) := hg 5 (by kernel_rfl) (by decide)
                  exact opG_val (by revert e1; generalize ac.eval = ρ; intro e1; simp [go_sem, execOp, e1, ca]) rfl (Chg.refl _)
                · injection ho with ho
                  subst ho
                  refine .inl ⟨wanted_by (T := _) (by kernel_rfl) hsz rfl (by decide : 3 < 15) rfl (hg 3 (by kernel_rfl) (by decide)), ?_⟩
                  have e1 : ac.eval (.tmp 2) = .slice (some ⟨tb, tt, none⟩) n cap2 := hf 2 (by kernel_rfl)
                  exact opG_val (by simp [execOp, e1]) rfl (Chg.refl _)
                · injection ho with ho
                  subst ho
                  refine .inl ⟨wanted_by (T := _) (by kernel_rfl) hsz rfl (by decide : 3 < 15) rfl (hg 3 (by kernel_rfl) (by decide)), ?_⟩
                  have e1 : ac.eval (.tmp 119) = .slice (some ⟨tb, tt, none⟩) n cap2 := hg 7 (by kernel_rfl) (by decide)
                  have e2 : ac.eval (.const (.int .i64 0)) = .int .i64 0 := rfl
                  exact opG_val (by revert e1 e2; generalize ac.eval = ρ; intro e1 e2; simp [go_sem, execOp, e1, e2, hn0]) rfl (Chg.refl _)
                · injection ho with ho
                  subst ho
                  have ca : u.cell? ⟨tb, tt, none⟩ = some (.int .u8 ((txt 0).toNat : Int)) := (World.cell?_of_block (hc.block tb (block_lt_of_cell c2))).trans c2
                  refine .inl ⟨wanted_by (T := _) (by kernel_rfl) hsz rfl (by decide : 3 < 15) rfl (hg 3 (by kernel_rfl) (by decide)), ?_⟩
                  have e1 : ac.eval (.tmp 120) = .pointer (some ⟨tb, tt, none⟩) := hg 8 (by kernel_rfl) (by decide)
                  exact opG_val (by revert e1; generalize ac.eval = ρ; intro e1; simp [go_sem, execOp, e1, ca]) rfl (Chg.refl _)
                · injection ho with ho
                  subst ho
                  refine .inl ⟨wanted_by (T := _) (by kernel_rfl) hsz rfl (by decide : 3 < 15) rfl (hg 3 (by kernel_rfl) (by decide)), ?_⟩
                  have e1 : ac.eval (.tmp 19) = .pointer (some ⟨xb, 0, none⟩) := hf 19 (by kernel_rfl)
                  have e2 : ac.eval (.const (.int .i64 0)) = .int .i64 0 := rfl
                  exact opG_val (by revert e1 e2; generalize ac.eval = ρ; intro e1 e2; simp [go_sem, execOp, e1, e2]) rfl (Chg.refl _)
                · injection ho with ho
                  subst ho
                  have ca : u.cell? ⟨xb, 0, none⟩ = some (.int .u8 ((X 0).toNat : Int)) := (World.cell?_of_block (hc.block xb Z9.out.2.2.2.2.lt)).trans c3
                  refine .inl ⟨wanted_by (T := _) (by kernel_rfl) hsz rfl (by decide : 3 < 15) rfl (hg 3 (by kernel_rfl) (by decide)), ?_⟩
                  have e1 : ac.eval (.tmp 122) = .pointer (some ⟨xb, 0, none⟩) := hg 10 (by kernel_rfl) (by decide)
                  exact opG_val (by revert e1; generalize ac.eval = ρ; intro e1; simp [go_sem, execOp, e1, ca]) rfl (Chg.refl _)
                · injection ho with ho
                  subst ho
                  refine .inl ⟨wanted_by (T := _) (by kernel_rfl) hsz rfl (by decide : 3 < 15) rfl (hg 3 (by kernel_rfl) (by decide)), ?_⟩
                  have e1 : ac.eval (.tmp 121) = .int .u8 ((txt 0).toNat : Int) := hg 9 (by kernel_rfl) (by decide)
                  have e2 : ac.eval (.tmp 123) = .int .u8 ((X 0).toNat : Int) := hg 11 (by kernel_rfl) (by decide)
                  exact opG_val (by revert e1 e2; generalize ac.eval = ρ; intro e1 e2; simp [go_sem, execOp, e1, e2, ey]) rfl (Chg.refl _)
                · injection ho with ho
                  subst ho
                  refine .inl ⟨wanted_by (T := _) (by kernel_rfl) hsz rfl (by decide : 3 < 15) rfl (hg 3 (by kernel_rfl) (by decide)), ?_⟩
                  have e1 : ac.eval (.tmp 118) = .int .u8 (y.toNat : Int) := hg 6 (by kernel_rfl) (by decide)
                  have e2 : ac.eval (.tmp 124) = .int .u8 (y.toNat : Int) := hg 12 (by kernel_rfl) (by decide)
                  exact opG_val (by revert e1 e2; generalize ac.eval = ρ; intro e1 e2; simp [go_sem, execOp, e1, e2]) rfl (Chg.refl _)
                · injection ho with ho
                  subst ho
                  refine .inl ⟨wanted_none rfl, ?_⟩
                  have e1 : ac.eval (.tmp 115) = .bool false := hg 3 (by kernel_rfl) (by decide)
                  have e2 : ac.eval (.const (.bool true)) = .bool true := rfl
                  have e3 : ac.eval (.tmp 125) = .bool true := hg 13 (by kernel_rfl) (by decide)
                  exact opG_val (by revert e1 e2 e3; generalize ac.eval = ρ; intro e1 e2 e3; simp [go_sem, execOp, e1, e2, e3]) rfl (Chg.refl _)
              · intro o u V ho hV hc
                injection ho with ho
                subst ho
                refine ⟨rfl, ?_⟩
                have q112 : V 0 = .slice (some ⟨tb, tt, none⟩) n cap2 := hV 0 (by decide)
                have q113 : V 1 = .int .i64 (n : Int) := hV 1 (by decide)
                have q114 : V 2 = .bool false := hV 2 (by decide)
                have q115 : V 3 = .bool false := hV 3 (by decide)
                have q116 : V 4 = .slice (some ⟨g1, 0, none⟩) n n := hV 4 (by decide)
                have q117 : V 5 = .pointer (some ⟨g1, 0, none⟩) := hV 5 (by decide)
                have q118 : V 6 = .int .u8 (y.toNat : Int) := hV 6 (by decide)
                have q119 : V 7 = .slice (some ⟨tb, tt, none⟩) n cap2 := hV 7 (by decide)
                have q120 : V 8 = .pointer (some ⟨tb, tt, none⟩) := hV 8 (by decide)
                have q121 : V 9 = .int .u8 ((txt 0).toNat : Int) := hV 9 (by decide)
                have q122 : V 10 = .pointer (some ⟨xb, 0, none⟩) := hV 10 (by decide)
                have q123 : V 11 = .int .u8 ((X 0).toNat : Int) := hV 11 (by decide)
                have q124 : V 12 = .int .u8 (y.toNat : Int) := hV 12 (by decide)
                have q125 : V 13 = .bool true := hV 13 (by decide)
                have q126 : V 14 = .bool true := hV 14 (by decide)
                refine op_val1 (v := .bool true) (by rw [← q126]; rfl) ?_
                go_wp2_with fail
                go_meet
                exact ⟨rfl, (Chg.refl w9).drew.trans hc⟩
          case rest =>
            obtain ⟨rfl, hc10⟩ := hcut
            have hr1 := (Bs.rd ((Z9.out.2.1.chg hc10).bs) (Nat.le_refl n) (by omega))
            have hr2 := (Bs.rd ((Z9.out.2.2.1.chg hc10).bs) (Nat.le_refl p) (by omega))
            have hr3 := (Bs.rd ((Z9.out.2.2.2.1.chg hc10).bs) (Nat.le_refl np) (by have := HNP.out; omega))
            have s1 := Ap.run_str wc _ _ hr1
            have s2 := Ap.run_str wc _ _ hr2
            have s3 := Ap.run_str wc _ _ hr3
            obtain ⟨S1, hS1⟩ : ∃ S, S = strOfNums (nums n (stF R k av txt)) := ⟨_, rfl⟩
            obtain ⟨S2, hS2⟩ : ∃ S, S = strOfNums (nums p (stF R k av txt)) := ⟨_, rfl⟩
            obtain ⟨S3, hS3⟩ : ∃ S, S = strOfNums (nums np (stF R k lt' fun i => txt (p + i))) := ⟨_, rfl⟩
            have hS : S1 = S2 ++ S3 := by
              have e1 : nums np (stF R k lt' fun i => txt (p + i)) = nums (n - p) (fun i => stF R k av txt (p + i)) := by
                rw [HNP.out.1]
                refine nums_congr fun i hi => ?_
                unfold stF
                rw [HLT.out, pad_more R k av HP.out.1]
              rw [hS1, hS2, hS3, e1, nums_split n p _ HP.out.2, str_app]
            rw [← hS1] at s1
            rw [← hS2] at s2
            rw [← hS3] at s3
            have hlt : ¬ 9223372036854775807 < S2.size + S3.size := by
              rw [hS2, hS3, strOfNums_size, strOfNums_size, nums_len, nums_len]
              have := HNP.out
              omega
            clear hr1 hr2 hr3 hS1 hS2 hS3
            go_wp2_with fail
            go_ret
            exact ⟨rfl, Z9.out.1.trans hc10⟩

end Go.Proofs.Ytpbnejgoppkghaa
