/-
  A number halved, as the document does it.
  The document's roots.
  The even root of a square, plainly.
  The document's roots modulo 2^255 - 19.
  Roots of whatever field, the program's and the document's.
  Roots are the document's, and of squares they are roots: the law, walked.
-/
import Derived.Test.YtnahkcapbbjfdaaJb
import Derived.Test.YtnahkcapbbjfdaaJd
import Derived.Test.YtnahkcapbbjfdaaRoot
import Derived.Test.YtnahkcapbbjfdaaRtp
import Derived.Test.YtnahkcapbbjfdaaLw
import Derived.Test.YtnahkcapbbjfdaaHd
namespace Go.Proofs.Ytnahkcapbbjfdaa
open Go.RowKit
set_option linter.unusedVariables false

theorem or_63 {lo hi : Int} (h1 : 0 ≤ lo ∧ lo < 9223372036854775808) (h2 : 0 ≤ hi ∧ hi < 2) : bits .or .u64 lo (hi * 9223372036854775808) = lo + hi * 9223372036854775808 := by
  obtain ⟨a, rfl⟩ := Int.eq_ofNat_of_zero_le h1.1
  obtain ⟨b, rfl⟩ := Int.eq_ofNat_of_zero_le h2.1
  have e : ((b : Int) * 9223372036854775808) = ((b * 9223372036854775808 : Nat) : Int) := by omega
  rw [e, u64_or_nat a (b * 9223372036854775808) (by omega) (by omega)]
  have h3 : b * 9223372036854775808 ||| a = b * 9223372036854775808 + a := by
    have := Nat.shiftLeft_add_eq_or_of_lt (i := 63) (b := a) (by omega) b
    rw [Nat.shiftLeft_eq] at this
    exact this.symm
  rw [Nat.or_comm, h3]
  omega
theorem dg_half64 (x : Int) (i : Nat) : dg B64 (x / 2) i = dg B64 x i / 2 + (dg B64 x (i + 1) % 2) * 9223372036854775808 := by
  unfold dg
  have hp := pow_pos' B64_pos i
  rw [Int.pow_succ, ← Int.ediv_ediv_of_nonneg (Int.le_of_lt hp)]
  have e : x / 2 / B64 ^ i = x / B64 ^ i / 2 := by rw [Int.ediv_ediv_of_nonneg (by decide), Int.mul_comm, ← Int.ediv_ediv_of_nonneg (Int.le_of_lt hp)]
  rw [e]
  generalize x / B64 ^ i = y
  show y / 2 % 18446744073709551616 = y % 18446744073709551616 / 2 + y / 18446744073709551616 % 18446744073709551616 % 2 * 9223372036854775808
  omega
theorem dg_over4 {x : Int} (h : N256 x) : dg B64 x 4 = 0 := by
  unfold dg
  rw [show B64 ^ 4 = R256 from by decide +kernel, Int.ediv_eq_zero_of_lt h.1 h.2]
  rfl

set_option maxRecDepth 100000 in
set_option maxHeartbeats 16000000 in
theorem halfR_any (x : Int) (hx : N256 x) (w : World) : Calls Try.prog 59 #[.agg (num x)] w fun r w' => r = .returned (.agg (num (x / 2))) ∧ Chg w w' := by
  have HX : Hid (N256 x) := hx
  have hsA := num_size x
  obtain ⟨A, hA⟩ : ∃ A, A = num x := ⟨_, rfl⟩
  have HA : Hid (A = num x) := hA
  obtain ⟨ANS, hANS⟩ : ∃ A, A = num (x / 2) := ⟨_, rfl⟩
  have HANS : Hid (ANS = num (x / 2)) := hANS
  rw [← hA] at hsA ⊢
  rw [← hANS]
  have hz := zero25.1
  clear hA hANS hx
  go_enter Try.func59, Try.ntmps59
  go_wp2_with fail
  obtain ⟨w2, hw2⟩ : ∃ w2, w2 = (w.alloc (.cells A 25)).alloc (.cells (num 0) 25) := ⟨_, rfl⟩
  have Z2 : Hid (Chg w w2 ∧ Ar w2 w.heap.size (arr .u64 4 (mixD 0 (dg B64 (x / 2)) (dg B64 x))) ∧ Ar w2 (w.heap.size + 1) (num 0)) := by
    rw [hw2, HA.out, mixD_zero]
    exact ⟨((Chg.refl w).alloc _).alloc _, (Ar.new w _ _).alloc _, Ar.new1 w _ _ _⟩
  rw [← hw2]
  clear hw2 hsA hz
  go_loopw [3] (fun v wr => ∃ (i : Nat), v = .int .i64 i ∧ i ≤ 4 ∧ Chg w wr ∧ Ar wr w.heap.size (arr .u64 4 (mixD i (dg B64 (x / 2)) (dg B64 x))) ∧ Ar wr (w.heap.size + 1) (num 0)) (fun v wr => 4 - (intOf v).toNat)
  case atStart => exact ⟨0, rfl, by omega, Z2.out⟩
  case round =>
    clear Z2 HA
    obtain ⟨i, rfl, hi, hch, h1, h2⟩ := hrel
    have H : Hid (Chg w wr ∧ Ar wr w.heap.size (arr .u64 4 (mixD i (dg B64 (x / 2)) (dg B64 x))) ∧ Ar wr (w.heap.size + 1) (num 0)) := ⟨hch, h1, h2⟩
    by_cases h4 : i < 4
    · have hdi : decide ((i : Int) < 4) = true := by simp; omega
      have li : (i : Int) < 4 := by omega
      have c1 := (h1.cell i).trans (arr_get .u64 4 _ h4)
      rw [mixD_at] at c1
      have f1 := h1.frozen i
      obtain ⟨y, hy⟩ : ∃ y, y = dg B64 x i := ⟨_, rfl⟩
      have by' : 0 ≤ dg B64 x i ∧ dg B64 x i < 18446744073709551616 := dg_bound (B := B64) B64_pos x i
      rw [← hy] at c1 by'
      obtain ⟨y1, hy1⟩ : ∃ y1, y / 2 = y1 := ⟨_, rfl⟩
      by_cases h3 : i < 3
      · have hd3 : decide ((i : Int) < 3) = true := by simp; omega
        obtain ⟨q, hq⟩ : ∃ q : Nat, (i : Int) + 1 = q := ⟨i + 1, by omega⟩
        have wq := wrap_i (x := (q : Int)) (by omega) (by omega)
        have lq : (q : Int) < 4 := by omega
        have lq0 : (0 : Int) ≤ (q : Int) := by omega
        have c2 := (h1.cell q).trans (arr_get .u64 4 _ (by omega))
        have eq' : q = i + 1 := by omega
        rw [show mixD i (dg B64 (x / 2)) (dg B64 x) q = dg B64 x q by simp [mixD]; omega] at c2
        obtain ⟨n, hn⟩ : ∃ n, n = dg B64 x q := ⟨_, rfl⟩
        have bn : 0 ≤ dg B64 x q ∧ dg B64 x q < 18446744073709551616 := dg_bound (B := B64) B64_pos x q
        rw [← hn] at c2 bn
        obtain ⟨b, hb⟩ : ∃ b, n % 2 = b := ⟨_, rfl⟩
        have wb : IntKind.u64.wrap (n * 9223372036854775808) = b * 9223372036854775808 := by rw [IntKind.wrap_u64]; omega
        have eo := or_63 (lo := y1) (hi := b) (by omega) (by omega)
        obtain ⟨r, hr⟩ : ∃ r, y1 + b * 9223372036854775808 = r := ⟨_, rfl⟩
        rw [hr] at eo
        have HR : Hid (r = dg B64 (x / 2) i) := by
          show r = _
          rw [dg_half64, ← hy, ← eq', ← hn]
          omega
        have niq : ¬ i = q := by omega
        have nqi : ¬ q = i := by omega
        clear hch h1 h2 hy by' hn bn hb hr eq'
        go_wp2_with fail
        go_region_with (fail)
        all_goals go_wp2
        all_goals
          go_roundw
          case rel =>
            obtain ⟨k0, k1, k2⟩ := H.out
            have hh := (k1.set i (.int .u64 y1)).set i (.int .u64 r)
            rw [arr_set, arr_set, show upd (upd (mixD i (dg B64 (x / 2)) (dg B64 x)) i y1) i r = upd (mixD i (dg B64 (x / 2)) (dg B64 x)) i r by funext j; unfold upd; split <;> rfl, mixD_upd] at hh
            have e : upd (dg B64 (x / 2)) i r = dg B64 (x / 2) := by
              funext j
              unfold upd
              by_cases hj : j = i
              · rw [if_pos hj, hj, HR.out]
              · rw [if_neg hj]
            rw [e] at hh
            refine ⟨i + 1, by go_num, by omega, ((k0.setCell (by dsimp only; omega) _).drew.setCell (by dsimp only; omega) _), hh.drew, ((k2.other (by dsimp only; omega) _).drew.other (by dsimp only; omega) _)⟩
          case measure => simp [intOf]; omega
      · have hi3 : i = 3 := by omega
        have hd3 : decide ((i : Int) < 3) = false := by simp; omega
        have HR : Hid (y1 = dg B64 (x / 2) i) := by
          show y1 = _
          rw [dg_half64, ← hy, hi3, dg_over4 HX.out]
          omega
        clear hch h1 h2 hy by' hi3
        go_wp2_with fail
        go_roundw
        case rel =>
          obtain ⟨k0, k1, k2⟩ := H.out
          have hh := (k1.set i (.int .u64 y1))
          rw [arr_set, mixD_upd] at hh
          have e : upd (dg B64 (x / 2)) i y1 = dg B64 (x / 2) := by
            funext j
            unfold upd
            by_cases hj : j = i
            · rw [if_pos hj, hj, HR.out]
            · rw [if_neg hj]
          rw [e] at hh
          exact ⟨i + 1, by go_num, by omega, k0.setCell (by dsimp only; omega) _, hh, k2.other (by dsimp only; omega) _⟩
        case measure => simp [intOf]; omega
    · have : i = 4 := by omega
      subst this
      have hx2 := h1
      rw [mixD_all] at hx2
      have hx3 : Ar wr w.heap.size ANS := by rw [HANS.out]; exact hx2
      obtain ⟨t1, g1⟩ := hx3
      obtain ⟨t3, g3⟩ := h2
      have hsz := szN (x / 2)
      have hlen := lenN 0 (x / 2)
      have hone := num_one (x / 2)
      rw [← HANS.out] at hsz hlen hone
      clear hch h1 hx2
      go_wp2_with (first | refine wpList_load_row rfl 25 _ rfl _ rfl _ _ _ _ g1 Go.Proofs.Ytnahkcapbbjfdaa.u25 rfl hsz ?_ | refine wpList_store_row rfl 25 _ _ rfl _ _ rfl rfl _ _ g3 hsz hlen hone ?_)
      refine bp_c (n := 4) (c := ANS) Try.results59 rfl rfl ?_ Go.Proofs.Ytnahkcapbbjfdaa.u25 i25 (by rw [HANS.out]; exact num_size _) ⟨rfl, ?_⟩
      · exact H.out.2.2.row _
      · exact H.out.1.setRow (by omega) _
end Go.Proofs.Ytnahkcapbbjfdaa

namespace Go.Proofs.Ytnahkcapbbjfdaa
open Go.RowKit
set_option linter.unusedVariables false

structure RR (w wr : World) (b6 b7 b8 : Nat) (A M R S : Array Value) : Prop where
  chg : Chg w wr
  r1 : Ar wr w.heap.size A
  r2 : Ar wr (w.heap.size + 1) (num 0)
  r6 : Ar wr b6 M
  r7 : Ar wr b7 R
  r8 : Ar wr b8 S
  l6 : w.heap.size + 1 < b6
  l7 : b6 < b7
  l8 : b7 < b8
theorem RR.to {w wr u : World} {b6 b7 b8 : Nat} {A M R S : Array Value} (h : RR w wr b6 b7 b8 A M R S) (k : Chg wr u) : RR w u b6 b7 b8 A M R S := ⟨h.chg.trans k, h.r1.chg k, h.r2.chg k, h.r6.chg k, h.r7.chg k, h.r8.chg k, h.l6, h.l7, h.l8⟩
theorem RR.put7 {w wr : World} {b6 b7 b8 : Nat} {A M R S : Array Value} (h : RR w wr b6 b7 b8 A M R S) (Q : Array Value) : RR w (wr.setRow b7 Q) b6 b7 b8 A M Q S := by
  obtain ⟨q0, q1, q2, q3, q4, q5, l6, l7, l8⟩ := h
  exact ⟨q0.setRow (by omega) _, q1.rowOther (by omega) _, q2.rowOther (by omega) _, q3.rowOther (by omega) _, q4.row _, q5.rowOther (by omega) _, l6, l7, l8⟩
theorem RR.new {w wr : World} {b6 b7 b8 : Nat} {A M R S : Array Value} (h : RR w wr b6 b7 b8 A M R S) (X Y : Array Value) (t : TypeId) : RR w ((wr.alloc (.cells X t)).setRow wr.heap.size Y) b6 b7 b8 A M R S ∧ Ar ((wr.alloc (.cells X t)).setRow wr.heap.size Y) wr.heap.size Y := by
  have k : Chg wr ((wr.alloc (.cells X t)).setRow wr.heap.size Y) := ((Chg.refl wr).alloc _).setRow (Nat.le_refl _) _
  exact ⟨h.to k, (Ar.new wr _ _).row _⟩
theorem low_bit (m : Int) : bits .and .u64 (dg B64 m 0) 1 = dg 2 m 0 := by
  rw [low1 (dg_w m 0)]
  have := dg_bit m 0 0 (by decide)
  rw [Int.pow_zero, Int.ediv_one] at this
  exact this
theorem half_e256 : (mo 2 + 1) % R256 / 2 / 2 = e256 := by decide +kernel
theorem half_e255 : (mo 1 + 3) % R256 / 2 / 2 / 2 = e255 := by decide +kernel
theorem num_set3 : (num 0).setIfInBounds 0 (.int .u64 3) = num 3 := by kernel_rfl
theorem N3 : N256 3 := ⟨by decide, by decide⟩
theorem N_half {x : Int} (h : N256 x) : N256 (x / 2) := by
  obtain ⟨h0, h1⟩ := h
  exact ⟨by omega, by omega⟩
theorem cast_pow2 (n p q : Nat) (h : q = 2 ^ n % p) : (2 : Int) ^ n % (p : Int) = (q : Int) := by
  rw [h]
  push_cast
  rfl
theorem i255_pow : md 1 (2 ^ ((mo 1 - 1) % R256 / 2 / 2).toNat) = i255 := by
  rw [md_in (.inl rfl)]
  have e1 : ((mo 1 - 1) % R256 / 2 / 2).toNat = (m25519 - 1) / 4 := by decide +kernel
  have e2 : mo 1 = ((m25519 : Nat) : Int) := by decide +kernel
  have e3 : i255 = ((i25519 : Nat) : Int) := by decide +kernel
  rw [e1, e2, e3]
  exact cast_pow2 _ _ _ i25519_pow

set_option maxRecDepth 100000 in
set_option maxHeartbeats 16000000 in
theorem rootR2_any (a : Int) (ha : N256 a) (w : World) : Calls Try.prog 28 #[.int .i64 2, .agg (num a)] w fun r w' => r = .returned (.tuple #[.agg (num (rootN 2 a (a ^ e256.toNat % mo 2))), .bool (decide ((a ^ e256.toNat % mo 2) * (a ^ e256.toNat % mo 2) % mo 2 = a % mo 2))]) ∧ Chg w w' := by
  have hmN : N256 (a ^ e256.toNat % mo 2) := N_mod (.inr (.inl rfl)) _
  obtain ⟨m, hm⟩ : ∃ m, m = a ^ e256.toNat % mo 2 := ⟨_, rfl⟩
  rw [← hm] at hmN ⊢
  have hz := zero25.1
  have hsA := num_size a
  obtain ⟨rr, hrr⟩ : ∃ rr, rr = m * m % mo 2 := ⟨_, rfl⟩
  obtain ⟨aa, haa⟩ : ∃ aa, aa = a % mo 2 := ⟨_, rfl⟩
  have HM : Hid (rootN 2 a m = if rr = aa then (if dg 2 m 0 = 1 then (0 - m) % mo 2 else m) else 0) := by
    show rootN 2 a m = _
    rw [hrr, haa]
    rfl
  have hrN : N256 rr := by rw [hrr]; exact N_mod (.inr (.inl rfl)) _
  have haN : N256 aa := by rw [haa]; exact N_mod (.inr (.inl rfl)) _
  obtain ⟨A, hA⟩ : ∃ A, A = num a := ⟨_, rfl⟩
  obtain ⟨M, hMo⟩ : ∃ A, A = num (mo 2) := ⟨_, rfl⟩
  obtain ⟨S, hS⟩ : ∃ A, A = num aa := ⟨_, rfl⟩
  obtain ⟨RM, hR⟩ : ∃ A, A = num m := ⟨_, rfl⟩
  obtain ⟨QQ, hQ⟩ : ∃ A, A = num rr := ⟨_, rfl⟩
  obtain ⟨X, hX⟩ : ∃ A, A = num ((0 - m) % mo 2) := ⟨_, rfl⟩
  obtain ⟨bb, hbb⟩ : ∃ b, decide (rr = aa) = b := ⟨_, rfl⟩
  have HB : Hid (decide (rr = aa) = bb) := hbb
  have HR : Hid (RM = num m) := hR
  have HX : Hid (X = num ((0 - m) % mo 2)) := hX
  have HEQ : Hid (∀ u, (Op.equalIn 10000 25 (.agg QQ) (.agg S)).run Try.prog u = .ok bb u) := fun u => by rw [hQ, hS, run_eqNum hrN haN, hbb]
  have HT : Hid ((∀ W, Calls Try.prog 15 #[.int .i64 2, .agg RM, .agg RM] W fun r w' => r = .returned (.agg QQ) ∧ Chg W w') ∧ (∀ W, Calls Try.prog 17 #[.int .i64 2, .agg RM] W fun r w' => r = .returned (.agg X) ∧ Chg W w')) := by
    rw [hR, hQ, hX, hrr, ← md_in (.inr (.inl rfl)), ← md_in (.inr (.inl rfl))]
    exact ⟨fun W => mulR_any 2 m m hmN hmN W, fun W => negR_any 2 m hmN W⟩
  have HMu : Hid (∀ W, Calls Try.prog 15 #[.int .i64 2, .agg A, .agg (num 1)] W fun r w' => r = .returned (.agg S) ∧ Chg W w') := fun W => by
    have h := mulR_any 2 a 1 ha N1 W
    rw [Int.mul_one, md_in (.inr (.inl rfl)), ← haa] at h
    rw [hA, hS]
    exact h
  have HMo : Hid (∀ W, Calls Try.prog 19 #[.int .i64 2] W fun r w' => r = .returned (.agg M) ∧ Chg W w') := fun W => by rw [hMo]; exact modulusR_any 2 W
  have HSQ : Hid ((Try.prog.info? 25).map (·.size) = some QQ.size ∧ (num 0).size = QQ.size ∧ QQ.all (·.oneCell') = true ∧ (Try.prog.info? 25).map (·.size) = some QQ.toList.length) := by rw [hQ]; exact ⟨szN _, lenN _ _, num_one _, infoN _⟩
  have HSX : Hid ((Try.prog.info? 25).map (·.size) = some X.size ∧ RM.size = X.size ∧ (num 0).size = X.size ∧ X.all (·.oneCell') = true ∧ (Try.prog.info? 25).map (·.size) = some X.toList.length) := by rw [hX, hR]; exact ⟨szN _, lenN _ _, lenN _ _, num_one _, infoN _⟩
  have HSR : Hid ((Try.prog.info? 25).map (·.size) = some RM.size ∧ (num 0).size = RM.size ∧ RM.all (·.oneCell') = true) := by rw [hR]; exact ⟨szN _, lenN _ _, num_one _⟩
  have HSM : Hid (((Try.prog.info? 25).map (·.size) = some M.size ∧ (num 0).size = M.size ∧ M.all (·.oneCell') = true) ∧ (Try.prog.info? 25).map (·.size) = some S.size ∧ (num 0).size = S.size ∧ S.all (·.oneCell') = true) := by rw [hMo, hS]; exact ⟨⟨szN _, lenN _ _, num_one _⟩, szN _, lenN _ _, num_one _⟩
  have HI : Hid ((Try.prog.info? 25).map (·.size) = some A.toList.length ∧ (Try.prog.info? 25).map (·.size) = some RM.toList.length ∧ (Try.prog.info? 25).map (·.size) = some S.toList.length ∧ (Try.prog.info? 25).map (·.size) = some M.toList.length) := by rw [hA, hR, hS, hMo]; exact ⟨infoN _, infoN _, infoN _, infoN _⟩
  obtain ⟨PP, hP⟩ : ∃ A, A = num ((mo 2 + 1) % R256) := ⟨_, rfl⟩
  obtain ⟨H1, hH1⟩ : ∃ A, A = num ((mo 2 + 1) % R256 / 2) := ⟨_, rfl⟩
  obtain ⟨H2, hH2⟩ : ∃ A, A = num ((mo 2 + 1) % R256 / 2 / 2) := ⟨_, rfl⟩
  obtain ⟨oo, hoo⟩ : ∃ o, o = (mo 2 + 1) / R256 := ⟨_, rfl⟩
  have HPl : Hid (∀ W, Calls Try.prog 43 #[.agg M, .agg (num 1)] W fun r w' => r = .returned (.tuple #[.agg PP, .int .u64 oo]) ∧ Chg W w') := fun W => by rw [hMo, hP, hoo]; exact plusR_any _ _ (mo_N 2) N1 W
  have HH : Hid ((∀ W, Calls Try.prog 59 #[.agg PP] W fun r w' => r = .returned (.agg H1) ∧ Chg W w') ∧ (∀ W, Calls Try.prog 59 #[.agg H1] W fun r w' => r = .returned (.agg H2) ∧ Chg W w')) := by
    rw [hP, hH1, hH2]
    exact ⟨fun W => halfR_any _ (N_modR _) W, fun W => halfR_any _ (N_half (N_modR _)) W⟩
  have HEx : Hid (∀ W, Calls Try.prog 23 #[.int .i64 2, .agg A, .agg H2] W fun r w' => r = .returned (.agg RM) ∧ Chg W w') := fun W => by
    rw [hA, hH2, hR, half_e256, hm, ← md_in (.inr (.inl rfl))]
    exact expR_any 2 a e256 ha N_e256 W
  have HSP : Hid ((Try.prog.info? 25).map (·.size) = some PP.size ∧ (num 0).size = PP.size ∧ PP.all (·.oneCell') = true ∧ (Try.prog.info? 25).map (·.size) = some PP.toList.length) := by rw [hP]; exact ⟨szN _, lenN _ _, num_one _, infoN _⟩
  have HSRX : Hid ((Try.prog.info? 25).map (·.size) = some RM.size ∧ RM.all (·.oneCell') = true) := by rw [hR]; exact ⟨szN _, num_one _⟩
  clear hP hH1 hH2 hoo hm
  rw [← hA] at hsA ⊢
  rw [← hrr, ← haa]
  clear hA hMo hS hR hQ hX hbb hrN haN hrr haa ha hmN
  go_enter Try.func28, Try.ntmps28
  go_upto_region 1 with fail
  obtain ⟨w1, hw1⟩ : ∃ w1, w1 = (w.alloc (.cells A 25)).alloc (.cells (num 0) 25) := ⟨_, rfl⟩
  have Z1 : Hid (Chg w w1 ∧ Ar w1 w.heap.size A ∧ Ar w1 (w.heap.size + 1) (num 0)) := by
    rw [hw1]
    exact ⟨((Chg.refl w).alloc _).alloc _, (Ar.new w _ _).alloc _, Ar.new1 w _ _ _⟩
  rw [← hw1]
  clear hw1 hsA
  go_wp2_with fail
  go_at_call 19
  refine (HMo.out _).mono ?_
  rintro r' w2 ⟨rfl, hc2⟩
  have Z2 : Hid (Chg w w2 ∧ Ar w2 w.heap.size A ∧ Ar w2 (w.heap.size + 1) (num 0)) := ⟨Z1.out.1.trans hc2, Z1.out.2.1.chg hc2, Z1.out.2.2.chg hc2⟩
  clear hc2 Z1
  obtain ⟨⟨sM, lM, oM⟩, sS, lS, oS⟩ := HSM.out
  go_upto_region 2 with (first | refine wpList_store_row rfl 25 _ _ rfl _ _ rfl rfl _ _ (heap_alloc_last w2 _) sM lM oM ?_)
  obtain ⟨b6, hb6⟩ : ∃ b, b = w2.heap.size := ⟨_, rfl⟩
  obtain ⟨w3, hw3⟩ : ∃ w4, w4 = (w2.alloc (.cells (num 0) 25)).setRow w2.heap.size M := ⟨_, rfl⟩
  have Z3 : Hid (Chg w w3 ∧ Ar w3 w.heap.size A ∧ Ar w3 (w.heap.size + 1) (num 0) ∧ Ar w3 b6 M ∧ w.heap.size + 1 < b6) := by
    have hl := Z2.out.2.2.lt
    have k : Chg w2 ((w2.alloc (.cells (num 0) 25)).setRow w2.heap.size M) := ((Chg.refl w2).alloc _).setRow (Nat.le_refl _) _
    rw [hw3, hb6]
    exact ⟨Z2.out.1.trans k, Z2.out.2.1.chg k, Z2.out.2.2.chg k, (Ar.new w2 _ _).row _, hl⟩
  rw [← hw3, ← hb6]
  clear hw3 hb6 Z2 sM lM oM
  go_upto_region 3 with (first | refine wpList_store_row rfl 25 _ _ rfl _ _ rfl rfl _ _ (heap_alloc_last w3 _) (szN 0) rfl (num_one 0) ?_)
  obtain ⟨b7, hb7⟩ : ∃ b, b = w3.heap.size := ⟨_, rfl⟩
  obtain ⟨w4, hw4⟩ : ∃ w4, w4 = (w3.alloc (.cells (num 0) 25)).setRow w3.heap.size (num 0) := ⟨_, rfl⟩
  have Z4 : Hid (Chg w w4 ∧ Ar w4 w.heap.size A ∧ Ar w4 (w.heap.size + 1) (num 0) ∧ Ar w4 b6 M ∧ Ar w4 b7 (num 0) ∧ w.heap.size + 1 < b6 ∧ b6 < b7) := by
    have hl := Z3.out.2.2.2.1.lt
    have k : Chg w3 ((w3.alloc (.cells (num 0) 25)).setRow w3.heap.size (num 0)) := ((Chg.refl w3).alloc _).setRow (Nat.le_refl _) _
    rw [hw4, hb7]
    exact ⟨Z3.out.1.trans k, Z3.out.2.1.chg k, Z3.out.2.2.1.chg k, Z3.out.2.2.2.1.chg k, (Ar.new w3 _ _).row _, Z3.out.2.2.2.2, hl⟩
  rw [← hw4, ← hb7]
  clear hw4 hb7 Z3
  obtain ⟨iA, iR, iS, iM⟩ := HI.out
  have r3 := rangeA Z4.out.2.1
  go_wp2_with (first
    | refine wpList_load_mid rfl 25 (.tmp 3) rfl _ _ rfl (A.toList) _ r3 Go.Proofs.Ytnahkcapbbjfdaa.u25 rfl iA ?_)
  rw [num_set1]
  go_at_call 15
  refine (HMu.out _).mono ?_
  rintro r' w5 ⟨rfl, hc5⟩
  have Z5 : Hid (Chg w w5 ∧ Ar w5 w.heap.size A ∧ Ar w5 (w.heap.size + 1) (num 0) ∧ Ar w5 b6 M ∧ Ar w5 b7 (num 0) ∧ w.heap.size + 1 < b6 ∧ b6 < b7) := ⟨Z4.out.1.trans hc5, Z4.out.2.1.chg hc5, Z4.out.2.2.1.chg hc5, Z4.out.2.2.2.1.chg hc5, Z4.out.2.2.2.2.1.chg hc5, Z4.out.2.2.2.2.2⟩
  clear hc5 Z4 r3
  go_upto_region 4 with (first | refine wpList_store_row rfl 25 _ _ rfl _ _ rfl rfl _ _ (heap_alloc_last w5 _) sS lS oS ?_)
  obtain ⟨b8, hb8⟩ : ∃ b, b = w5.heap.size := ⟨_, rfl⟩
  obtain ⟨w6, hw6⟩ : ∃ w4, w4 = (w5.alloc (.cells (num 0) 25)).setRow w5.heap.size S := ⟨_, rfl⟩
  have Z6 : Hid (RR w w6 b6 b7 b8 A M (num 0) S) := by
    have hl := Z5.out.2.2.2.2.1.lt
    have k : Chg w5 ((w5.alloc (.cells (num 0) 25)).setRow w5.heap.size S) := ((Chg.refl w5).alloc _).setRow (Nat.le_refl _) _
    obtain ⟨q0, q1, q2, q3, q4, l6, l7⟩ := Z5.out
    rw [hw6, hb8]
    exact ⟨q0.trans k, q1.chg k, q2.chg k, q3.chg k, q4.chg k, (Ar.new w5 _ _).row _, l6, l7, hl⟩
  rw [← hw6, ← hb8]
  clear hw6 hb8 Z5 sS lS oS
  have r6 := rangeA Z6.out.r6
  go_wp2_with (first
    | refine wpList_load_mid rfl 25 (.tmp 6) rfl _ _ rfl (M.toList) _ r6 Go.Proofs.Ytnahkcapbbjfdaa.u25 rfl iM ?_)
  rw [num_set1]
  go_at_call 43
  refine (HPl.out _).mono ?_
  rintro r' w7 ⟨rfl, hc7⟩
  have Z7 : Hid (RR w w7 b6 b7 b8 A M (num 0) S) := Z6.out.to hc7
  clear hc7 Z6 r6
  obtain ⟨sP, lP, oP, iP⟩ := HSP.out
  go_upto_region 8 with (first | refine wpList_store_row rfl 25 _ _ rfl _ _ rfl rfl _ _ (heap_alloc_last w7 _) sP lP oP ?_)
  obtain ⟨b9, hb9⟩ : ∃ b, b = w7.heap.size := ⟨_, rfl⟩
  obtain ⟨w8, hw8⟩ : ∃ w4, w4 = (w7.alloc (.cells (num 0) 25)).setRow w7.heap.size PP := ⟨_, rfl⟩
  have Z8 : Hid (RR w w8 b6 b7 b8 A M (num 0) S ∧ Ar w8 b9 PP) := by
    rw [hw8, hb9]
    exact Z7.out.new _ _ _
  rw [← hw8, ← hb9]
  clear hw8 hb9 Z7 sP lP oP
  try dsimp only [Act.put]
  refine wp_region_good 6 (fun j v wg => match j with
    | 0 => v = .int .i64 2
    | 1 => v = .agg A
    | 2 => v = .agg PP
    | 3 => v = .agg H1
    | 4 => v = .agg H2
    | 5 => v = .agg RM
    | _ => True) (by kernel_rfl) (by kernel_rfl) (by kernel_rfl) (by kernel_rfl) (by kernel_rfl) ?_ ?_ ?_
  · intro j v u1 u2 h hc
    match j, h with
    | 0, h => exact h
    | 1, h => exact h
    | 2, h => exact h
    | 3, h => exact h
    | 4, h => exact h
    | 5, h => exact h
    | _ + 6, h => exact trivial
  · intro i o ac u hi ho hsz hf hg hc
    have hcs : i = 0 ∨ i = 1 ∨ i = 2 ∨ i = 3 ∨ i = 4 ∨ i = 5 := by omega
    rcases hcs with rfl | rfl | rfl | rfl | rfl | rfl
    · injection ho with ho
      subst ho
      refine .inl ⟨wanted_none rfl, ?_⟩
      have e1 : ac.eval (.tmp 0) = .int .i64 2 := hf 0 (by kernel_rfl)
      exact opG_val (by simp [execOp, e1]) rfl (Chg.refl _)
    · injection ho with ho
      subst ho
      refine .inl ⟨wanted_none rfl, ?_⟩
      have e1 : ac.eval (.tmp 3) = .pointer (some ⟨w.heap.size, 0, none⟩) := hf 3 (by kernel_rfl)
      exact wp_load_mid 25 (.tmp 3) rfl _ _ e1 (A.toList) _ (rangeA (Ar.chg (w := w8.drew) Z8.out.1.r1 hc)) Go.Proofs.Ytnahkcapbbjfdaa.u25 rfl (iA) ⟨_, rfl, rfl, Chg.refl _⟩
    · injection ho with ho
      subst ho
      refine .inl ⟨wanted_none rfl, ?_⟩
      have e1 : ac.eval (.tmp 9) = .pointer (some ⟨b9, 0, none⟩) := hf 9 (by kernel_rfl)
      exact wp_load_mid 25 (.tmp 9) rfl _ _ e1 (PP.toList) _ (rangeA (Ar.chg (w := w8.drew) Z8.out.2 hc)) Go.Proofs.Ytnahkcapbbjfdaa.u25 rfl (iP) ⟨_, rfl, rfl, Chg.refl _⟩
    · injection ho with ho
      subst ho
      refine .inl ⟨wanted_none rfl, ?_⟩
      have e1 : ac.eval (.tmp 35) = .agg PP := hg 2 (by kernel_rfl) (by decide)
      refine opG_go 59 Try.f59 #[.tmp 35] #[25] rfl Try.func59 (by kernel_rfl) (by kernel_rfl) (by simp [e1]) (Calls.mono (HH.out.1 _) ?_)
      rintro e u2 ⟨rfl, hc2⟩
      exact ⟨_, rfl, rfl, hc2⟩
    · injection ho with ho
      subst ho
      refine .inl ⟨wanted_none rfl, ?_⟩
      have e1 : ac.eval (.tmp 36) = .agg H1 := hg 3 (by kernel_rfl) (by decide)
      refine opG_go 59 Try.f59 #[.tmp 36] #[25] rfl Try.func59 (by kernel_rfl) (by kernel_rfl) (by simp [e1]) (Calls.mono (HH.out.2 _) ?_)
      rintro e u2 ⟨rfl, hc2⟩
      exact ⟨_, rfl, rfl, hc2⟩
    · injection ho with ho
      subst ho
      refine .inl ⟨wanted_none rfl, ?_⟩
      have e1 : ac.eval (.tmp 33) = .int .i64 2 := hg 0 (by kernel_rfl) (by decide)
      have e2 : ac.eval (.tmp 34) = .agg A := hg 1 (by kernel_rfl) (by decide)
      have e3 : ac.eval (.tmp 37) = .agg H2 := hg 4 (by kernel_rfl) (by decide)
      refine opG_go 23 Try.f23 #[.tmp 33, .tmp 34, .tmp 37] #[22, 25, 25] rfl Try.func23 (by kernel_rfl) (by kernel_rfl) (by simp [e1, e2, e3]) (Calls.mono (HEx.out _) ?_)
      rintro e u2 ⟨rfl, hc2⟩
      exact ⟨_, rfl, rfl, hc2⟩
  · intro o u V ho hV hc
    injection ho with ho
    subst ho
    refine ⟨rfl, ?_⟩
    have q33 : V 0 = .int .i64 2 := hV 0 (by decide)
    have q34 : V 1 = .agg A := hV 1 (by decide)
    have q35 : V 2 = .agg PP := hV 2 (by decide)
    have q36 : V 3 = .agg H1 := hV 3 (by decide)
    have q37 : V 4 = .agg H2 := hV 4 (by decide)
    have q38 : V 5 = .agg RM := hV 5 (by decide)
    have hres := Ar.chg (w := w8.drew) Z8.out.1.r7 hc
    refine wp_store_mid 25 (.tmp 7) (.tmp 38) rfl b7 0 RM (by rfl) (Eq.trans (by rfl) q38) (by rw [HR.out, num_size]; exact thereN hres) HSRX.out.1 HSRX.out.2 ?_
    rw [show u.setCells b7 0 RM.toList = u.setRow b7 RM by rw [HR.out]; exact setRowN hres _]
    obtain ⟨w9, hw9⟩ : ∃ w7, w7 = u.setRow b7 RM := ⟨_, rfl⟩
    have Z9 : Hid (RR w w9 b6 b7 b8 A M RM S) := by
      rw [hw9]
      exact (Z8.out.1.to ((Chg.refl w8).drew.trans hc)).put7 RM
    rw [← hw9]
    clear hw9 hres Z8 iP hc
    change Exit.inBlock 0 _ Exit.normal (Act.mk #[.int .i64 2, .agg A, undef, .pointer (some ⟨w.heap.size, 0, none⟩), .pointer (some ⟨w.heap.size + 1, 0, none⟩), .bool false, .pointer (some ⟨b6, 0, none⟩), .pointer (some ⟨b7, 0, none⟩), .pointer (some ⟨b8, 0, none⟩), .pointer (some ⟨b9, 0, none⟩), .int .u64 oo, undef, undef, undef, undef, undef, .int .i64 2, .agg M, .agg (num 0), .int .i64 2, .agg A, .agg (num 1), .agg S, .int .i64 2, undef, .bool true, .bool true, .tuple #[.agg PP, .int .u64 oo], .agg M, .agg (num 1), .tuple #[.agg PP, .int .u64 oo], .agg PP, .int .u64 oo, V 0, V 1, V 2, V 3, V 4, V 5, undef, undef, undef, undef, undef, undef, undef, undef, undef, undef, undef, undef, undef, undef, undef, undef, undef, undef, undef, undef, undef, undef, undef, undef, undef, undef, undef, undef, undef, undef, undef, undef, undef, undef, undef, undef, undef, undef, undef, undef, undef, undef, undef, undef, undef, undef, undef, undef, undef, undef] []) w9
    dsimp only
    clear q33 q34 q35 q36 q37 q38 hV
    generalize V 0 = y0
    generalize V 1 = y1
    generalize V 2 = y2
    generalize V 3 = y3
    generalize V 4 = y4
    generalize V 5 = y5
    clear V
    have r7 := rangeA Z9.out.r7
    obtain ⟨iA, iR, iS, iM⟩ := HI.out
    go_wp2_with (first
      | refine wpList_load_mid rfl 25 (.tmp 7) rfl _ _ rfl (RM.toList) _ r7 Go.Proofs.Ytnahkcapbbjfdaa.u25 rfl iR ?_)
    go_at_call 15
    refine (HT.out.1 _).mono ?_
    rintro r' w20 ⟨rfl, hc20⟩
    have Z20 : Hid (RR w w20 b6 b7 b8 A M RM S) := Z9.out.to hc20
    clear hc20 r7
    obtain ⟨sQ, lQ, oQ, iQ⟩ := HSQ.out
    go_upto_region 17 with (first | refine wpList_store_row rfl 25 _ _ rfl _ _ rfl rfl _ _ (heap_alloc_last w20 _) sQ lQ oQ ?_)
    obtain ⟨b15, hb15⟩ : ∃ b, b = w20.heap.size := ⟨_, rfl⟩
    obtain ⟨w21, hw21⟩ : ∃ w4, w4 = (w20.alloc (.cells (num 0) 25)).setRow w20.heap.size QQ := ⟨_, rfl⟩
    have Z21 : Hid (RR w w21 b6 b7 b8 A M RM S ∧ Ar w21 b15 QQ) := by
      rw [hw21, hb15]
      exact Z20.out.new _ _ _
    rw [← hw21, ← hb15]
    clear hw21 hb15 Z20 sQ lQ oQ
    have r15 := rangeA Z21.out.2
    have r8 := rangeA Z21.out.1.r8
    have hq := HEQ.out
    clear Z9
    cases bb with
    | false =>
      obtain ⟨t4, g4⟩ := Z21.out.1.r2
      go_wp2_with (first
        | refine wpList_load_mid rfl 25 (.tmp 15) rfl _ _ rfl (QQ.toList) _ r15 Go.Proofs.Ytnahkcapbbjfdaa.u25 rfl iQ ?_
        | refine wpList_load_mid rfl 25 (.tmp 8) rfl _ _ rfl (S.toList) _ r8 Go.Proofs.Ytnahkcapbbjfdaa.u25 rfl iS ?_
        | refine wpList_store_row rfl 25 _ _ rfl _ _ rfl rfl _ _ g4 (szN 0) rfl (num_one 0) ?_)
      have e : rootN 2 a m = 0 := by rw [HM.out, if_neg (of_decide_eq_false HB.out)]
      refine bp_ct (n := 4) (c := num 0) (x := .bool false) Try.results28 rfl rfl rfl (Z21.out.1.r2.row _) Go.Proofs.Ytnahkcapbbjfdaa.u25 i25 (num_size 0) ⟨by rw [HB.out, e], Z21.out.1.chg.setRow (by omega) _⟩
    | true =>
      have c7 : w21.cell? ⟨b7, 0, none⟩ = some (.int .u64 (dg B64 m 0)) := by
        have h := Z21.out.1.r7
        rw [HR.out] at h
        exact (h.cell 0).trans (arr_get _ _ _ (by decide))
      have em := low_bit m
      obtain ⟨d, hd⟩ : ∃ d, d = dg B64 m 0 := ⟨_, rfl⟩
      obtain ⟨y, hy⟩ : ∃ y, y = dg 2 m 0 := ⟨_, rfl⟩
      rw [← hd] at c7 em
      rw [← hy] at em
      have HY : Hid (dg 2 m 0 = y) := hy.symm
      clear hd hy
      by_cases hy1 : y = 1
      · have hyb : (y == 1) = true := by simp [hy1]
        have HY1 : Hid (y = 1) := hy1
        clear hy1
        have r7 := rangeA Z21.out.1.r7
        go_wp2_with (first
          | refine wpList_load_mid rfl 25 (.tmp 15) rfl _ _ rfl (QQ.toList) _ r15 Go.Proofs.Ytnahkcapbbjfdaa.u25 rfl iQ ?_
          | refine wpList_load_mid rfl 25 (.tmp 8) rfl _ _ rfl (S.toList) _ r8 Go.Proofs.Ytnahkcapbbjfdaa.u25 rfl iS ?_
          | refine wpList_load_mid rfl 25 (.tmp 7) rfl _ _ rfl (RM.toList) _ r7 Go.Proofs.Ytnahkcapbbjfdaa.u25 rfl iR ?_)
        go_at_call 17
        refine (HT.out.2 _).mono ?_
        rintro r' w22 ⟨rfl, hc22⟩
        have Z22 : Hid (RR w w22 b6 b7 b8 A M RM S) := Z21.out.1.to hc22
        clear hc22 r7 r15 r8 c7 Z21 hq
        obtain ⟨sX, lX, lX0, oX, iX⟩ := HSX.out
        obtain ⟨t7, g7⟩ := Z22.out.r7
        go_upto_region 21 with (first | refine wpList_store_row rfl 25 _ _ rfl _ _ rfl rfl _ _ g7 sX lX oX ?_)
        obtain ⟨w23, hw23⟩ : ∃ w4, w4 = w22.setRow b7 X := ⟨_, rfl⟩
        have Z23 : Hid (RR w w23 b6 b7 b8 A M X S) := by rw [hw23]; exact Z22.out.put7 X
        rw [← hw23]
        clear hw23 Z22 g7
        have r7 := rangeA Z23.out.r7
        obtain ⟨t4, g4⟩ := Z23.out.r2
        go_wp2_with (first
          | refine wpList_load_mid rfl 25 (.tmp 7) rfl _ _ rfl (X.toList) _ r7 Go.Proofs.Ytnahkcapbbjfdaa.u25 rfl iX ?_
          | refine wpList_store_row rfl 25 _ _ rfl _ _ rfl rfl _ _ g4 sX lX0 oX ?_)
        have e : X = num (rootN 2 a m) := by rw [HM.out, if_pos (of_decide_eq_true HB.out), HY.out, if_pos HY1.out]; exact HX.out
        refine bp_ct (n := 4) (c := X) (x := .bool true) Try.results28 rfl rfl rfl (Z23.out.r2.row _) Go.Proofs.Ytnahkcapbbjfdaa.u25 i25 (by rw [e]; exact num_size _) ⟨by rw [HB.out, ← e], Z23.out.chg.setRow (by omega) _⟩
      · have hyb : (y == 1) = false := by simp [hy1]
        have HY1 : Hid (¬ y = 1) := hy1
        clear hy1
        have r7 := rangeA Z21.out.1.r7
        obtain ⟨t4, g4⟩ := Z21.out.1.r2
        obtain ⟨sR, lR, oR⟩ := HSR.out
        go_wp2_with (first
          | refine wpList_load_mid rfl 25 (.tmp 15) rfl _ _ rfl (QQ.toList) _ r15 Go.Proofs.Ytnahkcapbbjfdaa.u25 rfl iQ ?_
          | refine wpList_load_mid rfl 25 (.tmp 8) rfl _ _ rfl (S.toList) _ r8 Go.Proofs.Ytnahkcapbbjfdaa.u25 rfl iS ?_
          | refine wpList_load_mid rfl 25 (.tmp 7) rfl _ _ rfl (RM.toList) _ r7 Go.Proofs.Ytnahkcapbbjfdaa.u25 rfl iR ?_
          | refine wpList_store_row rfl 25 _ _ rfl _ _ rfl rfl _ _ g4 sR lR oR ?_)
        have e : RM = num (rootN 2 a m) := by rw [HM.out, if_pos (of_decide_eq_true HB.out), HY.out, if_neg HY1.out]; exact HR.out
        refine bp_ct (n := 4) (c := RM) (x := .bool true) Try.results28 rfl rfl rfl (Z21.out.1.r2.row _) Go.Proofs.Ytnahkcapbbjfdaa.u25 i25 (by rw [e]; exact num_size _) ⟨by rw [HB.out, ← e], Z21.out.1.chg.setRow (by omega) _⟩
end Go.Proofs.Ytnahkcapbbjfdaa

namespace Go.Proofs.Ytnahkcapbbjfdaa
open Go.RowKit
set_option linter.unusedVariables false

/-- The even root, or 0; whether there is one. -/
def rtN (f a : Int) : Int := if f = 1 then rootN 1 a (mr1 a) else if f = 2 then rootN 2 a (a ^ e256.toNat % mo 2) else 0
def rtB (f a : Int) : Bool := if f = 1 then decide (mr1 a * mr1 a % mo 1 = a % mo 1) else if f = 2 then decide ((a ^ e256.toNat % mo 2) * (a ^ e256.toNat % mo 2) % mo 2 = a % mo 2) else false
theorem rootN_N {f a m : Int} (hf : f = 1 ∨ f = 2 ∨ f = 3 ∨ f = 4) (hm : N256 m) : N256 (rootN f a m) := by
  unfold rootN
  split
  · split
    · exact N_mod hf _
    · exact hm
  · exact ⟨by decide, by decide⟩
theorem rtN_N (f a : Int) : N256 (rtN f a) := by
  unfold rtN
  split
  · exact rootN_N (.inl rfl) (mr1_N a)
  · split
    · exact rootN_N (.inr (.inl rfl)) (N_mod (.inr (.inl rfl)) _)
    · exact ⟨by decide, by decide⟩
theorem sq2_nat {p n : Nat} (hp : Pr p) (hn : 4 * n = p + 1) (a : Nat) : ((a * a % p) ^ n % p) * ((a * a % p) ^ n % p) % p = a * a % p := by
  rw [← Nat.mul_mod, Nat.mul_mod, ← Nat.pow_mod, ← Nat.mul_mod]
  exact hp.root3 hn
theorem sq1_nat {p n i : Nat} (hp : Pr p) (hn : 8 * n = p + 3) (hi : (i * i + 1) % p = 0) (a : Nat) (h : ¬ ((a * a % p) ^ n % p) * ((a * a % p) ^ n % p) % p = a * a % p) : ((a * a % p) ^ n % p * i % p) * ((a * a % p) ^ n % p * i % p) % p = a * a % p := by
  have e : (a * a % p) ^ n % p = (a * a) ^ n % p := (Nat.pow_mod _ _ _).symm
  rw [e] at h ⊢
  rw [← Nat.mul_mod] at h
  rcases hp.root5 (a := a) hn hi with k | k
  · exact absurd k h
  · have e2 : (a * a) ^ n % p * i % p = (a * a) ^ n * i % p := by rw [Nat.mul_mod, Nat.mod_mod, ← Nat.mul_mod]
    rw [e2, ← Nat.mul_mod]
    exact k
theorem sq2 {a : Int} (ha : 0 ≤ a) : ((a * a % mo 2) ^ e256.toNat % mo 2) * ((a * a % mo 2) ^ e256.toNat % mo 2) % mo 2 = a * a % mo 2 := by
  obtain ⟨p, e, hp, _⟩ := mo_nat (f := 2) (.inr (.inl rfl))
  obtain ⟨k, rfl⟩ := Int.eq_ofNat_of_zero_le ha
  have h4 : 4 * e256 = mo 2 + 1 := by decide +kernel
  have h0 : 0 ≤ e256 := by decide +kernel
  rw [e] at h4 ⊢
  have h := sq2_nat hp (n := e256.toNat) (by omega) k
  generalize e256.toNat = n at *
  exact_mod_cast h
theorem sq1 {a : Int} (ha : 0 ≤ a) : mr1 (a * a % mo 1) * mr1 (a * a % mo 1) % mo 1 = a * a % mo 1 := by
  obtain ⟨p, e, hp, _⟩ := mo_nat (f := 1) (.inl rfl)
  obtain ⟨k, rfl⟩ := Int.eq_ofNat_of_zero_le ha
  have h8 : 8 * e255 = mo 1 + 3 := by decide +kernel
  have h0 : 0 ≤ e255 := by decide +kernel
  have e2 : mo 1 = ((m25519 : Nat) : Int) := by decide +kernel
  have e3 : i255 = ((i25519 : Nat) : Int) := by decide +kernel
  have hpe : p = m25519 := by rw [e] at e2; exact_mod_cast e2
  have hi : (i25519 * i25519 + 1) % p = 0 := by rw [hpe]; exact i25519_sq
  unfold mr1
  rw [e] at h8 ⊢
  rw [e3]
  have h := fun x => sq1_nat hp (n := e255.toNat) (i := i25519) (by omega) hi k x
  clear e2 e3 hpe hi hp
  generalize e255.toNat = n at *
  generalize i25519 = i at *
  clear h8 e
  rw [Int.emod_emod_of_dvd _ (Int.dvd_refl (p : Int))]
  split
  · rename_i h1
    exact h1
  · rename_i h1
    have h2 := h (fun q => h1 (by exact_mod_cast q))
    exact_mod_cast h2
theorem root_good {f m s : Int} (hf : f = 1 ∨ f = 2) (hm : 0 ≤ m ∧ m < mo f) (hs : m * m % mo f = s % mo f) : rootN f s m * rootN f s m % mo f = s % mo f ∧ dg 2 (rootN f s m) 0 = 0 := by
  obtain ⟨p, e, hp, ho⟩ := mo_nat (f := f) (by omega)
  have d0 : ∀ x : Int, dg 2 x 0 = x % 2 := fun x => by unfold dg; rw [Int.pow_zero, Int.ediv_one]
  unfold rootN
  rw [if_pos hs]
  by_cases h1 : dg 2 m 0 = 1
  · rw [if_pos h1]
    refine ⟨?_, ?_⟩
    · rw [ml, mr, Int.zero_sub, Int.neg_mul_neg]
      exact hs
    · rw [d0] at h1 ⊢
      have e1 : (0 - m) % mo f = mo f - m := by
        have : (0 - m) % mo f = (mo f - m) % mo f := by rw [show mo f - m = 0 - m + mo f by omega, Int.add_emod_right]
        rw [this, Int.emod_eq_of_lt (by omega) (by omega)]
      rw [e1, e]
      rw [e] at hm
      omega
  · rw [if_neg h1]
    refine ⟨hs, ?_⟩
    rw [d0] at h1 ⊢
    omega
/-- A square has its root. -/
theorem rt_good {f a : Int} (hf : f = 1 ∨ f = 2) (ha : 0 ≤ a) : rtB f (a * a % mo f) = true ∧ rtN f (a * a % mo f) * rtN f (a * a % mo f) % mo f = a * a % mo f ∧ dg 2 (rtN f (a * a % mo f)) 0 = 0 := by
  have hp := (mo_pos4 (f := f) (by omega)).1
  have es : a * a % mo f % mo f = a * a % mo f := Int.emod_emod_of_dvd _ (Int.dvd_refl _)
  rcases hf with rfl | rfl
  · have h := sq1 ha
    unfold rtB rtN
    rw [if_pos rfl, if_pos rfl, es]
    refine ⟨decide_eq_true h, ?_⟩
    have g := root_good (f := 1) (m := mr1 (a * a % mo 1)) (s := a * a % mo 1) (.inl rfl) ?_ (by rw [es]; exact h)
    · rw [es] at g
      exact g
    · unfold mr1
      split
      · exact ⟨Int.emod_nonneg _ (by omega), Int.emod_lt_of_pos _ hp⟩
      · exact ⟨Int.emod_nonneg _ (by omega), Int.emod_lt_of_pos _ hp⟩
  · have h := sq2 ha
    unfold rtB rtN
    rw [if_neg (by decide : ¬ (2 : Int) = 1), if_pos rfl, if_neg (by decide : ¬ (2 : Int) = 1), if_pos rfl, es]
    refine ⟨decide_eq_true h, ?_⟩
    have g := root_good (f := 2) (m := (a * a % mo 2) ^ e256.toNat % mo 2) (s := a * a % mo 2) (.inr rfl) ⟨Int.emod_nonneg _ (by omega), Int.emod_lt_of_pos _ hp⟩ (by rw [es]; exact h)
    rw [es] at g
    exact g
end Go.Proofs.Ytnahkcapbbjfdaa

namespace Go.Proofs.Ytnahkcapbbjfdaa
open Go.RowKit
set_option linter.unusedVariables false

set_option maxRecDepth 100000 in
set_option maxHeartbeats 16000000 in
theorem rootR1_any (a : Int) (ha : N256 a) (w : World) : Calls Try.prog 28 #[.int .i64 1, .agg (num a)] w fun r w' => r = .returned (.tuple #[.agg (num (rootN 1 a (mr1 a))), .bool (decide ((mr1 a) * (mr1 a) % mo 1 = a % mo 1))]) ∧ Chg w w' := by
  have hmN : N256 (mr1 a) := mr1_N a
  obtain ⟨m, hm⟩ : ∃ m, m = mr1 a := ⟨_, rfl⟩
  rw [← hm] at hmN ⊢
  have hz := zero25.1
  have hsA := num_size a
  obtain ⟨rr, hrr⟩ : ∃ rr, rr = m * m % mo 1 := ⟨_, rfl⟩
  obtain ⟨aa, haa⟩ : ∃ aa, aa = a % mo 1 := ⟨_, rfl⟩
  have HM : Hid (rootN 1 a m = if rr = aa then (if dg 2 m 0 = 1 then (0 - m) % mo 1 else m) else 0) := by
    show rootN 1 a m = _
    rw [hrr, haa]
    rfl
  have hrN : N256 rr := by rw [hrr]; exact N_mod (.inl rfl) _
  have haN : N256 aa := by rw [haa]; exact N_mod (.inl rfl) _
  obtain ⟨A, hA⟩ : ∃ A, A = num a := ⟨_, rfl⟩
  obtain ⟨M, hMo⟩ : ∃ A, A = num (mo 1) := ⟨_, rfl⟩
  obtain ⟨S, hS⟩ : ∃ A, A = num aa := ⟨_, rfl⟩
  obtain ⟨RM, hR⟩ : ∃ A, A = num m := ⟨_, rfl⟩
  obtain ⟨QQ, hQ⟩ : ∃ A, A = num rr := ⟨_, rfl⟩
  obtain ⟨X, hX⟩ : ∃ A, A = num ((0 - m) % mo 1) := ⟨_, rfl⟩
  obtain ⟨bb, hbb⟩ : ∃ b, decide (rr = aa) = b := ⟨_, rfl⟩
  have HB : Hid (decide (rr = aa) = bb) := hbb
  have HR : Hid (RM = num m) := hR
  have HX : Hid (X = num ((0 - m) % mo 1)) := hX
  have HEQ : Hid (∀ u, (Op.equalIn 10000 25 (.agg QQ) (.agg S)).run Try.prog u = .ok bb u) := fun u => by rw [hQ, hS, run_eqNum hrN haN, hbb]
  have HT : Hid ((∀ W, Calls Try.prog 15 #[.int .i64 1, .agg RM, .agg RM] W fun r w' => r = .returned (.agg QQ) ∧ Chg W w') ∧ (∀ W, Calls Try.prog 17 #[.int .i64 1, .agg RM] W fun r w' => r = .returned (.agg X) ∧ Chg W w')) := by
    rw [hR, hQ, hX, hrr, ← md_in (.inl rfl), ← md_in (.inl rfl)]
    exact ⟨fun W => mulR_any 1 m m hmN hmN W, fun W => negR_any 1 m hmN W⟩
  have HMu : Hid (∀ W, Calls Try.prog 15 #[.int .i64 1, .agg A, .agg (num 1)] W fun r w' => r = .returned (.agg S) ∧ Chg W w') := fun W => by
    have h := mulR_any 1 a 1 ha N1 W
    rw [Int.mul_one, md_in (.inl rfl), ← haa] at h
    rw [hA, hS]
    exact h
  have HMo : Hid (∀ W, Calls Try.prog 19 #[.int .i64 1] W fun r w' => r = .returned (.agg M) ∧ Chg W w') := fun W => by rw [hMo]; exact modulusR_any 1 W
  have HSQ : Hid ((Try.prog.info? 25).map (·.size) = some QQ.size ∧ (num 0).size = QQ.size ∧ QQ.all (·.oneCell') = true ∧ (Try.prog.info? 25).map (·.size) = some QQ.toList.length) := by rw [hQ]; exact ⟨szN _, lenN _ _, num_one _, infoN _⟩
  have HSX : Hid ((Try.prog.info? 25).map (·.size) = some X.size ∧ RM.size = X.size ∧ (num 0).size = X.size ∧ X.all (·.oneCell') = true ∧ (Try.prog.info? 25).map (·.size) = some X.toList.length) := by rw [hX, hR]; exact ⟨szN _, lenN _ _, lenN _ _, num_one _, infoN _⟩
  have HSR : Hid ((Try.prog.info? 25).map (·.size) = some RM.size ∧ (num 0).size = RM.size ∧ RM.all (·.oneCell') = true) := by rw [hR]; exact ⟨szN _, lenN _ _, num_one _⟩
  have HSM : Hid (((Try.prog.info? 25).map (·.size) = some M.size ∧ (num 0).size = M.size ∧ M.all (·.oneCell') = true) ∧ (Try.prog.info? 25).map (·.size) = some S.size ∧ (num 0).size = S.size ∧ S.all (·.oneCell') = true) := by rw [hMo, hS]; exact ⟨⟨szN _, lenN _ _, num_one _⟩, szN _, lenN _ _, num_one _⟩
  have HI : Hid ((Try.prog.info? 25).map (·.size) = some A.toList.length ∧ (Try.prog.info? 25).map (·.size) = some RM.toList.length ∧ (Try.prog.info? 25).map (·.size) = some S.toList.length ∧ (Try.prog.info? 25).map (·.size) = some M.toList.length) := by rw [hA, hR, hS, hMo]; exact ⟨infoN _, infoN _, infoN _, infoN _⟩
  obtain ⟨r, hr⟩ : ∃ r, r = a ^ e255.toNat % mo 1 := ⟨_, rfl⟩
  have hr1N : N256 r := by rw [hr]; exact N_mod (.inl rfl) _
  obtain ⟨rr1, hrr1⟩ : ∃ rr, rr = r * r % mo 1 := ⟨_, rfl⟩
  have hrr1N : N256 rr1 := by rw [hrr1]; exact N_mod (.inl rfl) _
  have hmr : m = if rr1 = aa then r else r * i255 % mo 1 := by
    rw [hm, hrr1, haa, hr]
    rfl
  obtain ⟨PP, hP⟩ : ∃ A, A = num ((mo 1 + 3) % R256) := ⟨_, rfl⟩
  obtain ⟨H1, hH1⟩ : ∃ A, A = num ((mo 1 + 3) % R256 / 2) := ⟨_, rfl⟩
  obtain ⟨H2, hH2⟩ : ∃ A, A = num ((mo 1 + 3) % R256 / 2 / 2) := ⟨_, rfl⟩
  obtain ⟨H3, hH3⟩ : ∃ A, A = num ((mo 1 + 3) % R256 / 2 / 2 / 2) := ⟨_, rfl⟩
  obtain ⟨R1, hR1⟩ : ∃ A, A = num r := ⟨_, rfl⟩
  obtain ⟨Q1, hQ1⟩ : ∃ A, A = num rr1 := ⟨_, rfl⟩
  obtain ⟨D, hD⟩ : ∃ A, A = num ((mo 1 - 1) % R256) := ⟨_, rfl⟩
  obtain ⟨D1, hD1⟩ : ∃ A, A = num ((mo 1 - 1) % R256 / 2) := ⟨_, rfl⟩
  obtain ⟨D2, hD2⟩ : ∃ A, A = num ((mo 1 - 1) % R256 / 2 / 2) := ⟨_, rfl⟩
  obtain ⟨I, hI⟩ : ∃ A, A = num i255 := ⟨_, rfl⟩
  obtain ⟨X1, hX1⟩ : ∃ A, A = num (r * i255 % mo 1) := ⟨_, rfl⟩
  obtain ⟨oo, hoo⟩ : ∃ o, o = (mo 1 + 3) / R256 := ⟨_, rfl⟩
  obtain ⟨bb1, hbb1⟩ : ∃ b, decide (rr1 = aa) = b := ⟨_, rfl⟩
  have HPl : Hid (∀ W, Calls Try.prog 43 #[.agg M, .agg (num 3)] W fun r w' => r = .returned (.tuple #[.agg PP, .int .u64 oo]) ∧ Chg W w') := fun W => by rw [hMo, hP, hoo]; exact plusR_any _ _ (mo_N 1) N3 W
  have HH : Hid ((∀ W, Calls Try.prog 59 #[.agg PP] W fun r w' => r = .returned (.agg H1) ∧ Chg W w') ∧ (∀ W, Calls Try.prog 59 #[.agg H1] W fun r w' => r = .returned (.agg H2) ∧ Chg W w') ∧ (∀ W, Calls Try.prog 59 #[.agg H2] W fun r w' => r = .returned (.agg H3) ∧ Chg W w')) := by
    rw [hP, hH1, hH2, hH3]
    exact ⟨fun W => halfR_any _ (N_modR _) W, fun W => halfR_any _ (N_half (N_modR _)) W, fun W => halfR_any _ (N_half (N_half (N_modR _))) W⟩
  have HEx : Hid (∀ W, Calls Try.prog 23 #[.int .i64 1, .agg A, .agg H3] W fun r w' => r = .returned (.agg R1) ∧ Chg W w') := fun W => by
    rw [hA, hH3, hR1, half_e255, hr, ← md_in (.inl rfl)]
    exact expR_any 1 a e255 ha N_e255 W
  have HK1 : Hid ((∀ W, Calls Try.prog 15 #[.int .i64 1, .agg R1, .agg R1] W fun r w' => r = .returned (.agg Q1) ∧ Chg W w') ∧ (∀ W, Calls Try.prog 15 #[.int .i64 1, .agg R1, .agg I] W fun r w' => r = .returned (.agg X1) ∧ Chg W w')) := by
    rw [hR1, hQ1, hI, hX1, hrr1, ← md_in (.inl rfl), ← md_in (.inl rfl)]
    exact ⟨fun W => mulR_any 1 r r hr1N hr1N W, fun W => mulR_any 1 r i255 hr1N N_i255 W⟩
  have HMi : Hid (∀ W, Calls Try.prog 46 #[.agg M, .agg (num 1)] W fun r w' => r = .returned (.agg D) ∧ Chg W w') := fun W => by rw [hMo, hD]; exact minusR_any _ _ (mo_N 1) N1 W
  have HH2 : Hid ((∀ W, Calls Try.prog 59 #[.agg D] W fun r w' => r = .returned (.agg D1) ∧ Chg W w') ∧ (∀ W, Calls Try.prog 59 #[.agg D1] W fun r w' => r = .returned (.agg D2) ∧ Chg W w')) := by
    rw [hD, hD1, hD2]
    exact ⟨fun W => halfR_any _ (N_modR _) W, fun W => halfR_any _ (N_half (N_modR _)) W⟩
  have HE2 : Hid (∀ W, Calls Try.prog 23 #[.int .i64 1, .agg (num 2), .agg D2] W fun r w' => r = .returned (.agg I) ∧ Chg W w') := fun W => by
    have h := expR_any 1 2 ((mo 1 - 1) % R256 / 2 / 2) N2 (N_half (N_half (N_modR _))) W
    rw [i255_pow] at h
    rw [hD2, hI]
    exact h
  have HEQ1 : Hid (∀ u, (Op.equalIn 10000 25 (.agg Q1) (.agg S)).run Try.prog u = .ok bb1 u) := fun u => by rw [hQ1, hS, run_eqNum hrr1N haN, hbb1]
  have HC : Hid (if bb1 = true then R1 = RM else X1 = RM) := by
    show if bb1 = true then R1 = RM else X1 = RM
    by_cases h : rr1 = aa
    · rw [← hbb1, decide_eq_true h, if_pos rfl, hR1, hR, hmr, if_pos h]
    · rw [← hbb1, decide_eq_false h, if_neg (by decide), hX1, hR, hmr, if_neg h]
  have HSP : Hid ((Try.prog.info? 25).map (·.size) = some PP.size ∧ (num 0).size = PP.size ∧ PP.all (·.oneCell') = true ∧ (Try.prog.info? 25).map (·.size) = some PP.toList.length) := by rw [hP]; exact ⟨szN _, lenN _ _, num_one _, infoN _⟩
  have HSRX : Hid ((Try.prog.info? 25).map (·.size) = some R1.size ∧ R1.all (·.oneCell') = true ∧ (Try.prog.info? 25).map (·.size) = some R1.toList.length) := by rw [hR1]; exact ⟨szN _, num_one _, infoN _⟩
  have HSQ1 : Hid ((Try.prog.info? 25).map (·.size) = some Q1.size ∧ (num 0).size = Q1.size ∧ Q1.all (·.oneCell') = true ∧ (Try.prog.info? 25).map (·.size) = some Q1.toList.length) := by rw [hQ1]; exact ⟨szN _, lenN _ _, num_one _, infoN _⟩
  have HSI : Hid ((Try.prog.info? 25).map (·.size) = some I.size ∧ (num 0).size = I.size ∧ I.all (·.oneCell') = true ∧ (Try.prog.info? 25).map (·.size) = some I.toList.length) := by rw [hI]; exact ⟨szN _, lenN _ _, num_one _, infoN _⟩
  have HSX1 : Hid ((Try.prog.info? 25).map (·.size) = some X1.size ∧ R1.size = X1.size ∧ X1.all (·.oneCell') = true) := by rw [hX1, hR1]; exact ⟨szN _, lenN _ _, num_one _⟩
  have HR1 : Hid (R1 = num r) := hR1
  clear hP hH1 hH2 hH3 hR1 hQ1 hD hD1 hD2 hI hX1 hoo hbb1 hm hmr hr hr1N hrr1 hrr1N
  rw [← hA] at hsA ⊢
  rw [← hrr, ← haa]
  clear hA hMo hS hR hQ hX hbb hrN haN hrr haa ha hmN
  go_enter Try.func28, Try.ntmps28
  go_upto_region 1 with fail
  obtain ⟨w1, hw1⟩ : ∃ w1, w1 = (w.alloc (.cells A 25)).alloc (.cells (num 0) 25) := ⟨_, rfl⟩
  have Z1 : Hid (Chg w w1 ∧ Ar w1 w.heap.size A ∧ Ar w1 (w.heap.size + 1) (num 0)) := by
    rw [hw1]
    exact ⟨((Chg.refl w).alloc _).alloc _, (Ar.new w _ _).alloc _, Ar.new1 w _ _ _⟩
  rw [← hw1]
  clear hw1 hsA
  go_wp2_with fail
  go_at_call 19
  refine (HMo.out _).mono ?_
  rintro r' w2 ⟨rfl, hc2⟩
  have Z2 : Hid (Chg w w2 ∧ Ar w2 w.heap.size A ∧ Ar w2 (w.heap.size + 1) (num 0)) := ⟨Z1.out.1.trans hc2, Z1.out.2.1.chg hc2, Z1.out.2.2.chg hc2⟩
  clear hc2 Z1
  obtain ⟨⟨sM, lM, oM⟩, sS, lS, oS⟩ := HSM.out
  go_upto_region 2 with (first | refine wpList_store_row rfl 25 _ _ rfl _ _ rfl rfl _ _ (heap_alloc_last w2 _) sM lM oM ?_)
  obtain ⟨b6, hb6⟩ : ∃ b, b = w2.heap.size := ⟨_, rfl⟩
  obtain ⟨w3, hw3⟩ : ∃ w4, w4 = (w2.alloc (.cells (num 0) 25)).setRow w2.heap.size M := ⟨_, rfl⟩
  have Z3 : Hid (Chg w w3 ∧ Ar w3 w.heap.size A ∧ Ar w3 (w.heap.size + 1) (num 0) ∧ Ar w3 b6 M ∧ w.heap.size + 1 < b6) := by
    have hl := Z2.out.2.2.lt
    have k : Chg w2 ((w2.alloc (.cells (num 0) 25)).setRow w2.heap.size M) := ((Chg.refl w2).alloc _).setRow (Nat.le_refl _) _
    rw [hw3, hb6]
    exact ⟨Z2.out.1.trans k, Z2.out.2.1.chg k, Z2.out.2.2.chg k, (Ar.new w2 _ _).row _, hl⟩
  rw [← hw3, ← hb6]
  clear hw3 hb6 Z2 sM lM oM
  go_upto_region 3 with (first | refine wpList_store_row rfl 25 _ _ rfl _ _ rfl rfl _ _ (heap_alloc_last w3 _) (szN 0) rfl (num_one 0) ?_)
  obtain ⟨b7, hb7⟩ : ∃ b, b = w3.heap.size := ⟨_, rfl⟩
  obtain ⟨w4, hw4⟩ : ∃ w4, w4 = (w3.alloc (.cells (num 0) 25)).setRow w3.heap.size (num 0) := ⟨_, rfl⟩
  have Z4 : Hid (Chg w w4 ∧ Ar w4 w.heap.size A ∧ Ar w4 (w.heap.size + 1) (num 0) ∧ Ar w4 b6 M ∧ Ar w4 b7 (num 0) ∧ w.heap.size + 1 < b6 ∧ b6 < b7) := by
    have hl := Z3.out.2.2.2.1.lt
    have k : Chg w3 ((w3.alloc (.cells (num 0) 25)).setRow w3.heap.size (num 0)) := ((Chg.refl w3).alloc _).setRow (Nat.le_refl _) _
    rw [hw4, hb7]
    exact ⟨Z3.out.1.trans k, Z3.out.2.1.chg k, Z3.out.2.2.1.chg k, Z3.out.2.2.2.1.chg k, (Ar.new w3 _ _).row _, Z3.out.2.2.2.2, hl⟩
  rw [← hw4, ← hb7]
  clear hw4 hb7 Z3
  obtain ⟨iA, iR, iS, iM⟩ := HI.out
  have r3 := rangeA Z4.out.2.1
  go_wp2_with (first
    | refine wpList_load_mid rfl 25 (.tmp 3) rfl _ _ rfl (A.toList) _ r3 Go.Proofs.Ytnahkcapbbjfdaa.u25 rfl iA ?_)
  rw [num_set1]
  go_at_call 15
  refine (HMu.out _).mono ?_
  rintro r' w5 ⟨rfl, hc5⟩
  have Z5 : Hid (Chg w w5 ∧ Ar w5 w.heap.size A ∧ Ar w5 (w.heap.size + 1) (num 0) ∧ Ar w5 b6 M ∧ Ar w5 b7 (num 0) ∧ w.heap.size + 1 < b6 ∧ b6 < b7) := ⟨Z4.out.1.trans hc5, Z4.out.2.1.chg hc5, Z4.out.2.2.1.chg hc5, Z4.out.2.2.2.1.chg hc5, Z4.out.2.2.2.2.1.chg hc5, Z4.out.2.2.2.2.2⟩
  clear hc5 Z4 r3
  go_upto_region 4 with (first | refine wpList_store_row rfl 25 _ _ rfl _ _ rfl rfl _ _ (heap_alloc_last w5 _) sS lS oS ?_)
  obtain ⟨b8, hb8⟩ : ∃ b, b = w5.heap.size := ⟨_, rfl⟩
  obtain ⟨w6, hw6⟩ : ∃ w4, w4 = (w5.alloc (.cells (num 0) 25)).setRow w5.heap.size S := ⟨_, rfl⟩
  have Z6 : Hid (RR w w6 b6 b7 b8 A M (num 0) S) := by
    have hl := Z5.out.2.2.2.2.1.lt
    have k : Chg w5 ((w5.alloc (.cells (num 0) 25)).setRow w5.heap.size S) := ((Chg.refl w5).alloc _).setRow (Nat.le_refl _) _
    obtain ⟨q0, q1, q2, q3, q4, l6, l7⟩ := Z5.out
    rw [hw6, hb8]
    exact ⟨q0.trans k, q1.chg k, q2.chg k, q3.chg k, q4.chg k, (Ar.new w5 _ _).row _, l6, l7, hl⟩
  rw [← hw6, ← hb8]
  clear hw6 hb8 Z5 sS lS oS
  have r6 := rangeA Z6.out.r6
  go_wp2_with (first
    | refine wpList_load_mid rfl 25 (.tmp 6) rfl _ _ rfl (M.toList) _ r6 Go.Proofs.Ytnahkcapbbjfdaa.u25 rfl iM ?_)
  rw [num_set3]
  go_at_call 43
  refine (HPl.out _).mono ?_
  rintro r' w7 ⟨rfl, hc7⟩
  have Z7 : Hid (RR w w7 b6 b7 b8 A M (num 0) S) := Z6.out.to hc7
  clear hc7 Z6 r6
  obtain ⟨sP, lP, oP, iP⟩ := HSP.out
  go_upto_region 11 with (first | refine wpList_store_row rfl 25 _ _ rfl _ _ rfl rfl _ _ (heap_alloc_last w7 _) sP lP oP ?_)
  obtain ⟨b9, hb9⟩ : ∃ b, b = w7.heap.size := ⟨_, rfl⟩
  obtain ⟨w8, hw8⟩ : ∃ w4, w4 = (w7.alloc (.cells (num 0) 25)).setRow w7.heap.size PP := ⟨_, rfl⟩
  have Z8 : Hid (RR w w8 b6 b7 b8 A M (num 0) S ∧ Ar w8 b9 PP) := by
    rw [hw8, hb9]
    exact Z7.out.new _ _ _
  rw [← hw8, ← hb9]
  clear hw8 hb9 Z7 sP lP oP
  try dsimp only [Act.put]
  go_cut [53] from 47 to 53 (fun v wc => RR w wc b6 b7 b8 A M R1 S)
  case first =>
    refine wp_region_good 7 (fun j v wg => match j with
      | 0 => v = .int .i64 1
      | 1 => v = .agg A
      | 2 => v = .agg PP
      | 3 => v = .agg H1
      | 4 => v = .agg H2
      | 5 => v = .agg H3
      | 6 => v = .agg R1
      | _ => True) (by kernel_rfl) (by kernel_rfl) (by kernel_rfl) (by kernel_rfl) (by kernel_rfl) ?_ ?_ ?_
    · intro j v u1 u2 h hc
      match j, h with
      | 0, h => exact h
      | 1, h => exact h
      | 2, h => exact h
      | 3, h => exact h
      | 4, h => exact h
      | 5, h => exact h
      | 6, h => exact h
      | _ + 7, h => exact trivial
    · intro i o ac u hi ho hsz hf hg hc
      have hcs : i = 0 ∨ i = 1 ∨ i = 2 ∨ i = 3 ∨ i = 4 ∨ i = 5 ∨ i = 6 := by omega
      rcases hcs with rfl | rfl | rfl | rfl | rfl | rfl | rfl
      · injection ho with ho
        subst ho
        refine .inl ⟨wanted_none rfl, ?_⟩
        have e1 : ac.eval (.tmp 0) = .int .i64 1 := hf 0 (by kernel_rfl)
        exact opG_val (by simp [execOp, e1]) rfl (Chg.refl _)
      · injection ho with ho
        subst ho
        refine .inl ⟨wanted_none rfl, ?_⟩
        have e1 : ac.eval (.tmp 3) = .pointer (some ⟨w.heap.size, 0, none⟩) := hf 3 (by kernel_rfl)
        exact wp_load_mid 25 (.tmp 3) rfl _ _ e1 (A.toList) _ (rangeA (Ar.chg (w := w8.drew) Z8.out.1.r1 hc)) Go.Proofs.Ytnahkcapbbjfdaa.u25 rfl (iA) ⟨_, rfl, rfl, Chg.refl _⟩
      · injection ho with ho
        subst ho
        refine .inl ⟨wanted_none rfl, ?_⟩
        have e1 : ac.eval (.tmp 11) = .pointer (some ⟨b9, 0, none⟩) := hf 11 (by kernel_rfl)
        exact wp_load_mid 25 (.tmp 11) rfl _ _ e1 (PP.toList) _ (rangeA (Ar.chg (w := w8.drew) Z8.out.2 hc)) Go.Proofs.Ytnahkcapbbjfdaa.u25 rfl (iP) ⟨_, rfl, rfl, Chg.refl _⟩
      · injection ho with ho
        subst ho
        refine .inl ⟨wanted_none rfl, ?_⟩
        have e1 : ac.eval (.tmp 49) = .agg PP := hg 2 (by kernel_rfl) (by decide)
        refine opG_go 59 Try.f59 #[.tmp 49] #[25] rfl Try.func59 (by kernel_rfl) (by kernel_rfl) (by simp [e1]) (Calls.mono (HH.out.1 _) ?_)
        rintro e u2 ⟨rfl, hc2⟩
        exact ⟨_, rfl, rfl, hc2⟩
      · injection ho with ho
        subst ho
        refine .inl ⟨wanted_none rfl, ?_⟩
        have e1 : ac.eval (.tmp 50) = .agg H1 := hg 3 (by kernel_rfl) (by decide)
        refine opG_go 59 Try.f59 #[.tmp 50] #[25] rfl Try.func59 (by kernel_rfl) (by kernel_rfl) (by simp [e1]) (Calls.mono (HH.out.2.1 _) ?_)
        rintro e u2 ⟨rfl, hc2⟩
        exact ⟨_, rfl, rfl, hc2⟩
      · injection ho with ho
        subst ho
        refine .inl ⟨wanted_none rfl, ?_⟩
        have e1 : ac.eval (.tmp 51) = .agg H2 := hg 4 (by kernel_rfl) (by decide)
        refine opG_go 59 Try.f59 #[.tmp 51] #[25] rfl Try.func59 (by kernel_rfl) (by kernel_rfl) (by simp [e1]) (Calls.mono (HH.out.2.2 _) ?_)
        rintro e u2 ⟨rfl, hc2⟩
        exact ⟨_, rfl, rfl, hc2⟩
      · injection ho with ho
        subst ho
        refine .inl ⟨wanted_none rfl, ?_⟩
        have e1 : ac.eval (.tmp 47) = .int .i64 1 := hg 0 (by kernel_rfl) (by decide)
        have e2 : ac.eval (.tmp 48) = .agg A := hg 1 (by kernel_rfl) (by decide)
        have e3 : ac.eval (.tmp 52) = .agg H3 := hg 5 (by kernel_rfl) (by decide)
        refine opG_go 23 Try.f23 #[.tmp 47, .tmp 48, .tmp 52] #[22, 25, 25] rfl Try.func23 (by kernel_rfl) (by kernel_rfl) (by simp [e1, e2, e3]) (Calls.mono (HEx.out _) ?_)
        rintro e u2 ⟨rfl, hc2⟩
        exact ⟨_, rfl, rfl, hc2⟩
    · intro o u V ho hV hc
      injection ho with ho
      subst ho
      refine ⟨rfl, ?_⟩
      have q47 : V 0 = .int .i64 1 := hV 0 (by decide)
      have q48 : V 1 = .agg A := hV 1 (by decide)
      have q49 : V 2 = .agg PP := hV 2 (by decide)
      have q50 : V 3 = .agg H1 := hV 3 (by decide)
      have q51 : V 4 = .agg H2 := hV 4 (by decide)
      have q52 : V 5 = .agg H3 := hV 5 (by decide)
      have q53 : V 6 = .agg R1 := hV 6 (by decide)
      have hres := Ar.chg (w := w8.drew) Z8.out.1.r7 hc
      refine wp_store_mid 25 (.tmp 7) (.tmp 53) rfl b7 0 R1 (by rfl) (Eq.trans (by rfl) q53) (by rw [HR1.out, num_size]; exact thereN hres) HSRX.out.1 HSRX.out.2.1 ?_
      rw [show u.setCells b7 0 R1.toList = u.setRow b7 R1 by rw [HR1.out]; exact setRowN hres _]
      go_wp2_with fail
      go_meet
      exact (Z8.out.1.to ((Chg.refl w8).drew.trans hc)).put7 R1
  case rest =>
    obtain ⟨w9, hw9⟩ : ∃ w7, w7 = wc := ⟨_, rfl⟩
    have Z9 : Hid (RR w w9 b6 b7 b8 A M R1 S) := by rw [hw9]; exact hcut
    rw [← hw9]
    clear hw9 hcut Z8 iP
    have r7 := rangeA Z9.out.r7
    obtain ⟨-, -, iR1⟩ := HSRX.out
    go_wp2_with (first
      | refine wpList_load_mid rfl 25 (.tmp 7) rfl _ _ rfl (R1.toList) _ r7 Go.Proofs.Ytnahkcapbbjfdaa.u25 rfl iR1 ?_)
    go_at_call 15
    refine (HK1.out.1 _).mono ?_
    rintro r' w10 ⟨rfl, hc10⟩
    have Z10 : Hid (RR w w10 b6 b7 b8 A M R1 S) := Z9.out.to hc10
    clear hc10 r7 Z9
    obtain ⟨sQ1, lQ1, oQ1, iQ1⟩ := HSQ1.out
    go_upto_region 13 with (first | refine wpList_store_row rfl 25 _ _ rfl _ _ rfl rfl _ _ (heap_alloc_last w10 _) sQ1 lQ1 oQ1 ?_)
    obtain ⟨b13, hb13⟩ : ∃ b, b = w10.heap.size := ⟨_, rfl⟩
    obtain ⟨w11, hw11⟩ : ∃ w4, w4 = (w10.alloc (.cells (num 0) 25)).setRow w10.heap.size Q1 := ⟨_, rfl⟩
    have Z11 : Hid (RR w w11 b6 b7 b8 A M R1 S ∧ Ar w11 b13 Q1) := by
      rw [hw11, hb13]
      exact Z10.out.new _ _ _
    rw [← hw11, ← hb13]
    clear hw11 hb13 Z10 sQ1 lQ1 oQ1
    have r13 := rangeA Z11.out.2
    have r8 := rangeA Z11.out.1.r8
    have hq1 := HEQ1.out
    cases bb1 with
    | true =>
      have hC : R1 = RM := HC.out
      have Z19 : Hid (RR w w11 b6 b7 b8 A M RM S) := by rw [← hC]; exact Z11.out.1
      clear hC
      go_upto_region 16 with (first
        | refine wpList_load_mid rfl 25 (.tmp 13) rfl _ _ rfl (Q1.toList) _ r13 Go.Proofs.Ytnahkcapbbjfdaa.u25 rfl iQ1 ?_
        | refine wpList_load_mid rfl 25 (.tmp 8) rfl _ _ rfl (S.toList) _ r8 Go.Proofs.Ytnahkcapbbjfdaa.u25 rfl iS ?_)
      clear r13 r8 hq1 Z11 HC HEQ1
      have r7 := rangeA Z19.out.r7
      obtain ⟨iA, iR, iS, iM⟩ := HI.out
      go_wp2_with (first
        | refine wpList_load_mid rfl 25 (.tmp 7) rfl _ _ rfl (RM.toList) _ r7 Go.Proofs.Ytnahkcapbbjfdaa.u25 rfl iR ?_)
      go_at_call 15
      refine (HT.out.1 _).mono ?_
      rintro r' w20 ⟨rfl, hc20⟩
      have Z20 : Hid (RR w w20 b6 b7 b8 A M RM S) := Z19.out.to hc20
      clear hc20 r7
      obtain ⟨sQ, lQ, oQ, iQ⟩ := HSQ.out
      go_upto_region 17 with (first | refine wpList_store_row rfl 25 _ _ rfl _ _ rfl rfl _ _ (heap_alloc_last w20 _) sQ lQ oQ ?_)
      obtain ⟨b15, hb15⟩ : ∃ b, b = w20.heap.size := ⟨_, rfl⟩
      obtain ⟨w21, hw21⟩ : ∃ w4, w4 = (w20.alloc (.cells (num 0) 25)).setRow w20.heap.size QQ := ⟨_, rfl⟩
      have Z21 : Hid (RR w w21 b6 b7 b8 A M RM S ∧ Ar w21 b15 QQ) := by
        rw [hw21, hb15]
        exact Z20.out.new _ _ _
      rw [← hw21, ← hb15]
      clear hw21 hb15 Z20 sQ lQ oQ
      have r15 := rangeA Z21.out.2
      have r8 := rangeA Z21.out.1.r8
      have hq := HEQ.out
      clear Z19
      cases bb with
      | false =>
        obtain ⟨t4, g4⟩ := Z21.out.1.r2
        go_wp2_with (first
          | refine wpList_load_mid rfl 25 (.tmp 15) rfl _ _ rfl (QQ.toList) _ r15 Go.Proofs.Ytnahkcapbbjfdaa.u25 rfl iQ ?_
          | refine wpList_load_mid rfl 25 (.tmp 8) rfl _ _ rfl (S.toList) _ r8 Go.Proofs.Ytnahkcapbbjfdaa.u25 rfl iS ?_
          | refine wpList_store_row rfl 25 _ _ rfl _ _ rfl rfl _ _ g4 (szN 0) rfl (num_one 0) ?_)
        have e : rootN 1 a m = 0 := by rw [HM.out, if_neg (of_decide_eq_false HB.out)]
        refine bp_ct (n := 4) (c := num 0) (x := .bool false) Try.results28 rfl rfl rfl (Z21.out.1.r2.row _) Go.Proofs.Ytnahkcapbbjfdaa.u25 i25 (num_size 0) ⟨by rw [HB.out, e], Z21.out.1.chg.setRow (by omega) _⟩
      | true =>
        have c7 : w21.cell? ⟨b7, 0, none⟩ = some (.int .u64 (dg B64 m 0)) := by
          have h := Z21.out.1.r7
          rw [HR.out] at h
          exact (h.cell 0).trans (arr_get _ _ _ (by decide))
        have em := low_bit m
        obtain ⟨d, hd⟩ : ∃ d, d = dg B64 m 0 := ⟨_, rfl⟩
        obtain ⟨y, hy⟩ : ∃ y, y = dg 2 m 0 := ⟨_, rfl⟩
        rw [← hd] at c7 em
        rw [← hy] at em
        have HY : Hid (dg 2 m 0 = y) := hy.symm
        clear hd hy
        by_cases hy1 : y = 1
        · have hyb : (y == 1) = true := by simp [hy1]
          have HY1 : Hid (y = 1) := hy1
          clear hy1
          have r7 := rangeA Z21.out.1.r7
          go_wp2_with (first
            | refine wpList_load_mid rfl 25 (.tmp 15) rfl _ _ rfl (QQ.toList) _ r15 Go.Proofs.Ytnahkcapbbjfdaa.u25 rfl iQ ?_
            | refine wpList_load_mid rfl 25 (.tmp 8) rfl _ _ rfl (S.toList) _ r8 Go.Proofs.Ytnahkcapbbjfdaa.u25 rfl iS ?_
            | refine wpList_load_mid rfl 25 (.tmp 7) rfl _ _ rfl (RM.toList) _ r7 Go.Proofs.Ytnahkcapbbjfdaa.u25 rfl iR ?_)
          go_at_call 17
          refine (HT.out.2 _).mono ?_
          rintro r' w22 ⟨rfl, hc22⟩
          have Z22 : Hid (RR w w22 b6 b7 b8 A M RM S) := Z21.out.1.to hc22
          clear hc22 r7 r15 r8 c7 Z21 hq
          obtain ⟨sX, lX, lX0, oX, iX⟩ := HSX.out
          obtain ⟨t7, g7⟩ := Z22.out.r7
          go_upto_region 21 with (first | refine wpList_store_row rfl 25 _ _ rfl _ _ rfl rfl _ _ g7 sX lX oX ?_)
          obtain ⟨w23, hw23⟩ : ∃ w4, w4 = w22.setRow b7 X := ⟨_, rfl⟩
          have Z23 : Hid (RR w w23 b6 b7 b8 A M X S) := by rw [hw23]; exact Z22.out.put7 X
          rw [← hw23]
          clear hw23 Z22 g7
          have r7 := rangeA Z23.out.r7
          obtain ⟨t4, g4⟩ := Z23.out.r2
          go_wp2_with (first
            | refine wpList_load_mid rfl 25 (.tmp 7) rfl _ _ rfl (X.toList) _ r7 Go.Proofs.Ytnahkcapbbjfdaa.u25 rfl iX ?_
            | refine wpList_store_row rfl 25 _ _ rfl _ _ rfl rfl _ _ g4 sX lX0 oX ?_)
          have e : X = num (rootN 1 a m) := by rw [HM.out, if_pos (of_decide_eq_true HB.out), HY.out, if_pos HY1.out]; exact HX.out
          refine bp_ct (n := 4) (c := X) (x := .bool true) Try.results28 rfl rfl rfl (Z23.out.r2.row _) Go.Proofs.Ytnahkcapbbjfdaa.u25 i25 (by rw [e]; exact num_size _) ⟨by rw [HB.out, ← e], Z23.out.chg.setRow (by omega) _⟩
        · have hyb : (y == 1) = false := by simp [hy1]
          have HY1 : Hid (¬ y = 1) := hy1
          clear hy1
          have r7 := rangeA Z21.out.1.r7
          obtain ⟨t4, g4⟩ := Z21.out.1.r2
          obtain ⟨sR, lR, oR⟩ := HSR.out
          go_wp2_with (first
            | refine wpList_load_mid rfl 25 (.tmp 15) rfl _ _ rfl (QQ.toList) _ r15 Go.Proofs.Ytnahkcapbbjfdaa.u25 rfl iQ ?_
            | refine wpList_load_mid rfl 25 (.tmp 8) rfl _ _ rfl (S.toList) _ r8 Go.Proofs.Ytnahkcapbbjfdaa.u25 rfl iS ?_
            | refine wpList_load_mid rfl 25 (.tmp 7) rfl _ _ rfl (RM.toList) _ r7 Go.Proofs.Ytnahkcapbbjfdaa.u25 rfl iR ?_
            | refine wpList_store_row rfl 25 _ _ rfl _ _ rfl rfl _ _ g4 sR lR oR ?_)
          have e : RM = num (rootN 1 a m) := by rw [HM.out, if_pos (of_decide_eq_true HB.out), HY.out, if_neg HY1.out]; exact HR.out
          refine bp_ct (n := 4) (c := RM) (x := .bool true) Try.results28 rfl rfl rfl (Z21.out.1.r2.row _) Go.Proofs.Ytnahkcapbbjfdaa.u25 i25 (by rw [e]; exact num_size _) ⟨by rw [HB.out, ← e], Z21.out.1.chg.setRow (by omega) _⟩
    | false =>
      have hC : Hid (X1 = RM) := HC.out
      have r6 := rangeA Z11.out.1.r6
      go_wp2_with (first
        | refine wpList_load_mid rfl 25 (.tmp 13) rfl _ _ rfl (Q1.toList) _ r13 Go.Proofs.Ytnahkcapbbjfdaa.u25 rfl iQ1 ?_
        | refine wpList_load_mid rfl 25 (.tmp 8) rfl _ _ rfl (S.toList) _ r8 Go.Proofs.Ytnahkcapbbjfdaa.u25 rfl iS ?_
        | refine wpList_load_mid rfl 25 (.tmp 6) rfl _ _ rfl (M.toList) _ r6 Go.Proofs.Ytnahkcapbbjfdaa.u25 rfl iM ?_)
      rw [num_set1, num_set2]
      go_at_call 46
      refine (HMi.out _).mono ?_
      rintro r' w12 ⟨rfl, hc12⟩
      go_wp2_with fail
      go_at_call 59
      refine (HH2.out.1 _).mono ?_
      rintro r' w13 ⟨rfl, hc13⟩
      go_wp2_with fail
      go_at_call 59
      refine (HH2.out.2 _).mono ?_
      rintro r' w14 ⟨rfl, hc14⟩
      go_wp2_with fail
      go_at_call 23
      refine (HE2.out _).mono ?_
      rintro r' w15 ⟨rfl, hc15⟩
      have Z15 : Hid (RR w w15 b6 b7 b8 A M R1 S) := (((Z11.out.1.to hc12).to hc13).to hc14).to hc15
      clear hc12 hc13 hc14 hc15 Z11 r13 r8 r6 hq1 HC HEQ1
      obtain ⟨sI, lI, oI, iI⟩ := HSI.out
      go_upto_region 15 with (first | refine wpList_store_row rfl 25 _ _ rfl _ _ rfl rfl _ _ (heap_alloc_last w15 _) sI lI oI ?_)
      obtain ⟨b14, hb14⟩ : ∃ b, b = w15.heap.size := ⟨_, rfl⟩
      obtain ⟨w16, hw16⟩ : ∃ w4, w4 = (w15.alloc (.cells (num 0) 25)).setRow w15.heap.size I := ⟨_, rfl⟩
      have Z16 : Hid (RR w w16 b6 b7 b8 A M R1 S ∧ Ar w16 b14 I) := by
        rw [hw16, hb14]
        exact Z15.out.new _ _ _
      rw [← hw16, ← hb14]
      clear hw16 hb14 Z15 sI lI oI
      have r7 := rangeA Z16.out.1.r7
      have r14 := rangeA Z16.out.2
      go_wp2_with (first
        | refine wpList_load_mid rfl 25 (.tmp 7) rfl _ _ rfl (R1.toList) _ r7 Go.Proofs.Ytnahkcapbbjfdaa.u25 rfl iR1 ?_
        | refine wpList_load_mid rfl 25 (.tmp 14) rfl _ _ rfl (I.toList) _ r14 Go.Proofs.Ytnahkcapbbjfdaa.u25 rfl iI ?_)
      go_at_call 15
      refine (HK1.out.2 _).mono ?_
      rintro r' w17 ⟨rfl, hc17⟩
      have Z17 : Hid (RR w w17 b6 b7 b8 A M R1 S) := Z16.out.1.to hc17
      clear hc17 r7 r14 Z16
      obtain ⟨sX1, lX1, oX1⟩ := HSX1.out
      obtain ⟨t7, g7⟩ := Z17.out.r7
      go_upto_region 16 with (first | refine wpList_store_row rfl 25 _ _ rfl _ _ rfl rfl _ _ g7 sX1 lX1 oX1 ?_)
      obtain ⟨w18, hw18⟩ : ∃ w4, w4 = w17.setRow b7 X1 := ⟨_, rfl⟩
      have Z19 : Hid (RR w w18 b6 b7 b8 A M RM S) := by
        rw [hw18, hC.out]
        exact Z17.out.put7 RM
      rw [← hw18]
      clear hw18 hC Z17 g7 sX1 lX1 oX1
      have r7 := rangeA Z19.out.r7
      obtain ⟨iA, iR, iS, iM⟩ := HI.out
      go_wp2_with (first
        | refine wpList_load_mid rfl 25 (.tmp 7) rfl _ _ rfl (RM.toList) _ r7 Go.Proofs.Ytnahkcapbbjfdaa.u25 rfl iR ?_)
      go_at_call 15
      refine (HT.out.1 _).mono ?_
      rintro r' w20 ⟨rfl, hc20⟩
      have Z20 : Hid (RR w w20 b6 b7 b8 A M RM S) := Z19.out.to hc20
      clear hc20 r7
      obtain ⟨sQ, lQ, oQ, iQ⟩ := HSQ.out
      go_upto_region 17 with (first | refine wpList_store_row rfl 25 _ _ rfl _ _ rfl rfl _ _ (heap_alloc_last w20 _) sQ lQ oQ ?_)
      obtain ⟨b15, hb15⟩ : ∃ b, b = w20.heap.size := ⟨_, rfl⟩
      obtain ⟨w21, hw21⟩ : ∃ w4, w4 = (w20.alloc (.cells (num 0) 25)).setRow w20.heap.size QQ := ⟨_, rfl⟩
      have Z21 : Hid (RR w w21 b6 b7 b8 A M RM S ∧ Ar w21 b15 QQ) := by
        rw [hw21, hb15]
        exact Z20.out.new _ _ _
      rw [← hw21, ← hb15]
      clear hw21 hb15 Z20 sQ lQ oQ
      have r15 := rangeA Z21.out.2
      have r8 := rangeA Z21.out.1.r8
      have hq := HEQ.out
      clear Z19
      cases bb with
      | false =>
        obtain ⟨t4, g4⟩ := Z21.out.1.r2
        go_wp2_with (first
          | refine wpList_load_mid rfl 25 (.tmp 15) rfl _ _ rfl (QQ.toList) _ r15 Go.Proofs.Ytnahkcapbbjfdaa.u25 rfl iQ ?_
          | refine wpList_load_mid rfl 25 (.tmp 8) rfl _ _ rfl (S.toList) _ r8 Go.Proofs.Ytnahkcapbbjfdaa.u25 rfl iS ?_
          | refine wpList_store_row rfl 25 _ _ rfl _ _ rfl rfl _ _ g4 (szN 0) rfl (num_one 0) ?_)
        have e : rootN 1 a m = 0 := by rw [HM.out, if_neg (of_decide_eq_false HB.out)]
        refine bp_ct (n := 4) (c := num 0) (x := .bool false) Try.results28 rfl rfl rfl (Z21.out.1.r2.row _) Go.Proofs.Ytnahkcapbbjfdaa.u25 i25 (num_size 0) ⟨by rw [HB.out, e], Z21.out.1.chg.setRow (by omega) _⟩
      | true =>
        have c7 : w21.cell? ⟨b7, 0, none⟩ = some (.int .u64 (dg B64 m 0)) := by
          have h := Z21.out.1.r7
          rw [HR.out] at h
          exact (h.cell 0).trans (arr_get _ _ _ (by decide))
        have em := low_bit m
        obtain ⟨d, hd⟩ : ∃ d, d = dg B64 m 0 := ⟨_, rfl⟩
        obtain ⟨y, hy⟩ : ∃ y, y = dg 2 m 0 := ⟨_, rfl⟩
        rw [← hd] at c7 em
        rw [← hy] at em
        have HY : Hid (dg 2 m 0 = y) := hy.symm
        clear hd hy
        by_cases hy1 : y = 1
        · have hyb : (y == 1) = true := by simp [hy1]
          have HY1 : Hid (y = 1) := hy1
          clear hy1
          have r7 := rangeA Z21.out.1.r7
          go_wp2_with (first
            | refine wpList_load_mid rfl 25 (.tmp 15) rfl _ _ rfl (QQ.toList) _ r15 Go.Proofs.Ytnahkcapbbjfdaa.u25 rfl iQ ?_
            | refine wpList_load_mid rfl 25 (.tmp 8) rfl _ _ rfl (S.toList) _ r8 Go.Proofs.Ytnahkcapbbjfdaa.u25 rfl iS ?_
            | refine wpList_load_mid rfl 25 (.tmp 7) rfl _ _ rfl (RM.toList) _ r7 Go.Proofs.Ytnahkcapbbjfdaa.u25 rfl iR ?_)
          go_at_call 17
          refine (HT.out.2 _).mono ?_
          rintro r' w22 ⟨rfl, hc22⟩
          have Z22 : Hid (RR w w22 b6 b7 b8 A M RM S) := Z21.out.1.to hc22
          clear hc22 r7 r15 r8 c7 Z21 hq
          obtain ⟨sX, lX, lX0, oX, iX⟩ := HSX.out
          obtain ⟨t7, g7⟩ := Z22.out.r7
          go_upto_region 21 with (first | refine wpList_store_row rfl 25 _ _ rfl _ _ rfl rfl _ _ g7 sX lX oX ?_)
          obtain ⟨w23, hw23⟩ : ∃ w4, w4 = w22.setRow b7 X := ⟨_, rfl⟩
          have Z23 : Hid (RR w w23 b6 b7 b8 A M X S) := by rw [hw23]; exact Z22.out.put7 X
          rw [← hw23]
          clear hw23 Z22 g7
          have r7 := rangeA Z23.out.r7
          obtain ⟨t4, g4⟩ := Z23.out.r2
          go_wp2_with (first
            | refine wpList_load_mid rfl 25 (.tmp 7) rfl _ _ rfl (X.toList) _ r7 Go.Proofs.Ytnahkcapbbjfdaa.u25 rfl iX ?_
            | refine wpList_store_row rfl 25 _ _ rfl _ _ rfl rfl _ _ g4 sX lX0 oX ?_)
          have e : X = num (rootN 1 a m) := by rw [HM.out, if_pos (of_decide_eq_true HB.out), HY.out, if_pos HY1.out]; exact HX.out
          refine bp_ct (n := 4) (c := X) (x := .bool true) Try.results28 rfl rfl rfl (Z23.out.r2.row _) Go.Proofs.Ytnahkcapbbjfdaa.u25 i25 (by rw [e]; exact num_size _) ⟨by rw [HB.out, ← e], Z23.out.chg.setRow (by omega) _⟩
        · have hyb : (y == 1) = false := by simp [hy1]
          have HY1 : Hid (¬ y = 1) := hy1
          clear hy1
          have r7 := rangeA Z21.out.1.r7
          obtain ⟨t4, g4⟩ := Z21.out.1.r2
          obtain ⟨sR, lR, oR⟩ := HSR.out
          go_wp2_with (first
            | refine wpList_load_mid rfl 25 (.tmp 15) rfl _ _ rfl (QQ.toList) _ r15 Go.Proofs.Ytnahkcapbbjfdaa.u25 rfl iQ ?_
            | refine wpList_load_mid rfl 25 (.tmp 8) rfl _ _ rfl (S.toList) _ r8 Go.Proofs.Ytnahkcapbbjfdaa.u25 rfl iS ?_
            | refine wpList_load_mid rfl 25 (.tmp 7) rfl _ _ rfl (RM.toList) _ r7 Go.Proofs.Ytnahkcapbbjfdaa.u25 rfl iR ?_
            | refine wpList_store_row rfl 25 _ _ rfl _ _ rfl rfl _ _ g4 sR lR oR ?_)
          have e : RM = num (rootN 1 a m) := by rw [HM.out, if_pos (of_decide_eq_true HB.out), HY.out, if_neg HY1.out]; exact HR.out
          refine bp_ct (n := 4) (c := RM) (x := .bool true) Try.results28 rfl rfl rfl (Z21.out.1.r2.row _) Go.Proofs.Ytnahkcapbbjfdaa.u25 i25 (by rw [e]; exact num_size _) ⟨by rw [HB.out, ← e], Z21.out.1.chg.setRow (by omega) _⟩
end Go.Proofs.Ytnahkcapbbjfdaa

namespace Go.Proofs.Ytnahkcapbbjfdaa
open Go.RowKit
set_option linter.unusedVariables false

set_option maxRecDepth 100000 in
set_option maxHeartbeats 16000000 in
theorem rootR0_any (f a : Int) (h1 : ¬ f = 1) (h2 : ¬ f = 2) (ha : N256 a) (w : World) : Calls Try.prog 28 #[.int .i64 f, .agg (num a)] w fun r w' => r = .returned (.tuple #[.agg (num 0), .bool false]) ∧ Chg w w' := by
  have e1 : (f == 1) = false := by simp [h1]
  have e2 : (f == 2) = false := by simp [h2]
  have hz := zero25.1
  have hsA := num_size a
  obtain ⟨A, hA⟩ : ∃ A, A = num a := ⟨_, rfl⟩
  obtain ⟨M, hMo⟩ : ∃ A, A = num (mo f) := ⟨_, rfl⟩
  obtain ⟨S, hS⟩ : ∃ A, A = num (md f (a * 1)) := ⟨_, rfl⟩
  have HMu : Hid (∀ W, Calls Try.prog 15 #[.int .i64 f, .agg A, .agg (num 1)] W fun r w' => r = .returned (.agg S) ∧ Chg W w') := fun W => by
    rw [hA, hS]
    exact mulR_any f a 1 ha N1 W
  have HMo : Hid (∀ W, Calls Try.prog 19 #[.int .i64 f] W fun r w' => r = .returned (.agg M) ∧ Chg W w') := fun W => by rw [hMo]; exact modulusR_any f W
  have HSM : Hid (((Try.prog.info? 25).map (·.size) = some M.size ∧ (num 0).size = M.size ∧ M.all (·.oneCell') = true) ∧ (Try.prog.info? 25).map (·.size) = some S.size ∧ (num 0).size = S.size ∧ S.all (·.oneCell') = true) := by rw [hMo, hS]; exact ⟨⟨szN _, lenN _ _, num_one _⟩, szN _, lenN _ _, num_one _⟩
  have HI : Hid ((Try.prog.info? 25).map (·.size) = some A.toList.length ∧ True ∧ True ∧ True) := by rw [hA]; exact ⟨infoN _, trivial, trivial, trivial⟩
  rw [← hA] at hsA ⊢
  clear hA hMo hS ha h1 h2
  go_enter Try.func28, Try.ntmps28
  go_upto_region 1 with fail
  obtain ⟨w1, hw1⟩ : ∃ w1, w1 = (w.alloc (.cells A 25)).alloc (.cells (num 0) 25) := ⟨_, rfl⟩
  have Z1 : Hid (Chg w w1 ∧ Ar w1 w.heap.size A ∧ Ar w1 (w.heap.size + 1) (num 0)) := by
    rw [hw1]
    exact ⟨((Chg.refl w).alloc _).alloc _, (Ar.new w _ _).alloc _, Ar.new1 w _ _ _⟩
  rw [← hw1]
  clear hw1 hsA
  go_wp2_with fail
  go_at_call 19
  refine (HMo.out _).mono ?_
  rintro r' w2 ⟨rfl, hc2⟩
  have Z2 : Hid (Chg w w2 ∧ Ar w2 w.heap.size A ∧ Ar w2 (w.heap.size + 1) (num 0)) := ⟨Z1.out.1.trans hc2, Z1.out.2.1.chg hc2, Z1.out.2.2.chg hc2⟩
  clear hc2 Z1
  obtain ⟨⟨sM, lM, oM⟩, sS, lS, oS⟩ := HSM.out
  go_upto_region 2 with (first | refine wpList_store_row rfl 25 _ _ rfl _ _ rfl rfl _ _ (heap_alloc_last w2 _) sM lM oM ?_)
  obtain ⟨b6, hb6⟩ : ∃ b, b = w2.heap.size := ⟨_, rfl⟩
  obtain ⟨w3, hw3⟩ : ∃ w4, w4 = (w2.alloc (.cells (num 0) 25)).setRow w2.heap.size M := ⟨_, rfl⟩
  have Z3 : Hid (Chg w w3 ∧ Ar w3 w.heap.size A ∧ Ar w3 (w.heap.size + 1) (num 0) ∧ Ar w3 b6 M ∧ w.heap.size + 1 < b6) := by
    have hl := Z2.out.2.2.lt
    have k : Chg w2 ((w2.alloc (.cells (num 0) 25)).setRow w2.heap.size M) := ((Chg.refl w2).alloc _).setRow (Nat.le_refl _) _
    rw [hw3, hb6]
    exact ⟨Z2.out.1.trans k, Z2.out.2.1.chg k, Z2.out.2.2.chg k, (Ar.new w2 _ _).row _, hl⟩
  rw [← hw3, ← hb6]
  clear hw3 hb6 Z2 sM lM oM
  go_upto_region 3 with (first | refine wpList_store_row rfl 25 _ _ rfl _ _ rfl rfl _ _ (heap_alloc_last w3 _) (szN 0) rfl (num_one 0) ?_)
  obtain ⟨b7, hb7⟩ : ∃ b, b = w3.heap.size := ⟨_, rfl⟩
  obtain ⟨w4, hw4⟩ : ∃ w4, w4 = (w3.alloc (.cells (num 0) 25)).setRow w3.heap.size (num 0) := ⟨_, rfl⟩
  have Z4 : Hid (Chg w w4 ∧ Ar w4 w.heap.size A ∧ Ar w4 (w.heap.size + 1) (num 0) ∧ Ar w4 b6 M ∧ Ar w4 b7 (num 0) ∧ w.heap.size + 1 < b6 ∧ b6 < b7) := by
    have hl := Z3.out.2.2.2.1.lt
    have k : Chg w3 ((w3.alloc (.cells (num 0) 25)).setRow w3.heap.size (num 0)) := ((Chg.refl w3).alloc _).setRow (Nat.le_refl _) _
    rw [hw4, hb7]
    exact ⟨Z3.out.1.trans k, Z3.out.2.1.chg k, Z3.out.2.2.1.chg k, Z3.out.2.2.2.1.chg k, (Ar.new w3 _ _).row _, Z3.out.2.2.2.2, hl⟩
  rw [← hw4, ← hb7]
  clear hw4 hb7 Z3
  obtain ⟨iA, -⟩ := HI.out
  have r3 := rangeA Z4.out.2.1
  go_wp2_with (first
    | refine wpList_load_mid rfl 25 (.tmp 3) rfl _ _ rfl (A.toList) _ r3 Go.Proofs.Ytnahkcapbbjfdaa.u25 rfl iA ?_)
  rw [num_set1]
  go_at_call 15
  refine (HMu.out _).mono ?_
  rintro r' w5 ⟨rfl, hc5⟩
  have Z5 : Hid (Chg w w5 ∧ Ar w5 w.heap.size A ∧ Ar w5 (w.heap.size + 1) (num 0) ∧ Ar w5 b6 M ∧ Ar w5 b7 (num 0) ∧ w.heap.size + 1 < b6 ∧ b6 < b7) := ⟨Z4.out.1.trans hc5, Z4.out.2.1.chg hc5, Z4.out.2.2.1.chg hc5, Z4.out.2.2.2.1.chg hc5, Z4.out.2.2.2.2.1.chg hc5, Z4.out.2.2.2.2.2⟩
  clear hc5 Z4 r3
  go_upto_region 4 with (first | refine wpList_store_row rfl 25 _ _ rfl _ _ rfl rfl _ _ (heap_alloc_last w5 _) sS lS oS ?_)
  obtain ⟨b8, hb8⟩ : ∃ b, b = w5.heap.size := ⟨_, rfl⟩
  obtain ⟨w6, hw6⟩ : ∃ w4, w4 = (w5.alloc (.cells (num 0) 25)).setRow w5.heap.size S := ⟨_, rfl⟩
  have Z6 : Hid (RR w w6 b6 b7 b8 A M (num 0) S) := by
    have hl := Z5.out.2.2.2.2.1.lt
    have k : Chg w5 ((w5.alloc (.cells (num 0) 25)).setRow w5.heap.size S) := ((Chg.refl w5).alloc _).setRow (Nat.le_refl _) _
    obtain ⟨q0, q1, q2, q3, q4, l6, l7⟩ := Z5.out
    rw [hw6, hb8]
    exact ⟨q0.trans k, q1.chg k, q2.chg k, q3.chg k, q4.chg k, (Ar.new w5 _ _).row _, l6, l7, hl⟩
  rw [← hw6, ← hb8]
  clear hw6 hb8 Z5 sS lS oS
  obtain ⟨t4, g4⟩ := Z6.out.r2
  go_wp2_with (first | refine wpList_store_row rfl 25 _ _ rfl _ _ rfl rfl _ _ g4 (szN 0) rfl (num_one 0) ?_)
  exact bp_ct (n := 4) (c := num 0) (x := .bool false) Try.results28 rfl rfl rfl (Z6.out.r2.row _) Go.Proofs.Ytnahkcapbbjfdaa.u25 i25 (num_size 0) ⟨rfl, Z6.out.chg.setRow (by omega) _⟩

set_option maxRecDepth 100000 in
set_option maxHeartbeats 16000000 in
theorem root0_any (f a : Int) (h1 : ¬ f = 1) (h2 : ¬ f = 2) (w : World) : Calls Try.prog 27 #[.int .i64 f, .agg (num a)] w fun r w' => r = .returned (.tuple #[.agg (num 0), .bool false]) ∧ Chg w w' := by
  have e1 : (f == 1) = false := by simp [h1]
  have e2 : (f == 2) = false := by simp [h2]
  have hz := zero25.1
  have hsA := num_size a
  obtain ⟨A, hA⟩ : ∃ A, A = num a := ⟨_, rfl⟩
  rw [← hA] at hsA ⊢
  clear hA h1 h2
  go_enter Try.func27, Try.ntmps27
  go_upto_region 2 with fail
  obtain ⟨w1, hw1⟩ : ∃ w1, w1 = ((w.alloc (.cells A 25)).alloc (.cells (num 0) 25)).alloc (.cells (num 0) 25) := ⟨_, rfl⟩
  have Z : Hid (Chg w w1 ∧ Ar w1 (w.heap.size + 1) (num 0)) := by
    rw [hw1]
    exact ⟨(((Chg.refl w).alloc _).alloc _).alloc _, (Ar.new1 w _ _ _).alloc _⟩
  rw [← hw1]
  clear hw1 hsA
  obtain ⟨t4, g4⟩ := Z.out.2
  go_wp2_with (first | refine wpList_store_row rfl 25 _ _ rfl _ _ rfl rfl _ _ g4 (szN 0) rfl (num_one 0) ?_)
  exact bp_ct (n := 4) (c := num 0) (x := .bool false) Try.results27 rfl rfl rfl (Z.out.2.row _) Go.Proofs.Ytnahkcapbbjfdaa.u25 i25 (num_size 0) ⟨rfl, Z.out.1.setRow (by omega) _⟩

theorem rootP_any (f a : Int) (ha : N256 a) (w : World) : Calls Try.prog 27 #[.int .i64 f, .agg (num a)] w fun r w' => r = .returned (.tuple #[.agg (num (rtN f a)), .bool (rtB f a)]) ∧ Chg w w' := by
  unfold rtN rtB
  by_cases h1 : f = 1
  · subst h1
    rw [if_pos rfl, if_pos rfl]
    exact root1_any a ha w
  · by_cases h2 : f = 2
    · subst h2
      rw [if_neg h1, if_pos rfl, if_neg h1, if_pos rfl]
      exact root2_any a ha w
    · rw [if_neg h1, if_neg h2, if_neg h1, if_neg h2]
      exact root0_any f a h1 h2 w
theorem rootR_any (f a : Int) (ha : N256 a) (w : World) : Calls Try.prog 28 #[.int .i64 f, .agg (num a)] w fun r w' => r = .returned (.tuple #[.agg (num (rtN f a)), .bool (rtB f a)]) ∧ Chg w w' := by
  unfold rtN rtB
  by_cases h1 : f = 1
  · subst h1
    rw [if_pos rfl, if_pos rfl]
    exact rootR1_any a ha w
  · by_cases h2 : f = 2
    · subst h2
      rw [if_neg h1, if_pos rfl, if_neg h1, if_pos rfl]
      exact rootR2_any a ha w
    · rw [if_neg h1, if_neg h2, if_neg h1, if_neg h2]
      exact rootR0_any f a h1 h2 ha w
end Go.Proofs.Ytnahkcapbbjfdaa

namespace Go.Proofs.Ytnahkcapbbjfdaa
open Go.RowKit
set_option linter.unusedVariables false

structure LR (w wr : World) (b6 b8 b10 b11 : Nat) (A R S R2 : Array Value) : Prop where
  chg : Chg w wr
  r3 : Ar wr w.heap.size A
  r6 : Ar wr b6 R
  r8 : Ar wr b8 R
  r10 : Ar wr b10 S
  r11 : Ar wr b11 R2
theorem LR.to {w wr u : World} {b6 b8 b10 b11 : Nat} {A R S R2 : Array Value} (h : LR w wr b6 b8 b10 b11 A R S R2) (k : Chg wr u) : LR w u b6 b8 b10 b11 A R S R2 := ⟨h.chg.trans k, h.r3.chg k, h.r6.chg k, h.r8.chg k, h.r10.chg k, h.r11.chg k⟩
theorem chg_new (w : World) (X Y : Array Value) (t : TypeId) : Chg w ((w.alloc (.cells X t)).setRow w.heap.size Y) := ((Chg.refl w).alloc _).setRow (Nat.le_refl _) _

theorem num_lit (x : Int) : num x = #[.int .u64 (dg B64 x 0), .int .u64 (dg B64 x 1), .int .u64 (dg B64 x 2), .int .u64 (dg B64 x 3)] := rfl
theorem four_of {w : World} {b : Nat} {R : Array Value} {x p0 p1 p2 p3 : Int} (h : Ar w b R) (e : R = num x ∧ p0 = dg B64 x 0 ∧ p1 = dg B64 x 1 ∧ p2 = dg B64 x 2 ∧ p3 = dg B64 x 3) : w.cell? ⟨b, 0, none⟩ = some (.int .u64 p0) ∧ w.cell? ⟨b, 1, none⟩ = some (.int .u64 p1) ∧ w.cell? ⟨b, 2, none⟩ = some (.int .u64 p2) ∧ w.cell? ⟨b, 3, none⟩ = some (.int .u64 p3) := by
  obtain ⟨rfl, rfl, rfl, rfl, rfl⟩ := e
  exact Ar.four (d := dg B64 x) h
theorem eq_lit {x p0 p1 p2 p3 : Int} (hx : N256 x) (h0 : p0 = dg B64 x 0) (h1 : p1 = dg B64 x 1) (h2 : p2 = dg B64 x 2) (h3 : p3 = dg B64 x 3) (u : World) : (Op.equalIn 10000 25 (.agg #[.int .u64 p0, .int .u64 p1, .int .u64 p2, .int .u64 p3]) (.agg #[.int .u64 p0, .int .u64 p1, .int .u64 p2, .int .u64 p3])).run Try.prog u = .ok true u := by
  have h := eq_self hx u
  rw [num_lit] at h
  rw [h0, h1, h2, h3]
  exact h

set_option maxRecDepth 100000 in
set_option maxHeartbeats 16000000 in
theorem roots_walk (f a : Int) (ha : N256 a) (w : World) : Calls Try.prog 5 #[.int .i64 f, .agg (num a)] w fun r w' => r = .returned (.bool true) ∧ Chg w w' := by
  have hz := zero25.1
  have hsA := num_size a
  obtain ⟨s, hs⟩ : ∃ s, s = md f (a * a) := ⟨_, rfl⟩
  have hsN : N256 s := by rw [hs]; exact md_N f _
  obtain ⟨x, hx⟩ : ∃ x, x = rtN f a := ⟨_, rfl⟩
  obtain ⟨y, hy⟩ : ∃ x, x = rtN f s := ⟨_, rfl⟩
  have hyN : N256 y := by rw [hy]; exact rtN_N f s
  have hxN : N256 x := by rw [hx]; exact rtN_N f a
  obtain ⟨B, hB⟩ : ∃ x, x = rtB f a := ⟨_, rfl⟩
  obtain ⟨B2, hB2⟩ : ∃ x, x = rtB f s := ⟨_, rfl⟩
  have HG : Hid (f = 1 ∨ f = 2 → B2 = true ∧ md f (y * y) = s ∧ dg 2 y 0 = 0) := by
    intro h
    have hf : f = 1 ∨ f = 2 ∨ f = 3 ∨ f = 4 := by omega
    have g := rt_good h ha.1
    rw [hB2, hy, hs, md_in hf, md_in hf]
    exact g
  obtain ⟨A, hA⟩ : ∃ A, A = num a := ⟨_, rfl⟩
  obtain ⟨R, hR⟩ : ∃ A, A = num x := ⟨_, rfl⟩
  obtain ⟨S, hS⟩ : ∃ A, A = num s := ⟨_, rfl⟩
  obtain ⟨R2, hR2⟩ : ∃ A, A = num y := ⟨_, rfl⟩
  obtain ⟨SS, hSS⟩ : ∃ A, A = num (md f (y * y)) := ⟨_, rfl⟩
  have HK : Hid ((∀ W, Calls Try.prog 27 #[.int .i64 f, .agg A] W fun r w' => r = .returned (.tuple #[.agg R, .bool B]) ∧ Chg W w') ∧ (∀ W, Calls Try.prog 28 #[.int .i64 f, .agg A] W fun r w' => r = .returned (.tuple #[.agg R, .bool B]) ∧ Chg W w') ∧ (∀ W, Calls Try.prog 15 #[.int .i64 f, .agg A, .agg A] W fun r w' => r = .returned (.agg S) ∧ Chg W w') ∧ (∀ W, Calls Try.prog 27 #[.int .i64 f, .agg S] W fun r w' => r = .returned (.tuple #[.agg R2, .bool B2]) ∧ Chg W w') ∧ (∀ W, Calls Try.prog 14 #[.int .i64 f, .agg R2, .agg R2] W fun r w' => r = .returned (.agg SS) ∧ Chg W w')) := by
    refine ⟨fun W => ?_, fun W => ?_, fun W => ?_, fun W => ?_, fun W => ?_⟩
    · rw [hA, hR, hx, hB]
      exact rootP_any f a ha W
    · rw [hA, hR, hx, hB]
      exact rootR_any f a ha W
    · rw [hA, hS, hs]
      exact mulR_any f a a ha ha W
    · rw [hS, hR2, hy, hB2]
      exact rootP_any f s hsN W
    · rw [hR2, hSS]
      exact mulM_any f y y hyN hyN W
  obtain ⟨p0, hp0⟩ : ∃ z, z = dg B64 x 0 := ⟨_, rfl⟩
  obtain ⟨p1, hp1⟩ : ∃ z, z = dg B64 x 1 := ⟨_, rfl⟩
  obtain ⟨p2, hp2⟩ : ∃ z, z = dg B64 x 2 := ⟨_, rfl⟩
  obtain ⟨p3, hp3⟩ : ∃ z, z = dg B64 x 3 := ⟨_, rfl⟩
  obtain ⟨s0, hs0⟩ : ∃ z, z = dg B64 s 0 := ⟨_, rfl⟩
  obtain ⟨s1, hs1⟩ : ∃ z, z = dg B64 s 1 := ⟨_, rfl⟩
  obtain ⟨s2, hs2⟩ : ∃ z, z = dg B64 s 2 := ⟨_, rfl⟩
  obtain ⟨s3, hs3⟩ : ∃ z, z = dg B64 s 3 := ⟨_, rfl⟩
  have HQ : Hid ((∀ u, (Op.equalIn 10000 25 (.agg #[.int .u64 p0, .int .u64 p1, .int .u64 p2, .int .u64 p3]) (.agg #[.int .u64 p0, .int .u64 p1, .int .u64 p2, .int .u64 p3])).run Try.prog u = .ok true u) ∧ (∀ u, (Op.equalIn 10000 25 (.agg #[.int .u64 s0, .int .u64 s1, .int .u64 s2, .int .u64 s3]) (.agg #[.int .u64 s0, .int .u64 s1, .int .u64 s2, .int .u64 s3])).run Try.prog u = .ok true u)) := ⟨fun u => eq_lit hxN hp0 hp1 hp2 hp3 u, fun u => eq_lit hsN hs0 hs1 hs2 hs3 u⟩
  have HL : Hid ((R = num x ∧ p0 = dg B64 x 0 ∧ p1 = dg B64 x 1 ∧ p2 = dg B64 x 2 ∧ p3 = dg B64 x 3) ∧ (S = num s ∧ s0 = dg B64 s 0 ∧ s1 = dg B64 s 1 ∧ s2 = dg B64 s 2 ∧ s3 = dg B64 s 3)) := ⟨⟨hR, hp0, hp1, hp2, hp3⟩, hS, hs0, hs1, hs2, hs3⟩
  clear hp0 hp1 hp2 hp3 hs0 hs1 hs2 hs3
  have HSR : Hid ((Try.prog.info? 25).map (·.size) = some R.size ∧ (num 0).size = R.size ∧ R.all (·.oneCell') = true ∧ (Try.prog.info? 25).map (·.size) = some R.toList.length) := by rw [hR]; exact ⟨szN _, lenN _ _, num_one _, infoN _⟩
  have HSS : Hid ((Try.prog.info? 25).map (·.size) = some S.size ∧ (num 0).size = S.size ∧ S.all (·.oneCell') = true ∧ (Try.prog.info? 25).map (·.size) = some S.toList.length) := by rw [hS]; exact ⟨szN _, lenN _ _, num_one _, infoN _⟩
  have HSY : Hid ((Try.prog.info? 25).map (·.size) = some R2.size ∧ (num 0).size = R2.size ∧ R2.all (·.oneCell') = true ∧ (Try.prog.info? 25).map (·.size) = some R2.toList.length) := by rw [hR2]; exact ⟨szN _, lenN _ _, num_one _, infoN _⟩
  have HSA : Hid ((Try.prog.info? 25).map (·.size) = some A.toList.length) := by rw [hA]; exact infoN _
  have HE : Hid (R2 = num y ∧ SS = num (md f (y * y)) ∧ S = num s) := ⟨hR2, hSS, hS⟩
  rw [← hA] at hsA ⊢
  clear hA hR hS hR2 hSS hs hsN hx hy hyN hxN hB hB2 ha
  go_enter Try.func5, Try.ntmps5
  go_upto_region 1 with fail
  obtain ⟨w0, hw0⟩ : ∃ w0, w0 = w.alloc (.cells A 25) := ⟨_, rfl⟩
  have Z0 : Hid (Chg w w0 ∧ Ar w0 w.heap.size A) := by
    rw [hw0]
    exact ⟨(Chg.refl w).alloc _, Ar.new w _ _⟩
  rw [← hw0]
  clear hw0 hsA
  go_wp2_with fail
  go_at_call 9
  refine (head_any _).mono ?_
  rintro r w1 ⟨rfl, hc1⟩
  have Z1 : Hid (Chg w w1 ∧ Ar w1 w.heap.size A) := ⟨Z0.out.1.trans hc1, Z0.out.2.chg hc1⟩
  clear hc1 Z0
  have iA := HSA.out
  obtain ⟨sR, lR, oR, iR⟩ := HSR.out
  have r3 := rangeA Z1.out.2
  go_wp2_with (first
    | refine wpList_load_mid rfl 25 (.tmp 3) rfl _ _ rfl (A.toList) _ r3 Go.Proofs.Ytnahkcapbbjfdaa.u25 rfl iA ?_)
  go_at_call 27
  refine (HK.out.1 _).mono ?_
  rintro r w2 ⟨rfl, hc2⟩
  have Z2 : Hid (Chg w w2 ∧ Ar w2 w.heap.size A) := by
    obtain ⟨k0, k1⟩ := Z1.out
    exact ⟨k0.trans hc2, k1.chg hc2⟩
  clear hc2 Z1
  go_upto_region 3 with (first | refine wpList_store_row rfl 25 _ _ rfl _ _ rfl rfl _ _ (heap_alloc_last w2 _) sR lR oR ?_)
  obtain ⟨b6, hb6⟩ : ∃ b, b = w2.heap.size := ⟨_, rfl⟩
  obtain ⟨w3, hw3⟩ : ∃ v, v = (w2.alloc (.cells (num 0) 25)).setRow w2.heap.size R := ⟨_, rfl⟩
  have Z3 : Hid (Chg w w3 ∧ Ar w3 w.heap.size A ∧ Ar w3 b6 R) := by
    obtain ⟨k0, k1⟩ := Z2.out
    have kk := chg_new w2 (num 0) R 25
    rw [hw3, hb6]
    exact ⟨k0.trans kk, k1.chg kk, (Ar.new w2 _ _).row _⟩
  rw [← hw3, ← hb6]
  clear hw3 hb6 Z2
  clear r3
  have r3 := rangeA Z3.out.2.1
  go_wp2_with (first
    | refine wpList_load_mid rfl 25 (.tmp 3) rfl _ _ rfl (A.toList) _ r3 Go.Proofs.Ytnahkcapbbjfdaa.u25 rfl iA ?_)
  go_at_call 28
  refine (HK.out.2.1 _).mono ?_
  rintro r w4 ⟨rfl, hc4⟩
  have Z4 : Hid (Chg w w4 ∧ Ar w4 w.heap.size A ∧ Ar w4 b6 R) := by
    obtain ⟨k0, k1, k2⟩ := Z3.out
    exact ⟨k0.trans hc4, k1.chg hc4, k2.chg hc4⟩
  clear hc4 Z3
  go_upto_region 4 with (first | refine wpList_store_row rfl 25 _ _ rfl _ _ rfl rfl _ _ (heap_alloc_last w4 _) sR lR oR ?_)
  obtain ⟨b8, hb8⟩ : ∃ b, b = w4.heap.size := ⟨_, rfl⟩
  obtain ⟨w5, hw5⟩ : ∃ v, v = (w4.alloc (.cells (num 0) 25)).setRow w4.heap.size R := ⟨_, rfl⟩
  have Z5 : Hid (Chg w w5 ∧ Ar w5 w.heap.size A ∧ Ar w5 b6 R ∧ Ar w5 b8 R) := by
    obtain ⟨k0, k1, k2⟩ := Z4.out
    have kk := chg_new w4 (num 0) R 25
    rw [hw5, hb8]
    exact ⟨k0.trans kk, k1.chg kk, k2.chg kk, (Ar.new w4 _ _).row _⟩
  rw [← hw5, ← hb8]
  clear hw5 hb8 Z4
  clear r3
  have r3 := rangeA Z5.out.2.1
  obtain ⟨sS, lS, oS, iS⟩ := HSS.out
  go_wp2_with (first
    | refine wpList_load_mid rfl 25 (.tmp 3) rfl _ _ rfl (A.toList) _ r3 Go.Proofs.Ytnahkcapbbjfdaa.u25 rfl iA ?_)
  go_at_call 15
  refine (HK.out.2.2.1 _).mono ?_
  rintro r w6 ⟨rfl, hc6⟩
  have Z6 : Hid (Chg w w6 ∧ Ar w6 w.heap.size A ∧ Ar w6 b6 R ∧ Ar w6 b8 R) := by
    obtain ⟨k0, k1, k2, k3⟩ := Z5.out
    exact ⟨k0.trans hc6, k1.chg hc6, k2.chg hc6, k3.chg hc6⟩
  clear hc6 Z5
  go_upto_region 5 with (first | refine wpList_store_row rfl 25 _ _ rfl _ _ rfl rfl _ _ (heap_alloc_last w6 _) sS lS oS ?_)
  obtain ⟨b10, hb10⟩ : ∃ b, b = w6.heap.size := ⟨_, rfl⟩
  obtain ⟨w7, hw7⟩ : ∃ v, v = (w6.alloc (.cells (num 0) 25)).setRow w6.heap.size S := ⟨_, rfl⟩
  have Z7 : Hid (Chg w w7 ∧ Ar w7 w.heap.size A ∧ Ar w7 b6 R ∧ Ar w7 b8 R ∧ Ar w7 b10 S) := by
    obtain ⟨k0, k1, k2, k3⟩ := Z6.out
    have kk := chg_new w6 (num 0) S 25
    rw [hw7, hb10]
    exact ⟨k0.trans kk, k1.chg kk, k2.chg kk, k3.chg kk, (Ar.new w6 _ _).row _⟩
  rw [← hw7, ← hb10]
  clear hw7 hb10 Z6
  clear r3
  have r10 := rangeA Z7.out.2.2.2.2
  obtain ⟨sY, lY, oY, iY⟩ := HSY.out
  go_wp2_with (first
    | refine wpList_load_mid rfl 25 (.tmp 10) rfl _ _ rfl (S.toList) _ r10 Go.Proofs.Ytnahkcapbbjfdaa.u25 rfl iS ?_)
  go_at_call 27
  refine (HK.out.2.2.2.1 _).mono ?_
  rintro r w8 ⟨rfl, hc8⟩
  have Z8 : Hid (Chg w w8 ∧ Ar w8 w.heap.size A ∧ Ar w8 b6 R ∧ Ar w8 b8 R ∧ Ar w8 b10 S) := by
    obtain ⟨k0, k1, k2, k3, k4⟩ := Z7.out
    exact ⟨k0.trans hc8, k1.chg hc8, k2.chg hc8, k3.chg hc8, k4.chg hc8⟩
  clear hc8 Z7
  go_upto_region 6 with (first | refine wpList_store_row rfl 25 _ _ rfl _ _ rfl rfl _ _ (heap_alloc_last w8 _) sY lY oY ?_)
  obtain ⟨b11, hb11⟩ : ∃ b, b = w8.heap.size := ⟨_, rfl⟩
  obtain ⟨w9, hw9⟩ : ∃ v, v = (w8.alloc (.cells (num 0) 25)).setRow w8.heap.size R2 := ⟨_, rfl⟩
  have Z9 : Hid (Chg w w9 ∧ Ar w9 w.heap.size A ∧ Ar w9 b6 R ∧ Ar w9 b8 R ∧ Ar w9 b10 S ∧ Ar w9 b11 R2) := by
    obtain ⟨k0, k1, k2, k3, k4⟩ := Z8.out
    have kk := chg_new w8 (num 0) R2 25
    rw [hw9, hb11]
    exact ⟨k0.trans kk, k1.chg kk, k2.chg kk, k3.chg kk, k4.chg kk, (Ar.new w8 _ _).row _⟩
  rw [← hw9, ← hb11]
  clear hw9 hb11 Z8
  clear r10
  have Z : Hid (LR w w9 b6 b8 b10 b11 A R S R2) := by
    obtain ⟨k0, k1, k2, k3, k4, k5⟩ := Z9.out
    exact ⟨k0, k1, k2, k3, k4, k5⟩
  clear Z9 sS lS oS sY lY oY
  have hq := HQ.out.1
  by_cases hf : f = 1
  · have e1 : (f == 1) = true := by simp [hf]
    have e2 : (f == 2) = false := by simp [hf]
    obtain ⟨g1, g2, g3⟩ := HG.out (.inl hf)
    subst g1
    have HC : Hid (SS = S) := by
      show SS = S
      rw [HE.out.2.1, HE.out.2.2, g2]
    have G3 : Hid (dg 2 y 0 = 0) := g3
    clear g2 g3 hf
    have r11 := rangeA Z.out.r11
    go_wp2_with (first
      | refine wpList_load_mid rfl 25 (.tmp 11) rfl _ _ rfl (R2.toList) _ r11 Go.Proofs.Ytnahkcapbbjfdaa.u25 rfl iY ?_)
    go_at_call 14
    refine (HK.out.2.2.2.2 _).mono ?_
    rintro r w10 ⟨rfl, hc10⟩
    rw [HC.out]
    have Z10 : Hid (LR w w10 b6 b8 b10 b11 A R S R2) := Z.out.to hc10
    clear hc10 Z r11
    obtain ⟨sS, lS, oS, -⟩ := HSS.out
    go_upto_region 8 with (first | refine wpList_store_row rfl 25 _ _ rfl _ _ rfl rfl _ _ (heap_alloc_last w10 _) sS lS oS ?_)
    obtain ⟨b13, hb13⟩ : ∃ b, b = w10.heap.size := ⟨_, rfl⟩
    obtain ⟨w11, hw11⟩ : ∃ v, v = (w10.alloc (.cells (num 0) 25)).setRow w10.heap.size S := ⟨_, rfl⟩
    have Z11 : Hid (LR w w11 b6 b8 b10 b11 A R S R2 ∧ Ar w11 b13 S) := by
      rw [hw11, hb13]
      exact ⟨Z10.out.to (chg_new _ _ _ _), (Ar.new w10 _ _).row _⟩
    rw [← hw11, ← hb13]
    clear hw11 hb13 Z10 sS lS oS
    obtain ⟨c130, c131, c132, c133⟩ := four_of Z11.out.2 HL.out.2
    obtain ⟨c100, c101, c102, c103⟩ := four_of Z11.out.1.r10 HL.out.2
    have hq2 := HQ.out.2
    have c11 : w11.cell? ⟨b11, 0, none⟩ = some (.int .u64 (dg B64 y 0)) := by
      have h := Z11.out.1.r11
      rw [HE.out.1] at h
      exact (h.cell 0).trans (arr_get _ _ _ (by decide))
    have em := low_bit y
    rw [G3.out] at em
    obtain ⟨d, hd⟩ : ∃ d, d = dg B64 y 0 := ⟨_, rfl⟩
    rw [← hd] at c11 em
    clear hd
    have Z12 : Hid (LR w w11 b6 b8 b10 b11 A R S R2) := Z11.out.1
    obtain ⟨c60, c61, c62, c63⟩ := four_of Z12.out.r6 HL.out.1
    obtain ⟨c80, c81, c82, c83⟩ := four_of Z12.out.r8 HL.out.1
    cases B with
    | false =>
      have bq : (false == false) = true := rfl
      go_wp2_with fail
      go_ret
      exact ⟨rfl, Z12.out.chg⟩
    | true =>
      have bq : (true == true) = true := rfl
      go_wp2_with fail
      go_ret
      exact ⟨rfl, Z12.out.chg⟩
  · by_cases hf2 : f = 2
    · have e1 : (f == 1) = false := by simp [hf]
      have e2 : (f == 2) = true := by simp [hf2]
      obtain ⟨g1, g2, g3⟩ := HG.out (.inr hf2)
      subst g1
      have HC : Hid (SS = S) := by
        show SS = S
        rw [HE.out.2.1, HE.out.2.2, g2]
      have G3 : Hid (dg 2 y 0 = 0) := g3
      clear g2 g3 hf hf2
      have r11 := rangeA Z.out.r11
      go_wp2_with (first
        | refine wpList_load_mid rfl 25 (.tmp 11) rfl _ _ rfl (R2.toList) _ r11 Go.Proofs.Ytnahkcapbbjfdaa.u25 rfl iY ?_)
      go_at_call 14
      refine (HK.out.2.2.2.2 _).mono ?_
      rintro r w10 ⟨rfl, hc10⟩
      rw [HC.out]
      have Z10 : Hid (LR w w10 b6 b8 b10 b11 A R S R2) := Z.out.to hc10
      clear hc10 Z r11
      obtain ⟨sS, lS, oS, -⟩ := HSS.out
      go_upto_region 8 with (first | refine wpList_store_row rfl 25 _ _ rfl _ _ rfl rfl _ _ (heap_alloc_last w10 _) sS lS oS ?_)
      obtain ⟨b13, hb13⟩ : ∃ b, b = w10.heap.size := ⟨_, rfl⟩
      obtain ⟨w11, hw11⟩ : ∃ v, v = (w10.alloc (.cells (num 0) 25)).setRow w10.heap.size S := ⟨_, rfl⟩
      have Z11 : Hid (LR w w11 b6 b8 b10 b11 A R S R2 ∧ Ar w11 b13 S) := by
        rw [hw11, hb13]
        exact ⟨Z10.out.to (chg_new _ _ _ _), (Ar.new w10 _ _).row _⟩
      rw [← hw11, ← hb13]
      clear hw11 hb13 Z10 sS lS oS
      obtain ⟨c130, c131, c132, c133⟩ := four_of Z11.out.2 HL.out.2
      obtain ⟨c100, c101, c102, c103⟩ := four_of Z11.out.1.r10 HL.out.2
      have hq2 := HQ.out.2
      have c11 : w11.cell? ⟨b11, 0, none⟩ = some (.int .u64 (dg B64 y 0)) := by
        have h := Z11.out.1.r11
        rw [HE.out.1] at h
        exact (h.cell 0).trans (arr_get _ _ _ (by decide))
      have em := low_bit y
      rw [G3.out] at em
      obtain ⟨d, hd⟩ : ∃ d, d = dg B64 y 0 := ⟨_, rfl⟩
      rw [← hd] at c11 em
      clear hd
      have Z12 : Hid (LR w w11 b6 b8 b10 b11 A R S R2) := Z11.out.1
      obtain ⟨c60, c61, c62, c63⟩ := four_of Z12.out.r6 HL.out.1
      obtain ⟨c80, c81, c82, c83⟩ := four_of Z12.out.r8 HL.out.1
      cases B with
      | false =>
        have bq : (false == false) = true := rfl
        go_wp2_with fail
        go_ret
        exact ⟨rfl, Z12.out.chg⟩
      | true =>
        have bq : (true == true) = true := rfl
        go_wp2_with fail
        go_ret
        exact ⟨rfl, Z12.out.chg⟩
    · have e1 : (f == 1) = false := by simp [hf]
      have e2 : (f == 2) = false := by simp [hf2]
      clear hf hf2
      obtain ⟨c60, c61, c62, c63⟩ := four_of Z.out.r6 HL.out.1
      obtain ⟨c80, c81, c82, c83⟩ := four_of Z.out.r8 HL.out.1
      cases B with
      | false =>
        have bq : (false == false) = true := rfl
        go_wp2_with fail
        go_ret
        exact ⟨rfl, Z.out.chg⟩
      | true =>
        have bq : (true == true) = true := rfl
        go_wp2_with fail
        go_ret
        exact ⟨rfl, Z.out.chg⟩
end Go.Proofs.Ytnahkcapbbjfdaa
