/-
  A stream goes on where it was left; a code of noughts as a key is what is added: ChachaCounts walked.
-/
import Derived.Test.YtkdidacebfkdmaaPol
import Derived.Test.YtkdidacebfkdmaaStv
namespace Go.Proofs.Ytkdidacebfkdmaa
open Go.RowKit
set_option linter.unusedVariables false

theorem str_app (xs ys : List Int) : strOfNums (xs ++ ys) = strOfNums xs ++ strOfNums ys := by
  apply ByteArray.ext
  simp [strOfNums]
theorem str_size (xs : List Int) : (strOfNums xs).size = xs.length := by simp [strOfNums, ByteArray.size]
theorem run_cv32 (x : Nat) (hx : x < 256) (w : World) : (convert 3 23 (.int .i64 (x : Int))).run Try.prog w = .ok (.int .u32 (x : Int)) w := by
  have h : IntKind.u32.wrap (x : Int) = x := by rw [IntKind.wrap_u32]; omega
  simp [go_sem, h]
theorem nmAddN (x : Wd) (n : Nat) : ∃ z : Wd, Hid (z = x + BitVec.ofNat 32 n) ∧ IntKind.u32.wrap ((x.toNat : Int) + (n : Int)) = (z.toNat : Int) := ⟨_, rfl, by rw [BitVec.toNat_add, BitVec.toNat_ofNat, IntKind.wrap_u32]; omega⟩
theorem st_more (key nonce txt : Nat → By) (c : Wd) {p bk : Nat} (hp : p = 64 * bk) (i : Nat) : stF key (c + BitVec.ofNat 32 bk) nonce (fun i => txt (p + i)) i = stF key c nonce txt (p + i) := by
  unfold stF
  rw [hp, show (64 * bk + i) / 64 = bk + i / 64 by omega, show (64 * bk + i) % 64 = i % 64 by omega, BitVec.add_assoc, BitVec.ofNat_add]

/-- A key whose first bytes are noughts. -/
def zU (i : Nat) (key : Nat → By) : Nat → By := fun j => if j < i then 0#8 else key j
theorem zU_zero (key : Nat → By) : zU 0 key = key := by funext j; simp [zU]
theorem zU_succ (key : Nat → By) (i : Nat) : updB (zU i key) i 0#8 = zU (i + 1) key := by
  funext j
  unfold updB zU
  by_cases h : j = i
  · subst h; simp
  · have e : (j < i + 1) = (j < i) := by rw [eq_iff_iff]; omega
    simp [h, e]
theorem rK_zero (key : Nat → By) : rK (zU 16 key) = 0 := by
  unfold rK
  have : val 256 16 (nmF (clF (zU 16 key))) = val 256 16 (fun _ => 0) := val_congr fun i hi => by
    unfold nmF clF zU
    rw [if_pos hi, if_pos hi]
    split
    · rfl
    · split <;> rfl
  rw [this, val_zero]
theorem pac_zero (txt : Nat → By) (n m : Nat) : pac 0 txt n m = 0 := by
  cases m with
  | zero => rfl
  | succ m => show _ * 0 % _ = 0; rw [Int.mul_zero]; rfl
/-- A number's digit. -/
theorem val_dig {B : Int} (hB : 0 < B) {d : Nat → Int} {n : Nat} (h : ∀ i, i < n → 0 ≤ d i ∧ d i < B) : ∀ i, i < n → val B n d / B ^ i % B = d i := by
  induction n with
  | zero => intro i hi; omega
  | succ n ih =>
    intro i hi
    have b := val_bound hB (fun j hj => h j (Nat.lt_succ_of_lt hj)) (n := n)
    rw [val1]
    by_cases e : i = n
    · subst e
      rw [Int.add_mul_ediv_right _ _ (Int.ne_of_gt (Int.pow_pos hB)), Int.ediv_eq_zero_of_lt b.1 b.2, Int.zero_add]
      exact Int.emod_eq_of_lt (h i hi).1 (h i hi).2
    · have e1 : B ^ n = B ^ (n - i - 1) * B * B ^ i := by rw [← Int.pow_succ, ← Int.pow_add]; congr 1; omega
      rw [e1, ← Int.mul_assoc, Int.add_mul_ediv_right _ _ (Int.ne_of_gt (Int.pow_pos hB)), ← Int.mul_assoc, Int.add_mul_emod_self_right]
      exact ih (fun j hj => h j (by omega)) i (by omega)
theorem pol_zero (key txt : Nat → By) (n : Nat) : nums 16 (polF (zU 16 key) txt n) = nums 16 (fun j => key (16 + j)) := by
  refine nums_congr fun i hi => ?_
  unfold polF polN
  rw [rK_zero, pac_zero, Int.zero_add]
  apply BitVec.eq_of_toNat_eq
  have h1 := byF_num (sK (zU 16 key)) i
  have h2 : sK (zU 16 key) / 256 ^ i % 256 = nmF (fun j => zU 16 key (16 + j)) i := val_dig (by decide) (fun j _ => nmF_bound _ j) i hi
  rw [h2] at h1
  have h3 : nmF (fun j => zU 16 key (16 + j)) i = ((key (16 + i)).toNat : Int) := by
    unfold nmF zU
    dsimp only
    rw [if_neg (by omega)]
  omega

set_option maxRecDepth 100000 in
set_option maxHeartbeats 8000000 in
theorem counts_walk (n cap cut : Nat) (ao : Option Addr) (key nonce txt : Nat → By) (c : Wd) (w : World) (ht : Ap.Rd w (.slice ao n cap) (nums n txt)) (hn' : n ≤ 140737488351232) (hcut : cut < 256) :
    Calls Try.prog 7 #[.agg (ba 32 key), .int .u32 (c.toNat : Int), .agg (ba 12 nonce), .slice ao n cap, .int .u8 (cut : Int)] w fun r w' => r = .returned (.bool true) ∧ Chg w w' := by
  have hcap : n ≤ cap ∧ cap ≤ 9223372036854775807 := by
    obtain ⟨_, _, _, e, e1, e2, e3⟩ := ht.shape
    injection e with _ e4 e5
    subst e4 e5
    exact ⟨e2, by simpa [maxLen] using e3⟩
  have HX : Hid (Ap.Rd w (.slice ao n cap) (nums n txt) ∧ n ≤ 140737488351232) := ⟨ht, hn'⟩
  clear ht
  obtain ⟨A, hA⟩ : ∃ A, A = ba 32 key := ⟨_, rfl⟩
  obtain ⟨D, hD⟩ : ∃ D, D = ba 12 nonce := ⟨_, rfl⟩
  have hsA : A.size = 32 := by rw [hA]; exact ba_size _ _
  have hsD : D.size = 12 := by rw [hD]; exact ba_size _ _
  have HAD : Hid (A = ba 32 key ∧ D = ba 12 nonce) := ⟨hA, hD⟩
  rw [← hA, ← hD]
  clear hA hD
  obtain ⟨nq, hnq⟩ : ∃ nq : Nat, (n : Int).tdiv 64 = nq := ⟨n / 64, by rw [Int.tdiv_eq_ediv_of_nonneg (by omega)]; omega⟩
  have hnq' : nq = n / 64 := by rw [Int.tdiv_eq_ediv_of_nonneg (by omega)] at hnq; omega
  have wnq := wrap_i (x := (nq : Int)) (by omega) (by omega)
  obtain ⟨dq, hdq⟩ : ∃ dq : Nat, (nq : Int) + 1 = dq := ⟨nq + 1, by omega⟩
  have wdq := wrap_i (x := (dq : Int)) (by omega) (by omega)
  have wcut := wrap_i (x := (cut : Int)) (by omega) (by omega)
  have hdq0 : ¬ (dq : Int) = 0 := by omega
  obtain ⟨bk, hbk⟩ : ∃ bk : Nat, (cut : Int).tmod dq = bk := ⟨cut % dq, by rw [Int.tmod_eq_emod_of_nonneg (by omega)]; omega⟩
  have hbk' : bk = cut % dq := by rw [Int.tmod_eq_emod_of_nonneg (by omega)] at hbk; omega
  have hbk2 : bk < dq := by rw [hbk']; exact Nat.mod_lt _ (by omega)
  have hbk3 : bk ≤ cut := by rw [hbk']; exact Nat.mod_le _ _
  have wbk := wrap_i (x := (bk : Int)) (by omega) (by omega)
  obtain ⟨p, hp⟩ : ∃ p : Nat, 64 * (bk : Int) = p := ⟨64 * bk, by omega⟩
  have wp := wrap_i (x := (p : Int)) (by omega) (by omega)
  have HP : Hid (bk < 256 ∧ p ≤ n ∧ p ≤ 140737488351232 ∧ p = 64 * bk) := by show _ ∧ _ ∧ _ ∧ _; omega
  obtain ⟨a1, ha1, ha1r⟩ := run_sliceHiA ao n cap p (by omega) hcap.2
  obtain ⟨a2, ha2, ha2r⟩ := run_sliceLoA ao n cap p (by omega) hcap.1 hcap.2
  have HH : Hid ((∀ w, (Instr.sliceAt 25 (.slice ao n cap) none (some (.int .i64 (p : Int))) none).run Try.prog w = .ok (.slice a1 p cap) w) ∧ ∀ u txt, Ap.Rd u (.slice ao n cap) (nums n txt) → p ≤ n → Ap.Rd u (.slice a1 p cap) (nums p txt)) := ⟨ha1, ha1r⟩
  have HL : Hid ((∀ w, (Instr.sliceAt 25 (.slice ao n cap) (some (.int .i64 (p : Int))) none none).run Try.prog w = .ok (.slice a2 (n - p) (cap - p)) w) ∧ ∀ u txt, Ap.Rd u (.slice ao n cap) (nums n txt) → Ap.Rd u (.slice a2 (n - p) (cap - p)) (nums (n - p) fun i => txt (p + i))) := ⟨ha2, ha2r⟩
  obtain ⟨c2, Hc2, ec2⟩ := nmAddN c bk
  clear ha1 ha1r ha2 ha2r hnq' hbk' hbk2 hbk3 hcap
  go_enter Try.func7, Try.ntmps7
  go_wp2_with fail
  go_at_call 8
  refine (head_any _).mono ?_
  rintro r w1 ⟨rfl, hc1⟩
  have Z1 : Hid (KN w w1 key nonce) := by
    rw [HAD.out.1, HAD.out.2] at hc1
    exact KN.to ⟨((Chg.refl w).alloc _).alloc _, (Ar.new w _ _).alloc _, Ar.new1 w _ _ _⟩ hc1
  clear hc1 hsA hsD
  go_upto_region 3 with fail
  obtain ⟨w2, hw2⟩ : ∃ w2, w2 = w1 := ⟨_, rfl⟩
  rw [← hw2] at Z1 ⊢
  have Z2 : Hid (KN w w2 key nonce) := Z1.out
  clear hw2 Z1
  go_cut [13] from 26 to 33 (fun v wc => Ap.Rd wc v (nums p (stF key c nonce txt)) ∧ Chg w2 wc)
  case first =>
      refine wp_region_good 8 (fun j v wg => match j with
        | 0 => v = .agg (ba 32 key)
        | 1 => v = .int .u32 (c.toNat : Int)
        | 2 => v = .agg (ba 12 nonce)
        | 3 => v = .slice ao n cap
        | 4 => v = .int .i64 (bk : Int)
        | 5 => v = .int .i64 (p : Int)
        | 6 => v = .slice a1 p cap
        | 7 => ∃ vx, v = vx ∧ Ap.Rd wg vx (nums p (stF key c nonce txt))
        | _ => True) (by kernel_rfl) (by kernel_rfl) (by kernel_rfl) (by kernel_rfl) (by kernel_rfl) ?_ ?_ ?_
      · intro j v u1 u2 h hc
        match j, h with
        | 0, h => exact h
        | 1, h => exact h
        | 2, h => exact h
        | 3, h => exact h
        | 4, h => exact h
        | 5, h => exact h
        | 6, h => exact h
        | 7, h => (obtain ⟨vx, h1, h2⟩ := h; exact ⟨vx, h1, Rd.chg h2 hc⟩)
        | _ + 8, h => exact trivial
      · intro i o ac u hi ho hsz hf hg hc
        have hcs : i = 0 ∨ i = 1 ∨ i = 2 ∨ i = 3 ∨ i = 4 ∨ i = 5 ∨ i = 6 ∨ i = 7 := by omega
        rcases hcs with rfl | rfl | rfl | rfl | rfl | rfl | rfl | rfl
        · injection ho with ho
          subst ho
          refine .inl ⟨wanted_none rfl, ?_⟩
          have e1 : ac.eval (.tmp 5) = .pointer (some ⟨w.heap.size, 0, none⟩) := hf 5 (by kernel_rfl)
          exact wp_load_mid 22 (.tmp 5) rfl _ _ e1 ((ba 32 key).toList) _ (rangeA (Ar.chg (w := w2.drew) Z2.out.ky hc)) und22 rfl (info32 _) ⟨_, rfl, rfl, Chg.refl _⟩
        · injection ho with ho
          subst ho
          refine .inl ⟨wanted_none rfl, ?_⟩
          have e1 : ac.eval (.tmp 1) = .int .u32 (c.toNat : Int) := hf 1 (by kernel_rfl)
          exact opG_val (by simp [execOp, e1]) rfl (Chg.refl _)
        · injection ho with ho
          subst ho
          refine .inl ⟨wanted_none rfl, ?_⟩
          have e1 : ac.eval (.tmp 7) = .pointer (some ⟨w.heap.size + 1, 0, none⟩) := hf 7 (by kernel_rfl)
          exact wp_load_mid 24 (.tmp 7) rfl _ _ e1 ((ba 12 nonce).toList) _ (rangeA (Ar.chg (w := w2.drew) Z2.out.non hc)) und24 rfl (info12 _) ⟨_, rfl, rfl, Chg.refl _⟩
        · injection ho with ho
          subst ho
          refine .inl ⟨wanted_none rfl, ?_⟩
          have e1 : ac.eval (.tmp 3) = .slice ao n cap := hf 3 (by kernel_rfl)
          exact opG_val (by simp [execOp, e1]) rfl (Chg.refl _)
        · injection ho with ho
          subst ho
          refine .inl ⟨wanted_none rfl, ?_⟩
          have e1 : ac.eval (.tmp 12) = .int .i64 (bk : Int) := hf 12 (by kernel_rfl)
          exact opG_val (by simp [execOp, e1]) rfl (Chg.refl _)
        · injection ho with ho
          subst ho
          refine .inl ⟨wanted_none rfl, ?_⟩
          have e1 : ac.eval (.const (.int .i64 64)) = .int .i64 64 := rfl
          have e2 : ac.eval (.tmp 30) = .int .i64 (bk : Int) := hg 4 (by kernel_rfl) (by decide)
          exact opG_val (by revert e1 e2; generalize ac.eval = ρ; intro e1 e2; simp [go_sem, execOp, e1, e2, hp, wp]) rfl (Chg.refl _)
        · injection ho with ho
          subst ho
          refine .inl ⟨wanted_none rfl, ?_⟩
          have e1 : ac.eval (.tmp 29) = .slice ao n cap := hg 3 (by kernel_rfl) (by decide)
          have e2 : ac.eval (.tmp 31) = .int .i64 (p : Int) := hg 5 (by kernel_rfl) (by decide)
          exact opG_val (by simp [execOp, e1, e2, HH.out.1]) rfl (Chg.refl _)
        · injection ho with ho
          subst ho
          refine .inl ⟨wanted_none rfl, ?_⟩
          have e1 : ac.eval (.tmp 26) = .agg (ba 32 key) := hg 0 (by kernel_rfl) (by decide)
          have e2 : ac.eval (.tmp 27) = .int .u32 (c.toNat : Int) := hg 1 (by kernel_rfl) (by decide)
          have e3 : ac.eval (.tmp 28) = .agg (ba 12 nonce) := hg 2 (by kernel_rfl) (by decide)
          have e4 : ac.eval (.tmp 32) = .slice a1 p cap := hg 6 (by kernel_rfl) (by decide)
          refine opG_go 9 Try.f9 #[.tmp 26, .tmp 27, .tmp 28, .tmp 32] #[22, 23, 24, 25] rfl Try.func9 (by kernel_rfl) (by kernel_rfl) (by simp [e1, e2, e3, e4]) (Calls.mono (streamV_any p key nonce txt c _ _ (HH.out.2 _ txt (Rd.chg HX.out.1 (Z2.out.chg.drew.trans hc)) HP.out.2.1) HP.out.2.2.1) ?_)
          rintro e u2 ⟨gy, rfl, hg1, hg2, hg3⟩
          exact ⟨_, rfl, ⟨_, rfl, Bs.rd (Ar.bs hg3) (Nat.le_refl _) (Nat.le_trans HP.out.2.2.1 (by decide))⟩, hg2⟩
      · intro o u V ho hV hc
        injection ho with ho
        subst ho
        refine ⟨rfl, ?_⟩
        have q26 : V 0 = .agg (ba 32 key) := hV 0 (by decide)
        have q27 : V 1 = .int .u32 (c.toNat : Int) := hV 1 (by decide)
        have q28 : V 2 = .agg (ba 12 nonce) := hV 2 (by decide)
        have q29 : V 3 = .slice ao n cap := hV 3 (by decide)
        have q30 : V 4 = .int .i64 (bk : Int) := hV 4 (by decide)
        have q31 : V 5 = .int .i64 (p : Int) := hV 5 (by decide)
        have q32 : V 6 = .slice a1 p cap := hV 6 (by decide)
        obtain ⟨vx, q33, xx⟩ := hV 7 (by decide)
        refine op_val1 (v := vx) (by rw [← q33]; rfl) ?_
        go_wp2_with fail
        go_meet
        exact ⟨xx, (Chg.refl w2).drew.trans hc⟩
  case rest =>
    obtain ⟨h13, hc3⟩ := hcut
    obtain ⟨o1, m1, k1, rfl, hm1, -⟩ := h13.shape
    rw [nums_len] at hm1
    subst hm1
    obtain ⟨w3, hw3⟩ : ∃ w3, w3 = wc := ⟨_, rfl⟩
    have Z3 : Hid (KN w w3 key nonce ∧ Ap.Rd w3 (.slice o1 m1 k1) (nums m1 (stF key c nonce txt))) := by
      rw [hw3]
      exact ⟨Z2.out.to hc3, h13⟩
    rw [← hw3]
    obtain ⟨p, hpm⟩ : ∃ p, p = m1 := ⟨_, rfl⟩
    subst hpm
    clear hw3 hc3 h13 Z2
    go_upto_region 4 with fail
    go_cut [14] from 34 to 44 (fun v wc => Ap.Rd wc v (nums (n - p) (stF key c2 nonce fun i => txt (p + i))) ∧ Chg w3 wc)
    case first =>
        refine wp_region_good 11 (fun j v wg => match j with
          | 0 => v = .agg (ba 32 key)
          | 1 => v = .int .u32 (c.toNat : Int)
          | 2 => v = .int .i64 (bk : Int)
          | 3 => v = .int .u32 (bk : Int)
          | 4 => v = .int .u32 (c2.toNat : Int)
          | 5 => v = .agg (ba 12 nonce)
          | 6 => v = .slice ao n cap
          | 7 => v = .int .i64 (bk : Int)
          | 8 => v = .int .i64 (p : Int)
          | 9 => v = .slice a2 (n - p) (cap - p)
          | 10 => ∃ vx, v = vx ∧ Ap.Rd wg vx (nums (n - p) (stF key c2 nonce fun i => txt (p + i)))
          | _ => True) (by kernel_rfl) (by kernel_rfl) (by kernel_rfl) (by kernel_rfl) (by kernel_rfl) ?_ ?_ ?_
        · intro j v u1 u2 h hc
          match j, h with
          | 0, h => exact h
          | 1, h => exact h
          | 2, h => exact h
          | 3, h => exact h
          | 4, h => exact h
          | 5, h => exact h
          | 6, h => exact h
          | 7, h => exact h
          | 8, h => exact h
          | 9, h => exact h
          | 10, h => (obtain ⟨vx, h1, h2⟩ := h; exact ⟨vx, h1, Rd.chg h2 hc⟩)
          | _ + 11, h => exact trivial
        · intro i o ac u hi ho hsz hf hg hc
          have hcs : i = 0 ∨ i = 1 ∨ i = 2 ∨ i = 3 ∨ i = 4 ∨ i = 5 ∨ i = 6 ∨ i = 7 ∨ i = 8 ∨ i = 9 ∨ i = 10 := by omega
          rcases hcs with rfl | rfl | rfl | rfl | rfl | rfl | rfl | rfl | rfl | rfl | rfl
          · injection ho with ho
            subst ho
            refine .inl ⟨wanted_none rfl, ?_⟩
            have e1 : ac.eval (.tmp 5) = .pointer (some ⟨w.heap.size, 0, none⟩) := hf 5 (by kernel_rfl)
            exact wp_load_mid 22 (.tmp 5) rfl _ _ e1 ((ba 32 key).toList) _ (rangeA (Ar.chg (w := w3.drew) Z3.out.1.ky hc)) und22 rfl (info32 _) ⟨_, rfl, rfl, Chg.refl _⟩
          · injection ho with ho
            subst ho
            refine .inl ⟨wanted_none rfl, ?_⟩
            have e1 : ac.eval (.tmp 1) = .int .u32 (c.toNat : Int) := hf 1 (by kernel_rfl)
            exact opG_val (by simp [execOp, e1]) rfl (Chg.refl _)
          · injection ho with ho
            subst ho
            refine .inl ⟨wanted_none rfl, ?_⟩
            have e1 : ac.eval (.tmp 12) = .int .i64 (bk : Int) := hf 12 (by kernel_rfl)
            exact opG_val (by simp [execOp, e1]) rfl (Chg.refl _)
          · injection ho with ho
            subst ho
            refine .inl ⟨wanted_none rfl, ?_⟩
            have e1 : ac.eval (.tmp 36) = .int .i64 (bk : Int) := hg 2 (by kernel_rfl) (by decide)
            have hcv := run_cv32 bk HP.out.1 u
            exact opG_val (by simp [execOp, e1, hcv]) rfl (Chg.refl _)
          · injection ho with ho
            subst ho
            refine .inl ⟨wanted_none rfl, ?_⟩
            have e1 : ac.eval (.tmp 35) = .int .u32 (c.toNat : Int) := hg 1 (by kernel_rfl) (by decide)
            have e2 : ac.eval (.tmp 37) = .int .u32 (bk : Int) := hg 3 (by kernel_rfl) (by decide)
            exact opG_val (by revert e1 e2; generalize ac.eval = ρ; intro e1 e2; simp [go_sem, execOp, e1, e2, ec2]) rfl (Chg.refl _)
          · injection ho with ho
            subst ho
            refine .inl ⟨wanted_none rfl, ?_⟩
            have e1 : ac.eval (.tmp 7) = .pointer (some ⟨w.heap.size + 1, 0, none⟩) := hf 7 (by kernel_rfl)
            exact wp_load_mid 24 (.tmp 7) rfl _ _ e1 ((ba 12 nonce).toList) _ (rangeA (Ar.chg (w := w3.drew) Z3.out.1.non hc)) und24 rfl (info12 _) ⟨_, rfl, rfl, Chg.refl _⟩
          · injection ho with ho
            subst ho
            refine .inl ⟨wanted_none rfl, ?_⟩
            have e1 : ac.eval (.tmp 3) = .slice ao n cap := hf 3 (by kernel_rfl)
            exact opG_val (by simp [execOp, e1]) rfl (Chg.refl _)
          · injection ho with ho
            subst ho
            refine .inl ⟨wanted_none rfl, ?_⟩
            have e1 : ac.eval (.tmp 12) = .int .i64 (bk : Int) := hf 12 (by kernel_rfl)
            exact opG_val (by simp [execOp, e1]) rfl (Chg.refl _)
          · injection ho with ho
            subst ho
            refine .inl ⟨wanted_none rfl, ?_⟩
            have e1 : ac.eval (.const (.int .i64 64)) = .int .i64 64 := rfl
            have e2 : ac.eval (.tmp 41) = .int .i64 (bk : Int) := hg 7 (by kernel_rfl) (by decide)
            exact opG_val (by revert e1 e2; generalize ac.eval = ρ; intro e1 e2; simp [go_sem, execOp, e1, e2, hp, wp]) rfl (Chg.refl _)
          · injection ho with ho
            subst ho
            refine .inl ⟨wanted_none rfl, ?_⟩
            have e1 : ac.eval (.tmp 40) = .slice ao n cap := hg 6 (by kernel_rfl) (by decide)
            have e2 : ac.eval (.tmp 42) = .int .i64 (p : Int) := hg 8 (by kernel_rfl) (by decide)
            exact opG_val (by simp [execOp, e1, e2, HL.out.1]) rfl (Chg.refl _)
          · injection ho with ho
            subst ho
            refine .inl ⟨wanted_none rfl, ?_⟩
            have e1 : ac.eval (.tmp 34) = .agg (ba 32 key) := hg 0 (by kernel_rfl) (by decide)
            have e2 : ac.eval (.tmp 38) = .int .u32 (c2.toNat : Int) := hg 4 (by kernel_rfl) (by decide)
            have e3 : ac.eval (.tmp 39) = .agg (ba 12 nonce) := hg 5 (by kernel_rfl) (by decide)
            have e4 : ac.eval (.tmp 43) = .slice a2 (n - p) (cap - p) := hg 9 (by kernel_rfl) (by decide)
            refine opG_go 9 Try.f9 #[.tmp 34, .tmp 38, .tmp 39, .tmp 43] #[22, 23, 24, 25] rfl Try.func9 (by kernel_rfl) (by kernel_rfl) (by simp [e1, e2, e3, e4]) (Calls.mono (streamV_any (n - p) key nonce (fun i => txt (p + i)) c2 _ _ (HL.out.2 _ txt (Rd.chg HX.out.1 (Z3.out.1.chg.drew.trans hc))) (Nat.le_trans (Nat.sub_le _ _) HX.out.2)) ?_)
            rintro e u2 ⟨gy, rfl, hg1, hg2, hg3⟩
            exact ⟨_, rfl, ⟨_, rfl, Bs.rd (Ar.bs hg3) (Nat.le_refl _) (Nat.le_trans (Nat.le_trans (Nat.sub_le _ _) HX.out.2) (by decide))⟩, hg2⟩
        · intro o u V ho hV hc
          injection ho with ho
          subst ho
          refine ⟨rfl, ?_⟩
          have q34 : V 0 = .agg (ba 32 key) := hV 0 (by decide)
          have q35 : V 1 = .int .u32 (c.toNat : Int) := hV 1 (by decide)
          have q36 : V 2 = .int .i64 (bk : Int) := hV 2 (by decide)
          have q37 : V 3 = .int .u32 (bk : Int) := hV 3 (by decide)
          have q38 : V 4 = .int .u32 (c2.toNat : Int) := hV 4 (by decide)
          have q39 : V 5 = .agg (ba 12 nonce) := hV 5 (by decide)
          have q40 : V 6 = .slice ao n cap := hV 6 (by decide)
          have q41 : V 7 = .int .i64 (bk : Int) := hV 7 (by decide)
          have q42 : V 8 = .int .i64 (p : Int) := hV 8 (by decide)
          have q43 : V 9 = .slice a2 (n - p) (cap - p) := hV 9 (by decide)
          obtain ⟨vx, q44, xx⟩ := hV 10 (by decide)
          refine op_val1 (v := vx) (by rw [← q44]; rfl) ?_
          go_wp2_with fail
          go_meet
          exact ⟨xx, (Chg.refl w3).drew.trans hc⟩
    case rest =>
      obtain ⟨h14, hc4⟩ := hcut
      obtain ⟨o2, q, k2, rfl, hq2, -⟩ := h14.shape
      rw [nums_len] at hq2
      obtain ⟨w4, hw4⟩ : ∃ w4, w4 = wc := ⟨_, rfl⟩
      have Z4 : Hid (KN w w4 key nonce ∧ Ap.Rd w4 (.slice o1 p k1) (nums p (stF key c nonce txt)) ∧ Ap.Rd w4 (.slice o2 q k2) (nums (n - p) (stF key c2 nonce fun i => txt (p + i)))) := by
        rw [hw4]
        exact ⟨Z3.out.1.to hc4, Rd.chg Z3.out.2 hc4, h14⟩
      have HQ : Hid (q = n - p) := hq2
      rw [← hw4]
      clear hw4 hc4 h14 Z3 hq2
      obtain ⟨tA, gA⟩ := Z4.out.1.ky
      rw [← HAD.out.1] at gA
      have hszA : (Try.prog.info? 22).map (·.size) = some A.size := by rw [HAD.out.1]; exact szB key i22
      have hlenA : (ba 32 zB).size = A.size := by rw [HAD.out.1, ba_size, ba_size]
      have honeA : A.all (·.oneCell') = true := by rw [HAD.out.1]; exact ba_one 32 key
      have hz := zero22.1
      go_upto_region 6 with (first | refine wpList_load_row rfl 22 _ rfl _ rfl _ _ _ _ gA und22 rfl hszA ?_ | refine wpList_store_row rfl 22 _ _ rfl _ _ rfl rfl _ _ (heap_alloc_last w4 _) hszA hlenA honeA ?_)
      obtain ⟨O, hO⟩ : ∃ O, O = w4.heap.size := ⟨_, rfl⟩
      obtain ⟨w5, hw5⟩ : ∃ w5, w5 = (w4.alloc (.cells (ba 32 zB) 22)).setRow w4.heap.size A := ⟨_, rfl⟩
      have Z5 : Hid ((Chg w4 w5 ∧ Ar w5 O (ba 32 (zU 0 key))) ∧ w4.heap.size ≤ O) := by
        refine ⟨⟨by rw [hw5]; exact ((Chg.refl w4).alloc _).setRow (Nat.le_refl _) _, ?_⟩, by omega⟩
        rw [hw5, hO, zU_zero, ← HAD.out.1]
        exact (Ar.new w4 _ _).row _
      rw [← hw5, ← hO]
      clear hw5 hO gA hszA hlenA honeA hz
      try dsimp only [Act.put]
      have HO : Hid (w4.heap.size ≤ O) := Z5.out.2
      have Z6 : Hid (Chg w4 w5 ∧ Ar w5 O (ba 32 (zU 0 key))) := Z5.out.1
      clear Z5
      go_wp2_with fail
      go_loopw [16] (fun v wr => ∃ (i : Nat), v = .int .i64 i ∧ i ≤ 16 ∧ Chg w4 wr ∧ Ar wr O (ba 32 (zU i key))) (fun v wr => 16 - (intOf v).toNat)
      case atStart => exact ⟨0, rfl, by omega, Z6.out⟩
      case round =>
        clear Z6
        obtain ⟨i, rfl, hi, hz0, hz1⟩ := hrel
        have Z : Hid (Chg w4 wr ∧ Ar wr O (ba 32 (zU i key))) := ⟨hz0, hz1⟩
        by_cases hlt : i < 16
        · have hd : decide ((i : Int) < 16) = true := by simp; omega
          have li : (i : Int) < 32 := by omega
          have c1 := (hz1.cell i).trans (ba_get 32 _ (by omega))
          have f1 := hz1.frozen i
          obtain ⟨x, hx⟩ : ∃ x, x = zU i key i := ⟨_, rfl⟩
          rw [← hx] at c1
          clear hx hz0 hz1
          go_wp2_with fail
          go_roundw
          case rel =>
            refine ⟨i + 1, by go_num, by omega, Z.out.1.setCell HO.out _, ?_⟩
            have hh := Z.out.2.set i (.int .u8 ((0#8).toNat : Int))
            rw [ba_set, zU_succ] at hh
            exact hh
          case measure => simp [intOf]; omega
        · have : i = 16 := by omega
          subst this
          rw [show ((16 : Nat) : Int) = 16 from rfl]
          obtain ⟨K, hK⟩ : ∃ K, K = ba 32 (zU 16 key) := ⟨_, rfl⟩
          obtain ⟨TF, hTF⟩ : ∃ TF, TF = polF (zU 16 key) txt n := ⟨_, rfl⟩
          have HTF : Hid (TF = polF (zU 16 key) txt n) := hTF
          rw [← hK] at hz1
          have HC : Hid (Calls Try.prog 13 #[.agg K, .slice ao n cap] wr fun r w' => r = .returned (.agg (ba 16 TF)) ∧ Chg wr w') := by
            rw [hK, hTF]
            exact poly_any n cap ao (zU 16 key) txt wr (Rd.chg HX.out.1 (Z4.out.1.chg.trans hz0)) (Nat.le_trans HX.out.2 (by decide))
          have hszK : (Try.prog.info? 22).map (·.size) = some K.size := by rw [hK]; exact szB _ i22
          have HZ0 : Hid (Chg w4 wr) := hz0
          obtain ⟨tK, gK⟩ := hz1
          have hz := zero32.1
          have hsT := szB TF i32
          have hlT := lenB 16 zB TF
          have hoT := ba_one 16 TF
          clear hK hTF hz0 Z
          go_upto_region 11 with (first | refine wpList_load_row rfl 22 _ rfl _ rfl _ _ _ _ gK und22 rfl hszK ?_ | (go_at_call 13; refine HC.out.mono ?_; rintro r w7 ⟨rfl, hc7⟩) | refine wpList_store_row rfl 31 _ _ rfl _ _ rfl rfl _ _ (heap_alloc_last w7 _) hsT hlT hoT ?_)
          obtain ⟨T, hT⟩ : ∃ T, T = w7.heap.size := ⟨_, rfl⟩
          obtain ⟨w9, hw9⟩ : ∃ w9, w9 = (w7.alloc (.cells (ba 16 zB) 31)).setRow w7.heap.size (ba 16 TF) := ⟨_, rfl⟩
          have Z9 : Hid (KN w w9 key nonce ∧ Ap.Rd w9 (.slice o1 p k1) (nums p (stF key c nonce txt)) ∧ Ap.Rd w9 (.slice o2 q k2) (nums (n - p) (stF key c2 nonce fun i => txt (p + i))) ∧ Ar w9 T (ba 16 TF)) := by
            have hch : Chg w4 w9 := by rw [hw9]; exact (((HZ0.out.trans hc7).alloc _).setRow (HZ0.out.trans hc7).size _)
            refine ⟨Z4.out.1.to hch, Rd.chg Z4.out.2.1 hch, Rd.chg Z4.out.2.2 hch, ?_⟩
            rw [hw9, hT]
            exact (Ar.new w7 _ _).row _
          rw [← hw9, ← hT]
          clear hw9 hT hc7 gK hszK hz hsT hlT hoT HC HZ0
          try dsimp only [Act.put]
          obtain ⟨S, hS⟩ : ∃ S, S = strOfNums (nums n (stF key c nonce txt)) := ⟨_, rfl⟩
          obtain ⟨S1, hS1⟩ : ∃ S, S = strOfNums (nums p (stF key c nonce txt)) := ⟨_, rfl⟩
          obtain ⟨S2, hS2⟩ : ∃ S, S = strOfNums (nums (n - p) (stF key c2 nonce fun i => txt (p + i))) := ⟨_, rfl⟩
          obtain ⟨ST, hST⟩ : ∃ S, S = strOfNums (nums 16 TF) := ⟨_, rfl⟩
          have HS : Hid (S = strOfNums (nums n (stF key c nonce txt)) ∧ S1 = strOfNums (nums p (stF key c nonce txt)) ∧ S2 = strOfNums (nums (n - p) (stF key c2 nonce fun i => txt (p + i))) ∧ ST = strOfNums (nums 16 TF) ∧ ST = strOfNums (nums 16 fun j => key (16 + j))) :=
            ⟨hS, hS1, hS2, hST, by rw [hST, HTF.out, pol_zero]⟩
          have hcat : S1 ++ S2 = S := by
            have e1 : nums (n - p) (stF key c2 nonce fun i => txt (p + i)) = nums (n - p) (fun i => stF key c nonce txt (p + i)) := nums_congr fun i _ => by rw [Hc2.out]; exact st_more key nonce txt c HP.out.2.2.2 i
            rw [hS, hS1, hS2, e1, nums_split n p _ HP.out.2.1, str_app]
          have hcsz : S1.size + S2.size ≤ 9223372036854775807 := by
            have hb := HX.out.2
            have hb2 := HP.out.2.1
            rw [hS1, hS2, str_size, str_size, nums_len, nums_len]
            omega
          have hsl16 : ∀ u, (Instr.sliceAt 22 (.pointer (some ⟨w.heap.size, 0, none⟩)) (some (.int .i64 16)) none none).run Try.prog u = .ok (.slice (some ⟨w.heap.size, 16, none⟩) 16 16) u := run_sliceArrLo und22 _ 16 (by decide)
          clear hS hS1 hS2 hST
          refine wp_region_good 22 (fun j v wg => match j with
            | 0 => v = .bool true
            | 1 => v = .bool true
            | 2 => v = .agg (ba 32 key)
            | 3 => v = .int .u32 (c.toNat : Int)
            | 4 => v = .agg (ba 12 nonce)
            | 5 => v = .slice ao n cap
            | 6 => ∃ vx, v = vx ∧ Ap.Rd wg vx (nums n (stF key c nonce txt))
            | 7 => v = .string S
            | 8 => v = .slice o1 p k1
            | 9 => v = .string S1
            | 10 => v = .slice o2 q k2
            | 11 => v = .string S2
            | 12 => v = .string S
            | 13 => v = .bool true
            | 14 => v = .bool true
            | 15 => v = .bool true
            | 16 => v = .slice (some ⟨T, 0, none⟩) 16 16
            | 17 => v = .string ST
            | 18 => v = .slice (some ⟨w.heap.size, 16, none⟩) 16 16
            | 19 => v = .string ST
            | 20 => v = .bool true
            | 21 => v = .bool true
            | _ => True) (by kernel_rfl) (by kernel_rfl) (by kernel_rfl) (by kernel_rfl) (by kernel_rfl) ?_ ?_ ?_
          · intro j v u1 u2 h hc
            match j, h with
            | 0, h => exact h
            | 1, h => exact h
            | 2, h => exact h
            | 3, h => exact h
            | 4, h => exact h
            | 5, h => exact h
            | 6, h => (obtain ⟨vx, h1, h2⟩ := h; exact ⟨vx, h1, Rd.chg h2 hc⟩)
            | 7, h => exact h
            | 8, h => exact h
            | 9, h => exact h
            | 10, h => exact h
            | 11, h => exact h
            | 12, h => exact h
            | 13, h => exact h
            | 14, h => exact h
            | 15, h => exact h
            | 16, h => exact h
            | 17, h => exact h
            | 18, h => exact h
            | 19, h => exact h
            | 20, h => exact h
            | 21, h => exact h
            | _ + 22, h => exact trivial
          · intro i o ac u hi ho hsz hf hg hc
            have hcs : i = 0 ∨ i = 1 ∨ i = 2 ∨ i = 3 ∨ i = 4 ∨ i = 5 ∨ i = 6 ∨ i = 7 ∨ i = 8 ∨ i = 9 ∨ i = 10 ∨ i = 11 ∨ i = 12 ∨ i = 13 ∨ i = 14 ∨ i = 15 ∨ i = 16 ∨ i = 17 ∨ i = 18 ∨ i = 19 ∨ i = 20 ∨ i = 21 := by omega
            rcases hcs with rfl | rfl | rfl | rfl | rfl | rfl | rfl | rfl | rfl | rfl | rfl | rfl | rfl | rfl | rfl | rfl | rfl | rfl | rfl | rfl | rfl | rfl
            · injection ho with ho
              subst ho
              refine .inl ⟨wanted_none rfl, ?_⟩
              have e1 : ac.eval (.tmp 11) = .bool true := hf 11 (by kernel_rfl)
              exact opG_val (by simp [execOp, e1]) rfl (Chg.refl _)
            · injection ho with ho
              subst ho
              refine .inl ⟨wanted_none rfl, ?_⟩
              have e1 : ac.eval (.tmp 55) = .bool true := hg 0 (by kernel_rfl) (by decide)
              exact opG_val (by simp [execOp, e1]) rfl (Chg.refl _)
            · injection ho with ho
              subst ho
              refine .inl ⟨wanted_by (T := _) (by kernel_rfl) hsz rfl (by decide : 1 < 22) rfl (hg 1 (by kernel_rfl) (by decide)), ?_⟩
              have e1 : ac.eval (.tmp 5) = .pointer (some ⟨w.heap.size, 0, none⟩) := hf 5 (by kernel_rfl)
              exact wp_load_mid 22 (.tmp 5) rfl _ _ e1 ((ba 32 key).toList) _ (rangeA (Ar.chg (w := w9.drew) Z9.out.1.ky hc)) und22 rfl (info32 _) ⟨_, rfl, rfl, Chg.refl _⟩
            · injection ho with ho
              subst ho
              refine .inl ⟨wanted_by (T := _) (by kernel_rfl) hsz rfl (by decide : 1 < 22) rfl (hg 1 (by kernel_rfl) (by decide)), ?_⟩
              have e1 : ac.eval (.tmp 1) = .int .u32 (c.toNat : Int) := hf 1 (by kernel_rfl)
              exact opG_val (by simp [execOp, e1]) rfl (Chg.refl _)
            · injection ho with ho
              subst ho
              refine .inl ⟨wanted_by (T := _) (by kernel_rfl) hsz rfl (by decide : 1 < 22) rfl (hg 1 (by kernel_rfl) (by decide)), ?_⟩
              have e1 : ac.eval (.tmp 7) = .pointer (some ⟨w.heap.size + 1, 0, none⟩) := hf 7 (by kernel_rfl)
              exact wp_load_mid 24 (.tmp 7) rfl _ _ e1 ((ba 12 nonce).toList) _ (rangeA (Ar.chg (w := w9.drew) Z9.out.1.non hc)) und24 rfl (info12 _) ⟨_, rfl, rfl, Chg.refl _⟩
            · injection ho with ho
              subst ho
              refine .inl ⟨wanted_by (T := _) (by kernel_rfl) hsz rfl (by decide : 1 < 22) rfl (hg 1 (by kernel_rfl) (by decide)), ?_⟩
              have e1 : ac.eval (.tmp 3) = .slice ao n cap := hf 3 (by kernel_rfl)
              exact opG_val (by simp [execOp, e1]) rfl (Chg.refl _)
            · injection ho with ho
              subst ho
              refine .inl ⟨wanted_by (T := _) (by kernel_rfl) hsz rfl (by decide : 1 < 22) rfl (hg 1 (by kernel_rfl) (by decide)), ?_⟩
              have e1 : ac.eval (.tmp 57) = .agg (ba 32 key) := hg 2 (by kernel_rfl) (by decide)
              have e2 : ac.eval (.tmp 58) = .int .u32 (c.toNat : Int) := hg 3 (by kernel_rfl) (by decide)
              have e3 : ac.eval (.tmp 59) = .agg (ba 12 nonce) := hg 4 (by kernel_rfl) (by decide)
              have e4 : ac.eval (.tmp 60) = .slice ao n cap := hg 5 (by kernel_rfl) (by decide)
              refine opG_go 9 Try.f9 #[.tmp 57, .tmp 58, .tmp 59, .tmp 60] #[22, 23, 24, 25] rfl Try.func9 (by kernel_rfl) (by kernel_rfl) (by simp [e1, e2, e3, e4]) (Calls.mono (streamV_any n key nonce txt c _ _ (Rd.chg HX.out.1 (Z9.out.1.chg.drew.trans hc)) HX.out.2) ?_)
              rintro e u2 ⟨gy, rfl, hg1, hg2, hg3⟩
              exact ⟨_, rfl, ⟨_, rfl, Bs.rd (Ar.bs hg3) (Nat.le_refl _) (Nat.le_trans HX.out.2 (by decide))⟩, hg2⟩
            · injection ho with ho
              subst ho
              refine .inl ⟨wanted_by (T := _) (by kernel_rfl) hsz rfl (by decide : 1 < 22) rfl (hg 1 (by kernel_rfl) (by decide)), ?_⟩
              obtain ⟨vx, e10, xx⟩ := hg 6 (by kernel_rfl) (by decide)
              have e1 : ac.eval (.tmp 61) = vx := e10
              have hcv := (show (convert 25 9 (vx)).run Try.prog u = .ok (.string S) u from by rw [HS.out.1]; exact Ap.run_str u _ _ (xx))
              exact opG_val (by simp [execOp, e1, hcv]) rfl (Chg.refl _)
            · injection ho with ho
              subst ho
              refine .inl ⟨wanted_by (T := _) (by kernel_rfl) hsz rfl (by decide : 1 < 22) rfl (hg 1 (by kernel_rfl) (by decide)), ?_⟩
              have e1 : ac.eval (.tmp 13) = .slice o1 p k1 := hf 13 (by kernel_rfl)
              exact opG_val (by simp [execOp, e1]) rfl (Chg.refl _)
            · injection ho with ho
              subst ho
              refine .inl ⟨wanted_by (T := _) (by kernel_rfl) hsz rfl (by decide : 1 < 22) rfl (hg 1 (by kernel_rfl) (by decide)), ?_⟩
              have e1 : ac.eval (.tmp 63) = .slice o1 p k1 := hg 8 (by kernel_rfl) (by decide)
              have hcv := (show (convert 25 9 (.slice o1 p k1)).run Try.prog u = .ok (.string S1) u from by rw [HS.out.2.1]; exact Ap.run_str u _ _ (Rd.chg (w := w9.drew) (Ap.Rd.drew Z9.out.2.1) hc))
              exact opG_val (by simp [execOp, e1, hcv]) rfl (Chg.refl _)
            · injection ho with ho
              subst ho
              refine .inl ⟨wanted_by (T := _) (by kernel_rfl) hsz rfl (by decide : 1 < 22) rfl (hg 1 (by kernel_rfl) (by decide)), ?_⟩
              have e1 : ac.eval (.tmp 14) = .slice o2 q k2 := hf 14 (by kernel_rfl)
              exact opG_val (by simp [execOp, e1]) rfl (Chg.refl _)
            · injection ho with ho
              subst ho
              refine .inl ⟨wanted_by (T := _) (by kernel_rfl) hsz rfl (by decide : 1 < 22) rfl (hg 1 (by kernel_rfl) (by decide)), ?_⟩
              have e1 : ac.eval (.tmp 65) = .slice o2 q k2 := hg 10 (by kernel_rfl) (by decide)
              have hcv := (show (convert 25 9 (.slice o2 q k2)).run Try.prog u = .ok (.string S2) u from by rw [HS.out.2.2.1]; exact Ap.run_str u _ _ (Rd.chg (w := w9.drew) (Ap.Rd.drew Z9.out.2.2.1) hc))
              exact opG_val (by simp [execOp, e1, hcv]) rfl (Chg.refl _)
            · injection ho with ho
              subst ho
              refine .inl ⟨wanted_by (T := _) (by kernel_rfl) hsz rfl (by decide : 1 < 22) rfl (hg 1 (by kernel_rfl) (by decide)), ?_⟩
              have e1 : ac.eval (.tmp 64) = .string S1 := hg 9 (by kernel_rfl) (by decide)
              have e2 : ac.eval (.tmp 66) = .string S2 := hg 11 (by kernel_rfl) (by decide)
              exact opG_val (by revert e1 e2; generalize ac.eval = ρ; intro e1 e2; simp [go_sem, execOp, e1, e2, hcat, hcsz]) rfl (Chg.refl _)
            · injection ho with ho
              subst ho
              refine .inl ⟨wanted_by (T := _) (by kernel_rfl) hsz rfl (by decide : 1 < 22) rfl (hg 1 (by kernel_rfl) (by decide)), ?_⟩
              have e1 : ac.eval (.tmp 62) = .string S := hg 7 (by kernel_rfl) (by decide)
              have e2 : ac.eval (.tmp 67) = .string S := hg 12 (by kernel_rfl) (by decide)
              exact opG_val (by revert e1 e2; generalize ac.eval = ρ; intro e1 e2; simp [go_sem, execOp, e1, e2]) rfl (Chg.refl _)
            · injection ho with ho
              subst ho
              refine .inl ⟨wanted_none rfl, ?_⟩
              have e1 : ac.eval (.tmp 56) = .bool true := hg 1 (by kernel_rfl) (by decide)
              have e2 : ac.eval (.tmp 68) = .bool true := hg 13 (by kernel_rfl) (by decide)
              have e3 : ac.eval (.const (.bool false)) = .bool false := rfl
              exact opG_val (by revert e1 e2 e3; generalize ac.eval = ρ; intro e1 e2 e3; simp [go_sem, execOp, e1, e2, e3]) rfl (Chg.refl _)
            · injection ho with ho
              subst ho
              refine .inl ⟨wanted_none rfl, ?_⟩
              have e1 : ac.eval (.tmp 69) = .bool true := hg 14 (by kernel_rfl) (by decide)
              exact opG_val (by simp [execOp, e1]) rfl (Chg.refl _)
            · injection ho with ho
              subst ho
              refine .inl ⟨wanted_by (T := _) (by kernel_rfl) hsz rfl (by decide : 15 < 22) rfl (hg 15 (by kernel_rfl) (by decide)), ?_⟩
              have e1 : ac.eval (.tmp 17) = .pointer (some ⟨T, 0, none⟩) := hf 17 (by kernel_rfl)
              exact opG_val (by simp [execOp, e1, run_sliceArr0 und32]) rfl (Chg.refl _)
            · injection ho with ho
              subst ho
              refine .inl ⟨wanted_by (T := _) (by kernel_rfl) hsz rfl (by decide : 15 < 22) rfl (hg 15 (by kernel_rfl) (by decide)), ?_⟩
              have e1 : ac.eval (.tmp 71) = .slice (some ⟨T, 0, none⟩) 16 16 := hg 16 (by kernel_rfl) (by decide)
              have hcv := (show (convert 25 9 (.slice (some ⟨T, 0, none⟩) 16 16)).run Try.prog u = .ok (.string ST) u from by rw [HS.out.2.2.2.1]; exact Ap.run_str u _ _ (Bs.rd (Ar.bs (Ar.chg (w := w9.drew) Z9.out.2.2.2 hc)) (by decide) (by decide)))
              exact opG_val (by simp [execOp, e1, hcv]) rfl (Chg.refl _)
            · injection ho with ho
              subst ho
              refine .inl ⟨wanted_by (T := _) (by kernel_rfl) hsz rfl (by decide : 15 < 22) rfl (hg 15 (by kernel_rfl) (by decide)), ?_⟩
              have e1 : ac.eval (.tmp 5) = .pointer (some ⟨w.heap.size, 0, none⟩) := hf 5 (by kernel_rfl)
              exact opG_val (by simp [execOp, e1, hsl16, (show ac.eval (Operand.const (.int .i64 16)) = .int .i64 16 from rfl)]) rfl (Chg.refl _)
            · injection ho with ho
              subst ho
              refine .inl ⟨wanted_by (T := _) (by kernel_rfl) hsz rfl (by decide : 15 < 22) rfl (hg 15 (by kernel_rfl) (by decide)), ?_⟩
              have e1 : ac.eval (.tmp 73) = .slice (some ⟨w.heap.size, 16, none⟩) 16 16 := hg 18 (by kernel_rfl) (by decide)
              have hcv := (show (convert 25 9 (.slice (some ⟨w.heap.size, 16, none⟩) 16 16)).run Try.prog u = .ok (.string ST) u from by rw [HS.out.2.2.2.2]; exact Ap.run_str u _ _ (Bs.rd (Ar.bsAt (Ar.chg (w := w9.drew) Z9.out.1.ky hc) 16 16 (by decide)) (by decide) (by decide)))
              exact opG_val (by simp [execOp, e1, hcv]) rfl (Chg.refl _)
            · injection ho with ho
              subst ho
              refine .inl ⟨wanted_by (T := _) (by kernel_rfl) hsz rfl (by decide : 15 < 22) rfl (hg 15 (by kernel_rfl) (by decide)), ?_⟩
              have e1 : ac.eval (.tmp 72) = .string ST := hg 17 (by kernel_rfl) (by decide)
              have e2 : ac.eval (.tmp 74) = .string ST := hg 19 (by kernel_rfl) (by decide)
              exact opG_val (by revert e1 e2; generalize ac.eval = ρ; intro e1 e2; simp [go_sem, execOp, e1, e2]) rfl (Chg.refl _)
            · injection ho with ho
              subst ho
              refine .inl ⟨wanted_none rfl, ?_⟩
              have e1 : ac.eval (.tmp 70) = .bool true := hg 15 (by kernel_rfl) (by decide)
              have e2 : ac.eval (.tmp 75) = .bool true := hg 20 (by kernel_rfl) (by decide)
              have e3 : ac.eval (.const (.bool false)) = .bool false := rfl
              exact opG_val (by revert e1 e2 e3; generalize ac.eval = ρ; intro e1 e2 e3; simp [go_sem, execOp, e1, e2, e3]) rfl (Chg.refl _)
          · intro o u V ho hV hc
            injection ho with ho
            subst ho
            refine ⟨rfl, ?_⟩
            have q55 : V 0 = .bool true := hV 0 (by decide)
            have q56 : V 1 = .bool true := hV 1 (by decide)
            have q57 : V 2 = .agg (ba 32 key) := hV 2 (by decide)
            have q58 : V 3 = .int .u32 (c.toNat : Int) := hV 3 (by decide)
            have q59 : V 4 = .agg (ba 12 nonce) := hV 4 (by decide)
            have q60 : V 5 = .slice ao n cap := hV 5 (by decide)
            obtain ⟨vx, q61, xx⟩ := hV 6 (by decide)
            have q62 : V 7 = .string S := hV 7 (by decide)
            have q63 : V 8 = .slice o1 p k1 := hV 8 (by decide)
            have q64 : V 9 = .string S1 := hV 9 (by decide)
            have q65 : V 10 = .slice o2 q k2 := hV 10 (by decide)
            have q66 : V 11 = .string S2 := hV 11 (by decide)
            have q67 : V 12 = .string S := hV 12 (by decide)
            have q68 : V 13 = .bool true := hV 13 (by decide)
            have q69 : V 14 = .bool true := hV 14 (by decide)
            have q70 : V 15 = .bool true := hV 15 (by decide)
            have q71 : V 16 = .slice (some ⟨T, 0, none⟩) 16 16 := hV 16 (by decide)
            have q72 : V 17 = .string ST := hV 17 (by decide)
            have q73 : V 18 = .slice (some ⟨w.heap.size, 16, none⟩) 16 16 := hV 18 (by decide)
            have q74 : V 19 = .string ST := hV 19 (by decide)
            have q75 : V 20 = .bool true := hV 20 (by decide)
            have q76 : V 21 = .bool true := hV 21 (by decide)
            refine op_val1 (v := .bool true) (by rw [← q76]; rfl) ?_
            go_wp2_with fail
            go_ret
            exact ⟨rfl, Z9.out.1.chg.drew.trans hc⟩

theorem counts_any (n : Nat) (key nonce txt : Nat → By) (z y : Int) (hz : 0 ≤ z ∧ z < 4294967296) (hy : 0 ≤ y ∧ y < 256) (v : Value) (w : World) (hv : Ap.Rd w v (nums n txt)) (hn : n ≤ 140737488351232) : Calls Try.prog 7 #[.agg (ba 32 key), .int .u32 z, .agg (ba 12 nonce), v, .int .u8 y] w fun e w' => e = .returned (.bool true) ∧ Chg w w' := by
  obtain ⟨ao, m, c2, rfl, hm, -⟩ := hv.shape
  rw [nums_len] at hm
  subst hm
  have e : z = ((BitVec.ofNat 32 z.toNat).toNat : Int) := by rw [BitVec.toNat_ofNat]; omega
  obtain ⟨k, rfl⟩ := Int.eq_ofNat_of_zero_le hy.1
  rw [e]
  exact counts_walk m c2 k ao key nonce txt _ w hv hn (by omega)
end Go.Proofs.Ytkdidacebfkdmaa
