/-
  Signatures held against texts: the program.
-/
import Derived.Test.YtjfidbifjagnpaaDoorSi
namespace Go.Proofs.YtjfidbifjagnpaaDoor
open Go.RowKit
set_option linter.unusedVariables false
set_option maxRecDepth 100000
def sV (f : Nat → Int) : Int := val 256 32 (fun i => f (32 + i))
def vOK (A : Nat → Int) (xs : List Int) (f : Nat → Int) : Bool := (tell A && (tell f && decide (sV f < mo 4))) && decide (MU PB (sV f).toNat = AD (tP f) (MU (tP A) (kN f A xs).toNat))
theorem vOK_0 {A : Nat → Int} {xs : List Int} {f : Nat → Int} (h : (tell A && (tell f && decide (sV f < mo 4))) = false) : vOK A xs f = false := by unfold vOK; rw [h]; rfl
theorem vOK_1 {A : Nat → Int} {xs : List Int} {f : Nat → Int} (h : (tell A && (tell f && decide (sV f < mo 4))) = true) : vOK A xs f = decide (MU PB (sV f).toNat = AD (tP f) (MU (tP A) (kN f A xs).toNat)) := by unfold vOK; rw [h]; rfl
theorem sV_N {f : Nat → Int} (h : ∀ i, B8 (f i)) : N256 (sV f) := N_val (fun i => h _)
set_option maxHeartbeats 16000000 in
theorem verifyE_any (A : Nat → Int) (hA : ∀ i, B8 (A i)) (v : Value) (xs : List Int) (f : Nat → Int) (hf : ∀ i, B8 (f i)) (w : World) (ht : Sha.Tabs w) (hx : Sha.SlA w v xs) : Calls Tryd.prog 6 #[.agg (byt A), v, .agg (b64 f)] w fun r w' => r = .returned (.bool (vOK A xs f)) ∧ Chg w w' := by
 obtain ⟨p, n, cap, rfl⟩ := SlA_shape hx
 have HT : Hid (Sha.Tabs w) := ht
 have HX : Hid (Sha.SlA w (.slice p n cap) xs) := hx
 have HF : Hid ((∀ i, B8 (A i)) ∧ ∀ i, B8 (f i)) := ⟨hA, hf⟩
 have hsA := byt_size A
 have hsB := b64_size f
 obtain ⟨C, hC⟩ : ∃ C, C = byt A := ⟨_, rfl⟩
 obtain ⟨B, hB⟩ : ∃ B, B = b64 f := ⟨_, rfl⟩
 have HC : Hid (C = byt A) := hC
 have HB : Hid (B = b64 f) := hB
 rw [← hC] at hsA ⊢
 rw [← hB] at hsB ⊢
 clear hA hf ht hx hC hB
 go_enter Tryd.func6, Tryd.ntmps6
 go_upto_region 1 with fail
 obtain ⟨w1, hw1⟩ : ∃ w1, w1 = (w.alloc (.cells C 22)).alloc (.cells B 27) := ⟨_, rfl⟩
 have Z1 : Hid (Chg w w1 ∧ Ar w1 w.heap.size (byt A) ∧ Ar w1 (w.heap.size + 1) (b64 f)) := by
  have hnew0 := Ar.new w (byt A) 22
  have hnew1 := Ar.new (w.alloc (.cells (byt A) 22)) (b64 f) 27
  rw [World.size_alloc] at hnew1
  rw [hw1, HC.out, HB.out]
  exact ⟨(((Chg.refl w).alloc _).alloc _), ((hnew0).alloc _), (hnew1)⟩
 rw [← hw1]
 clear hw1
 clear hsA hsB HC HB
 go_cut [7, 8] from 7 to 19 (fun v7 v8 wc => ∃ b7 b8, v7 = .pointer (some ⟨b7, 0, none⟩) ∧ v8 = .pointer (some ⟨b8, 0, none⟩) ∧ w1.heap.size ≤ b7 ∧ w1.heap.size ≤ b8 ∧ b7 ≠ b8 ∧ Ar wc b7 (byt f) ∧ Ar wc b8 (byt (fun i => f (32 + i))) ∧ Chg w1 wc)
 case first =>
  refine regL 6 (fun j v wg => match j with
   | 0 => v = .agg (b64 f)
   | 1 => v = .tuple #[.agg (byt f), .agg (byt (fun i => f (32 + i)))]
   | 2 => v = .tuple #[.agg (byt f), .agg (byt (fun i => f (32 + i)))]
   | 3 => v = .agg (byt f)
   | 4 => v = .agg (byt (fun i => f (32 + i)))
   | 5 => ∃ b, v = .pointer (some ⟨b, 0, none⟩) ∧ Ar wg b (byt zD) ∧ w1.heap.size ≤ b
   | _ => True) (by decide) (by kernel_rfl) ?_ ?_ ?_
  ·intro j v u1 u2 h hc
   match j, h with
   | 0, h => exact h
   | 1, h => exact h
   | 2, h => exact h
   | 3, h => exact h
   | 4, h => exact h
   | 5, h => (obtain ⟨b, h1, h2, h3⟩ := h; exact ⟨b, h1, h2.chg hc, h3⟩)
   | _ + 6, h => exact trivial
  ·intro i o ac u hi ho hsz hf hg hc
   have hcs : i = 0 ∨ i = 1 ∨ i = 2 ∨ i = 3 ∨ i = 4 ∨ i = 5 := by omega
   rcases hcs with rfl | rfl | rfl | rfl | rfl | rfl
   ·injection ho with ho
    subst ho
    refine .inl ⟨wanted_none rfl, ?_⟩
    have e1 : ac.eval (.tmp 5) = .pointer (some ⟨w.heap.size + 1, 0, none⟩) := hf 5 (by kernel_rfl)
    exact wp_load_mid 27 (.tmp 5) rfl _ _ e1 ((b64 f).toList) _ (rangeAp (Z1.out.2.2.chg hc)) unB rfl (infoB _) ⟨_, rfl, rfl, Chg.refl _⟩
   ·injection ho with ho
    subst ho
    refine .inl ⟨wanted_none rfl, ?_⟩
    have e1 : ac.eval (.tmp 16) = .agg (b64 f) := hg 0 (by decide) (by decide)
    refine opG_go 14 Tryd.f14 #[.tmp 16] #[27] rfl Tryd.func14 (by kernel_rfl) (by kernel_rfl) (by simp [e1]) (Calls.mono (halvesE_any f _) ?_)
    rintro r u2 ⟨rfl, hc2⟩
    exact ⟨_, rfl, rfl, hc2⟩
   ·injection ho with ho
    subst ho
    refine .inl ⟨wanted_none rfl, ?_⟩
    have e1 : ac.eval (.tmp 17) = .tuple #[.agg (byt f), .agg (byt (fun i => f (32 + i)))] := hg 1 (by decide) (by decide)
    exact opG_val (by simp [execOp, e1]) rfl (Chg.refl _)
   ·injection ho with ho
    subst ho
    refine .inl ⟨wanted_none rfl, ?_⟩
    have e1 : ac.eval (.tmp 15) = .tuple #[.agg (byt f), .agg (byt (fun i => f (32 + i)))] := hg 2 (by decide) (by decide)
    exact opG_val (by revert e1; generalize ac.eval = ρ; intro e1; simp [go_sem, execOp, e1]) rfl (Chg.refl _)
   ·injection ho with ho
    subst ho
    refine .inl ⟨wanted_none rfl, ?_⟩
    have e1 : ac.eval (.tmp 15) = .tuple #[.agg (byt f), .agg (byt (fun i => f (32 + i)))] := hg 2 (by decide) (by decide)
    exact opG_val (by revert e1; generalize ac.eval = ρ; intro e1; simp [go_sem, execOp, e1]) rfl (Chg.refl _)
   ·injection ho with ho
    subst ho
    refine .inl ⟨wanted_none rfl, ?_⟩
    exact opG_val (v := .pointer (some ⟨u.heap.size, 0, none⟩)) (w' := u.alloc (.cells (byt zD) 22)) (by generalize ac.eval = ρ; simp [go_sem, execOp, zero37.1]) ⟨_, rfl, Ar.new _ _ _, hc.size⟩ ((Chg.refl _).alloc _)
  ·intro u V hV hc
   have q16 : V 0 = .agg (b64 f) := hV 0 (by decide)
   have q17 : V 1 = .tuple #[.agg (byt f), .agg (byt (fun i => f (32 + i)))] := hV 1 (by decide)
   have q15 : V 2 = .tuple #[.agg (byt f), .agg (byt (fun i => f (32 + i)))] := hV 2 (by decide)
   have q18 : V 3 = .agg (byt f) := hV 3 (by decide)
   have q19 : V 4 = .agg (byt (fun i => f (32 + i))) := hV 4 (by decide)
   obtain ⟨b7, q7, r7, s7⟩ := hV 5 (by decide)
   refine wpList_al rfl 22 (byt zD) rfl zero37.1 ?_
   have hlt := r7.lt
   have hne : b7 ≠ u.heap.size := by omega
   have hsz : w1.heap.size ≤ u.heap.size := hc.size
   have ra := r7.alloc (.cells (byt zD) 22)
   have rb := Ar.new u (byt zD) 22
   have hcu := hc.alloc (.cells (byt zD) 22)
   obtain ⟨b8, hb8⟩ : ∃ zz0, zz0 = u.heap.size := ⟨_, rfl⟩
   rw [← hb8] at hne hsz rb ⊢
   obtain ⟨uu, huu⟩ : ∃ zz0, zz0 = u.alloc (.cells (byt zD) 22) := ⟨_, rfl⟩
   rw [← huu] at ra rb hcu ⊢
   clear huu hb8
   refine wpList_store_mid rfl 22 (.tmp 7) (.tmp 18) rfl b7 0 (byt f) (Eq.trans (by rfl) q7) (Eq.trans (by rfl) q18) (by rw [byt_size]; exact thereY ra) (szY _) (oneY _) ?_
   rw [show uu.setCells b7 0 (byt f).toList = uu.setRow b7 (byt f) from setRowY ra _]
   have rb' := rb.rowOther hne.symm (byt f)
   refine wpList_store_mid rfl 22 (.tmp 8) (.tmp 19) rfl b8 0 (byt (fun i => f (32 + i))) (by rfl) (Eq.trans (by rfl) q19) (by rw [byt_size]; exact thereY rb') (szY _) (oneY _) ?_
   rw [show (uu.setRow b7 (byt f)).setCells b8 0 (byt (fun i => f (32 + i))).toList = (uu.setRow b7 (byt f)).setRow b8 (byt (fun i => f (32 + i))) from setRowY rb' _]
   go_wp2_with fail
   go_meet
   exact ⟨b7, b8, q7, rfl, s7, hsz, hne, (ra.row _).rowOther hne _, rb'.row _, (hcu.setRow s7 _).setRow hsz _⟩
 obtain ⟨b7, b8, rfl, rfl, l7, l8, hne, ha7, ha8, hcc⟩ := hcut
 obtain ⟨w2, hw2⟩ : ∃ zz0, zz0 = wc := ⟨_, rfl⟩
 rw [← hw2] at hcc ha7 ha8 ⊢
 clear hw2
 have O7 : Hid (b7 ≠ b8 ∧ w.heap.size < b7 ∧ w.heap.size < b8 ∧ w.heap.size + 1 < b7 ∧ w.heap.size + 1 < b8) := ⟨hne, Nat.lt_of_lt_of_le (Z1.out.2.1.lt) l7, Nat.lt_of_lt_of_le (Z1.out.2.1.lt) l8, Nat.lt_of_lt_of_le (Z1.out.2.2.lt) l7, Nat.lt_of_lt_of_le (Z1.out.2.2.lt) l8⟩
 have Z2 : Hid (Chg w w2 ∧ Ar w2 w.heap.size (byt A) ∧ Ar w2 (w.heap.size + 1) (b64 f) ∧ Ar w2 b7 (byt f) ∧ Ar w2 b8 (byt (fun i => f (32 + i)))) := ⟨Z1.out.1.trans hcc, Z1.out.2.1.chg hcc, Z1.out.2.2.chg hcc, ha7, ha8⟩
 clear hcc hne ha7 ha8 l7 l8 Z1
 go_upto_region 2 with fail
 go_cut [9, 10] from 9 to 24 (fun v9 v10 wc => ∃ b9, v9 = .pointer (some ⟨b9, 0, none⟩) ∧ v10 = .bool (tell A) ∧ w2.heap.size ≤ b9 ∧ Ar wc b9 (q4 (tx A) (ty A) (tz A) (tt A)) ∧ Chg w2 wc)
 case first =>
  refine regL 6 (fun j v wg => match j with
   | 0 => v = .agg (byt A)
   | 1 => v = .tuple #[.agg (q4 (tx A) (ty A) (tz A) (tt A)), .bool (tell A)]
   | 2 => v = .tuple #[.agg (q4 (tx A) (ty A) (tz A) (tt A)), .bool (tell A)]
   | 3 => v = .agg (q4 (tx A) (ty A) (tz A) (tt A))
   | 4 => v = .bool (tell A)
   | 5 => ∃ b, v = .pointer (some ⟨b, 0, none⟩) ∧ Ar wg b (q4 0 0 0 0) ∧ w2.heap.size ≤ b
   | _ => True) (by decide) (by kernel_rfl) ?_ ?_ ?_
  ·intro j v u1 u2 h hc
   match j, h with
   | 0, h => exact h
   | 1, h => exact h
   | 2, h => exact h
   | 3, h => exact h
   | 4, h => exact h
   | 5, h => (obtain ⟨b, h1, h2, h3⟩ := h; exact ⟨b, h1, h2.chg hc, h3⟩)
   | _ + 6, h => exact trivial
  ·intro i o ac u hi ho hsz hf hg hc
   have hcs : i = 0 ∨ i = 1 ∨ i = 2 ∨ i = 3 ∨ i = 4 ∨ i = 5 := by omega
   rcases hcs with rfl | rfl | rfl | rfl | rfl | rfl
   ·injection ho with ho
    subst ho
    refine .inl ⟨wanted_none rfl, ?_⟩
    have e1 : ac.eval (.tmp 3) = .pointer (some ⟨w.heap.size, 0, none⟩) := hf 3 (by kernel_rfl)
    exact wp_load_mid 22 (.tmp 3) rfl _ _ e1 ((byt A).toList) _ (rangeAp (Z2.out.2.1.chg hc)) un37 rfl (infoY _) ⟨_, rfl, rfl, Chg.refl _⟩
   ·injection ho with ho
    subst ho
    refine .inl ⟨wanted_none rfl, ?_⟩
    have e1 : ac.eval (.tmp 21) = .agg (byt A) := hg 0 (by decide) (by decide)
    refine opG_go 15 Tryd.f15 #[.tmp 21] #[22] rfl Tryd.func15 (by kernel_rfl) (by kernel_rfl) (by simp [e1]) (Calls.mono (decodeE_any A HF.out.1 _) ?_)
    rintro r u2 ⟨rfl, hc2⟩
    exact ⟨_, rfl, rfl, hc2⟩
   ·injection ho with ho
    subst ho
    refine .inl ⟨wanted_none rfl, ?_⟩
    have e1 : ac.eval (.tmp 22) = .tuple #[.agg (q4 (tx A) (ty A) (tz A) (tt A)), .bool (tell A)] := hg 1 (by decide) (by decide)
    exact opG_val (by simp [execOp, e1]) rfl (Chg.refl _)
   ·injection ho with ho
    subst ho
    refine .inl ⟨wanted_none rfl, ?_⟩
    have e1 : ac.eval (.tmp 20) = .tuple #[.agg (q4 (tx A) (ty A) (tz A) (tt A)), .bool (tell A)] := hg 2 (by decide) (by decide)
    exact opG_val (by revert e1; generalize ac.eval = ρ; intro e1; simp [go_sem, execOp, e1]) rfl (Chg.refl _)
   ·injection ho with ho
    subst ho
    refine .inl ⟨wanted_none rfl, ?_⟩
    have e1 : ac.eval (.tmp 20) = .tuple #[.agg (q4 (tx A) (ty A) (tz A) (tt A)), .bool (tell A)] := hg 2 (by decide) (by decide)
    exact opG_val (by revert e1; generalize ac.eval = ρ; intro e1; simp [go_sem, execOp, e1]) rfl (Chg.refl _)
   ·injection ho with ho
    subst ho
    refine .inl ⟨wanted_none rfl, ?_⟩
    exact opG_val (v := .pointer (some ⟨u.heap.size, 0, none⟩)) (w' := u.alloc (.cells (q4 0 0 0 0) 44)) (by generalize ac.eval = ρ; simp [go_sem, execOp, zeroP4.1]) ⟨_, rfl, Ar.new _ _ _, hc.size⟩ ((Chg.refl _).alloc _)
  ·intro u V hV hc
   have q21 : V 0 = .agg (byt A) := hV 0 (by decide)
   have q22 : V 1 = .tuple #[.agg (q4 (tx A) (ty A) (tz A) (tt A)), .bool (tell A)] := hV 1 (by decide)
   have q20 : V 2 = .tuple #[.agg (q4 (tx A) (ty A) (tz A) (tt A)), .bool (tell A)] := hV 2 (by decide)
   have q23 : V 3 = .agg (q4 (tx A) (ty A) (tz A) (tt A)) := hV 3 (by decide)
   have q24 : V 4 = .bool (tell A) := hV 4 (by decide)
   obtain ⟨b9, q9, r9, s9⟩ := hV 5 (by decide)
   refine wpList_store_mid rfl 44 (.tmp 9) (.tmp 23) rfl b9 0 (q4 (tx A) (ty A) (tz A) (tt A)) (Eq.trans (by rfl) q9) (Eq.trans (by rfl) q23) (by rw [q4_size]; exact nms_there r9 0 4 (by omega)) (szP4 _ _ _ _) (q4_one _ _ _ _) ?_
   rw [show u.setCells b9 0 (q4 (tx A) (ty A) (tz A) (tt A)).toList = u.setRow b9 (q4 (tx A) (ty A) (tz A) (tt A)) from setRowP4 r9 _ _ _ _]
   go_wp2_with fail
   go_meet
   exact ⟨b9, q9, q24, s9, r9.row _, hc.setRow s9 _⟩
 obtain ⟨b9, rfl, rfl, l9, ha9, hcc⟩ := hcut
 obtain ⟨w3, hw3⟩ : ∃ zz0, zz0 = wc := ⟨_, rfl⟩
 rw [← hw3] at hcc ha9 ⊢
 clear hw3
 have O9 : Hid (w.heap.size < b9 ∧ w.heap.size + 1 < b9 ∧ b7 < b9 ∧ b8 < b9) := ⟨Nat.lt_of_lt_of_le (Z2.out.2.1.lt) l9, Nat.lt_of_lt_of_le (Z2.out.2.2.1.lt) l9, Nat.lt_of_lt_of_le (Z2.out.2.2.2.1.lt) l9, Nat.lt_of_lt_of_le (Z2.out.2.2.2.2.lt) l9⟩
 have Z3 : Hid (Chg w w3 ∧ Ar w3 w.heap.size (byt A) ∧ Ar w3 (w.heap.size + 1) (b64 f) ∧ Ar w3 b7 (byt f) ∧ Ar w3 b8 (byt (fun i => f (32 + i))) ∧ Ar w3 b9 (q4 (tx A) (ty A) (tz A) (tt A))) := ⟨Z2.out.1.trans hcc, Z2.out.2.1.chg hcc, Z2.out.2.2.1.chg hcc, Z2.out.2.2.2.1.chg hcc, Z2.out.2.2.2.2.chg hcc, ha9⟩
 clear hcc ha9 l9 Z2
 go_upto_region 3 with fail
 go_cut [11, 12] from 11 to 29 (fun v11 v12 wc => ∃ b11, v11 = .pointer (some ⟨b11, 0, none⟩) ∧ v12 = .bool (tell f) ∧ w3.heap.size ≤ b11 ∧ Ar wc b11 (q4 (tx f) (ty f) (tz f) (tt f)) ∧ Chg w3 wc)
 case first =>
  refine regL 6 (fun j v wg => match j with
   | 0 => v = .agg (byt f)
   | 1 => v = .tuple #[.agg (q4 (tx f) (ty f) (tz f) (tt f)), .bool (tell f)]
   | 2 => v = .tuple #[.agg (q4 (tx f) (ty f) (tz f) (tt f)), .bool (tell f)]
   | 3 => v = .agg (q4 (tx f) (ty f) (tz f) (tt f))
   | 4 => v = .bool (tell f)
   | 5 => ∃ b, v = .pointer (some ⟨b, 0, none⟩) ∧ Ar wg b (q4 0 0 0 0) ∧ w3.heap.size ≤ b
   | _ => True) (by decide) (by kernel_rfl) ?_ ?_ ?_
  ·intro j v u1 u2 h hc
   match j, h with
   | 0, h => exact h
   | 1, h => exact h
   | 2, h => exact h
   | 3, h => exact h
   | 4, h => exact h
   | 5, h => (obtain ⟨b, h1, h2, h3⟩ := h; exact ⟨b, h1, h2.chg hc, h3⟩)
   | _ + 6, h => exact trivial
  ·intro i o ac u hi ho hsz hf hg hc
   have hcs : i = 0 ∨ i = 1 ∨ i = 2 ∨ i = 3 ∨ i = 4 ∨ i = 5 := by omega
   rcases hcs with rfl | rfl | rfl | rfl | rfl | rfl
   ·injection ho with ho
    subst ho
    refine .inl ⟨wanted_none rfl, ?_⟩
    have e1 : ac.eval (.tmp 7) = .pointer (some ⟨b7, 0, none⟩) := hf 7 (by kernel_rfl)
    exact wp_load_mid 22 (.tmp 7) rfl _ _ e1 ((byt f).toList) _ (rangeAp (Z3.out.2.2.2.1.chg hc)) un37 rfl (infoY _) ⟨_, rfl, rfl, Chg.refl _⟩
   ·injection ho with ho
    subst ho
    refine .inl ⟨wanted_none rfl, ?_⟩
    have e1 : ac.eval (.tmp 26) = .agg (byt f) := hg 0 (by decide) (by decide)
    refine opG_go 15 Tryd.f15 #[.tmp 26] #[22] rfl Tryd.func15 (by kernel_rfl) (by kernel_rfl) (by simp [e1]) (Calls.mono (decodeE_any f HF.out.2 _) ?_)
    rintro r u2 ⟨rfl, hc2⟩
    exact ⟨_, rfl, rfl, hc2⟩
   ·injection ho with ho
    subst ho
    refine .inl ⟨wanted_none rfl, ?_⟩
    have e1 : ac.eval (.tmp 27) = .tuple #[.agg (q4 (tx f) (ty f) (tz f) (tt f)), .bool (tell f)] := hg 1 (by decide) (by decide)
    exact opG_val (by simp [execOp, e1]) rfl (Chg.refl _)
   ·injection ho with ho
    subst ho
    refine .inl ⟨wanted_none rfl, ?_⟩
    have e1 : ac.eval (.tmp 25) = .tuple #[.agg (q4 (tx f) (ty f) (tz f) (tt f)), .bool (tell f)] := hg 2 (by decide) (by decide)
    exact opG_val (by revert e1; generalize ac.eval = ρ; intro e1; simp [go_sem, execOp, e1]) rfl (Chg.refl _)
   ·injection ho with ho
    subst ho
    refine .inl ⟨wanted_none rfl, ?_⟩
    have e1 : ac.eval (.tmp 25) = .tuple #[.agg (q4 (tx f) (ty f) (tz f) (tt f)), .bool (tell f)] := hg 2 (by decide) (by decide)
    exact opG_val (by revert e1; generalize ac.eval = ρ; intro e1; simp [go_sem, execOp, e1]) rfl (Chg.refl _)
   ·injection ho with ho
    subst ho
    refine .inl ⟨wanted_none rfl, ?_⟩
    exact opG_val (v := .pointer (some ⟨u.heap.size, 0, none⟩)) (w' := u.alloc (.cells (q4 0 0 0 0) 44)) (by generalize ac.eval = ρ; simp [go_sem, execOp, zeroP4.1]) ⟨_, rfl, Ar.new _ _ _, hc.size⟩ ((Chg.refl _).alloc _)
  ·intro u V hV hc
   have q26 : V 0 = .agg (byt f) := hV 0 (by decide)
   have q27 : V 1 = .tuple #[.agg (q4 (tx f) (ty f) (tz f) (tt f)), .bool (tell f)] := hV 1 (by decide)
   have q25 : V 2 = .tuple #[.agg (q4 (tx f) (ty f) (tz f) (tt f)), .bool (tell f)] := hV 2 (by decide)
   have q28 : V 3 = .agg (q4 (tx f) (ty f) (tz f) (tt f)) := hV 3 (by decide)
   have q29 : V 4 = .bool (tell f) := hV 4 (by decide)
   obtain ⟨b11, q11, r11, s11⟩ := hV 5 (by decide)
   refine wpList_store_mid rfl 44 (.tmp 11) (.tmp 28) rfl b11 0 (q4 (tx f) (ty f) (tz f) (tt f)) (Eq.trans (by rfl) q11) (Eq.trans (by rfl) q28) (by rw [q4_size]; exact nms_there r11 0 4 (by omega)) (szP4 _ _ _ _) (q4_one _ _ _ _) ?_
   rw [show u.setCells b11 0 (q4 (tx f) (ty f) (tz f) (tt f)).toList = u.setRow b11 (q4 (tx f) (ty f) (tz f) (tt f)) from setRowP4 r11 _ _ _ _]
   go_wp2_with fail
   go_meet
   exact ⟨b11, q11, q29, s11, r11.row _, hc.setRow s11 _⟩
 obtain ⟨b11, rfl, rfl, l11, ha11, hcc⟩ := hcut
 obtain ⟨w4, hw4⟩ : ∃ zz0, zz0 = wc := ⟨_, rfl⟩
 rw [← hw4] at hcc ha11 ⊢
 clear hw4
 have O11 : Hid (w.heap.size < b11 ∧ w.heap.size + 1 < b11 ∧ b7 < b11 ∧ b8 < b11 ∧ b9 < b11) := ⟨Nat.lt_of_lt_of_le (Z3.out.2.1.lt) l11, Nat.lt_of_lt_of_le (Z3.out.2.2.1.lt) l11, Nat.lt_of_lt_of_le (Z3.out.2.2.2.1.lt) l11, Nat.lt_of_lt_of_le (Z3.out.2.2.2.2.1.lt) l11, Nat.lt_of_lt_of_le (Z3.out.2.2.2.2.2.lt) l11⟩
 have Z4 : Hid (Chg w w4 ∧ Ar w4 w.heap.size (byt A) ∧ Ar w4 (w.heap.size + 1) (b64 f) ∧ Ar w4 b7 (byt f) ∧ Ar w4 b8 (byt (fun i => f (32 + i))) ∧ Ar w4 b9 (q4 (tx A) (ty A) (tz A) (tt A)) ∧ Ar w4 b11 (q4 (tx f) (ty f) (tz f) (tt f))) := ⟨Z3.out.1.trans hcc, Z3.out.2.1.chg hcc, Z3.out.2.2.1.chg hcc, Z3.out.2.2.2.1.chg hcc, Z3.out.2.2.2.2.1.chg hcc, Z3.out.2.2.2.2.2.chg hcc, ha11⟩
 clear hcc ha11 l11 Z3
 go_upto_region 4 with fail
 go_cut [13] from 13 to 31 (fun v13 wc => ∃ b13, v13 = .pointer (some ⟨b13, 0, none⟩) ∧ w4.heap.size ≤ b13 ∧ Ar wc b13 (num (sV f)) ∧ Chg w4 wc)
 case first =>
  refine regS 3 (fun j v wg => match j with
   | 0 => v = .agg (byt (fun i => f (32 + i)))
   | 1 => v = .agg (num (sV f))
   | 2 => ∃ b, v = .pointer (some ⟨b, 0, none⟩) ∧ Ar wg b (num 0) ∧ w4.heap.size ≤ b
   | _ => True) (by kernel_rfl) (by kernel_rfl) ?_ ?_ ?_
  ·intro j v u1 u2 h hc
   match j, h with
   | 0, h => exact h
   | 1, h => exact h
   | 2, h => (obtain ⟨b, h1, h2, h3⟩ := h; exact ⟨b, h1, h2.chg hc, h3⟩)
   | _ + 3, h => exact trivial
  ·intro i o ac u hi ho hsz hf hg hc
   have hcs : i = 0 ∨ i = 1 ∨ i = 2 := by omega
   rcases hcs with rfl | rfl | rfl
   ·injection ho with ho
    subst ho
    refine .inl ⟨wanted_none rfl, ?_⟩
    have e1 : ac.eval (.tmp 8) = .pointer (some ⟨b8, 0, none⟩) := hf 8 (by kernel_rfl)
    exact wp_load_mid 22 (.tmp 8) rfl _ _ e1 ((byt (fun i => f (32 + i))).toList) _ (rangeAp (Z4.out.2.2.2.2.1.chg hc)) un37 rfl (infoY _) ⟨_, rfl, rfl, Chg.refl _⟩
   ·injection ho with ho
    subst ho
    refine .inl ⟨wanted_none rfl, ?_⟩
    have e1 : ac.eval (.tmp 30) = .agg (byt (fun i => f (32 + i))) := hg 0 (by decide) (by decide)
    refine opG_go 16 Tryd.f16 #[.tmp 30] #[22] rfl Tryd.func16 (by kernel_rfl) (by kernel_rfl) (by simp [e1]) (Calls.mono (fromLE_any (fun i => f (32 + i)) (fun i => HF.out.2 _) _) ?_)
    rintro r u2 ⟨rfl, hc2⟩
    exact ⟨_, rfl, rfl, hc2⟩
   ·injection ho with ho
    subst ho
    refine .inl ⟨wanted_none rfl, ?_⟩
    exact opG_val (v := .pointer (some ⟨u.heap.size, 0, none⟩)) (w' := u.alloc (.cells (num 0) 32)) (by generalize ac.eval = ρ; simp [go_sem, execOp, zero25.1]) ⟨_, rfl, Ar.new _ _ _, hc.size⟩ ((Chg.refl _).alloc _)
  ·intro o u V ho hV hc
   injection ho with ho
   subst ho
   refine ⟨rfl, ?_⟩
   have q30 : V 0 = .agg (byt (fun i => f (32 + i))) := hV 0 (by decide)
   have q31 : V 1 = .agg (num (sV f)) := hV 1 (by decide)
   obtain ⟨b13, q13, r13, s13⟩ := hV 2 (by decide)
   refine wp_store_mid 32 (.tmp 13) (.tmp 31) rfl b13 0 (num (sV f)) (Eq.trans (by rfl) q13) (Eq.trans (by rfl) q31) (by rw [num_size]; exact thereN r13) (szN _) (num_one _) ?_
   rw [show u.setCells b13 0 (num (sV f)).toList = u.setRow b13 (num (sV f)) from setRowN r13 _]
   go_wp2_with fail
   go_meet
   exact ⟨b13, q13, s13, r13.row _, hc.setRow s13 _⟩
 obtain ⟨b13, rfl, l13, ha13, hcc⟩ := hcut
 obtain ⟨w5, hw5⟩ : ∃ zz0, zz0 = wc := ⟨_, rfl⟩
 rw [← hw5] at hcc ha13 ⊢
 clear hw5
 have O13 : Hid (w.heap.size < b13 ∧ w.heap.size + 1 < b13 ∧ b7 < b13 ∧ b8 < b13 ∧ b9 < b13 ∧ b11 < b13) := ⟨Nat.lt_of_lt_of_le (Z4.out.2.1.lt) l13, Nat.lt_of_lt_of_le (Z4.out.2.2.1.lt) l13, Nat.lt_of_lt_of_le (Z4.out.2.2.2.1.lt) l13, Nat.lt_of_lt_of_le (Z4.out.2.2.2.2.1.lt) l13, Nat.lt_of_lt_of_le (Z4.out.2.2.2.2.2.1.lt) l13, Nat.lt_of_lt_of_le (Z4.out.2.2.2.2.2.2.lt) l13⟩
 have Z5 : Hid (Chg w w5 ∧ Ar w5 w.heap.size (byt A) ∧ Ar w5 (w.heap.size + 1) (b64 f) ∧ Ar w5 b7 (byt f) ∧ Ar w5 b8 (byt (fun i => f (32 + i))) ∧ Ar w5 b9 (q4 (tx A) (ty A) (tz A) (tt A)) ∧ Ar w5 b11 (q4 (tx f) (ty f) (tz f) (tt f)) ∧ Ar w5 b13 (num (sV f))) := ⟨Z4.out.1.trans hcc, Z4.out.2.1.chg hcc, Z4.out.2.2.1.chg hcc, Z4.out.2.2.2.1.chg hcc, Z4.out.2.2.2.2.1.chg hcc, Z4.out.2.2.2.2.2.1.chg hcc, Z4.out.2.2.2.2.2.2.chg hcc, ha13⟩
 clear hcc ha13 l13 Z4
 obtain ⟨bA, hbA⟩ : ∃ zz0, zz0 = tell A := ⟨_, rfl⟩
 obtain ⟨bF, hbF⟩ : ∃ zz0, zz0 = tell f := ⟨_, rfl⟩
 obtain ⟨bR, hbR⟩ : ∃ zz0, zz0 = decide (sV f < mo 4) := ⟨_, rfl⟩
 obtain ⟨ok, hok⟩ : ∃ zz0, zz0 = (bA && (bF && bR)) := ⟨_, rfl⟩
 have HO : Hid (tell A = bA ∧ tell f = bF ∧ decide (sV f < mo 4) = bR ∧ ok = (bA && (bF && bR))) := ⟨hbA.symm, hbF.symm, hbR.symm, hok⟩
 rw [← hbA, ← hbF]
 clear hbA hbF hbR hok
 go_upto_region 5 with fail
 go_cut [42] from 32 to 42 (fun v42 wc => v42 = .bool (!ok) ∧ Chg w5 wc)
 case first =>
  cases bA
  ·have hb : ok = false := by rw [HO.out.2.2.2]; rfl
   refine regS 10 (fun j v wg => match j with
    | 0 => v = .bool false
    | 1 => v = .bool true
    | 2 => v = .bool true
    | 3 => v = undef
    | 4 => v = undef
    | 5 => v = .bool true
    | 6 => v = .bool true
    | 7 => v = undef
    | 8 => v = undef
    | 9 => v = undef
    | _ => True) (by kernel_rfl) (by kernel_rfl) ?_ ?_ ?_
   ·intro j v u1 u2 h hc
    match j, h with
    | 0, h => exact h
    | 1, h => exact h
    | 2, h => exact h
    | 3, h => exact h
    | 4, h => exact h
    | 5, h => exact h
    | 6, h => exact h
    | 7, h => exact h
    | 8, h => exact h
    | 9, h => exact h
    | _ + 10, h => exact trivial
   ·intro i o ac u hi ho hsz hf hg hc
    have hcs : i = 0 ∨ i = 1 ∨ i = 2 ∨ i = 3 ∨ i = 4 ∨ i = 5 ∨ i = 6 ∨ i = 7 ∨ i = 8 ∨ i = 9 := by omega
    rcases hcs with rfl | rfl | rfl | rfl | rfl | rfl | rfl | rfl | rfl | rfl
    ·injection ho with ho
     subst ho
     refine .inl ⟨wanted_none rfl, ?_⟩
     have e1 : ac.eval (.tmp 10) = .bool false := hf 10 (by kernel_rfl)
     exact opG_val (by simp [execOp, e1]) rfl (Chg.refl _)
    ·injection ho with ho
     subst ho
     refine .inl ⟨wanted_none rfl, ?_⟩
     have e1 : ac.eval (.tmp 32) = .bool false := hg 0 (by decide) (by decide)
     exact opG_val (by revert e1; generalize ac.eval = ρ; intro e1; simp [go_sem, execOp, e1]) rfl (Chg.refl _)
    ·injection ho with ho
     subst ho
     refine .inl ⟨wanted_none rfl, ?_⟩
     have e1 : ac.eval (.tmp 33) = .bool true := hg 1 (by decide) (by decide)
     exact opG_val (by simp [execOp, e1]) rfl (Chg.refl _)
    ·injection ho with ho
     subst ho
     exact .inr ⟨wanted_not (T := _) (by kernel_rfl) hsz rfl (by decide : 2 < 10) rfl rfl (hg 2 (by decide) (by decide)), rfl⟩
    ·injection ho with ho
     subst ho
     exact .inr ⟨wanted_not (T := _) (by kernel_rfl) hsz rfl (by decide : 2 < 10) rfl rfl (hg 2 (by decide) (by decide)), rfl⟩
    ·injection ho with ho
     subst ho
     refine .inl ⟨wanted_none rfl, ?_⟩
     have e1 : ac.eval (.tmp 34) = .bool true := hg 2 (by decide) (by decide)
     have e2 : ac.eval (.const (.bool true)) = .bool true := rfl
     have e3 : ac.eval (.tmp 36) = undef := hg 4 (by decide) (by decide)
     exact opG_val (by revert e1 e2 e3; generalize ac.eval = ρ; intro e1 e2 e3; simp [go_sem, execOp, e1, e2, e3]) rfl (Chg.refl _)
    ·injection ho with ho
     subst ho
     refine .inl ⟨wanted_none rfl, ?_⟩
     have e1 : ac.eval (.tmp 37) = .bool true := hg 5 (by decide) (by decide)
     exact opG_val (by simp [execOp, e1]) rfl (Chg.refl _)
    ·injection ho with ho
     subst ho
     exact .inr ⟨wanted_not (T := _) (by kernel_rfl) hsz rfl (by decide : 6 < 10) rfl rfl (hg 6 (by decide) (by decide)), rfl⟩
    ·injection ho with ho
     subst ho
     exact .inr ⟨wanted_not (T := _) (by kernel_rfl) hsz rfl (by decide : 6 < 10) rfl rfl (hg 6 (by decide) (by decide)), rfl⟩
    ·injection ho with ho
     subst ho
     exact .inr ⟨wanted_not (T := _) (by kernel_rfl) hsz rfl (by decide : 6 < 10) rfl rfl (hg 6 (by decide) (by decide)), rfl⟩
   ·intro o u V ho hV hc
    injection ho with ho
    subst ho
    refine ⟨rfl, ?_⟩
    have q32 : V 0 = .bool false := hV 0 (by decide)
    have q33 : V 1 = .bool true := hV 1 (by decide)
    have q34 : V 2 = .bool true := hV 2 (by decide)
    have q35 : V 3 = undef := hV 3 (by decide)
    have q36 : V 4 = undef := hV 4 (by decide)
    have q37 : V 5 = .bool true := hV 5 (by decide)
    have q38 : V 6 = .bool true := hV 6 (by decide)
    have q39 : V 7 = undef := hV 7 (by decide)
    have q40 : V 8 = undef := hV 8 (by decide)
    have q41 : V 9 = undef := hV 9 (by decide)
    refine op_pick (.tmp 38) (.const (.bool true)) (.tmp 41) true (.bool true) rfl (Eq.trans (by rfl) q38) rfl ?_
    go_wp2_with fail
    go_meet
    exact ⟨by rw [hb]; rfl, hc⟩
  ·cases bF
   ·have hb : ok = false := by rw [HO.out.2.2.2]; rfl
    refine regS 10 (fun j v wg => match j with
     | 0 => v = .bool true
     | 1 => v = .bool false
     | 2 => v = .bool false
     | 3 => v = .bool false
     | 4 => v = .bool true
     | 5 => v = .bool true
     | 6 => v = .bool true
     | 7 => v = undef
     | 8 => v = undef
     | 9 => v = undef
     | _ => True) (by kernel_rfl) (by kernel_rfl) ?_ ?_ ?_
    ·intro j v u1 u2 h hc
     match j, h with
     | 0, h => exact h
     | 1, h => exact h
     | 2, h => exact h
     | 3, h => exact h
     | 4, h => exact h
     | 5, h => exact h
     | 6, h => exact h
     | 7, h => exact h
     | 8, h => exact h
     | 9, h => exact h
     | _ + 10, h => exact trivial
    ·intro i o ac u hi ho hsz hf hg hc
     have hcs : i = 0 ∨ i = 1 ∨ i = 2 ∨ i = 3 ∨ i = 4 ∨ i = 5 ∨ i = 6 ∨ i = 7 ∨ i = 8 ∨ i = 9 := by omega
     rcases hcs with rfl | rfl | rfl | rfl | rfl | rfl | rfl | rfl | rfl | rfl
     ·injection ho with ho
      subst ho
      refine .inl ⟨wanted_none rfl, ?_⟩
      have e1 : ac.eval (.tmp 10) = .bool true := hf 10 (by kernel_rfl)
      exact opG_val (by simp [execOp, e1]) rfl (Chg.refl _)
     ·injection ho with ho
      subst ho
      refine .inl ⟨wanted_none rfl, ?_⟩
      have e1 : ac.eval (.tmp 32) = .bool true := hg 0 (by decide) (by decide)
      exact opG_val (by revert e1; generalize ac.eval = ρ; intro e1; simp [go_sem, execOp, e1]) rfl (Chg.refl _)
     ·injection ho with ho
      subst ho
      refine .inl ⟨wanted_none rfl, ?_⟩
      have e1 : ac.eval (.tmp 33) = .bool false := hg 1 (by decide) (by decide)
      exact opG_val (by simp [execOp, e1]) rfl (Chg.refl _)
     ·injection ho with ho
      subst ho
      refine .inl ⟨wanted_by (T := _) (by kernel_rfl) hsz rfl (by decide : 2 < 10) rfl (hg 2 (by decide) (by decide)), ?_⟩
      have e1 : ac.eval (.tmp 12) = .bool false := hf 12 (by kernel_rfl)
      exact opG_val (by simp [execOp, e1]) rfl (Chg.refl _)
     ·injection ho with ho
      subst ho
      refine .inl ⟨wanted_by (T := _) (by kernel_rfl) hsz rfl (by decide : 2 < 10) rfl (hg 2 (by decide) (by decide)), ?_⟩
      have e1 : ac.eval (.tmp 35) = .bool false := hg 3 (by decide) (by decide)
      exact opG_val (by revert e1; generalize ac.eval = ρ; intro e1; simp [go_sem, execOp, e1]) rfl (Chg.refl _)
     ·injection ho with ho
      subst ho
      refine .inl ⟨wanted_none rfl, ?_⟩
      have e1 : ac.eval (.tmp 34) = .bool false := hg 2 (by decide) (by decide)
      have e2 : ac.eval (.const (.bool true)) = .bool true := rfl
      have e3 : ac.eval (.tmp 36) = .bool true := hg 4 (by decide) (by decide)
      exact opG_val (by revert e1 e2 e3; generalize ac.eval = ρ; intro e1 e2 e3; simp [go_sem, execOp, e1, e2, e3]) rfl (Chg.refl _)
     ·injection ho with ho
      subst ho
      refine .inl ⟨wanted_none rfl, ?_⟩
      have e1 : ac.eval (.tmp 37) = .bool true := hg 5 (by decide) (by decide)
      exact opG_val (by simp [execOp, e1]) rfl (Chg.refl _)
     ·injection ho with ho
      subst ho
      exact .inr ⟨wanted_not (T := _) (by kernel_rfl) hsz rfl (by decide : 6 < 10) rfl rfl (hg 6 (by decide) (by decide)), rfl⟩
     ·injection ho with ho
      subst ho
      exact .inr ⟨wanted_not (T := _) (by kernel_rfl) hsz rfl (by decide : 6 < 10) rfl rfl (hg 6 (by decide) (by decide)), rfl⟩
     ·injection ho with ho
      subst ho
      exact .inr ⟨wanted_not (T := _) (by kernel_rfl) hsz rfl (by decide : 6 < 10) rfl rfl (hg 6 (by decide) (by decide)), rfl⟩
    ·intro o u V ho hV hc
     injection ho with ho
     subst ho
     refine ⟨rfl, ?_⟩
     have q32 : V 0 = .bool true := hV 0 (by decide)
     have q33 : V 1 = .bool false := hV 1 (by decide)
     have q34 : V 2 = .bool false := hV 2 (by decide)
     have q35 : V 3 = .bool false := hV 3 (by decide)
     have q36 : V 4 = .bool true := hV 4 (by decide)
     have q37 : V 5 = .bool true := hV 5 (by decide)
     have q38 : V 6 = .bool true := hV 6 (by decide)
     have q39 : V 7 = undef := hV 7 (by decide)
     have q40 : V 8 = undef := hV 8 (by decide)
     have q41 : V 9 = undef := hV 9 (by decide)
     refine op_pick (.tmp 38) (.const (.bool true)) (.tmp 41) true (.bool true) rfl (Eq.trans (by rfl) q38) rfl ?_
     go_wp2_with fail
     go_meet
     exact ⟨by rw [hb]; rfl, hc⟩
   ·have hb : ok = bR := by rw [HO.out.2.2.2]; rfl
    refine regS 10 (fun j v wg => match j with
     | 0 => v = .bool true
     | 1 => v = .bool false
     | 2 => v = .bool false
     | 3 => v = .bool true
     | 4 => v = .bool false
     | 5 => v = .bool false
     | 6 => v = .bool false
     | 7 => v = .agg (num (sV f))
     | 8 => v = .bool bR
     | 9 => v = .bool (!bR)
     | _ => True) (by kernel_rfl) (by kernel_rfl) ?_ ?_ ?_
    ·intro j v u1 u2 h hc
     match j, h with
     | 0, h => exact h
     | 1, h => exact h
     | 2, h => exact h
     | 3, h => exact h
     | 4, h => exact h
     | 5, h => exact h
     | 6, h => exact h
     | 7, h => exact h
     | 8, h => exact h
     | 9, h => exact h
     | _ + 10, h => exact trivial
    ·intro i o ac u hi ho hsz hf hg hc
     have hcs : i = 0 ∨ i = 1 ∨ i = 2 ∨ i = 3 ∨ i = 4 ∨ i = 5 ∨ i = 6 ∨ i = 7 ∨ i = 8 ∨ i = 9 := by omega
     rcases hcs with rfl | rfl | rfl | rfl | rfl | rfl | rfl | rfl | rfl | rfl
     ·injection ho with ho
      subst ho
      refine .inl ⟨wanted_none rfl, ?_⟩
      have e1 : ac.eval (.tmp 10) = .bool true := hf 10 (by kernel_rfl)
      exact opG_val (by simp [execOp, e1]) rfl (Chg.refl _)
     ·injection ho with ho
      subst ho
      refine .inl ⟨wanted_none rfl, ?_⟩
      have e1 : ac.eval (.tmp 32) = .bool true := hg 0 (by decide) (by decide)
      exact opG_val (by revert e1; generalize ac.eval = ρ; intro e1; simp [go_sem, execOp, e1]) rfl (Chg.refl _)
     ·injection ho with ho
      subst ho
      refine .inl ⟨wanted_none rfl, ?_⟩
      have e1 : ac.eval (.tmp 33) = .bool false := hg 1 (by decide) (by decide)
      exact opG_val (by simp [execOp, e1]) rfl (Chg.refl _)
     ·injection ho with ho
      subst ho
      refine .inl ⟨wanted_by (T := _) (by kernel_rfl) hsz rfl (by decide : 2 < 10) rfl (hg 2 (by decide) (by decide)), ?_⟩
      have e1 : ac.eval (.tmp 12) = .bool true := hf 12 (by kernel_rfl)
      exact opG_val (by simp [execOp, e1]) rfl (Chg.refl _)
     ·injection ho with ho
      subst ho
      refine .inl ⟨wanted_by (T := _) (by kernel_rfl) hsz rfl (by decide : 2 < 10) rfl (hg 2 (by decide) (by decide)), ?_⟩
      have e1 : ac.eval (.tmp 35) = .bool true := hg 3 (by decide) (by decide)
      exact opG_val (by revert e1; generalize ac.eval = ρ; intro e1; simp [go_sem, execOp, e1]) rfl (Chg.refl _)
     ·injection ho with ho
      subst ho
      refine .inl ⟨wanted_none rfl, ?_⟩
      have e1 : ac.eval (.tmp 34) = .bool false := hg 2 (by decide) (by decide)
      have e2 : ac.eval (.const (.bool true)) = .bool true := rfl
      have e3 : ac.eval (.tmp 36) = .bool false := hg 4 (by decide) (by decide)
      exact opG_val (by revert e1 e2 e3; generalize ac.eval = ρ; intro e1 e2 e3; simp [go_sem, execOp, e1, e2, e3]) rfl (Chg.refl _)
     ·injection ho with ho
      subst ho
      refine .inl ⟨wanted_none rfl, ?_⟩
      have e1 : ac.eval (.tmp 37) = .bool false := hg 5 (by decide) (by decide)
      exact opG_val (by simp [execOp, e1]) rfl (Chg.refl _)
     ·injection ho with ho
      subst ho
      refine .inl ⟨wanted_by (T := _) (by kernel_rfl) hsz rfl (by decide : 6 < 10) rfl (hg 6 (by decide) (by decide)), ?_⟩
      have e1 : ac.eval (.tmp 13) = .pointer (some ⟨b13, 0, none⟩) := hf 13 (by kernel_rfl)
      exact wp_load_mid 32 (.tmp 13) rfl _ _ e1 ((num (sV f)).toList) _ (rangeAp (Z5.out.2.2.2.2.2.2.2.chg hc)) undNum rfl (infoN _) ⟨_, rfl, rfl, Chg.refl _⟩
     ·injection ho with ho
      subst ho
      refine .inl ⟨wanted_by (T := _) (by kernel_rfl) hsz rfl (by decide : 6 < 10) rfl (hg 6 (by decide) (by decide)), ?_⟩
      have e1 : ac.eval (.const (.int .i64 4)) = .int .i64 4 := rfl
      have e2 : ac.eval (.tmp 39) = .agg (num (sV f)) := hg 7 (by decide) (by decide)
      refine opG_go 17 Tryd.f17 #[.const (.int .i64 4), .tmp 39] #[37, 32] rfl Tryd.func17 (by kernel_rfl) (by kernel_rfl) (by simp [e1, e2]) (Calls.mono ((right_any 4 (sV f) (sV_N HF.out.2) _).mono (fun r_ w_ h => by rw [HO.out.2.2.1] at h; exact h)) ?_)
      rintro r u2 ⟨rfl, hc2⟩
      exact ⟨_, rfl, rfl, hc2⟩
     ·injection ho with ho
      subst ho
      refine .inl ⟨wanted_by (T := _) (by kernel_rfl) hsz rfl (by decide : 6 < 10) rfl (hg 6 (by decide) (by decide)), ?_⟩
      have e1 : ac.eval (.tmp 40) = .bool bR := hg 8 (by decide) (by decide)
      exact opG_val (by revert e1; generalize ac.eval = ρ; intro e1; simp [go_sem, execOp, e1]) rfl (Chg.refl _)
    ·intro o u V ho hV hc
     injection ho with ho
     subst ho
     refine ⟨rfl, ?_⟩
     have q32 : V 0 = .bool true := hV 0 (by decide)
     have q33 : V 1 = .bool false := hV 1 (by decide)
     have q34 : V 2 = .bool false := hV 2 (by decide)
     have q35 : V 3 = .bool true := hV 3 (by decide)
     have q36 : V 4 = .bool false := hV 4 (by decide)
     have q37 : V 5 = .bool false := hV 5 (by decide)
     have q38 : V 6 = .bool false := hV 6 (by decide)
     have q39 : V 7 = .agg (num (sV f)) := hV 7 (by decide)
     have q40 : V 8 = .bool bR := hV 8 (by decide)
     have q41 : V 9 = .bool (!bR) := hV 9 (by decide)
     refine op_pick (.tmp 38) (.const (.bool true)) (.tmp 41) false (.bool (!bR)) rfl (Eq.trans (by rfl) q38) (Eq.trans (by rfl) q41) ?_
     go_wp2_with fail
     go_meet
     exact ⟨by rw [hb], hc⟩
 obtain ⟨rfl, hcc⟩ := hcut
 obtain ⟨w6, hw6⟩ : ∃ zz0, zz0 = wc := ⟨_, rfl⟩
 rw [← hw6] at hcc ⊢
 have Z6 : Hid (Chg w w6 ∧ Ar w6 w.heap.size (byt A) ∧ Ar w6 (w.heap.size + 1) (b64 f) ∧ Ar w6 b7 (byt f) ∧ Ar w6 b8 (byt (fun i => f (32 + i))) ∧ Ar w6 b9 (q4 (tx A) (ty A) (tz A) (tt A)) ∧ Ar w6 b11 (q4 (tx f) (ty f) (tz f) (tt f)) ∧ Ar w6 b13 (num (sV f))) := ⟨Z5.out.1.trans hcc, Z5.out.2.1.chg hcc, Z5.out.2.2.1.chg hcc, Z5.out.2.2.2.1.chg hcc, Z5.out.2.2.2.2.1.chg hcc, Z5.out.2.2.2.2.2.1.chg hcc, Z5.out.2.2.2.2.2.2.1.chg hcc, Z5.out.2.2.2.2.2.2.2.chg hcc⟩
 clear hw6 hcc Z5
 go_upto_if 42 with fail
 cases ok
 ·have HV : Hid (vOK A xs f = false) := vOK_0 (by rw [HO.out.1, HO.out.2.1, HO.out.2.2.1]; exact HO.out.2.2.2.symm)
  go_wp2_with fail
  go_ret
  exact ⟨by rw [HV.out]; rfl, Z6.out.1⟩
 ·have k1 : (tell A && (tell f && decide (sV f < mo 4))) = true := by rw [HO.out.1, HO.out.2.1, HO.out.2.2.1]; exact HO.out.2.2.2.symm
  have HV : Hid (vOK A xs f = decide (MU PB (sV f).toNat = AD (tP f) (MU (tP A) (kN f A xs).toNat))) := vOK_1 k1
  rw [Bool.and_eq_true, Bool.and_eq_true] at k1
  have HPA : Hid (PT (tx A) (ty A) (tz A) (tt A) (tP A)) := tell_pt HF.out.1 k1.1
  have HPF : Hid (PT (tx f) (ty f) (tz f) (tt f) (tP f)) := tell_pt HF.out.2 k1.2.1
  clear k1 HO
  go_upto_region 7 with fail
  go_cut [14] from 14 to 47 (fun v14 wc => ∃ b14, v14 = .pointer (some ⟨b14, 0, none⟩) ∧ w6.heap.size ≤ b14 ∧ Ar wc b14 (num (kN f A xs)) ∧ Chg w6 wc)
  case first =>
   refine regA 6 (fun j v wg => match j with
    | 0 => v = .slice (some ⟨b7, 0, none⟩) 32 32
    | 1 => v = .slice (some ⟨w.heap.size, 0, none⟩) 32 32
    | 2 => v = .slice p n cap
    | 3 => ∃ b, v = .slice (some ⟨b, 0, none⟩) 3 3 ∧ Sha.Pt wg (.slice (some ⟨b, 0, none⟩) 3 3) [ls 32 f, ls 32 A, xs]
    | 4 => v = .agg (num (kN f A xs))
    | 5 => ∃ b, v = .pointer (some ⟨b, 0, none⟩) ∧ Ar wg b (num 0) ∧ w6.heap.size ≤ b
    | _ => True) (by kernel_rfl) (by kernel_rfl) (by kernel_rfl) (by kernel_rfl) (by kernel_rfl) ?_ ?_ ?_
   ·intro j v u1 u2 h hc
    match j, h with
    | 0, h => exact h
    | 1, h => exact h
    | 2, h => exact h
    | 3, h => (obtain ⟨b, h1, h2⟩ := h; exact ⟨b, h1, h2.chg (toS hc)⟩)
    | 4, h => exact h
    | 5, h => (obtain ⟨b, h1, h2, h3⟩ := h; exact ⟨b, h1, h2.chg hc, h3⟩)
    | _ + 6, h => exact trivial
   ·intro i o ac u hi ho hsz hf hg hc
    have hcs : i = 0 ∨ i = 1 ∨ i = 2 ∨ i = 3 ∨ i = 4 ∨ i = 5 := by omega
    rcases hcs with rfl | rfl | rfl | rfl | rfl | rfl
    ·injection ho with ho
     subst ho
     refine .inl ⟨wanted_none rfl, ?_⟩
     have e1 : ac.eval (.tmp 7) = .pointer (some ⟨b7, 0, none⟩) := hf 7 (by kernel_rfl)
     exact opG_val (by simp [execOp, e1, slY]) rfl (Chg.refl _)
    ·injection ho with ho
     subst ho
     refine .inl ⟨wanted_none rfl, ?_⟩
     have e1 : ac.eval (.tmp 3) = .pointer (some ⟨w.heap.size, 0, none⟩) := hf 3 (by kernel_rfl)
     exact opG_val (by simp [execOp, e1, slY]) rfl (Chg.refl _)
    ·injection ho with ho
     subst ho
     refine .inl ⟨wanted_none rfl, ?_⟩
     have e1 : ac.eval (.tmp 1) = .slice p n cap := hf 1 (by kernel_rfl)
     exact opG_val (by simp [execOp, e1]) rfl (Chg.refl _)
    ·injection ho with ho
     subst ho
     refine .inl ⟨wanted_none rfl, ?_⟩
     have e1 : ac.eval (.tmp 43) = .slice (some ⟨b7, 0, none⟩) 32 32 := hg 0 (by kernel_rfl) (by decide)
     have e2 : ac.eval (.tmp 44) = .slice (some ⟨w.heap.size, 0, none⟩) 32 32 := hg 1 (by kernel_rfl) (by decide)
     have e3 : ac.eval (.tmp 45) = .slice p n cap := hg 2 (by kernel_rfl) (by decide)
     exact opG_bs3 (.tmp 43) (.tmp 44) (.tmp 45) rfl e1 e2 e3 ⟨_, _, _, rfl⟩ ⟨_, _, _, rfl⟩ ⟨_, _, _, rfl⟩ ⟨_, rfl, Sha.Pt.made3 (Sha.Chg.refl _) (SlA_0 (Z6.out.2.2.2.1.chg hc)) (SlA_0 (Z6.out.2.1.chg hc)) (HX.out.chg (toS (Z6.out.1.trans hc))) _⟩
    ·injection ho with ho
     subst ho
     refine .inl ⟨wanted_none rfl, ?_⟩
     obtain ⟨b46, e10, r46⟩ := hg 3 (by kernel_rfl) (by decide)
     have e1 : ac.eval (.tmp 46) = .slice (some ⟨b46, 0, none⟩) 3 3 := e10
     refine opG_go 18 Tryd.f18 #[.tmp 46] #[63] rfl Tryd.func18 (by kernel_rfl) (by kernel_rfl) (by simp [e1]) (Calls.mono (reckonE_any _ _ _ (HT.out.chg (toS (Z6.out.1.trans hc))) r46) ?_)
     rintro r u2 ⟨rfl, hc2⟩
     exact ⟨_, rfl, rfl, hc2⟩
    ·injection ho with ho
     subst ho
     refine .inl ⟨wanted_none rfl, ?_⟩
     exact opG_val (v := .pointer (some ⟨u.heap.size, 0, none⟩)) (w' := u.alloc (.cells (num 0) 32)) (by generalize ac.eval = ρ; simp [go_sem, execOp, zero25.1]) ⟨_, rfl, Ar.new _ _ _, hc.size⟩ ((Chg.refl _).alloc _)
   ·intro o u V ho hV hc
    injection ho with ho
    subst ho
    refine ⟨rfl, ?_⟩
    have q43 : V 0 = .slice (some ⟨b7, 0, none⟩) 32 32 := hV 0 (by decide)
    have q44 : V 1 = .slice (some ⟨w.heap.size, 0, none⟩) 32 32 := hV 1 (by decide)
    have q45 : V 2 = .slice p n cap := hV 2 (by decide)
    obtain ⟨b46, q46, r46⟩ := hV 3 (by decide)
    have q47 : V 4 = .agg (num (kN f A xs)) := hV 4 (by decide)
    obtain ⟨b14, q14, r14, s14⟩ := hV 5 (by decide)
    refine wp_store_mid 32 (.tmp 14) (.tmp 47) rfl b14 0 (num (kN f A xs)) (Eq.trans (by rfl) q14) (Eq.trans (by rfl) q47) (by rw [num_size]; exact thereN r14) (szN _) (num_one _) ?_
    rw [show u.setCells b14 0 (num (kN f A xs)).toList = u.setRow b14 (num (kN f A xs)) from setRowN r14 _]
    go_wp2_with fail
    go_meet
    exact ⟨b14, q14, s14, r14.row _, hc.setRow s14 _⟩
  obtain ⟨b14, rfl, l14, ha14, hcc⟩ := hcut
  obtain ⟨w7, hw7⟩ : ∃ zz0, zz0 = wc := ⟨_, rfl⟩
  rw [← hw7] at hcc ha14 ⊢
  clear hw7
  have O14 : Hid (w.heap.size < b14 ∧ w.heap.size + 1 < b14 ∧ b7 < b14 ∧ b8 < b14 ∧ b9 < b14 ∧ b11 < b14 ∧ b13 < b14) := ⟨Nat.lt_of_lt_of_le (Z6.out.2.1.lt) l14, Nat.lt_of_lt_of_le (Z6.out.2.2.1.lt) l14, Nat.lt_of_lt_of_le (Z6.out.2.2.2.1.lt) l14, Nat.lt_of_lt_of_le (Z6.out.2.2.2.2.1.lt) l14, Nat.lt_of_lt_of_le (Z6.out.2.2.2.2.2.1.lt) l14, Nat.lt_of_lt_of_le (Z6.out.2.2.2.2.2.2.1.lt) l14, Nat.lt_of_lt_of_le (Z6.out.2.2.2.2.2.2.2.lt) l14⟩
  have Z7 : Hid (Chg w w7 ∧ Ar w7 w.heap.size (byt A) ∧ Ar w7 (w.heap.size + 1) (b64 f) ∧ Ar w7 b7 (byt f) ∧ Ar w7 b8 (byt (fun i => f (32 + i))) ∧ Ar w7 b9 (q4 (tx A) (ty A) (tz A) (tt A)) ∧ Ar w7 b11 (q4 (tx f) (ty f) (tz f) (tt f)) ∧ Ar w7 b13 (num (sV f)) ∧ Ar w7 b14 (num (kN f A xs))) := ⟨Z6.out.1.trans hcc, Z6.out.2.1.chg hcc, Z6.out.2.2.1.chg hcc, Z6.out.2.2.2.1.chg hcc, Z6.out.2.2.2.2.1.chg hcc, Z6.out.2.2.2.2.2.1.chg hcc, Z6.out.2.2.2.2.2.2.1.chg hcc, Z6.out.2.2.2.2.2.2.2.chg hcc, ha14⟩
  clear hcc ha14 l14 Z6
  go_upto_region 8 with fail
  go_cut [6] from 6 to 56 (fun v6 wc => v6 = .bool (vOK A xs f) ∧ Chg w7 wc)
  case first =>
   refine regA 9 (fun j v wg => match j with
    | 0 => v = .agg (q4 bX bY 1 (md 1 (bX * bY)))
    | 1 => v = .agg (num (sV f))
    | 2 => ∃ x y z t, v = .agg (q4 x y z t) ∧ PT x y z t (MU PB (sV f).toNat)
    | 3 => v = .agg (q4 (tx f) (ty f) (tz f) (tt f))
    | 4 => v = .agg (q4 (tx A) (ty A) (tz A) (tt A))
    | 5 => v = .agg (num (kN f A xs))
    | 6 => ∃ x y z t, v = .agg (q4 x y z t) ∧ PT x y z t (MU (tP A) (kN f A xs).toNat)
    | 7 => ∃ x y z t, v = .agg (q4 x y z t) ∧ PT x y z t (AD (tP f) (MU (tP A) (kN f A xs).toNat))
    | 8 => v = .bool (vOK A xs f)
    | _ => True) (by kernel_rfl) (by kernel_rfl) (by kernel_rfl) (by kernel_rfl) (by kernel_rfl) ?_ ?_ ?_
   ·intro j v u1 u2 h hc
    match j, h with
    | 0, h => exact h
    | 1, h => exact h
    | 2, h => exact h
    | 3, h => exact h
    | 4, h => exact h
    | 5, h => exact h
    | 6, h => exact h
    | 7, h => exact h
    | 8, h => exact h
    | _ + 9, h => exact trivial
   ·intro i o ac u hi ho hsz hf hg hc
    have hcs : i = 0 ∨ i = 1 ∨ i = 2 ∨ i = 3 ∨ i = 4 ∨ i = 5 ∨ i = 6 ∨ i = 7 ∨ i = 8 := by omega
    rcases hcs with rfl | rfl | rfl | rfl | rfl | rfl | rfl | rfl | rfl
    ·injection ho with ho
     subst ho
     refine .inl ⟨wanted_none rfl, ?_⟩
     refine opG_go 19 Tryd.f19 #[] #[] rfl Tryd.func19 (by kernel_rfl) (by kernel_rfl) (by simp []) (Calls.mono (baseE_any _) ?_)
     rintro r u2 ⟨rfl, hc2⟩
     exact ⟨_, rfl, rfl, hc2⟩
    ·injection ho with ho
     subst ho
     refine .inl ⟨wanted_none rfl, ?_⟩
     have e1 : ac.eval (.tmp 13) = .pointer (some ⟨b13, 0, none⟩) := hf 13 (by kernel_rfl)
     exact wp_load_mid 32 (.tmp 13) rfl _ _ e1 ((num (sV f)).toList) _ (rangeAp (Z7.out.2.2.2.2.2.2.2.1.chg hc)) undNum rfl (infoN _) ⟨_, rfl, rfl, Chg.refl _⟩
    ·injection ho with ho
     subst ho
     refine .inl ⟨wanted_none rfl, ?_⟩
     have e1 : ac.eval (.tmp 48) = .agg (q4 bX bY 1 (md 1 (bX * bY))) := hg 0 (by kernel_rfl) (by decide)
     have e2 : ac.eval (.tmp 49) = .agg (num (sV f)) := hg 1 (by kernel_rfl) (by decide)
     refine opG_go 20 Tryd.f20 #[.tmp 48, .tmp 49] #[44, 32] rfl Tryd.func20 (by kernel_rfl) (by kernel_rfl) (by simp [e1, e2]) (Calls.mono (timesE_any _ _ _ _ (sV f) PB PT_B (sV_N HF.out.2) _) ?_)
     rintro r u2 ⟨x50, y50, z50, t50, rfl, m50, hc2⟩
     exact ⟨_, rfl, ⟨x50, y50, z50, t50, rfl, m50⟩, hc2⟩
    ·injection ho with ho
     subst ho
     refine .inl ⟨wanted_none rfl, ?_⟩
     have e1 : ac.eval (.tmp 11) = .pointer (some ⟨b11, 0, none⟩) := hf 11 (by kernel_rfl)
     exact wp_load_mid 44 (.tmp 11) rfl _ _ e1 ((q4 (tx f) (ty f) (tz f) (tt f)).toList) _ (rangeAp (Z7.out.2.2.2.2.2.2.1.chg hc)) Tryd.underlying44 rfl (infoP4 _ _ _ _) ⟨_, rfl, rfl, Chg.refl _⟩
    ·injection ho with ho
     subst ho
     refine .inl ⟨wanted_none rfl, ?_⟩
     have e1 : ac.eval (.tmp 9) = .pointer (some ⟨b9, 0, none⟩) := hf 9 (by kernel_rfl)
     exact wp_load_mid 44 (.tmp 9) rfl _ _ e1 ((q4 (tx A) (ty A) (tz A) (tt A)).toList) _ (rangeAp (Z7.out.2.2.2.2.2.1.chg hc)) Tryd.underlying44 rfl (infoP4 _ _ _ _) ⟨_, rfl, rfl, Chg.refl _⟩
    ·injection ho with ho
     subst ho
     refine .inl ⟨wanted_none rfl, ?_⟩
     have e1 : ac.eval (.tmp 14) = .pointer (some ⟨b14, 0, none⟩) := hf 14 (by kernel_rfl)
     exact wp_load_mid 32 (.tmp 14) rfl _ _ e1 ((num (kN f A xs)).toList) _ (rangeAp (Z7.out.2.2.2.2.2.2.2.2.chg hc)) undNum rfl (infoN _) ⟨_, rfl, rfl, Chg.refl _⟩
    ·injection ho with ho
     subst ho
     refine .inl ⟨wanted_none rfl, ?_⟩
     have e1 : ac.eval (.tmp 52) = .agg (q4 (tx A) (ty A) (tz A) (tt A)) := hg 4 (by kernel_rfl) (by decide)
     have e2 : ac.eval (.tmp 53) = .agg (num (kN f A xs)) := hg 5 (by kernel_rfl) (by decide)
     refine opG_go 20 Tryd.f20 #[.tmp 52, .tmp 53] #[44, 32] rfl Tryd.func20 (by kernel_rfl) (by kernel_rfl) (by simp [e1, e2]) (Calls.mono (timesE_any _ _ _ _ (kN f A xs) (tP A) HPA.out (kN_N _ _ _) _) ?_)
     rintro r u2 ⟨x54, y54, z54, t54, rfl, m54, hc2⟩
     exact ⟨_, rfl, ⟨x54, y54, z54, t54, rfl, m54⟩, hc2⟩
    ·injection ho with ho
     subst ho
     refine .inl ⟨wanted_none rfl, ?_⟩
     have e1 : ac.eval (.tmp 51) = .agg (q4 (tx f) (ty f) (tz f) (tt f)) := hg 3 (by kernel_rfl) (by decide)
     obtain ⟨x54, y54, z54, t54, e20, m54⟩ := hg 6 (by kernel_rfl) (by decide)
     have e2 : ac.eval (.tmp 54) = .agg (q4 x54 y54 z54 t54) := e20
     refine opG_go 22 Tryd.f22 #[.tmp 51, .tmp 54] #[44, 44] rfl Tryd.func22 (by kernel_rfl) (by kernel_rfl) (by simp [e1, e2]) (Calls.mono (plusE_any _ _ _ _ _ _ _ _ _ _ HPF.out m54 _) ?_)
     rintro r u2 ⟨x55, y55, z55, t55, rfl, m55, hc2⟩
     exact ⟨_, rfl, ⟨x55, y55, z55, t55, rfl, m55⟩, hc2⟩
    ·injection ho with ho
     subst ho
     refine .inl ⟨wanted_none rfl, ?_⟩
     obtain ⟨x50, y50, z50, t50, e10, m50⟩ := hg 2 (by kernel_rfl) (by decide)
     have e1 : ac.eval (.tmp 50) = .agg (q4 x50 y50 z50 t50) := e10
     obtain ⟨x55, y55, z55, t55, e20, m55⟩ := hg 7 (by kernel_rfl) (by decide)
     have e2 : ac.eval (.tmp 55) = .agg (q4 x55 y55 z55 t55) := e20
     refine opG_go 21 Tryd.f21 #[.tmp 50, .tmp 55] #[44, 44] rfl Tryd.func21 (by kernel_rfl) (by kernel_rfl) (by simp [e1, e2]) (Calls.mono ((sameE_any _ _ _ _ _ _ _ _ _ _ m50 m55 _).mono (fun r_ w_ h => by rw [← HV.out] at h; exact h)) ?_)
     rintro r u2 ⟨rfl, hc2⟩
     exact ⟨_, rfl, rfl, hc2⟩
   ·intro o u V ho hV hc
    injection ho with ho
    subst ho
    refine ⟨rfl, ?_⟩
    have q48 : V 0 = .agg (q4 bX bY 1 (md 1 (bX * bY))) := hV 0 (by decide)
    have q49 : V 1 = .agg (num (sV f)) := hV 1 (by decide)
    obtain ⟨x50, y50, z50, t50, q50, m50⟩ := hV 2 (by decide)
    have q51 : V 3 = .agg (q4 (tx f) (ty f) (tz f) (tt f)) := hV 3 (by decide)
    have q52 : V 4 = .agg (q4 (tx A) (ty A) (tz A) (tt A)) := hV 4 (by decide)
    have q53 : V 5 = .agg (num (kN f A xs)) := hV 5 (by decide)
    obtain ⟨x54, y54, z54, t54, q54, m54⟩ := hV 6 (by decide)
    obtain ⟨x55, y55, z55, t55, q55, m55⟩ := hV 7 (by decide)
    have q56 : V 8 = .bool (vOK A xs f) := hV 8 (by decide)
    refine op_asg (.tmp 56) (.bool (vOK A xs f)) rfl (Eq.trans (by rfl) q56) ?_
    go_wp2_with fail
    go_meet
    exact ⟨rfl, hc⟩
  obtain ⟨rfl, hcc⟩ := hcut
  have Z9 : Hid (Chg w wc) := Z7.out.1.trans hcc
  clear hcc
  go_wp2_with fail
  go_ret
  exact ⟨rfl, Z9.out⟩
end Go.Proofs.YtjfidbifjagnpaaDoor
