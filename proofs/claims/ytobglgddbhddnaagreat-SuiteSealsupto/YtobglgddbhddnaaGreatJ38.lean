/-
  The document's Seal and Open of a suite, over what the layers below do.
-/
import Derived.Test.YtobglgddbhddnaaGreatJ37
namespace Go.Proofs.YtobglgddbhddnaaGreat
open Go.RowKit
set_option linter.unusedVariables false

set_option maxRecDepth 100000 in
set_option maxHeartbeats 4000000 in
theorem refSeal_bad (s e : Int) (ao : Option Addr) (L cap : Nat) (nc : Nat → By) (va vx : Value) (w : World) (hm : mayF s L = e) (he : e ≠ 0) :
    Calls Tryz.prog 7 #[.int .u16 s, .slice ao L cap, .agg (ba 12 nc), va, vx] w fun r w' => r = .returned (.tuple #[.slice none 0 0, .int .i64 e]) ∧ Chg w w' := by
  have HM : Hid (∀ u, Calls Tryz.prog 12 #[.int .u16 s, .slice ao L cap] u fun r w' => r = .returned (.int .i64 e) ∧ Chg u w') := fun u => by rw [← hm]; exact may_any s ao L cap u
  have he0 : (e != 0) = true := by simpa using he
  have hsA := ba_size 12 nc
  obtain ⟨A, hA⟩ : ∃ A, A = ba 12 nc := ⟨_, rfl⟩
  rw [← hA] at hsA ⊢
  clear hA hm he
  go_enter Tryz.func7, Tryz.ntmps7
  go_wp2_with (first | (go_at_call 12; refine (HM.out _).mono ?_; rintro r w2 ⟨rfl, hw2⟩))
  go_ret2
  exact ⟨rfl, ((Chg.refl w).alloc _).trans hw2⟩

set_option maxRecDepth 100000 in
set_option maxHeartbeats 4000000 in
theorem refOpen_bad (s e : Int) (ao : Option Addr) (L cap : Nat) (nc : Nat → By) (va vx : Value) (w : World) (hm : mayF s L = e) (he : e ≠ 0) :
    Calls Tryz.prog 9 #[.int .u16 s, .slice ao L cap, .agg (ba 12 nc), va, vx] w fun r w' => r = .returned (.tuple #[.slice none 0 0, .int .i64 e]) ∧ Chg w w' := by
  have HM : Hid (∀ u, Calls Tryz.prog 12 #[.int .u16 s, .slice ao L cap] u fun r w' => r = .returned (.int .i64 e) ∧ Chg u w') := fun u => by rw [← hm]; exact may_any s ao L cap u
  have he0 : (e != 0) = true := by simpa using he
  have hsA := ba_size 12 nc
  obtain ⟨A, hA⟩ : ∃ A, A = ba 12 nc := ⟨_, rfl⟩
  rw [← hA] at hsA ⊢
  clear hA hm he
  go_enter Tryz.func9, Tryz.ntmps9
  go_wp2_with (first | (go_at_call 12; refine (HM.out _).mono ?_; rintro r w2 ⟨rfl, hw2⟩))
  go_ret2
  exact ⟨rfl, ((Chg.refl w).alloc _).trans hw2⟩

set_option maxRecDepth 100000 in
set_option maxHeartbeats 8000000 in
theorem refSealG_fwd (s : Int) (ao : Option Addr) (L cap : Nat) (nc : Nat → By) (va vx : Value) (w : World) (P : Value → World → Prop) (hP : ∀ v u u', P v u → Chg u u' → P v u') (e : Int) (hm : mayF s L = 0) (hs : (s == 4867) = false)
    (HS : ∀ u, Chg w u → Calls Tryz.prog 15 #[.slice ao L cap, .agg (ba 12 nc), va, vx] u fun r w' => ∃ v, r = .returned (.tuple #[v, .int .i64 e]) ∧ P v w' ∧ Chg u w') :
    Calls Tryz.prog 7 #[.int .u16 s, .slice ao L cap, .agg (ba 12 nc), va, vx] w fun r w' => ∃ v, r = .returned (.tuple #[v, .int .i64 e]) ∧ P v w' ∧ Chg w w' := by
  have HM : Hid (∀ u, Calls Tryz.prog 12 #[.int .u16 s, .slice ao L cap] u fun r w' => r = .returned (.int .i64 0) ∧ Chg u w') := fun u => by rw [← hm]; exact may_any s ao L cap u
  have hsA := ba_size 12 nc
  have hszA := szB nc zero38.2
  obtain ⟨A, hA⟩ : ∃ A, A = ba 12 nc := ⟨_, rfl⟩
  have HA : Hid (A = ba 12 nc) := hA
  have HS : Hid (∀ u, Chg w u → Calls Tryz.prog 15 #[.slice ao L cap, .agg (ba 12 nc), va, vx] u fun r w' => ∃ v, r = .returned (.tuple #[v, .int .i64 e]) ∧ P v w' ∧ Chg u w') := HS
  rw [← hA] at hsA hszA ⊢
  clear hA hm
  go_enter Tryz.func7, Tryz.ntmps7
  go_wp2_with fail
  obtain ⟨w1, hw1⟩ : ∃ w1, w1 = w.alloc (.cells A 25) := ⟨_, rfl⟩
  have Z1 : Hid (Chg w w1 ∧ Ar w1 w.heap.size (ba 12 nc)) := by
    rw [hw1, HA.out]
    exact ⟨(Chg.refl w).alloc _, Ar.new w _ _⟩
  rw [← hw1]
  clear hw1 hsA
  go_at_call 12
  refine (HM.out _).mono ?_
  rintro r w2 ⟨rfl, hw2⟩
  have Z2 : Hid (Chg w w2 ∧ Ar w2 w.heap.size (ba 12 nc)) := ⟨Z1.out.1.trans hw2, Z1.out.2.chg hw2⟩
  clear hw2 Z1 HM
  rw [← HA.out] at HS Z2
  obtain ⟨t2, g2⟩ := Z2.out.2
  go_wp2_with (first | refine wpList_load_row rfl 25 _ rfl _ rfl _ _ _ _ g2 und38 rfl hszA ?_ | (go_at_call 15; refine (HS.out _ Z2.out.1).mono ?_; rintro r w3 ⟨v, rfl, hv, hc⟩))
  go_ret2
  exact ⟨v, rfl, hv, Z2.out.1.trans hc⟩

set_option maxRecDepth 100000 in
set_option maxHeartbeats 8000000 in
theorem refOpenG_fwd (s : Int) (ao : Option Addr) (L cap : Nat) (nc : Nat → By) (va vx : Value) (w : World) (P : Value → World → Prop) (hP : ∀ v u u', P v u → Chg u u' → P v u') (e : Int) (hm : mayF s L = 0) (hs : (s == 4867) = false)
    (HS : ∀ u, Chg w u → Calls Tryz.prog 17 #[.slice ao L cap, .agg (ba 12 nc), va, vx] u fun r w' => ∃ v, r = .returned (.tuple #[v, .int .i64 e]) ∧ P v w' ∧ Chg u w')
    (e2 : Int) (P2 : Value → World → Prop) (HQ : (e = 0 ∧ e2 = 0 ∧ ∀ v u, P v u → P2 v u) ∨ (e ≠ 0 ∧ e2 = 103 ∧ ∀ u, P2 (.slice none 0 0) u)) :
    Calls Tryz.prog 9 #[.int .u16 s, .slice ao L cap, .agg (ba 12 nc), va, vx] w fun r w' => ∃ v, r = .returned (.tuple #[v, .int .i64 e2]) ∧ P2 v w' ∧ Chg w w' := by
  have HM : Hid (∀ u, Calls Tryz.prog 12 #[.int .u16 s, .slice ao L cap] u fun r w' => r = .returned (.int .i64 0) ∧ Chg u w') := fun u => by rw [← hm]; exact may_any s ao L cap u
  have hsA := ba_size 12 nc
  have hszA := szB nc zero38.2
  obtain ⟨A, hA⟩ : ∃ A, A = ba 12 nc := ⟨_, rfl⟩
  have HA : Hid (A = ba 12 nc) := hA
  have HS : Hid (∀ u, Chg w u → Calls Tryz.prog 17 #[.slice ao L cap, .agg (ba 12 nc), va, vx] u fun r w' => ∃ v, r = .returned (.tuple #[v, .int .i64 e]) ∧ P v w' ∧ Chg u w') := HS
  have HQ : Hid ((e = 0 ∧ e2 = 0 ∧ ∀ v u, P v u → P2 v u) ∨ (e ≠ 0 ∧ e2 = 103 ∧ ∀ u, P2 (.slice none 0 0) u)) := HQ
  rw [← hA] at hsA hszA ⊢
  clear hA hm
  go_enter Tryz.func9, Tryz.ntmps9
  go_wp2_with fail
  obtain ⟨w1, hw1⟩ : ∃ w1, w1 = w.alloc (.cells A 25) := ⟨_, rfl⟩
  have Z1 : Hid (Chg w w1 ∧ Ar w1 w.heap.size (ba 12 nc)) := by
    rw [hw1, HA.out]
    exact ⟨(Chg.refl w).alloc _, Ar.new w _ _⟩
  rw [← hw1]
  clear hw1 hsA
  go_at_call 12
  refine (HM.out _).mono ?_
  rintro r w2 ⟨rfl, hw2⟩
  have Z2 : Hid (Chg w w2 ∧ Ar w2 w.heap.size (ba 12 nc)) := ⟨Z1.out.1.trans hw2, Z1.out.2.chg hw2⟩
  clear hw2 Z1 HM
  rw [← HA.out] at HS Z2
  obtain ⟨t2, g2⟩ := Z2.out.2
  go_upto_region 8 with (first | refine wpList_load_row rfl 25 _ rfl _ rfl _ _ _ _ g2 und38 rfl hszA ?_ | (go_at_call 17; refine (HS.out _ Z2.out.1).mono ?_; rintro r w3 ⟨v, rfl, hv, hc⟩))
  have ZP : Hid (P v w3 ∧ Chg w w3) := ⟨hv, Z2.out.1.trans hc⟩
  clear hv hc
  rcases HQ.out with ⟨he, he', hp⟩ | ⟨he, he', hp⟩
  · subst he he'
    clear HQ
    go_wp2_with fail
    go_ret2
    exact ⟨_, rfl, hp _ _ ZP.out.1, ZP.out.2⟩
  · have hne : (e != 0) = true := by simp [he]
    subst he'
    clear HQ he
    go_wp2_with fail
    go_ret2
    exact ⟨_, rfl, hp _, ZP.out.2⟩

set_option maxRecDepth 100000 in
set_option maxHeartbeats 8000000 in
theorem refSealC_fwd (s : Int) (ao : Option Addr) (L cap : Nat) (key : Nat → By) (nc : Nat → By) (va vx : Value) (w : World) (P : Value → World → Prop) (hP : ∀ v u u', P v u → Chg u u' → P v u') (hm : mayF s L = 0) (hs : (s == 4867) = true)
    (HK : ∀ u, Chg w u → Calls Tryz.prog 14 #[.slice ao L cap] u fun r w' => r = .returned (.agg (ba 32 key)) ∧ Chg u w')
    (HS : ∀ u, Chg w u → Calls Tryz.prog 13 #[.agg (ba 32 key), .agg (ba 12 nc), va, vx] u fun r w' => ∃ v, r = .returned v ∧ P v w' ∧ Chg u w') :
    Calls Tryz.prog 7 #[.int .u16 s, .slice ao L cap, .agg (ba 12 nc), va, vx] w fun r w' => ∃ v, r = .returned (.tuple #[v, .int .i64 0]) ∧ P v w' ∧ Chg w w' := by
  have HM : Hid (∀ u, Calls Tryz.prog 12 #[.int .u16 s, .slice ao L cap] u fun r w' => r = .returned (.int .i64 0) ∧ Chg u w') := fun u => by rw [← hm]; exact may_any s ao L cap u
  have hsA := ba_size 12 nc
  have hszA := szB nc zero38.2
  obtain ⟨A, hA⟩ : ∃ A, A = ba 12 nc := ⟨_, rfl⟩
  have HA : Hid (A = ba 12 nc) := hA
  have HK : Hid (∀ u, Chg w u → Calls Tryz.prog 14 #[.slice ao L cap] u fun r w' => r = .returned (.agg (ba 32 key)) ∧ Chg u w') := HK
  have HS : Hid (∀ u, Chg w u → Calls Tryz.prog 13 #[.agg (ba 32 key), .agg (ba 12 nc), va, vx] u fun r w' => ∃ v, r = .returned v ∧ P v w' ∧ Chg u w') := HS
  rw [← hA] at hsA hszA ⊢
  clear hA hm
  go_enter Tryz.func7, Tryz.ntmps7
  go_wp2_with fail
  obtain ⟨w1, hw1⟩ : ∃ w1, w1 = w.alloc (.cells A 25) := ⟨_, rfl⟩
  have Z1 : Hid (Chg w w1 ∧ Ar w1 w.heap.size (ba 12 nc)) := by
    rw [hw1, HA.out]
    exact ⟨(Chg.refl w).alloc _, Ar.new w _ _⟩
  rw [← hw1]
  clear hw1 hsA
  go_at_call 12
  refine (HM.out _).mono ?_
  rintro r w2 ⟨rfl, hw2⟩
  have Z2 : Hid (Chg w w2 ∧ Ar w2 w.heap.size (ba 12 nc)) := ⟨Z1.out.1.trans hw2, Z1.out.2.chg hw2⟩
  clear hw2 Z1 HM
  go_upto_region 5 with fail
  refine wp_region_goodC 7 (fun j v wg => match j with
    | 0 => v = .slice ao L cap
    | 1 => v = .agg (ba 32 key)
    | 2 => v = .agg (ba 12 nc)
    | 3 => v = va
    | 4 => v = vx
    | 5 => ∃ x1, v = x1 ∧ P x1 wg
    | 6 => ∃ x2, v = x2 ∧ P x2 wg
    | _ => True) (by kernel_rfl) (by kernel_rfl) (by kernel_rfl) (by kernel_rfl) (by kernel_rfl) ?_ ?_ ?_
  · intro j v u1 u2 h hc
    match j, h with
    | 0, h => exact h
    | 1, h => exact h
    | 2, h => exact h
    | 3, h => exact h
    | 4, h => exact h
    | 5, h => (obtain ⟨x1, h1, h2⟩ := h; exact ⟨x1, h1, hP _ _ _ h2 hc⟩)
    | 6, h => (obtain ⟨x2, h1, h2⟩ := h; exact ⟨x2, h1, hP _ _ _ h2 hc⟩)
    | _ + 7, h => exact trivial
  · intro i o ac u hi ho hsz hf hg hc
    have hcs : i = 0 ∨ i = 1 ∨ i = 2 ∨ i = 3 ∨ i = 4 ∨ i = 5 ∨ i = 6 := by omega
    rcases hcs with rfl | rfl | rfl | rfl | rfl | rfl | rfl
    · injection ho with ho
      subst ho
      refine .inl ⟨wanted_none rfl, ?_⟩
      have e1 : ac.eval (.tmp 1) = .slice ao L cap := hf 1 (by kernel_rfl)
      exact opG_val (by simp [execOp, e1]) rfl (Chg.refl _)
    · injection ho with ho
      subst ho
      refine .inl ⟨wanted_none rfl, ?_⟩
      have e1 : ac.eval (.tmp 21) = .slice ao L cap := hg 0 (by kernel_rfl) (by decide)
      refine opG_go 14 Tryz.f14 #[.tmp 21] #[24] rfl Tryz.func14 (by kernel_rfl) (by kernel_rfl) (by simp [e1]) (Calls.mono (HK.out _ (Z2.out.1.drew.trans hc)) ?_)
      rintro r u2 ⟨rfl, hw⟩
      exact ⟨_, rfl, rfl, hw⟩
    · injection ho with ho
      subst ho
      refine .inl ⟨wanted_none rfl, ?_⟩
      have e1 : ac.eval (.tmp 7) = .pointer (some ⟨w.heap.size, 0, none⟩) := hf 7 (by kernel_rfl)
      exact wp_load_mid 25 (.tmp 7) rfl _ _ e1 ((ba 12 nc).toList) _ (range12S (Ar.chg (w := w2.drew) Z2.out.2 hc)) und38 rfl (info12S _) ⟨_, rfl, rfl, Chg.refl _⟩
    · injection ho with ho
      subst ho
      refine .inl ⟨wanted_none rfl, ?_⟩
      have e1 : ac.eval (.tmp 3) = va := hf 3 (by kernel_rfl)
      exact opG_val (by simp [execOp, e1]) rfl (Chg.refl _)
    · injection ho with ho
      subst ho
      refine .inl ⟨wanted_none rfl, ?_⟩
      have e1 : ac.eval (.tmp 4) = vx := hf 4 (by kernel_rfl)
      exact opG_val (by simp [execOp, e1]) rfl (Chg.refl _)
    · injection ho with ho
      subst ho
      refine .inl ⟨wanted_none rfl, ?_⟩
      have e1 : ac.eval (.tmp 22) = .agg (ba 32 key) := hg 1 (by kernel_rfl) (by decide)
      have e2 : ac.eval (.tmp 23) = .agg (ba 12 nc) := hg 2 (by kernel_rfl) (by decide)
      have e3 : ac.eval (.tmp 24) = va := hg 3 (by kernel_rfl) (by decide)
      have e4 : ac.eval (.tmp 25) = vx := hg 4 (by kernel_rfl) (by decide)
      refine opG_go 13 Tryz.f13 #[.tmp 22, .tmp 23, .tmp 24, .tmp 25] #[40, 25, 24, 24] rfl Tryz.func13 (by kernel_rfl) (by kernel_rfl) (by simp [e1, e2, e3, e4]) (Calls.mono (HS.out _ (Z2.out.1.drew.trans hc)) ?_)
      rintro r u2 ⟨x, rfl, hx, hw⟩
      exact ⟨_, rfl, ⟨x, rfl, hx⟩, hw⟩
    · injection ho with ho
      subst ho
      refine .inl ⟨wanted_none rfl, ?_⟩
      obtain ⟨x1, e10, hx1⟩ := hg 5 (by kernel_rfl) (by decide)
      have e1 : ac.eval (.tmp 26) = x1 := e10
      exact opG_val (by simp [execOp, e1]) ⟨_, rfl, hx1⟩ (Chg.refl _)
  · intro o u V ho hV hc
    injection ho with ho
    subst ho
    refine ⟨rfl, ?_⟩
    have q21 : V 0 = .slice ao L cap := hV 0 (by decide)
    have q22 : V 1 = .agg (ba 32 key) := hV 1 (by decide)
    have q23 : V 2 = .agg (ba 12 nc) := hV 2 (by decide)
    have q24 : V 3 = va := hV 3 (by decide)
    have q25 : V 4 = vx := hV 4 (by decide)
    obtain ⟨x1, q26, hx1⟩ := hV 5 (by decide)
    obtain ⟨x2, q10, hx2⟩ := hV 6 (by decide)
    refine op_asg (.const (.int .i64 0)) (.int .i64 0) rfl rfl ?_
    go_wp2_with fail
    exact bp_ttS Tryz.results7 rfl (Eq.trans (by rfl) q10) (by rfl) ⟨_, rfl, hx2, Z2.out.1.drew.trans hc⟩

set_option maxRecDepth 100000 in
set_option maxHeartbeats 8000000 in
theorem refOpenC_fwd (s : Int) (ao : Option Addr) (L cap : Nat) (key : Nat → By) (nc : Nat → By) (va vx : Value) (w : World) (P : Value → World → Prop) (hP : ∀ v u u', P v u → Chg u u' → P v u') (e : Int) (hm : mayF s L = 0) (hs : (s == 4867) = true)
    (HK : ∀ u, Chg w u → Calls Tryz.prog 14 #[.slice ao L cap] u fun r w' => r = .returned (.agg (ba 32 key)) ∧ Chg u w')
    (HS : ∀ u, Chg w u → Calls Tryz.prog 16 #[.agg (ba 32 key), .agg (ba 12 nc), va, vx] u fun r w' => ∃ v, r = .returned (.tuple #[v, .int .i64 e]) ∧ P v w' ∧ Chg u w')
    (e2 : Int) (P2 : Value → World → Prop) (HQ : (e = 0 ∧ e2 = 0 ∧ ∀ v u, P v u → P2 v u) ∨ (e ≠ 0 ∧ e2 = 103 ∧ ∀ u, P2 (.slice none 0 0) u)) :
    Calls Tryz.prog 9 #[.int .u16 s, .slice ao L cap, .agg (ba 12 nc), va, vx] w fun r w' => ∃ v, r = .returned (.tuple #[v, .int .i64 e2]) ∧ P2 v w' ∧ Chg w w' := by
  have HM : Hid (∀ u, Calls Tryz.prog 12 #[.int .u16 s, .slice ao L cap] u fun r w' => r = .returned (.int .i64 0) ∧ Chg u w') := fun u => by rw [← hm]; exact may_any s ao L cap u
  have hsA := ba_size 12 nc
  have hszA := szB nc zero38.2
  obtain ⟨A, hA⟩ : ∃ A, A = ba 12 nc := ⟨_, rfl⟩
  have HA : Hid (A = ba 12 nc) := hA
  have HK : Hid (∀ u, Chg w u → Calls Tryz.prog 14 #[.slice ao L cap] u fun r w' => r = .returned (.agg (ba 32 key)) ∧ Chg u w') := HK
  have HS : Hid (∀ u, Chg w u → Calls Tryz.prog 16 #[.agg (ba 32 key), .agg (ba 12 nc), va, vx] u fun r w' => ∃ v, r = .returned (.tuple #[v, .int .i64 e]) ∧ P v w' ∧ Chg u w') := HS
  have HQ : Hid ((e = 0 ∧ e2 = 0 ∧ ∀ v u, P v u → P2 v u) ∨ (e ≠ 0 ∧ e2 = 103 ∧ ∀ u, P2 (.slice none 0 0) u)) := HQ
  rw [← hA] at hsA hszA ⊢
  clear hA hm
  go_enter Tryz.func9, Tryz.ntmps9
  go_wp2_with fail
  obtain ⟨w1, hw1⟩ : ∃ w1, w1 = w.alloc (.cells A 25) := ⟨_, rfl⟩
  have Z1 : Hid (Chg w w1 ∧ Ar w1 w.heap.size (ba 12 nc)) := by
    rw [hw1, HA.out]
    exact ⟨(Chg.refl w).alloc _, Ar.new w _ _⟩
  rw [← hw1]
  clear hw1 hsA
  go_at_call 12
  refine (HM.out _).mono ?_
  rintro r w2 ⟨rfl, hw2⟩
  have Z2 : Hid (Chg w w2 ∧ Ar w2 w.heap.size (ba 12 nc)) := ⟨Z1.out.1.trans hw2, Z1.out.2.chg hw2⟩
  clear hw2 Z1 HM
  go_upto_region 6 with fail
  go_cut [13, 12] from 22 to 31 (fun v13 v12 wc => v12 = .int .i64 e ∧ P v13 wc ∧ Chg w2 wc)
  case first =>
    refine wp_region_goodC 10 (fun j v wg => match j with
      | 0 => v = .slice ao L cap
      | 1 => v = .agg (ba 32 key)
      | 2 => v = .agg (ba 12 nc)
      | 3 => v = va
      | 4 => v = vx
      | 5 => ∃ x1, v = .tuple #[x1, .int .i64 e] ∧ P x1 wg
      | 6 => ∃ x0, v = .tuple #[x0, .int .i64 e] ∧ P x0 wg
      | 7 => ∃ x2, v = x2 ∧ P x2 wg
      | 8 => v = .int .i64 e
      | 9 => ∃ x3, v = x3 ∧ P x3 wg
      | _ => True) (by kernel_rfl) (by kernel_rfl) (by kernel_rfl) (by kernel_rfl) (by kernel_rfl) ?_ ?_ ?_
    · intro j v u1 u2 h hc
      match j, h with
      | 0, h => exact h
      | 1, h => exact h
      | 2, h => exact h
      | 3, h => exact h
      | 4, h => exact h
      | 5, h => (obtain ⟨x1, h1, h2⟩ := h; exact ⟨x1, h1, hP _ _ _ h2 hc⟩)
      | 6, h => (obtain ⟨x0, h1, h2⟩ := h; exact ⟨x0, h1, hP _ _ _ h2 hc⟩)
      | 7, h => (obtain ⟨x2, h1, h2⟩ := h; exact ⟨x2, h1, hP _ _ _ h2 hc⟩)
      | 8, h => exact h
      | 9, h => (obtain ⟨x3, h1, h2⟩ := h; exact ⟨x3, h1, hP _ _ _ h2 hc⟩)
      | _ + 10, h => exact trivial
    · intro i o ac u hi ho hsz hf hg hc
      have hcs : i = 0 ∨ i = 1 ∨ i = 2 ∨ i = 3 ∨ i = 4 ∨ i = 5 ∨ i = 6 ∨ i = 7 ∨ i = 8 ∨ i = 9 := by omega
      rcases hcs with rfl | rfl | rfl | rfl | rfl | rfl | rfl | rfl | rfl | rfl
      · injection ho with ho
        subst ho
        refine .inl ⟨wanted_none rfl, ?_⟩
        have e1 : ac.eval (.tmp 1) = .slice ao L cap := hf 1 (by kernel_rfl)
        exact opG_val (by simp [execOp, e1]) rfl (Chg.refl _)
      · injection ho with ho
        subst ho
        refine .inl ⟨wanted_none rfl, ?_⟩
        have e1 : ac.eval (.tmp 23) = .slice ao L cap := hg 0 (by kernel_rfl) (by decide)
        refine opG_go 14 Tryz.f14 #[.tmp 23] #[24] rfl Tryz.func14 (by kernel_rfl) (by kernel_rfl) (by simp [e1]) (Calls.mono (HK.out _ (Z2.out.1.drew.trans hc)) ?_)
        rintro r u2 ⟨rfl, hw⟩
        exact ⟨_, rfl, rfl, hw⟩
      · injection ho with ho
        subst ho
        refine .inl ⟨wanted_none rfl, ?_⟩
        have e1 : ac.eval (.tmp 7) = .pointer (some ⟨w.heap.size, 0, none⟩) := hf 7 (by kernel_rfl)
        exact wp_load_mid 25 (.tmp 7) rfl _ _ e1 ((ba 12 nc).toList) _ (range12S (Ar.chg (w := w2.drew) Z2.out.2 hc)) und38 rfl (info12S _) ⟨_, rfl, rfl, Chg.refl _⟩
      · injection ho with ho
        subst ho
        refine .inl ⟨wanted_none rfl, ?_⟩
        have e1 : ac.eval (.tmp 3) = va := hf 3 (by kernel_rfl)
        exact opG_val (by simp [execOp, e1]) rfl (Chg.refl _)
      · injection ho with ho
        subst ho
        refine .inl ⟨wanted_none rfl, ?_⟩
        have e1 : ac.eval (.tmp 4) = vx := hf 4 (by kernel_rfl)
        exact opG_val (by simp [execOp, e1]) rfl (Chg.refl _)
      · injection ho with ho
        subst ho
        refine .inl ⟨wanted_none rfl, ?_⟩
        have e1 : ac.eval (.tmp 24) = .agg (ba 32 key) := hg 1 (by kernel_rfl) (by decide)
        have e2 : ac.eval (.tmp 25) = .agg (ba 12 nc) := hg 2 (by kernel_rfl) (by decide)
        have e3 : ac.eval (.tmp 26) = va := hg 3 (by kernel_rfl) (by decide)
        have e4 : ac.eval (.tmp 27) = vx := hg 4 (by kernel_rfl) (by decide)
        refine opG_go 16 Tryz.f16 #[.tmp 24, .tmp 25, .tmp 26, .tmp 27] #[40, 25, 24, 24] rfl Tryz.func16 (by kernel_rfl) (by kernel_rfl) (by simp [e1, e2, e3, e4]) (Calls.mono (HS.out _ (Z2.out.1.drew.trans hc)) ?_)
        rintro r u2 ⟨x, rfl, hx, hw⟩
        exact ⟨_, rfl, ⟨x, rfl, hx⟩, hw⟩
      · injection ho with ho
        subst ho
        refine .inl ⟨wanted_none rfl, ?_⟩
        obtain ⟨x1, e10, hx1⟩ := hg 5 (by kernel_rfl) (by decide)
        have e1 : ac.eval (.tmp 28) = .tuple #[x1, .int .i64 e] := e10
        exact opG_val (by simp [execOp, e1]) ⟨_, rfl, hx1⟩ (Chg.refl _)
      · injection ho with ho
        subst ho
        refine .inl ⟨wanted_none rfl, ?_⟩
        obtain ⟨x0, e10, hx0⟩ := hg 6 (by kernel_rfl) (by decide)
        have e1 : ac.eval (.tmp 22) = .tuple #[x0, .int .i64 e] := e10
        exact opG_val (by revert e1; generalize ac.eval = ρ; intro e1; simp [go_sem, execOp, e1]) ⟨_, rfl, hx0⟩ (Chg.refl _)
      · injection ho with ho
        subst ho
        refine .inl ⟨wanted_none rfl, ?_⟩
        obtain ⟨x0, e10, hx0⟩ := hg 6 (by kernel_rfl) (by decide)
        have e1 : ac.eval (.tmp 22) = .tuple #[x0, .int .i64 e] := e10
        exact opG_val (by revert e1; generalize ac.eval = ρ; intro e1; simp [go_sem, execOp, e1]) rfl (Chg.refl _)
      · injection ho with ho
        subst ho
        refine .inl ⟨wanted_none rfl, ?_⟩
        obtain ⟨x2, e10, hx2⟩ := hg 7 (by kernel_rfl) (by decide)
        have e1 : ac.eval (.tmp 29) = x2 := e10
        exact opG_val (by simp [execOp, e1]) ⟨_, rfl, hx2⟩ (Chg.refl _)
    · intro o u V ho hV hc
      injection ho with ho
      subst ho
      refine ⟨rfl, ?_⟩
      have q23 : V 0 = .slice ao L cap := hV 0 (by decide)
      have q24 : V 1 = .agg (ba 32 key) := hV 1 (by decide)
      have q25 : V 2 = .agg (ba 12 nc) := hV 2 (by decide)
      have q26 : V 3 = va := hV 3 (by decide)
      have q27 : V 4 = vx := hV 4 (by decide)
      obtain ⟨x1, q28, hx1⟩ := hV 5 (by decide)
      obtain ⟨x0, q22, hx0⟩ := hV 6 (by decide)
      obtain ⟨x2, q29, hx2⟩ := hV 7 (by decide)
      have q30 : V 8 = .int .i64 e := hV 8 (by decide)
      obtain ⟨x3, q13, hx3⟩ := hV 9 (by decide)
      refine op_asg (.tmp 30) (.int .i64 e) rfl (Eq.trans (by rfl) q30) ?_
      go_wp2_with fail
      go_meet
      refine ⟨rfl, ?_, (Chg.refl w2).drew.trans hc⟩
      subst q13
      exact hx3
  case rest =>
    obtain ⟨rfl, h1, h2⟩ := hcut
    have ZP : Hid (P u13 wc ∧ Chg w wc) := ⟨h1, Z2.out.1.trans h2⟩
    clear h1 h2
    rcases HQ.out with ⟨he, he', hp⟩ | ⟨he, he', hp⟩
    · subst he he'
      clear HQ
      go_wp2_with fail
      go_ret2
      exact ⟨_, rfl, hp _ _ ZP.out.1, ZP.out.2⟩
    · have hne : (e != 0) = true := by simp [he]
      subst he'
      clear HQ he
      go_wp2_with fail
      go_ret2
      exact ⟨_, rfl, hp _, ZP.out.2⟩

end Go.Proofs.YtobglgddbhddnaaGreat
