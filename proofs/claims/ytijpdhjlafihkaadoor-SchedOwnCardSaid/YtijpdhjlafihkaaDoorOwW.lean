/-
  SchedOwn, walked.
-/
import Derived.Test.YtijpdhjlafihkaaDoorOw
import Derived.Deep.CutBlock
import Derived.Deep.CutRange
import Derived.Deep.RegionHeld3
namespace Go.Proofs.YtijpdhjlafihkaaDoor
open Go.RowKit
set_option linter.unusedVariables false
set_option maxRecDepth 100000

theorem rd_E {X u : World} {v : Value} {xs : List Int} {E : Nat} (r : Ap.Rd X v xs) (hb : X.heap[E]? = some (.cells #[] 5 (0, 0))) (hu : Ap.Chg (fun k => k = E) X u) : Ap.Rd u v xs := by
  obtain ⟨ao, n, c, e, h1, h2, h3, h4, h5⟩ := r
  refine ⟨ao, n, c, e, h1, h2, h3, h4, fun a e j y hj => ?_⟩
  have k1 := h5 a e j y hj
  have hne : ¬ (a.add j).block = E := fun q => by
    unfold World.cell? at k1
    rw [q, hb] at k1
    simp at k1
  rw [← k1]
  exact World.cell?_of_block (hu.block _ (World.block_lt_of_cell? X _ k1) hne)
theorem run_strE {X u : World} {v : Value} {xs : List Int} {E : Nat} (r : Ap.Rd X v xs) (hb : X.heap[E]? = some (.cells #[] 5 (0, 0))) (hu : Ap.Chg (fun k => k = E) X u) : (convert 23 9 v).run Tryd.prog u = .ok (.string (strOfNums xs)) u := Ap.run_str u v xs (rd_E r hb hu)
theorem rd_len {w : World} {o : Option Addr} {m c : Nat} {xs : List Int} (h : Ap.Rd w (.slice o m c) xs) : m = xs.length ∧ m ≤ c ∧ c ≤ 9223372036854775807 := by
  obtain ⟨ao, n, c', e, h1, h2, h3, -⟩ := h
  injection e with e1 e2 e3
  subst e1 e2 e3
  exact ⟨h1, h2, h3⟩

set_option maxHeartbeats 25600000 in
theorem own_law (q : Int) (vk : Value) (ho : Option Addr) (hm hc : Nat) (so : Option Addr) (sm sc : Nat) (key shared sum : List Int) (w : World) (ht : Tabs w) (hk : Ap.Rd w vk key) (hkl : key.length ≤ 140737488351232) (hh : Ap.Rd w (.slice ho hm hc) shared) (hhl : shared.length ≤ 140737488351232) (hs : Ap.Rd w (.slice so sm sc) sum) :
    Calls Tryd.prog 5 #[.int .i64 q, vk, .slice ho hm hc, .slice so sm sc] w fun e w' => e = .returned (.bool true) ∧ Chg w w' := by
  have HX : Hid (Tabs w ∧ Ap.Rd w vk key ∧ key.length ≤ 140737488351232 ∧ Ap.Rd w (.slice ho hm hc) shared ∧ shared.length ≤ 140737488351232 ∧ Ap.Rd w (.slice so sm sc) sum) := ⟨ht, hk, hkl, hh, hhl, hs⟩
  have hd := head_any w ht
  clear ht hk hkl hh hhl hs
  go_enter Tryd.func5, Tryd.ntmps5
  go_wp2_with fail
  refine hd.mono ?_
  rintro e w0 ⟨rfl, hc0⟩
  have K0 : Hid (Chg w w0) := hc0
  clear hd hc0
  go_upto_if 23 with fail
  go_cut [3] from 24 to 25 (fun u3 wc => ∃ o m c xs, u3 = .slice o m c ∧ Hid (wc = w0 ∧ Ap.Rd w0 (.slice o m c) xs ∧ xs.length ≤ 255))
  case first =>
    obtain ⟨l1, l2, l3⟩ := rd_len HX.out.2.2.2.2.2
    by_cases h255 : 255 < sm
    · have hd : decide ((255 : Int) < (sm : Int)) = true := decide_eq_true (by omega)
      have hi : (255 : Int) ≤ (sc : Int) := by omega
      have hcm : sc ≤ 9223372036854775807 := l3
      clear l1
      go_wp2_with fail
      go_meet
      case rel => exact ⟨so, 255, sc, sum.take 255, rfl, rfl, Rd.chg (Rd.take HX.out.2.2.2.2.2 (by omega)) K0.out, by rw [List.length_take]; omega⟩
    · have hd : decide ((255 : Int) < (sm : Int)) = false := decide_eq_false (by omega)
      have L1 : Hid (sm = sum.length) := l1
      clear l1 l2 l3
      go_wp2_with fail
      go_meet
      case rel => exact ⟨so, sm, sc, sum, rfl, rfl, Rd.chg HX.out.2.2.2.2.2 K0.out, by have := L1.out; omega⟩
  case rest =>
  obtain ⟨po, pm, pc, xs, rfl, hcut⟩ := hcut
  have hwc := hcut.out.1
  subst hwc
  have HP : Hid (Ap.Rd wc (.slice po pm pc) xs ∧ xs.length ≤ 255) := hcut.out.2
  clear hcut
  obtain ⟨S, hS⟩ : ∃ S, S = sizeOfH q := ⟨_, rfl⟩
  have hsz := size_any q wc
  rw [← hS] at hsz
  have HS : Hid (S = sizeOfH q ∧ S ≤ 64) := ⟨hS, by rw [hS]; exact size_le q⟩
  clear hS
  go_wp2_with (go_at_call 20; refine hsz.mono ?_)
  rintro e w1 ⟨rfl, rfl⟩
  clear hsz
  have hmk := mk8 S (by have := HS.out.2; omega) w1
  obtain ⟨wz, hwz⟩ : ∃ wz, wz = w1.alloc (.cells (arr .u8 S fun _ => 0) 5) := ⟨_, rfl⟩
  rw [← hwz] at hmk
  have HZ : Hid (Chg w1 wz ∧ Ap.Rd wz (.slice (some ⟨w1.heap.size, 0, none⟩) S S) (zer S)) := by
    rw [hwz]
    exact ⟨(Chg.refl _).alloc _, Rd.ofArr (Ar.new w1 _ _) (by have := HS.out.2; omega)⟩
  have KZ : Hid (Chg w wz) := K0.out.trans HZ.out.1
  obtain ⟨Z, hZ⟩ : ∃ Z, Z = w1.heap.size := ⟨_, rfl⟩
  rw [← hZ] at hmk HZ
  clear hwz hZ
  have hx := sexp_any q vk (.slice none 0 0) key [] sUpd S wz (HX.out.1.chg KZ.out) (Rd.chg HX.out.2.1 KZ.out) HX.out.2.2.1 (Ap.Rd.nil _)
  unfold sUpd at hx
  go_wp2_with (go_at_call 7; refine hx.mono ?_)
  rintro e w2 ⟨⟨o2, m2, n2, rfl, hr2⟩, hc2⟩
  have H2 : Hid (Chg wz w2 ∧ Ap.Rd w2 (.slice o2 m2 n2) (drL q key sUpd [])) := ⟨hc2, by unfold drL; rw [← HS.out.1]; exact hr2⟩
  have K2 : Hid (Chg w w2) := KZ.out.trans hc2
  obtain ⟨E1, hE1⟩ : ∃ E1, E1 = exE q sUpd [] S := ⟨_, rfl⟩
  have HE1 : Hid (E1 = exE q sUpd [] S) := hE1
  have hE1' : exE q ⟨#[116, 114, 97, 102, 102, 105, 99, 32, 117, 112, 100]⟩ [] S = E1 := hE1.symm
  rw [hE1']
  clear hx hc2 hr2 hE1 hE1' hmk
  have hx := sexp_any q vk (.slice none 0 0) key [] sFin S w2 (HX.out.1.chg K2.out) (Rd.chg HX.out.2.1 K2.out) HX.out.2.2.1 (Ap.Rd.nil _)
  unfold sFin at hx
  go_wp2_with (go_at_call 7; refine hx.mono ?_)
  rintro e w3 ⟨⟨o3, m3, n3, rfl, hr3⟩, hc3⟩
  have H3 : Hid (Chg w2 w3 ∧ Ap.Rd w3 (.slice o3 m3 n3) (drL q key sFin [])) := ⟨hc3, by unfold drL; rw [← HS.out.1]; exact hr3⟩
  have K3 : Hid (Chg w w3) := K2.out.trans hc3
  obtain ⟨E2, hE2⟩ : ∃ E2, E2 = exE q sFin [] S := ⟨_, rfl⟩
  have HE2 : Hid (E2 = exE q sFin [] S) := hE2
  have hE2' : exE q ⟨#[102, 105, 110, 105, 115, 104, 101, 100]⟩ [] S = E2 := hE2.symm
  rw [hE2']
  clear hx hc3 hr3 hE2 hE2'
  have hx := ofn_any q w3 (HX.out.1.chg K3.out)
  go_wp2_with (go_at_call 21; refine hx.mono ?_)
  rintro e w4 ⟨o4, m4, n4, rfl, hc4, hr4⟩
  have K4 : Hid (Chg w w4 ∧ Chg w3 w4) := ⟨K3.out.trans hc4, hc4⟩
  clear hx
  have hx := derive_any q vk (.slice o4 m4 n4) key (sumL q []) sDer w4 (HX.out.1.chg K4.out.1) (Rd.chg HX.out.2.1 K4.out.1) HX.out.2.2.1 hr4
  unfold sDer at hx
  clear hr4 hc4
  go_wp2_with (go_at_call 9; refine hx.mono ?_)
  rintro e W0 ⟨o5, m5, n5, rfl, hc5, hr5⟩
  have H5 : Hid (Chg w4 W0 ∧ Ap.Rd W0 (.slice o5 m5 n5) (drL q key sDer (sumL q []))) := ⟨hc5, hr5⟩
  have KW : Hid (Chg w W0) := K4.out.1.trans hc5
  have HR : Hid (Ap.Rd W0 (.slice o2 m2 n2) (drL q key sUpd []) ∧ Ap.Rd W0 (.slice o3 m3 n3) (drL q key sFin []) ∧ Ap.Rd W0 (.slice (some ⟨Z, 0, none⟩) S S) (zer S) ∧ Ap.Rd W0 (.slice po pm pc) xs) := ⟨Rd.chg H2.out.2 ((H3.out.1.trans K4.out.2).trans hc5), Rd.chg H3.out.2 (K4.out.2.trans hc5), Rd.chg HZ.out.2 (((H2.out.1.trans H3.out.1).trans K4.out.2).trans hc5), Rd.chg HP.out.1 ((((HZ.out.1.trans H2.out.1).trans H3.out.1).trans K4.out.2).trans hc5)⟩
  clear hx hc5 hr5
  by_cases hS0 : S = 0
  · subst hS0
    have hv : ¬ Valid q := fun h => valid_size.1 h HS.out.1.symm
    have e1 : E1 = 191 := by rw [HE1.out]; exact exE_none hv _ _ _
    have e2 : E2 = 191 := by rw [HE2.out]; exact exE_none hv _ _ _
    have hm5 : m5 = 0 := by
      have h := H5.out.2
      rw [drL_none hv] at h
      exact (rd_len h).1
    subst e1 e2 hm5
    have hx := early_any q vk key W0 (HX.out.1.chg KW.out) (Rd.chg HX.out.2.1 KW.out) (by have := HX.out.2.2.1; omega)
    rw [earlyL_none hv] at hx
    clear hv
    go_wp2_with (go_at_call 22; refine hx.mono ?_)
    rintro e w6 ⟨o6, m6, n6, rfl, hc6, hr6⟩
    have hm6 : m6 = 0 := (rd_len hr6).1
    subst hm6
    have K6 : Hid (Chg w w6) := KW.out.trans hc6
    clear hx hc6 hr6
    go_wp2_with fail
    go_ret
    exact ⟨rfl, K6.out⟩
  · have hv : Valid q := valid_size.2 (by rw [← HS.out.1]; exact hS0)
    have e1 : E1 = 0 := by rw [HE1.out, HS.out.1]; exact exE_ok hv _ (by decide)
    have e2 : E2 = 0 := by rw [HE2.out, HS.out.1]; exact exE_ok hv _ (by decide)
    subst e1 e2
    have hS1 : ¬ (S : Int) = 0 := by omega
    have hSb : ((S : Int) == 0) = false := by simpa using hS1
    have lk : key.length ≤ 140737488351232 := HX.out.2.2.1
    have lh : shared.length ≤ 140737488351232 := HX.out.2.2.2.2.1
    have TT : ∀ u, Chg W0 u → Tabs u := fun u hu => HX.out.1.chg (KW.out.trans hu)
    have RK : ∀ u, Chg W0 u → Ap.Rd u vk key := fun u hu => Rd.chg HX.out.2.1 (KW.out.trans hu)
    have RH : ∀ u, Chg W0 u → Ap.Rd u (.slice ho hm hc) shared := fun u hu => Rd.chg HX.out.2.2.2.1 (KW.out.trans hu)
    have RS : ∀ u, Chg W0 u → Ap.Rd u (.slice po pm pc) xs := fun u hu => Rd.chg HR.out.2.2.2 hu
    have RZ : ∀ u, Chg W0 u → Ap.Rd u (.slice (some ⟨Z, 0, none⟩) S S) (zer S) := fun u hu => Rd.chg HR.out.2.2.1 hu
    have zl : (zer S).length < 4611686018427387904 := by rw [zer_len]; have := HS.out.2; omega
    have HU : Hid (∀ u, Chg W0 u → Calls Tryd.prog 23 #[.int .i64 q, vk] u fun e w' => RL (drL q key sUpd []) u w' e) := fun u hu => update_any q vk key u (TT u hu) (RK u hu) lk
    have HF : Hid (∀ u, Chg W0 u → Calls Tryd.prog 24 #[.int .i64 q, vk, .slice po pm pc] u fun e w' => RL (macL q (drL q key sFin []) xs) u w' e) := fun u hu => finished_any q vk _ key xs u (TT u hu) (RK u hu) lk (RS u hu) (by have := HP.out.2; omega)
    have HSA : Hid (∀ u, Chg W0 u → SlA u (.slice po pm pc) xs) := fun u hu => Rd.slA (RS u hu) (by have := HP.out.2; omega)
    have HM : Hid (∀ u vp, Chg W0 u → Pt u vp [xs] → Calls Tryd.prog 25 #[.int .i64 q, .slice o3 m3 n3, vp] u fun e w' => RL (macL q (drL q key sFin []) xs) u w' e) := fun u vp hu hp => by
      have h := mac_both q (.slice o3 m3 n3) vp (drL q key sFin []) [xs] u (TT u hu) (Rd.chg HR.out.2.1 hu) (by have := drL_le q key sFin []; omega) hp
      rw [show [xs].flatten = xs by simp] at h
      exact h
    have HNX : Hid (∀ u, Chg W0 u → (convert 23 9 (.slice o2 m2 n2)).run Tryd.prog u = .ok (.string (strOfNums (drL q key sUpd []))) u) := fun u hu => Ap.run_str u _ _ (Rd.chg HR.out.1 hu)
    have HH : Hid (∀ u, Chg W0 u → Calls Tryd.prog 26 #[.int .i64 q, vk, .slice ho hm hc] u fun e w' => RL (mixL q key shared) u w' e) := fun u hu => handshake_any q vk _ key shared u (TT u hu) (RK u hu) lk (RH u hu) (by omega)
    have HHX : Hid (∀ u, Chg W0 u → Calls Tryd.prog 27 #[.int .i64 q, .slice o5 m5 n5, .slice ho hm hc] u fun e w' => RL (mixL q key shared) u w' e) := fun u hu => extract_any q _ _ _ shared u (TT u hu) (Rd.chg H5.out.2 hu) (by have := drL_le q key sDer (sumL q []); omega) (RH u hu) (by omega)
    have HMS : Hid (∀ u, Chg W0 u → Calls Tryd.prog 28 #[.int .i64 q, vk] u fun e w' => RL (mixL q key (zer S)) u w' e) := fun u hu => by rw [HS.out.1]; exact master_any q vk key u (TT u hu) (RK u hu) lk
    have HMX : Hid (∀ u, Chg W0 u → Calls Tryd.prog 27 #[.int .i64 q, .slice o5 m5 n5, .slice (some ⟨Z, 0, none⟩) S S] u fun e w' => RL (mixL q key (zer S)) u w' e) := fun u hu => extract_any q _ _ _ (zer S) u (TT u hu) (Rd.chg H5.out.2 hu) (by have := drL_le q key sDer (sumL q []); omega) (RZ u hu) zl
    have HY0 : Hid (∀ u, Chg W0 u → Calls Tryd.prog 22 #[.int .i64 q, .slice none 0 0] u fun e w' => RL (earlyL q []) u w' e) := fun u hu => early_any q _ [] u (TT u hu) (Ap.Rd.nil _) (by decide)
    have HYZ : Hid (∀ u, Chg W0 u → Calls Tryd.prog 22 #[.int .i64 q, .slice (some ⟨Z, 0, none⟩) S S] u fun e w' => RL (earlyL q []) u w' e) := fun u hu => by
      have h := early_any q (.slice (some ⟨Z, 0, none⟩) S S) (zer S) u (TT u hu) (RZ u hu) zl
      have e : earlyL q (zer S) = earlyL q [] := by
        unfold earlyL
        rw [if_neg (by rw [zer_len]; exact hS0), if_pos (show ([] : List Int).length = 0 from rfl), HS.out.1]
      rw [e] at h
      exact h
    have HYS : Hid (∀ u, Chg W0 u → Calls Tryd.prog 22 #[.int .i64 q, .slice ho hm hc] u fun e w' => RL (earlyL q shared) u w' e) := fun u hu => early_any q _ shared u (TT u hu) (RH u hu) (by omega)
    have HEX : Hid (∀ u v ys, Chg W0 u → Ap.Rd u v ys → ys.length < 4611686018427387904 → Calls Tryd.prog 27 #[.int .i64 q, .slice none 0 0, v] u fun e w' => RL (macL q [] ys) u w' e) := fun u v ys hu hr hl => extract_any q _ v [] ys u (TT u hu) (Ap.Rd.nil _) (by decide) hr hl
    have HRH : Hid (∀ u, Chg W0 u → Ap.Rd u (.slice ho hm hc) shared) := RH
    have HRZ : Hid (∀ u, Chg W0 u → Ap.Rd u (.slice (some ⟨Z, 0, none⟩) S S) (zer S)) := RZ
    have HLH : Hid (shared.length ≤ 140737488351232 ∧ hm = shared.length ∧ hm ≤ hc ∧ hc ≤ 9223372036854775807) := ⟨lh, rd_len (RH W0 (Chg.refl _))⟩
    have KC : Hid (Chg W0 W0) := Chg.refl _
    clear hv TT RK RH RS RZ lk lh zl
    go_upto_region 11 with fail
    go_cut [17] from 73 to 93 (fun u17 wc => u17 = .bool true ∧ Chg W0 wc)
    case first =>
      have c0 : Chg W0 W0.drew := KC.out.drew
      refine wp_region_held_drew (S := fun u => Chg W0 u) (by kernel_rfl) c0 (fun _ => ?_)
      generalize W0.drew = WD at c0 ⊢
      refine wpAnyH_take (i := 0) (oi := { dst := some 73, op := Go.Op.move (Go.Operand.tmp 0), type := 22, pos := "law.go:133", after := #[], guard := none }) (v := ?_) rfl (by kernel_rfl) (by kernel_rfl) (by kernel_rfl) (fun _ _ _ h => h) (Or.inl ⟨by rfl, ?_⟩) c0 ?_
      rotate_left
      · intro u hu
        have hu : Chg W0 u := hu
        go_simp
        try with_reducible rfl
      try simp only [Act.put, List.setIfInBounds_toArray, List.set_cons_zero, List.set_cons_succ]
      refine wpAnyH_take (i := 1) (oi := { dst := some 74, op := Go.Op.move (Go.Operand.tmp 1), type := 23, pos := "law.go:133", after := #[], guard := none }) (v := ?_) rfl (by kernel_rfl) (by kernel_rfl) (by kernel_rfl) (fun _ _ _ h => h) (Or.inl ⟨by rfl, ?_⟩) c0 ?_
      rotate_left
      · intro u hu
        have hu : Chg W0 u := hu
        go_simp
        try with_reducible rfl
      try simp only [Act.put, List.setIfInBounds_toArray, List.set_cons_zero, List.set_cons_succ]
      refine wpAnyH_take (i := 4) (oi := { dst := some 77, op := Go.Op.move (Go.Operand.tmp 12), type := 23, pos := "law.go:133", after := #[], guard := none }) (v := ?_) rfl (by kernel_rfl) (by kernel_rfl) (by kernel_rfl) (fun _ _ _ h => h) (Or.inl ⟨by rfl, ?_⟩) c0 ?_
      rotate_left
      · intro u hu
        have hu : Chg W0 u := hu
        go_simp
        try with_reducible rfl
      try simp only [Act.put, List.setIfInBounds_toArray, List.set_cons_zero, List.set_cons_succ]
      refine wpAnyH_take (i := 5) (oi := { dst := some 78, op := Go.Op.convert 23 9 (Go.Operand.tmp 77), type := 9, pos := "law.go:133", after := #[{ on := 4, ground := Go.Ground.data }], guard := none }) (v := ?_) rfl (by kernel_rfl) (by kernel_rfl) (by kernel_rfl) (fun _ _ _ h => h) (Or.inl ⟨by rfl, ?_⟩) c0 ?_
      rotate_left
      · intro u hu
        have hu : Chg W0 u := hu
        have hcv := HNX.out u hu
        go_simp
        try with_reducible rfl
      try simp only [Act.put, List.setIfInBounds_toArray, List.set_cons_zero, List.set_cons_succ]
      refine wpAnyH_ready (rs := [2]) (by kernel_rfl) (by simp) ?_
      refine AllReadyH.cons (o := { dst := some 75, op := Go.Op.call { callee := Go.Callee.value (Go.Operand.func 23), args := #[Go.Operand.tmp 73, Go.Operand.tmp 74], argTypes := #[22, 23] }, type := 23, pos := "law.go:133", after := #[{ on := 0, ground := Go.Ground.data }, { on := 1, ground := Go.Ground.data }], guard := none }) rfl (fun K hK => ?_) ?_
      · skip
        go_simp
        go_at_call 23
        refine (HU.out WD c0).mono ?_
        rintro e x1 ⟨o4, m5, n6, rfl, s2, r3⟩
        have c7 : Chg W0 x1 := c0.trans s2
        have t9 := TxV.of r3
        have y8 : Chg W0 x1 := c0.trans s2
        refine hK.out _ _ y8 (fun _ => wpAnyH_imp (S' := fun u => Chg x1 u) (fun u hu => y8.trans hu) _ _ _ _ ?_)
        have y10 : Chg x1 x1 := Chg.refl _
        clear hK K
        try simp only [Act.put, List.setIfInBounds_toArray, List.set_cons_zero, List.set_cons_succ]
        refine wpAnyH_take (i := 3) (oi := { dst := some 76, op := Go.Op.convert 23 9 (Go.Operand.tmp 75), type := 9, pos := "law.go:133", after := #[{ on := 2, ground := Go.Ground.data }], guard := none }) (v := ?_) rfl (by kernel_rfl) (by kernel_rfl) (by kernel_rfl) (fun _ _ _ h => h) (Or.inl ⟨by rfl, ?_⟩) y10 ?_
        rotate_left
        · intro u hu
          have hu : Chg x1 u := hu
          have hcv := t9 u hu
          go_simp
          try with_reducible rfl
        try simp only [Act.put, List.setIfInBounds_toArray, List.set_cons_zero, List.set_cons_succ]
        refine wpAnyH_take (i := 6) (oi := { dst := some 79, op := Go.Op.binOp Go.BinOp.eql 9 (Go.Operand.tmp 76) (Go.Operand.tmp 78) 9, type := 4, pos := "law.go:133", after := #[{ on := 3, ground := Go.Ground.data }, { on := 5, ground := Go.Ground.data }], guard := none }) (v := ?_) rfl (by kernel_rfl) (by kernel_rfl) (by kernel_rfl) (fun _ _ _ h => h) (Or.inl ⟨by rfl, ?_⟩) y10 ?_
        rotate_left
        · intro u hu
          have hu : Chg x1 u := hu
          go_simp
          try with_reducible rfl
        try simp only [Act.put, List.setIfInBounds_toArray, List.set_cons_zero, List.set_cons_succ]
        refine wpAnyH_take (i := 7) (oi := { dst := some 80, op := Go.Op.move (Go.Operand.tmp 79), type := 4, pos := "law.go:133", after := #[{ on := 6, ground := Go.Ground.data }, { on := 2, ground := Go.Ground.chain }], guard := none }) (v := ?_) rfl (by kernel_rfl) (by kernel_rfl) (by kernel_rfl) (fun _ _ _ h => h) (Or.inl ⟨by rfl, ?_⟩) y10 ?_
        rotate_left
        · intro u hu
          have hu : Chg x1 u := hu
          go_simp
          try with_reducible rfl
        try simp only [Act.put, List.setIfInBounds_toArray, List.set_cons_zero, List.set_cons_succ]
        refine wpAnyH_take (i := 8) (oi := { dst := some 81, op := Go.Op.move (Go.Operand.tmp 0), type := 22, pos := "law.go:133", after := #[{ on := 7, ground := Go.Ground.guard }], guard := some (7, true) }) (v := ?_) rfl (by kernel_rfl) (by kernel_rfl) (by kernel_rfl) (fun _ _ _ h => h) (Or.inl ⟨by rfl, ?_⟩) y10 ?_
        rotate_left
        · intro u hu
          have hu : Chg x1 u := hu
          go_simp
          try with_reducible rfl
        try simp only [Act.put, List.setIfInBounds_toArray, List.set_cons_zero, List.set_cons_succ]
        refine wpAnyH_take (i := 9) (oi := { dst := some 82, op := Go.Op.move (Go.Operand.tmp 1), type := 23, pos := "law.go:133", after := #[{ on := 7, ground := Go.Ground.guard }], guard := some (7, true) }) (v := ?_) rfl (by kernel_rfl) (by kernel_rfl) (by kernel_rfl) (fun _ _ _ h => h) (Or.inl ⟨by rfl, ?_⟩) y10 ?_
        rotate_left
        · intro u hu
          have hu : Chg x1 u := hu
          go_simp
          try with_reducible rfl
        try simp only [Act.put, List.setIfInBounds_toArray, List.set_cons_zero, List.set_cons_succ]
        refine wpAnyH_take (i := 10) (oi := { dst := some 83, op := Go.Op.move (Go.Operand.tmp 3), type := 23, pos := "law.go:133", after := #[{ on := 7, ground := Go.Ground.guard }], guard := some (7, true) }) (v := ?_) rfl (by kernel_rfl) (by kernel_rfl) (by kernel_rfl) (fun _ _ _ h => h) (Or.inl ⟨by rfl, ?_⟩) y10 ?_
        rotate_left
        · intro u hu
          have hu : Chg x1 u := hu
          go_simp
          try with_reducible rfl
        try simp only [Act.put, List.setIfInBounds_toArray, List.set_cons_zero, List.set_cons_succ]
        refine wpAnyH_take (i := 13) (oi := { dst := some 86, op := Go.Op.move (Go.Operand.tmp 0), type := 22, pos := "law.go:133", after := #[{ on := 7, ground := Go.Ground.guard }], guard := some (7, true) }) (v := ?_) rfl (by kernel_rfl) (by kernel_rfl) (by kernel_rfl) (fun _ _ _ h => h) (Or.inl ⟨by rfl, ?_⟩) y10 ?_
        rotate_left
        · intro u hu
          have hu : Chg x1 u := hu
          go_simp
          try with_reducible rfl
        try simp only [Act.put, List.setIfInBounds_toArray, List.set_cons_zero, List.set_cons_succ]
        refine wpAnyH_take (i := 14) (oi := { dst := some 87, op := Go.Op.move (Go.Operand.tmp 14), type := 23, pos := "law.go:133", after := #[{ on := 7, ground := Go.Ground.guard }], guard := some (7, true) }) (v := ?_) rfl (by kernel_rfl) (by kernel_rfl) (by kernel_rfl) (fun _ _ _ h => h) (Or.inl ⟨by rfl, ?_⟩) y10 ?_
        rotate_left
        · intro u hu
          have hu : Chg x1 u := hu
          go_simp
          try with_reducible rfl
        try simp only [Act.put, List.setIfInBounds_toArray, List.set_cons_zero, List.set_cons_succ]
        refine wpAnyH_take (i := 15) (oi := { dst := some 88, op := Go.Op.move (Go.Operand.tmp 3), type := 23, pos := "law.go:133", after := #[{ on := 7, ground := Go.Ground.guard }], guard := some (7, true) }) (v := ?_) rfl (by kernel_rfl) (by kernel_rfl) (by kernel_rfl) (fun _ _ _ h => h) (Or.inl ⟨by rfl, ?_⟩) y10 ?_
        rotate_left
        · intro u hu
          have hu : Chg x1 u := hu
          go_simp
          try with_reducible rfl
        try simp only [Act.put, List.setIfInBounds_toArray, List.set_cons_zero, List.set_cons_succ]
        refine wpAnyH_ready (rs := [11, 16]) (by kernel_rfl) (by simp) ?_
        refine AllReadyH.cons (o := { dst := some 84, op := Go.Op.call { callee := Go.Callee.value (Go.Operand.func 24), args := #[Go.Operand.tmp 81, Go.Operand.tmp 82, Go.Operand.tmp 83], argTypes := #[22, 23, 23] }, type := 23, pos := "law.go:133", after := #[{ on := 8, ground := Go.Ground.data }, { on := 9, ground := Go.Ground.data }, { on := 10, ground := Go.Ground.data }, { on := 7, ground := Go.Ground.chain }, { on := 7, ground := Go.Ground.guard }], guard := some (7, true) }) rfl (fun K hK => ?_) ?_
        · skip
          go_simp
          go_at_call 24
          refine (HF.out x1 c7).mono ?_
          rintro e x11 ⟨o14, m15, n16, rfl, s12, r13⟩
          have c17 : Chg W0 x11 := c7.trans s12
          have t19 := TxV.of r13
          have y18 : Chg x1 x11 := y10.trans s12
          refine hK.out _ _ y18 (fun _ => wpAnyH_imp (S' := fun u => Chg x11 u) (fun u hu => y18.trans hu) _ _ _ _ ?_)
          have y20 : Chg x11 x11 := Chg.refl _
          clear hK K
          try simp only [Act.put, List.setIfInBounds_toArray, List.set_cons_zero, List.set_cons_succ]
          refine wpAnyH_take (i := 12) (oi := { dst := some 85, op := Go.Op.convert 23 9 (Go.Operand.tmp 84), type := 9, pos := "law.go:133", after := #[{ on := 11, ground := Go.Ground.data }, { on := 7, ground := Go.Ground.guard }], guard := some (7, true) }) (v := ?_) rfl (by kernel_rfl) (by kernel_rfl) (by kernel_rfl) (fun _ _ _ h => h) (Or.inl ⟨by rfl, ?_⟩) y20 ?_
          rotate_left
          · intro u hu
            have hu : Chg x11 u := hu
            have hcv := t19 u hu
            go_simp
            try with_reducible rfl
          try simp only [Act.put, List.setIfInBounds_toArray, List.set_cons_zero, List.set_cons_succ]
          refine wpAnyH_ready (rs := [16]) (by kernel_rfl) (by simp) ?_
          refine AllReadyH.cons (o := { dst := some 89, op := Go.Op.buildSlice 30 1 #[(0, Go.Operand.tmp 88)], type := 30, pos := "law.go:133", after := #[{ on := 15, ground := Go.Ground.data }, { on := 7, ground := Go.Ground.guard }], guard := some (7, true) }) rfl (fun K hK => ?_) ?_
          · skip
            go_simp
            obtain ⟨x21, e22⟩ : ∃ x, x = x11.alloc (.cells #[.slice po pm pc] 23) := ⟨_, rfl⟩
            have s25 : Chg x11 x21 := by rw [e22]; exact (Chg.refl _).alloc _
            have c23 : Chg W0 x21 := c17.trans s25
            have p26 : Pt x21 (.slice (some ⟨x11.heap.size, 0, none⟩) 1 1) [xs] := by rw [e22]; exact Pt.made1 (Chg.refl _) (HSA.out _ c17) 23
            have y24 : Chg x11 x21 := y20.trans s25
            rw [← e22]
            clear e22
            refine hK.out _ _ y24 (fun _ => ?_)
            clear hK K
            try simp only [Act.put, List.setIfInBounds_toArray, List.set_cons_zero, List.set_cons_succ]
            refine wpAnyH_ready (rs := [17]) (by kernel_rfl) (by simp) ?_
            refine AllReadyH.cons (o := { dst := some 90, op := Go.Op.call { callee := Go.Callee.value (Go.Operand.func 25), args := #[Go.Operand.tmp 86, Go.Operand.tmp 87, Go.Operand.tmp 89], argTypes := #[22, 23, 30] }, type := 23, pos := "law.go:133", after := #[{ on := 13, ground := Go.Ground.data }, { on := 14, ground := Go.Ground.data }, { on := 16, ground := Go.Ground.data }, { on := 11, ground := Go.Ground.chain }, { on := 7, ground := Go.Ground.guard }], guard := some (7, true) }) rfl (fun K hK => ?_) ?_
            · skip
              go_simp
              go_at_call 25
              refine (HM.out x21 (.slice (some ⟨x11.heap.size, 0, none⟩) 1 1) c23 p26).mono ?_
              rintro e x27 ⟨o30, m31, n32, rfl, s28, r29⟩
              have c33 : Chg W0 x27 := c23.trans s28
              have t35 := TxV.of r29
              have y34 : Chg x11 x27 := y24.trans s28
              refine hK.out _ _ y34 (fun _ => wpAnyH_imp (S' := fun u => Chg x27 u) (fun u hu => y34.trans hu) _ _ _ _ ?_)
              have y36 : Chg x27 x27 := Chg.refl _
              have p37 := Pt.chg p26 s28
              clear hK K
              try simp only [Act.put, List.setIfInBounds_toArray, List.set_cons_zero, List.set_cons_succ]
              refine wpAnyH_take (i := 18) (oi := { dst := some 91, op := Go.Op.convert 23 9 (Go.Operand.tmp 90), type := 9, pos := "law.go:133", after := #[{ on := 17, ground := Go.Ground.data }, { on := 7, ground := Go.Ground.guard }], guard := some (7, true) }) (v := ?_) rfl (by kernel_rfl) (by kernel_rfl) (by kernel_rfl) (fun _ _ _ h => h) (Or.inl ⟨by rfl, ?_⟩) y36 ?_
              rotate_left
              · intro u hu
                have hu : Chg x27 u := hu
                have hcv := t35 u hu
                go_simp
                try with_reducible rfl
              try simp only [Act.put, List.setIfInBounds_toArray, List.set_cons_zero, List.set_cons_succ]
              refine wpAnyH_take (i := 19) (oi := { dst := some 92, op := Go.Op.binOp Go.BinOp.eql 9 (Go.Operand.tmp 85) (Go.Operand.tmp 91) 9, type := 4, pos := "law.go:133", after := #[{ on := 12, ground := Go.Ground.data }, { on := 18, ground := Go.Ground.data }, { on := 7, ground := Go.Ground.guard }], guard := some (7, true) }) (v := ?_) rfl (by kernel_rfl) (by kernel_rfl) (by kernel_rfl) (fun _ _ _ h => h) (Or.inl ⟨by rfl, ?_⟩) y36 ?_
              rotate_left
              · intro u hu
                have hu : Chg x27 u := hu
                go_simp
                try with_reducible rfl
              try simp only [Act.put, List.setIfInBounds_toArray, List.set_cons_zero, List.set_cons_succ]
              refine wpAnyH_take (i := 20) (oi := { dst := some 93, op := Go.Op.pick (Go.Operand.tmp 80) (Go.Operand.tmp 92) (Go.Operand.const (Go.Value.bool false)), type := 4, pos := "law.go:133", after := #[{ on := 7, ground := Go.Ground.data }, { on := 19, ground := Go.Ground.data }], guard := none }) (v := ?_) rfl (by kernel_rfl) (by kernel_rfl) (by kernel_rfl) (fun _ _ _ h => h) (Or.inl ⟨by rfl, ?_⟩) y36 ?_
              rotate_left
              · intro u hu
                have hu : Chg x27 u := hu
                go_simp
                try with_reducible rfl
              try simp only [Act.put, List.setIfInBounds_toArray, List.set_cons_zero, List.set_cons_succ]
              refine wpAnyH_take (i := 21) (oi := { dst := some 17, op := Go.Op.assign (Go.Operand.tmp 93), type := 4, pos := "law.go:133", after := #[{ on := 20, ground := Go.Ground.data }, { on := 17, ground := Go.Ground.chain }, { on := 0, ground := Go.Ground.phase }, { on := 1, ground := Go.Ground.phase }, { on := 2, ground := Go.Ground.phase }, { on := 3, ground := Go.Ground.phase }, { on := 4, ground := Go.Ground.phase }, { on := 5, ground := Go.Ground.phase }, { on := 6, ground := Go.Ground.phase }, { on := 7, ground := Go.Ground.phase }, { on := 8, ground := Go.Ground.phase }, { on := 9, ground := Go.Ground.phase }, { on := 10, ground := Go.Ground.phase }, { on := 11, ground := Go.Ground.phase }, { on := 12, ground := Go.Ground.phase }, { on := 13, ground := Go.Ground.phase }, { on := 14, ground := Go.Ground.phase }, { on := 15, ground := Go.Ground.phase }, { on := 16, ground := Go.Ground.phase }, { on := 17, ground := Go.Ground.phase }, { on := 18, ground := Go.Ground.phase }, { on := 19, ground := Go.Ground.phase }, { on := 20, ground := Go.Ground.phase }], guard := none }) (v := ?_) rfl (by kernel_rfl) (by kernel_rfl) (by kernel_rfl) (fun _ _ _ h => h) (Or.inl ⟨by rfl, ?_⟩) y36 ?_
              rotate_left
              · intro u hu
                have hu : Chg x27 u := hu
                go_simp
                try with_reducible rfl
              try simp only [Act.put, List.setIfInBounds_toArray, List.set_cons_zero, List.set_cons_succ]
              refine wpAnyH_done (by kernel_rfl) ?_ _
              go_wp2_with fail
              go_meet
              case rel => exact ⟨rfl, c33⟩
            exact AllReadyH.nil
          exact AllReadyH.nil
        refine AllReadyH.cons (o := { dst := some 89, op := Go.Op.buildSlice 30 1 #[(0, Go.Operand.tmp 88)], type := 30, pos := "law.go:133", after := #[{ on := 15, ground := Go.Ground.data }, { on := 7, ground := Go.Ground.guard }], guard := some (7, true) }) rfl (fun K hK => ?_) ?_
        · skip
          go_simp
          obtain ⟨x38, e39⟩ : ∃ x, x = x1.alloc (.cells #[.slice po pm pc] 23) := ⟨_, rfl⟩
          have s42 : Chg x1 x38 := by rw [e39]; exact (Chg.refl _).alloc _
          have c40 : Chg W0 x38 := c7.trans s42
          have p43 : Pt x38 (.slice (some ⟨x1.heap.size, 0, none⟩) 1 1) [xs] := by rw [e39]; exact Pt.made1 (Chg.refl _) (HSA.out _ c7) 23
          have y41 : Chg x1 x38 := y10.trans s42
          rw [← e39]
          clear e39
          refine hK.out _ _ y41 (fun _ => ?_)
          clear hK K
          try simp only [Act.put, List.setIfInBounds_toArray, List.set_cons_zero, List.set_cons_succ]
          refine wpAnyH_ready (rs := [11]) (by kernel_rfl) (by simp) ?_
          refine AllReadyH.cons (o := { dst := some 84, op := Go.Op.call { callee := Go.Callee.value (Go.Operand.func 24), args := #[Go.Operand.tmp 81, Go.Operand.tmp 82, Go.Operand.tmp 83], argTypes := #[22, 23, 23] }, type := 23, pos := "law.go:133", after := #[{ on := 8, ground := Go.Ground.data }, { on := 9, ground := Go.Ground.data }, { on := 10, ground := Go.Ground.data }, { on := 7, ground := Go.Ground.chain }, { on := 7, ground := Go.Ground.guard }], guard := some (7, true) }) rfl (fun K hK => ?_) ?_
          · skip
            go_simp
            go_at_call 24
            refine (HF.out x38 c40).mono ?_
            rintro e x44 ⟨o47, m48, n49, rfl, s45, r46⟩
            have c50 : Chg W0 x44 := c40.trans s45
            have t52 := TxV.of r46
            have y51 : Chg x1 x44 := y41.trans s45
            refine hK.out _ _ y51 (fun _ => wpAnyH_imp (S' := fun u => Chg x44 u) (fun u hu => y51.trans hu) _ _ _ _ ?_)
            have y53 : Chg x44 x44 := Chg.refl _
            have p54 := Pt.chg p43 s45
            clear hK K
            try simp only [Act.put, List.setIfInBounds_toArray, List.set_cons_zero, List.set_cons_succ]
            refine wpAnyH_take (i := 12) (oi := { dst := some 85, op := Go.Op.convert 23 9 (Go.Operand.tmp 84), type := 9, pos := "law.go:133", after := #[{ on := 11, ground := Go.Ground.data }, { on := 7, ground := Go.Ground.guard }], guard := some (7, true) }) (v := ?_) rfl (by kernel_rfl) (by kernel_rfl) (by kernel_rfl) (fun _ _ _ h => h) (Or.inl ⟨by rfl, ?_⟩) y53 ?_
            rotate_left
            · intro u hu
              have hu : Chg x44 u := hu
              have hcv := t52 u hu
              go_simp
              try with_reducible rfl
            try simp only [Act.put, List.setIfInBounds_toArray, List.set_cons_zero, List.set_cons_succ]
            refine wpAnyH_ready (rs := [17]) (by kernel_rfl) (by simp) ?_
            refine AllReadyH.cons (o := { dst := some 90, op := Go.Op.call { callee := Go.Callee.value (Go.Operand.func 25), args := #[Go.Operand.tmp 86, Go.Operand.tmp 87, Go.Operand.tmp 89], argTypes := #[22, 23, 30] }, type := 23, pos := "law.go:133", after := #[{ on := 13, ground := Go.Ground.data }, { on := 14, ground := Go.Ground.data }, { on := 16, ground := Go.Ground.data }, { on := 11, ground := Go.Ground.chain }, { on := 7, ground := Go.Ground.guard }], guard := some (7, true) }) rfl (fun K hK => ?_) ?_
            · skip
              go_simp
              go_at_call 25
              refine (HM.out x44 (.slice (some ⟨x1.heap.size, 0, none⟩) 1 1) c50 p54).mono ?_
              rintro e x55 ⟨o58, m59, n60, rfl, s56, r57⟩
              have c61 : Chg W0 x55 := c50.trans s56
              have t63 := TxV.of r57
              have y62 : Chg x44 x55 := y53.trans s56
              refine hK.out _ _ y62 (fun _ => wpAnyH_imp (S' := fun u => Chg x55 u) (fun u hu => y62.trans hu) _ _ _ _ ?_)
              have y64 : Chg x55 x55 := Chg.refl _
              have p65 := Pt.chg p54 s56
              clear hK K
              try simp only [Act.put, List.setIfInBounds_toArray, List.set_cons_zero, List.set_cons_succ]
              refine wpAnyH_take (i := 18) (oi := { dst := some 91, op := Go.Op.convert 23 9 (Go.Operand.tmp 90), type := 9, pos := "law.go:133", after := #[{ on := 17, ground := Go.Ground.data }, { on := 7, ground := Go.Ground.guard }], guard := some (7, true) }) (v := ?_) rfl (by kernel_rfl) (by kernel_rfl) (by kernel_rfl) (fun _ _ _ h => h) (Or.inl ⟨by rfl, ?_⟩) y64 ?_
              rotate_left
              · intro u hu
                have hu : Chg x55 u := hu
                have hcv := t63 u hu
                go_simp
                try with_reducible rfl
              try simp only [Act.put, List.setIfInBounds_toArray, List.set_cons_zero, List.set_cons_succ]
              refine wpAnyH_take (i := 19) (oi := { dst := some 92, op := Go.Op.binOp Go.BinOp.eql 9 (Go.Operand.tmp 85) (Go.Operand.tmp 91) 9, type := 4, pos := "law.go:133", after := #[{ on := 12, ground := Go.Ground.data }, { on := 18, ground := Go.Ground.data }, { on := 7, ground := Go.Ground.guard }], guard := some (7, true) }) (v := ?_) rfl (by kernel_rfl) (by kernel_rfl) (by kernel_rfl) (fun _ _ _ h => h) (Or.inl ⟨by rfl, ?_⟩) y64 ?_
              rotate_left
              · intro u hu
                have hu : Chg x55 u := hu
                go_simp
                try with_reducible rfl
              try simp only [Act.put, List.setIfInBounds_toArray, List.set_cons_zero, List.set_cons_succ]
              refine wpAnyH_take (i := 20) (oi := { dst := some 93, op := Go.Op.pick (Go.Operand.tmp 80) (Go.Operand.tmp 92) (Go.Operand.const (Go.Value.bool false)), type := 4, pos := "law.go:133", after := #[{ on := 7, ground := Go.Ground.data }, { on := 19, ground := Go.Ground.data }], guard := none }) (v := ?_) rfl (by kernel_rfl) (by kernel_rfl) (by kernel_rfl) (fun _ _ _ h => h) (Or.inl ⟨by rfl, ?_⟩) y64 ?_
              rotate_left
              · intro u hu
                have hu : Chg x55 u := hu
                go_simp
                try with_reducible rfl
              try simp only [Act.put, List.setIfInBounds_toArray, List.set_cons_zero, List.set_cons_succ]
              refine wpAnyH_take (i := 21) (oi := { dst := some 17, op := Go.Op.assign (Go.Operand.tmp 93), type := 4, pos := "law.go:133", after := #[{ on := 20, ground := Go.Ground.data }, { on := 17, ground := Go.Ground.chain }, { on := 0, ground := Go.Ground.phase }, { on := 1, ground := Go.Ground.phase }, { on := 2, ground := Go.Ground.phase }, { on := 3, ground := Go.Ground.phase }, { on := 4, ground := Go.Ground.phase }, { on := 5, ground := Go.Ground.phase }, { on := 6, ground := Go.Ground.phase }, { on := 7, ground := Go.Ground.phase }, { on := 8, ground := Go.Ground.phase }, { on := 9, ground := Go.Ground.phase }, { on := 10, ground := Go.Ground.phase }, { on := 11, ground := Go.Ground.phase }, { on := 12, ground := Go.Ground.phase }, { on := 13, ground := Go.Ground.phase }, { on := 14, ground := Go.Ground.phase }, { on := 15, ground := Go.Ground.phase }, { on := 16, ground := Go.Ground.phase }, { on := 17, ground := Go.Ground.phase }, { on := 18, ground := Go.Ground.phase }, { on := 19, ground := Go.Ground.phase }, { on := 20, ground := Go.Ground.phase }], guard := none }) (v := ?_) rfl (by kernel_rfl) (by kernel_rfl) (by kernel_rfl) (fun _ _ _ h => h) (Or.inl ⟨by rfl, ?_⟩) y64 ?_
              rotate_left
              · intro u hu
                have hu : Chg x55 u := hu
                go_simp
                try with_reducible rfl
              try simp only [Act.put, List.setIfInBounds_toArray, List.set_cons_zero, List.set_cons_succ]
              refine wpAnyH_done (by kernel_rfl) ?_ _
              go_wp2_with fail
              go_meet
              case rel => exact ⟨rfl, c61⟩
            exact AllReadyH.nil
          exact AllReadyH.nil
        exact AllReadyH.nil
      exact AllReadyH.nil
    case rest =>
    obtain ⟨rfl, hcc⟩ := hcut
    have KC : Hid (Chg W0 wc) := hcc
    clear hcc
    go_upto_region 12 with fail
    go_cut [18] from 94 to 116 (fun u18 wc => u18 = .bool true ∧ Chg W0 wc)
    case first =>
      have c0 : Chg W0 wc.drew := KC.out.drew
      refine wp_region_held_drew (S := fun u => Chg W0 u) (by kernel_rfl) c0 (fun _ => ?_)
      generalize wc.drew = WD at c0 ⊢
      refine wpAnyH_take (i := 0) (oi := { dst := some 94, op := Go.Op.move (Go.Operand.tmp 0), type := 22, pos := "law.go:134", after := #[], guard := none }) (v := ?_) rfl (by kernel_rfl) (by kernel_rfl) (by kernel_rfl) (fun _ _ _ h => h) (Or.inl ⟨by rfl, ?_⟩) c0 ?_
      rotate_left
      · intro u hu
        have hu : Chg W0 u := hu
        go_simp
        try with_reducible rfl
      try simp only [Act.put, List.setIfInBounds_toArray, List.set_cons_zero, List.set_cons_succ]
      refine wpAnyH_take (i := 1) (oi := { dst := some 95, op := Go.Op.move (Go.Operand.tmp 1), type := 23, pos := "law.go:134", after := #[], guard := none }) (v := ?_) rfl (by kernel_rfl) (by kernel_rfl) (by kernel_rfl) (fun _ _ _ h => h) (Or.inl ⟨by rfl, ?_⟩) c0 ?_
      rotate_left
      · intro u hu
        have hu : Chg W0 u := hu
        go_simp
        try with_reducible rfl
      try simp only [Act.put, List.setIfInBounds_toArray, List.set_cons_zero, List.set_cons_succ]
      refine wpAnyH_take (i := 2) (oi := { dst := some 96, op := Go.Op.move (Go.Operand.tmp 2), type := 23, pos := "law.go:134", after := #[], guard := none }) (v := ?_) rfl (by kernel_rfl) (by kernel_rfl) (by kernel_rfl) (fun _ _ _ h => h) (Or.inl ⟨by rfl, ?_⟩) c0 ?_
      rotate_left
      · intro u hu
        have hu : Chg W0 u := hu
        go_simp
        try with_reducible rfl
      try simp only [Act.put, List.setIfInBounds_toArray, List.set_cons_zero, List.set_cons_succ]
      refine wpAnyH_take (i := 5) (oi := { dst := some 99, op := Go.Op.move (Go.Operand.tmp 0), type := 22, pos := "law.go:134", after := #[], guard := none }) (v := ?_) rfl (by kernel_rfl) (by kernel_rfl) (by kernel_rfl) (fun _ _ _ h => h) (Or.inl ⟨by rfl, ?_⟩) c0 ?_
      rotate_left
      · intro u hu
        have hu : Chg W0 u := hu
        go_simp
        try with_reducible rfl
      try simp only [Act.put, List.setIfInBounds_toArray, List.set_cons_zero, List.set_cons_succ]
      refine wpAnyH_take (i := 6) (oi := { dst := some 100, op := Go.Op.move (Go.Operand.tmp 16), type := 23, pos := "law.go:134", after := #[], guard := none }) (v := ?_) rfl (by kernel_rfl) (by kernel_rfl) (by kernel_rfl) (fun _ _ _ h => h) (Or.inl ⟨by rfl, ?_⟩) c0 ?_
      rotate_left
      · intro u hu
        have hu : Chg W0 u := hu
        go_simp
        try with_reducible rfl
      try simp only [Act.put, List.setIfInBounds_toArray, List.set_cons_zero, List.set_cons_succ]
      refine wpAnyH_take (i := 7) (oi := { dst := some 101, op := Go.Op.move (Go.Operand.tmp 2), type := 23, pos := "law.go:134", after := #[], guard := none }) (v := ?_) rfl (by kernel_rfl) (by kernel_rfl) (by kernel_rfl) (fun _ _ _ h => h) (Or.inl ⟨by rfl, ?_⟩) c0 ?_
      rotate_left
      · intro u hu
        have hu : Chg W0 u := hu
        go_simp
        try with_reducible rfl
      try simp only [Act.put, List.setIfInBounds_toArray, List.set_cons_zero, List.set_cons_succ]
      refine wpAnyH_ready (rs := [3]) (by kernel_rfl) (by simp) ?_
      refine AllReadyH.cons (o := { dst := some 97, op := Go.Op.call { callee := Go.Callee.value (Go.Operand.func 26), args := #[Go.Operand.tmp 94, Go.Operand.tmp 95, Go.Operand.tmp 96], argTypes := #[22, 23, 23] }, type := 23, pos := "law.go:134", after := #[{ on := 0, ground := Go.Ground.data }, { on := 1, ground := Go.Ground.data }, { on := 2, ground := Go.Ground.data }], guard := none }) rfl (fun K hK => ?_) ?_
      · skip
        go_simp
        go_at_call 26
        refine (HH.out WD c0).mono ?_
        rintro e x66 ⟨o69, m70, n71, rfl, s67, r68⟩
        have c72 : Chg W0 x66 := c0.trans s67
        have t74 := TxV.of r68
        have y73 : Chg W0 x66 := c0.trans s67
        refine hK.out _ _ y73 (fun _ => wpAnyH_imp (S' := fun u => Chg x66 u) (fun u hu => y73.trans hu) _ _ _ _ ?_)
        have y75 : Chg x66 x66 := Chg.refl _
        clear hK K
        try simp only [Act.put, List.setIfInBounds_toArray, List.set_cons_zero, List.set_cons_succ]
        refine wpAnyH_take (i := 4) (oi := { dst := some 98, op := Go.Op.convert 23 9 (Go.Operand.tmp 97), type := 9, pos := "law.go:134", after := #[{ on := 3, ground := Go.Ground.data }], guard := none }) (v := ?_) rfl (by kernel_rfl) (by kernel_rfl) (by kernel_rfl) (fun _ _ _ h => h) (Or.inl ⟨by rfl, ?_⟩) y75 ?_
        rotate_left
        · intro u hu
          have hu : Chg x66 u := hu
          have hcv := t74 u hu
          go_simp
          try with_reducible rfl
        try simp only [Act.put, List.setIfInBounds_toArray, List.set_cons_zero, List.set_cons_succ]
        refine wpAnyH_ready (rs := [8]) (by kernel_rfl) (by simp) ?_
        refine AllReadyH.cons (o := { dst := some 102, op := Go.Op.call { callee := Go.Callee.value (Go.Operand.func 27), args := #[Go.Operand.tmp 99, Go.Operand.tmp 100, Go.Operand.tmp 101], argTypes := #[22, 23, 23] }, type := 23, pos := "law.go:134", after := #[{ on := 5, ground := Go.Ground.data }, { on := 6, ground := Go.Ground.data }, { on := 7, ground := Go.Ground.data }, { on := 3, ground := Go.Ground.chain }], guard := none }) rfl (fun K hK => ?_) ?_
        · skip
          go_simp
          go_at_call 27
          refine (HHX.out x66 c72).mono ?_
          rintro e x76 ⟨o79, m80, n81, rfl, s77, r78⟩
          have c82 : Chg W0 x76 := c72.trans s77
          have t84 := TxV.of r78
          have y83 : Chg x66 x76 := y75.trans s77
          refine hK.out _ _ y83 (fun _ => wpAnyH_imp (S' := fun u => Chg x76 u) (fun u hu => y83.trans hu) _ _ _ _ ?_)
          have y85 : Chg x76 x76 := Chg.refl _
          clear hK K
          try simp only [Act.put, List.setIfInBounds_toArray, List.set_cons_zero, List.set_cons_succ]
          refine wpAnyH_take (i := 9) (oi := { dst := some 103, op := Go.Op.convert 23 9 (Go.Operand.tmp 102), type := 9, pos := "law.go:134", after := #[{ on := 8, ground := Go.Ground.data }], guard := none }) (v := ?_) rfl (by kernel_rfl) (by kernel_rfl) (by kernel_rfl) (fun _ _ _ h => h) (Or.inl ⟨by rfl, ?_⟩) y85 ?_
          rotate_left
          · intro u hu
            have hu : Chg x76 u := hu
            have hcv := t84 u hu
            go_simp
            try with_reducible rfl
          try simp only [Act.put, List.setIfInBounds_toArray, List.set_cons_zero, List.set_cons_succ]
          refine wpAnyH_take (i := 10) (oi := { dst := some 104, op := Go.Op.binOp Go.BinOp.eql 9 (Go.Operand.tmp 98) (Go.Operand.tmp 103) 9, type := 4, pos := "law.go:134", after := #[{ on := 4, ground := Go.Ground.data }, { on := 9, ground := Go.Ground.data }], guard := none }) (v := ?_) rfl (by kernel_rfl) (by kernel_rfl) (by kernel_rfl) (fun _ _ _ h => h) (Or.inl ⟨by rfl, ?_⟩) y85 ?_
          rotate_left
          · intro u hu
            have hu : Chg x76 u := hu
            go_simp
            try with_reducible rfl
          try simp only [Act.put, List.setIfInBounds_toArray, List.set_cons_zero, List.set_cons_succ]
          refine wpAnyH_take (i := 11) (oi := { dst := some 105, op := Go.Op.move (Go.Operand.tmp 104), type := 4, pos := "law.go:134", after := #[{ on := 10, ground := Go.Ground.data }, { on := 8, ground := Go.Ground.chain }], guard := none }) (v := ?_) rfl (by kernel_rfl) (by kernel_rfl) (by kernel_rfl) (fun _ _ _ h => h) (Or.inl ⟨by rfl, ?_⟩) y85 ?_
          rotate_left
          · intro u hu
            have hu : Chg x76 u := hu
            go_simp
            try with_reducible rfl
          try simp only [Act.put, List.setIfInBounds_toArray, List.set_cons_zero, List.set_cons_succ]
          refine wpAnyH_take (i := 12) (oi := { dst := some 106, op := Go.Op.move (Go.Operand.tmp 0), type := 22, pos := "law.go:134", after := #[{ on := 11, ground := Go.Ground.guard }], guard := some (11, true) }) (v := ?_) rfl (by kernel_rfl) (by kernel_rfl) (by kernel_rfl) (fun _ _ _ h => h) (Or.inl ⟨by rfl, ?_⟩) y85 ?_
          rotate_left
          · intro u hu
            have hu : Chg x76 u := hu
            go_simp
            try with_reducible rfl
          try simp only [Act.put, List.setIfInBounds_toArray, List.set_cons_zero, List.set_cons_succ]
          refine wpAnyH_take (i := 13) (oi := { dst := some 107, op := Go.Op.move (Go.Operand.tmp 1), type := 23, pos := "law.go:134", after := #[{ on := 11, ground := Go.Ground.guard }], guard := some (11, true) }) (v := ?_) rfl (by kernel_rfl) (by kernel_rfl) (by kernel_rfl) (fun _ _ _ h => h) (Or.inl ⟨by rfl, ?_⟩) y85 ?_
          rotate_left
          · intro u hu
            have hu : Chg x76 u := hu
            go_simp
            try with_reducible rfl
          try simp only [Act.put, List.setIfInBounds_toArray, List.set_cons_zero, List.set_cons_succ]
          refine wpAnyH_take (i := 16) (oi := { dst := some 110, op := Go.Op.move (Go.Operand.tmp 0), type := 22, pos := "law.go:134", after := #[{ on := 11, ground := Go.Ground.guard }], guard := some (11, true) }) (v := ?_) rfl (by kernel_rfl) (by kernel_rfl) (by kernel_rfl) (fun _ _ _ h => h) (Or.inl ⟨by rfl, ?_⟩) y85 ?_
          rotate_left
          · intro u hu
            have hu : Chg x76 u := hu
            go_simp
            try with_reducible rfl
          try simp only [Act.put, List.setIfInBounds_toArray, List.set_cons_zero, List.set_cons_succ]
          refine wpAnyH_take (i := 17) (oi := { dst := some 111, op := Go.Op.move (Go.Operand.tmp 16), type := 23, pos := "law.go:134", after := #[{ on := 11, ground := Go.Ground.guard }], guard := some (11, true) }) (v := ?_) rfl (by kernel_rfl) (by kernel_rfl) (by kernel_rfl) (fun _ _ _ h => h) (Or.inl ⟨by rfl, ?_⟩) y85 ?_
          rotate_left
          · intro u hu
            have hu : Chg x76 u := hu
            go_simp
            try with_reducible rfl
          try simp only [Act.put, List.setIfInBounds_toArray, List.set_cons_zero, List.set_cons_succ]
          refine wpAnyH_take (i := 18) (oi := { dst := some 112, op := Go.Op.move (Go.Operand.tmp 11), type := 23, pos := "law.go:134", after := #[{ on := 11, ground := Go.Ground.guard }], guard := some (11, true) }) (v := ?_) rfl (by kernel_rfl) (by kernel_rfl) (by kernel_rfl) (fun _ _ _ h => h) (Or.inl ⟨by rfl, ?_⟩) y85 ?_
          rotate_left
          · intro u hu
            have hu : Chg x76 u := hu
            go_simp
            try with_reducible rfl
          try simp only [Act.put, List.setIfInBounds_toArray, List.set_cons_zero, List.set_cons_succ]
          refine wpAnyH_ready (rs := [14]) (by kernel_rfl) (by simp) ?_
          refine AllReadyH.cons (o := { dst := some 108, op := Go.Op.call { callee := Go.Callee.value (Go.Operand.func 28), args := #[Go.Operand.tmp 106, Go.Operand.tmp 107], argTypes := #[22, 23] }, type := 23, pos := "law.go:134", after := #[{ on := 12, ground := Go.Ground.data }, { on := 13, ground := Go.Ground.data }, { on := 11, ground := Go.Ground.chain }, { on := 11, ground := Go.Ground.guard }], guard := some (11, true) }) rfl (fun K hK => ?_) ?_
          · skip
            go_simp
            go_at_call 28
            refine (HMS.out x76 c82).mono ?_
            rintro e x86 ⟨o89, m90, n91, rfl, s87, r88⟩
            have c92 : Chg W0 x86 := c82.trans s87
            have t94 := TxV.of r88
            have y93 : Chg x76 x86 := y85.trans s87
            refine hK.out _ _ y93 (fun _ => wpAnyH_imp (S' := fun u => Chg x86 u) (fun u hu => y93.trans hu) _ _ _ _ ?_)
            have y95 : Chg x86 x86 := Chg.refl _
            clear hK K
            try simp only [Act.put, List.setIfInBounds_toArray, List.set_cons_zero, List.set_cons_succ]
            refine wpAnyH_take (i := 15) (oi := { dst := some 109, op := Go.Op.convert 23 9 (Go.Operand.tmp 108), type := 9, pos := "law.go:134", after := #[{ on := 14, ground := Go.Ground.data }, { on := 11, ground := Go.Ground.guard }], guard := some (11, true) }) (v := ?_) rfl (by kernel_rfl) (by kernel_rfl) (by kernel_rfl) (fun _ _ _ h => h) (Or.inl ⟨by rfl, ?_⟩) y95 ?_
            rotate_left
            · intro u hu
              have hu : Chg x86 u := hu
              have hcv := t94 u hu
              go_simp
              try with_reducible rfl
            try simp only [Act.put, List.setIfInBounds_toArray, List.set_cons_zero, List.set_cons_succ]
            refine wpAnyH_ready (rs := [19]) (by kernel_rfl) (by simp) ?_
            refine AllReadyH.cons (o := { dst := some 113, op := Go.Op.call { callee := Go.Callee.value (Go.Operand.func 27), args := #[Go.Operand.tmp 110, Go.Operand.tmp 111, Go.Operand.tmp 112], argTypes := #[22, 23, 23] }, type := 23, pos := "law.go:134", after := #[{ on := 16, ground := Go.Ground.data }, { on := 17, ground := Go.Ground.data }, { on := 18, ground := Go.Ground.data }, { on := 14, ground := Go.Ground.chain }, { on := 11, ground := Go.Ground.guard }], guard := some (11, true) }) rfl (fun K hK => ?_) ?_
            · skip
              go_simp
              go_at_call 27
              refine (HMX.out x86 c92).mono ?_
              rintro e x96 ⟨o99, m100, n101, rfl, s97, r98⟩
              have c102 : Chg W0 x96 := c92.trans s97
              have t104 := TxV.of r98
              have y103 : Chg x86 x96 := y95.trans s97
              refine hK.out _ _ y103 (fun _ => wpAnyH_imp (S' := fun u => Chg x96 u) (fun u hu => y103.trans hu) _ _ _ _ ?_)
              have y105 : Chg x96 x96 := Chg.refl _
              clear hK K
              try simp only [Act.put, List.setIfInBounds_toArray, List.set_cons_zero, List.set_cons_succ]
              refine wpAnyH_take (i := 20) (oi := { dst := some 114, op := Go.Op.convert 23 9 (Go.Operand.tmp 113), type := 9, pos := "law.go:134", after := #[{ on := 19, ground := Go.Ground.data }, { on := 11, ground := Go.Ground.guard }], guard := some (11, true) }) (v := ?_) rfl (by kernel_rfl) (by kernel_rfl) (by kernel_rfl) (fun _ _ _ h => h) (Or.inl ⟨by rfl, ?_⟩) y105 ?_
              rotate_left
              · intro u hu
                have hu : Chg x96 u := hu
                have hcv := t104 u hu
                go_simp
                try with_reducible rfl
              try simp only [Act.put, List.setIfInBounds_toArray, List.set_cons_zero, List.set_cons_succ]
              refine wpAnyH_take (i := 21) (oi := { dst := some 115, op := Go.Op.binOp Go.BinOp.eql 9 (Go.Operand.tmp 109) (Go.Operand.tmp 114) 9, type := 4, pos := "law.go:134", after := #[{ on := 15, ground := Go.Ground.data }, { on := 20, ground := Go.Ground.data }, { on := 11, ground := Go.Ground.guard }], guard := some (11, true) }) (v := ?_) rfl (by kernel_rfl) (by kernel_rfl) (by kernel_rfl) (fun _ _ _ h => h) (Or.inl ⟨by rfl, ?_⟩) y105 ?_
              rotate_left
              · intro u hu
                have hu : Chg x96 u := hu
                go_simp
                try with_reducible rfl
              try simp only [Act.put, List.setIfInBounds_toArray, List.set_cons_zero, List.set_cons_succ]
              refine wpAnyH_take (i := 22) (oi := { dst := some 116, op := Go.Op.pick (Go.Operand.tmp 105) (Go.Operand.tmp 115) (Go.Operand.const (Go.Value.bool false)), type := 4, pos := "law.go:134", after := #[{ on := 11, ground := Go.Ground.data }, { on := 21, ground := Go.Ground.data }], guard := none }) (v := ?_) rfl (by kernel_rfl) (by kernel_rfl) (by kernel_rfl) (fun _ _ _ h => h) (Or.inl ⟨by rfl, ?_⟩) y105 ?_
              rotate_left
              · intro u hu
                have hu : Chg x96 u := hu
                go_simp
                try with_reducible rfl
              try simp only [Act.put, List.setIfInBounds_toArray, List.set_cons_zero, List.set_cons_succ]
              refine wpAnyH_take (i := 23) (oi := { dst := some 18, op := Go.Op.assign (Go.Operand.tmp 116), type := 4, pos := "law.go:134", after := #[{ on := 22, ground := Go.Ground.data }, { on := 19, ground := Go.Ground.chain }, { on := 0, ground := Go.Ground.phase }, { on := 1, ground := Go.Ground.phase }, { on := 2, ground := Go.Ground.phase }, { on := 3, ground := Go.Ground.phase }, { on := 4, ground := Go.Ground.phase }, { on := 5, ground := Go.Ground.phase }, { on := 6, ground := Go.Ground.phase }, { on := 7, ground := Go.Ground.phase }, { on := 8, ground := Go.Ground.phase }, { on := 9, ground := Go.Ground.phase }, { on := 10, ground := Go.Ground.phase }, { on := 11, ground := Go.Ground.phase }, { on := 12, ground := Go.Ground.phase }, { on := 13, ground := Go.Ground.phase }, { on := 14, ground := Go.Ground.phase }, { on := 15, ground := Go.Ground.phase }, { on := 16, ground := Go.Ground.phase }, { on := 17, ground := Go.Ground.phase }, { on := 18, ground := Go.Ground.phase }, { on := 19, ground := Go.Ground.phase }, { on := 20, ground := Go.Ground.phase }, { on := 21, ground := Go.Ground.phase }, { on := 22, ground := Go.Ground.phase }], guard := none }) (v := ?_) rfl (by kernel_rfl) (by kernel_rfl) (by kernel_rfl) (fun _ _ _ h => h) (Or.inl ⟨by rfl, ?_⟩) y105 ?_
              rotate_left
              · intro u hu
                have hu : Chg x96 u := hu
                go_simp
                try with_reducible rfl
              try simp only [Act.put, List.setIfInBounds_toArray, List.set_cons_zero, List.set_cons_succ]
              refine wpAnyH_done (by kernel_rfl) ?_ _
              go_wp2_with fail
              go_meet
              case rel => exact ⟨rfl, c102⟩
            exact AllReadyH.nil
          exact AllReadyH.nil
        exact AllReadyH.nil
      exact AllReadyH.nil
    case rest =>
    obtain ⟨rfl, hcc⟩ := hcut
    have KC : Hid (Chg W0 wc) := hcc
    clear hcc
    go_upto_region 13 with fail
    go_cut [19] from 117 to 147 (fun u19 wc => u19 = .bool true ∧ Chg W0 wc)
    case first =>
      by_cases hm0 : hm = 0
      · subst hm0
        have hsh : shared.length = 0 := HLH.out.2.1.symm
        have HEXS : Hid (∀ u v, Chg W0 u → Ap.Rd u v (([] ++ shared) ++ zer S) → Calls Tryd.prog 27 #[.int .i64 q, .slice none 0 0, v] u fun e w' => RL (earlyL q shared) u w' e) := fun u v hu hr => by
          have h := HEX.out u v _ hu hr (by simp only [List.nil_append, List.length_append]; rw [zer_len]; have := HS.out.2; omega)
          have e : earlyL q shared = macL q [] (([] ++ shared) ++ zer S) := by
            rw [List.length_eq_zero_iff.1 hsh, mac_salt]
            unfold earlyL
            rw [if_pos (show ([] : List Int).length = 0 from rfl), HS.out.1]
            rfl
          rw [e]
          exact h
        have wS : IntKind.i64.wrap (S : Int) = S := wrap_i (by omega) (by have := HS.out.2; omega)
        have hS64 : S ≤ 64 := HS.out.2
        have w10 : IntKind.i64.wrap 1 = 1 := rfl
        have hm1 : (S : Int) * 1 = S := Int.mul_one _
        have p0 : (0 : Int) < S := by omega
        have p0n : 0 < S := by omega
        have tn : ((S : Int)).toNat = S := Int.toNat_natCast S
        clear hsh
        have c0 : Chg W0 wc.drew := KC.out.drew
        refine wp_region_held_drew (S := fun u => Chg W0 u) (by kernel_rfl) c0 (fun _ => ?_)
        generalize wc.drew = WD at c0 ⊢
        refine wpAnyH_take (i := 0) (oi := { dst := some 117, op := Go.Op.move (Go.Operand.tmp 0), type := 22, pos := "law.go:135", after := #[], guard := none }) (v := ?_) rfl (by kernel_rfl) (by kernel_rfl) (by kernel_rfl) (fun _ _ _ h => h) (Or.inl ⟨by rfl, ?_⟩) c0 ?_
        rotate_left
        · intro u hu
          have hu : Chg W0 u := hu
          go_simp
          try with_reducible rfl
        try simp only [Act.put, List.setIfInBounds_toArray, List.set_cons_zero, List.set_cons_succ]
        refine wpAnyH_take (i := 3) (oi := { dst := some 120, op := Go.Op.move (Go.Operand.tmp 0), type := 22, pos := "law.go:135", after := #[], guard := none }) (v := ?_) rfl (by kernel_rfl) (by kernel_rfl) (by kernel_rfl) (fun _ _ _ h => h) (Or.inl ⟨by rfl, ?_⟩) c0 ?_
        rotate_left
        · intro u hu
          have hu : Chg W0 u := hu
          go_simp
          try with_reducible rfl
        try simp only [Act.put, List.setIfInBounds_toArray, List.set_cons_zero, List.set_cons_succ]
        refine wpAnyH_take (i := 4) (oi := { dst := some 121, op := Go.Op.move (Go.Operand.tmp 11), type := 23, pos := "law.go:135", after := #[], guard := none }) (v := ?_) rfl (by kernel_rfl) (by kernel_rfl) (by kernel_rfl) (fun _ _ _ h => h) (Or.inl ⟨by rfl, ?_⟩) c0 ?_
        rotate_left
        · intro u hu
          have hu : Chg W0 u := hu
          go_simp
          try with_reducible rfl
        try simp only [Act.put, List.setIfInBounds_toArray, List.set_cons_zero, List.set_cons_succ]
        refine wpAnyH_ready (rs := [1]) (by kernel_rfl) (by simp) ?_
        refine AllReadyH.cons (o := { dst := some 118, op := Go.Op.call { callee := Go.Callee.value (Go.Operand.func 22), args := #[Go.Operand.tmp 117, Go.Operand.const (Go.Value.slice none 0 0)], argTypes := #[22, 23] }, type := 23, pos := "law.go:135", after := #[{ on := 0, ground := Go.Ground.data }], guard := none }) rfl (fun K hK => ?_) ?_
        · skip
          go_simp
          go_at_call 22
          refine (HY0.out WD c0).mono ?_
          rintro e x106 ⟨o109, m110, n111, rfl, s107, r108⟩
          have c112 : Chg W0 x106 := c0.trans s107
          have t114 := TxV.of r108
          have y113 : Chg W0 x106 := c0.trans s107
          refine hK.out _ _ y113 (fun _ => wpAnyH_imp (S' := fun u => Chg x106 u) (fun u hu => y113.trans hu) _ _ _ _ ?_)
          have y115 : Chg x106 x106 := Chg.refl _
          clear hK K
          try simp only [Act.put, List.setIfInBounds_toArray, List.set_cons_zero, List.set_cons_succ]
          refine wpAnyH_take (i := 2) (oi := { dst := some 119, op := Go.Op.convert 23 9 (Go.Operand.tmp 118), type := 9, pos := "law.go:135", after := #[{ on := 1, ground := Go.Ground.data }], guard := none }) (v := ?_) rfl (by kernel_rfl) (by kernel_rfl) (by kernel_rfl) (fun _ _ _ h => h) (Or.inl ⟨by rfl, ?_⟩) y115 ?_
          rotate_left
          · intro u hu
            have hu : Chg x106 u := hu
            have hcv := t114 u hu
            go_simp
            try with_reducible rfl
          try simp only [Act.put, List.setIfInBounds_toArray, List.set_cons_zero, List.set_cons_succ]
          refine wpAnyH_ready (rs := [5]) (by kernel_rfl) (by simp) ?_
          refine AllReadyH.cons (o := { dst := some 122, op := Go.Op.call { callee := Go.Callee.value (Go.Operand.func 22), args := #[Go.Operand.tmp 120, Go.Operand.tmp 121], argTypes := #[22, 23] }, type := 23, pos := "law.go:135", after := #[{ on := 3, ground := Go.Ground.data }, { on := 4, ground := Go.Ground.data }, { on := 1, ground := Go.Ground.chain }], guard := none }) rfl (fun K hK => ?_) ?_
          · skip
            go_simp
            go_at_call 22
            refine (HYZ.out x106 c112).mono ?_
            rintro e x116 ⟨o119, m120, n121, rfl, s117, r118⟩
            have c122 : Chg W0 x116 := c112.trans s117
            have t124 := TxV.of r118
            have y123 : Chg x106 x116 := y115.trans s117
            refine hK.out _ _ y123 (fun _ => wpAnyH_imp (S' := fun u => Chg x116 u) (fun u hu => y123.trans hu) _ _ _ _ ?_)
            have y125 : Chg x116 x116 := Chg.refl _
            clear hK K
            try simp only [Act.put, List.setIfInBounds_toArray, List.set_cons_zero, List.set_cons_succ]
            refine wpAnyH_take (i := 6) (oi := { dst := some 123, op := Go.Op.convert 23 9 (Go.Operand.tmp 122), type := 9, pos := "law.go:135", after := #[{ on := 5, ground := Go.Ground.data }], guard := none }) (v := ?_) rfl (by kernel_rfl) (by kernel_rfl) (by kernel_rfl) (fun _ _ _ h => h) (Or.inl ⟨by rfl, ?_⟩) y125 ?_
            rotate_left
            · intro u hu
              have hu : Chg x116 u := hu
              have hcv := t124 u hu
              go_simp
              try with_reducible rfl
            try simp only [Act.put, List.setIfInBounds_toArray, List.set_cons_zero, List.set_cons_succ]
            refine wpAnyH_take (i := 7) (oi := { dst := some 124, op := Go.Op.binOp Go.BinOp.eql 9 (Go.Operand.tmp 119) (Go.Operand.tmp 123) 9, type := 4, pos := "law.go:135", after := #[{ on := 2, ground := Go.Ground.data }, { on := 6, ground := Go.Ground.data }], guard := none }) (v := ?_) rfl (by kernel_rfl) (by kernel_rfl) (by kernel_rfl) (fun _ _ _ h => h) (Or.inl ⟨by rfl, ?_⟩) y125 ?_
            rotate_left
            · intro u hu
              have hu : Chg x116 u := hu
              go_simp
              try with_reducible rfl
            try simp only [Act.put, List.setIfInBounds_toArray, List.set_cons_zero, List.set_cons_succ]
            refine wpAnyH_take (i := 8) (oi := { dst := some 125, op := Go.Op.move (Go.Operand.tmp 124), type := 4, pos := "law.go:135", after := #[{ on := 7, ground := Go.Ground.data }, { on := 5, ground := Go.Ground.chain }], guard := none }) (v := ?_) rfl (by kernel_rfl) (by kernel_rfl) (by kernel_rfl) (fun _ _ _ h => h) (Or.inl ⟨by rfl, ?_⟩) y125 ?_
            rotate_left
            · intro u hu
              have hu : Chg x116 u := hu
              go_simp
              try with_reducible rfl
            try simp only [Act.put, List.setIfInBounds_toArray, List.set_cons_zero, List.set_cons_succ]
            refine wpAnyH_take (i := 9) (oi := { dst := some 126, op := Go.Op.move (Go.Operand.tmp 0), type := 22, pos := "law.go:135", after := #[{ on := 8, ground := Go.Ground.guard }], guard := some (8, true) }) (v := ?_) rfl (by kernel_rfl) (by kernel_rfl) (by kernel_rfl) (fun _ _ _ h => h) (Or.inl ⟨by rfl, ?_⟩) y125 ?_
            rotate_left
            · intro u hu
              have hu : Chg x116 u := hu
              go_simp
              try with_reducible rfl
            try simp only [Act.put, List.setIfInBounds_toArray, List.set_cons_zero, List.set_cons_succ]
            refine wpAnyH_take (i := 10) (oi := { dst := some 127, op := Go.Op.move (Go.Operand.tmp 2), type := 23, pos := "law.go:135", after := #[{ on := 8, ground := Go.Ground.guard }], guard := some (8, true) }) (v := ?_) rfl (by kernel_rfl) (by kernel_rfl) (by kernel_rfl) (fun _ _ _ h => h) (Or.inl ⟨by rfl, ?_⟩) y125 ?_
            rotate_left
            · intro u hu
              have hu : Chg x116 u := hu
              go_simp
              try with_reducible rfl
            try simp only [Act.put, List.setIfInBounds_toArray, List.set_cons_zero, List.set_cons_succ]
            refine wpAnyH_take (i := 13) (oi := { dst := some 130, op := Go.Op.move (Go.Operand.tmp 0), type := 22, pos := "law.go:135", after := #[{ on := 8, ground := Go.Ground.guard }], guard := some (8, true) }) (v := ?_) rfl (by kernel_rfl) (by kernel_rfl) (by kernel_rfl) (fun _ _ _ h => h) (Or.inl ⟨by rfl, ?_⟩) y125 ?_
            rotate_left
            · intro u hu
              have hu : Chg x116 u := hu
              go_simp
              try with_reducible rfl
            try simp only [Act.put, List.setIfInBounds_toArray, List.set_cons_zero, List.set_cons_succ]
            refine wpAnyH_take (i := 15) (oi := { dst := some 132, op := Go.Op.move (Go.Operand.tmp 2), type := 23, pos := "law.go:135", after := #[{ on := 8, ground := Go.Ground.guard }], guard := some (8, true) }) (v := ?_) rfl (by kernel_rfl) (by kernel_rfl) (by kernel_rfl) (fun _ _ _ h => h) (Or.inl ⟨by rfl, ?_⟩) y125 ?_
            rotate_left
            · intro u hu
              have hu : Chg x116 u := hu
              go_simp
              try with_reducible rfl
            try simp only [Act.put, List.setIfInBounds_toArray, List.set_cons_zero, List.set_cons_succ]
            refine wpAnyH_take (i := 17) (oi := { dst := some 134, op := Go.Op.move (Go.Operand.tmp 11), type := 23, pos := "law.go:135", after := #[{ on := 8, ground := Go.Ground.guard }], guard := some (8, true) }) (v := ?_) rfl (by kernel_rfl) (by kernel_rfl) (by kernel_rfl) (fun _ _ _ h => h) (Or.inl ⟨by rfl, ?_⟩) y125 ?_
            rotate_left
            · intro u hu
              have hu : Chg x116 u := hu
              go_simp
              try with_reducible rfl
            try simp only [Act.put, List.setIfInBounds_toArray, List.set_cons_zero, List.set_cons_succ]
            refine wpAnyH_take (i := 18) (oi := { dst := some 135, op := Go.Op.move (Go.Operand.tmp 10), type := 3, pos := "law.go:135", after := #[{ on := 8, ground := Go.Ground.guard }], guard := some (8, true) }) (v := ?_) rfl (by kernel_rfl) (by kernel_rfl) (by kernel_rfl) (fun _ _ _ h => h) (Or.inl ⟨by rfl, ?_⟩) y125 ?_
            rotate_left
            · intro u hu
              have hu : Chg x116 u := hu
              go_simp
              try with_reducible rfl
            try simp only [Act.put, List.setIfInBounds_toArray, List.set_cons_zero, List.set_cons_succ]
            refine wpAnyH_take (i := 19) (oi := { dst := some 136, op := Go.Op.move (Go.Operand.tmp 2), type := 23, pos := "law.go:135", after := #[{ on := 8, ground := Go.Ground.guard }], guard := some (8, true) }) (v := ?_) rfl (by kernel_rfl) (by kernel_rfl) (by kernel_rfl) (fun _ _ _ h => h) (Or.inl ⟨by rfl, ?_⟩) y125 ?_
            rotate_left
            · intro u hu
              have hu : Chg x116 u := hu
              go_simp
              try with_reducible rfl
            try simp only [Act.put, List.setIfInBounds_toArray, List.set_cons_zero, List.set_cons_succ]
            refine wpAnyH_take (i := 20) (oi := { dst := some 137, op := Go.Op.call { callee := Go.Callee.builtin Go.Builtin.len, args := #[Go.Operand.tmp 136], argTypes := #[23] }, type := 3, pos := "law.go:135", after := #[{ on := 19, ground := Go.Ground.data }, { on := 8, ground := Go.Ground.guard }], guard := some (8, true) }) (v := ?_) rfl (by kernel_rfl) (by kernel_rfl) (by kernel_rfl) (fun _ _ _ h => h) (Or.inl ⟨by rfl, ?_⟩) y125 ?_
            rotate_left
            · intro u hu
              have hu : Chg x116 u := hu
              go_simp
              try with_reducible rfl
            try simp only [Act.put, List.setIfInBounds_toArray, List.set_cons_zero, List.set_cons_succ]
            refine wpAnyH_take (i := 21) (oi := { dst := some 138, op := Go.Op.call { callee := Go.Callee.builtin Go.Builtin.min, args := #[Go.Operand.const (Go.Value.int Go.IntKind.i64 1), Go.Operand.tmp 137], argTypes := #[3, 3] }, type := 3, pos := "law.go:135", after := #[{ on := 20, ground := Go.Ground.data }, { on := 8, ground := Go.Ground.guard }], guard := some (8, true) }) (v := ?_) rfl (by kernel_rfl) (by kernel_rfl) (by kernel_rfl) (fun _ _ _ h => h) (Or.inl ⟨by rfl, ?_⟩) y125 ?_
            rotate_left
            · intro u hu
              have hu : Chg x116 u := hu
              go_simp
              try with_reducible rfl
            try simp only [Act.put, List.setIfInBounds_toArray, List.set_cons_zero, List.set_cons_succ]
            refine wpAnyH_take (i := 22) (oi := { dst := some 139, op := Go.Op.binOp Go.BinOp.sub 3 (Go.Operand.const (Go.Value.int Go.IntKind.i64 1)) (Go.Operand.tmp 138) 3, type := 3, pos := "law.go:135", after := #[{ on := 21, ground := Go.Ground.data }, { on := 8, ground := Go.Ground.guard }], guard := some (8, true) }) (v := ?_) rfl (by kernel_rfl) (by kernel_rfl) (by kernel_rfl) (fun _ _ _ h => h) (Or.inl ⟨by rfl, ?_⟩) y125 ?_
            rotate_left
            · intro u hu
              have hu : Chg x116 u := hu
              go_simp
              try with_reducible rfl
            try simp only [Act.put, List.setIfInBounds_toArray, List.set_cons_zero, List.set_cons_succ]
            refine wpAnyH_take (i := 23) (oi := { dst := some 140, op := Go.Op.binOp Go.BinOp.mul 3 (Go.Operand.tmp 135) (Go.Operand.tmp 139) 3, type := 3, pos := "law.go:135", after := #[{ on := 18, ground := Go.Ground.data }, { on := 22, ground := Go.Ground.data }, { on := 8, ground := Go.Ground.guard }], guard := some (8, true) }) (v := ?_) rfl (by kernel_rfl) (by kernel_rfl) (by kernel_rfl) (fun _ _ _ h => h) (Or.inl ⟨by rfl, ?_⟩) y125 ?_
            rotate_left
            · intro u hu
              have hu : Chg x116 u := hu
              go_simp
              try with_reducible rfl
            try simp only [Act.put, List.setIfInBounds_toArray, List.set_cons_zero, List.set_cons_succ]
            refine wpAnyH_take (i := 24) (oi := { dst := some 141, op := Go.Op.call { callee := Go.Callee.builtin Go.Builtin.max, args := #[Go.Operand.const (Go.Value.int Go.IntKind.i64 0), Go.Operand.tmp 140], argTypes := #[3, 3] }, type := 3, pos := "law.go:135", after := #[{ on := 23, ground := Go.Ground.data }, { on := 8, ground := Go.Ground.guard }], guard := some (8, true) }) (v := ?_) rfl (by kernel_rfl) (by kernel_rfl) (by kernel_rfl) (fun _ _ _ h => h) (Or.inl ⟨by rfl, ?_⟩) y125 ?_
            rotate_left
            · intro u hu
              have hu : Chg x116 u := hu
              go_simp
              try with_reducible rfl
            try simp only [Act.put, List.setIfInBounds_toArray, List.set_cons_zero, List.set_cons_succ]
            refine wpAnyH_take (i := 25) (oi := { dst := some 142, op := Go.Op.slice 23 (Go.Operand.tmp 134) none (some (Go.Operand.tmp 141)) none, type := 23, pos := "law.go:135", after := #[{ on := 17, ground := Go.Ground.data }, { on := 24, ground := Go.Ground.data }, { on := 8, ground := Go.Ground.guard }], guard := some (8, true) }) (v := ?_) rfl (by kernel_rfl) (by kernel_rfl) (by kernel_rfl) (fun _ _ _ h => h) (Or.inl ⟨by rfl, ?_⟩) y125 ?_
            rotate_left
            · intro u hu
              have hu : Chg x116 u := hu
              go_simp
              try with_reducible rfl
            try simp only [Act.put, List.setIfInBounds_toArray, List.set_cons_zero, List.set_cons_succ]
            refine wpAnyH_ready (rs := [11, 14]) (by kernel_rfl) (by simp) ?_
            refine AllReadyH.cons (o := { dst := some 128, op := Go.Op.call { callee := Go.Callee.value (Go.Operand.func 22), args := #[Go.Operand.tmp 126, Go.Operand.tmp 127], argTypes := #[22, 23] }, type := 23, pos := "law.go:135", after := #[{ on := 9, ground := Go.Ground.data }, { on := 10, ground := Go.Ground.data }, { on := 8, ground := Go.Ground.chain }, { on := 8, ground := Go.Ground.guard }], guard := some (8, true) }) rfl (fun K hK => ?_) ?_
            · skip
              go_simp
              go_at_call 22
              refine (HYS.out x116 c122).mono ?_
              rintro e x126 ⟨o129, m130, n131, rfl, s127, r128⟩
              have c132 : Chg W0 x126 := c122.trans s127
              have t134 := TxV.of r128
              have y133 : Chg x116 x126 := y125.trans s127
              refine hK.out _ _ y133 (fun _ => wpAnyH_imp (S' := fun u => Chg x126 u) (fun u hu => y133.trans hu) _ _ _ _ ?_)
              have y135 : Chg x126 x126 := Chg.refl _
              clear hK K
              try simp only [Act.put, List.setIfInBounds_toArray, List.set_cons_zero, List.set_cons_succ]
              refine wpAnyH_take (i := 12) (oi := { dst := some 129, op := Go.Op.convert 23 9 (Go.Operand.tmp 128), type := 9, pos := "law.go:135", after := #[{ on := 11, ground := Go.Ground.data }, { on := 8, ground := Go.Ground.guard }], guard := some (8, true) }) (v := ?_) rfl (by kernel_rfl) (by kernel_rfl) (by kernel_rfl) (fun _ _ _ h => h) (Or.inl ⟨by rfl, ?_⟩) y135 ?_
              rotate_left
              · intro u hu
                have hu : Chg x126 u := hu
                have hcv := t134 u hu
                go_simp
                try with_reducible rfl
              try simp only [Act.put, List.setIfInBounds_toArray, List.set_cons_zero, List.set_cons_succ]
              refine wpAnyH_ready (rs := [14]) (by kernel_rfl) (by simp) ?_
              refine AllReadyH.cons (o := { dst := some 131, op := Go.Op.buildSlice 23 0 #[], type := 23, pos := "law.go:135", after := #[{ on := 8, ground := Go.Ground.guard }], guard := some (8, true) }) rfl (fun K hK => ?_) ?_
              · skip
                go_simp
                obtain ⟨x136, e137⟩ : ∃ x, x = x126.alloc (.cells #[] 5) := ⟨_, rfl⟩
                have s140 : Chg x126 x136 := by rw [e137]; exact (Chg.refl _).alloc _
                have c138 : Chg W0 x136 := c132.trans s140
                have h141 : x136.heap[x126.heap.size]? = some (.cells #[] 5 (0, 0)) := by rw [e137]; exact heap_alloc_last _ _
                have w142 : Ap.OwnV x136 (.slice (some ⟨x126.heap.size, 0, none⟩) 0 0) [] := by rw [e137]; exact OwnV.empty _
                have g143 : W0.heap.size ≤ x126.heap.size := c132.size
                have g144 : x126.heap.size ≤ x126.heap.size := y135.size
                have y139 : Chg x126 x136 := y135.trans s140
                rw [← e137]
                clear e137
                refine hK.out _ _ y139 (fun _ => ?_)
                clear hK K
                try simp only [Act.put, List.setIfInBounds_toArray, List.set_cons_zero, List.set_cons_succ]
                refine wpAnyH_ready (rs := [16]) (by kernel_rfl) (by simp) ?_
                refine AllReadyH.cons (o := { dst := some 133, op := Go.Op.call { callee := Go.Callee.builtin Go.Builtin.append, args := #[Go.Operand.tmp 131, Go.Operand.tmp 132], argTypes := #[23, 23] }, type := 23, pos := "law.go:135", after := #[{ on := 14, ground := Go.Ground.data }, { on := 15, ground := Go.Ground.data }, { on := 11, ground := Go.Ground.chain }, { on := 8, ground := Go.Ground.guard }], guard := some (8, true) }) rfl (fun K hK => ?_) ?_
                · skip
                  refine step_appG rfl (.tmp 131) (.tmp 132) rfl (.slice (some ⟨x126.heap.size, 0, none⟩) 0 0) (.slice ho 0 hc) [] shared rfl rfl w142 (HRH.out _ c138) (by have := HLH.out.1; simp only [List.length_nil]; omega) ?_
                  intro v146 x145 r147 q148 q149
                  obtain ⟨o152, m153, n154, rfl, -⟩ := r147.rd.shape
                  have k155 : ∀ k, ((.slice (some ⟨x126.heap.size, 0, none⟩) 0 0) : Value).ownBlock = some k → k = x126.heap.size := fun k e => by simp [Value.ownBlock] at e; exact e.symm
                  have c150 : Chg W0 x145 := Chg.ap c138 q148 (fun i e => by have := k155 i e; have := g143; omega)
                  have y151 : Chg x126 x145 := Chg.ap y139 q148 (fun i e => by have := k155 i e; have := g144; omega)
                  have g156 : W0.heap.size ≤ x136.heap.size := c138.size
                  have g157 : x126.heap.size ≤ x136.heap.size := y139.size
                  have q159 : Hid _ := q149
                  clear q148 q149 k155
                  refine hK.out _ _ y151 (fun _ => ?_)
                  clear hK K
                  try simp only [Act.put, List.setIfInBounds_toArray, List.set_cons_zero, List.set_cons_succ]
                  refine wpAnyH_ready (rs := [26]) (by kernel_rfl) (by simp) ?_
                  refine AllReadyH.cons (o := { dst := some 143, op := Go.Op.call { callee := Go.Callee.builtin Go.Builtin.append, args := #[Go.Operand.tmp 133, Go.Operand.tmp 142], argTypes := #[23, 23] }, type := 23, pos := "law.go:135", after := #[{ on := 16, ground := Go.Ground.data }, { on := 25, ground := Go.Ground.data }, { on := 16, ground := Go.Ground.chain }, { on := 8, ground := Go.Ground.guard }], guard := some (8, true) }) rfl (fun K hK => ?_) ?_
                  · skip
                    refine step_appG rfl (.tmp 133) (.tmp 142) rfl (.slice o152 m153 n154) (.slice (some ⟨Z, 0, none⟩) S S) ([] ++ shared) (zer S) rfl rfl r147 (HRZ.out _ c150) (by have := HLH.out.1; have := HS.out.2; simp only [List.nil_append]; rw [zer_len]; omega) ?_
                    intro v161 x160 r162 q163 q164
                    obtain ⟨o167, m168, n169, rfl, -⟩ := r162.rd.shape
                    have k170 : ∀ k, ((.slice o152 m153 n154) : Value).ownBlock = some k → k = x126.heap.size ∨ k = x136.heap.size := fun k e => by rcases q159.out with q | q <;> rw [q] at e <;> simp [Value.ownBlock] at e <;> omega
                    have c165 : Chg W0 x160 := Chg.ap c150 q163 (fun i e => by have := k170 i e; have := g143; have := g156; omega)
                    have y166 : Chg x126 x160 := Chg.ap y151 q163 (fun i e => by have := k170 i e; have := g144; have := g157; omega)
                    clear q163 q164 k170 q159 r147
                    refine hK.out _ _ y166 (fun _ => ?_)
                    clear hK K
                    try simp only [Act.put, List.setIfInBounds_toArray, List.set_cons_zero, List.set_cons_succ]
                    refine wpAnyH_ready (rs := [27]) (by kernel_rfl) (by simp) ?_
                    refine AllReadyH.cons (o := { dst := some 144, op := Go.Op.call { callee := Go.Callee.value (Go.Operand.func 27), args := #[Go.Operand.tmp 130, Go.Operand.const (Go.Value.slice none 0 0), Go.Operand.tmp 143], argTypes := #[22, 23, 23] }, type := 23, pos := "law.go:135", after := #[{ on := 13, ground := Go.Ground.data }, { on := 26, ground := Go.Ground.data }, { on := 26, ground := Go.Ground.chain }, { on := 8, ground := Go.Ground.guard }], guard := some (8, true) }) rfl (fun K hK => ?_) ?_
                    · skip
                      go_simp
                      go_at_call 27
                      refine (HEXS.out x160 _ c165 r162.rd).mono ?_
                      rintro e x171 ⟨o174, m175, n176, rfl, s172, r173⟩
                      have c177 : Chg W0 x171 := c165.trans s172
                      have t179 := TxV.of r173
                      have y178 : Chg x126 x171 := y166.trans s172
                      refine hK.out _ _ y178 (fun _ => wpAnyH_imp (S' := fun u => Chg x171 u) (fun u hu => y178.trans hu) _ _ _ _ ?_)
                      have y180 : Chg x171 x171 := Chg.refl _
                      clear hK K
                      try simp only [Act.put, List.setIfInBounds_toArray, List.set_cons_zero, List.set_cons_succ]
                      refine wpAnyH_take (i := 28) (oi := { dst := some 145, op := Go.Op.convert 23 9 (Go.Operand.tmp 144), type := 9, pos := "law.go:135", after := #[{ on := 27, ground := Go.Ground.data }, { on := 8, ground := Go.Ground.guard }], guard := some (8, true) }) (v := ?_) rfl (by kernel_rfl) (by kernel_rfl) (by kernel_rfl) (fun _ _ _ h => h) (Or.inl ⟨by rfl, ?_⟩) y180 ?_
                      rotate_left
                      · intro u hu
                        have hu : Chg x171 u := hu
                        have hcv := t179 u hu
                        go_simp
                        try with_reducible rfl
                      try simp only [Act.put, List.setIfInBounds_toArray, List.set_cons_zero, List.set_cons_succ]
                      refine wpAnyH_take (i := 29) (oi := { dst := some 146, op := Go.Op.binOp Go.BinOp.eql 9 (Go.Operand.tmp 129) (Go.Operand.tmp 145) 9, type := 4, pos := "law.go:135", after := #[{ on := 12, ground := Go.Ground.data }, { on := 28, ground := Go.Ground.data }, { on := 8, ground := Go.Ground.guard }], guard := some (8, true) }) (v := ?_) rfl (by kernel_rfl) (by kernel_rfl) (by kernel_rfl) (fun _ _ _ h => h) (Or.inl ⟨by rfl, ?_⟩) y180 ?_
                      rotate_left
                      · intro u hu
                        have hu : Chg x171 u := hu
                        go_simp
                        try with_reducible rfl
                      try simp only [Act.put, List.setIfInBounds_toArray, List.set_cons_zero, List.set_cons_succ]
                      refine wpAnyH_take (i := 30) (oi := { dst := some 147, op := Go.Op.pick (Go.Operand.tmp 125) (Go.Operand.tmp 146) (Go.Operand.const (Go.Value.bool false)), type := 4, pos := "law.go:135", after := #[{ on := 8, ground := Go.Ground.data }, { on := 29, ground := Go.Ground.data }], guard := none }) (v := ?_) rfl (by kernel_rfl) (by kernel_rfl) (by kernel_rfl) (fun _ _ _ h => h) (Or.inl ⟨by rfl, ?_⟩) y180 ?_
                      rotate_left
                      · intro u hu
                        have hu : Chg x171 u := hu
                        go_simp
                        try with_reducible rfl
                      try simp only [Act.put, List.setIfInBounds_toArray, List.set_cons_zero, List.set_cons_succ]
                      refine wpAnyH_take (i := 31) (oi := { dst := some 19, op := Go.Op.assign (Go.Operand.tmp 147), type := 4, pos := "law.go:135", after := #[{ on := 30, ground := Go.Ground.data }, { on := 27, ground := Go.Ground.chain }, { on := 0, ground := Go.Ground.phase }, { on := 1, ground := Go.Ground.phase }, { on := 2, ground := Go.Ground.phase }, { on := 3, ground := Go.Ground.phase }, { on := 4, ground := Go.Ground.phase }, { on := 5, ground := Go.Ground.phase }, { on := 6, ground := Go.Ground.phase }, { on := 7, ground := Go.Ground.phase }, { on := 8, ground := Go.Ground.phase }, { on := 9, ground := Go.Ground.phase }, { on := 10, ground := Go.Ground.phase }, { on := 11, ground := Go.Ground.phase }, { on := 12, ground := Go.Ground.phase }, { on := 13, ground := Go.Ground.phase }, { on := 14, ground := Go.Ground.phase }, { on := 15, ground := Go.Ground.phase }, { on := 16, ground := Go.Ground.phase }, { on := 17, ground := Go.Ground.phase }, { on := 18, ground := Go.Ground.phase }, { on := 19, ground := Go.Ground.phase }, { on := 20, ground := Go.Ground.phase }, { on := 21, ground := Go.Ground.phase }, { on := 22, ground := Go.Ground.phase }, { on := 23, ground := Go.Ground.phase }, { on := 24, ground := Go.Ground.phase }, { on := 25, ground := Go.Ground.phase }, { on := 26, ground := Go.Ground.phase }, { on := 27, ground := Go.Ground.phase }, { on := 28, ground := Go.Ground.phase }, { on := 29, ground := Go.Ground.phase }, { on := 30, ground := Go.Ground.phase }], guard := none }) (v := ?_) rfl (by kernel_rfl) (by kernel_rfl) (by kernel_rfl) (fun _ _ _ h => h) (Or.inl ⟨by rfl, ?_⟩) y180 ?_
                      rotate_left
                      · intro u hu
                        have hu : Chg x171 u := hu
                        go_simp
                        try with_reducible rfl
                      try simp only [Act.put, List.setIfInBounds_toArray, List.set_cons_zero, List.set_cons_succ]
                      refine wpAnyH_done (by kernel_rfl) ?_ _
                      go_wp2_with fail
                      go_meet
                      case rel => exact ⟨rfl, c177⟩
                    exact AllReadyH.nil
                  exact AllReadyH.nil
                exact AllReadyH.nil
              exact AllReadyH.nil
            refine AllReadyH.cons (o := { dst := some 131, op := Go.Op.buildSlice 23 0 #[], type := 23, pos := "law.go:135", after := #[{ on := 8, ground := Go.Ground.guard }], guard := some (8, true) }) rfl (fun K hK => ?_) ?_
            · skip
              go_simp
              obtain ⟨x181, e182⟩ : ∃ x, x = x116.alloc (.cells #[] 5) := ⟨_, rfl⟩
              have s185 : Chg x116 x181 := by rw [e182]; exact (Chg.refl _).alloc _
              have c183 : Chg W0 x181 := c122.trans s185
              have h186 : x181.heap[x116.heap.size]? = some (.cells #[] 5 (0, 0)) := by rw [e182]; exact heap_alloc_last _ _
              have w187 : Ap.OwnV x181 (.slice (some ⟨x116.heap.size, 0, none⟩) 0 0) [] := by rw [e182]; exact OwnV.empty _
              have g188 : W0.heap.size ≤ x116.heap.size := c122.size
              have g189 : x116.heap.size ≤ x116.heap.size := y125.size
              have y184 : Chg x116 x181 := y125.trans s185
              rw [← e182]
              clear e182
              refine hK.out _ _ y184 (fun _ => ?_)
              clear hK K
              try simp only [Act.put, List.setIfInBounds_toArray, List.set_cons_zero, List.set_cons_succ]
              refine wpAnyH_ready (rs := [11]) (by kernel_rfl) (by simp) ?_
              refine AllReadyH.cons (o := { dst := some 128, op := Go.Op.call { callee := Go.Callee.value (Go.Operand.func 22), args := #[Go.Operand.tmp 126, Go.Operand.tmp 127], argTypes := #[22, 23] }, type := 23, pos := "law.go:135", after := #[{ on := 9, ground := Go.Ground.data }, { on := 10, ground := Go.Ground.data }, { on := 8, ground := Go.Ground.chain }, { on := 8, ground := Go.Ground.guard }], guard := some (8, true) }) rfl (fun K hK => ?_) ?_
              · skip
                go_simp
                go_at_call 22
                refine (HYS.out x181 c183).mono ?_
                rintro e x190 ⟨o193, m194, n195, rfl, s191, r192⟩
                have c196 : Chg W0 x190 := c183.trans s191
                have t198 := TxV.of r192
                have h199 := (s191.block _ (lt_blk h186)).trans h186
                have w200 := OwnV.chg w187 s191
                have y197 : Chg x116 x190 := y184.trans s191
                have y201 : Ap.Chg (fun k => k = x116.heap.size) x190 x190 := Ap.Chg.refl _ _
                refine hK.out _ _ y197 (fun _ => wpAnyH_imp (S' := fun u => Ap.Chg (fun k => k = x116.heap.size) x190 u) (fun u hu => Chg.ap y197 hu (fun i e => by subst e; exact g189)) _ _ _ _ ?_)
                clear hK K
                try simp only [Act.put, List.setIfInBounds_toArray, List.set_cons_zero, List.set_cons_succ]
                refine wpAnyH_take (i := 12) (oi := { dst := some 129, op := Go.Op.convert 23 9 (Go.Operand.tmp 128), type := 9, pos := "law.go:135", after := #[{ on := 11, ground := Go.Ground.data }, { on := 8, ground := Go.Ground.guard }], guard := some (8, true) }) (v := ?_) rfl (by kernel_rfl) (by kernel_rfl) (by kernel_rfl) (fun _ _ _ h => h) (Or.inl ⟨by rfl, ?_⟩) y201 ?_
                rotate_left
                · intro u hu
                  have hu : Ap.Chg (fun k => k = x116.heap.size) x190 u := hu
                  have hcv := run_strE r192 h199 hu
                  go_simp
                  try with_reducible rfl
                try simp only [Act.put, List.setIfInBounds_toArray, List.set_cons_zero, List.set_cons_succ]
                refine wpAnyH_ready (rs := [16]) (by kernel_rfl) (by simp) ?_
                refine AllReadyH.cons (o := { dst := some 133, op := Go.Op.call { callee := Go.Callee.builtin Go.Builtin.append, args := #[Go.Operand.tmp 131, Go.Operand.tmp 132], argTypes := #[23, 23] }, type := 23, pos := "law.go:135", after := #[{ on := 14, ground := Go.Ground.data }, { on := 15, ground := Go.Ground.data }, { on := 11, ground := Go.Ground.chain }, { on := 8, ground := Go.Ground.guard }], guard := some (8, true) }) rfl (fun K hK => ?_) ?_
                · skip
                  refine step_appG rfl (.tmp 131) (.tmp 132) rfl (.slice (some ⟨x116.heap.size, 0, none⟩) 0 0) (.slice ho 0 hc) [] shared rfl rfl w200 (HRH.out _ c196) (by have := HLH.out.1; simp only [List.length_nil]; omega) ?_
                  intro v203 x202 r204 q205 q206
                  obtain ⟨o209, m210, n211, rfl, -⟩ := r204.rd.shape
                  have k212 : ∀ k, ((.slice (some ⟨x116.heap.size, 0, none⟩) 0 0) : Value).ownBlock = some k → k = x116.heap.size := fun k e => by simp [Value.ownBlock] at e; exact e.symm
                  have c207 : Chg W0 x202 := Chg.ap c196 q205 (fun i e => by have := k212 i e; have := g188; omega)
                  have y208 : Ap.Chg (fun k => k = x116.heap.size) x190 x202 := y201.trans q205 (fun i hi e => by have := k212 i e; omega)
                  have g213 : W0.heap.size ≤ x190.heap.size := c196.size
                  have q216 : Hid _ := q206
                  clear q205 q206 k212
                  refine hK.out _ _ y208 (fun _ => ?_)
                  clear hK K
                  try simp only [Act.put, List.setIfInBounds_toArray, List.set_cons_zero, List.set_cons_succ]
                  refine wpAnyH_ready (rs := [26]) (by kernel_rfl) (by simp) ?_
                  refine AllReadyH.cons (o := { dst := some 143, op := Go.Op.call { callee := Go.Callee.builtin Go.Builtin.append, args := #[Go.Operand.tmp 133, Go.Operand.tmp 142], argTypes := #[23, 23] }, type := 23, pos := "law.go:135", after := #[{ on := 16, ground := Go.Ground.data }, { on := 25, ground := Go.Ground.data }, { on := 16, ground := Go.Ground.chain }, { on := 8, ground := Go.Ground.guard }], guard := some (8, true) }) rfl (fun K hK => ?_) ?_
                  · skip
                    refine step_appG rfl (.tmp 133) (.tmp 142) rfl (.slice o209 m210 n211) (.slice (some ⟨Z, 0, none⟩) S S) ([] ++ shared) (zer S) rfl rfl r204 (HRZ.out _ c207) (by have := HLH.out.1; have := HS.out.2; simp only [List.nil_append]; rw [zer_len]; omega) ?_
                    intro v218 x217 r219 q220 q221
                    obtain ⟨o224, m225, n226, rfl, -⟩ := r219.rd.shape
                    have k227 : ∀ k, ((.slice o209 m210 n211) : Value).ownBlock = some k → k = x116.heap.size ∨ k = x190.heap.size := fun k e => by rcases q216.out with q | q <;> rw [q] at e <;> simp [Value.ownBlock] at e <;> omega
                    have c222 : Chg W0 x217 := Chg.ap c207 q220 (fun i e => by have := k227 i e; have := g188; have := g213; omega)
                    have y223 : Ap.Chg (fun k => k = x116.heap.size) x190 x217 := y208.trans q220 (fun i hi e => by have := k227 i e; have : x190.heap.size ≤ x190.heap.size := y201.size; omega)
                    clear q220 q221 k227 q216 r204
                    refine hK.out _ _ y223 (fun _ => ?_)
                    clear hK K
                    try simp only [Act.put, List.setIfInBounds_toArray, List.set_cons_zero, List.set_cons_succ]
                    refine wpAnyH_ready (rs := [27]) (by kernel_rfl) (by simp) ?_
                    refine AllReadyH.cons (o := { dst := some 144, op := Go.Op.call { callee := Go.Callee.value (Go.Operand.func 27), args := #[Go.Operand.tmp 130, Go.Operand.const (Go.Value.slice none 0 0), Go.Operand.tmp 143], argTypes := #[22, 23, 23] }, type := 23, pos := "law.go:135", after := #[{ on := 13, ground := Go.Ground.data }, { on := 26, ground := Go.Ground.data }, { on := 26, ground := Go.Ground.chain }, { on := 8, ground := Go.Ground.guard }], guard := some (8, true) }) rfl (fun K hK => ?_) ?_
                    · skip
                      go_simp
                      go_at_call 27
                      refine (HEXS.out x217 _ c222 r219.rd).mono ?_
                      rintro e x228 ⟨o231, m232, n233, rfl, s229, r230⟩
                      have c234 : Chg W0 x228 := c222.trans s229
                      have t236 := TxV.of r230
                      have y235 : Ap.Chg (fun k => k = x116.heap.size) x190 x228 := y223.trans s229.toAp (fun _ _ e => e.elim)
                      refine hK.out _ _ y235 (fun _ => wpAnyH_imp (S' := fun u => Chg x228 u ∧ Ap.Chg (fun k => k = x116.heap.size) x190 u) (fun u hu => hu.2) _ _ _ _ ?_)
                      have y237 : Chg x228 x228 ∧ Ap.Chg (fun k => k = x116.heap.size) x190 x228 := ⟨Chg.refl _, y235⟩
                      clear hK K
                      try simp only [Act.put, List.setIfInBounds_toArray, List.set_cons_zero, List.set_cons_succ]
                      refine wpAnyH_take (i := 28) (oi := { dst := some 145, op := Go.Op.convert 23 9 (Go.Operand.tmp 144), type := 9, pos := "law.go:135", after := #[{ on := 27, ground := Go.Ground.data }, { on := 8, ground := Go.Ground.guard }], guard := some (8, true) }) (v := ?_) rfl (by kernel_rfl) (by kernel_rfl) (by kernel_rfl) (fun _ _ _ h => h) (Or.inl ⟨by rfl, ?_⟩) y237 ?_
                      rotate_left
                      · intro u hu
                        have hu : (fun u => Chg x228 u ∧ Ap.Chg (fun k => k = x116.heap.size) x190 u) u := hu
                        have hcv := t236 u hu.1
                        go_simp
                        try with_reducible rfl
                      try simp only [Act.put, List.setIfInBounds_toArray, List.set_cons_zero, List.set_cons_succ]
                      refine wpAnyH_take (i := 29) (oi := { dst := some 146, op := Go.Op.binOp Go.BinOp.eql 9 (Go.Operand.tmp 129) (Go.Operand.tmp 145) 9, type := 4, pos := "law.go:135", after := #[{ on := 12, ground := Go.Ground.data }, { on := 28, ground := Go.Ground.data }, { on := 8, ground := Go.Ground.guard }], guard := some (8, true) }) (v := ?_) rfl (by kernel_rfl) (by kernel_rfl) (by kernel_rfl) (fun _ _ _ h => h) (Or.inl ⟨by rfl, ?_⟩) y237 ?_
                      rotate_left
                      · intro u hu
                        have hu : (fun u => Chg x228 u ∧ Ap.Chg (fun k => k = x116.heap.size) x190 u) u := hu
                        go_simp
                        try with_reducible rfl
                      try simp only [Act.put, List.setIfInBounds_toArray, List.set_cons_zero, List.set_cons_succ]
                      refine wpAnyH_take (i := 30) (oi := { dst := some 147, op := Go.Op.pick (Go.Operand.tmp 125) (Go.Operand.tmp 146) (Go.Operand.const (Go.Value.bool false)), type := 4, pos := "law.go:135", after := #[{ on := 8, ground := Go.Ground.data }, { on := 29, ground := Go.Ground.data }], guard := none }) (v := ?_) rfl (by kernel_rfl) (by kernel_rfl) (by kernel_rfl) (fun _ _ _ h => h) (Or.inl ⟨by rfl, ?_⟩) y237 ?_
                      rotate_left
                      · intro u hu
                        have hu : (fun u => Chg x228 u ∧ Ap.Chg (fun k => k = x116.heap.size) x190 u) u := hu
                        go_simp
                        try with_reducible rfl
                      try simp only [Act.put, List.setIfInBounds_toArray, List.set_cons_zero, List.set_cons_succ]
                      refine wpAnyH_take (i := 31) (oi := { dst := some 19, op := Go.Op.assign (Go.Operand.tmp 147), type := 4, pos := "law.go:135", after := #[{ on := 30, ground := Go.Ground.data }, { on := 27, ground := Go.Ground.chain }, { on := 0, ground := Go.Ground.phase }, { on := 1, ground := Go.Ground.phase }, { on := 2, ground := Go.Ground.phase }, { on := 3, ground := Go.Ground.phase }, { on := 4, ground := Go.Ground.phase }, { on := 5, ground := Go.Ground.phase }, { on := 6, ground := Go.Ground.phase }, { on := 7, ground := Go.Ground.phase }, { on := 8, ground := Go.Ground.phase }, { on := 9, ground := Go.Ground.phase }, { on := 10, ground := Go.Ground.phase }, { on := 11, ground := Go.Ground.phase }, { on := 12, ground := Go.Ground.phase }, { on := 13, ground := Go.Ground.phase }, { on := 14, ground := Go.Ground.phase }, { on := 15, ground := Go.Ground.phase }, { on := 16, ground := Go.Ground.phase }, { on := 17, ground := Go.Ground.phase }, { on := 18, ground := Go.Ground.phase }, { on := 19, ground := Go.Ground.phase }, { on := 20, ground := Go.Ground.phase }, { on := 21, ground := Go.Ground.phase }, { on := 22, ground := Go.Ground.phase }, { on := 23, ground := Go.Ground.phase }, { on := 24, ground := Go.Ground.phase }, { on := 25, ground := Go.Ground.phase }, { on := 26, ground := Go.Ground.phase }, { on := 27, ground := Go.Ground.phase }, { on := 28, ground := Go.Ground.phase }, { on := 29, ground := Go.Ground.phase }, { on := 30, ground := Go.Ground.phase }], guard := none }) (v := ?_) rfl (by kernel_rfl) (by kernel_rfl) (by kernel_rfl) (fun _ _ _ h => h) (Or.inl ⟨by rfl, ?_⟩) y237 ?_
                      rotate_left
                      · intro u hu
                        have hu : (fun u => Chg x228 u ∧ Ap.Chg (fun k => k = x116.heap.size) x190 u) u := hu
                        go_simp
                        try with_reducible rfl
                      try simp only [Act.put, List.setIfInBounds_toArray, List.set_cons_zero, List.set_cons_succ]
                      refine wpAnyH_done (by kernel_rfl) ?_ _
                      go_wp2_with fail
                      go_meet
                      case rel => exact ⟨rfl, c234⟩
                    exact AllReadyH.nil
                  exact AllReadyH.nil
                exact AllReadyH.nil
              exact AllReadyH.nil
            exact AllReadyH.nil
          exact AllReadyH.nil
        exact AllReadyH.nil
      · have hsh : ¬ shared.length = 0 := by rw [← HLH.out.2.1]; exact hm0
        have HEXS : Hid (∀ u v, Chg W0 u → Ap.Rd u v (([] ++ shared) ++ []) → Calls Tryd.prog 27 #[.int .i64 q, .slice none 0 0, v] u fun e w' => RL (earlyL q shared) u w' e) := fun u v hu hr => by
          have h := HEX.out u v _ hu hr (by simp only [List.nil_append, List.append_nil]; have := HLH.out.1; omega)
          have e : earlyL q shared = macL q [] (([] ++ shared) ++ []) := by
            rw [mac_salt]
            unfold earlyL
            rw [if_neg hsh, List.nil_append, List.append_nil]
          rw [e]
          exact h
        have HRZ0 : Hid (∀ u, Chg W0 u → Ap.Rd u (.slice (some ⟨Z, 0, none⟩) 0 S) []) := fun u hu => by
          have h := Rd.take (HRZ.out u hu) (Nat.zero_le S)
          rw [List.take_zero] at h
          exact h
        have hmin : min (1 : Int) (hm : Int) = 1 := by omega
        have hmle : (1 : Int) ≤ (hm : Int) := by omega
        have hmul : (S : Int) * 0 = 0 := Int.mul_zero _
        have w00 : IntKind.i64.wrap 0 = 0 := rfl
        have w11 : IntKind.i64.wrap (1 - 1) = 0 := rfl
        have hlt1 : ¬ ((hm : Int) < 1) := by omega
        clear hsh
        have c0 : Chg W0 wc.drew := KC.out.drew
        refine wp_region_held_drew (S := fun u => Chg W0 u) (by kernel_rfl) c0 (fun _ => ?_)
        generalize wc.drew = WD at c0 ⊢
        refine wpAnyH_take (i := 0) (oi := { dst := some 117, op := Go.Op.move (Go.Operand.tmp 0), type := 22, pos := "law.go:135", after := #[], guard := none }) (v := ?_) rfl (by kernel_rfl) (by kernel_rfl) (by kernel_rfl) (fun _ _ _ h => h) (Or.inl ⟨by rfl, ?_⟩) c0 ?_
        rotate_left
        · intro u hu
          have hu : Chg W0 u := hu
          go_simp
          try with_reducible rfl
        try simp only [Act.put, List.setIfInBounds_toArray, List.set_cons_zero, List.set_cons_succ]
        refine wpAnyH_take (i := 3) (oi := { dst := some 120, op := Go.Op.move (Go.Operand.tmp 0), type := 22, pos := "law.go:135", after := #[], guard := none }) (v := ?_) rfl (by kernel_rfl) (by kernel_rfl) (by kernel_rfl) (fun _ _ _ h => h) (Or.inl ⟨by rfl, ?_⟩) c0 ?_
        rotate_left
        · intro u hu
          have hu : Chg W0 u := hu
          go_simp
          try with_reducible rfl
        try simp only [Act.put, List.setIfInBounds_toArray, List.set_cons_zero, List.set_cons_succ]
        refine wpAnyH_take (i := 4) (oi := { dst := some 121, op := Go.Op.move (Go.Operand.tmp 11), type := 23, pos := "law.go:135", after := #[], guard := none }) (v := ?_) rfl (by kernel_rfl) (by kernel_rfl) (by kernel_rfl) (fun _ _ _ h => h) (Or.inl ⟨by rfl, ?_⟩) c0 ?_
        rotate_left
        · intro u hu
          have hu : Chg W0 u := hu
          go_simp
          try with_reducible rfl
        try simp only [Act.put, List.setIfInBounds_toArray, List.set_cons_zero, List.set_cons_succ]
        refine wpAnyH_ready (rs := [1]) (by kernel_rfl) (by simp) ?_
        refine AllReadyH.cons (o := { dst := some 118, op := Go.Op.call { callee := Go.Callee.value (Go.Operand.func 22), args := #[Go.Operand.tmp 117, Go.Operand.const (Go.Value.slice none 0 0)], argTypes := #[22, 23] }, type := 23, pos := "law.go:135", after := #[{ on := 0, ground := Go.Ground.data }], guard := none }) rfl (fun K hK => ?_) ?_
        · skip
          go_simp
          go_at_call 22
          refine (HY0.out WD c0).mono ?_
          rintro e x238 ⟨o241, m242, n243, rfl, s239, r240⟩
          have c244 : Chg W0 x238 := c0.trans s239
          have t246 := TxV.of r240
          have y245 : Chg W0 x238 := c0.trans s239
          refine hK.out _ _ y245 (fun _ => wpAnyH_imp (S' := fun u => Chg x238 u) (fun u hu => y245.trans hu) _ _ _ _ ?_)
          have y247 : Chg x238 x238 := Chg.refl _
          clear hK K
          try simp only [Act.put, List.setIfInBounds_toArray, List.set_cons_zero, List.set_cons_succ]
          refine wpAnyH_take (i := 2) (oi := { dst := some 119, op := Go.Op.convert 23 9 (Go.Operand.tmp 118), type := 9, pos := "law.go:135", after := #[{ on := 1, ground := Go.Ground.data }], guard := none }) (v := ?_) rfl (by kernel_rfl) (by kernel_rfl) (by kernel_rfl) (fun _ _ _ h => h) (Or.inl ⟨by rfl, ?_⟩) y247 ?_
          rotate_left
          · intro u hu
            have hu : Chg x238 u := hu
            have hcv := t246 u hu
            go_simp
            try with_reducible rfl
          try simp only [Act.put, List.setIfInBounds_toArray, List.set_cons_zero, List.set_cons_succ]
          refine wpAnyH_ready (rs := [5]) (by kernel_rfl) (by simp) ?_
          refine AllReadyH.cons (o := { dst := some 122, op := Go.Op.call { callee := Go.Callee.value (Go.Operand.func 22), args := #[Go.Operand.tmp 120, Go.Operand.tmp 121], argTypes := #[22, 23] }, type := 23, pos := "law.go:135", after := #[{ on := 3, ground := Go.Ground.data }, { on := 4, ground := Go.Ground.data }, { on := 1, ground := Go.Ground.chain }], guard := none }) rfl (fun K hK => ?_) ?_
          · skip
            go_simp
            go_at_call 22
            refine (HYZ.out x238 c244).mono ?_
            rintro e x248 ⟨o251, m252, n253, rfl, s249, r250⟩
            have c254 : Chg W0 x248 := c244.trans s249
            have t256 := TxV.of r250
            have y255 : Chg x238 x248 := y247.trans s249
            refine hK.out _ _ y255 (fun _ => wpAnyH_imp (S' := fun u => Chg x248 u) (fun u hu => y255.trans hu) _ _ _ _ ?_)
            have y257 : Chg x248 x248 := Chg.refl _
            clear hK K
            try simp only [Act.put, List.setIfInBounds_toArray, List.set_cons_zero, List.set_cons_succ]
            refine wpAnyH_take (i := 6) (oi := { dst := some 123, op := Go.Op.convert 23 9 (Go.Operand.tmp 122), type := 9, pos := "law.go:135", after := #[{ on := 5, ground := Go.Ground.data }], guard := none }) (v := ?_) rfl (by kernel_rfl) (by kernel_rfl) (by kernel_rfl) (fun _ _ _ h => h) (Or.inl ⟨by rfl, ?_⟩) y257 ?_
            rotate_left
            · intro u hu
              have hu : Chg x248 u := hu
              have hcv := t256 u hu
              go_simp
              try with_reducible rfl
            try simp only [Act.put, List.setIfInBounds_toArray, List.set_cons_zero, List.set_cons_succ]
            refine wpAnyH_take (i := 7) (oi := { dst := some 124, op := Go.Op.binOp Go.BinOp.eql 9 (Go.Operand.tmp 119) (Go.Operand.tmp 123) 9, type := 4, pos := "law.go:135", after := #[{ on := 2, ground := Go.Ground.data }, { on := 6, ground := Go.Ground.data }], guard := none }) (v := ?_) rfl (by kernel_rfl) (by kernel_rfl) (by kernel_rfl) (fun _ _ _ h => h) (Or.inl ⟨by rfl, ?_⟩) y257 ?_
            rotate_left
            · intro u hu
              have hu : Chg x248 u := hu
              go_simp
              try with_reducible rfl
            try simp only [Act.put, List.setIfInBounds_toArray, List.set_cons_zero, List.set_cons_succ]
            refine wpAnyH_take (i := 8) (oi := { dst := some 125, op := Go.Op.move (Go.Operand.tmp 124), type := 4, pos := "law.go:135", after := #[{ on := 7, ground := Go.Ground.data }, { on := 5, ground := Go.Ground.chain }], guard := none }) (v := ?_) rfl (by kernel_rfl) (by kernel_rfl) (by kernel_rfl) (fun _ _ _ h => h) (Or.inl ⟨by rfl, ?_⟩) y257 ?_
            rotate_left
            · intro u hu
              have hu : Chg x248 u := hu
              go_simp
              try with_reducible rfl
            try simp only [Act.put, List.setIfInBounds_toArray, List.set_cons_zero, List.set_cons_succ]
            refine wpAnyH_take (i := 9) (oi := { dst := some 126, op := Go.Op.move (Go.Operand.tmp 0), type := 22, pos := "law.go:135", after := #[{ on := 8, ground := Go.Ground.guard }], guard := some (8, true) }) (v := ?_) rfl (by kernel_rfl) (by kernel_rfl) (by kernel_rfl) (fun _ _ _ h => h) (Or.inl ⟨by rfl, ?_⟩) y257 ?_
            rotate_left
            · intro u hu
              have hu : Chg x248 u := hu
              go_simp
              try with_reducible rfl
            try simp only [Act.put, List.setIfInBounds_toArray, List.set_cons_zero, List.set_cons_succ]
            refine wpAnyH_take (i := 10) (oi := { dst := some 127, op := Go.Op.move (Go.Operand.tmp 2), type := 23, pos := "law.go:135", after := #[{ on := 8, ground := Go.Ground.guard }], guard := some (8, true) }) (v := ?_) rfl (by kernel_rfl) (by kernel_rfl) (by kernel_rfl) (fun _ _ _ h => h) (Or.inl ⟨by rfl, ?_⟩) y257 ?_
            rotate_left
            · intro u hu
              have hu : Chg x248 u := hu
              go_simp
              try with_reducible rfl
            try simp only [Act.put, List.setIfInBounds_toArray, List.set_cons_zero, List.set_cons_succ]
            refine wpAnyH_take (i := 13) (oi := { dst := some 130, op := Go.Op.move (Go.Operand.tmp 0), type := 22, pos := "law.go:135", after := #[{ on := 8, ground := Go.Ground.guard }], guard := some (8, true) }) (v := ?_) rfl (by kernel_rfl) (by kernel_rfl) (by kernel_rfl) (fun _ _ _ h => h) (Or.inl ⟨by rfl, ?_⟩) y257 ?_
            rotate_left
            · intro u hu
              have hu : Chg x248 u := hu
              go_simp
              try with_reducible rfl
            try simp only [Act.put, List.setIfInBounds_toArray, List.set_cons_zero, List.set_cons_succ]
            refine wpAnyH_take (i := 15) (oi := { dst := some 132, op := Go.Op.move (Go.Operand.tmp 2), type := 23, pos := "law.go:135", after := #[{ on := 8, ground := Go.Ground.guard }], guard := some (8, true) }) (v := ?_) rfl (by kernel_rfl) (by kernel_rfl) (by kernel_rfl) (fun _ _ _ h => h) (Or.inl ⟨by rfl, ?_⟩) y257 ?_
            rotate_left
            · intro u hu
              have hu : Chg x248 u := hu
              go_simp
              try with_reducible rfl
            try simp only [Act.put, List.setIfInBounds_toArray, List.set_cons_zero, List.set_cons_succ]
            refine wpAnyH_take (i := 17) (oi := { dst := some 134, op := Go.Op.move (Go.Operand.tmp 11), type := 23, pos := "law.go:135", after := #[{ on := 8, ground := Go.Ground.guard }], guard := some (8, true) }) (v := ?_) rfl (by kernel_rfl) (by kernel_rfl) (by kernel_rfl) (fun _ _ _ h => h) (Or.inl ⟨by rfl, ?_⟩) y257 ?_
            rotate_left
            · intro u hu
              have hu : Chg x248 u := hu
              go_simp
              try with_reducible rfl
            try simp only [Act.put, List.setIfInBounds_toArray, List.set_cons_zero, List.set_cons_succ]
            refine wpAnyH_take (i := 18) (oi := { dst := some 135, op := Go.Op.move (Go.Operand.tmp 10), type := 3, pos := "law.go:135", after := #[{ on := 8, ground := Go.Ground.guard }], guard := some (8, true) }) (v := ?_) rfl (by kernel_rfl) (by kernel_rfl) (by kernel_rfl) (fun _ _ _ h => h) (Or.inl ⟨by rfl, ?_⟩) y257 ?_
            rotate_left
            · intro u hu
              have hu : Chg x248 u := hu
              go_simp
              try with_reducible rfl
            try simp only [Act.put, List.setIfInBounds_toArray, List.set_cons_zero, List.set_cons_succ]
            refine wpAnyH_take (i := 19) (oi := { dst := some 136, op := Go.Op.move (Go.Operand.tmp 2), type := 23, pos := "law.go:135", after := #[{ on := 8, ground := Go.Ground.guard }], guard := some (8, true) }) (v := ?_) rfl (by kernel_rfl) (by kernel_rfl) (by kernel_rfl) (fun _ _ _ h => h) (Or.inl ⟨by rfl, ?_⟩) y257 ?_
            rotate_left
            · intro u hu
              have hu : Chg x248 u := hu
              go_simp
              try with_reducible rfl
            try simp only [Act.put, List.setIfInBounds_toArray, List.set_cons_zero, List.set_cons_succ]
            refine wpAnyH_take (i := 20) (oi := { dst := some 137, op := Go.Op.call { callee := Go.Callee.builtin Go.Builtin.len, args := #[Go.Operand.tmp 136], argTypes := #[23] }, type := 3, pos := "law.go:135", after := #[{ on := 19, ground := Go.Ground.data }, { on := 8, ground := Go.Ground.guard }], guard := some (8, true) }) (v := ?_) rfl (by kernel_rfl) (by kernel_rfl) (by kernel_rfl) (fun _ _ _ h => h) (Or.inl ⟨by rfl, ?_⟩) y257 ?_
            rotate_left
            · intro u hu
              have hu : Chg x248 u := hu
              go_simp
              try with_reducible rfl
            try simp only [Act.put, List.setIfInBounds_toArray, List.set_cons_zero, List.set_cons_succ]
            refine wpAnyH_take (i := 21) (oi := { dst := some 138, op := Go.Op.call { callee := Go.Callee.builtin Go.Builtin.min, args := #[Go.Operand.const (Go.Value.int Go.IntKind.i64 1), Go.Operand.tmp 137], argTypes := #[3, 3] }, type := 3, pos := "law.go:135", after := #[{ on := 20, ground := Go.Ground.data }, { on := 8, ground := Go.Ground.guard }], guard := some (8, true) }) (v := ?_) rfl (by kernel_rfl) (by kernel_rfl) (by kernel_rfl) (fun _ _ _ h => h) (Or.inl ⟨by rfl, ?_⟩) y257 ?_
            rotate_left
            · intro u hu
              have hu : Chg x248 u := hu
              go_simp
              try with_reducible rfl
            try simp only [Act.put, List.setIfInBounds_toArray, List.set_cons_zero, List.set_cons_succ]
            refine wpAnyH_take (i := 22) (oi := { dst := some 139, op := Go.Op.binOp Go.BinOp.sub 3 (Go.Operand.const (Go.Value.int Go.IntKind.i64 1)) (Go.Operand.tmp 138) 3, type := 3, pos := "law.go:135", after := #[{ on := 21, ground := Go.Ground.data }, { on := 8, ground := Go.Ground.guard }], guard := some (8, true) }) (v := ?_) rfl (by kernel_rfl) (by kernel_rfl) (by kernel_rfl) (fun _ _ _ h => h) (Or.inl ⟨by rfl, ?_⟩) y257 ?_
            rotate_left
            · intro u hu
              have hu : Chg x248 u := hu
              go_simp
              try with_reducible rfl
            try simp only [Act.put, List.setIfInBounds_toArray, List.set_cons_zero, List.set_cons_succ]
            refine wpAnyH_take (i := 23) (oi := { dst := some 140, op := Go.Op.binOp Go.BinOp.mul 3 (Go.Operand.tmp 135) (Go.Operand.tmp 139) 3, type := 3, pos := "law.go:135", after := #[{ on := 18, ground := Go.Ground.data }, { on := 22, ground := Go.Ground.data }, { on := 8, ground := Go.Ground.guard }], guard := some (8, true) }) (v := ?_) rfl (by kernel_rfl) (by kernel_rfl) (by kernel_rfl) (fun _ _ _ h => h) (Or.inl ⟨by rfl, ?_⟩) y257 ?_
            rotate_left
            · intro u hu
              have hu : Chg x248 u := hu
              go_simp
              try with_reducible rfl
            try simp only [Act.put, List.setIfInBounds_toArray, List.set_cons_zero, List.set_cons_succ]
            refine wpAnyH_take (i := 24) (oi := { dst := some 141, op := Go.Op.call { callee := Go.Callee.builtin Go.Builtin.max, args := #[Go.Operand.const (Go.Value.int Go.IntKind.i64 0), Go.Operand.tmp 140], argTypes := #[3, 3] }, type := 3, pos := "law.go:135", after := #[{ on := 23, ground := Go.Ground.data }, { on := 8, ground := Go.Ground.guard }], guard := some (8, true) }) (v := ?_) rfl (by kernel_rfl) (by kernel_rfl) (by kernel_rfl) (fun _ _ _ h => h) (Or.inl ⟨by rfl, ?_⟩) y257 ?_
            rotate_left
            · intro u hu
              have hu : Chg x248 u := hu
              go_simp
              try with_reducible rfl
            try simp only [Act.put, List.setIfInBounds_toArray, List.set_cons_zero, List.set_cons_succ]
            refine wpAnyH_take (i := 25) (oi := { dst := some 142, op := Go.Op.slice 23 (Go.Operand.tmp 134) none (some (Go.Operand.tmp 141)) none, type := 23, pos := "law.go:135", after := #[{ on := 17, ground := Go.Ground.data }, { on := 24, ground := Go.Ground.data }, { on := 8, ground := Go.Ground.guard }], guard := some (8, true) }) (v := ?_) rfl (by kernel_rfl) (by kernel_rfl) (by kernel_rfl) (fun _ _ _ h => h) (Or.inl ⟨by rfl, ?_⟩) y257 ?_
            rotate_left
            · intro u hu
              have hu : Chg x248 u := hu
              go_simp
              try with_reducible rfl
            try simp only [Act.put, List.setIfInBounds_toArray, List.set_cons_zero, List.set_cons_succ]
            refine wpAnyH_ready (rs := [11, 14]) (by kernel_rfl) (by simp) ?_
            refine AllReadyH.cons (o := { dst := some 128, op := Go.Op.call { callee := Go.Callee.value (Go.Operand.func 22), args := #[Go.Operand.tmp 126, Go.Operand.tmp 127], argTypes := #[22, 23] }, type := 23, pos := "law.go:135", after := #[{ on := 9, ground := Go.Ground.data }, { on := 10, ground := Go.Ground.data }, { on := 8, ground := Go.Ground.chain }, { on := 8, ground := Go.Ground.guard }], guard := some (8, true) }) rfl (fun K hK => ?_) ?_
            · skip
              go_simp
              go_at_call 22
              refine (HYS.out x248 c254).mono ?_
              rintro e x258 ⟨o261, m262, n263, rfl, s259, r260⟩
              have c264 : Chg W0 x258 := c254.trans s259
              have t266 := TxV.of r260
              have y265 : Chg x248 x258 := y257.trans s259
              refine hK.out _ _ y265 (fun _ => wpAnyH_imp (S' := fun u => Chg x258 u) (fun u hu => y265.trans hu) _ _ _ _ ?_)
              have y267 : Chg x258 x258 := Chg.refl _
              clear hK K
              try simp only [Act.put, List.setIfInBounds_toArray, List.set_cons_zero, List.set_cons_succ]
              refine wpAnyH_take (i := 12) (oi := { dst := some 129, op := Go.Op.convert 23 9 (Go.Operand.tmp 128), type := 9, pos := "law.go:135", after := #[{ on := 11, ground := Go.Ground.data }, { on := 8, ground := Go.Ground.guard }], guard := some (8, true) }) (v := ?_) rfl (by kernel_rfl) (by kernel_rfl) (by kernel_rfl) (fun _ _ _ h => h) (Or.inl ⟨by rfl, ?_⟩) y267 ?_
              rotate_left
              · intro u hu
                have hu : Chg x258 u := hu
                have hcv := t266 u hu
                go_simp
                try with_reducible rfl
              try simp only [Act.put, List.setIfInBounds_toArray, List.set_cons_zero, List.set_cons_succ]
              refine wpAnyH_ready (rs := [14]) (by kernel_rfl) (by simp) ?_
              refine AllReadyH.cons (o := { dst := some 131, op := Go.Op.buildSlice 23 0 #[], type := 23, pos := "law.go:135", after := #[{ on := 8, ground := Go.Ground.guard }], guard := some (8, true) }) rfl (fun K hK => ?_) ?_
              · skip
                go_simp
                obtain ⟨x268, e269⟩ : ∃ x, x = x258.alloc (.cells #[] 5) := ⟨_, rfl⟩
                have s272 : Chg x258 x268 := by rw [e269]; exact (Chg.refl _).alloc _
                have c270 : Chg W0 x268 := c264.trans s272
                have h273 : x268.heap[x258.heap.size]? = some (.cells #[] 5 (0, 0)) := by rw [e269]; exact heap_alloc_last _ _
                have w274 : Ap.OwnV x268 (.slice (some ⟨x258.heap.size, 0, none⟩) 0 0) [] := by rw [e269]; exact OwnV.empty _
                have g275 : W0.heap.size ≤ x258.heap.size := c264.size
                have g276 : x258.heap.size ≤ x258.heap.size := y267.size
                have y271 : Chg x258 x268 := y267.trans s272
                rw [← e269]
                clear e269
                refine hK.out _ _ y271 (fun _ => ?_)
                clear hK K
                try simp only [Act.put, List.setIfInBounds_toArray, List.set_cons_zero, List.set_cons_succ]
                refine wpAnyH_ready (rs := [16]) (by kernel_rfl) (by simp) ?_
                refine AllReadyH.cons (o := { dst := some 133, op := Go.Op.call { callee := Go.Callee.builtin Go.Builtin.append, args := #[Go.Operand.tmp 131, Go.Operand.tmp 132], argTypes := #[23, 23] }, type := 23, pos := "law.go:135", after := #[{ on := 14, ground := Go.Ground.data }, { on := 15, ground := Go.Ground.data }, { on := 11, ground := Go.Ground.chain }, { on := 8, ground := Go.Ground.guard }], guard := some (8, true) }) rfl (fun K hK => ?_) ?_
                · skip
                  refine step_appG rfl (.tmp 131) (.tmp 132) rfl (.slice (some ⟨x258.heap.size, 0, none⟩) 0 0) (.slice ho hm hc) [] shared rfl rfl w274 (HRH.out _ c270) (by have := HLH.out.1; simp only [List.length_nil]; omega) ?_
                  intro v278 x277 r279 q280 q281
                  obtain ⟨o284, m285, n286, rfl, -⟩ := r279.rd.shape
                  have k287 : ∀ k, ((.slice (some ⟨x258.heap.size, 0, none⟩) 0 0) : Value).ownBlock = some k → k = x258.heap.size := fun k e => by simp [Value.ownBlock] at e; exact e.symm
                  have c282 : Chg W0 x277 := Chg.ap c270 q280 (fun i e => by have := k287 i e; have := g275; omega)
                  have y283 : Chg x258 x277 := Chg.ap y271 q280 (fun i e => by have := k287 i e; have := g276; omega)
                  have g288 : W0.heap.size ≤ x268.heap.size := c270.size
                  have g289 : x258.heap.size ≤ x268.heap.size := y271.size
                  have q291 : Hid _ := q281
                  clear q280 q281 k287
                  refine hK.out _ _ y283 (fun _ => ?_)
                  clear hK K
                  try simp only [Act.put, List.setIfInBounds_toArray, List.set_cons_zero, List.set_cons_succ]
                  refine wpAnyH_ready (rs := [26]) (by kernel_rfl) (by simp) ?_
                  refine AllReadyH.cons (o := { dst := some 143, op := Go.Op.call { callee := Go.Callee.builtin Go.Builtin.append, args := #[Go.Operand.tmp 133, Go.Operand.tmp 142], argTypes := #[23, 23] }, type := 23, pos := "law.go:135", after := #[{ on := 16, ground := Go.Ground.data }, { on := 25, ground := Go.Ground.data }, { on := 16, ground := Go.Ground.chain }, { on := 8, ground := Go.Ground.guard }], guard := some (8, true) }) rfl (fun K hK => ?_) ?_
                  · skip
                    refine step_appG rfl (.tmp 133) (.tmp 142) rfl (.slice o284 m285 n286) (.slice (some ⟨Z, 0, none⟩) 0 S) ([] ++ shared) [] rfl rfl r279 (HRZ0.out _ c282) (by have := HLH.out.1; have := HS.out.2; simp only [List.nil_append, List.length_nil]; omega) ?_
                    intro v293 x292 r294 q295 q296
                    obtain ⟨o299, m300, n301, rfl, -⟩ := r294.rd.shape
                    have k302 : ∀ k, ((.slice o284 m285 n286) : Value).ownBlock = some k → k = x258.heap.size ∨ k = x268.heap.size := fun k e => by rcases q291.out with q | q <;> rw [q] at e <;> simp [Value.ownBlock] at e <;> omega
                    have c297 : Chg W0 x292 := Chg.ap c282 q295 (fun i e => by have := k302 i e; have := g275; have := g288; omega)
                    have y298 : Chg x258 x292 := Chg.ap y283 q295 (fun i e => by have := k302 i e; have := g276; have := g289; omega)
                    clear q295 q296 k302 q291 r279
                    refine hK.out _ _ y298 (fun _ => ?_)
                    clear hK K
                    try simp only [Act.put, List.setIfInBounds_toArray, List.set_cons_zero, List.set_cons_succ]
                    refine wpAnyH_ready (rs := [27]) (by kernel_rfl) (by simp) ?_
                    refine AllReadyH.cons (o := { dst := some 144, op := Go.Op.call { callee := Go.Callee.value (Go.Operand.func 27), args := #[Go.Operand.tmp 130, Go.Operand.const (Go.Value.slice none 0 0), Go.Operand.tmp 143], argTypes := #[22, 23, 23] }, type := 23, pos := "law.go:135", after := #[{ on := 13, ground := Go.Ground.data }, { on := 26, ground := Go.Ground.data }, { on := 26, ground := Go.Ground.chain }, { on := 8, ground := Go.Ground.guard }], guard := some (8, true) }) rfl (fun K hK => ?_) ?_
                    · skip
                      go_simp
                      go_at_call 27
                      refine (HEXS.out x292 _ c297 r294.rd).mono ?_
                      rintro e x303 ⟨o306, m307, n308, rfl, s304, r305⟩
                      have c309 : Chg W0 x303 := c297.trans s304
                      have t311 := TxV.of r305
                      have y310 : Chg x258 x303 := y298.trans s304
                      refine hK.out _ _ y310 (fun _ => wpAnyH_imp (S' := fun u => Chg x303 u) (fun u hu => y310.trans hu) _ _ _ _ ?_)
                      have y312 : Chg x303 x303 := Chg.refl _
                      clear hK K
                      try simp only [Act.put, List.setIfInBounds_toArray, List.set_cons_zero, List.set_cons_succ]
                      refine wpAnyH_take (i := 28) (oi := { dst := some 145, op := Go.Op.convert 23 9 (Go.Operand.tmp 144), type := 9, pos := "law.go:135", after := #[{ on := 27, ground := Go.Ground.data }, { on := 8, ground := Go.Ground.guard }], guard := some (8, true) }) (v := ?_) rfl (by kernel_rfl) (by kernel_rfl) (by kernel_rfl) (fun _ _ _ h => h) (Or.inl ⟨by rfl, ?_⟩) y312 ?_
                      rotate_left
                      · intro u hu
                        have hu : Chg x303 u := hu
                        have hcv := t311 u hu
                        go_simp
                        try with_reducible rfl
                      try simp only [Act.put, List.setIfInBounds_toArray, List.set_cons_zero, List.set_cons_succ]
                      refine wpAnyH_take (i := 29) (oi := { dst := some 146, op := Go.Op.binOp Go.BinOp.eql 9 (Go.Operand.tmp 129) (Go.Operand.tmp 145) 9, type := 4, pos := "law.go:135", after := #[{ on := 12, ground := Go.Ground.data }, { on := 28, ground := Go.Ground.data }, { on := 8, ground := Go.Ground.guard }], guard := some (8, true) }) (v := ?_) rfl (by kernel_rfl) (by kernel_rfl) (by kernel_rfl) (fun _ _ _ h => h) (Or.inl ⟨by rfl, ?_⟩) y312 ?_
                      rotate_left
                      · intro u hu
                        have hu : Chg x303 u := hu
                        go_simp
                        try with_reducible rfl
                      try simp only [Act.put, List.setIfInBounds_toArray, List.set_cons_zero, List.set_cons_succ]
                      refine wpAnyH_take (i := 30) (oi := { dst := some 147, op := Go.Op.pick (Go.Operand.tmp 125) (Go.Operand.tmp 146) (Go.Operand.const (Go.Value.bool false)), type := 4, pos := "law.go:135", after := #[{ on := 8, ground := Go.Ground.data }, { on := 29, ground := Go.Ground.data }], guard := none }) (v := ?_) rfl (by kernel_rfl) (by kernel_rfl) (by kernel_rfl) (fun _ _ _ h => h) (Or.inl ⟨by rfl, ?_⟩) y312 ?_
                      rotate_left
                      · intro u hu
                        have hu : Chg x303 u := hu
                        go_simp
                        try with_reducible rfl
                      try simp only [Act.put, List.setIfInBounds_toArray, List.set_cons_zero, List.set_cons_succ]
                      refine wpAnyH_take (i := 31) (oi := { dst := some 19, op := Go.Op.assign (Go.Operand.tmp 147), type := 4, pos := "law.go:135", after := #[{ on := 30, ground := Go.Ground.data }, { on := 27, ground := Go.Ground.chain }, { on := 0, ground := Go.Ground.phase }, { on := 1, ground := Go.Ground.phase }, { on := 2, ground := Go.Ground.phase }, { on := 3, ground := Go.Ground.phase }, { on := 4, ground := Go.Ground.phase }, { on := 5, ground := Go.Ground.phase }, { on := 6, ground := Go.Ground.phase }, { on := 7, ground := Go.Ground.phase }, { on := 8, ground := Go.Ground.phase }, { on := 9, ground := Go.Ground.phase }, { on := 10, ground := Go.Ground.phase }, { on := 11, ground := Go.Ground.phase }, { on := 12, ground := Go.Ground.phase }, { on := 13, ground := Go.Ground.phase }, { on := 14, ground := Go.Ground.phase }, { on := 15, ground := Go.Ground.phase }, { on := 16, ground := Go.Ground.phase }, { on := 17, ground := Go.Ground.phase }, { on := 18, ground := Go.Ground.phase }, { on := 19, ground := Go.Ground.phase }, { on := 20, ground := Go.Ground.phase }, { on := 21, ground := Go.Ground.phase }, { on := 22, ground := Go.Ground.phase }, { on := 23, ground := Go.Ground.phase }, { on := 24, ground := Go.Ground.phase }, { on := 25, ground := Go.Ground.phase }, { on := 26, ground := Go.Ground.phase }, { on := 27, ground := Go.Ground.phase }, { on := 28, ground := Go.Ground.phase }, { on := 29, ground := Go.Ground.phase }, { on := 30, ground := Go.Ground.phase }], guard := none }) (v := ?_) rfl (by kernel_rfl) (by kernel_rfl) (by kernel_rfl) (fun _ _ _ h => h) (Or.inl ⟨by rfl, ?_⟩) y312 ?_
                      rotate_left
                      · intro u hu
                        have hu : Chg x303 u := hu
                        go_simp
                        try with_reducible rfl
                      try simp only [Act.put, List.setIfInBounds_toArray, List.set_cons_zero, List.set_cons_succ]
                      refine wpAnyH_done (by kernel_rfl) ?_ _
                      go_wp2_with fail
                      go_meet
                      case rel => exact ⟨rfl, c309⟩
                    exact AllReadyH.nil
                  exact AllReadyH.nil
                exact AllReadyH.nil
              exact AllReadyH.nil
            refine AllReadyH.cons (o := { dst := some 131, op := Go.Op.buildSlice 23 0 #[], type := 23, pos := "law.go:135", after := #[{ on := 8, ground := Go.Ground.guard }], guard := some (8, true) }) rfl (fun K hK => ?_) ?_
            · skip
              go_simp
              obtain ⟨x313, e314⟩ : ∃ x, x = x248.alloc (.cells #[] 5) := ⟨_, rfl⟩
              have s317 : Chg x248 x313 := by rw [e314]; exact (Chg.refl _).alloc _
              have c315 : Chg W0 x313 := c254.trans s317
              have h318 : x313.heap[x248.heap.size]? = some (.cells #[] 5 (0, 0)) := by rw [e314]; exact heap_alloc_last _ _
              have w319 : Ap.OwnV x313 (.slice (some ⟨x248.heap.size, 0, none⟩) 0 0) [] := by rw [e314]; exact OwnV.empty _
              have g320 : W0.heap.size ≤ x248.heap.size := c254.size
              have g321 : x248.heap.size ≤ x248.heap.size := y257.size
              have y316 : Chg x248 x313 := y257.trans s317
              rw [← e314]
              clear e314
              refine hK.out _ _ y316 (fun _ => ?_)
              clear hK K
              try simp only [Act.put, List.setIfInBounds_toArray, List.set_cons_zero, List.set_cons_succ]
              refine wpAnyH_ready (rs := [11]) (by kernel_rfl) (by simp) ?_
              refine AllReadyH.cons (o := { dst := some 128, op := Go.Op.call { callee := Go.Callee.value (Go.Operand.func 22), args := #[Go.Operand.tmp 126, Go.Operand.tmp 127], argTypes := #[22, 23] }, type := 23, pos := "law.go:135", after := #[{ on := 9, ground := Go.Ground.data }, { on := 10, ground := Go.Ground.data }, { on := 8, ground := Go.Ground.chain }, { on := 8, ground := Go.Ground.guard }], guard := some (8, true) }) rfl (fun K hK => ?_) ?_
              · skip
                go_simp
                go_at_call 22
                refine (HYS.out x313 c315).mono ?_
                rintro e x322 ⟨o325, m326, n327, rfl, s323, r324⟩
                have c328 : Chg W0 x322 := c315.trans s323
                have t330 := TxV.of r324
                have h331 := (s323.block _ (lt_blk h318)).trans h318
                have w332 := OwnV.chg w319 s323
                have y329 : Chg x248 x322 := y316.trans s323
                have y333 : Ap.Chg (fun k => k = x248.heap.size) x322 x322 := Ap.Chg.refl _ _
                refine hK.out _ _ y329 (fun _ => wpAnyH_imp (S' := fun u => Ap.Chg (fun k => k = x248.heap.size) x322 u) (fun u hu => Chg.ap y329 hu (fun i e => by subst e; exact g321)) _ _ _ _ ?_)
                clear hK K
                try simp only [Act.put, List.setIfInBounds_toArray, List.set_cons_zero, List.set_cons_succ]
                refine wpAnyH_take (i := 12) (oi := { dst := some 129, op := Go.Op.convert 23 9 (Go.Operand.tmp 128), type := 9, pos := "law.go:135", after := #[{ on := 11, ground := Go.Ground.data }, { on := 8, ground := Go.Ground.guard }], guard := some (8, true) }) (v := ?_) rfl (by kernel_rfl) (by kernel_rfl) (by kernel_rfl) (fun _ _ _ h => h) (Or.inl ⟨by rfl, ?_⟩) y333 ?_
                rotate_left
                · intro u hu
                  have hu : Ap.Chg (fun k => k = x248.heap.size) x322 u := hu
                  have hcv := run_strE r324 h331 hu
                  go_simp
                  try with_reducible rfl
                try simp only [Act.put, List.setIfInBounds_toArray, List.set_cons_zero, List.set_cons_succ]
                refine wpAnyH_ready (rs := [16]) (by kernel_rfl) (by simp) ?_
                refine AllReadyH.cons (o := { dst := some 133, op := Go.Op.call { callee := Go.Callee.builtin Go.Builtin.append, args := #[Go.Operand.tmp 131, Go.Operand.tmp 132], argTypes := #[23, 23] }, type := 23, pos := "law.go:135", after := #[{ on := 14, ground := Go.Ground.data }, { on := 15, ground := Go.Ground.data }, { on := 11, ground := Go.Ground.chain }, { on := 8, ground := Go.Ground.guard }], guard := some (8, true) }) rfl (fun K hK => ?_) ?_
                · skip
                  refine step_appG rfl (.tmp 131) (.tmp 132) rfl (.slice (some ⟨x248.heap.size, 0, none⟩) 0 0) (.slice ho hm hc) [] shared rfl rfl w332 (HRH.out _ c328) (by have := HLH.out.1; simp only [List.length_nil]; omega) ?_
                  intro v335 x334 r336 q337 q338
                  obtain ⟨o341, m342, n343, rfl, -⟩ := r336.rd.shape
                  have k344 : ∀ k, ((.slice (some ⟨x248.heap.size, 0, none⟩) 0 0) : Value).ownBlock = some k → k = x248.heap.size := fun k e => by simp [Value.ownBlock] at e; exact e.symm
                  have c339 : Chg W0 x334 := Chg.ap c328 q337 (fun i e => by have := k344 i e; have := g320; omega)
                  have y340 : Ap.Chg (fun k => k = x248.heap.size) x322 x334 := y333.trans q337 (fun i hi e => by have := k344 i e; omega)
                  have g345 : W0.heap.size ≤ x322.heap.size := c328.size
                  have q348 : Hid _ := q338
                  clear q337 q338 k344
                  refine hK.out _ _ y340 (fun _ => ?_)
                  clear hK K
                  try simp only [Act.put, List.setIfInBounds_toArray, List.set_cons_zero, List.set_cons_succ]
                  refine wpAnyH_ready (rs := [26]) (by kernel_rfl) (by simp) ?_
                  refine AllReadyH.cons (o := { dst := some 143, op := Go.Op.call { callee := Go.Callee.builtin Go.Builtin.append, args := #[Go.Operand.tmp 133, Go.Operand.tmp 142], argTypes := #[23, 23] }, type := 23, pos := "law.go:135", after := #[{ on := 16, ground := Go.Ground.data }, { on := 25, ground := Go.Ground.data }, { on := 16, ground := Go.Ground.chain }, { on := 8, ground := Go.Ground.guard }], guard := some (8, true) }) rfl (fun K hK => ?_) ?_
                  · skip
                    refine step_appG rfl (.tmp 133) (.tmp 142) rfl (.slice o341 m342 n343) (.slice (some ⟨Z, 0, none⟩) 0 S) ([] ++ shared) [] rfl rfl r336 (HRZ0.out _ c339) (by have := HLH.out.1; have := HS.out.2; simp only [List.nil_append, List.length_nil]; omega) ?_
                    intro v350 x349 r351 q352 q353
                    obtain ⟨o356, m357, n358, rfl, -⟩ := r351.rd.shape
                    have k359 : ∀ k, ((.slice o341 m342 n343) : Value).ownBlock = some k → k = x248.heap.size ∨ k = x322.heap.size := fun k e => by rcases q348.out with q | q <;> rw [q] at e <;> simp [Value.ownBlock] at e <;> omega
                    have c354 : Chg W0 x349 := Chg.ap c339 q352 (fun i e => by have := k359 i e; have := g320; have := g345; omega)
                    have y355 : Ap.Chg (fun k => k = x248.heap.size) x322 x349 := y340.trans q352 (fun i hi e => by have := k359 i e; have : x322.heap.size ≤ x322.heap.size := y333.size; omega)
                    clear q352 q353 k359 q348 r336
                    refine hK.out _ _ y355 (fun _ => ?_)
                    clear hK K
                    try simp only [Act.put, List.setIfInBounds_toArray, List.set_cons_zero, List.set_cons_succ]
                    refine wpAnyH_ready (rs := [27]) (by kernel_rfl) (by simp) ?_
                    refine AllReadyH.cons (o := { dst := some 144, op := Go.Op.call { callee := Go.Callee.value (Go.Operand.func 27), args := #[Go.Operand.tmp 130, Go.Operand.const (Go.Value.slice none 0 0), Go.Operand.tmp 143], argTypes := #[22, 23, 23] }, type := 23, pos := "law.go:135", after := #[{ on := 13, ground := Go.Ground.data }, { on := 26, ground := Go.Ground.data }, { on := 26, ground := Go.Ground.chain }, { on := 8, ground := Go.Ground.guard }], guard := some (8, true) }) rfl (fun K hK => ?_) ?_
                    · skip
                      go_simp
                      go_at_call 27
                      refine (HEXS.out x349 _ c354 r351.rd).mono ?_
                      rintro e x360 ⟨o363, m364, n365, rfl, s361, r362⟩
                      have c366 : Chg W0 x360 := c354.trans s361
                      have t368 := TxV.of r362
                      have y367 : Ap.Chg (fun k => k = x248.heap.size) x322 x360 := y355.trans s361.toAp (fun _ _ e => e.elim)
                      refine hK.out _ _ y367 (fun _ => wpAnyH_imp (S' := fun u => Chg x360 u ∧ Ap.Chg (fun k => k = x248.heap.size) x322 u) (fun u hu => hu.2) _ _ _ _ ?_)
                      have y369 : Chg x360 x360 ∧ Ap.Chg (fun k => k = x248.heap.size) x322 x360 := ⟨Chg.refl _, y367⟩
                      clear hK K
                      try simp only [Act.put, List.setIfInBounds_toArray, List.set_cons_zero, List.set_cons_succ]
                      refine wpAnyH_take (i := 28) (oi := { dst := some 145, op := Go.Op.convert 23 9 (Go.Operand.tmp 144), type := 9, pos := "law.go:135", after := #[{ on := 27, ground := Go.Ground.data }, { on := 8, ground := Go.Ground.guard }], guard := some (8, true) }) (v := ?_) rfl (by kernel_rfl) (by kernel_rfl) (by kernel_rfl) (fun _ _ _ h => h) (Or.inl ⟨by rfl, ?_⟩) y369 ?_
                      rotate_left
                      · intro u hu
                        have hu : (fun u => Chg x360 u ∧ Ap.Chg (fun k => k = x248.heap.size) x322 u) u := hu
                        have hcv := t368 u hu.1
                        go_simp
                        try with_reducible rfl
                      try simp only [Act.put, List.setIfInBounds_toArray, List.set_cons_zero, List.set_cons_succ]
                      refine wpAnyH_take (i := 29) (oi := { dst := some 146, op := Go.Op.binOp Go.BinOp.eql 9 (Go.Operand.tmp 129) (Go.Operand.tmp 145) 9, type := 4, pos := "law.go:135", after := #[{ on := 12, ground := Go.Ground.data }, { on := 28, ground := Go.Ground.data }, { on := 8, ground := Go.Ground.guard }], guard := some (8, true) }) (v := ?_) rfl (by kernel_rfl) (by kernel_rfl) (by kernel_rfl) (fun _ _ _ h => h) (Or.inl ⟨by rfl, ?_⟩) y369 ?_
                      rotate_left
                      · intro u hu
                        have hu : (fun u => Chg x360 u ∧ Ap.Chg (fun k => k = x248.heap.size) x322 u) u := hu
                        go_simp
                        try with_reducible rfl
                      try simp only [Act.put, List.setIfInBounds_toArray, List.set_cons_zero, List.set_cons_succ]
                      refine wpAnyH_take (i := 30) (oi := { dst := some 147, op := Go.Op.pick (Go.Operand.tmp 125) (Go.Operand.tmp 146) (Go.Operand.const (Go.Value.bool false)), type := 4, pos := "law.go:135", after := #[{ on := 8, ground := Go.Ground.data }, { on := 29, ground := Go.Ground.data }], guard := none }) (v := ?_) rfl (by kernel_rfl) (by kernel_rfl) (by kernel_rfl) (fun _ _ _ h => h) (Or.inl ⟨by rfl, ?_⟩) y369 ?_
                      rotate_left
                      · intro u hu
                        have hu : (fun u => Chg x360 u ∧ Ap.Chg (fun k => k = x248.heap.size) x322 u) u := hu
                        go_simp
                        try with_reducible rfl
                      try simp only [Act.put, List.setIfInBounds_toArray, List.set_cons_zero, List.set_cons_succ]
                      refine wpAnyH_take (i := 31) (oi := { dst := some 19, op := Go.Op.assign (Go.Operand.tmp 147), type := 4, pos := "law.go:135", after := #[{ on := 30, ground := Go.Ground.data }, { on := 27, ground := Go.Ground.chain }, { on := 0, ground := Go.Ground.phase }, { on := 1, ground := Go.Ground.phase }, { on := 2, ground := Go.Ground.phase }, { on := 3, ground := Go.Ground.phase }, { on := 4, ground := Go.Ground.phase }, { on := 5, ground := Go.Ground.phase }, { on := 6, ground := Go.Ground.phase }, { on := 7, ground := Go.Ground.phase }, { on := 8, ground := Go.Ground.phase }, { on := 9, ground := Go.Ground.phase }, { on := 10, ground := Go.Ground.phase }, { on := 11, ground := Go.Ground.phase }, { on := 12, ground := Go.Ground.phase }, { on := 13, ground := Go.Ground.phase }, { on := 14, ground := Go.Ground.phase }, { on := 15, ground := Go.Ground.phase }, { on := 16, ground := Go.Ground.phase }, { on := 17, ground := Go.Ground.phase }, { on := 18, ground := Go.Ground.phase }, { on := 19, ground := Go.Ground.phase }, { on := 20, ground := Go.Ground.phase }, { on := 21, ground := Go.Ground.phase }, { on := 22, ground := Go.Ground.phase }, { on := 23, ground := Go.Ground.phase }, { on := 24, ground := Go.Ground.phase }, { on := 25, ground := Go.Ground.phase }, { on := 26, ground := Go.Ground.phase }, { on := 27, ground := Go.Ground.phase }, { on := 28, ground := Go.Ground.phase }, { on := 29, ground := Go.Ground.phase }, { on := 30, ground := Go.Ground.phase }], guard := none }) (v := ?_) rfl (by kernel_rfl) (by kernel_rfl) (by kernel_rfl) (fun _ _ _ h => h) (Or.inl ⟨by rfl, ?_⟩) y369 ?_
                      rotate_left
                      · intro u hu
                        have hu : (fun u => Chg x360 u ∧ Ap.Chg (fun k => k = x248.heap.size) x322 u) u := hu
                        go_simp
                        try with_reducible rfl
                      try simp only [Act.put, List.setIfInBounds_toArray, List.set_cons_zero, List.set_cons_succ]
                      refine wpAnyH_done (by kernel_rfl) ?_ _
                      go_wp2_with fail
                      go_meet
                      case rel => exact ⟨rfl, c366⟩
                    exact AllReadyH.nil
                  exact AllReadyH.nil
                exact AllReadyH.nil
              exact AllReadyH.nil
            exact AllReadyH.nil
          exact AllReadyH.nil
        exact AllReadyH.nil
    case rest =>
    obtain ⟨rfl, hcc⟩ := hcut
    have KC : Hid (Chg w wc) := KW.out.trans hcc
    clear hcc
    go_wp2_with fail
    go_ret
    exact ⟨rfl, KC.out⟩
end Go.Proofs.YtijpdhjlafihkaaDoor
