/-
  MacCodes, walked.
-/
import Derived.Test.YtlahfenjmpomhaaDoorPrt
import Derived.Test.YtlahfenjmpomhaaDoorMRf
import Derived.Test.YtlahfenjmpomhaaDoorHd
import Derived.Deep.RegionHeld
namespace Go.Proofs.YtlahfenjmpomhaaDoor
open Go.RowKit
set_option linter.unusedVariables false

set_option maxRecDepth 100000 in
set_option maxHeartbeats 8000000 in
theorem codes_walk (q : Int) (vk v : Value) (key : List Int) (xss : List (List Int)) (w : World) (ht : Tabs w) (hk : Ap.Rd w vk key) (hkx : ∀ x ∈ key, 0 ≤ x ∧ x < 256) (hkl : key.length ≤ 1048576) (hp : PtR w v xss) (hpx : ∀ xs ∈ xss, ∀ x ∈ xs, 0 ≤ x ∧ x < 256) (hl : xss.flatten.length ≤ 1048576) :
    Calls Tryd.prog 3 #[.int .i64 q, vk, v] w fun e w' => e = .returned (.bool true) ∧ Chg w w' := by
  obtain ⟨ko, kn, kc, rfl, -⟩ := hk.shape
  obtain ⟨n, p, cap, hn, rfl, hnb⟩ := hp.shape
  have HX : Hid (Tabs w ∧ Ap.Rd w (.slice ko kn kc) key ∧ (∀ x ∈ key, 0 ≤ x ∧ x < 256) ∧ key.length ≤ 1048576 ∧ PtR w (.slice p n cap) xss ∧ (∀ x ∈ xss.flatten, 0 ≤ x ∧ x < 256) ∧ xss.flatten.length ≤ 1048576 ∧ n = xss.length) := ⟨ht, hk, hkx, hkl, hp, flat_range hpx, hl, hn⟩
  clear ht hk hkx hkl hp hpx hl hn
  go_enter Tryd.func3, Tryd.ntmps3
  go_wp2_with fail
  refine (head_any w HX.out.1).mono ?_
  rintro e w1 ⟨rfl, hc1⟩
  have Z1 : Hid (Chg w w1) := hc1
  clear hc1
  go_wp2_with fail
  go_loopw [8, 9] (fun v8 v9 wr => ∃ (i : Nat), v9 = .int .i64 i ∧ i ≤ n ∧ OwnN w1 wr v8 (xss.take i).flatten) (fun v8 v9 wr => n - (intOf v9).toNat)
  case atStart => exact ⟨0, rfl, by omega, .inl ⟨rfl, rfl⟩, (fun k e => by simp [Value.ownBlock] at e), Ap.Chg.refl _ w1⟩
  case round =>
    obtain ⟨i, rfl, hi, ho⟩ := hrel
    obtain ⟨so, sm, sc, rfl, -⟩ := ho.own.rd.shape
    have H : Hid (OwnN w1 wr (.slice so sm sc) (xss.take i).flatten) := ho
    clear ho
    by_cases hin : i < n
    · have hid : decide ((i : Int) < n) = true := by simp; omega
      have li : (i : Int) < n := by omega
      have hlt : i < xss.length := by have := HX.out.2.2.2.2.2.2.2; omega
      obtain ⟨b, o, u, rfl, -, g1, g2⟩ := HX.out.2.2.2.2.1.part (i := i) hlt
      have hfl := flat_take hlt
      have h1 := flat_le xss (i + 1)
      obtain ⟨ys, hys⟩ : ∃ ys, ys = xss[i]'hlt := ⟨_, rfl⟩
      rw [← hys] at g2 hfl
      rw [hfl, List.length_append] at h1
      have hcw : Chg w wr := Z1.out.trans (Chg.ofAp H.out.chg)
      have c0 := cell_at hcw g1
      have r0 := Rd.chg g2 hcw
      obtain ⟨uo, un, uc, rfl, -⟩ := r0.shape
      have HR : Hid (Ap.Rd wr (.slice uo un uc) ys ∧ (xss.take i).flatten.length + ys.length ≤ 1048576 ∧ (xss.take (i + 1)).flatten = (xss.take i).flatten ++ ys) := ⟨r0, by have := HX.out.2.2.2.2.2.2.1; omega, hfl⟩
      clear hlt hys g1 g2 r0 h1 hfl hcw
      go_wp2_with (at_builtin; refine Ap.wpList_app _ rfl _ _ rfl (.slice so sm sc) (.slice uo un uc) (xss.take i).flatten ys rfl rfl H.out.own HR.out.1 (by have := HR.out.2.1; omega) ?_)
      intro v2 w2 o2 c2 b2
      have Z : Hid (OwnN w1 w2 v2 (xss.take (i + 1)).flatten) := by
        have := H.out.more o2 c2 b2
        show OwnN _ _ _ _
        rw [HR.out.2.2]
        exact this
      clear o2 c2 b2
      go_wp2_with fail
      refine ⟨⟨i + 1, by go_num, by omega, Z.out⟩, ?_⟩
      simp [intOf]
      omega
    · have hid : decide ((i : Int) < n) = false := by simp; omega
      have Z2 : Hid (Chg w wr ∧ Ap.Rd wr (.slice so sm sc) xss.flatten) := by
        have := H.out
        have e : xss.take i = xss := List.take_of_length_le (by have := HX.out.2.2.2.2.2.2.2; omega)
        rw [e] at this
        exact ⟨Z1.out.trans (Chg.ofAp this.chg), this.own.rd⟩
      have Z0 : Hid (Ap.Rd (wr.alloc (.cells #[] 5)) (.slice ko kn kc) key) := Rd.chg HX.out.2.1 (Z2.out.1.alloc _)
      clear H
      go_wp2_with (at_builtin; refine Ap.wpList_app _ rfl _ _ rfl (.slice (some ⟨wr.heap.size, 0, none⟩) 0 0) (.slice ko kn kc) [] key rfl rfl (OwnV.empty wr) Z0.out (by have := HX.out.2.2.2.1; simp; omega) ?_)
      intro v3 w3 o3 c3 b3
      obtain ⟨oo, om, oc, rfl, -⟩ := o3.rd.shape
      have Z3 : Hid (Chg w w3 ∧ Ap.Rd w3 (.slice so sm sc) xss.flatten ∧ Ap.Rd w3 (.slice oo om oc) key) := by
        have k : Chg wr w3 := Chg.app (Chg.refl wr) c3
        exact ⟨Z2.out.1.trans k, Rd.chg Z2.out.2 k, by simpa using o3.rd⟩
      clear o3 c3 b3 Z0 Z2
      go_wp2_with fail
      refine (mac_both q (.slice oo om oc) (.slice p n cap) key xss w3 (HX.out.1.chg Z3.out.1) Z3.out.2.2 (by have := HX.out.2.2.2.1; omega) ((HX.out.2.2.2.2.1.chg Z3.out.1).pt (fun xs hx => by have := flat_mem hx; have := HX.out.2.2.2.2.2.2.1; omega))).mono ?_
      rintro e w4 ⟨ao, am, ac, rfl, hc4, hr4⟩
      obtain ⟨s1, hs1⟩ : ∃ s, s = strOfNums (macL q key xss.flatten) := ⟨_, rfl⟩
      obtain ⟨s2, hs2⟩ : ∃ s, s = strOfNums key := ⟨_, rfl⟩
      have HC : Hid (Chg w w4) := Z3.out.1.trans hc4
      have HT : Hid (TxV w4 (.slice ao am ac) s1 ∧ TxV w4 (.slice oo om oc) s2 ∧ TxV w4 (.slice ko kn kc) s2) := by
        refine ⟨?_, ?_, ?_⟩
        · rw [hs1]
          exact TxV.of hr4
        · rw [hs2]
          exact TxV.of (Rd.chg Z3.out.2.2 hc4)
        · rw [hs2]
          exact TxV.of (Rd.chg HX.out.2.1 HC.out)
      have hall : Ap.Rd w4 (.slice so sm sc) xss.flatten := Rd.chg Z3.out.2.1 hc4
      have HF : Hid (∀ u, Chg w4 u → Calls Tryd.prog 10 #[.int .i64 q, .slice ko kn kc, .slice so sm sc] u fun r w' => ∃ o n c, r = .returned (.slice o n c) ∧ Chg u w' ∧ TxV w' (.slice o n c) s1) := by
        intro u hu
        refine (refMac_both q _ _ key xss.flatten u (Rd.chg HX.out.2.1 (HC.out.trans hu)) HX.out.2.2.1 (by have := HX.out.2.2.2.1; omega) (Rd.chg hall hu) HX.out.2.2.2.2.2.1 (by have := HX.out.2.2.2.2.2.2.1; omega)).mono ?_
        rintro r w' ⟨o, n, c, rfl, k1, k2, _⟩
        rw [hs1]
        exact ⟨o, n, c, rfl, k1, TxV.of k2⟩
      have HM : Hid (∀ u v, Chg w4 u → Pt u v [xss.flatten] → Calls Tryd.prog 9 #[.int .i64 q, .slice ko kn kc, v] u fun r w' => ∃ o n c, r = .returned (.slice o n c) ∧ Chg u w' ∧ TxV w' (.slice o n c) s1) := by
        intro u v hu hp
        refine (mac_both q _ v key [xss.flatten] u (HX.out.1.chg (HC.out.trans hu)) (Rd.chg HX.out.2.1 (HC.out.trans hu)) (by have := HX.out.2.2.2.1; omega) hp).mono ?_
        rintro r w' ⟨o, n, c, rfl, k1, k2⟩
        rw [show [xss.flatten].flatten = xss.flatten by simp] at k2
        rw [hs1]
        exact ⟨o, n, c, rfl, k1, TxV.of k2⟩
      have HP : Hid (∀ u, Chg w4 u → Pt (u.alloc (.cells #[.slice so sm sc] 23)) (.slice (some ⟨u.heap.size, 0, none⟩) 1 1) [xss.flatten]) := fun u hu => Pt.made1 (Chg.refl u) (Rd.slA (Rd.chg hall hu) (by have := HX.out.2.2.2.2.2.2.1; omega)) 23
      clear hs1 hs2 hc4 hr4 hall Z3 Z1
      go_wp2_with fail
      refine wp_region_noPanic ?_
      go_region_held (fun w' => (convert 23 9 (.slice ao am ac)).run Tryd.prog w' = .ok (.string s1) w' ∧ (convert 23 9 (.slice oo om oc)).run Tryd.prog w' = .ok (.string s2) w' ∧ (convert 23 9 (.slice ko kn kc)).run Tryd.prog w' = .ok (.string s2) w')
        (exact ⟨HT.out.1 _ (by first | exact (Chg.refl _).drew | exact ((Chg.refl _).alloc _).drew | exact (Chg.refl _).drew.alloc _ | assumption | exact Chg.alloc (by assumption) _), HT.out.2.1 _ (by first | exact (Chg.refl _).drew | exact ((Chg.refl _).alloc _).drew | exact (Chg.refl _).drew.alloc _ | assumption | exact Chg.alloc (by assumption) _), HT.out.2.2 _ (by first | exact (Chg.refl _).drew | exact ((Chg.refl _).alloc _).drew | exact (Chg.refl _).drew.alloc _ | assumption | exact Chg.alloc (by assumption) _)⟩)
        (first
        | (go_at_call 10; (refine (HF.out _ (by first | exact (Chg.refl _).drew | exact ((Chg.refl _).alloc _).drew | exact (Chg.refl _).drew.alloc _ | assumption | exact Chg.alloc (by assumption) _)).mono ?_; rintro e w6 ⟨yo, yn, yc, rfl, hc6, ht6⟩; have h68 : Chg w4 w6 := Chg.trans (by first | exact (Chg.refl _).drew | exact ((Chg.refl _).alloc _).drew | exact (Chg.refl _).drew.alloc _ | assumption | exact Chg.alloc (by assumption) _) hc6; have k6 := ht6 _ (Chg.refl _)))
        | (go_at_call 9; (refine (HM.out _ _ (by first | exact (Chg.refl _).drew | exact ((Chg.refl _).alloc _).drew | exact (Chg.refl _).drew.alloc _ | assumption | exact Chg.alloc (by assumption) _) (HP.out _ h68)).mono ?_; rintro e w7 ⟨zo, zn, zc, rfl, hc7, ht7⟩; have h78 : Chg w4 w7 := Chg.trans (by first | exact (Chg.refl _).drew | exact ((Chg.refl _).alloc _).drew | exact (Chg.refl _).drew.alloc _ | assumption | exact Chg.alloc (by assumption) _) hc7; have k7 := ht7 _ (Chg.refl _))))
      all_goals refine NoPanic.normal ?_
      all_goals go_wp2_with fail
      all_goals go_ret
      all_goals exact ⟨rfl, HC.out.trans h78⟩
end Go.Proofs.YtlahfenjmpomhaaDoor
