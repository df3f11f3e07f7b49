/-
  MacParts, walked.
-/
import Derived.Test.YtlahfenjmpomhaaDoorRg8
import Derived.Test.YtlahfenjmpomhaaDoorApZ
import Derived.Test.YtlahfenjmpomhaaDoorHd
import Derived.Deep.CutBlock
namespace Go.Proofs.YtlahfenjmpomhaaDoor
open Go.RowKit
set_option linter.unusedVariables false

set_option maxRecDepth 100000 in
set_option maxHeartbeats 8000000 in
theorem parts_none (q : Int) (vk va vb : Value) (xk xa xb : List Int) (w : World) (hv : ¬ Valid q) (ht : Tabs w) (hk : Ap.Rd w vk xk) (ha : Ap.Rd w va xa) (hb : Ap.Rd w vb xb) :
    Calls Tryd.prog 7 #[.int .i64 q, vk, va, vb] w fun e w' => e = .returned (.bool true) ∧ Chg w w' := by
  obtain ⟨ko, km, kc, rfl, -⟩ := hk.shape
  obtain ⟨ao, am, ac, rfl, -⟩ := ha.shape
  obtain ⟨bo, bm, bc, rfl, -⟩ := hb.shape
  have hB : blockOf q = 0 := by
    unfold blockOf
    rw [if_neg (fun e => hv (.inl e)), if_neg (fun e => hv (.inr (.inl e))), if_neg (fun e => hv (.inr (.inr e)))]
  have HBk : Hid (∀ u, Calls Tryd.prog 16 #[.int .i64 q] u fun r w' => r = .returned (.int .i64 0) ∧ w' = u) := by
    intro u
    have := block_any q u
    rw [hB] at this
    exact this
  have HX : Hid (¬ Valid q ∧ Tabs w) := ⟨hv, ht⟩
  clear hv ht hk ha hb hB
  go_enter Tryd.func7, Tryd.ntmps7
  go_wp2_with fail
  refine (head_any w HX.out.2).mono ?_
  rintro e w1 ⟨rfl, hc1⟩
  have Z1 : Hid (Chg w w1) := hc1
  clear hc1
  go_wp2_with (first | (go_at_call 16; (refine (HBk.out _).mono ?_; rintro r' w5 ⟨rfl, hw5⟩; rw [hw5]; clear hw5 w5)) | (go_at_call 9; (refine (mac_none q _ _ _ HX.out.1).mono ?_; rintro r' w6 ⟨rfl, hw6⟩; rw [hw6]; clear hw6 w6)))
  go_ret
  exact ⟨rfl, Z1.out.alloc _⟩

set_option maxRecDepth 100000 in
set_option maxHeartbeats 8000000 in
theorem parts_walk (q : Int) (vk va vb : Value) (xk xa xb : List Int) (w : World) (hv : Valid q) (ht : Tabs w) (hk : Ap.Rd w vk xk) (ha : Ap.Rd w va xa) (hb : Ap.Rd w vb xb) (hkl : xk.length ≤ 1048576) (hal : xa.length ≤ 1048576) (hbl : xb.length ≤ 1048576) :
    Calls Tryd.prog 7 #[.int .i64 q, vk, va, vb] w fun e w' => e = .returned (.bool true) ∧ Chg w w' := by
  obtain ⟨ko, km, kc, rfl, -⟩ := hk.shape
  obtain ⟨ao, am, ac, rfl, -⟩ := ha.shape
  obtain ⟨bo, bm, bc, rfl, -⟩ := hb.shape
  obtain ⟨B, hB⟩ : ∃ B, B = blockOf q := ⟨_, rfl⟩
  have hBb : 64 ≤ B ∧ B ≤ 128 := by rw [hB]; exact hv.pos
  have HBk : Hid (∀ u, Calls Tryd.prog 16 #[.int .i64 q] u fun r w' => r = .returned (.int .i64 B) ∧ w' = u) := by
    intro u
    rw [hB]
    exact block_any q u
  have hB0 : ((B : Int) == 0) = false := by simp; omega
  have hB0' : ¬ (B : Int) = 0 := by omega
  obtain ⟨B1, hB1⟩ : ∃ B1 : Nat, (B : Int) + 1 = B1 := ⟨B + 1, by omega⟩
  have wB1 := wrap_i (x := (B1 : Int)) (by omega) (by omega)
  have HX : Hid (Valid q ∧ Tabs w ∧ B = blockOf q ∧ Ap.Rd w (.slice ko km kc) xk ∧ Ap.Rd w (.slice ao am ac) xa ∧ Ap.Rd w (.slice bo bm bc) xb ∧ xk.length ≤ 1048576 ∧ xa.length ≤ 1048576 ∧ xb.length ≤ 1048576) := ⟨hv, ht, hB, hk, ha, hb, hkl, hal, hbl⟩
  clear hv ht hk ha hb hkl hal hbl hB
  go_enter Tryd.func7, Tryd.ntmps7
  go_wp2_with fail
  refine (head_any w HX.out.2.1).mono ?_
  rintro e w1 ⟨rfl, hc1⟩
  have Z1 : Hid (Chg w w1 ∧ Ap.Rd (w1.alloc (.cells #[] 5)) (.slice ko km kc) xk) := ⟨hc1, Rd.chg HX.out.2.2.2.1 (hc1.alloc _)⟩
  clear hc1
  go_wp2_with (first | (go_at_call 16; (refine (HBk.out _).mono ?_; rintro r' w5 ⟨rfl, hw5⟩; rw [hw5]; clear hw5 w5)) | (at_builtin; refine Ap.wpList_app _ rfl _ _ rfl (.slice (some ⟨w1.heap.size, 0, none⟩) 0 0) (.slice ko km kc) [] xk rfl rfl (OwnV.empty w1) Z1.out.2 (by have := HX.out.2.2.2.2.2.2.1; simp; omega) ?_))
  intro v2 w2 o2 c2 b2
  obtain ⟨po, pm, pc, rfl, -⟩ := o2.rd.shape
  have Z2 : Hid (OwnN w1 w2 (.slice po pm pc) xk ∧ Chg w w1) := by
    have k0 : OwnN w1 (w1.alloc (.cells #[] 5)) (.slice (some ⟨w1.heap.size, 0, none⟩) 0 0) [] := ⟨OwnV.empty w1, fun k e => by simp [Value.ownBlock] at e; omega, (Ap.Chg.refl _ w1).alloc _⟩
    have k := k0.more o2 c2 (by first | exact b2 | (rw [World.size_alloc]; exact b2))
    refine ⟨?_, Z1.out.1⟩
    simpa using k
  clear o2 c2 b2 Z1
  go_wp2_with (at_builtin; refine wpList_appZ _ rfl _ _ rfl (.slice po pm pc) B1 xk rfl rfl Z2.out.1.own (by omega) (by have := HX.out.2.2.2.2.2.2.1; omega) ?_)
  intro v3 w3 o3 c3 b3
  obtain ⟨lo, lm, lc, rfl, -⟩ := o3.rd.shape
  obtain ⟨xl, hxl⟩ : ∃ xl, xl = xk ++ List.replicate B1 (0 : Int) := ⟨_, rfl⟩
  have Z3 : Hid (Chg w w3 ∧ Ap.Rd w3 (.slice lo lm lc) xl ∧ B < xl.length ∧ xl.length ≤ 1048800) := by
    have k := Z2.out.1.more o3 c3 b3
    rw [← hxl] at k
    have hk := HX.out.2.2.2.2.2.2.1
    have hlen : xl.length = xk.length + B1 := by rw [hxl]; simp
    exact ⟨Z2.out.2.trans (Chg.ofAp k.chg), k.own.rd, by omega, by omega⟩
  clear o3 c3 b3 Z2 hxl
  have Z3a : Hid (Ap.Rd (w3.alloc (.cells #[] 5)) (.slice ao am ac) xa) := Rd.chg HX.out.2.2.2.2.1 (Z3.out.1.alloc _)
  go_wp2_with (at_builtin; refine Ap.wpList_app _ rfl _ _ rfl (.slice (some ⟨w3.heap.size, 0, none⟩) 0 0) (.slice ao am ac) [] xa rfl rfl (OwnV.empty w3) Z3a.out (by have := HX.out.2.2.2.2.2.2.2.1; simp; omega) ?_)
  intro v4 w4 o4 c4 b4
  obtain ⟨ro, rm, rc, rfl, -⟩ := o4.rd.shape
  have Z4 : Hid (OwnN w3 w4 (.slice ro rm rc) xa) := by
    have k0 : OwnN w3 (w3.alloc (.cells #[] 5)) (.slice (some ⟨w3.heap.size, 0, none⟩) 0 0) [] := ⟨OwnV.empty w3, fun k e => by simp [Value.ownBlock] at e; omega, (Ap.Chg.refl _ w3).alloc _⟩
    have k := k0.more o4 c4 (by first | exact b4 | (rw [World.size_alloc]; exact b4))
    show OwnN _ _ _ _
    simpa using k
  clear o4 c4 b4 Z3a
  go_wp2_with (at_builtin; refine Ap.wpList_app _ rfl _ _ rfl (.slice ro rm rc) (.slice bo bm bc) xa xb rfl rfl Z4.out.own (Rd.chg HX.out.2.2.2.2.2.1 (Z3.out.1.trans (Chg.ofAp Z4.out.chg))) (by have := HX.out.2.2.2.2.2.2.2; omega) ?_)
  intro v5 w5 o5 c5 b5
  obtain ⟨eo, em, ec, rfl, -⟩ := o5.rd.shape
  have Z5 : Hid (Chg w w5 ∧ Ap.Rd w5 (.slice lo lm lc) xl ∧ Ap.Rd w5 (.slice eo em ec) (xa ++ xb)) := by
    have k := Z4.out.more o5 c5 b5
    exact ⟨Z3.out.1.trans (Chg.ofAp k.chg), Rd.chg Z3.out.2.1 (Chg.ofAp k.chg), k.own.rd⟩
  clear o5 c5 b5 Z4
  obtain ⟨s, hs⟩ : ∃ s, s = strOfNums (macL q xk (xa ++ xb)) := ⟨_, rfl⟩
  have HM : Hid (∀ u v xss, Chg w u → Pt u v xss → xss.flatten = xa ++ xb → Calls Tryd.prog 9 #[.int .i64 q, .slice ko km kc, v] u fun r w' => ∃ o k c, r = .returned (.slice o k c) ∧ Chg u w' ∧ TxV w' (.slice o k c) s) := by
    intro u v xss hu hp he
    refine (mac_both q _ v xk xss u (HX.out.2.1.chg hu) (Rd.chg HX.out.2.2.2.1 hu) (by have := HX.out.2.2.2.2.2.2.1; omega) hp).mono ?_
    rintro r w' ⟨o, k, c, rfl, k1, k2⟩
    rw [he] at k2
    rw [hs]
    exact ⟨o, k, c, rfl, k1, TxV.of k2⟩
  clear hs
  have HP1 : Hid (Pt (w5.alloc (.cells #[.slice eo em ec] 23)) (.slice (some ⟨w5.heap.size, 0, none⟩) 1 1) [xa ++ xb]) := Pt.made1 (Chg.refl w5) (Rd.slA Z5.out.2.2 (by have := HX.out.2.2.2.2.2.2.2; rw [List.length_append]; omega)) 23
  go_wp2_with (go_at_call 9; (refine (HM.out _ _ [xa ++ xb] (Z5.out.1.alloc _) HP1.out (by simp)).mono ?_; rintro e w6 ⟨fo, fm, fc, rfl, hc6, ht6⟩; have k6 := ht6 _ (Chg.refl _)))
  have Z6 : Hid (Chg w w6 ∧ Ap.Rd w6 (.slice lo lm lc) xl) := by
    have k : Chg w5 w6 := ((Chg.refl w5).alloc _).trans hc6
    exact ⟨Z5.out.1.trans k, Rd.chg Z5.out.2.1 k⟩
  clear hc6 ht6 k6 Z5 HP1
  refine sum7_any q lo ao lm lc am ac xl xa w6 HX.out.1 (HX.out.2.1.chg Z6.out.1) (Rd.chg HX.out.2.2.2.2.1 Z6.out.1) (by have := HX.out.2.2.2.2.2.2.2.1; omega) Z6.out.2 (by have := Z3.out.2.2.2; omega) (by rw [← HX.out.2.2.1]; exact Z3.out.2.2.1) ?_
  intro u47 u48 u49 u50 u51 u52 u53 u54 u55 u56 u57 u58 u59 u60 u61 u62 w7 c7
  have Z7 : Hid (Chg w w7) := Z6.out.1.trans c7
  clear c7 Z6 Z3
  go_wp2_with fail
  refine sum8_any q B ko ao km kc am ac xk xa w7 HX.out.1 HX.out.2.2.1 (HX.out.2.1.chg Z7.out) (Rd.chg HX.out.2.2.2.2.1 Z7.out) HX.out.2.2.2.2.2.2.2.1 (Rd.chg HX.out.2.2.2.1 Z7.out) HX.out.2.2.2.2.2.2.1 ?_
  intro u63 u64 u65 u66 u67 u68 u69 u70 u71 u72 u73 u74 u75 u76 u77 u78 u79 u80 u81 u82 u83 u84 u85 u86 u87 u88 w8 c8
  have Z8 : Hid (Chg w w8) := Z7.out.trans c8
  clear c8 Z7
  have HP2 : Hid (∀ u, Chg w u → Pt (u.alloc (.cells #[.slice ao am ac, .slice bo bm bc] 23)) (.slice (some ⟨u.heap.size, 0, none⟩) 2 2) [xa, xb]) := fun u hu => Pt.made2 hu (Rd.slA HX.out.2.2.2.2.1 (by have := HX.out.2.2.2.2.2.2.2; omega)) (Rd.slA HX.out.2.2.2.2.2.1 (by have := HX.out.2.2.2.2.2.2.2; omega)) 23
  have HP3 : Hid (∀ u, Chg w u → Pt (u.alloc (.cells #[.slice ao am ac, .slice none 0 0, .slice bo bm bc] 23)) (.slice (some ⟨u.heap.size, 0, none⟩) 3 3) [xa, [], xb]) := fun u hu => Pt.made3 hu (Rd.slA HX.out.2.2.2.2.1 (by have := HX.out.2.2.2.2.2.2.2; omega)) (.inl ⟨rfl, rfl⟩) (Rd.slA HX.out.2.2.2.2.2.1 (by have := HX.out.2.2.2.2.2.2.2; omega)) 23
  go_wp2_with (first
    | (go_at_call_of 9 (Value.slice (some ⟨w8.heap.size, 0, none⟩) 2 2); (refine (HM.out _ _ [xa, xb] (Z8.out.alloc _) (HP2.out _ Z8.out) (by simp)).mono ?_; rintro e w9 ⟨fo2, fm2, fc2, rfl, hc9, ht9⟩; have k9 := ht9 _ (Chg.refl _); have h9 : Chg w w9 := (Z8.out.alloc _).trans hc9))
    | (go_at_call 9; (refine (HM.out _ _ [xa, [], xb] (h9.alloc _) (HP3.out _ h9) (by simp)).mono ?_; rintro e wa ⟨fo3, fm3, fc3, rfl, hca, hta⟩; have ka := hta _ (Chg.refl _); have h10 : Chg w wa := (h9.alloc _).trans hca)))
  go_ret
  exact ⟨rfl, h10⟩
end Go.Proofs.YtlahfenjmpomhaaDoor
