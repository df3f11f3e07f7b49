/-
  MacBegins, walked.
-/
import Derived.Test.YtlahfenjmpomhaaDoorExpN
import Derived.Test.YtlahfenjmpomhaaDoorHd
import Derived.Test.YtlahfenjmpomhaaDoorHlp
import Derived.Deep.CutBlock
import Derived.Deep.RegionHeld
namespace Go.Proofs.YtlahfenjmpomhaaDoor
open Go.RowKit
set_option linter.unusedVariables false

theorem gd_zero (n j : Nat) : gd (List.replicate n 0) j = 0 := by
  unfold gd
  rw [List.getD_eq_getElem?_getD, List.getElem?_replicate]
  split <;> rfl
theorem mac_blank (q : Int) (msg : List Int) : macL q [] msg = macL q (List.replicate (sizeOfH q) 0) msg := by
  by_cases hv : Valid q
  · have hb : ∀ x, blkK q [] x = blkK q (List.replicate (sizeOfH q) 0) x := by
      intro x
      unfold blkK
      refine List.map_congr_left fun j _ => ?_
      unfold blkF
      congr 1
      have hs : ¬ blockOf q < sizeOfH q := by rcases hv with rfl | rfl | rfl <;> decide
      have e1 : keyOf q [] = [] := by rw [keyOf, if_neg (by simp)]
      have e2 : keyOf q (List.replicate (sizeOfH q) 0) = List.replicate (sizeOfH q) 0 := by rw [keyOf, if_neg (by rw [List.length_replicate]; exact hs)]
      rw [e1, e2, gd_zero]
      rfl
    rw [macL, macL, hb 92, hb 54]
  · rw [macL, macL, sumL_none hv, sumL_none hv]
theorem Rd.zeros {w : World} {b n : Nat} (h : Ar w b (arr .u8 n fun _ => 0)) (hn : n ≤ 1000000) : Ap.Rd w (.slice (some ⟨b, 0, none⟩) n n) (List.replicate n 0) := by
  have := Rd.ofArr h hn
  have e : (List.range n).map (fun _ => (0 : Int)) = List.replicate n 0 := by
    apply List.ext_getElem?
    intro j
    by_cases hj : j < n
    · rw [List.getElem?_map, List.getElem?_range hj, List.getElem?_replicate, if_pos hj]
      rfl
    · rw [List.getElem?_eq_none (by simpa using hj), List.getElem?_eq_none (by simpa using hj)]
  rw [e] at this
  exact this
/-- Expand of fewer bytes than 2000, of any hash or none. -/
theorem expand_both (q : Int) (vk vi : Value) (key info : List Int) (n : Nat) (w : World) (ht : Tabs w) (hk : Ap.Rd w vk key) (hkl : key.length ≤ 140737488351232) (hi : Ap.Rd w vi info) (hil : info.length < 4611686018427387904) (hn : n < 2000) :
    Calls Tryd.prog 13 #[.int .i64 q, vk, vi, .int .i64 n] w fun r w' => ∃ o m c, r = .returned (.tuple #[.slice o m c, .int .i64 (if sizeOfH q = 0 then 1 else 0)]) ∧ Chg w w' ∧ Ap.Rd w' (.slice o m c) (if sizeOfH q = 0 then [] else expL q key info n) := by
  by_cases hv : Valid q
  · have hs := size_pos hv
    rw [if_neg (by omega), if_neg (by omega)]
    exact expand_any q vk vi key info n w hv ht hk hkl hi hil (by omega)
  · have hs : sizeOfH q = 0 := by
      unfold sizeOfH
      rw [if_neg (fun e => hv (.inl e)), if_neg (fun e => hv (.inr (.inl e))), if_neg (fun e => hv (.inr (.inr e)))]
    rw [if_pos hs, if_pos hs]
    refine (expand_none q n vk vi w (.inl hv)).mono ?_
    rintro r w' ⟨rfl, rfl⟩
    exact ⟨_, _, _, rfl, Chg.refl _, Ap.Rd.nil _⟩

set_option maxRecDepth 100000 in
set_option maxHeartbeats 8000000 in
theorem begins_walk (q : Int) (vk vi : Value) (key info : List Int) (n m : Nat) (w : World) (ht : Tabs w) (hk : Ap.Rd w vk key) (hi : Ap.Rd w vi info) (hkl : key.length ≤ 140737488351232) (hil : info.length ≤ 140737488351232) (hn : n < 65536) (hm : m < 65536) :
    Calls Tryd.prog 5 #[.int .i64 q, vk, vi, .int .u16 n, .int .u16 m] w fun e w' => e = .returned (.bool true) ∧ Chg w w' := by
  obtain ⟨ko, kn, kc, rfl, -⟩ := hk.shape
  obtain ⟨io, im, ic, rfl, -⟩ := hi.shape
  have HX : Hid (Tabs w ∧ Ap.Rd w (.slice ko kn kc) key ∧ Ap.Rd w (.slice io im ic) info ∧ key.length ≤ 140737488351232 ∧ info.length ≤ 140737488351232) := ⟨ht, hk, hi, hkl, hil⟩
  clear ht hk hi hkl hil
  obtain ⟨n2, hn2⟩ : ∃ n2 : Nat, n2 = n % 2000 := ⟨_, rfl⟩
  obtain ⟨m2, hm2⟩ : ∃ m2 : Nat, m2 = m % 2000 := ⟨_, rfl⟩
  have hq1 : (n : Int).tmod 2000 = n2 := by rw [Int.tmod_eq_emod_of_nonneg (by omega), hn2]; rfl
  have hq2 : (m : Int).tmod 2000 = m2 := by rw [Int.tmod_eq_emod_of_nonneg (by omega), hm2]; rfl
  have wn : IntKind.u16.wrap (n2 : Int) = n2 := by rw [IntKind.wrap_u16]; omega
  have wm : IntKind.u16.wrap (m2 : Int) = m2 := by rw [IntKind.wrap_u16]; omega
  have wn2 := wrap_i (x := (n2 : Int)) (by omega) (by omega)
  have wm2 := wrap_i (x := (m2 : Int)) (by omega) (by omega)
  have hnl : n2 < 2000 := by omega
  have hml : m2 < 2000 := by omega
  clear hn2 hm2 hn hm
  obtain ⟨E, hE⟩ : ∃ E : Int, E = if sizeOfH q = 0 then 1 else 0 := ⟨_, rfl⟩
  obtain ⟨xa, hxa⟩ : ∃ xa, xa = if sizeOfH q = 0 then [] else expL q key info n2 := ⟨_, rfl⟩
  obtain ⟨xb, hxb⟩ : ∃ xb, xb = if sizeOfH q = 0 then [] else expL q key info m2 := ⟨_, rfl⟩
  have HA : Hid (xa = (if sizeOfH q = 0 then [] else expL q key info n2) ∧ xb = (if sizeOfH q = 0 then [] else expL q key info m2) ∧ E = if sizeOfH q = 0 then 1 else 0) := ⟨hxa, hxb, hE⟩
  clear hE hxa hxb
  go_enter Tryd.func5, Tryd.ntmps5
  go_wp2_with fail
  refine (head_any w HX.out.1).mono ?_
  rintro e w1 ⟨rfl, hc1⟩
  have Z1 : Hid (Chg w w1) := hc1
  clear hc1
  go_wp2_with fail
  refine (expand_both q _ _ key info n2 w1 (HX.out.1.chg Z1.out) (Rd.chg HX.out.2.1 Z1.out) HX.out.2.2.2.1 (Rd.chg HX.out.2.2.1 Z1.out) (by have := HX.out.2.2.2.2; omega) hnl).mono ?_
  rintro e w2 ⟨ao, an, ac, rfl, hc2, hr2⟩
  rw [← HA.out.1] at hr2
  rw [← HA.out.2.2]
  have Z2 : Hid (Chg w w2 ∧ Ap.Rd w2 (.slice ao an ac) xa) := ⟨Z1.out.trans hc2, hr2⟩
  clear hc2 hr2 Z1
  go_wp2_with fail
  refine (expand_both q _ _ key info m2 w2 (HX.out.1.chg Z2.out.1) (Rd.chg HX.out.2.1 Z2.out.1) HX.out.2.2.2.1 (Rd.chg HX.out.2.2.1 Z2.out.1) (by have := HX.out.2.2.2.2; omega) hml).mono ?_
  rintro e w3 ⟨bo, bn, bc, rfl, hc3, hr3⟩
  rw [← HA.out.2.1] at hr3
  rw [← HA.out.2.2]
  have Z3 : Hid (Chg w w3 ∧ Ap.Rd w3 (.slice ao an ac) xa ∧ Ap.Rd w3 (.slice bo bn bc) xb) := ⟨Z2.out.1.trans hc3, Rd.chg Z2.out.2 hc3, hr3⟩
  obtain ⟨k, hk⟩ : ∃ k : Nat, k = min an bn := ⟨_, rfl⟩
  have ha1 : an ≤ ac ∧ an = xa.length := by obtain ⟨_, _, _, e, h1, h2, _⟩ := Z3.out.2.1; injection e with e1 e2 e3; subst e1 e2 e3; exact ⟨h2, h1⟩
  have hb1 : bn ≤ bc ∧ bn = xb.length := by obtain ⟨_, _, _, e, h1, h2, _⟩ := Z3.out.2.2; injection e with e1 e2 e3; subst e1 e2 e3; exact ⟨h2, h1⟩
  have hka : (k : Int) ≤ ac := by omega
  have hkb : (k : Int) ≤ bc := by omega
  have HK : Hid (k = min an bn ∧ an = xa.length ∧ bn = xb.length) := ⟨hk, ha1.2, hb1.2⟩
  clear hc3 hr3 Z2 ha1 hb1 hk
  go_upto_region 4 with fail
  go_cut [16] from 39 to 43 (fun v wc => v = .int .i64 k ∧ wc = w3)
  case first =>
    by_cases hbn : bn < an
    · have hkk : k = bn := by have := HK.out.1; omega
      go_wp2_with fail
      all_goals go_meet
      all_goals exact ⟨by rw [hkk], rfl⟩
    · have hkk : k = an := by have := HK.out.1; omega
      go_wp2_with fail
      all_goals go_meet
      all_goals exact ⟨by rw [hkk], rfl⟩
  obtain ⟨rfl, hwc⟩ := hcut
  subst hwc
  go_wp2_with fail
  refine (extract_any q (.slice none 0 0) (.slice ko kn kc) [] key wc (HX.out.1.chg Z3.out.1) (Ap.Rd.nil _) (by simp) (Rd.chg HX.out.2.1 Z3.out.1) (by have := HX.out.2.2.2.1; omega)).mono ?_
  rintro e w5 ⟨zo, zn, zc, rfl, hc5, hr5⟩
  have hzn : zn = sizeOfH q := by
    obtain ⟨_, _, _, e, h1, _⟩ := hr5
    injection e with e1 e2 e3
    subst e1 e2 e3
    rw [h1, macL_len]
  have hzs : zn ≤ 64 := by rw [hzn]; exact size_le q
  obtain ⟨s1, hs1⟩ : ∃ s, s = strOfNums (xa.take k) := ⟨_, rfl⟩
  obtain ⟨s2, hs2⟩ : ∃ s, s = strOfNums (macL q [] key) := ⟨_, rfl⟩
  have hab : xa.take k = xb.take k := by
    obtain ⟨e1, e2, e3⟩ := HK.out
    obtain ⟨f1, f2, _⟩ := HA.out
    by_cases h0 : sizeOfH q = 0
    · rw [if_pos h0] at f1 f2
      rw [f1, f2]
    · rw [if_neg h0] at f1 f2
      have l1 : xa.length ≤ n2 := by rw [f1, expL, List.length_take]; omega
      have l2 : xb.length ≤ m2 := by rw [f2, expL, List.length_take]; omega
      rw [f1, f2, expL_take q key info n2 k (by omega), expL_take q key info m2 k (by omega)]
  have ta : TxV w5 (.slice ao k ac) s1 := by
    rw [hs1]
    exact TxV.of (Rd.take (Rd.chg Z3.out.2.1 hc5) (by have := HK.out.1; omega))
  have tb : TxV w5 (.slice bo k bc) s1 := by
    rw [hs1, hab]
    exact TxV.of (Rd.take (Rd.chg Z3.out.2.2 hc5) (by have := HK.out.1; omega))
  have tz : TxV w5 (.slice zo zn zc) s2 := by
    rw [hs2]
    exact TxV.of hr5
  have HC : Hid (Chg w w5) := Z3.out.1.trans hc5
  have HT : Hid (TxV w5 (.slice ao k ac) s1 ∧ TxV w5 (.slice bo k bc) s1 ∧ TxV w5 (.slice zo zn zc) s2) := ⟨ta, tb, tz⟩
  have hmk := mk8 zn (by omega)
  have HE : Hid (∀ u, Chg w5 u → Calls Tryd.prog 11 #[.int .i64 q, .slice (some ⟨u.heap.size, 0, none⟩) zn zn, .slice ko kn kc] (u.alloc (.cells (arr .u8 zn fun _ => 0) 5)) fun r w' => ∃ o n c, r = .returned (.slice o n c) ∧ Chg u w' ∧ TxV w' (.slice o n c) s2) := by
    intro u hu
    have q1 : Chg u (u.alloc (.cells (arr .u8 zn fun _ => 0) 5)) := (Chg.refl u).alloc _
    have hcu := (HC.out.trans hu).trans q1
    refine (extract_any q _ _ (List.replicate zn 0) key _ (HX.out.1.chg hcu) (Rd.zeros (Ar.new u _ _) (by omega)) (by rw [List.length_replicate]; omega) (Rd.chg HX.out.2.1 hcu) (by have := HX.out.2.2.2.1; omega)).mono ?_
    rintro r w' ⟨o, n, c, rfl, k1, k2⟩
    refine ⟨o, n, c, rfl, q1.trans k1, ?_⟩
    rw [hs2, mac_blank q key, ← hzn]
    exact TxV.of k2
  clear hs1 hs2 hab ta tb tz hc5 hr5 Z3 hzn
  go_wp2_with fail
  refine wp_region_noPanic ?_
  go_region_held (fun w' => (convert 23 9 (.slice ao k ac)).run Tryd.prog w' = .ok (.string s1) w' ∧ (convert 23 9 (.slice bo k bc)).run Tryd.prog w' = .ok (.string s1) w' ∧ (convert 23 9 (.slice zo zn zc)).run Tryd.prog w' = .ok (.string s2) w')
    (exact ⟨HT.out.1 _ (by first | exact (Chg.refl _).drew | exact ((Chg.refl _).alloc _).drew | exact (Chg.refl _).drew.alloc _ | assumption | exact Chg.alloc (by assumption) _), HT.out.2.1 _ (by first | exact (Chg.refl _).drew | exact ((Chg.refl _).alloc _).drew | exact (Chg.refl _).drew.alloc _ | assumption | exact Chg.alloc (by assumption) _), HT.out.2.2 _ (by first | exact (Chg.refl _).drew | exact ((Chg.refl _).alloc _).drew | exact (Chg.refl _).drew.alloc _ | assumption | exact Chg.alloc (by assumption) _)⟩)
    (first
    | (go_at_call 11; (refine (HE.out _ (by first | exact (Chg.refl _).drew | exact ((Chg.refl _).alloc _).drew | exact (Chg.refl _).drew.alloc _ | assumption | exact Chg.alloc (by assumption) _)).mono ?_; rintro e w6 ⟨yo, yn, yc, rfl, hc6, ht6⟩; have h68 : Chg w5 w6 := Chg.trans (by first | exact (Chg.refl _).drew | exact ((Chg.refl _).alloc _).drew | exact (Chg.refl _).drew.alloc _ | assumption | exact Chg.alloc (by assumption) _) hc6; have k6 := ht6 _ (Chg.refl _))))
  all_goals refine NoPanic.normal ?_
  all_goals go_wp2_with fail
  all_goals go_ret
  all_goals exact ⟨rfl, HC.out.trans h68⟩
end Go.Proofs.YtlahfenjmpomhaaDoor
