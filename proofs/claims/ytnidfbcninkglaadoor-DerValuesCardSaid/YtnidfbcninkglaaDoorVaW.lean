/-
  DerValues, walked.
-/
import Derived.Test.YtnidfbcninkglaaDoorHd
import Derived.Test.YtnidfbcninkglaaDoorOr
import Derived.Test.YtnidfbcninkglaaDoorVc
import Derived.Test.YtnidfbcninkglaaDoorVd
namespace Go.Proofs.YtnidfbcninkglaaDoor
open Go.RowKit
set_option linter.unusedVariables false
set_option maxRecDepth 100000

set_option maxHeartbeats 6400000 in
theorem values_walk (v : Value) (xs : List Int) (w : World) (ht : Tab w) (hv : Rd w v xs) (hb : Byt xs) (hl : xs.length ≤ 140737488355328) :
    Calls Tryd.prog 5 #[v] w fun e w' => e = .returned (.bool true) ∧ Chg Non w w' := by
  have HT : Hid (Tab w) := ht
  have HV : Hid (Rd w v xs) := hv
  have HB : Hid (Byt xs) := hb
  have HL : Hid (xs.length ≤ 140737488355328) := hl
  obtain ⟨e1, he1⟩ : ∃ e1, e1 = numE xs := ⟨_, rfl⟩
  obtain ⟨s1, hs1⟩ : ∃ s1, s1 = strOfNums (numR xs) := ⟨_, rfl⟩
  obtain ⟨e2, he2⟩ : ∃ e2, e2 = smallE xs := ⟨_, rfl⟩
  obtain ⟨n2, hn2⟩ : ∃ n2, n2 = smallR xs := ⟨_, rfl⟩
  obtain ⟨e3, he3⟩ : ∃ e3, e3 = boolE xs := ⟨_, rfl⟩
  obtain ⟨b3, hb3⟩ : ∃ b3, b3 = boolR xs := ⟨_, rfl⟩
  obtain ⟨e4, he4⟩ : ∃ e4, e4 = bitsE xs := ⟨_, rfl⟩
  obtain ⟨n4, hn4⟩ : ∃ n4, n4 = bitsU xs := ⟨_, rfl⟩
  obtain ⟨s4, hs4⟩ : ∃ s4, s4 = strOfNums (bitsR xs) := ⟨_, rfl⟩
  obtain ⟨e5, he5⟩ : ∃ e5, e5 = oidE xs := ⟨_, rfl⟩
  obtain ⟨s5, hs5⟩ : ∃ s5, s5 = bs (oidS xs) := ⟨_, rfl⟩
  have K16 : Hid (∀ u, Chg Non w u → Calls Tryd.prog 16 #[v] u fun e w' => ∃ v', e = .returned (.tuple #[v', .int .i64 e1]) ∧ OwnN u w' v' (numR xs)) := fun u hu => by rw [he1]; exact num_any v xs hb u (hv.chg hu)
  have K17 : Hid (∀ u, Chg Non w u → Calls Tryd.prog 17 #[v] u fun e w' => ∃ v', e = .returned (.tuple #[v', .int .i64 e1]) ∧ OwnN u w' v' (numR xs)) := fun u hu => by rw [he1]; exact rnum_any v xs hb u (hv.chg hu)
  have K18 : Hid (∀ u, Chg Non w u → Calls Tryd.prog 18 #[v] u fun e w' => e = .returned (.tuple #[.int .i64 n2, .int .i64 e2]) ∧ Chg Non u w') := fun u hu => by rw [he2, hn2]; exact small_any v xs hb u (hv.chg hu)
  have K19 : Hid (∀ u, Chg Non w u → Calls Tryd.prog 19 #[v] u fun e w' => e = .returned (.tuple #[.int .i64 n2, .int .i64 e2]) ∧ Chg Non u w') := fun u hu => by rw [he2, hn2]; exact rsmall_any v xs hb u (hv.chg hu)
  have K20 : Hid (∀ u, Chg Non w u → Calls Tryd.prog 20 #[v] u fun e w' => e = .returned (.tuple #[.bool b3, .int .i64 e3]) ∧ w' = u) := fun u hu => by rw [he3, hb3]; exact bool_any v xs hb u (hv.chg hu)
  have K21 : Hid (∀ u, Chg Non w u → Calls Tryd.prog 21 #[v] u fun e w' => e = .returned (.tuple #[.bool b3, .int .i64 e3]) ∧ w' = u) := fun u hu => by rw [he3, hb3]; exact rbool_any v xs hb u (hv.chg hu)
  have K22 : Hid (∀ u, Chg Non w u → Calls Tryd.prog 22 #[v] u fun e w' => ∃ v', e = .returned (.tuple #[v', .int .i64 n4, .int .i64 e4]) ∧ OwnN u w' v' (bitsR xs)) := fun u hu => by rw [he4, hn4]; exact bits_any v xs hb u (hv.chg hu) hl
  have K23 : Hid (∀ u, Chg Non w u → Calls Tryd.prog 23 #[v] u fun e w' => ∃ v', e = .returned (.tuple #[v', .int .i64 n4, .int .i64 e4]) ∧ OwnN u w' v' (bitsR xs)) := fun u hu => by rw [he4, hn4]; exact rbits_any v xs hb u (hv.chg hu) hl
  have K24 : Hid (∀ u, Chg Non w u → Calls Tryd.prog 24 #[v] u fun e w' => e = .returned (.tuple #[.string s5, .int .i64 e5]) ∧ Chg Non u w') := fun u hu => by rw [he5, hs5]; exact oid_any v xs hb u (hv.chg hu) (ht.non hu)
  have K25 : Hid (∀ u, Chg Non w u → Calls Tryd.prog 25 #[v] u fun e w' => e = .returned (.tuple #[.string s5, .int .i64 e5]) ∧ Chg Non u w') := fun u hu => by rw [he5, hs5]; exact roid_any v xs hb u (hv.chg hu) (ht.non hu) hl
  have HS1 : Hid (s1 = strOfNums (numR xs)) := hs1
  have HS4 : Hid (s4 = strOfNums (bitsR xs)) := hs4
  clear he1 hs1 he2 hn2 he3 hb3 he4 hn4 hs4 he5 hs5 ht hv hb hl
  go_enter Tryd.func5, Tryd.ntmps5
  go_wp2_with (go_at_call 9; refine (head_any _ HT.out).mono ?_)
  rintro e w1 ⟨rfl, hc1⟩
  have C1 : Hid (Chg Non w w1) := hc1
  clear hc1
  go_wp2_with (go_at_call 16; refine (K16.out _ C1.out).mono ?_)
  rintro e w2 ⟨v2, rfl, hv2⟩
  have C2 : Hid (Chg Non w w2) := C1.out.two hv2.chg
  go_wp2_with (go_at_call 17; refine (K17.out _ C2.out).mono ?_)
  rintro e w3 ⟨v3, rfl, hv3⟩
  have C3 : Hid (Chg Non w w3) := C2.out.two hv3.chg
  have k1 := run_str w3 v2 _ (hv2.rd.chg hv3.chg)
  have k2 := run_str w3 v3 _ hv3.rd
  rw [← HS1.out] at k1 k2
  obtain ⟨ao1, m1, c1, rfl, -, -, -⟩ := hv2.rd.shape
  obtain ⟨ao2, m2, c2, rfl, -, -, -⟩ := hv3.rd.shape
  clear hv2 hv3
  go_wp2_with (first
    | (go_at_call 18; refine (K18.out _ C3.out).mono ?_; rintro e w4 ⟨rfl, hc4⟩; have C4 : Hid (Chg Non w w4) := C3.out.two hc4; clear hc4)
    | (go_at_call 19; refine (K19.out _ C4.out).mono ?_; rintro e w5 ⟨rfl, hc5⟩; have C5 : Hid (Chg Non w w5) := C4.out.two hc5; clear hc5)
    | (go_at_call 20; refine (K20.out _ C5.out).mono ?_; rintro e w9 ⟨rfl, hw9⟩; obtain rfl := hw9.symm)
    | (go_at_call 21; refine (K21.out _ C5.out).mono ?_; rintro e w9 ⟨rfl, hw9⟩; obtain rfl := hw9.symm)
    | (go_at_call 22; refine (K22.out _ C5.out).mono ?_))
  rintro e w6 ⟨v6, rfl, hv6⟩
  have C6 : Hid (Chg Non w w6) := C5.out.two hv6.chg
  go_wp2_with (go_at_call 23; refine (K23.out _ C6.out).mono ?_)
  rintro e w7 ⟨v7, rfl, hv7⟩
  have C7 : Hid (Chg Non w w7) := C6.out.two hv7.chg
  have k3 := run_str w7 v6 _ (hv6.rd.chg hv7.chg)
  have k4 := run_str w7 v7 _ hv7.rd
  rw [← HS4.out] at k3 k4
  obtain ⟨ao3, m3, c3, rfl, -, -, -⟩ := hv6.rd.shape
  obtain ⟨ao4, m4, c4, rfl, -, -, -⟩ := hv7.rd.shape
  clear hv6 hv7 k1 k2
  go_wp2_with (first
    | (go_at_call 24; refine (K24.out _ C7.out).mono ?_; rintro e w8 ⟨rfl, hc8⟩; have C8 : Hid (Chg Non w w8) := C7.out.two hc8; clear hc8)
    | (go_at_call 25; refine (K25.out _ C8.out).mono ?_; rintro e w9 ⟨rfl, hc9⟩; have C9 : Hid (Chg Non w w9) := C8.out.two hc9; clear hc9))
  go_ret
  exact ⟨rfl, C9.out⟩
end Go.Proofs.YtnidfbcninkglaaDoor
