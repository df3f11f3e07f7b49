/-
  A block that is encrypted under a key: the method Encrypt.
-/
import Derived.Test.YtobglgddbhddnaaKey
import Derived.Test.YtobglgddbhddnaaBxs
namespace Go.Proofs.Ytobglgddbhddnaa
open Go.RowKit
set_option linter.unusedVariables false

set_option maxRecDepth 100000 in
set_option maxHeartbeats 4000000 in
theorem encrypt_any (K R : Nat) (k b : Nat → By) (w : World) (hK : Ar w K (keyC R k)) (hR : R = 10 ∨ R = 14) :
    Calls Try.prog 39 #[.pointer (some ⟨K, 0, none⟩), .agg (ba 16 b)] w fun r w' => r = .returned (.agg (ba 16 (enc R k b))) ∧ Chg w w' := by
  have hsA := ba_size 16 b
  obtain ⟨A, hA⟩ : ∃ A, A = ba 16 b := ⟨_, rfl⟩
  have HA : Hid (A = ba 16 b) := hA
  have HK : Hid (Ar w K (keyC R k) ∧ (R = 10 ∨ R = 14)) := ⟨hK, hR⟩
  rw [← hA] at hsA ⊢
  clear hA hK hR
  have hz := zero32.1
  have hz2 := zero47.1
  go_enter Try.func39, Try.ntmps39
  go_wp2_with fail
  obtain ⟨w2, hw2⟩ : ∃ w2, w2 = (w.alloc (.cells A 60)).alloc (.cells (ba 16 zB) 60) := ⟨_, rfl⟩
  have Z : Hid (EnS w w2 b) := by
    rw [hw2, HA.out]
    exact ⟨((Chg.refl w).alloc _).alloc _, (Ar.new w _ _).alloc _, Ar.new1 w _ _ _⟩
  rw [← hw2]
  clear hw2 hsA
  go_at_call 35
  refine (boxes_any _).mono ?_
  rintro r w3 ⟨rfl, hc3⟩
  have Z3 : Hid (EnS w w3 b) := Z.out.chg hc3
  clear hc3 Z
  have hsz := szB sbF zero47.2
  have hlen := lenB 256 zB sbF
  have hone := ba_one 256 sbF
  obtain ⟨T, hT⟩ : ∃ T, T = ba 256 sbF := ⟨_, rfl⟩
  have HT : Hid (T = ba 256 sbF) := hT
  rw [← hT] at hsz hlen hone ⊢
  clear hT
  obtain ⟨t1, g1⟩ : ∃ t, ((w3.alloc (.cells (ba 256 zB) 75)).setRow w3.heap.size T).heap[w.heap.size]? = some (.cells (ba 16 b) t (0, 0)) := (Z3.out.2.1.alloc _).rowOther (Nat.ne_of_lt Z3.out.2.1.lt) _
  have hs1 := szB b zero32.2
  go_wp2_with (first | refine wpList_store_row rfl 75 _ _ rfl _ _ rfl rfl _ _ (heap_alloc_last w3 _) hsz hlen hone ?_ | refine wpList_load_row rfl 60 _ rfl _ rfl _ _ _ _ g1 und32 rfl hs1 ?_)
  clear g1 hs1
  obtain ⟨w4, hw4⟩ : ∃ w4, w4 = (w3.alloc (.cells (ba 256 zB) 75)).setRow w3.heap.size T := ⟨_, rfl⟩
  have Z4 : Hid (EnS w w4 b ∧ Ar w4 w3.heap.size (ba 256 sbF)) := by
    rw [hw4, ← HT.out]
    have h1 := Z3.out.2.1.lt
    have h2 := Z3.out.2.2.lt
    exact ⟨⟨(Z3.out.1.alloc _).setRow Z3.out.1.size _, (Z3.out.2.1.alloc _).rowOther (by omega) _, (Z3.out.2.2.alloc _).rowOther (by omega) _⟩, (Ar.new w3 _ _).row _⟩
  rw [← hw4]
  clear hw4 Z3 hsz hlen hone hz hz2
  go_at_call 36
  refine (encrypted_any K w3.heap.size R k b w4 (HK.out.1.chg Z4.out.1.1) Z4.out.2 HK.out.2).mono ?_
  rintro r w5 ⟨rfl, hc5⟩
  have Z5 : Hid (EnS w w5 b) := Z4.out.1.chg hc5
  clear hc5 Z4
  obtain ⟨g, hg⟩ : ∃ g, g = enc R k b := ⟨_, rfl⟩
  have HG : Hid (g = enc R k b) := hg
  rw [← hg]
  clear hg
  obtain ⟨t3, g3⟩ := Z5.out.2.2
  have hsz := szB g zero32.2
  have hlen := lenB 16 zB g
  have hone := ba_one 16 g
  go_wp2_with (first | refine wpList_store_row rfl 60 _ _ rfl _ _ rfl rfl _ _ g3 hsz hlen hone ?_)
  refine bp_c (n := 16) (c := ba 16 g) Try.results39 rfl rfl ?_ und32 i32 (ba_size _ _) ⟨by rw [HG.out], ?_⟩
  · exact Z5.out.2.2.row _
  · exact Z5.out.1.setRow (by omega) _
end Go.Proofs.Ytobglgddbhddnaa
