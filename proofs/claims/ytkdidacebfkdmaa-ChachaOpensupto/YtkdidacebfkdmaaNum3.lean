/-
  The number of bytes; a piece that is marked; the halves of a key; the least number.
-/
import Derived.Test.YtkdidacebfkdmaaNum2
import Derived.Test.YtkdidacebfkdmaaRBk
namespace Go.Proofs.Ytkdidacebfkdmaa
open Go.RowKit
set_option linter.unusedVariables false

theorem und53 : Try.prog.underlying 53 = some (.array 17 5) := by kernel_rfl
theorem i53 : (Try.prog.info? 53).map (·.size) = some 17 := by kernel_rfl
theorem zero53 : (∀ w, (zeroValue 53).run Try.prog w = .ok (.agg (ba 17 zB)) w) ∧ (Try.prog.info? 53).map (·.size) = some 17 := zero_of_info (by kernel_rfl)

theorem idx26 (i : Nat) (hi : i < 17) : ∃ p q r : Nat, 8 * (i : Int) = p ∧ IntKind.i64.wrap (p : Int) = p ∧ (p : Int).tdiv 26 = q ∧ (p : Int).tmod 26 = r ∧ IntKind.i64.wrap (q : Int) = q ∧ IntKind.i64.wrap (r : Int) = r ∧ (q : Int) < 5 ∧ (r : Int) < 26 ∧ r < 64 ∧ Hid (p = 8 * i ∧ q = 8 * i / 26 ∧ r = 8 * i % 26) := by
  refine ⟨8 * i, 8 * i / 26, 8 * i % 26, by omega, wrap_i (by omega) (by omega), ?_, ?_, wrap_i (by omega) (by omega), wrap_i (by omega) (by omega), by omega, by omega, by omega, rfl, rfl, rfl⟩
  · rw [Int.tdiv_eq_ediv_of_nonneg (by omega)]; omega
  · rw [Int.tmod_eq_emod_of_nonneg (by omega)]; omega

set_option maxRecDepth 100000 in
set_option maxHeartbeats 4000000 in
theorem numberOf_any (f : Nat → By) (w : World) : Calls Try.prog 26 #[.agg (ba 17 f)] w fun r w' => r = .returned (.agg (arr .u64 5 (noF f))) ∧ Chg w w' := by
  obtain ⟨A, hA⟩ : ∃ A, A = ba 17 f := ⟨_, rfl⟩
  have hsA : A.size = 17 := by rw [hA]; exact ba_size _ _
  have HSA : Hid ((Try.prog.info? 53).map (·.size) = some A.size) := by rw [hA]; exact szB f i53
  have HA : Hid (A = ba 17 f) := hA
  rw [← hA]
  clear hA
  have hz := zero49.1
  go_enter Try.func26, Try.ntmps26
  go_upto_region 2 with fail
  obtain ⟨w3, hw3⟩ : ∃ w3, w3 = (((w.alloc (.cells A 53)).alloc (.cells (arr .u64 5 zI) 49)).alloc (.cells (arr .u64 5 zI) 49)) := ⟨_, rfl⟩
  have Z3 : Hid (Chg w w3 ∧ Ar w3 (w.heap.size + 1) (arr .u64 5 zI) ∧ Ar w3 (w.heap.size + 1 + 1) (arr .u64 5 (nfF f 0))) := by
    rw [hw3]
    exact ⟨(((Chg.refl w).alloc _).alloc _).alloc _, (Ar.new1 w _ _ _).alloc _, Ar.new2 w _ _ _ _⟩
  have gA : ∃ t, w3.heap[w.heap.size]? = some (.cells A t (0, 0)) := by rw [hw3]; exact ((Ar.new w _ _).alloc _).alloc _
  rw [← hw3]
  clear hw3 hz
  obtain ⟨tA, gA⟩ := gA
  go_wp2_with (first | refine wpList_load_row rfl 53 _ rfl _ rfl _ _ _ _ gA und53 rfl HSA.out ?_)
  clear gA HSA hsA
  go_loopw [7] (fun v7 wr => ∃ (i : Nat), v7 = .int .i64 i ∧ i ≤ 17 ∧ Chg w wr ∧ Ar wr (w.heap.size + 1) (arr .u64 5 zI) ∧ Ar wr (w.heap.size + 1 + 1) (arr .u64 5 (nfF f i))) (fun v7 wr => 17 - (intOf v7).toNat)
  case atStart => exact ⟨0, rfl, by omega, Z3.out⟩
  case round =>
    clear Z3
    obtain ⟨i, rfl, hi, hz0, hz1, hz2⟩ := hrel
    by_cases hlt : i < 17
    · have hd' : decide ((i : Int) < 17) = true := by simp; omega
      have li : (i : Int) < 17 := by omega
      have Z : Hid (Chg w wr ∧ Ar wr (w.heap.size + 1) (arr .u64 5 zI) ∧ Ar wr (w.heap.size + 1 + 1) (arr .u64 5 (nfF f i))) := ⟨hz0, hz1, hz2⟩
      obtain ⟨b, hb⟩ : ∃ b, b = (f i).toNat := ⟨_, rfl⟩
      have hidx : ∀ u, (Instr.index 53 (.agg A) (.int .i64 i)).run Try.prog u = .ok (.int .u8 (b : Int)) u := by
        rw [HA.out, hb]
        exact run_idx und53 f hlt
      have hb8 : b < 256 := by rw [hb]; exact (f i).isLt
      obtain ⟨p, q, r, e1, e2, e3, e4, e5, e6, lq, lr, lr', HQ⟩ := idx26 i hlt
      have hq5 : q < 5 := by omega
      have c1 := (hz2.cell q).trans (arr_get .u64 5 _ hq5)
      have f1 := hz2.frozen q
      obtain ⟨x, hx⟩ : ∃ x, x = nfF f i q := ⟨_, rfl⟩
      rw [← hx] at c1
      have bx := nfF_le f i q
      rw [← hx] at bx
      obtain ⟨y, hy⟩ : ∃ y, (b : Int) * 2 ^ r = y := ⟨_, rfl⟩
      have hsh := shift_le f i
      have HY : Hid (y = nmF f i * 2 ^ (8 * i % 26)) := by show y = _; rw [← hy, HQ.out.2.2, hb]; rfl
      rw [← HY.out] at hsh
      have wb : IntKind.u64.wrap (b : Int) = b := wrap_u (by omega) (by omega)
      have wy := wrap_u (x := y) (by omega) (by omega)
      have my : y % 18446744073709551616 = y := by omega
      obtain ⟨x', hx'⟩ : ∃ x', x + y = x' := ⟨_, rfl⟩
      have wx' := wrap_u (x := x') (by omega) (by omega)
      have HX : Hid (updI (nfF f i) q x' = nfF f (i + 1)) := by
        show updI (nfF f i) q x' = updI (nfF f i) (8 * i / 26) (nfF f i (8 * i / 26) + nmF f i * 2 ^ (8 * i % 26))
        rw [← HQ.out.2.1, ← HY.out, ← hx, hx']
      clear hb hx hz0 hz1 hz2 bx hsh hq5 hb8
      go_wp2_with fail
      go_region_with (fail)
      all_goals go_wp2
      all_goals
        go_roundw
        case rel =>
          refine ⟨i + 1, by go_num, by omega, ?_⟩
          obtain ⟨k0, k1, k2⟩ := Z.out
          have hh := k2.set q (.int .u64 x')
          rw [arr_set, upd_updI, HX.out] at hh
          first
            | exact ⟨(k0.setCell (by dsimp only; omega) _).drew, (k1.other (by dsimp only; omega) _).drew, hh.drew⟩
            | (rw [hy, my, hx', wx']; exact ⟨(k0.setCell (by dsimp only; omega) _).drew, (k1.other (by dsimp only; omega) _).drew, hh.drew⟩)
            | (rw [hy, my, hx']; exact ⟨(k0.setCell (by dsimp only; omega) _).drew, (k1.other (by dsimp only; omega) _).drew, hh.drew⟩)
        case measure => simp [intOf]; omega
    · have : i = 17 := by omega
      subst this
      obtain ⟨d1, hd1⟩ : ∃ d, d = nfF f 17 := ⟨_, rfl⟩
      obtain ⟨d2, hd2⟩ : ∃ d, d = redF d1 := ⟨_, rfl⟩
      have hb1 : ∀ k, k < 5 → 0 ≤ d1 k ∧ d1 k ≤ 4611686018427387904 := fun k hk => by
        have := nfF_le f 17 k
        rw [hd1]
        omega
      have HG : Hid (d2 = noF f) := by show d2 = _; rw [hd2, hd1]; rfl
      have HC1 : Hid (∀ u, Calls Try.prog 39 #[.agg (arr .u64 5 d1)] u fun r w' => r = .returned (.agg (arr .u64 5 d2)) ∧ Chg u w') := by rw [hd2]; exact fun u => reduced_any d1 u hb1
      have HOo : Hid (Chg w wr ∧ Ar wr (w.heap.size + 1) (arr .u64 5 zI)) := ⟨hz0, hz1⟩
      rw [← hd1] at hz2
      clear hz0 hz1 hd1 hd2 hb1
      obtain ⟨t1, g1⟩ := hz2
      have hsz := sz49 d1
      go_wp2_with (first | refine wpList_load_row rfl 49 _ rfl _ rfl _ _ _ _ g1 und49 rfl hsz ?_)
      go_at_call 39
      refine (HC1.out _).mono ?_
      rintro r u1 ⟨rfl, hc1⟩
      have HO2 : Hid (Chg w u1 ∧ Ar u1 (w.heap.size + 1) (arr .u64 5 zI)) := ⟨HOo.out.1.trans hc1, HOo.out.2.chg hc1⟩
      obtain ⟨t3, g3⟩ := HO2.out.2
      have hsz3 := sz49 d2
      have hlen := len5 zI d2
      have hone := arr_one .u64 5 d2
      clear hc1 g1 HOo hsz
      go_wp2_with (first | refine wpList_store_row rfl 49 _ _ rfl _ _ rfl rfl _ _ g3 hsz3 hlen hone ?_)
      refine bp_c (n := 5) (c := arr .u64 5 d2) Try.results26 rfl rfl ?_ und49 i49 (arr_size _ _ _) ⟨by rw [HG.out], ?_⟩
      · exact HO2.out.2.row _
      · exact HO2.out.1.setRow (by omega) _

/-- A piece and a byte 1 behind it. -/
def mkF (f : Nat → By) (l : Nat) : Nat → By := fun i => if i < l then f i else if i = l then 1#8 else 0#8
theorem mkF_eq (f : Nat → By) {l : Nat} (hl : l ≤ 16) : ba 17 (updB (over 0 l f zB) l 1#8) = ba 17 (mkF f l) := ba_congr fun i hi => by
  unfold updB over mkF zB
  by_cases h : i = l
  · subst h; simp
  · by_cases h1 : i < l
    · simp [h, h1]
    · simp [h, h1]
theorem run_sliceArr0 {t n : Nat} (hu : Try.prog.underlying t = some (.array n 5)) (hn : 0 < n) (b : Nat) (w : World) : (Instr.sliceAt t (.pointer (some ⟨b, 0, none⟩)) none none none).run Try.prog w = .ok (.slice (some ⟨b, 0, none⟩) n n) w := by
  have h6 : ¬ n = 0 := by omega
  simp [go_sem, Instr.sliceAt, Instr.sliceBounds, run_underlying hu, Sem.run_bind]

set_option maxRecDepth 100000 in
set_option maxHeartbeats 4000000 in
theorem marked_any (b o l cap : Nat) (f : Nat → By) (w : World) (hb : Bs w b o l f) (hl : l ≤ 16) : Calls Try.prog 27 #[.slice (some ⟨b, o, none⟩) l cap] w fun r w' => r = .returned (.agg (ba 17 (mkF f l))) ∧ Chg w w' := by
  have hz := zero53.1
  have l17 : (l : Int) < 17 := by omega
  have hsl : ∀ u, (Instr.sliceAt 53 (.pointer (some ⟨w.heap.size + 1, 0, none⟩)) none none none).run Try.prog u = .ok (.slice (some ⟨w.heap.size + 1, 0, none⟩) 17 17) u := run_sliceArr0 und53 (by decide) _
  obtain ⟨w2, hw2⟩ : ∃ w2, w2 = (w.alloc (.cells (ba 17 zB) 53)).alloc (.cells (ba 17 zB) 53) := ⟨_, rfl⟩
  have Z2 : Hid (Chg w w2 ∧ Ar w2 w.heap.size (ba 17 zB) ∧ Ar w2 (w.heap.size + 1) (ba 17 zB)) := by
    rw [hw2]
    exact ⟨((Chg.refl w).alloc _).alloc _, (Ar.new w _ _).alloc _, Ar.new1 w _ _ _⟩
  have hcp := run_cp w2 (w.heap.size + 1) 17 0 17 17 b o l cap l zB f Z2.out.2.2 (hb.chg Z2.out.1) (by show l = min l 17; omega) (by omega)
  have HL : Hid (l ≤ 16) := hl
  have hl17 : l < 17 := by omega
  clear hb hl
  go_enter Try.func27, Try.ntmps27
  go_upto_region 2 with fail
  rw [← hw2]
  clear hw2
  go_upto_region 3 with fail
  obtain ⟨w3, hw3⟩ : ∃ w3, w3 = w2.setRow (w.heap.size + 1) (ba 17 (over 0 l f zB)) := ⟨_, rfl⟩
  have Z3 : Hid (Chg w w3 ∧ Ar w3 w.heap.size (ba 17 zB) ∧ Ar w3 (w.heap.size + 1) (ba 17 (over 0 l f zB))) := by
    rw [hw3]
    exact ⟨Z2.out.1.setRow (by omega) _, Z2.out.2.1.rowOther (by omega) _, Z2.out.2.2.row _⟩
  rw [← hw3]
  clear hw3 hcp Z2 hsl hz
  have c3 := (Z3.out.2.2.cell l).trans (ba_get 17 _ hl17)
  have f3 := Z3.out.2.2.frozen l
  obtain ⟨x, hx⟩ : ∃ x, x = over 0 l f zB l := ⟨_, rfl⟩
  rw [← hx] at c3
  clear hx hl17
  go_upto_region 4 with fail
  obtain ⟨w4, hw4⟩ : ∃ w4, w4 = w3.setCell ⟨w.heap.size + 1, l, none⟩ (.int .u8 1) := ⟨_, rfl⟩
  obtain ⟨g, hg⟩ : ∃ g, g = mkF f l := ⟨_, rfl⟩
  have HG : Hid (g = mkF f l) := hg
  have Z4 : Hid (Chg w w4 ∧ Ar w4 w.heap.size (ba 17 zB) ∧ Ar w4 (w.heap.size + 1) (ba 17 g)) := by
    have hh := Z3.out.2.2.set l (.int .u8 ((1#8).toNat : Int))
    rw [ba_set, mkF_eq f HL.out] at hh
    rw [hw4, hg]
    exact ⟨Z3.out.1.setCell (by dsimp only; omega) _, Z3.out.2.1.other (by dsimp only; omega) _, hh⟩
  rw [← hw4]
  clear hw4 c3 f3 Z3 hg
  obtain ⟨t1, g1⟩ := Z4.out.2.2
  obtain ⟨t3, g3⟩ := Z4.out.2.1
  have hsz := szB g i53
  have hlen := lenB 17 zB g
  have hone := ba_one 17 g
  go_wp2_with (first | refine wpList_load_row rfl 53 _ rfl _ rfl _ _ _ _ g1 und53 rfl hsz ?_ | refine wpList_store_row rfl 53 _ _ rfl _ _ rfl rfl _ _ g3 hsz hlen hone ?_)
  refine bp_c (n := 17) (c := ba 17 g) Try.results27 rfl rfl ?_ und53 i53 (ba_size _ _) ⟨by rw [HG.out], ?_⟩
  · exact Z4.out.2.1.row _
  · exact Z4.out.1.setRow (by omega) _
end Go.Proofs.Ytkdidacebfkdmaa
