/-
  The number of bytes; a piece that is marked; the halves of a key; the least number.
  The halves of a key as numbers.
  The least number; a number as bytes.
  A number's bytes, out of digits of 26 bits: plain.
-/
import Derived.Test.YtobglgddbhddnaaGreatJ23
import Derived.Test.YtobglgddbhddnaaGreatJ22
namespace Go.Proofs.YtobglgddbhddnaaGreat.Cha
open Go.RowKit
set_option linter.unusedVariables false

theorem und53 : Tryz.prog.underlying 122 = some (.array 17 5) := by kernel_rfl
theorem i53 : (Tryz.prog.info? 122).map (·.size) = some 17 := by kernel_rfl
theorem zero53 : (∀ w, (zeroValue 122).run Tryz.prog w = .ok (.agg (ba 17 zB)) w) ∧ (Tryz.prog.info? 122).map (·.size) = some 17 := zero_of_info (by kernel_rfl)

theorem idx26 (i : Nat) (hi : i < 17) : ∃ p q r : Nat, 8 * (i : Int) = p ∧ IntKind.i64.wrap (p : Int) = p ∧ (p : Int).tdiv 26 = q ∧ (p : Int).tmod 26 = r ∧ IntKind.i64.wrap (q : Int) = q ∧ IntKind.i64.wrap (r : Int) = r ∧ (q : Int) < 5 ∧ (r : Int) < 26 ∧ r < 64 ∧ Hid (p = 8 * i ∧ q = 8 * i / 26 ∧ r = 8 * i % 26) := by
  refine ⟨8 * i, 8 * i / 26, 8 * i % 26, by omega, wrap_i (by omega) (by omega), ?_, ?_, wrap_i (by omega) (by omega), wrap_i (by omega) (by omega), by omega, by omega, by omega, rfl, rfl, rfl⟩
  · rw [Int.tdiv_eq_ediv_of_nonneg (by omega)]; omega
  · rw [Int.tmod_eq_emod_of_nonneg (by omega)]; omega

set_option maxRecDepth 100000 in
set_option maxHeartbeats 4000000 in
theorem numberOf_any (f : Nat → By) (w : World) : Calls Tryz.prog 89 #[.agg (ba 17 f)] w fun r w' => r = .returned (.agg (arr .u64 5 (noF f))) ∧ Chg w w' := by
  obtain ⟨A, hA⟩ : ∃ A, A = ba 17 f := ⟨_, rfl⟩
  have hsA : A.size = 17 := by rw [hA]; exact ba_size _ _
  have HSA : Hid ((Tryz.prog.info? 122).map (·.size) = some A.size) := by rw [hA]; exact szB f i53
  have HA : Hid (A = ba 17 f) := hA
  rw [← hA]
  clear hA
  have hz := zero49.1
  go_enter Tryz.func89, Tryz.ntmps89
  go_upto_region 2 with fail
  obtain ⟨w3, hw3⟩ : ∃ w3, w3 = (((w.alloc (.cells A 122)).alloc (.cells (arr .u64 5 zI) 118)).alloc (.cells (arr .u64 5 zI) 118)) := ⟨_, rfl⟩
  have Z3 : Hid (Chg w w3 ∧ Ar w3 (w.heap.size + 1) (arr .u64 5 zI) ∧ Ar w3 (w.heap.size + 1 + 1) (arr .u64 5 (nfF f 0))) := by
    rw [hw3]
    exact ⟨(((Chg.refl w).alloc _).alloc _).alloc _, (Ar.new1 w _ _ _).alloc _, Ar.new2 w _ _ _ _⟩
  have gA : ∃ t, w3.heap[w.heap.size]? = some (.cells A t (0, 0)) := by rw [hw3]; exact ((Ar.new w _ _).alloc _).alloc _
  rw [← hw3]
  clear hw3 hz
  obtain ⟨tA, gA⟩ := gA
  go_wp2_with (first | refine wpList_load_row rfl 122 _ rfl _ rfl _ _ _ _ gA und53 rfl HSA.out ?_)
  clear gA HSA hsA
  go_loopw [7] (fun v7 wr => ∃ (i : Nat), v7 = .int .i64 i ∧ i ≤ 17 ∧ Chg w wr ∧ Ar wr (w.heap.size + 1) (arr .u64 5 zI) ∧ Ar wr (w.heap.size + 1 + 1) (arr .u64 5 (nfF f i))) (fun v7 wr => 17 - (intOf v7).toNat)
  case atStart => exact ⟨0, rfl, by omega, Z3.out⟩
  case round =>
    clear Z3
    obtain ⟨i, rfl, hi, hz0, hz1, hz2⟩ := hrel
    by_cases hlt : i < 17
    · have hd' : decide ((i : Int) < 17) = true := by simp; omega
      have li : (i : Int) < 17 := by omega
      have Z : Hid (Chg w wr ∧ Ar wr (w.heap.size + 1) (arr .u64 5 zI) ∧ Ar wr (w.heap.size + 1 + 1) (arr .u64 5 (nfF f i))) := ⟨hz0, hz1, hz2⟩
      obtain ⟨b, hb⟩ : ∃ b, b = (f i).toNat := ⟨_, rfl⟩
      have hidx : ∀ u, (Instr.index 122 (.agg A) (.int .i64 i)).run Tryz.prog u = .ok (.int .u8 (b : Int)) u := by
        rw [HA.out, hb]
        exact run_idx und53 f hlt
      have hb8 : b < 256 := by rw [hb]; exact (f i).isLt
      obtain ⟨p, q, r, e1, e2, e3, e4, e5, e6, lq, lr, lr', HQ⟩ := idx26 i hlt
      have hq5 : q < 5 := by omega
      have c1 := (hz2.cell q).trans (arr_get .u64 5 _ hq5)
      have f1 := hz2.frozen q
      obtain ⟨x, hx⟩ : ∃ x, x = nfF f i q := ⟨_, rfl⟩
      rw [← hx] at c1
      have bx := nfF_le f i q
      rw [← hx] at bx
      obtain ⟨y, hy⟩ : ∃ y, (b : Int) * 2 ^ r = y := ⟨_, rfl⟩
      have hsh := shift_le f i
      have HY : Hid (y = nmF f i * 2 ^ (8 * i % 26)) := by show y = _; rw [← hy, HQ.out.2.2, hb]; rfl
      rw [← HY.out] at hsh
      have wb : IntKind.u64.wrap (b : Int) = b := wrap_u (by omega) (by omega)
      have wy := wrap_u (x := y) (by omega) (by omega)
      have my : y % 18446744073709551616 = y := by omega
      obtain ⟨x', hx'⟩ : ∃ x', x + y = x' := ⟨_, rfl⟩
      have wx' := wrap_u (x := x') (by omega) (by omega)
      have HX : Hid (updI (nfF f i) q x' = nfF f (i + 1)) := by
        show updI (nfF f i) q x' = updI (nfF f i) (8 * i / 26) (nfF f i (8 * i / 26) + nmF f i * 2 ^ (8 * i % 26))
        rw [← HQ.out.2.1, ← HY.out, ← hx, hx']
      clear hb hx hz0 hz1 hz2 bx hsh hq5 hb8
      go_wp2_with fail
      go_region_with (fail)
      all_goals go_wp2
      all_goals
        go_roundw
        case rel =>
          refine ⟨i + 1, by go_num, by omega, ?_⟩
          obtain ⟨k0, k1, k2⟩ := Z.out
          have hh := k2.set q (.int .u64 x')
          rw [arr_set, upd_updI, HX.out] at hh
          first
            | exact ⟨(k0.setCell (by dsimp only; omega) _).drew, (k1.other (by dsimp only; omega) _).drew, hh.drew⟩
            | (rw [hy, my, hx', wx']; exact ⟨(k0.setCell (by dsimp only; omega) _).drew, (k1.other (by dsimp only; omega) _).drew, hh.drew⟩)
            | (rw [hy, my, hx']; exact ⟨(k0.setCell (by dsimp only; omega) _).drew, (k1.other (by dsimp only; omega) _).drew, hh.drew⟩)
        case measure => simp [intOf]; omega
    · have : i = 17 := by omega
      subst this
      obtain ⟨d1, hd1⟩ : ∃ d, d = nfF f 17 := ⟨_, rfl⟩
      obtain ⟨d2, hd2⟩ : ∃ d, d = redF d1 := ⟨_, rfl⟩
      have hb1 : ∀ k, k < 5 → 0 ≤ d1 k ∧ d1 k ≤ 4611686018427387904 := fun k hk => by
        have := nfF_le f 17 k
        rw [hd1]
        omega
      have HG : Hid (d2 = noF f) := by show d2 = _; rw [hd2, hd1]; rfl
      have HC1 : Hid (∀ u, Calls Tryz.prog 98 #[.agg (arr .u64 5 d1)] u fun r w' => r = .returned (.agg (arr .u64 5 d2)) ∧ Chg u w') := by rw [hd2]; exact fun u => reduced_any d1 u hb1
      have HOo : Hid (Chg w wr ∧ Ar wr (w.heap.size + 1) (arr .u64 5 zI)) := ⟨hz0, hz1⟩
      rw [← hd1] at hz2
      clear hz0 hz1 hd1 hd2 hb1
      obtain ⟨t1, g1⟩ := hz2
      have hsz := sz49 d1
      go_wp2_with (first | refine wpList_load_row rfl 118 _ rfl _ rfl _ _ _ _ g1 und49 rfl hsz ?_)
      go_at_call 98
      refine (HC1.out _).mono ?_
      rintro r u1 ⟨rfl, hc1⟩
      have HO2 : Hid (Chg w u1 ∧ Ar u1 (w.heap.size + 1) (arr .u64 5 zI)) := ⟨HOo.out.1.trans hc1, HOo.out.2.chg hc1⟩
      obtain ⟨t3, g3⟩ := HO2.out.2
      have hsz3 := sz49 d2
      have hlen := len5 zI d2
      have hone := arr_one .u64 5 d2
      clear hc1 g1 HOo hsz
      go_wp2_with (first | refine wpList_store_row rfl 118 _ _ rfl _ _ rfl rfl _ _ g3 hsz3 hlen hone ?_)
      refine bp_c (n := 5) (c := arr .u64 5 d2) Tryz.results89 rfl rfl ?_ und49 i49 (arr_size _ _ _) ⟨by rw [HG.out], ?_⟩
      · exact HO2.out.2.row _
      · exact HO2.out.1.setRow (by omega) _

/-- A piece and a byte 1 behind it. -/
def mkF (f : Nat → By) (l : Nat) : Nat → By := fun i => if i < l then f i else if i = l then 1#8 else 0#8
theorem mkF_eq (f : Nat → By) {l : Nat} (hl : l ≤ 16) : ba 17 (updB (over 0 l f zB) l 1#8) = ba 17 (mkF f l) := ba_congr fun i hi => by
  unfold updB over mkF zB
  by_cases h : i = l
  · subst h; simp
  · by_cases h1 : i < l
    · simp [h, h1]
    · simp [h, h1]
theorem run_sliceArr0 {t n : Nat} (hu : Tryz.prog.underlying t = some (.array n 5)) (hn : 0 < n) (b : Nat) (w : World) : (Instr.sliceAt t (.pointer (some ⟨b, 0, none⟩)) none none none).run Tryz.prog w = .ok (.slice (some ⟨b, 0, none⟩) n n) w := by
  have h6 : ¬ n = 0 := by omega
  simp [go_sem, Instr.sliceAt, Instr.sliceBounds, run_underlying hu, Sem.run_bind]

set_option maxRecDepth 100000 in
set_option maxHeartbeats 4000000 in
theorem marked_any (b o l cap : Nat) (f : Nat → By) (w : World) (hb : Bs w b o l f) (hl : l ≤ 16) : Calls Tryz.prog 90 #[.slice (some ⟨b, o, none⟩) l cap] w fun r w' => r = .returned (.agg (ba 17 (mkF f l))) ∧ Chg w w' := by
  have hz := zero53.1
  have l17 : (l : Int) < 17 := by omega
  have hsl : ∀ u, (Instr.sliceAt 122 (.pointer (some ⟨w.heap.size + 1, 0, none⟩)) none none none).run Tryz.prog u = .ok (.slice (some ⟨w.heap.size + 1, 0, none⟩) 17 17) u := run_sliceArr0 und53 (by decide) _
  obtain ⟨w2, hw2⟩ : ∃ w2, w2 = (w.alloc (.cells (ba 17 zB) 122)).alloc (.cells (ba 17 zB) 122) := ⟨_, rfl⟩
  have Z2 : Hid (Chg w w2 ∧ Ar w2 w.heap.size (ba 17 zB) ∧ Ar w2 (w.heap.size + 1) (ba 17 zB)) := by
    rw [hw2]
    exact ⟨((Chg.refl w).alloc _).alloc _, (Ar.new w _ _).alloc _, Ar.new1 w _ _ _⟩
  have hcp := run_cp w2 (w.heap.size + 1) 17 0 17 17 b o l cap l zB f Z2.out.2.2 (hb.chg Z2.out.1) (by show l = min l 17; omega) (by omega)
  have HL : Hid (l ≤ 16) := hl
  have hl17 : l < 17 := by omega
  clear hb hl
  go_enter Tryz.func90, Tryz.ntmps90
  go_upto_region 2 with fail
  rw [← hw2]
  clear hw2
  go_upto_region 3 with fail
  obtain ⟨w3, hw3⟩ : ∃ w3, w3 = w2.setRow (w.heap.size + 1) (ba 17 (over 0 l f zB)) := ⟨_, rfl⟩
  have Z3 : Hid (Chg w w3 ∧ Ar w3 w.heap.size (ba 17 zB) ∧ Ar w3 (w.heap.size + 1) (ba 17 (over 0 l f zB))) := by
    rw [hw3]
    exact ⟨Z2.out.1.setRow (by omega) _, Z2.out.2.1.rowOther (by omega) _, Z2.out.2.2.row _⟩
  rw [← hw3]
  clear hw3 hcp Z2 hsl hz
  have c3 := (Z3.out.2.2.cell l).trans (ba_get 17 _ hl17)
  have f3 := Z3.out.2.2.frozen l
  obtain ⟨x, hx⟩ : ∃ x, x = over 0 l f zB l := ⟨_, rfl⟩
  rw [← hx] at c3
  clear hx hl17
  go_upto_region 4 with fail
  obtain ⟨w4, hw4⟩ : ∃ w4, w4 = w3.setCell ⟨w.heap.size + 1, l, none⟩ (.int .u8 1) := ⟨_, rfl⟩
  obtain ⟨g, hg⟩ : ∃ g, g = mkF f l := ⟨_, rfl⟩
  have HG : Hid (g = mkF f l) := hg
  have Z4 : Hid (Chg w w4 ∧ Ar w4 w.heap.size (ba 17 zB) ∧ Ar w4 (w.heap.size + 1) (ba 17 g)) := by
    have hh := Z3.out.2.2.set l (.int .u8 ((1#8).toNat : Int))
    rw [ba_set, mkF_eq f HL.out] at hh
    rw [hw4, hg]
    exact ⟨Z3.out.1.setCell (by dsimp only; omega) _, Z3.out.2.1.other (by dsimp only; omega) _, hh⟩
  rw [← hw4]
  clear hw4 c3 f3 Z3 hg
  obtain ⟨t1, g1⟩ := Z4.out.2.2
  obtain ⟨t3, g3⟩ := Z4.out.2.1
  have hsz := szB g i53
  have hlen := lenB 17 zB g
  have hone := ba_one 17 g
  go_wp2_with (first | refine wpList_load_row rfl 122 _ rfl _ rfl _ _ _ _ g1 und53 rfl hsz ?_ | refine wpList_store_row rfl 122 _ _ rfl _ _ rfl rfl _ _ g3 hsz hlen hone ?_)
  refine bp_c (n := 17) (c := ba 17 g) Tryz.results90 rfl rfl ?_ und53 i53 (ba_size _ _) ⟨by rw [HG.out], ?_⟩
  · exact Z4.out.2.1.row _
  · exact Z4.out.1.setRow (by omega) _
end Go.Proofs.YtobglgddbhddnaaGreat.Cha

namespace Go.Proofs.YtobglgddbhddnaaGreat.Cha
open Go.RowKit
set_option linter.unusedVariables false

theorem run_sliceArrHi {t n : Nat} (hu : Tryz.prog.underlying t = some (.array n 5)) (hn : 0 < n) (b q : Nat) (h2 : q ≤ n) (w : World) : (Instr.sliceAt t (.pointer (some ⟨b, 0, none⟩)) none (some (.int .i64 (q : Int))) none).run Tryz.prog w = .ok (.slice (some ⟨b, 0, none⟩) q n) w := by
  have h5 : (q : Int) ≤ n := by omega
  have h6 : ¬ n = 0 := by omega
  simp [go_sem, Instr.sliceAt, Instr.sliceBounds, Instr.sliceBound, run_underlying hu, asIntOf, Sem.run_bind, h2]
theorem run_sliceArrLo {t n : Nat} (hu : Tryz.prog.underlying t = some (.array n 5)) (b p : Nat) (h2 : p < n) (w : World) : (Instr.sliceAt t (.pointer (some ⟨b, 0, none⟩)) (some (.int .i64 (p : Int))) none none).run Tryz.prog w = .ok (.slice (some ⟨b, p, none⟩) (n - p) (n - p)) w := by
  have h1 : p ≤ n := by omega
  have h5 : (p : Int) ≤ n := by omega
  have h6 : ¬ n = p := by omega
  simp [go_sem, Instr.sliceAt, Instr.sliceBounds, Instr.sliceBound, run_underlying hu, asIntOf, Sem.run_bind, h1, h6, addr_add]
theorem nmAndB (x y : By) : ∃ z : By, Hid (z = x &&& y) ∧ Go.bits .and .u8 (x.toNat : Int) (y.toNat : Int) = (z.toNat : Int) := ⟨_, rfl, by rw [u8_and_nat _ _ x.isLt y.isLt, BitVec.toNat_and]⟩

/-- Sixteen bytes of a key, as seventeen. -/
def half (key : Nat → By) (o : Nat) : Nat → By := fun j => if j < 16 then key (o + j) else 0#8
theorem half_eq (key : Nat → By) (o : Nat) : ba 17 (over 0 16 (fun j => key (o + j)) zB) = ba 17 (half key o) := ba_congr fun i hi => by
  unfold over half zB
  by_cases h : i < 16
  · simp [h]
  · simp [h]
/-- Of the first half some bits are left out. -/
def cl3 (f : Nat → By) (i : Nat) : Nat → By := fun j => if j % 4 = 3 ∧ j < i then f j &&& 15#8 else f j
def cl4 (f : Nat → By) (i : Nat) : Nat → By := fun j => if j % 4 = 0 ∧ 0 < j ∧ j < i then f j &&& 252#8 else f j
theorem cl3_zero (f : Nat → By) : cl3 f 3 = f := by
  funext j
  unfold cl3
  rw [if_neg (by omega)]
theorem cl3_succ (f : Nat → By) {i : Nat} (hi : i % 4 = 3) : updB (cl3 f i) i (f i &&& 15#8) = cl3 f (i + 4) := by
  funext j
  unfold updB cl3
  by_cases h : j = i
  · subst h
    rw [if_pos rfl, if_pos (by omega)]
  · rw [if_neg h]
    by_cases h1 : j % 4 = 3 ∧ j < i
    · rw [if_pos h1, if_pos (by omega)]
    · rw [if_neg h1, if_neg (by omega)]
theorem cl4_zero (f : Nat → By) : cl4 f 4 = f := by
  funext j
  unfold cl4
  rw [if_neg (by omega)]
theorem cl4_succ (f : Nat → By) {i : Nat} (hi : i % 4 = 0) (h0 : 0 < i) : updB (cl4 f i) i (f i &&& 252#8) = cl4 f (i + 4) := by
  funext j
  unfold updB cl4
  by_cases h : j = i
  · subst h
    rw [if_pos rfl, if_pos (by omega)]
  · rw [if_neg h]
    by_cases h1 : j % 4 = 0 ∧ 0 < j ∧ j < i
    · rw [if_pos h1, if_pos (by omega)]
    · rw [if_neg h1, if_neg (by omega)]
/-- The first half of a key, as the document has it. -/
def clF (key : Nat → By) : Nat → By := fun j => if j < 16 then (if j % 4 = 3 then key j &&& 15#8 else if j % 4 = 0 ∧ 0 < j then key j &&& 252#8 else key j) else 0#8
theorem clF_eq (key : Nat → By) : ba 17 (cl4 (cl3 (half key 0) 19) 16) = ba 17 (clF key) := ba_congr fun i hi => by
  unfold cl4 cl3 half clF
  by_cases h : i < 16
  · rw [Nat.zero_add]
    simp only [h, if_true]
    by_cases h3 : i % 4 = 3
    · rw [if_neg (by omega), if_pos (by omega), if_pos h3]
    · rw [if_neg (show ¬ (i % 4 = 3 ∧ i < 19) by omega), if_neg h3]
      by_cases h4 : i % 4 = 0 ∧ 0 < i
      · rw [if_pos ⟨h4.1, h4.2, trivial⟩, if_pos h4]
      · rw [if_neg (by omega), if_neg h4]
  · rw [if_neg (by omega), if_neg (by omega), if_neg h, if_neg h]

/-- Seventeen bytes being worked on. -/
structure HS (w wr : World) (key f : Nat → By) : Prop where
  chg : Chg w wr
  ky : Ar wr w.heap.size (ba 32 key)
  out : Ar wr (w.heap.size + 1) (arr .u64 5 zI)
  b : Ar wr (w.heap.size + 1 + 1) (ba 17 f)
theorem HS.set {w wr : World} {key f : Nat → By} (h : HS w wr key f) (i : Nat) (x : By) : HS w (wr.setCell ⟨w.heap.size + 1 + 1, i, none⟩ (.int .u8 (x.toNat : Int))) key (updB f i x) := by
  refine ⟨h.chg.setCell (by dsimp only; omega) _, h.ky.other (by dsimp only; omega) _, h.out.other (by dsimp only; omega) _, ?_⟩
  have := h.b.set i (.int .u8 (x.toNat : Int))
  rwa [ba_set] at this

set_option maxRecDepth 100000 in
set_option maxHeartbeats 4000000 in
theorem secondHalf_any (key : Nat → By) (w : World) : Calls Tryz.prog 93 #[.agg (ba 32 key)] w fun r w' => r = .returned (.agg (arr .u64 5 (noF (half key 16)))) ∧ Chg w w' := by
  obtain ⟨A, hA⟩ : ∃ A, A = ba 32 key := ⟨_, rfl⟩
  have hsA : A.size = 32 := by rw [hA]; exact ba_size _ _
  have HA : Hid (A = ba 32 key) := hA
  rw [← hA]
  clear hA
  have hz := zero49.1
  have hz2 := zero53.1
  obtain ⟨w3, hw3⟩ : ∃ w3, w3 = ((w.alloc (.cells A 40)).alloc (.cells (arr .u64 5 zI) 118)).alloc (.cells (ba 17 zB) 122) := ⟨_, rfl⟩
  have Z3 : Hid (HS w w3 key zB) := by
    rw [hw3, HA.out]
    exact ⟨(((Chg.refl w).alloc _).alloc _).alloc _, ((Ar.new w _ _).alloc _).alloc _, (Ar.new1 w _ _ _).alloc _, Ar.new2 w _ _ _ _⟩
  have hs1 : ∀ u, (Instr.sliceAt 122 (.pointer (some ⟨w.heap.size + 1 + 1, 0, none⟩)) none (some (.int .i64 16)) none).run Tryz.prog u = .ok (.slice (some ⟨w.heap.size + 1 + 1, 0, none⟩) 16 17) u := run_sliceArrHi und53 (by decide) _ 16 (by decide)
  have hs2 : ∀ u, (Instr.sliceAt 40 (.pointer (some ⟨w.heap.size, 0, none⟩)) (some (.int .i64 16)) none none).run Tryz.prog u = .ok (.slice (some ⟨w.heap.size, 16, none⟩) 16 16) u := run_sliceArrLo und22 _ 16 (by decide)
  have hcp := run_cp w3.drew (w.heap.size + 1 + 1) 17 0 16 17 w.heap.size 16 16 16 16 zB (fun j => key (16 + j)) Z3.out.b (Z3.out.ky.bsAt 16 16 (by decide)) (by decide) (by decide)
  go_enter Tryz.func93, Tryz.ntmps93
  go_upto_region 2 with fail
  rw [← hw3]
  clear hw3 hsA hz hz2
  go_cut [] from 4 to 6 (fun wc => HS w wc key (half key 16))
  case first =>
    go_region_with (fail)
    all_goals go_wp2_with fail
    all_goals go_meet
    all_goals
      have k := Z3.out
      refine ⟨(k.chg.drew).setRow (by omega) _, k.ky.drew.rowOther (by omega) _, k.out.drew.rowOther (by omega) _, ?_⟩
      rw [← half_eq]
      exact k.b.drew.row _
  have Z4 : Hid (HS w wc key (half key 16)) := hcut
  clear hcut hcp hs1 hs2 Z3
  obtain ⟨w4, hw4⟩ : ∃ w4, w4 = wc := ⟨_, rfl⟩
  rw [← hw4] at Z4 ⊢
  clear hw4 wc
  go_upto_region 3 with fail
  obtain ⟨F, hF⟩ : ∃ F, F = half key 16 := ⟨_, rfl⟩
  obtain ⟨d2, hd2⟩ : ∃ d, d = noF F := ⟨_, rfl⟩
  have HG : Hid (d2 = noF (half key 16)) := by show d2 = _; rw [hd2, hF]
  have HC1 : Hid (∀ u, Calls Tryz.prog 89 #[.agg (ba 17 F)] u fun r w' => r = .returned (.agg (arr .u64 5 d2)) ∧ Chg u w') := by rw [hd2]; exact numberOf_any F
  have hb := Z4.out.b
  rw [← hF] at hb
  have HOo : Hid (Chg w w4 ∧ Ar w4 (w.heap.size + 1) (arr .u64 5 zI)) := ⟨Z4.out.chg, Z4.out.out⟩
  clear hF hd2 Z4
  obtain ⟨t1, g1⟩ := hb
  have hsz := szB F i53
  go_wp2_with (first | refine wpList_load_row rfl 122 _ rfl _ rfl _ _ _ _ g1 und53 rfl hsz ?_)
  go_at_call 89
  refine (HC1.out _).mono ?_
  rintro r u1 ⟨rfl, hc1⟩
  have HO2 : Hid (Chg w u1 ∧ Ar u1 (w.heap.size + 1) (arr .u64 5 zI)) := ⟨HOo.out.1.trans hc1, HOo.out.2.chg hc1⟩
  obtain ⟨t3, g3⟩ := HO2.out.2
  have hsz3 := sz49 d2
  have hlen := len5 zI d2
  have hone := arr_one .u64 5 d2
  clear hc1 g1 HOo hsz
  go_wp2_with (first | refine wpList_store_row rfl 118 _ _ rfl _ _ rfl rfl _ _ g3 hsz3 hlen hone ?_)
  refine bp_c (n := 5) (c := arr .u64 5 d2) Tryz.results93 rfl rfl ?_ und49 i49 (arr_size _ _ _) ⟨by rw [HG.out], ?_⟩
  · exact HO2.out.2.row _
  · exact HO2.out.1.setRow (by omega) _

set_option maxRecDepth 100000 in
set_option maxHeartbeats 4000000 in
theorem firstHalf_any (key : Nat → By) (w : World) : Calls Tryz.prog 86 #[.agg (ba 32 key)] w fun r w' => r = .returned (.agg (arr .u64 5 (noF (clF key)))) ∧ Chg w w' := by
  obtain ⟨A, hA⟩ : ∃ A, A = ba 32 key := ⟨_, rfl⟩
  have hsA : A.size = 32 := by rw [hA]; exact ba_size _ _
  have HA : Hid (A = ba 32 key) := hA
  rw [← hA]
  clear hA
  have hz := zero49.1
  have hz2 := zero53.1
  obtain ⟨w3, hw3⟩ : ∃ w3, w3 = ((w.alloc (.cells A 40)).alloc (.cells (arr .u64 5 zI) 118)).alloc (.cells (ba 17 zB) 122) := ⟨_, rfl⟩
  have Z3 : Hid (HS w w3 key zB) := by
    rw [hw3, HA.out]
    exact ⟨(((Chg.refl w).alloc _).alloc _).alloc _, ((Ar.new w _ _).alloc _).alloc _, (Ar.new1 w _ _ _).alloc _, Ar.new2 w _ _ _ _⟩
  have hs1 : ∀ u, (Instr.sliceAt 122 (.pointer (some ⟨w.heap.size + 1 + 1, 0, none⟩)) none (some (.int .i64 16)) none).run Tryz.prog u = .ok (.slice (some ⟨w.heap.size + 1 + 1, 0, none⟩) 16 17) u := run_sliceArrHi und53 (by decide) _ 16 (by decide)
  have hs2 : ∀ u, (Instr.sliceAt 40 (.pointer (some ⟨w.heap.size, 0, none⟩)) none none none).run Tryz.prog u = .ok (.slice (some ⟨w.heap.size, 0, none⟩) 32 32) u := run_sliceArr0 und22 (by decide) _
  have hcp := run_cp w3.drew (w.heap.size + 1 + 1) 17 0 16 17 w.heap.size 0 32 32 16 zB (fun j => key (0 + j)) Z3.out.b (Z3.out.ky.bsAt 0 16 (by decide)) (by decide) (by decide)
  go_enter Tryz.func86, Tryz.ntmps86
  go_upto_region 2 with fail
  rw [← hw3]
  clear hw3 hsA hz hz2
  go_cut [] from 6 to 8 (fun wc => HS w wc key (half key 0))
  case first =>
    go_region_with (fail)
    all_goals go_wp2_with fail
    all_goals go_meet
    all_goals
      have k := Z3.out
      refine ⟨(k.chg.drew).setRow (by omega) _, k.ky.drew.rowOther (by omega) _, k.out.drew.rowOther (by omega) _, ?_⟩
      rw [← half_eq]
      exact k.b.drew.row _
  have Z4 : Hid (HS w wc key (half key 0)) := hcut
  clear hcut hcp hs1 hs2 Z3
  obtain ⟨w4, hw4⟩ : ∃ w4, w4 = wc := ⟨_, rfl⟩
  rw [← hw4] at Z4 ⊢
  clear hw4 wc
  go_upto_region 3 with fail
  go_wp2_with fail
  go_loopw [4] (fun v wr => ∃ (i : Nat), v = .int .i64 i ∧ i ≤ 19 ∧ i % 4 = 3 ∧ 3 ≤ i ∧ HS w wr key (cl3 (half key 0) i)) (fun v wr => 20 - (intOf v).toNat)
  case atStart => exact ⟨3, rfl, by omega, rfl, by omega, by rw [cl3_zero]; exact Z4.out⟩
  case round =>
    clear Z4
    obtain ⟨i, rfl, hi, hm, h0, hz0⟩ := hrel
    have Z : Hid (HS w wr key (cl3 (half key 0) i)) := hz0
    by_cases hlt : i < 16
    · have hd : decide ((i : Int) < 16) = true := by simp; omega
      have li : (i : Int) < 17 := by omega
      have c1 := (hz0.b.cell i).trans (ba_get 17 _ (by omega))
      have f1 := hz0.b.frozen i
      have e0 : cl3 (half key 0) i i = (half key 0) i := by unfold cl3; rw [if_neg (by omega)]
      rw [e0] at c1
      obtain ⟨x, hx⟩ : ∃ x, x = (half key 0) i := ⟨_, rfl⟩
      rw [← hx] at c1
      obtain ⟨z, Hz, ez⟩ := nmAndB x 15#8
      replace ez : Go.bits .and .u8 (x.toNat : Int) 15 = (z.toNat : Int) := ez
      have HZ : Hid (z = (half key 0) i &&& 15#8) := by show z = _; rw [Hz.out, hx]
      have HM : Hid (i % 4 = 3 ∧ 3 ≤ i) := ⟨hm, h0⟩
      clear hx Hz hz0 e0 hm h0
      go_wp2_with fail
      go_roundw
      case rel =>
        have hm := HM.out
        refine ⟨i + 4, by go_num, by omega, by omega, by omega, ?_⟩
        rw [← cl3_succ _ hm.1, ← HZ.out]
        exact Z.out.set i z
      case measure => simp [intOf]; omega
    · have : i = 19 := by omega
      subst this
      rw [show ((19 : Nat) : Int) = 19 from rfl]
      clear hz0
      obtain ⟨h1, hh1⟩ : ∃ h, h = cl3 (half key 0) 19 := ⟨_, rfl⟩
      have HH1 : Hid (h1 = cl3 (half key 0) 19) := hh1
      have Z5 : Hid (HS w wr key h1) := by rw [hh1]; exact Z.out
      clear Z hh1
      go_wp2_with fail
      go_loopw [5] (fun v wr => ∃ (i : Nat), v = .int .i64 i ∧ i ≤ 16 ∧ i % 4 = 0 ∧ 4 ≤ i ∧ HS w wr key (cl4 (h1) i)) (fun v wr => 20 - (intOf v).toNat)
      case atStart => exact ⟨4, rfl, by omega, rfl, by omega, by rw [cl4_zero]; exact Z5.out⟩
      case round =>
        clear Z5
        obtain ⟨i, rfl, hi, hm, h0, hz0⟩ := hrel
        have Z : Hid (HS w wr key (cl4 (h1) i)) := hz0
        by_cases hlt : i < 16
        · have hd : decide ((i : Int) < 16) = true := by simp; omega
          have li : (i : Int) < 17 := by omega
          have c1 := (hz0.b.cell i).trans (ba_get 17 _ (by omega))
          have f1 := hz0.b.frozen i
          have e0 : cl4 (h1) i i = (h1) i := by unfold cl4; rw [if_neg (by omega)]
          rw [e0] at c1
          obtain ⟨x, hx⟩ : ∃ x, x = (h1) i := ⟨_, rfl⟩
          rw [← hx] at c1
          obtain ⟨z, Hz, ez⟩ := nmAndB x 252#8
          replace ez : Go.bits .and .u8 (x.toNat : Int) 252 = (z.toNat : Int) := ez
          have HZ : Hid (z = (h1) i &&& 252#8) := by show z = _; rw [Hz.out, hx]
          have HM : Hid (i % 4 = 0 ∧ 4 ≤ i) := ⟨hm, h0⟩
          clear hx Hz hz0 e0 hm h0
          go_wp2_with fail
          go_roundw
          case rel =>
            have hm := HM.out
            refine ⟨i + 4, by go_num, by omega, by omega, by omega, ?_⟩
            rw [← cl4_succ _ hm.1 (by omega), ← HZ.out]
            exact Z.out.set i z
          case measure => simp [intOf]; omega
        · have : i = 16 := by omega
          subst this
          rw [show ((16 : Nat) : Int) = 16 from rfl]
          clear hz0
          obtain ⟨F, hF⟩ : ∃ F, F = clF key := ⟨_, rfl⟩
          obtain ⟨d2, hd2⟩ : ∃ d, d = noF F := ⟨_, rfl⟩
          have HG : Hid (d2 = noF (clF key)) := by show d2 = _; rw [hd2, hF]
          have HC1 : Hid (∀ u, Calls Tryz.prog 89 #[.agg (ba 17 F)] u fun r w' => r = .returned (.agg (arr .u64 5 d2)) ∧ Chg u w') := by rw [hd2]; exact numberOf_any F
          have hb := Z.out.b
          rw [HH1.out, clF_eq, ← hF] at hb
          have HOo : Hid (Chg w wr ∧ Ar wr (w.heap.size + 1) (arr .u64 5 zI)) := ⟨Z.out.chg, Z.out.out⟩
          clear hF hd2 Z
          obtain ⟨t1, g1⟩ := hb
          have hsz := szB F i53
          go_wp2_with (first | refine wpList_load_row rfl 122 _ rfl _ rfl _ _ _ _ g1 und53 rfl hsz ?_)
          go_at_call 89
          refine (HC1.out _).mono ?_
          rintro r u1 ⟨rfl, hc1⟩
          have HO2 : Hid (Chg w u1 ∧ Ar u1 (w.heap.size + 1) (arr .u64 5 zI)) := ⟨HOo.out.1.trans hc1, HOo.out.2.chg hc1⟩
          obtain ⟨t3, g3⟩ := HO2.out.2
          have hsz3 := sz49 d2
          have hlen := len5 zI d2
          have hone := arr_one .u64 5 d2
          clear hc1 g1 HOo hsz
          go_wp2_with (first | refine wpList_store_row rfl 118 _ _ rfl _ _ rfl rfl _ _ g3 hsz3 hlen hone ?_)
          refine bp_c (n := 5) (c := arr .u64 5 d2) Tryz.results86 rfl rfl ?_ und49 i49 (arr_size _ _ _) ⟨by rw [HG.out], ?_⟩
          · exact HO2.out.2.row _
          · exact HO2.out.1.setRow (by omega) _
end Go.Proofs.YtobglgddbhddnaaGreat.Cha

namespace Go.Proofs.YtobglgddbhddnaaGreat.Cha
open Go.RowKit
set_option linter.unusedVariables false

theorem five_cells : (arr .u64 5 zI).setIfInBounds 0 (.int .u64 5) = arr .u64 5 fiveF := arr_set .u64 5 zI 0 5

set_option maxRecDepth 100000 in
set_option maxHeartbeats 4000000 in
theorem least_any (s : Nat → Int) (w : World) (hs : ∀ i, i < 5 → 0 ≤ s i ∧ s i ≤ 4294967295) : Calls Tryz.prog 92 #[.agg (arr .u64 5 s)] w fun r w' => r = .returned (.agg (arr .u64 5 (leF s))) ∧ Chg w w' := by
  obtain ⟨A, hA⟩ : ∃ A, A = arr .u64 5 s := ⟨_, rfl⟩
  have hsA : A.size = 5 := by rw [hA]; exact arr_size _ _ _
  have HA : Hid (A = arr .u64 5 s) := hA
  have HSA : Hid ((Tryz.prog.info? 118).map (·.size) = some A.size) := by rw [hA]; exact sz49 s
  obtain ⟨F, hF⟩ : ∃ F, F = arr .u64 5 fiveF := ⟨_, rfl⟩
  have hfc := five_cells
  rw [← hF] at hfc
  have hzs := arr_size .u64 5 zI
  obtain ⟨d1, hd1⟩ : ∃ d, d = addF s fiveF := ⟨_, rfl⟩
  obtain ⟨d2, hd2⟩ : ∃ d, d = crD d1 := ⟨_, rfl⟩
  obtain ⟨o, ho⟩ : ∃ o, o = crO d1 5 := ⟨_, rfl⟩
  have b5 : ∀ i, i < 5 → 0 ≤ fiveF i ∧ fiveF i ≤ 5 := fun i hi => by unfold fiveF updI; dsimp only; split <;> omega
  have HC1 : Hid (∀ u, Calls Tryz.prog 88 #[.agg A, .agg F] u fun r w' => r = .returned (.agg (arr .u64 5 d1)) ∧ Chg u w') := by
    rw [hA, hF, hd1]
    exact fun u => added_any s fiveF u (fun i hi => by have := hs i hi; omega) (fun i hi => by have := b5 i hi; omega)
  have HC2 : Hid (∀ u, Calls Tryz.prog 99 #[.agg (arr .u64 5 d1)] u fun r w' => r = .returned (.tuple #[.agg (arr .u64 5 d2), .int .u64 o]) ∧ Chg u w') := by
    rw [hd2, ho]
    exact fun u => carried_any d1 u (fun i hi => by rw [hd1]; unfold addF; have h1 := hs i hi; have h2 := b5 i hi; omega)
  have HL : Hid (leF s = if o = 0 then s else d2) := by
    show (if crO (addF s fiveF) 5 = 0 then s else crD (addF s fiveF)) = _
    rw [ho, hd2, hd1]
  rw [← hA]
  clear hA hF hd1 hd2 ho hs b5
  have hz := zero49.1
  go_enter Tryz.func92, Tryz.ntmps92
  go_upto_region 1 with fail
  obtain ⟨w2, hw2⟩ : ∃ w2, w2 = (w.alloc (.cells A 118)).alloc (.cells (arr .u64 5 zI) 118) := ⟨_, rfl⟩
  have Z2 : Hid (NS w w2 s) := by rw [hw2]; exact NS.start w s A HA.out
  rw [← hw2]
  clear hw2
  obtain ⟨t1, g1⟩ := Z2.out.a
  rw [← HA.out] at g1
  go_wp2_with (first | refine wpList_load_row rfl 118 _ rfl _ rfl _ _ _ _ g1 und49 rfl HSA.out ?_)
  go_at_call 88
  refine (HC1.out _).mono ?_
  rintro r w3 ⟨rfl, hc3⟩
  go_wp2_with fail
  go_at_call 99
  refine (HC2.out _).mono ?_
  rintro r w4 ⟨rfl, hc4⟩
  have Z4 : Hid (Chg w w4 ∧ Ar w4 w.heap.size A ∧ Ar w4 (w.heap.size + 1) (arr .u64 5 zI)) := by
    have k := Z2.out
    have ka := k.a
    rw [← HA.out] at ka
    exact ⟨(k.chg.trans hc3).trans hc4, (ka.chg hc3).chg hc4, (k.out.chg hc3).chg hc4⟩
  clear hc3 hc4 g1 Z2 hfc HC1 HC2
  have hsz := sz49 d2
  have hlen := len5 zI d2
  have hone := arr_one .u64 5 d2
  go_upto_region 2 with (first | refine wpList_store_row rfl 118 _ _ rfl _ _ rfl rfl _ _ (heap_alloc_last w4 _) hsz hlen hone ?_)
  obtain ⟨B, hB⟩ : ∃ B, B = w4.heap.size := ⟨_, rfl⟩
  obtain ⟨w5, hw5⟩ : ∃ w5, w5 = (w4.alloc (.cells (arr .u64 5 zI) 118)).setRow w4.heap.size (arr .u64 5 d2) := ⟨_, rfl⟩
  have Z5 : Hid (Chg w w5 ∧ Ar w5 w.heap.size A ∧ Ar w5 (w.heap.size + 1) (arr .u64 5 zI) ∧ Ar w5 B (arr .u64 5 d2)) := by
    obtain ⟨k0, k1, k2⟩ := Z4.out
    have e1 := k1.lt
    have e2 := k2.lt
    rw [hw5, hB]
    exact ⟨(k0.alloc _).setRow k0.size _, (k1.alloc _).rowOther (by omega) _, (k2.alloc _).rowOther (by omega) _, (Ar.new w4 _ _).row _⟩
  rw [← hw5, ← hB]
  clear hw5 hB Z4 hz hzs
  obtain ⟨t5, g5⟩ := Z5.out.2.2.2
  obtain ⟨t6, g6⟩ := Z5.out.2.2.1
  obtain ⟨t7, g7⟩ := Z5.out.2.1
  have hlenA : (arr .u64 5 zI).size = A.size := by rw [arr_size, hsA]
  have honeA : A.all (·.oneCell') = true := by rw [HA.out]; exact arr_one .u64 5 s
  have HSz : Hid (∀ c : Array Value, (Tryz.prog.info? 118).map (·.size) = some 5) := fun _ => i49
  by_cases h0 : o = 0
  · have hob : (o != 0) = false := by simp [h0]
    have hoc : (o == 0) = true := by simp [h0]
    have HL2 : Hid (leF s = s) := by show leF s = s; rw [HL.out, if_pos h0]
    clear h0
    go_wp2_with (first | refine wpList_load_row rfl 118 _ rfl _ rfl _ _ _ _ g7 und49 rfl HSA.out ?_ | refine wpList_store_row rfl 118 _ _ rfl _ _ rfl rfl _ _ g6 HSA.out hlenA honeA ?_)
    refine bp_c (n := 5) (c := A) Tryz.results92 rfl rfl ?_ und49 i49 hsA ⟨by rw [HL2.out, HA.out], ?_⟩
    · exact Z5.out.2.2.1.row _
    · exact Z5.out.1.setRow (by omega) _
  · have hob : (o != 0) = true := by simp [h0]
    have hoc : (o == 0) = false := by simp [h0]
    have HL2 : Hid (leF s = d2) := by show leF s = d2; rw [HL.out, if_neg h0]
    go_wp2_with (first | refine wpList_load_row rfl 118 _ rfl _ rfl _ _ _ _ g5 und49 rfl hsz ?_ | refine wpList_store_row rfl 118 _ _ rfl _ _ rfl rfl _ _ g6 hsz hlen hone ?_)
    refine bp_c (n := 5) (c := arr .u64 5 d2) Tryz.results92 rfl rfl ?_ und49 i49 (arr_size _ _ _) ⟨by rw [HL2.out], ?_⟩
    · exact Z5.out.2.2.1.row _
    · exact Z5.out.1.setRow (by omega) _
end Go.Proofs.YtobglgddbhddnaaGreat.Cha

namespace Go.Proofs.YtobglgddbhddnaaGreat.Cha
set_option linter.unusedVariables false

theorem five_of {e : Nat → Int} (hb : ∀ k, k < 5 → 0 ≤ e k ∧ e k < 67108864) : (0 ≤ e 0 ∧ e 0 < 67108864) ∧ (0 ≤ e 1 ∧ e 1 < 67108864) ∧ (0 ≤ e 2 ∧ e 2 < 67108864) ∧ (0 ≤ e 3 ∧ e 3 < 67108864) ∧ (0 ≤ e 4 ∧ e 4 < 67108864) :=
  ⟨hb 0 (by decide), hb 1 (by decide), hb 2 (by decide), hb 3 (by decide), hb 4 (by decide)⟩
theorem by_low {e : Nat → Int} (hb : ∀ k, k < 5 → 0 ≤ e k ∧ e k < 67108864) {i : Nat} (hi : i < 16) (hr : 8 * i % 26 ≤ 18) : e (8 * i / 26) / 2 ^ (8 * i % 26) % 256 = val (67108864 : Int) 5 e / 256 ^ i % 256 := by
  obtain ⟨b0, b1, b2, b3, b4⟩ := five_of hb
  rw [val5]
  clear hb
  have h : i = 0 ∨ i = 1 ∨ i = 2 ∨ i = 4 ∨ i = 5 ∨ i = 7 ∨ i = 8 ∨ i = 10 ∨ i = 11 ∨ i = 12 ∨ i = 13 ∨ i = 14 ∨ i = 15 := by omega
  clear hi hr
  rcases h with rfl | rfl | rfl | rfl | rfl | rfl | rfl | rfl | rfl | rfl | rfl | rfl | rfl <;> simp only [Nat.reduceMul, Nat.reduceMod, Nat.reduceDiv, Int.reducePow] <;> omega
theorem by_high {e : Nat → Int} (hb : ∀ k, k < 5 → 0 ≤ e k ∧ e k < 67108864) {i : Nat} (hi : i < 16) (hr : 18 < 8 * i % 26) : e (8 * i / 26) / 2 ^ (8 * i % 26) < 2 ^ (26 - 8 * i % 26) ∧ e (8 * i / 26 + 1) * 2 ^ (26 - 8 * i % 26) % 256 % 2 ^ (26 - 8 * i % 26) = 0 ∧ e (8 * i / 26) / 2 ^ (8 * i % 26) + e (8 * i / 26 + 1) * 2 ^ (26 - 8 * i % 26) % 256 = val (67108864 : Int) 5 e / 256 ^ i % 256 := by
  obtain ⟨b0, b1, b2, b3, b4⟩ := five_of hb
  rw [val5]
  clear hb
  have h : i = 3 ∨ i = 6 ∨ i = 9 := (by decide : ∀ i, i < 16 → 18 < 8 * i % 26 → i = 3 ∨ i = 6 ∨ i = 9) i hi hr
  clear hi hr
  rcases h with rfl | rfl | rfl <;> simp only [Nat.reduceMul, Nat.reduceMod, Nat.reduceDiv, Nat.reduceSub, Nat.reduceAdd, Int.reducePow] <;> omega
/-- A number's bytes. -/
def byF (v : Int) : Nat → By := fun i => BitVec.ofNat 8 (v / 256 ^ i % 256).toNat
theorem byF_num (v : Int) (i : Nat) : ((byF v i).toNat : Int) = v / 256 ^ i % 256 := by
  unfold byF
  rw [BitVec.toNat_ofNat]
  omega
end Go.Proofs.YtobglgddbhddnaaGreat.Cha
