/-
  Polynomials: the functions timesX, xored, product.
-/
import Derived.Test.YtfnibmfmjglmlaaPw
namespace Go.Proofs.Ytfnibmfmjglmlaa
open Go.RowKit
set_option linter.unusedVariables false

/-- A polynomial as a result. -/
theorem loadVar65 {w : World} {b : Nat} {p : Po} (h : Ar w b (pv p)) : (Go.loadVar 65 ⟨b, 0, none⟩).run Try.prog w = .ok (.agg (pv p)) w := by
  obtain ⟨t, h⟩ := h
  obtain ⟨f, hf⟩ := str65
  exact run_loadVar_row w b t 65 (pv p) (0, 0) _ h hf rfl (i65 _ _)
theorem bp_p {fn : Func} {R : Ending → World → Prop} {a : Act} {w : World} {s b : Nat} {p : Po} (h : fn.results = #[.cell s 65]) (hd : a.defers = []) (hp : a.tmps.getD s undef = .pointer (some ⟨b, 0, none⟩)) (ha : Ar w b (pv p))
    (hR : R (.returned (.agg (pv p))) w) : bodyPost Try.prog fn R .ret a w := by
  refine bodyPost_ret (v := .agg (pv p)) ?_ hd hR
  rw [Array.getD_eq_getD_getElem?] at hp
  simp only [results, h]
  simp [hp, asAddr, loadVar65 ha]

set_option maxRecDepth 100000 in
set_option maxHeartbeats 4000000 in
theorem timesX_any (p : Po) (w : World) : Calls Try.prog 54 #[.agg (pv p)] w fun r w' => r = .returned (.agg (pv (tx p))) ∧ Chg w w' := by
  have hz := zero65.1
  obtain ⟨h, hh⟩ : ∃ h, h = hi p := ⟨_, rfl⟩
  obtain ⟨l, hl⟩ : ∃ l, l = lo p := ⟨_, rfl⟩
  have e : pv p = #[.int .u64 (h.toNat : Int), .int .u64 (l.toNat : Int)] := by rw [hh, hl]; rfl
  rw [e]
  obtain ⟨a, Ha, ea⟩ := nmShr h 1 2 rfl
  obtain ⟨y, b, Hb, ey, eb⟩ := nmOvf l
  obtain ⟨c, Hc, ec⟩ := nmXor a b
  obtain ⟨d, Hd, ed⟩ := nmShr l 1 2 rfl
  obtain ⟨f, Hf, ef⟩ := nmShl h 63 9223372036854775808 rfl
  obtain ⟨g, Hg, eg⟩ := nmOr d f
  have HP : Hid (pc c g = pv (tx p)) := by
    refine pv_of ?_ ?_
    · rw [hi_tx, ← hh, ← hl, Hc.out, Ha.out, Hb.out]
    · rw [lo_tx, ← hh, ← hl, Hg.out, Hd.out, Hf.out]
  have hsz := i65 c g
  have hone := pc_one c g
  have hlen : (#[.int .u64 0, .int .u64 0] : Array Value).size = (pc c g).size := rfl
  unfold pc at hsz hone hlen
  clear hh hl e Ha Hb Hc Hd Hf Hg
  go_enter Try.func54, Try.ntmps54
  go_upto_region 1 with fail
  obtain ⟨w2, hw2⟩ : ∃ w2, w2 = (w.alloc (.cells #[.int .u64 (h.toNat : Int), .int .u64 (l.toNat : Int)] 65)).alloc (.cells #[.int .u64 0, .int .u64 0] 65) := ⟨_, rfl⟩
  have k1 : Ar w2 w.heap.size (pc h l) := by rw [hw2]; exact (Ar.new w _ _).alloc _
  have k2 : Ar w2 (w.heap.size + 1) #[.int .u64 0, .int .u64 0] := by rw [hw2]; exact Ar.new1 w _ _ _
  have Z : Hid (Chg w w2 ∧ Ar w2 (w.heap.size + 1) #[.int .u64 0, .int .u64 0]) := ⟨by rw [hw2]; exact ((Chg.refl w).alloc _).alloc _, k2⟩
  rw [← hw2]
  have c1 : w2.cell? ⟨w.heap.size, 0, none⟩ = some (.int .u64 (h.toNat : Int)) := k1.cell 0
  have c2 : w2.cell? ⟨w.heap.size, 1, none⟩ = some (.int .u64 (l.toNat : Int)) := k1.cell 1
  obtain ⟨t, g2⟩ := k2
  clear hw2 k1
  go_wp2_with (first | refine wpList_store_row rfl 65 _ _ rfl _ _ rfl rfl _ _ g2 hsz hlen hone ?_)
  refine bp_p (p := tx p) Try.results54 rfl rfl ?_ ⟨rfl, ?_⟩
  · rw [← HP.out]
    exact Z.out.2.row (pc c g)
  · exact Z.out.1.setRow (by omega) _

set_option maxRecDepth 100000 in
set_option maxHeartbeats 4000000 in
theorem pxored_any (p q : Po) (w : World) : Calls Try.prog 38 #[.agg (pv p), .agg (pv q)] w fun r w' => r = .returned (.agg (pv (p ^^^ q))) ∧ Chg w w' := by
  have hz := zero65.1
  obtain ⟨h, hh⟩ : ∃ h, h = hi p := ⟨_, rfl⟩
  obtain ⟨l, hl⟩ : ∃ l, l = lo p := ⟨_, rfl⟩
  obtain ⟨h', hh'⟩ : ∃ h, h = hi q := ⟨_, rfl⟩
  obtain ⟨l', hl'⟩ : ∃ l, l = lo q := ⟨_, rfl⟩
  have e : pv p = #[.int .u64 (h.toNat : Int), .int .u64 (l.toNat : Int)] := by rw [hh, hl]; rfl
  have e' : pv q = #[.int .u64 (h'.toNat : Int), .int .u64 (l'.toNat : Int)] := by rw [hh', hl']; rfl
  rw [e, e']
  obtain ⟨c, Hc, ec⟩ := nmXor h h'
  obtain ⟨g, Hg, eg⟩ := nmXor l l'
  have HP : Hid (pc c g = pv (p ^^^ q)) := by
    refine pv_of ?_ ?_
    · rw [hi_xor, ← hh, ← hh', Hc.out]
    · rw [lo_xor, ← hl, ← hl', Hg.out]
  have hsz := i65 c g
  have hone := pc_one c g
  have hlen : (#[.int .u64 0, .int .u64 0] : Array Value).size = (pc c g).size := rfl
  unfold pc at hsz hone hlen
  clear hh hl e hh' hl' e' Hc Hg
  go_enter Try.func38, Try.ntmps38
  go_upto_region 1 with fail
  obtain ⟨w2, hw2⟩ : ∃ w2, w2 = ((w.alloc (.cells #[.int .u64 (h.toNat : Int), .int .u64 (l.toNat : Int)] 65)).alloc (.cells #[.int .u64 (h'.toNat : Int), .int .u64 (l'.toNat : Int)] 65)).alloc (.cells #[.int .u64 0, .int .u64 0] 65) := ⟨_, rfl⟩
  have k1 : Ar w2 w.heap.size (pc h l) := by rw [hw2]; exact ((Ar.new w _ _).alloc _).alloc _
  have k1' : Ar w2 (w.heap.size + 1) (pc h' l') := by rw [hw2]; exact (Ar.new1 w _ _ _).alloc _
  have k2 : Ar w2 (w.heap.size + 1 + 1) #[.int .u64 0, .int .u64 0] := by rw [hw2]; exact Ar.new2 w _ _ _ _
  have Z : Hid (Chg w w2 ∧ Ar w2 (w.heap.size + 1 + 1) #[.int .u64 0, .int .u64 0]) := ⟨by rw [hw2]; exact (((Chg.refl w).alloc _).alloc _).alloc _, k2⟩
  rw [← hw2]
  have c1 : w2.cell? ⟨w.heap.size, 0, none⟩ = some (.int .u64 (h.toNat : Int)) := k1.cell 0
  have c2 : w2.cell? ⟨w.heap.size, 1, none⟩ = some (.int .u64 (l.toNat : Int)) := k1.cell 1
  have c3 : w2.cell? ⟨w.heap.size + 1, 0, none⟩ = some (.int .u64 (h'.toNat : Int)) := k1'.cell 0
  have c4 : w2.cell? ⟨w.heap.size + 1, 1, none⟩ = some (.int .u64 (l'.toNat : Int)) := k1'.cell 1
  obtain ⟨t, g2⟩ := k2
  clear hw2 k1 k1'
  go_wp2_with (first | refine wpList_store_row rfl 65 _ _ rfl _ _ rfl rfl _ _ g2 hsz hlen hone ?_)
  refine bp_p (p := p ^^^ q) Try.results38 rfl rfl ?_ ⟨rfl, ?_⟩
  · rw [← HP.out]
    exact Z.out.2.row (pc c g)
  · exact Z.out.1.setRow (by omega) _

/-! The product. -/
/-- Behind so many steps. -/
def prS (a b : Po) (i : Nat) : Po := acc (fun i => sel (a.getMsbD i) (txn i b)) i
theorem prS_succ (a b : Po) (i : Nat) : prS a b (i + 1) = prS a b i ^^^ sel (a.getMsbD i) (txn i b) := rfl
theorem prS_all (a b : Po) : prS a b 128 = pr a b := rfl
theorem shl_top (a : Po) (i : Nat) : (a <<< i).getMsbD 0 = a.getMsbD i := by rw [BitVec.getMsbD_shiftLeft, Nat.zero_add]
theorem shl_succ (a : Po) (i : Nat) : (a <<< i) <<< 1 = a <<< (i + 1) := (BitVec.shiftLeft_add a i 1).symm

/-- What stands while a product is made. -/
structure PrS (w wr : World) (a b s : Po) : Prop where
  chg : Chg w wr
  a : Ar wr w.heap.size (pv a)
  b : Ar wr (w.heap.size + 1) (pv b)
  out : Ar wr (w.heap.size + 1 + 1) (pv 0)
  s : Ar wr (w.heap.size + 1 + 1 + 1) (pv s)

set_option maxRecDepth 100000 in
set_option maxHeartbeats 4000000 in
theorem product_any (a b : Po) (w : World) : Calls Try.prog 33 #[.agg (pv a), .agg (pv b)] w fun r w' => r = .returned (.agg (pv (pr a b))) ∧ Chg w w' := by
  have hz := zero65.1
  rw [zeroP] at hz
  have hsA := pv_size a
  have hsB := pv_size b
  obtain ⟨A, hA⟩ : ∃ A, A = pv a := ⟨_, rfl⟩
  obtain ⟨B, hB⟩ : ∃ B, B = pv b := ⟨_, rfl⟩
  have HAB : Hid (A = pv a ∧ B = pv b) := ⟨hA, hB⟩
  rw [← hA] at hsA ⊢
  rw [← hB] at hsB ⊢
  clear hA hB
  go_enter Try.func33, Try.ntmps33
  go_wp2_with fail
  go_loopw [7] (fun v wr => ∃ (i : Nat), v = .int .i64 i ∧ i ≤ 128 ∧ PrS w wr (a <<< i) (txn i b) (prS a b i)) (fun v wr => 128 - (intOf v).toNat)
  case atStart =>
    refine ⟨0, rfl, by omega, ?_⟩
    rw [HAB.out.1, HAB.out.2, BitVec.shiftLeft_zero]
    exact ⟨((((Chg.refl w).alloc _).alloc _).alloc _).alloc _, (((Ar.new w _ _).alloc _).alloc _).alloc _, ((Ar.new1 w _ _ _).alloc _).alloc _, (Ar.new2 w _ _ _ _).alloc _, by
      have := Ar.new (((w.alloc (.cells (pv a) 65)).alloc (.cells (pv b) 65)).alloc (.cells (pv 0) 65)) (pv 0) 65
      rwa [World.size_alloc, World.size_alloc, World.size_alloc] at this⟩
  case round =>
    clear hsA hsB
    obtain ⟨i, rfl, hi', hz0⟩ := hrel
    obtain ⟨p, hp⟩ : ∃ p, p = a <<< i := ⟨_, rfl⟩
    obtain ⟨q, hq⟩ : ∃ q, q = txn i b := ⟨_, rfl⟩
    obtain ⟨s, hs⟩ : ∃ s, s = prS a b i := ⟨_, rfl⟩
    rw [← hp, ← hq, ← hs] at hz0
    have Z : Hid (PrS w wr p q s) := hz0
    have HE : Hid (p = a <<< i ∧ q = txn i b ∧ s = prS a b i) := ⟨hp, hq, hs⟩
    clear hz0 hp hq hs
    by_cases h128 : i < 128
    · have hd : decide ((i : Int) < 128) = true := by simp; omega
      obtain ⟨h, hh⟩ : ∃ h, h = hi p := ⟨_, rfl⟩
      obtain ⟨l, hl⟩ : ∃ l, l = lo p := ⟨_, rfl⟩
      obtain ⟨h', hh'⟩ : ∃ h, h = hi q := ⟨_, rfl⟩
      obtain ⟨l', hl'⟩ : ∃ l, l = lo q := ⟨_, rfl⟩
      obtain ⟨h2, hh2⟩ : ∃ h, h = hi s := ⟨_, rfl⟩
      obtain ⟨l2, hl2⟩ : ∃ l, l = lo s := ⟨_, rfl⟩
      have c1 : wr.cell? ⟨w.heap.size, 0, none⟩ = some (.int .u64 (h.toNat : Int)) := (Z.out.a.cell 0).trans (by rw [hh]; rfl)
      have c2 : wr.cell? ⟨w.heap.size, 1, none⟩ = some (.int .u64 (l.toNat : Int)) := (Z.out.a.cell 1).trans (by rw [hl]; rfl)
      have c3 : wr.cell? ⟨w.heap.size + 1, 0, none⟩ = some (.int .u64 (h'.toNat : Int)) := (Z.out.b.cell 0).trans (by rw [hh']; rfl)
      have c4 : wr.cell? ⟨w.heap.size + 1, 1, none⟩ = some (.int .u64 (l'.toNat : Int)) := (Z.out.b.cell 1).trans (by rw [hl']; rfl)
      have c5 : wr.cell? ⟨w.heap.size + 1 + 1 + 1, 0, none⟩ = some (.int .u64 (h2.toNat : Int)) := (Z.out.s.cell 0).trans (by rw [hh2]; rfl)
      have c6 : wr.cell? ⟨w.heap.size + 1 + 1 + 1, 1, none⟩ = some (.int .u64 (l2.toNat : Int)) := (Z.out.s.cell 1).trans (by rw [hl2]; rfl)
      have f1 := Z.out.s.frozen 0
      obtain ⟨y, m, Hm, ey, em⟩ := nmMask h
      obtain ⟨x1, H1, e1⟩ := nmAnd h' m
      obtain ⟨x2, H2, e2⟩ := nmXor h2 x1
      obtain ⟨x3, H3, e3⟩ := nmAnd l' m
      obtain ⟨x4, H4, e4⟩ := nmXor l2 x3
      obtain ⟨x5, H5, e5⟩ := nmShl h 1 2 rfl
      obtain ⟨x6, H6, e6⟩ := nmShr l 63 9223372036854775808 rfl
      obtain ⟨x7, H7, e7⟩ := nmOr x5 x6
      obtain ⟨x8, H8, e8⟩ := nmShl l 1 2 rfl
      have HS : Hid (pc x2 x4 = pv (prS a b (i + 1))) := by
        have et : h.getLsbD 63 = a.getMsbD i := by rw [hh, hi_top, HE.out.1, shl_top]
        refine pv_of ?_ ?_
        · rw [prS_succ, hi_xor, hi_sel, ← HE.out.2.1, ← HE.out.2.2, ← hh', ← hh2, H2.out, H1.out, Hm.out, et]
        · rw [prS_succ, lo_xor, lo_sel, ← HE.out.2.1, ← HE.out.2.2, ← hl', ← hl2, H4.out, H3.out, Hm.out, et]
      have HA' : Hid (pc x7 x8 = pv (a <<< (i + 1))) := by
        refine pv_of ?_ ?_
        · rw [← shl_succ, ← HE.out.1, hi_shl, ← hh, ← hl, H7.out, H5.out, H6.out]
        · rw [← shl_succ, ← HE.out.1, lo_shl, ← hl, H8.out]
      have HQ : Hid (pv q = pc h' l' ∧ tx q = txn (i + 1) b ∧ pv s = pc h2 l2) := ⟨by rw [hh', hl']; rfl, by rw [HE.out.2.1]; rfl, by rw [hh2, hl2]; rfl⟩
      clear hh hl hh' hl' hh2 hl2 Hm H1 H2 H3 H4 H5 H6 H7 H8 HE
      go_upto_region 6 with fail
      obtain ⟨w3, hw3⟩ : ∃ w3, w3 = wr.setCell ⟨w.heap.size + 1 + 1 + 1, 0, none⟩ (.int .u64 (x2.toNat : Int)) := ⟨_, rfl⟩
      have Z3 : Hid (Chg w w3 ∧ Ar w3 w.heap.size (pv p) ∧ Ar w3 (w.heap.size + 1) (pc h' l') ∧ Ar w3 (w.heap.size + 1 + 1) (pv 0) ∧ Ar w3 (w.heap.size + 1 + 1 + 1) (pc x2 l2)) := by
        rw [hw3, ← HQ.out.1]
        refine ⟨Z.out.chg.setCell (by dsimp only; omega) _, Z.out.a.other (by dsimp only; omega) _, Z.out.b.other (by dsimp only; omega) _, Z.out.out.other (by dsimp only; omega) _, ?_⟩
        have := Z.out.s.set 0 (.int .u64 (x2.toNat : Int))
        rw [HQ.out.2.2] at this
        exact this
      rw [← hw3]
      have d1 : w3.cell? ⟨w.heap.size, 0, none⟩ = some (.int .u64 (h.toNat : Int)) := by rw [← c1, Z3.out.2.1.cell, Z.out.a.cell]
      have d2 : w3.cell? ⟨w.heap.size, 1, none⟩ = some (.int .u64 (l.toNat : Int)) := by rw [← c2, Z3.out.2.1.cell, Z.out.a.cell]
      have d4 : w3.cell? ⟨w.heap.size + 1, 1, none⟩ = some (.int .u64 (l'.toNat : Int)) := Z3.out.2.2.1.cell 1
      have d6 : w3.cell? ⟨w.heap.size + 1 + 1 + 1, 1, none⟩ = some (.int .u64 (l2.toNat : Int)) := Z3.out.2.2.2.2.cell 1
      have f2 := Z3.out.2.2.2.2.frozen 1
      clear hw3 c1 c2 c3 c4 c5 c6 f1 Z ey em e1 e2
      go_upto_region 7 with fail
      obtain ⟨w4, hw4⟩ : ∃ w4, w4 = w3.setCell ⟨w.heap.size + 1 + 1 + 1, 1, none⟩ (.int .u64 (x4.toNat : Int)) := ⟨_, rfl⟩
      have Z4 : Hid (Chg w w4 ∧ Ar w4 w.heap.size (pv p) ∧ Ar w4 (w.heap.size + 1) (pv q) ∧ Ar w4 (w.heap.size + 1 + 1) (pv 0) ∧ Ar w4 (w.heap.size + 1 + 1 + 1) (pv (prS a b (i + 1)))) := by
        rw [hw4, ← HS.out, HQ.out.1]
        refine ⟨Z3.out.1.setCell (by dsimp only; omega) _, Z3.out.2.1.other (by dsimp only; omega) _, Z3.out.2.2.1.other (by dsimp only; omega) _, Z3.out.2.2.2.1.other (by dsimp only; omega) _, ?_⟩
        exact Z3.out.2.2.2.2.set 1 (.int .u64 (x4.toNat : Int))
      rw [← hw4]
      have b1 : w4.cell? ⟨w.heap.size, 0, none⟩ = some (.int .u64 (h.toNat : Int)) := by rw [← d1, Z3.out.2.1.cell, Z4.out.2.1.cell]
      have b2 : w4.cell? ⟨w.heap.size, 1, none⟩ = some (.int .u64 (l.toNat : Int)) := by rw [← d2, Z3.out.2.1.cell, Z4.out.2.1.cell]
      obtain ⟨t1, g1⟩ := Z4.out.2.1
      have hsz := i65 x7 x8
      have hone := pc_one x7 x8
      have hlen : (pv p).size = (pc x7 x8).size := rfl
      unfold pc at hsz hone hlen
      clear hw4 d1 d2 d4 d6 f2 Z3 e3 e4
      rw [← zeroP] at hz
      go_upto_region 8 with (first | refine wpList_store_row rfl 65 _ _ rfl _ _ rfl rfl _ _ g1 hsz hlen hone ?_)
      obtain ⟨w5, hw5⟩ : ∃ w5, w5 = w4.setRow w.heap.size #[.int .u64 (x7.toNat : Int), .int .u64 (x8.toNat : Int)] := ⟨_, rfl⟩
      have Z5 : Hid (PrS w w5 (a <<< (i + 1)) q (prS a b (i + 1))) := by
        rw [hw5]
        obtain ⟨k0, k1, k2, k3, k4⟩ := Z4.out
        refine ⟨k0.setRow (by omega) _, ?_, k2.rowOther (by omega) _, k3.rowOther (by omega) _, k4.rowOther (by omega) _⟩
        rw [← HA'.out]
        exact k1.row _
      rw [← hw5]
      obtain ⟨t2, g2⟩ := Z5.out.b
      obtain ⟨ff, hff⟩ := str65
      have hsq : (Try.prog.info? 65).map (·.size) = some (pv q).size := i65 _ _
      have HT : Hid (Calls Try.prog 54 #[.agg (pv q)] w5 fun r w' => r = .returned (.agg (pv (txn (i + 1) b))) ∧ Chg w5 w') := by
        rw [← HQ.out.2.1]
        exact timesX_any q w5
      obtain ⟨Q1, hQ1⟩ : ∃ Q1, Q1 = pv q := ⟨_, rfl⟩
      have hsQ : Q1.size = 2 := by rw [hQ1]; rfl
      have HQ1 : Hid (Q1 = pv q) := hQ1
      rw [← hQ1] at HT g2 hsq
      have hs6 : (Try.prog.info? 65).map (·.size) = some (pv (txn (i + 1) b)).size := i65 _ _
      have ho6 := pv_one (txn (i + 1) b)
      have hl6 : Q1.size = (pv (txn (i + 1) b)).size := by rw [hsQ]; rfl
      obtain ⟨Q2, hQ2⟩ : ∃ Q2, Q2 = pv (txn (i + 1) b) := ⟨_, rfl⟩
      have HQ2 : Hid (Q2 = pv (txn (i + 1) b)) := hQ2
      rw [← hQ2] at HT hs6 ho6 hl6
      clear hw5 hQ1 hQ2 b1 b2 g1 hsz hone hlen Z4 e5 e6 e7 e8
      go_wp2_with (first | refine wpList_load_row rfl 65 _ rfl _ rfl _ _ _ _ g2 hff rfl hsq ?_)
      go_at_call 54
      refine HT.out.mono ?_
      rintro r w6 ⟨rfl, hc6⟩
      have Z6 : Hid (PrS w w6 (a <<< (i + 1)) q (prS a b (i + 1))) := by
        obtain ⟨k0, k1, k2, k3, k4⟩ := Z5.out
        exact ⟨k0.trans hc6, k1.chg hc6, k2.chg hc6, k3.chg hc6, k4.chg hc6⟩
      have g3 := Z6.out.b
      rw [← HQ1.out] at g3
      obtain ⟨t3, g3⟩ := g3
      clear hc6 g2 hsq HT
      go_wp2_with (first | refine wpList_store_row rfl 65 _ _ rfl _ _ rfl rfl _ _ g3 hs6 hl6 ho6 ?_)
      go_roundw
      case rel =>
        obtain ⟨k0, k1, k2, k3, k4⟩ := Z6.out
        refine ⟨i + 1, by go_num, by omega, k0.setRow (by omega) _, k1.rowOther (by omega) _, ?_, k3.rowOther (by omega) _, k4.rowOther (by omega) _⟩
        rw [HQ2.out]
        exact k2.row _
      case measure => simp [intOf]; omega
    · have hi2 : i = 128 := by omega
      have hd : decide ((i : Int) < 128) = false := by simp; omega
      have HS : Hid (s = pr a b) := by
        have := HE.out.2.2
        rw [hi2, prS_all] at this
        exact this
      obtain ⟨t1, g1⟩ := Z.out.s
      obtain ⟨t2, g2⟩ := Z.out.out
      obtain ⟨ff, hff⟩ := str65
      have hsq : (Try.prog.info? 65).map (·.size) = some (pv s).size := i65 _ _
      have hone := pv_one s
      have hlen : (pv 0).size = (pv s).size := rfl
      obtain ⟨Q1, hQ1⟩ : ∃ Q1, Q1 = pv s := ⟨_, rfl⟩
      have HQ1 : Hid (Q1 = pv s) := hQ1
      rw [← hQ1] at g1 hsq hone hlen
      clear hi2 hQ1
      go_wp2_with (first | refine wpList_load_row rfl 65 _ rfl _ rfl _ _ _ _ g1 hff rfl hsq ?_ | refine wpList_store_row rfl 65 _ _ rfl _ _ rfl rfl _ _ g2 hsq hlen hone ?_)
      refine bp_p (p := pr a b) Try.results33 rfl rfl ?_ ⟨rfl, ?_⟩
      · rw [← HS.out, HQ1.out]
        exact Z.out.out.row _
      · exact Z.out.chg.setRow (by omega) _
end Go.Proofs.Ytfnibmfmjglmlaa
