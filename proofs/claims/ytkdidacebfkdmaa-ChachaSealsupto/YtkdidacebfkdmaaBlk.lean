/-
  A block of the stream: the function Block.
-/
import Derived.Test.YtkdidacebfkdmaaBgw
import Derived.Test.YtkdidacebfkdmaaMix
namespace Go.Proofs.Ytkdidacebfkdmaa
open Go.RowKit
set_option linter.unusedVariables false

/-- Up to a place one block, from there on the other. -/
def upTo (i : Nat) (f g : Nat → By) : Nat → By := fun j => if j < i then f j else g j
theorem upTo_zero (f g : Nat → By) : upTo 0 f g = g := by funext j; simp [upTo]
theorem upTo_upd (i : Nat) (f g : Nat → By) : updB (upTo i f g) i (f i) = upTo (i + 1) f g := by
  funext j
  unfold updB upTo
  by_cases h : j = i
  · subst h; simp
  · have e : j < i + 1 ↔ j < i := by omega
    simp [h, e]
theorem upTo_all (n : Nat) (f g : Nat → By) : ba n (upTo n f g) = ba n f := ba_congr fun i hi => by simp [upTo, hi]

theorem heap_new1 (w : World) (a : Obj) (x : Array Value) (t : TypeId) : ((w.alloc a).alloc (.cells x t)).heap[w.heap.size + 1]? = some (.cells x t (0, 0)) := by
  have := heap_alloc_last (w.alloc a) (.cells x t)
  rwa [World.size_alloc] at this
theorem heap_new2 (w : World) (a b : Obj) (x : Array Value) (t : TypeId) : (((w.alloc a).alloc b).alloc (.cells x t)).heap[w.heap.size + 1 + 1]? = some (.cells x t (0, 0)) := by
  have := heap_alloc_last ((w.alloc a).alloc b) (.cells x t)
  rwa [World.size_alloc, World.size_alloc] at this

/-- What stands while a block is made. -/
structure BkS (w wr : World) (B1 B2 g : Nat) (f1 f2 : Nat → Wd) (F : Nat → By) : Prop where
  chg : Chg w wr
  res : Ar wr (w.heap.size + 1 + 1) (ba 64 zB)
  w1 : Ar wr B1 (wa 16 f1)
  w2 : Ar wr B2 (wa 16 f2)
  out : Ar wr g (ba 64 F)
  l1 : w.heap.size + 1 + 1 < B1
  l2 : B1 < B2
  l3 : B2 < g
theorem BkS.set {w wr : World} {B1 B2 g : Nat} {f1 f2 : Nat → Wd} {F : Nat → By} (h : BkS w wr B1 B2 g f1 f2 F) (i : Nat) (x : By) : BkS w (wr.setCell ⟨g, i, none⟩ (.int .u8 (x.toNat : Int))) B1 B2 g f1 f2 (updB F i x) := by
  have e1 := h.l1
  have e2 := h.l2
  have e3 := h.l3
  refine ⟨h.chg.setCell (by dsimp only; omega) _, h.res.other (by dsimp only; omega) _, h.w1.other (by dsimp only; omega) _, h.w2.other (by dsimp only; omega) _, ?_, e1, e2, e3⟩
  have := h.out.set i (.int .u8 (x.toNat : Int))
  rwa [ba_set] at this
theorem BkS.drewN {w wr : World} {B1 B2 g : Nat} {f1 f2 : Nat → Wd} {F : Nat → By} (h : BkS w wr B1 B2 g f1 f2 F) (n : Nat) : BkS w (wr.drewN n) B1 B2 g f1 f2 F := ⟨h.chg.drewN n, h.res, h.w1, h.w2, h.out, h.l1, h.l2, h.l3⟩

set_option maxRecDepth 100000 in
set_option maxHeartbeats 4000000 in
theorem block_any (key nonce : Nat → By) (c : Wd) (w : World) : Calls Try.prog 11 #[.agg (ba 32 key), .int .u32 (c.toNat : Int), .agg (ba 12 nonce)] w fun r w' => r = .returned (.agg (ba 64 (blk key c nonce))) ∧ Chg w w' := by
  obtain ⟨A, hA⟩ : ∃ A, A = ba 32 key := ⟨_, rfl⟩
  obtain ⟨D, hD⟩ : ∃ D, D = ba 12 nonce := ⟨_, rfl⟩
  have hsA : A.size = 32 := by rw [hA]; exact ba_size _ _
  have hsD : D.size = 12 := by rw [hD]; exact ba_size _ _
  have HSA : Hid ((Try.prog.info? 22).map (·.size) = some A.size ∧ (Try.prog.info? 24).map (·.size) = some D.size) := ⟨by rw [hA]; exact szB key i22, by rw [hD]; exact szB nonce i24⟩
  obtain ⟨f1, hf1⟩ : ∃ f, f = ini key c nonce := ⟨_, rfl⟩
  obtain ⟨f2, hf2⟩ : ∃ f, f = rds 10 f1 := ⟨_, rfl⟩
  obtain ⟨P1, hP1⟩ : ∃ P, P = wa 16 f1 := ⟨_, rfl⟩
  obtain ⟨P2, hP2⟩ : ∃ P, P = wa 16 f2 := ⟨_, rfl⟩
  have HB : Hid (∀ u, Calls Try.prog 19 #[.agg A, .int .u32 (c.toNat : Int), .agg D] u fun r w' => r = .returned (.agg P1) ∧ Chg u w') := by rw [hA, hD, hP1, hf1]; exact beginning_any key nonce c
  have HM : Hid (∀ u, Calls Try.prog 20 #[.agg P1] u fun r w' => r = .returned (.agg P2) ∧ Chg u w') := by rw [hP1, hP2, hf2]; exact mixed_any f1
  have HF : Hid (f1 = ini key c nonce ∧ f2 = rds 10 (ini key c nonce) ∧ P1 = wa 16 f1 ∧ P2 = wa 16 f2) := ⟨hf1, by rw [hf2, hf1], hP1, hP2⟩
  have hs1 : (Try.prog.info? 42).map (·.size) = some P1.size := by rw [hP1]; exact szW f1
  have hl1 : (wa 16 zW).size = P1.size := by rw [hP1]; exact lenW 16 zW f1
  have ho1 : P1.all (·.oneCell') = true := by rw [hP1]; exact wa_one 16 f1
  have hs2 : (Try.prog.info? 42).map (·.size) = some P2.size := by rw [hP2]; exact szW f2
  have hl2 : (wa 16 zW).size = P2.size := by rw [hP2]; exact lenW 16 zW f2
  have ho2 : P2.all (·.oneCell') = true := by rw [hP2]; exact wa_one 16 f2
  rw [← hA, ← hD]
  clear hA hD hf1 hf2 hP1 hP2
  have hz := zero42.1
  have hz2 := zero28.1
  go_enter Try.func11, Try.ntmps11
  go_upto_region 1 with fail
  obtain ⟨w3, hw3⟩ : ∃ w3, w3 = ((w.alloc (.cells A 22)).alloc (.cells D 24)).alloc (.cells (ba 64 zB) 28) := ⟨_, rfl⟩
  have Z3 : Hid (Chg w w3 ∧ Ar w3 (w.heap.size + 1 + 1) (ba 64 zB)) := by
    rw [hw3]
    exact ⟨(((Chg.refl w).alloc _).alloc _).alloc _, Ar.new2 w _ _ _ _⟩
  have gA : ∃ t, w3.heap[w.heap.size]? = some (.cells A t (0, 0)) := by rw [hw3]; exact ((Ar.new w _ _).alloc _).alloc _
  have gD : ∃ t, w3.heap[w.heap.size + 1]? = some (.cells D t (0, 0)) := by rw [hw3]; exact (Ar.new1 w _ _ _).alloc _
  rw [← hw3]
  clear hw3
  obtain ⟨tA, gA⟩ := gA
  obtain ⟨tD, gD⟩ := gD
  go_upto_region 2 with (first | refine wpList_load_row rfl 22 _ rfl _ rfl _ _ _ _ gA und22 rfl HSA.out.1 ?_ | refine wpList_load_row rfl 24 _ rfl _ rfl _ _ _ _ gD und24 rfl HSA.out.2 ?_ | (go_at_call 19; refine (HB.out _).mono ?_; rintro r w4 ⟨rfl, hc4⟩) | refine wpList_store_row rfl 42 _ _ rfl _ _ rfl rfl _ _ (heap_alloc_last w4 _) hs1 hl1 ho1 ?_)
  obtain ⟨B1, hB1⟩ : ∃ B, B = w4.heap.size := ⟨_, rfl⟩
  obtain ⟨w5, hw5⟩ : ∃ w5, w5 = (w4.alloc (.cells (wa 16 zW) 42)).setRow w4.heap.size P1 := ⟨_, rfl⟩
  have Z5 : Hid (Chg w w5 ∧ Ar w5 (w.heap.size + 1 + 1) (ba 64 zB) ∧ Ar w5 B1 P1 ∧ w.heap.size + 1 + 1 < B1) := by
    have k0 := Z3.out.1.trans hc4
    have k1 := Z3.out.2.chg hc4
    have k2 := k1.lt
    rw [hw5, hB1]
    exact ⟨(k0.alloc _).setRow k0.size _, (k1.alloc _).rowOther (by omega) _, (Ar.new w4 _ _).row _, k2⟩
  rw [← hw5, ← hB1]
  clear hw5 hB1 hc4 gA gD Z3 HSA
  obtain ⟨t5, g5⟩ := Z5.out.2.2.1
  dsimp only [Act.put]
  go_upto_region 3 with (first | refine wpList_load_row rfl 42 _ rfl _ rfl _ _ _ _ g5 und42 rfl hs1 ?_ | (go_at_call 20; refine (HM.out _).mono ?_; rintro r w6 ⟨rfl, hc6⟩) | refine wpList_store_row rfl 42 _ _ rfl _ _ rfl rfl _ _ (heap_alloc_last w6 _) hs2 hl2 ho2 ?_)
  obtain ⟨B2, hB2⟩ : ∃ B, B = w6.heap.size := ⟨_, rfl⟩
  obtain ⟨w7, hw7⟩ : ∃ w7, w7 = (w6.alloc (.cells (wa 16 zW) 42)).setRow w6.heap.size P2 := ⟨_, rfl⟩
  have hsz7 : Hid (w7.heap.size = B2 + 1) := by rw [hw7, hB2]; show _ = _; simp [World.setRow]
  have Z7 : Hid (Chg w w7 ∧ Ar w7 (w.heap.size + 1 + 1) (ba 64 zB) ∧ Ar w7 B1 P1 ∧ Ar w7 B2 P2 ∧ w.heap.size + 1 + 1 < B1 ∧ B1 < B2) := by
    have k0 := Z5.out.1.trans hc6
    have k1 := Z5.out.2.1.chg hc6
    have k3 := Z5.out.2.2.1.chg hc6
    have k2 := k1.lt
    have k4 := k3.lt
    rw [hw7, hB2]
    exact ⟨(k0.alloc _).setRow k0.size _, (k1.alloc _).rowOther (by omega) _, (k3.alloc _).rowOther (by omega) _, (Ar.new w6 _ _).row _, Z5.out.2.2.2, k4⟩
  rw [← hw7, ← hB2]
  clear hw7 hB2 hc6 g5 Z5 hs1 hs2 hl1 hl2 ho1 ho2 hz HB HM
  dsimp only [Act.put]
  go_wp2_with fail
  obtain ⟨g, hg⟩ : ∃ g, g = w7.heap.size := ⟨_, rfl⟩
  obtain ⟨w8, hw8⟩ : ∃ w8, w8 = w7.alloc (.cells (ba 64 zB) 28) := ⟨_, rfl⟩
  obtain ⟨F, hF⟩ : ∃ F, F = blk key c nonce := ⟨_, rfl⟩
  have HFF : Hid (F = blk key c nonce) := hF
  have Z8 : Hid (BkS w w8 B1 B2 g f1 f2 (upTo 0 F zB)) := by
    obtain ⟨k0, k1, k2, k3, k4, k5⟩ := Z7.out
    rw [HF.out.2.2.1] at k2
    rw [HF.out.2.2.2] at k3
    rw [hw8, hg, upTo_zero]
    exact ⟨k0.alloc _, k1.alloc _, k2.alloc _, k3.alloc _, Ar.new w7 _ _, k4, k5, by have := hsz7.out; omega⟩
  rw [← hw8, ← hg]
  clear hw8 hg hsz7 Z7 hF hz2
  go_loopw [18] (fun v wr => ∃ (i : Nat), v = .int .i64 i ∧ i ≤ 64 ∧ BkS w wr B1 B2 g f1 f2 (upTo i F zB)) (fun v wr => 64 - (intOf v).toNat)
  case atStart => exact ⟨0, rfl, by omega, Z8.out⟩
  case round =>
    clear Z8
    obtain ⟨i, rfl, hi, hz0⟩ := hrel
    have Z : Hid (BkS w wr B1 B2 g f1 f2 (upTo i F zB)) := hz0
    by_cases hlt : i < 64
    · have hd : decide ((i : Int) < 64) = true := by simp; omega
      have li : (i : Int) < 64 := by omega
      obtain ⟨q, r, s, e1, e2, e3, v1, v2, v3, l1, l2, l3, HQ⟩ := dm4 i hlt
      have lq : q < 16 := by omega
      have c1 := (hz0.w1.cell q).trans (wa_get 16 _ lq)
      have c2 := (hz0.w2.cell q).trans (wa_get 16 _ lq)
      have c3 := (hz0.out.cell i).trans (ba_get 64 _ hlt)
      have k3 := hz0.out.frozen i
      obtain ⟨x1, hx1⟩ : ∃ x, x = f1 q := ⟨_, rfl⟩
      obtain ⟨x2, hx2⟩ : ∃ x, x = f2 q := ⟨_, rfl⟩
      obtain ⟨x3, hx3⟩ : ∃ x, x = upTo i F zB i := ⟨_, rfl⟩
      rw [← hx1] at c1
      rw [← hx2] at c2
      rw [← hx3] at c3
      obtain ⟨y, Hy, ey⟩ := nmAdd x1 x2
      obtain ⟨z, Hz, ez⟩ := nmByte y s
      have HZ : Hid (z = F i) := by
        show z = _
        rw [Hz.out, Hy.out, hx1, hx2, HFF.out, blk, HQ.out.1, HQ.out.2.2, HF.out.1, HF.out.2.1]
      clear hx1 hx2 hx3 hz0 Hy Hz lq
      go_wp2_with fail
      go_quiet (fail)
      all_goals go_wp2
      all_goals
        go_roundw
        case rel =>
          refine ⟨i + 1, by go_num, by omega, ?_⟩
          have hh := (Z.out.drewN nq).set i z
          rw [HZ.out, upTo_upd i F zB, ← HZ.out] at hh
          exact hh
        case measure => simp [intOf]; omega
    · have : i = 64 := by omega
      subst this
      have ho := hz0.out
      rw [upTo_all] at ho
      have HO : Hid (Chg w wr ∧ Ar wr (w.heap.size + 1 + 1) (ba 64 zB)) := ⟨hz0.chg, hz0.res⟩
      clear hz0 Z
      obtain ⟨t1, g1⟩ := ho
      obtain ⟨t3, g3⟩ := HO.out.2
      have hsz := szB F i28
      have hlen := lenB 64 zB F
      have hone := ba_one 64 F
      go_wp2_with (first | refine wpList_load_row rfl 28 _ rfl _ rfl _ _ _ _ g1 und28 rfl hsz ?_ | refine wpList_store_row rfl 28 _ _ rfl _ _ rfl rfl _ _ g3 hsz hlen hone ?_)
      refine bp_c (n := 64) (c := ba 64 F) Try.results11 rfl rfl ?_ und28 i28 (ba_size _ _) ⟨by rw [HFF.out], ?_⟩
      · exact HO.out.2.row _
      · exact HO.out.1.setRow (by omega) _
end Go.Proofs.Ytkdidacebfkdmaa
