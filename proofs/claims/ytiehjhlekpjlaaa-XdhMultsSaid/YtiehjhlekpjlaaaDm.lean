/-
  X25519, as the document answers it.
-/
import Derived.Test.YtiehjhlekpjlaaaJp
import Derived.Test.YtiehjhlekpjlaaaWy
import Derived.Test.YtiehjhlekpjlaaaJl
import Derived.Test.YtiehjhlekpjlaaaJq
namespace Go.Proofs.Ytiehjhlekpjlaaa
open Go.RowKit
set_option linter.unusedVariables false

/-- What lies in memory while the document climbs. -/
structure DM (w wr : World) (b5 b6 b7 b8 b9 b10 : Nat) (n x a b c d : Int) : Prop where
  chg : Chg w wr
  a4 : Ar wr (w.heap.size + 1 + 1) (byt zD)
  a5 : Ar wr b5 (num n)
  a6 : Ar wr b6 (num x)
  a7 : Ar wr b7 (num a)
  a8 : Ar wr b8 (num b)
  a9 : Ar wr b9 (num c)
  a10 : Ar wr b10 (num d)
  o5 : w.heap.size + 1 + 1 < b5
  o6 : b5 < b6
  o7 : b6 < b7
  o8 : b7 < b8
  o9 : b8 < b9
  o10 : b9 < b10
theorem DM.to {w wr u : World} {b5 b6 b7 b8 b9 b10 : Nat} {n x a b c d : Int} (h : DM w wr b5 b6 b7 b8 b9 b10 n x a b c d) (k : Chg wr u) : DM w u b5 b6 b7 b8 b9 b10 n x a b c d :=
  ⟨h.chg.trans k, h.a4.chg k, h.a5.chg k, h.a6.chg k, h.a7.chg k, h.a8.chg k, h.a9.chg k, h.a10.chg k, h.o5, h.o6, h.o7, h.o8, h.o9, h.o10⟩
theorem DM.s7 {w wr : World} {b5 b6 b7 b8 b9 b10 : Nat} {n x a b c d : Int} (h : DM w wr b5 b6 b7 b8 b9 b10 n x a b c d) (y : Int) : DM w (wr.setRow b7 (num y)) b5 b6 b7 b8 b9 b10 n x y b c d := by
  obtain ⟨h0, h4, h5, h6, h7, h8, h9, h10, o5, o6, o7, o8, o9, o10⟩ := h
  exact ⟨h0.setRow (by omega) _, h4.rowOther (by omega) _, h5.rowOther (by omega) _, h6.rowOther (by omega) _, h7.row _, h8.rowOther (by omega) _, h9.rowOther (by omega) _, h10.rowOther (by omega) _, o5, o6, o7, o8, o9, o10⟩
theorem DM.s8 {w wr : World} {b5 b6 b7 b8 b9 b10 : Nat} {n x a b c d : Int} (h : DM w wr b5 b6 b7 b8 b9 b10 n x a b c d) (y : Int) : DM w (wr.setRow b8 (num y)) b5 b6 b7 b8 b9 b10 n x a y c d := by
  obtain ⟨h0, h4, h5, h6, h7, h8, h9, h10, o5, o6, o7, o8, o9, o10⟩ := h
  exact ⟨h0.setRow (by omega) _, h4.rowOther (by omega) _, h5.rowOther (by omega) _, h6.rowOther (by omega) _, h7.rowOther (by omega) _, h8.row _, h9.rowOther (by omega) _, h10.rowOther (by omega) _, o5, o6, o7, o8, o9, o10⟩
theorem DM.s9 {w wr : World} {b5 b6 b7 b8 b9 b10 : Nat} {n x a b c d : Int} (h : DM w wr b5 b6 b7 b8 b9 b10 n x a b c d) (y : Int) : DM w (wr.setRow b9 (num y)) b5 b6 b7 b8 b9 b10 n x a b y d := by
  obtain ⟨h0, h4, h5, h6, h7, h8, h9, h10, o5, o6, o7, o8, o9, o10⟩ := h
  exact ⟨h0.setRow (by omega) _, h4.rowOther (by omega) _, h5.rowOther (by omega) _, h6.rowOther (by omega) _, h7.rowOther (by omega) _, h8.rowOther (by omega) _, h9.row _, h10.rowOther (by omega) _, o5, o6, o7, o8, o9, o10⟩
theorem DM.s10 {w wr : World} {b5 b6 b7 b8 b9 b10 : Nat} {n x a b c d : Int} (h : DM w wr b5 b6 b7 b8 b9 b10 n x a b c d) (y : Int) : DM w (wr.setRow b10 (num y)) b5 b6 b7 b8 b9 b10 n x a b c y := by
  obtain ⟨h0, h4, h5, h6, h7, h8, h9, h10, o5, o6, o7, o8, o9, o10⟩ := h
  exact ⟨h0.setRow (by omega) _, h4.rowOther (by omega) _, h5.rowOther (by omega) _, h6.rowOther (by omega) _, h7.rowOther (by omega) _, h8.rowOther (by omega) _, h9.rowOther (by omega) _, h10.row _, o5, o6, o7, o8, o9, o10⟩

/-- Bytes as the document's Wide takes them. -/
theorem bz_of {w : World} {b : Nat} {g : Nat → Int} (hg : ∀ i, B8 (g i)) (h : Ar w b (byt (cu g))) : Bz w b 0 32 (dg 256 (uN g)) := fun j hj => by
  rw [Nat.zero_add, h.cell, byt, arr_get _ _ _ hj]
  unfold uN
  rw [dg_val (cu_8 hg) hj]
theorem uN_lt {g : Nat → Int} (hg : ∀ i, B8 (g i)) : 0 ≤ uN g ∧ uN g < 256 ^ 32 := val_b (cu_8 hg) 32
/-- Which of two are exchanged. -/
def sel (cb : Bool) (a b c d A B C D : Int) : Prop := cb = true ∧ A = c ∧ B = d ∧ C = a ∧ D = b ∨ cb = false ∧ A = a ∧ B = b ∧ C = c ∧ D = d

set_option maxRecDepth 100000 in
set_option maxHeartbeats 32000000 in
theorem multY_any (e g : Nat → Int) (he : ∀ i, B8 (e i)) (hg : ∀ i, B8 (g i)) (w : World) : Calls Try.prog 10 #[.agg (byt e), .agg (byt g)] w fun r w' => r = .returned (.agg (byt (mB e g))) ∧ Chg w w' := by
  have HN : Hid ((∀ i, B8 (e i)) ∧ ∀ i, B8 (g i)) := ⟨he, hg⟩
  obtain ⟨M, hM⟩ : ∃ M, M = mB e g := ⟨_, rfl⟩
  have HMM : Hid (M = mB e g) := hM
  rw [← hM]
  clear hM
  have b0 := (b_lo8 (he 0)).2
  have b1 := (b_hi (he 31)).2
  have b2 : bits .or .u8 (e 31 % 128) 64 = e 31 % 64 + 64 := by
    have := he 31
    unfold B8 at this
    rw [b_or (by omega)]
    omega
  have b3 := (b_hi (hg 31)).2
  have hz := zero37.1
  have hsA := byt_size e
  have hsB := byt_size g
  obtain ⟨A, hA⟩ : ∃ A, A = byt e := ⟨_, rfl⟩
  obtain ⟨B, hB⟩ : ∃ B, B = byt g := ⟨_, rfl⟩
  obtain ⟨Z0, hZ0⟩ : ∃ A, A = byt zD := ⟨_, rfl⟩
  have HA : Hid (A = byt e ∧ B = byt g ∧ Z0 = byt zD) := ⟨hA, hB, hZ0⟩
  rw [← hA] at hsA ⊢
  rw [← hB] at hsB ⊢
  rw [← hZ0] at hz
  obtain ⟨d0, hd0⟩ : ∃ d, d = e 0 := ⟨_, rfl⟩
  obtain ⟨d31, hd31⟩ : ∃ d, d = e 31 := ⟨_, rfl⟩
  obtain ⟨f0, hf0⟩ : ∃ d, d = e 0 - e 0 % 8 := ⟨_, rfl⟩
  obtain ⟨f1, hf1⟩ : ∃ d, d = e 31 % 128 := ⟨_, rfl⟩
  obtain ⟨f2, hf2⟩ : ∃ d, d = e 31 % 64 + 64 := ⟨_, rfl⟩
  obtain ⟨h31, hh31⟩ : ∃ d, d = g 31 := ⟨_, rfl⟩
  obtain ⟨f3, hf3⟩ : ∃ d, d = g 31 % 128 := ⟨_, rfl⟩
  have HF : Hid (d0 = e 0 ∧ d31 = e 31 ∧ f0 = e 0 - e 0 % 8 ∧ f2 = e 31 % 64 + 64 ∧ h31 = g 31 ∧ f3 = g 31 % 128) := ⟨hd0, hd31, hf0, hf2, hh31, hf3⟩
  rw [← hf0, ← hd0] at b0
  rw [← hf1, ← hd31] at b1
  rw [← hf1, ← hf2] at b2
  rw [← hf3, ← hh31] at b3
  clear hA hB hZ0 he hg hd0 hd31 hf0 hf1 hf2 hh31 hf3
  go_enter Try.func10, Try.ntmps10
  go_upto_region 1 with fail
  obtain ⟨w1, hw1⟩ : ∃ w1, w1 = ((w.alloc (.cells A 22)).alloc (.cells B 22)).alloc (.cells Z0 22) := ⟨_, rfl⟩
  have Z1 : Hid (Chg w w1 ∧ Ar w1 w.heap.size (byt e) ∧ Ar w1 (w.heap.size + 1) (byt g) ∧ Ar w1 (w.heap.size + 1 + 1) (byt zD)) := by
    rw [hw1, HA.out.1, HA.out.2.1, HA.out.2.2]
    exact ⟨(((Chg.refl w).alloc _).alloc _).alloc _, ((Ar.new w _ _).alloc _).alloc _, (Ar.new1 w _ _ _).alloc _, Ar.new2 w _ _ _ _⟩
  have c0 : w1.cell? ⟨w.heap.size, 0, none⟩ = some (.int .u8 d0) := by rw [HF.out.1]; exact (Z1.out.2.1.cell 0).trans (arr_get _ _ _ (by decide))
  have z0 := Z1.out.2.1.frozen 0
  rw [← hw1]
  clear hw1 hsA hsB hz HA
  go_upto_region 2 with fail
  obtain ⟨w2, hw2⟩ : ∃ w2, w2 = w1.setCell ⟨w.heap.size, 0, none⟩ (.int .u8 f0) := ⟨_, rfl⟩
  have Z2 : Hid (Chg w w2 ∧ Ar w2 w.heap.size (byt (upd e 0 (e 0 - e 0 % 8))) ∧ Ar w2 (w.heap.size + 1) (byt g) ∧ Ar w2 (w.heap.size + 1 + 1) (byt zD)) := by
    rw [hw2, HF.out.2.2.1]
    refine ⟨Z1.out.1.setCell (Nat.le_refl _) _, ?_, Z1.out.2.2.1.other (by dsimp only; omega) _, Z1.out.2.2.2.other (by dsimp only; omega) _⟩
    have := Z1.out.2.1.set 0 (.int .u8 (e 0 - e 0 % 8))
    rw [show byt e = arr .u8 32 e from rfl, arr_set] at this
    exact this
  have c1 : w2.cell? ⟨w.heap.size, 31, none⟩ = some (.int .u8 d31) := by rw [HF.out.2.1]; exact (Z2.out.2.1.cell 31).trans (arr_get _ _ _ (by decide))
  have z1 := Z2.out.2.1.frozen 31
  rw [← hw2]
  clear hw2 c0 z0 Z1 b0
  go_upto_region 3 with fail
  obtain ⟨w3, hw3⟩ : ∃ w3, w3 = w2.setCell ⟨w.heap.size, 31, none⟩ (.int .u8 f2) := ⟨_, rfl⟩
  have Z3 : Hid (Chg w w3 ∧ Ar w3 w.heap.size (byt (ck e)) ∧ Ar w3 (w.heap.size + 1) (byt g) ∧ Ar w3 (w.heap.size + 1 + 1) (byt zD)) := by
    rw [hw3, HF.out.2.2.2.1]
    refine ⟨Z2.out.1.setCell (Nat.le_refl _) _, ?_, Z2.out.2.2.1.other (by dsimp only; omega) _, Z2.out.2.2.2.other (by dsimp only; omega) _⟩
    have := Z2.out.2.1.set 31 (.int .u8 (e 31 % 64 + 64))
    rw [show byt (upd e 0 (e 0 - e 0 % 8)) = arr .u8 32 (upd e 0 (e 0 - e 0 % 8)) from rfl, arr_set] at this
    exact this
  have c2 : w3.cell? ⟨w.heap.size + 1, 31, none⟩ = some (.int .u8 h31) := by rw [HF.out.2.2.2.2.1]; exact (Z3.out.2.2.1.cell 31).trans (arr_get _ _ _ (by decide))
  have z2 := Z3.out.2.2.1.frozen 31
  rw [← hw3]
  clear hw3 c1 z1 Z2 b1 b2
  go_upto_region 4 with fail
  obtain ⟨w4, hw4⟩ : ∃ w4, w4 = w3.setCell ⟨w.heap.size + 1, 31, none⟩ (.int .u8 f3) := ⟨_, rfl⟩
  have Z4 : Hid (Chg w w4 ∧ Ar w4 w.heap.size (byt (ck e)) ∧ Ar w4 (w.heap.size + 1) (byt (cu g)) ∧ Ar w4 (w.heap.size + 1 + 1) (byt zD)) := by
    rw [hw4, HF.out.2.2.2.2.2]
    refine ⟨Z3.out.1.setCell (by dsimp only; omega) _, Z3.out.2.1.other (by dsimp only; omega) _, ?_, Z3.out.2.2.2.other (by dsimp only; omega) _⟩
    have := Z3.out.2.2.1.set 31 (.int .u8 (g 31 % 128))
    rw [show byt g = arr .u8 32 g from rfl, arr_set] at this
    exact this
  rw [← hw4]
  clear hw4 c2 z2 Z3 b3 HF
  -- the multiplier
  have hz := zero25.1
  have r1 := rangeY Z4.out.2.1
  have iK := infoY (ck e)
  have HK : Hid (∀ W, Calls Try.prog 20 #[.agg (byt (ck e))] W fun r w' => r = .returned (.agg (num (val 256 32 (ck e)))) ∧ Chg W w') := fun W => fromLER_any (ck e) (ck_8 HN.out.1) W
  obtain ⟨KA, hKA⟩ : ∃ A, A = byt (ck e) := ⟨_, rfl⟩
  rw [← hKA] at r1 iK HK
  clear hKA
  go_wp2_with (first | refine wpList_load_mid rfl 22 (.tmp 2) rfl _ _ rfl (KA.toList) _ r1 un37 rfl iK ?_)
  go_at_call 20
  refine (HK.out _).mono ?_
  rintro r w4a ⟨rfl, hc4⟩
  obtain ⟨n, hn⟩ : ∃ n, n = val 256 32 (ck e) := ⟨_, rfl⟩
  have HNN : Hid (n = val 256 32 (ck e) ∧ N256 n) := ⟨hn, by rw [hn]; exact N_val (ck_8 HN.out.1)⟩
  rw [← hn]
  have g1 := heap_alloc_last w4a (.cells (num 0) 34)
  have s1 := szN n
  have l1 := lenN 0 n
  have o1 := num_one n
  clear r1 iK HK hn
  go_upto_region 5 with (first | refine wpList_store_row rfl 34 _ _ rfl _ _ rfl rfl _ _ g1 s1 l1 o1 ?_)
  obtain ⟨w5, hw5⟩ : ∃ w5, w5 = (w4a.alloc (.cells (num 0) 34)).setRow w4a.heap.size (num n) := ⟨_, rfl⟩
  obtain ⟨b5, hb5⟩ : ∃ b, b = w4a.heap.size := ⟨_, rfl⟩
  have Z5 : Hid (Chg w w5 ∧ Ar w5 (w.heap.size + 1) (byt (cu g)) ∧ Ar w5 (w.heap.size + 1 + 1) (byt zD) ∧ Ar w5 b5 (num n) ∧ w.heap.size + 1 + 1 < b5) := by
    have hc : Chg w4 w5 := by rw [hw5]; exact (hc4.alloc _).setRow hc4.size _
    refine ⟨Z4.out.1.trans hc, Z4.out.2.2.1.chg hc, Z4.out.2.2.2.chg hc, ?_, ?_⟩
    · rw [hw5, hb5]; exact (Ar.new _ _ _).row _
    · rw [hb5]; exact Nat.lt_of_lt_of_le Z4.out.2.2.2.lt hc4.size
  rw [← hw5]
  rw [← hb5]
  clear hw5 hb5 hc4 g1 s1 l1 o1 Z4 
  dsimp only [Act.put]
  -- the point's x
  have HW : Hid (∀ W, Chg w5 W → Calls Try.prog 21 #[.int .i64 1, .slice (some ⟨w.heap.size + 1, 0, none⟩) 32 32] W fun r w' => r = .returned (.agg (num (md 1 (uN g)))) ∧ Chg W w') := fun W hW => wideR_any 1 (uN g) (w.heap.size + 1) 0 32 32 (uN_lt HN.out.2) (by decide) W (bz_of HN.out.2 (Z5.out.2.1.chg hW))
  have hsl : ∀ W, (Instr.sliceAt 22 (.pointer (some ⟨w.heap.size + 1, 0, none⟩)) none none none).run Try.prog W = .ok (.slice (some ⟨w.heap.size + 1, 0, none⟩) 32 32) W := fun W => run_sliceArrY un37 (by decide) (w.heap.size + 1) W
  go_wp2_with fail
  go_at_call 21
  refine (HW.out _ (Chg.refl _)).mono ?_
  rintro r w5a ⟨rfl, hc5⟩
  obtain ⟨x, hx⟩ : ∃ x, x = md 1 (uN g) := ⟨_, rfl⟩
  have HX : Hid (x = md 1 (uN g) ∧ N256 x) := ⟨hx, by rw [hx]; exact md_N _ _⟩
  rw [← hx]
  have g1 := heap_alloc_last w5a (.cells (num 0) 34)
  have s1 := szN x
  have l1 := lenN 0 x
  have o1 := num_one x
  clear HW hx hsl
  go_upto_region 6 with (first | refine wpList_store_row rfl 34 _ _ rfl _ _ rfl rfl _ _ g1 s1 l1 o1 ?_)
  obtain ⟨w6, hw6⟩ : ∃ w6, w6 = (w5a.alloc (.cells (num 0) 34)).setRow w5a.heap.size (num x) := ⟨_, rfl⟩
  obtain ⟨b6, hb6⟩ : ∃ b, b = w5a.heap.size := ⟨_, rfl⟩
  have Z6 : Hid (Chg w w6 ∧ Ar w6 (w.heap.size + 1 + 1) (byt zD) ∧ Ar w6 b5 (num n) ∧ Ar w6 b6 (num x) ∧ w.heap.size + 1 + 1 < b5 ∧ b5 < b6) := by
    have hc : Chg w5 w6 := by rw [hw6]; exact (hc5.alloc _).setRow hc5.size _
    refine ⟨Z5.out.1.trans hc, Z5.out.2.2.1.chg hc, Z5.out.2.2.2.1.chg hc, ?_, Z5.out.2.2.2.2, ?_⟩
    · rw [hw6, hb6]; exact (Ar.new _ _ _).row _
    · rw [hb6]; exact Nat.lt_of_lt_of_le Z5.out.2.2.2.1.lt hc5.size
  rw [← hw6]
  rw [← hb6]
  clear hw6 hb6 hc5 g1 s1 l1 o1 Z5
  dsimp only [Act.put]
  have g1 := heap_alloc_last w6 (.cells (num 0) 34)
  have s1 := szN (1)
  have l1 := lenN 0 (1)
  have o1 := num_one (1)
  have h1 := num_set1
  have hne := num_ne0y
  go_upto_region 7 with (first | refine wpList_store_row rfl 34 _ _ rfl _ _ rfl rfl _ _ g1 s1 l1 o1 ?_)
  obtain ⟨w7, hw7⟩ : ∃ w7, w7 = (w6.alloc (.cells (num 0) 34)).setRow w6.heap.size (num (1)) := ⟨_, rfl⟩
  obtain ⟨b7, hb7⟩ : ∃ b, b = w6.heap.size := ⟨_, rfl⟩
  have Z7 : Hid (Chg w w7 ∧ Ar w7 (w.heap.size + 1 + 1) (byt zD) ∧ Ar w7 b5 (num (n)) ∧ Ar w7 b6 (num (x)) ∧ Ar w7 b7 (num (1)) ∧ w.heap.size + 1 + 1 < b5 ∧ b5 < b6 ∧ b6 < b7) := by
    have hc : Chg w6 w7 := by rw [hw7]; exact ((Chg.refl w6).alloc _).setRow (Nat.le_refl _) _
    obtain ⟨k0, k4, f5, f6, p5, p6⟩ := Z6.out
    refine ⟨k0.trans hc, k4.chg hc, f5.chg hc, f6.chg hc, ?_, p5, p6, ?_⟩
    · rw [hw7, hb7]; exact (Ar.new _ _ _).row _
    · rw [hb7]; exact f6.lt
  rw [← hw7]
  rw [← hb7]
  clear hw7 hb7 g1 s1 l1 o1 Z6 h1 hne
  dsimp only [Act.put]
  have g1 := heap_alloc_last w7 (.cells (num 0) 34)
  have s1 := szN (0)
  have l1 := lenN 0 (0)
  have o1 := num_one (0)
  go_upto_region 8 with (first | refine wpList_store_row rfl 34 _ _ rfl _ _ rfl rfl _ _ g1 s1 l1 o1 ?_)
  obtain ⟨w8, hw8⟩ : ∃ w8, w8 = (w7.alloc (.cells (num 0) 34)).setRow w7.heap.size (num (0)) := ⟨_, rfl⟩
  obtain ⟨b8, hb8⟩ : ∃ b, b = w7.heap.size := ⟨_, rfl⟩
  have Z8 : Hid (Chg w w8 ∧ Ar w8 (w.heap.size + 1 + 1) (byt zD) ∧ Ar w8 b5 (num (n)) ∧ Ar w8 b6 (num (x)) ∧ Ar w8 b7 (num (1)) ∧ Ar w8 b8 (num (0)) ∧ w.heap.size + 1 + 1 < b5 ∧ b5 < b6 ∧ b6 < b7 ∧ b7 < b8) := by
    have hc : Chg w7 w8 := by rw [hw8]; exact ((Chg.refl w7).alloc _).setRow (Nat.le_refl _) _
    obtain ⟨k0, k4, f5, f6, f7, p5, p6, p7⟩ := Z7.out
    refine ⟨k0.trans hc, k4.chg hc, f5.chg hc, f6.chg hc, f7.chg hc, ?_, p5, p6, p7, ?_⟩
    · rw [hw8, hb8]; exact (Ar.new _ _ _).row _
    · rw [hb8]; exact f7.lt
  rw [← hw8]
  rw [← hb8]
  clear hw8 hb8 g1 s1 l1 o1 Z7
  dsimp only [Act.put]
  have g1 := heap_alloc_last w8 (.cells (num 0) 34)
  have s1 := szN (x)
  have l1 := lenN 0 (x)
  have o1 := num_one (x)
  have r1 := rangeN Z8.out.2.2.2.1
  have i1 := infoN x
  go_upto_region 9 with (first | refine wpList_load_mid rfl 34 (.tmp 6) rfl _ _ rfl ((num x).toList) _ r1 Go.Proofs.Ytiehjhlekpjlaaa.u25 rfl i1 ?_ | refine wpList_store_row rfl 34 _ _ rfl _ _ rfl rfl _ _ g1 s1 l1 o1 ?_)
  obtain ⟨w9, hw9⟩ : ∃ w9, w9 = (w8.alloc (.cells (num 0) 34)).setRow w8.heap.size (num (x)) := ⟨_, rfl⟩
  obtain ⟨b9, hb9⟩ : ∃ b, b = w8.heap.size := ⟨_, rfl⟩
  have Z9 : Hid (Chg w w9 ∧ Ar w9 (w.heap.size + 1 + 1) (byt zD) ∧ Ar w9 b5 (num (n)) ∧ Ar w9 b6 (num (x)) ∧ Ar w9 b7 (num (1)) ∧ Ar w9 b8 (num (0)) ∧ Ar w9 b9 (num (x)) ∧ w.heap.size + 1 + 1 < b5 ∧ b5 < b6 ∧ b6 < b7 ∧ b7 < b8 ∧ b8 < b9) := by
    have hc : Chg w8 w9 := by rw [hw9]; exact ((Chg.refl w8).alloc _).setRow (Nat.le_refl _) _
    obtain ⟨k0, k4, f5, f6, f7, f8, p5, p6, p7, p8⟩ := Z8.out
    refine ⟨k0.trans hc, k4.chg hc, f5.chg hc, f6.chg hc, f7.chg hc, f8.chg hc, ?_, p5, p6, p7, p8, ?_⟩
    · rw [hw9, hb9]; exact (Ar.new _ _ _).row _
    · rw [hb9]; exact f8.lt
  rw [← hw9]
  rw [← hb9]
  clear hw9 hb9 g1 s1 l1 o1 Z8 r1 i1
  dsimp only [Act.put]
  have g1 := heap_alloc_last w9 (.cells (num 0) 34)
  have s1 := szN (1)
  have l1 := lenN 0 (1)
  have o1 := num_one (1)
  have h1 := num_set1
  have hne := num_ne0y
  go_upto_region 10 with (first | refine wpList_store_row rfl 34 _ _ rfl _ _ rfl rfl _ _ g1 s1 l1 o1 ?_)
  obtain ⟨w10, hw10⟩ : ∃ w10, w10 = (w9.alloc (.cells (num 0) 34)).setRow w9.heap.size (num (1)) := ⟨_, rfl⟩
  obtain ⟨b10, hb10⟩ : ∃ b, b = w9.heap.size := ⟨_, rfl⟩
  have Z10 : Hid (Chg w w10 ∧ Ar w10 (w.heap.size + 1 + 1) (byt zD) ∧ Ar w10 b5 (num (n)) ∧ Ar w10 b6 (num (x)) ∧ Ar w10 b7 (num (1)) ∧ Ar w10 b8 (num (0)) ∧ Ar w10 b9 (num (x)) ∧ Ar w10 b10 (num (1)) ∧ w.heap.size + 1 + 1 < b5 ∧ b5 < b6 ∧ b6 < b7 ∧ b7 < b8 ∧ b8 < b9 ∧ b9 < b10) := by
    have hc : Chg w9 w10 := by rw [hw10]; exact ((Chg.refl w9).alloc _).setRow (Nat.le_refl _) _
    obtain ⟨k0, k4, f5, f6, f7, f8, f9, p5, p6, p7, p8, p9⟩ := Z9.out
    refine ⟨k0.trans hc, k4.chg hc, f5.chg hc, f6.chg hc, f7.chg hc, f8.chg hc, f9.chg hc, ?_, p5, p6, p7, p8, p9, ?_⟩
    · rw [hw10, hb10]; exact (Ar.new _ _ _).row _
    · rw [hb10]; exact f9.lt
  rw [← hw10]
  rw [← hb10]
  clear hw10 hb10 g1 s1 l1 o1 Z9 h1 hne
  dsimp only [Act.put]
  have ZD : Hid (DM w w10 b5 b6 b7 b8 b9 b10 n x 1 0 x 1) := by
    obtain ⟨k0, k4, f5, f6, f7, f8, f9, f10, p5, p6, p7, p8, p9, p10⟩ := Z10.out
    exact ⟨k0, k4, f5, f6, f7, f8, f9, f10, p5, p6, p7, p8, p9, p10⟩
  clear Z10
  go_wp2_with fail
  go_loopw [11] (fun v wr => ∃ (z a b c d : Int), v = .int .i64 z ∧ -1 ≤ z ∧ z < 255 ∧ DM w wr b5 b6 b7 b8 b9 b10 n x a b c d ∧ LQ x n.toNat (254 - z).toNat a b c d) (fun v wr => (intOf v + 1).toNat)
  case atStart => exact ⟨254, 1, 0, x, 1, rfl, by decide, by decide, ZD.out, LQ.zero HX.out.2 _⟩
  case round =>
    clear ZD
    obtain ⟨z, a, b, c, d, rfl, hz0, hz1, hm, hq⟩ := hrel
    have H : Hid (DM w wr b5 b6 b7 b8 b9 b10 n x a b c d ∧ LQ x n.toNat (254 - z).toNat a b c d) := ⟨hm, hq⟩
    clear hq
    by_cases hzz : 0 ≤ z
    · obtain ⟨j, rfl⟩ : ∃ q : Nat, z = q := ⟨z.toNat, by omega⟩
      have hdz : decide ((0 : Int) ≤ (j : Int)) = true := by simp
      have lj0 : (0 : Int) ≤ (j : Int) := by omega
      obtain ⟨z', hz'⟩ : ∃ z' : Int, (j : Int) - 1 = z' := ⟨_, rfl⟩
      have wz := wrap_i (x := z') (by omega) (by omega)
      have HZ' : Hid (z' = (j : Int) - 1 ∧ j < 255) := ⟨hz'.symm, by omega⟩
      obtain ⟨q, hq⟩ : ∃ q : Nat, (j : Int).tdiv 64 = q := ⟨j / 64, by rw [Int.tdiv_eq_ediv_of_nonneg (by omega)]; omega⟩
      obtain ⟨s, hs⟩ : ∃ t : Nat, (j : Int).tmod 64 = t := ⟨j % 64, by rw [Int.tmod_eq_emod_of_nonneg (by omega)]; omega⟩
      have hq' : q = j / 64 := by rw [Int.tdiv_eq_ediv_of_nonneg (by omega)] at hq; omega
      have hs' : s = j % 64 := by rw [Int.tmod_eq_emod_of_nonneg (by omega)] at hs; omega
      have wq := wrap_i (x := (q : Int)) (by omega) (by omega)
      have wt := wrap_i (x := (s : Int)) (by omega) (by omega)
      have lt : ¬ (s : Int) < 0 := by omega
      have lt64 : s < 64 := by omega
      have lq : (q : Int) < 4 := by omega
      have lq' : q < 4 := by omega
      have hdw : W64 (dg B64 n q) := dg_w n q
      have hsw : W64 (dg B64 n q / 2 ^ s) := by
        have ⟨h0, h1⟩ := hdw
        have hp : (0 : Int) < 2 ^ s := Int.pow_pos (by decide)
        exact ⟨Int.ediv_nonneg h0 (by omega), Int.lt_of_le_of_lt (Int.ediv_le_self _ h0) h1⟩
      have em := low1 hsw
      rw [dg_bit n q s lt64] at em
      have ei : 64 * q + s = j := by omega
      rw [ei] at em
      have c1 : wr.cell? ⟨b5, q, none⟩ = some (.int .u64 (dg B64 n q)) := (hm.a5.cell q).trans (arr_get _ _ _ lq')
      obtain ⟨dd, hd⟩ : ∃ d, d = dg B64 n q := ⟨_, rfl⟩
      obtain ⟨y, hy⟩ : ∃ y, y = dg 2 n j := ⟨_, rfl⟩
      rw [← hd, ← hy] at em
      rw [← hd] at c1
      obtain ⟨cb, hcb⟩ : ∃ cb, (y == 1) = cb := ⟨_, rfl⟩
      have HC : Hid (cb = (n.toNat / 2 ^ (254 - (254 - (j : Int)).toNat) % 2 == 1)) := by
        show cb = _
        rw [← hcb, hy, bit_nat HNN.out.2.1, show 254 - (254 - (j : Int)).toNat = j by omega]
      clear hm hq' hs' hdw hsw ei hd hy
      go_upto_if 56 with fail
      clear c1 em hq hs wq wt lt lt64 lq lq' hcb
      go_cut [] from 43 to 114 (fun wc => ∃ A B C D : Int, sel cb a b c d A B C D ∧ DM w wc b5 b6 b7 b8 b9 b10 n x A B C D)
      case first =>
        cases cb
        · go_wp2_with fail
          go_meet
          exact ⟨a, b, c, d, .inr ⟨rfl, rfl, rfl, rfl, rfl⟩, H.out.1⟩
        · have S := H.out.1
          have r7 := rangeN S.a7
          have r9 := rangeN S.a9
          have i7 := infoN a
          have i9 := infoN c
          obtain ⟨t7, g7⟩ := S.a7
          obtain ⟨t9, g9⟩ := (S.s7 c).a9
          have sa := szN a
          have sc := szN c
          have lac := lenN a c
          have lca := lenN c a
          have oa := num_one a
          have oc := num_one c
          clear S
          go_upto_region 16 with (first
            | refine wpList_load_mid rfl 34 (.tmp 9) rfl _ _ rfl ((num c).toList) _ r9 Go.Proofs.Ytiehjhlekpjlaaa.u25 rfl i9 ?_
            | refine wpList_load_mid rfl 34 (.tmp 7) rfl _ _ rfl ((num a).toList) _ r7 Go.Proofs.Ytiehjhlekpjlaaa.u25 rfl i7 ?_
            | refine wpList_store_row rfl 34 _ _ rfl _ _ rfl rfl _ _ g7 sc lac oc ?_
            | refine wpList_store_row rfl 34 _ _ rfl _ _ rfl rfl _ _ g9 sa lca oa ?_)
          obtain ⟨v1, hv1⟩ : ∃ v1, v1 = (wr.setRow b7 (num c)).setRow b9 (num a) := ⟨_, rfl⟩
          have Y : Hid (DM w v1 b5 b6 b7 b8 b9 b10 n x c b a d) := by rw [hv1]; exact (H.out.1.s7 c).s9 a
          rw [← hv1]
          clear hv1 r7 r9 g7 g9 i7 i9
          dsimp only [Act.put]
          have r8 := rangeN Y.out.a8
          have r10 := rangeN Y.out.a10
          have i8 := infoN b
          have i10 := infoN d
          obtain ⟨t8, g8⟩ := Y.out.a8
          obtain ⟨t10, g10⟩ := (Y.out.s8 d).a10
          have sb := szN b
          have sd := szN d
          have lbd := lenN b d
          have ldb := lenN d b
          have ob := num_one b
          have od := num_one d
          go_wp2_with (first
            | refine wpList_load_mid rfl 34 (.tmp 10) rfl _ _ rfl ((num d).toList) _ r10 Go.Proofs.Ytiehjhlekpjlaaa.u25 rfl i10 ?_
            | refine wpList_load_mid rfl 34 (.tmp 8) rfl _ _ rfl ((num b).toList) _ r8 Go.Proofs.Ytiehjhlekpjlaaa.u25 rfl i8 ?_
            | refine wpList_store_row rfl 34 _ _ rfl _ _ rfl rfl _ _ g8 sd lbd od ?_
            | refine wpList_store_row rfl 34 _ _ rfl _ _ rfl rfl _ _ g10 sb ldb ob ?_)
          go_meet
          exact ⟨c, d, a, b, .inl ⟨rfl, rfl, rfl, rfl, rfl⟩, (Y.out.s8 d).s10 b⟩
      case rest =>
        obtain ⟨A, B, C, D, hsel, hm⟩ := hcut
        have L := H.out.2
        have HS : Hid (sel cb a b c d A B C D ∧ N256 A ∧ N256 B ∧ N256 C ∧ N256 D) := by
          refine ⟨hsel, ?_⟩
          rcases hsel with ⟨_, rfl, rfl, rfl, rfl⟩ | ⟨_, rfl, rfl, rfl, rfl⟩
          · exact ⟨L.nht, L.nhb, L.nlt, L.nlb⟩
          · exact ⟨L.nlt, L.nlb, L.nht, L.nhb⟩
        have HL : Hid (LQ x n.toNat (254 - (j : Int)).toNat a b c d) := L
        obtain ⟨v0, hv0⟩ : ∃ v0, v0 = wc := ⟨_, rfl⟩
        have Y0 : Hid (DM w v0 b5 b6 b7 b8 b9 b10 n x A B C D) := by rw [hv0]; exact hm
        rw [← hv0]
        clear hv0 hm hsel L H
        have r1 := rangeN (Y0.out).a7
        have r2 := rangeN (Y0.out).a8
        have i1 := infoN (A)
        have i2 := infoN (B)
        have s1 := szN (sS A B)
        have l1 := lenN 0 (sS A B)
        have o1 := num_one (sS A B)
        have HK : Hid (∀ W, Calls Try.prog 22 #[.agg (num (A)), .agg (num (B))] W fun r w' => r = .returned (.agg (num (sS A B))) ∧ Chg W w') := fun W => addY_any (A) (B) HS.out.2.1 HS.out.2.2.1 W
        go_wp2_with (first
          | refine wpList_load_mid rfl 34 (.tmp 7) rfl _ _ rfl ((num (A)).toList) _ r1 Go.Proofs.Ytiehjhlekpjlaaa.u25 rfl i1 ?_
          | refine wpList_load_mid rfl 34 (.tmp 8) rfl _ _ rfl ((num (B)).toList) _ r2 Go.Proofs.Ytiehjhlekpjlaaa.u25 rfl i2 ?_)
        go_at_call 22
        refine (HK.out _).mono ?_
        rintro r vv ⟨rfl, hcv⟩
        have g1 := heap_alloc_last vv (.cells (num 0) 34)
        clear r1 i1 HK r2 i2
        go_upto_region 18 with (first | refine wpList_store_row rfl 34 _ _ rfl _ _ rfl rfl _ _ g1 s1 l1 o1 ?_)
        obtain ⟨v1, hv1⟩ : ∃ v, v = (vv.alloc (.cells (num 0) 34)).setRow vv.heap.size (num (sS A B)) := ⟨_, rfl⟩
        obtain ⟨b13, hb13⟩ : ∃ b, b = vv.heap.size := ⟨_, rfl⟩
        have hcc : Chg v0 v1 := by rw [hv1]; exact (hcv.alloc _).setRow hcv.size _
        have han : Ar v1 b13 (num (sS A B)) := by rw [hv1, hb13]; exact (Ar.new _ _ _).row _
        have hln : b10 < b13 := by rw [hb13]; exact Nat.lt_of_lt_of_le (Y0.out).a10.lt hcv.size
        have Y1 : Hid (DM w v1 b5 b6 b7 b8 b9 b10 n x (A) (B) (C) (D) ∧ Ar v1 b13 (num (sS A B)) ∧ b10 < b13) := ⟨(Y0.out).to hcc, han, hln⟩
        rw [← hv1]
        rw [← hb13]
        clear hv1 hb13 hcc han hln hcv g1 s1 l1 o1 Y0
        dsimp only [Act.put]
        have r1 := rangeN (Y1.out.1).a7
        have r2 := rangeN (Y1.out.1).a8
        have i1 := infoN (A)
        have i2 := infoN (B)
        have s1 := szN (sD A B)
        have l1 := lenN 0 (sD A B)
        have o1 := num_one (sD A B)
        have HK : Hid (∀ W, Calls Try.prog 23 #[.agg (num (A)), .agg (num (B))] W fun r w' => r = .returned (.agg (num (sD A B))) ∧ Chg W w') := fun W => subY_any (A) (B) HS.out.2.1 HS.out.2.2.1 W
        go_wp2_with (first
          | refine wpList_load_mid rfl 34 (.tmp 7) rfl _ _ rfl ((num (A)).toList) _ r1 Go.Proofs.Ytiehjhlekpjlaaa.u25 rfl i1 ?_
          | refine wpList_load_mid rfl 34 (.tmp 8) rfl _ _ rfl ((num (B)).toList) _ r2 Go.Proofs.Ytiehjhlekpjlaaa.u25 rfl i2 ?_)
        go_at_call 23
        refine (HK.out _).mono ?_
        rintro r vv ⟨rfl, hcv⟩
        have g1 := heap_alloc_last vv (.cells (num 0) 34)
        clear r1 i1 HK r2 i2
        go_upto_region 19 with (first | refine wpList_store_row rfl 34 _ _ rfl _ _ rfl rfl _ _ g1 s1 l1 o1 ?_)
        obtain ⟨v2, hv2⟩ : ∃ v, v = (vv.alloc (.cells (num 0) 34)).setRow vv.heap.size (num (sD A B)) := ⟨_, rfl⟩
        obtain ⟨b14, hb14⟩ : ∃ b, b = vv.heap.size := ⟨_, rfl⟩
        have hcc : Chg v1 v2 := by rw [hv2]; exact (hcv.alloc _).setRow hcv.size _
        have han : Ar v2 b14 (num (sD A B)) := by rw [hv2, hb14]; exact (Ar.new _ _ _).row _
        have hln : b10 < b14 := by rw [hb14]; exact Nat.lt_of_lt_of_le (Y1.out.1).a10.lt hcv.size
        have Y2 : Hid (DM w v2 b5 b6 b7 b8 b9 b10 n x (A) (B) (C) (D) ∧ Ar v2 b13 (num (sS A B)) ∧ Ar v2 b14 (num (sD A B)) ∧ b10 < b13 ∧ b10 < b14) := ⟨(Y1.out.1).to hcc, (Y1.out.2.1).chg hcc, han, Y1.out.2.2, hln⟩
        rw [← hv2]
        rw [← hb14]
        clear hv2 hb14 hcc han hln hcv g1 s1 l1 o1 Y1
        dsimp only [Act.put]
        have r1 := rangeN Y2.out.2.1
        have i1 := infoN (sS A B)
        have s1 := szN (sP A B)
        have l1 := lenN 0 (sP A B)
        have o1 := num_one (sP A B)
        have HK : Hid (∀ W, Calls Try.prog 24 #[.agg (num (sS A B)), .agg (num (sS A B))] W fun r w' => r = .returned (.agg (num (sP A B))) ∧ Chg W w') := fun W => mulY_any (sS A B) (sS A B) (md_N _ _) (md_N _ _) W
        go_wp2_with (first
          | refine wpList_load_mid rfl 34 (.tmp 13) rfl _ _ rfl ((num (sS A B)).toList) _ r1 Go.Proofs.Ytiehjhlekpjlaaa.u25 rfl i1 ?_)
        go_at_call 24
        refine (HK.out _).mono ?_
        rintro r vv ⟨rfl, hcv⟩
        have g1 := heap_alloc_last vv (.cells (num 0) 34)
        clear r1 i1 HK
        go_upto_region 20 with (first | refine wpList_store_row rfl 34 _ _ rfl _ _ rfl rfl _ _ g1 s1 l1 o1 ?_)
        obtain ⟨v3, hv3⟩ : ∃ v, v = (vv.alloc (.cells (num 0) 34)).setRow vv.heap.size (num (sP A B)) := ⟨_, rfl⟩
        obtain ⟨b15, hb15⟩ : ∃ b, b = vv.heap.size := ⟨_, rfl⟩
        have hcc : Chg v2 v3 := by rw [hv3]; exact (hcv.alloc _).setRow hcv.size _
        have han : Ar v3 b15 (num (sP A B)) := by rw [hv3, hb15]; exact (Ar.new _ _ _).row _
        have hln : b10 < b15 := by rw [hb15]; exact Nat.lt_of_lt_of_le (Y2.out.1).a10.lt hcv.size
        have Y3 : Hid (DM w v3 b5 b6 b7 b8 b9 b10 n x (A) (B) (C) (D) ∧ Ar v3 b13 (num (sS A B)) ∧ Ar v3 b14 (num (sD A B)) ∧ Ar v3 b15 (num (sP A B)) ∧ b10 < b13 ∧ b10 < b14 ∧ b10 < b15) := ⟨(Y2.out.1).to hcc, (Y2.out.2.1).chg hcc, (Y2.out.2.2.1).chg hcc, han, Y2.out.2.2.2.1, Y2.out.2.2.2.2, hln⟩
        rw [← hv3]
        rw [← hb15]
        clear hv3 hb15 hcc han hln hcv g1 s1 l1 o1 Y2
        dsimp only [Act.put]
        have r1 := rangeN Y3.out.2.2.1
        have i1 := infoN (sD A B)
        have s1 := szN (sQ A B)
        have l1 := lenN 0 (sQ A B)
        have o1 := num_one (sQ A B)
        have HK : Hid (∀ W, Calls Try.prog 24 #[.agg (num (sD A B)), .agg (num (sD A B))] W fun r w' => r = .returned (.agg (num (sQ A B))) ∧ Chg W w') := fun W => mulY_any (sD A B) (sD A B) (md_N _ _) (md_N _ _) W
        go_wp2_with (first
          | refine wpList_load_mid rfl 34 (.tmp 14) rfl _ _ rfl ((num (sD A B)).toList) _ r1 Go.Proofs.Ytiehjhlekpjlaaa.u25 rfl i1 ?_)
        go_at_call 24
        refine (HK.out _).mono ?_
        rintro r vv ⟨rfl, hcv⟩
        have g1 := heap_alloc_last vv (.cells (num 0) 34)
        clear r1 i1 HK
        go_upto_region 21 with (first | refine wpList_store_row rfl 34 _ _ rfl _ _ rfl rfl _ _ g1 s1 l1 o1 ?_)
        obtain ⟨v4, hv4⟩ : ∃ v, v = (vv.alloc (.cells (num 0) 34)).setRow vv.heap.size (num (sQ A B)) := ⟨_, rfl⟩
        obtain ⟨b16, hb16⟩ : ∃ b, b = vv.heap.size := ⟨_, rfl⟩
        have hcc : Chg v3 v4 := by rw [hv4]; exact (hcv.alloc _).setRow hcv.size _
        have han : Ar v4 b16 (num (sQ A B)) := by rw [hv4, hb16]; exact (Ar.new _ _ _).row _
        have hln : b10 < b16 := by rw [hb16]; exact Nat.lt_of_lt_of_le (Y3.out.1).a10.lt hcv.size
        have Y4 : Hid (DM w v4 b5 b6 b7 b8 b9 b10 n x (A) (B) (C) (D) ∧ Ar v4 b13 (num (sS A B)) ∧ Ar v4 b14 (num (sD A B)) ∧ Ar v4 b15 (num (sP A B)) ∧ Ar v4 b16 (num (sQ A B)) ∧ b10 < b13 ∧ b10 < b14 ∧ b10 < b15 ∧ b10 < b16) := ⟨(Y3.out.1).to hcc, (Y3.out.2.1).chg hcc, (Y3.out.2.2.1).chg hcc, (Y3.out.2.2.2.1).chg hcc, han, Y3.out.2.2.2.2.1, Y3.out.2.2.2.2.2.1, Y3.out.2.2.2.2.2.2, hln⟩
        rw [← hv4]
        rw [← hb16]
        clear hv4 hb16 hcc han hln hcv g1 s1 l1 o1 Y3
        dsimp only [Act.put]
        have r1 := rangeN Y4.out.2.2.2.1
        have r2 := rangeN Y4.out.2.2.2.2.1
        have i1 := infoN (sP A B)
        have i2 := infoN (sQ A B)
        have s1 := szN (sE A B)
        have l1 := lenN 0 (sE A B)
        have o1 := num_one (sE A B)
        have HK : Hid (∀ W, Calls Try.prog 23 #[.agg (num (sP A B)), .agg (num (sQ A B))] W fun r w' => r = .returned (.agg (num (sE A B))) ∧ Chg W w') := fun W => subY_any (sP A B) (sQ A B) (md_N _ _) (md_N _ _) W
        go_wp2_with (first
          | refine wpList_load_mid rfl 34 (.tmp 15) rfl _ _ rfl ((num (sP A B)).toList) _ r1 Go.Proofs.Ytiehjhlekpjlaaa.u25 rfl i1 ?_
          | refine wpList_load_mid rfl 34 (.tmp 16) rfl _ _ rfl ((num (sQ A B)).toList) _ r2 Go.Proofs.Ytiehjhlekpjlaaa.u25 rfl i2 ?_)
        go_at_call 23
        refine (HK.out _).mono ?_
        rintro r vv ⟨rfl, hcv⟩
        have g1 := heap_alloc_last vv (.cells (num 0) 34)
        clear r1 i1 HK r2 i2
        go_upto_region 22 with (first | refine wpList_store_row rfl 34 _ _ rfl _ _ rfl rfl _ _ g1 s1 l1 o1 ?_)
        obtain ⟨v5, hv5⟩ : ∃ v, v = (vv.alloc (.cells (num 0) 34)).setRow vv.heap.size (num (sE A B)) := ⟨_, rfl⟩
        obtain ⟨b17, hb17⟩ : ∃ b, b = vv.heap.size := ⟨_, rfl⟩
        have hcc : Chg v4 v5 := by rw [hv5]; exact (hcv.alloc _).setRow hcv.size _
        have han : Ar v5 b17 (num (sE A B)) := by rw [hv5, hb17]; exact (Ar.new _ _ _).row _
        have hln : b10 < b17 := by rw [hb17]; exact Nat.lt_of_lt_of_le (Y4.out.1).a10.lt hcv.size
        have Y5 : Hid (DM w v5 b5 b6 b7 b8 b9 b10 n x (A) (B) (C) (D) ∧ Ar v5 b13 (num (sS A B)) ∧ Ar v5 b14 (num (sD A B)) ∧ Ar v5 b15 (num (sP A B)) ∧ Ar v5 b16 (num (sQ A B)) ∧ Ar v5 b17 (num (sE A B)) ∧ b10 < b13 ∧ b10 < b14 ∧ b10 < b15 ∧ b10 < b16 ∧ b10 < b17) := ⟨(Y4.out.1).to hcc, (Y4.out.2.1).chg hcc, (Y4.out.2.2.1).chg hcc, (Y4.out.2.2.2.1).chg hcc, (Y4.out.2.2.2.2.1).chg hcc, han, Y4.out.2.2.2.2.2.1, Y4.out.2.2.2.2.2.2.1, Y4.out.2.2.2.2.2.2.2.1, Y4.out.2.2.2.2.2.2.2.2, hln⟩
        rw [← hv5]
        rw [← hb17]
        clear hv5 hb17 hcc han hln hcv g1 s1 l1 o1 Y4
        dsimp only [Act.put]
        go_cut [18] from 43 to 114 (fun s18 wc => ∃ b18, s18 = .pointer (some ⟨b18, 0, none⟩) ∧ v5.heap.size ≤ b18 ∧ Ar wc b18 (num (sV A B C D)) ∧ Chg v5 wc)
        case first =>
          refine wp_region_good 6 (fun j v wg => match j with
            | 0 => v = .agg (num (C))
            | 1 => v = .agg (num (D))
            | 2 => v = .agg (num (md 1 (C - D)))
            | 3 => v = .agg (num (sS A B))
            | 4 => v = .agg (num (sV A B C D))
            | 5 => ∃ b, v = .pointer (some ⟨b, 0, none⟩) ∧ Ar wg b (num 0) ∧ v5.heap.size ≤ b
            | _ => True) (by kernel_rfl) (by kernel_rfl) (by kernel_rfl) (by kernel_rfl) (by kernel_rfl) ?_ ?_ ?_
          · intro j v u1 u2 h hc
            match j, h with
            | 0, h => exact h
            | 1, h => exact h
            | 2, h => exact h
            | 3, h => exact h
            | 4, h => exact h
            | 5, h => (obtain ⟨b, h1, h2, h3⟩ := h; exact ⟨b, h1, h2.chg hc, h3⟩)
            | _ + 6, h => exact trivial
          · intro i o ac u hi ho hsz hf hg hc
            have hcs : i = 0 ∨ i = 1 ∨ i = 2 ∨ i = 3 ∨ i = 4 ∨ i = 5 := by omega
            rcases hcs with rfl | rfl | rfl | rfl | rfl | rfl
            · injection ho with ho
              subst ho
              refine .inl ⟨wanted_none rfl, ?_⟩
              have e1 : ac.eval (.tmp 9) = .pointer (some ⟨b9, 0, none⟩) := hf 9 (by kernel_rfl)
              exact wp_load_mid 34 (.tmp 9) rfl _ _ e1 ((num (C)).toList) _ (rangeN (Ar.chg (w := v5.drew) ((Y5.out.1).a9).drew hc)) Go.Proofs.Ytiehjhlekpjlaaa.u25 rfl (infoN _) ⟨_, rfl, rfl, Chg.refl _⟩
            · injection ho with ho
              subst ho
              refine .inl ⟨wanted_none rfl, ?_⟩
              have e1 : ac.eval (.tmp 10) = .pointer (some ⟨b10, 0, none⟩) := hf 10 (by kernel_rfl)
              exact wp_load_mid 34 (.tmp 10) rfl _ _ e1 ((num (D)).toList) _ (rangeN (Ar.chg (w := v5.drew) ((Y5.out.1).a10).drew hc)) Go.Proofs.Ytiehjhlekpjlaaa.u25 rfl (infoN _) ⟨_, rfl, rfl, Chg.refl _⟩
            · injection ho with ho
              subst ho
              refine .inl ⟨wanted_none rfl, ?_⟩
              have e1 : ac.eval (.tmp 76) = .agg (num (C)) := hg 0 (by kernel_rfl) (by decide)
              have e2 : ac.eval (.tmp 77) = .agg (num (D)) := hg 1 (by kernel_rfl) (by decide)
              refine opG_go 23 Try.f23 #[.tmp 76, .tmp 77] #[34, 34] rfl Try.func23 (by kernel_rfl) (by kernel_rfl) (by simp [e1, e2]) (Calls.mono (subY_any (C) (D) HS.out.2.2.2.1 HS.out.2.2.2.2 _) ?_)
              rintro r u2 ⟨rfl, hc2⟩
              exact ⟨_, rfl, rfl, hc2⟩
            · injection ho with ho
              subst ho
              refine .inl ⟨wanted_none rfl, ?_⟩
              have e1 : ac.eval (.tmp 13) = .pointer (some ⟨b13, 0, none⟩) := hf 13 (by kernel_rfl)
              exact wp_load_mid 34 (.tmp 13) rfl _ _ e1 ((num (sS A B)).toList) _ (rangeN (Ar.chg (w := v5.drew) (Y5.out.2.1).drew hc)) Go.Proofs.Ytiehjhlekpjlaaa.u25 rfl (infoN _) ⟨_, rfl, rfl, Chg.refl _⟩
            · injection ho with ho
              subst ho
              refine .inl ⟨wanted_none rfl, ?_⟩
              have e1 : ac.eval (.tmp 78) = .agg (num (md 1 (C - D))) := hg 2 (by kernel_rfl) (by decide)
              have e2 : ac.eval (.tmp 79) = .agg (num (sS A B)) := hg 3 (by kernel_rfl) (by decide)
              refine opG_go 24 Try.f24 #[.tmp 78, .tmp 79] #[34, 34] rfl Try.func24 (by kernel_rfl) (by kernel_rfl) (by simp [e1, e2]) (Calls.mono (mulY_any (md 1 (C - D)) (sS A B) (md_N _ _) (md_N _ _) _) ?_)
              rintro r u2 ⟨rfl, hc2⟩
              exact ⟨_, rfl, rfl, hc2⟩
            · injection ho with ho
              subst ho
              refine .inl ⟨wanted_none rfl, ?_⟩
              exact opG_val (v := .pointer (some ⟨u.heap.size, 0, none⟩)) (w' := u.alloc (.cells (num 0) 34)) (by generalize ac.eval = ρ; simp [go_sem, execOp, zero25.1]) ⟨_, rfl, Ar.new _ _ _, hc.size⟩ ((Chg.refl _).alloc _)
          · intro o u V ho hV hc
            injection ho with ho
            subst ho
            refine ⟨rfl, ?_⟩
            have q76 : V 0 = .agg (num (C)) := hV 0 (by decide)
            have q77 : V 1 = .agg (num (D)) := hV 1 (by decide)
            have q78 : V 2 = .agg (num (md 1 (C - D))) := hV 2 (by decide)
            have q79 : V 3 = .agg (num (sS A B)) := hV 3 (by decide)
            have q80 : V 4 = .agg (num (sV A B C D)) := hV 4 (by decide)
            obtain ⟨b18, q18, r18, s18⟩ := hV 5 (by decide)
            refine wp_store_mid 34 (.tmp 18) (.tmp 80) rfl b18 0 (num (sV A B C D)) (Eq.trans (by rfl) q18) (Eq.trans (by rfl) q80) (by rw [num_size]; exact thereN r18) (szN _) (num_one _) ?_
            rw [show u.setCells b18 0 (num (sV A B C D)).toList = u.setRow b18 (num (sV A B C D)) from setRowN r18 _]
            go_wp2_with fail
            go_meet
            exact ⟨b18, q18, s18, r18.row _, ((Chg.refl v5).drew.trans hc).setRow s18 _⟩
        case rest =>
          obtain ⟨b18, rfl, ln, han, hcc⟩ := hcut
          obtain ⟨v6, hv6⟩ : ∃ v, v = wc := ⟨_, rfl⟩
          rw [← hv6] at han hcc ⊢
          have hln : b10 < b18 := Nat.lt_of_lt_of_le (Y5.out.1).a10.lt ln
          have Y6 : Hid (DM w v6 b5 b6 b7 b8 b9 b10 n x (A) (B) (C) (D) ∧ Ar v6 b13 (num (sS A B)) ∧ Ar v6 b14 (num (sD A B)) ∧ Ar v6 b15 (num (sP A B)) ∧ Ar v6 b16 (num (sQ A B)) ∧ Ar v6 b17 (num (sE A B)) ∧ Ar v6 b18 (num (sV A B C D)) ∧ b10 < b13 ∧ b10 < b14 ∧ b10 < b15 ∧ b10 < b16 ∧ b10 < b17 ∧ b10 < b18) := ⟨(Y5.out.1).to hcc, (Y5.out.2.1).chg hcc, (Y5.out.2.2.1).chg hcc, (Y5.out.2.2.2.1).chg hcc, (Y5.out.2.2.2.2.1).chg hcc, (Y5.out.2.2.2.2.2.1).chg hcc, han, Y5.out.2.2.2.2.2.2.1, Y5.out.2.2.2.2.2.2.2.1, Y5.out.2.2.2.2.2.2.2.2.1, Y5.out.2.2.2.2.2.2.2.2.2.1, Y5.out.2.2.2.2.2.2.2.2.2.2, hln⟩
          clear hv6 hcc han hln ln Y5
          go_upto_region 23 with fail
          go_cut [19] from 43 to 114 (fun s19 wc => ∃ b19, s19 = .pointer (some ⟨b19, 0, none⟩) ∧ v6.heap.size ≤ b19 ∧ Ar wc b19 (num (sW A B C D)) ∧ Chg v6 wc)
          case first =>
            refine wp_region_good 6 (fun j v wg => match j with
              | 0 => v = .agg (num (C))
              | 1 => v = .agg (num (D))
              | 2 => v = .agg (num (md 1 (C + D)))
              | 3 => v = .agg (num (sD A B))
              | 4 => v = .agg (num (sW A B C D))
              | 5 => ∃ b, v = .pointer (some ⟨b, 0, none⟩) ∧ Ar wg b (num 0) ∧ v6.heap.size ≤ b
              | _ => True) (by kernel_rfl) (by kernel_rfl) (by kernel_rfl) (by kernel_rfl) (by kernel_rfl) ?_ ?_ ?_
            · intro j v u1 u2 h hc
              match j, h with
              | 0, h => exact h
              | 1, h => exact h
              | 2, h => exact h
              | 3, h => exact h
              | 4, h => exact h
              | 5, h => (obtain ⟨b, h1, h2, h3⟩ := h; exact ⟨b, h1, h2.chg hc, h3⟩)
              | _ + 6, h => exact trivial
            · intro i o ac u hi ho hsz hf hg hc
              have hcs : i = 0 ∨ i = 1 ∨ i = 2 ∨ i = 3 ∨ i = 4 ∨ i = 5 := by omega
              rcases hcs with rfl | rfl | rfl | rfl | rfl | rfl
              · injection ho with ho
                subst ho
                refine .inl ⟨wanted_none rfl, ?_⟩
                have e1 : ac.eval (.tmp 9) = .pointer (some ⟨b9, 0, none⟩) := hf 9 (by kernel_rfl)
                exact wp_load_mid 34 (.tmp 9) rfl _ _ e1 ((num (C)).toList) _ (rangeN (Ar.chg (w := v6.drew) ((Y6.out.1).a9).drew hc)) Go.Proofs.Ytiehjhlekpjlaaa.u25 rfl (infoN _) ⟨_, rfl, rfl, Chg.refl _⟩
              · injection ho with ho
                subst ho
                refine .inl ⟨wanted_none rfl, ?_⟩
                have e1 : ac.eval (.tmp 10) = .pointer (some ⟨b10, 0, none⟩) := hf 10 (by kernel_rfl)
                exact wp_load_mid 34 (.tmp 10) rfl _ _ e1 ((num (D)).toList) _ (rangeN (Ar.chg (w := v6.drew) ((Y6.out.1).a10).drew hc)) Go.Proofs.Ytiehjhlekpjlaaa.u25 rfl (infoN _) ⟨_, rfl, rfl, Chg.refl _⟩
              · injection ho with ho
                subst ho
                refine .inl ⟨wanted_none rfl, ?_⟩
                have e1 : ac.eval (.tmp 81) = .agg (num (C)) := hg 0 (by kernel_rfl) (by decide)
                have e2 : ac.eval (.tmp 82) = .agg (num (D)) := hg 1 (by kernel_rfl) (by decide)
                refine opG_go 22 Try.f22 #[.tmp 81, .tmp 82] #[34, 34] rfl Try.func22 (by kernel_rfl) (by kernel_rfl) (by simp [e1, e2]) (Calls.mono (addY_any (C) (D) HS.out.2.2.2.1 HS.out.2.2.2.2 _) ?_)
                rintro r u2 ⟨rfl, hc2⟩
                exact ⟨_, rfl, rfl, hc2⟩
              · injection ho with ho
                subst ho
                refine .inl ⟨wanted_none rfl, ?_⟩
                have e1 : ac.eval (.tmp 14) = .pointer (some ⟨b14, 0, none⟩) := hf 14 (by kernel_rfl)
                exact wp_load_mid 34 (.tmp 14) rfl _ _ e1 ((num (sD A B)).toList) _ (rangeN (Ar.chg (w := v6.drew) (Y6.out.2.2.1).drew hc)) Go.Proofs.Ytiehjhlekpjlaaa.u25 rfl (infoN _) ⟨_, rfl, rfl, Chg.refl _⟩
              · injection ho with ho
                subst ho
                refine .inl ⟨wanted_none rfl, ?_⟩
                have e1 : ac.eval (.tmp 83) = .agg (num (md 1 (C + D))) := hg 2 (by kernel_rfl) (by decide)
                have e2 : ac.eval (.tmp 84) = .agg (num (sD A B)) := hg 3 (by kernel_rfl) (by decide)
                refine opG_go 24 Try.f24 #[.tmp 83, .tmp 84] #[34, 34] rfl Try.func24 (by kernel_rfl) (by kernel_rfl) (by simp [e1, e2]) (Calls.mono (mulY_any (md 1 (C + D)) (sD A B) (md_N _ _) (md_N _ _) _) ?_)
                rintro r u2 ⟨rfl, hc2⟩
                exact ⟨_, rfl, rfl, hc2⟩
              · injection ho with ho
                subst ho
                refine .inl ⟨wanted_none rfl, ?_⟩
                exact opG_val (v := .pointer (some ⟨u.heap.size, 0, none⟩)) (w' := u.alloc (.cells (num 0) 34)) (by generalize ac.eval = ρ; simp [go_sem, execOp, zero25.1]) ⟨_, rfl, Ar.new _ _ _, hc.size⟩ ((Chg.refl _).alloc _)
            · intro o u V ho hV hc
              injection ho with ho
              subst ho
              refine ⟨rfl, ?_⟩
              have q81 : V 0 = .agg (num (C)) := hV 0 (by decide)
              have q82 : V 1 = .agg (num (D)) := hV 1 (by decide)
              have q83 : V 2 = .agg (num (md 1 (C + D))) := hV 2 (by decide)
              have q84 : V 3 = .agg (num (sD A B)) := hV 3 (by decide)
              have q85 : V 4 = .agg (num (sW A B C D)) := hV 4 (by decide)
              obtain ⟨b19, q19, r19, s19⟩ := hV 5 (by decide)
              refine wp_store_mid 34 (.tmp 19) (.tmp 85) rfl b19 0 (num (sW A B C D)) (Eq.trans (by rfl) q19) (Eq.trans (by rfl) q85) (by rw [num_size]; exact thereN r19) (szN _) (num_one _) ?_
              rw [show u.setCells b19 0 (num (sW A B C D)).toList = u.setRow b19 (num (sW A B C D)) from setRowN r19 _]
              go_wp2_with fail
              go_meet
              exact ⟨b19, q19, s19, r19.row _, ((Chg.refl v6).drew.trans hc).setRow s19 _⟩
          case rest =>
            obtain ⟨b19, rfl, ln, han, hcc⟩ := hcut
            obtain ⟨v7, hv7⟩ : ∃ v, v = wc := ⟨_, rfl⟩
            rw [← hv7] at han hcc ⊢
            have hln : b10 < b19 := Nat.lt_of_lt_of_le (Y6.out.1).a10.lt ln
            have Y7 : Hid (DM w v7 b5 b6 b7 b8 b9 b10 n x (A) (B) (C) (D) ∧ Ar v7 b13 (num (sS A B)) ∧ Ar v7 b14 (num (sD A B)) ∧ Ar v7 b15 (num (sP A B)) ∧ Ar v7 b16 (num (sQ A B)) ∧ Ar v7 b17 (num (sE A B)) ∧ Ar v7 b18 (num (sV A B C D)) ∧ Ar v7 b19 (num (sW A B C D)) ∧ b10 < b13 ∧ b10 < b14 ∧ b10 < b15 ∧ b10 < b16 ∧ b10 < b17 ∧ b10 < b18 ∧ b10 < b19) := ⟨(Y6.out.1).to hcc, (Y6.out.2.1).chg hcc, (Y6.out.2.2.1).chg hcc, (Y6.out.2.2.2.1).chg hcc, (Y6.out.2.2.2.2.1).chg hcc, (Y6.out.2.2.2.2.2.1).chg hcc, (Y6.out.2.2.2.2.2.2.1).chg hcc, han, Y6.out.2.2.2.2.2.2.2.1, Y6.out.2.2.2.2.2.2.2.2.1, Y6.out.2.2.2.2.2.2.2.2.2.1, Y6.out.2.2.2.2.2.2.2.2.2.2.1, Y6.out.2.2.2.2.2.2.2.2.2.2.2.1, Y6.out.2.2.2.2.2.2.2.2.2.2.2.2, hln⟩
            clear hv7 hcc han hln ln Y6
            go_upto_region 24 with fail
            have r1 := rangeN Y7.out.2.2.2.2.2.2.1
            have r2 := rangeN Y7.out.2.2.2.2.2.2.2.1
            have i1 := infoN (sV A B C D)
            have i2 := infoN (sW A B C D)
            have s1 := szN (md 1 (sV A B C D + sW A B C D))
            have l1 := lenN 0 (md 1 (sV A B C D + sW A B C D))
            have o1 := num_one (md 1 (sV A B C D + sW A B C D))
            have HK : Hid (∀ W, Calls Try.prog 22 #[.agg (num (sV A B C D)), .agg (num (sW A B C D))] W fun r w' => r = .returned (.agg (num (md 1 (sV A B C D + sW A B C D)))) ∧ Chg W w') := fun W => addY_any (sV A B C D) (sW A B C D) (md_N _ _) (md_N _ _) W
            go_wp2_with (first
              | refine wpList_load_mid rfl 34 (.tmp 18) rfl _ _ rfl ((num (sV A B C D)).toList) _ r1 Go.Proofs.Ytiehjhlekpjlaaa.u25 rfl i1 ?_
              | refine wpList_load_mid rfl 34 (.tmp 19) rfl _ _ rfl ((num (sW A B C D)).toList) _ r2 Go.Proofs.Ytiehjhlekpjlaaa.u25 rfl i2 ?_)
            go_at_call 22
            refine (HK.out _).mono ?_
            rintro r vv ⟨rfl, hcv⟩
            have g1 := heap_alloc_last vv (.cells (num 0) 34)
            clear r1 i1 HK r2 i2
            go_upto_region 25 with (first | refine wpList_store_row rfl 34 _ _ rfl _ _ rfl rfl _ _ g1 s1 l1 o1 ?_)
            obtain ⟨v8, hv8⟩ : ∃ v, v = (vv.alloc (.cells (num 0) 34)).setRow vv.heap.size (num (md 1 (sV A B C D + sW A B C D))) := ⟨_, rfl⟩
            obtain ⟨b20, hb20⟩ : ∃ b, b = vv.heap.size := ⟨_, rfl⟩
            have hcc : Chg v7 v8 := by rw [hv8]; exact (hcv.alloc _).setRow hcv.size _
            have han : Ar v8 b20 (num (md 1 (sV A B C D + sW A B C D))) := by rw [hv8, hb20]; exact (Ar.new _ _ _).row _
            have hln : b10 < b20 := by rw [hb20]; exact Nat.lt_of_lt_of_le (Y7.out.1).a10.lt hcv.size
            have Y8 : Hid (DM w v8 b5 b6 b7 b8 b9 b10 n x (A) (B) (C) (D) ∧ Ar v8 b13 (num (sS A B)) ∧ Ar v8 b14 (num (sD A B)) ∧ Ar v8 b15 (num (sP A B)) ∧ Ar v8 b16 (num (sQ A B)) ∧ Ar v8 b17 (num (sE A B)) ∧ Ar v8 b18 (num (sV A B C D)) ∧ Ar v8 b19 (num (sW A B C D)) ∧ Ar v8 b20 (num (md 1 (sV A B C D + sW A B C D))) ∧ b10 < b13 ∧ b10 < b14 ∧ b10 < b15 ∧ b10 < b16 ∧ b10 < b17 ∧ b10 < b18 ∧ b10 < b19 ∧ b10 < b20) := ⟨(Y7.out.1).to hcc, (Y7.out.2.1).chg hcc, (Y7.out.2.2.1).chg hcc, (Y7.out.2.2.2.1).chg hcc, (Y7.out.2.2.2.2.1).chg hcc, (Y7.out.2.2.2.2.2.1).chg hcc, (Y7.out.2.2.2.2.2.2.1).chg hcc, (Y7.out.2.2.2.2.2.2.2.1).chg hcc, han, Y7.out.2.2.2.2.2.2.2.2.1, Y7.out.2.2.2.2.2.2.2.2.2.1, Y7.out.2.2.2.2.2.2.2.2.2.2.1, Y7.out.2.2.2.2.2.2.2.2.2.2.2.1, Y7.out.2.2.2.2.2.2.2.2.2.2.2.2.1, Y7.out.2.2.2.2.2.2.2.2.2.2.2.2.2.1, Y7.out.2.2.2.2.2.2.2.2.2.2.2.2.2.2, hln⟩
            rw [← hv8]
            rw [← hb20]
            clear hv8 hb20 hcc han hln hcv g1 s1 l1 o1 Y7
            dsimp only [Act.put]
            have r1 := rangeN Y8.out.2.2.2.2.2.2.1
            have r2 := rangeN Y8.out.2.2.2.2.2.2.2.1
            have i1 := infoN (sV A B C D)
            have i2 := infoN (sW A B C D)
            have s1 := szN (md 1 (sV A B C D - sW A B C D))
            have l1 := lenN 0 (md 1 (sV A B C D - sW A B C D))
            have o1 := num_one (md 1 (sV A B C D - sW A B C D))
            have HK : Hid (∀ W, Calls Try.prog 23 #[.agg (num (sV A B C D)), .agg (num (sW A B C D))] W fun r w' => r = .returned (.agg (num (md 1 (sV A B C D - sW A B C D)))) ∧ Chg W w') := fun W => subY_any (sV A B C D) (sW A B C D) (md_N _ _) (md_N _ _) W
            go_wp2_with (first
              | refine wpList_load_mid rfl 34 (.tmp 18) rfl _ _ rfl ((num (sV A B C D)).toList) _ r1 Go.Proofs.Ytiehjhlekpjlaaa.u25 rfl i1 ?_
              | refine wpList_load_mid rfl 34 (.tmp 19) rfl _ _ rfl ((num (sW A B C D)).toList) _ r2 Go.Proofs.Ytiehjhlekpjlaaa.u25 rfl i2 ?_)
            go_at_call 23
            refine (HK.out _).mono ?_
            rintro r vv ⟨rfl, hcv⟩
            have g1 := heap_alloc_last vv (.cells (num 0) 34)
            clear r1 i1 HK r2 i2
            go_upto_region 26 with (first | refine wpList_store_row rfl 34 _ _ rfl _ _ rfl rfl _ _ g1 s1 l1 o1 ?_)
            obtain ⟨v9, hv9⟩ : ∃ v, v = (vv.alloc (.cells (num 0) 34)).setRow vv.heap.size (num (md 1 (sV A B C D - sW A B C D))) := ⟨_, rfl⟩
            obtain ⟨b21, hb21⟩ : ∃ b, b = vv.heap.size := ⟨_, rfl⟩
            have hcc : Chg v8 v9 := by rw [hv9]; exact (hcv.alloc _).setRow hcv.size _
            have han : Ar v9 b21 (num (md 1 (sV A B C D - sW A B C D))) := by rw [hv9, hb21]; exact (Ar.new _ _ _).row _
            have hln : b10 < b21 := by rw [hb21]; exact Nat.lt_of_lt_of_le (Y8.out.1).a10.lt hcv.size
            have Y9 : Hid (DM w v9 b5 b6 b7 b8 b9 b10 n x (A) (B) (C) (D) ∧ Ar v9 b13 (num (sS A B)) ∧ Ar v9 b14 (num (sD A B)) ∧ Ar v9 b15 (num (sP A B)) ∧ Ar v9 b16 (num (sQ A B)) ∧ Ar v9 b17 (num (sE A B)) ∧ Ar v9 b18 (num (sV A B C D)) ∧ Ar v9 b19 (num (sW A B C D)) ∧ Ar v9 b20 (num (md 1 (sV A B C D + sW A B C D))) ∧ Ar v9 b21 (num (md 1 (sV A B C D - sW A B C D))) ∧ b10 < b13 ∧ b10 < b14 ∧ b10 < b15 ∧ b10 < b16 ∧ b10 < b17 ∧ b10 < b18 ∧ b10 < b19 ∧ b10 < b20 ∧ b10 < b21) := ⟨(Y8.out.1).to hcc, (Y8.out.2.1).chg hcc, (Y8.out.2.2.1).chg hcc, (Y8.out.2.2.2.1).chg hcc, (Y8.out.2.2.2.2.1).chg hcc, (Y8.out.2.2.2.2.2.1).chg hcc, (Y8.out.2.2.2.2.2.2.1).chg hcc, (Y8.out.2.2.2.2.2.2.2.1).chg hcc, (Y8.out.2.2.2.2.2.2.2.2.1).chg hcc, han, Y8.out.2.2.2.2.2.2.2.2.2.1, Y8.out.2.2.2.2.2.2.2.2.2.2.1, Y8.out.2.2.2.2.2.2.2.2.2.2.2.1, Y8.out.2.2.2.2.2.2.2.2.2.2.2.2.1, Y8.out.2.2.2.2.2.2.2.2.2.2.2.2.2.1, Y8.out.2.2.2.2.2.2.2.2.2.2.2.2.2.2.1, Y8.out.2.2.2.2.2.2.2.2.2.2.2.2.2.2.2.1, Y8.out.2.2.2.2.2.2.2.2.2.2.2.2.2.2.2.2, hln⟩
            rw [← hv9]
            rw [← hb21]
            clear hv9 hb21 hcc han hln hcv g1 s1 l1 o1 Y8
            dsimp only [Act.put]
            have r1 := rangeN Y9.out.2.2.2.2.2.2.2.2.1
            have i1 := infoN (md 1 (sV A B C D + sW A B C D))
            have s1 := szN (iBt A B C D)
            have l1 := lenN (C) (iBt A B C D)
            have o1 := num_one (iBt A B C D)
            have HK : Hid (∀ W, Calls Try.prog 24 #[.agg (num (md 1 (sV A B C D + sW A B C D))), .agg (num (md 1 (sV A B C D + sW A B C D)))] W fun r w' => r = .returned (.agg (num (iBt A B C D))) ∧ Chg W w') := fun W => mulY_any (md 1 (sV A B C D + sW A B C D)) (md 1 (sV A B C D + sW A B C D)) (md_N _ _) (md_N _ _) W
            go_wp2_with (first
              | refine wpList_load_mid rfl 34 (.tmp 20) rfl _ _ rfl ((num (md 1 (sV A B C D + sW A B C D))).toList) _ r1 Go.Proofs.Ytiehjhlekpjlaaa.u25 rfl i1 ?_)
            go_at_call 24
            refine (HK.out _).mono ?_
            rintro r vv ⟨rfl, hcv⟩
            obtain ⟨tt, g1⟩ := ((Y9.out.1).to hcv).a9
            clear r1 i1 HK
            go_upto_region 27 with (first | refine wpList_store_row rfl 34 _ _ rfl _ _ rfl rfl _ _ g1 s1 l1 o1 ?_)
            obtain ⟨v10, hv10⟩ : ∃ v, v = vv.setRow b9 (num (iBt A B C D)) := ⟨_, rfl⟩
            have hos : ∀ (q : Nat) (X : Array Value), b10 < q → Ar v9 q X → Ar v10 q X := fun q X hq hX => by
              have h1 := (Y9.out.1).o10
              have h2 := (Y9.out.1).o9
              have h3 := (Y9.out.1).o8
              rw [hv10]
              exact (hX.chg hcv).rowOther (by omega) _
            have Y10 : Hid (DM w v10 b5 b6 b7 b8 b9 b10 n x (A) (B) (iBt A B C D) (D) ∧ Ar v10 b13 (num (sS A B)) ∧ Ar v10 b14 (num (sD A B)) ∧ Ar v10 b15 (num (sP A B)) ∧ Ar v10 b16 (num (sQ A B)) ∧ Ar v10 b17 (num (sE A B)) ∧ Ar v10 b18 (num (sV A B C D)) ∧ Ar v10 b19 (num (sW A B C D)) ∧ Ar v10 b20 (num (md 1 (sV A B C D + sW A B C D))) ∧ Ar v10 b21 (num (md 1 (sV A B C D - sW A B C D))) ∧ b10 < b13 ∧ b10 < b14 ∧ b10 < b15 ∧ b10 < b16 ∧ b10 < b17 ∧ b10 < b18 ∧ b10 < b19 ∧ b10 < b20 ∧ b10 < b21) := ⟨by rw [hv10]; exact ((Y9.out.1).to hcv).s9 _, hos _ _ (Y9.out.2.2.2.2.2.2.2.2.2.2.1) (Y9.out.2.1), hos _ _ (Y9.out.2.2.2.2.2.2.2.2.2.2.2.1) (Y9.out.2.2.1), hos _ _ (Y9.out.2.2.2.2.2.2.2.2.2.2.2.2.1) (Y9.out.2.2.2.1), hos _ _ (Y9.out.2.2.2.2.2.2.2.2.2.2.2.2.2.1) (Y9.out.2.2.2.2.1), hos _ _ (Y9.out.2.2.2.2.2.2.2.2.2.2.2.2.2.2.1) (Y9.out.2.2.2.2.2.1), hos _ _ (Y9.out.2.2.2.2.2.2.2.2.2.2.2.2.2.2.2.1) (Y9.out.2.2.2.2.2.2.1), hos _ _ (Y9.out.2.2.2.2.2.2.2.2.2.2.2.2.2.2.2.2.1) (Y9.out.2.2.2.2.2.2.2.1), hos _ _ (Y9.out.2.2.2.2.2.2.2.2.2.2.2.2.2.2.2.2.2.1) (Y9.out.2.2.2.2.2.2.2.2.1), hos _ _ (Y9.out.2.2.2.2.2.2.2.2.2.2.2.2.2.2.2.2.2.2) (Y9.out.2.2.2.2.2.2.2.2.2.1), Y9.out.2.2.2.2.2.2.2.2.2.2.1, Y9.out.2.2.2.2.2.2.2.2.2.2.2.1, Y9.out.2.2.2.2.2.2.2.2.2.2.2.2.1, Y9.out.2.2.2.2.2.2.2.2.2.2.2.2.2.1, Y9.out.2.2.2.2.2.2.2.2.2.2.2.2.2.2.1, Y9.out.2.2.2.2.2.2.2.2.2.2.2.2.2.2.2.1, Y9.out.2.2.2.2.2.2.2.2.2.2.2.2.2.2.2.2.1, Y9.out.2.2.2.2.2.2.2.2.2.2.2.2.2.2.2.2.2.1, Y9.out.2.2.2.2.2.2.2.2.2.2.2.2.2.2.2.2.2.2⟩
            rw [← hv10]
            clear hv10 hos hcv g1 s1 l1 o1 Y9
            dsimp only [Act.put]
            go_cut [] from 43 to 114 (fun wc => ∃ u, Chg v10 u ∧ wc = u.setRow b10 (num (iBb x A B C D)))
            case first =>
              refine wp_region_good 5 (fun j v wg => match j with
                | 0 => v = .agg (num (x))
                | 1 => v = .agg (num (md 1 (sV A B C D - sW A B C D)))
                | 2 => v = .agg (num (md 1 (sV A B C D - sW A B C D)))
                | 3 => v = .agg (num (md 1 (md 1 (sV A B C D - sW A B C D) * md 1 (sV A B C D - sW A B C D))))
                | 4 => v = .agg (num (iBb x A B C D))
                | _ => True) (by kernel_rfl) (by kernel_rfl) (by kernel_rfl) (by kernel_rfl) (by kernel_rfl) ?_ ?_ ?_
              · intro j v u1 u2 h hc
                match j, h with
                | 0, h => exact h
                | 1, h => exact h
                | 2, h => exact h
                | 3, h => exact h
                | 4, h => exact h
                | _ + 5, h => exact trivial
              · intro i o ac u hi ho hsz hf hg hc
                have hcs : i = 0 ∨ i = 1 ∨ i = 2 ∨ i = 3 ∨ i = 4 := by omega
                rcases hcs with rfl | rfl | rfl | rfl | rfl
                · injection ho with ho
                  subst ho
                  refine .inl ⟨wanted_none rfl, ?_⟩
                  have e1 : ac.eval (.tmp 6) = .pointer (some ⟨b6, 0, none⟩) := hf 6 (by kernel_rfl)
                  exact wp_load_mid 34 (.tmp 6) rfl _ _ e1 ((num (x)).toList) _ (rangeN (Ar.chg (w := v10.drew) ((Y10.out.1).a6).drew hc)) Go.Proofs.Ytiehjhlekpjlaaa.u25 rfl (infoN _) ⟨_, rfl, rfl, Chg.refl _⟩
                · injection ho with ho
                  subst ho
                  refine .inl ⟨wanted_none rfl, ?_⟩
                  have e1 : ac.eval (.tmp 21) = .pointer (some ⟨b21, 0, none⟩) := hf 21 (by kernel_rfl)
                  exact wp_load_mid 34 (.tmp 21) rfl _ _ e1 ((num (md 1 (sV A B C D - sW A B C D))).toList) _ (rangeN (Ar.chg (w := v10.drew) (Y10.out.2.2.2.2.2.2.2.2.2.1).drew hc)) Go.Proofs.Ytiehjhlekpjlaaa.u25 rfl (infoN _) ⟨_, rfl, rfl, Chg.refl _⟩
                · injection ho with ho
                  subst ho
                  refine .inl ⟨wanted_none rfl, ?_⟩
                  have e1 : ac.eval (.tmp 21) = .pointer (some ⟨b21, 0, none⟩) := hf 21 (by kernel_rfl)
                  exact wp_load_mid 34 (.tmp 21) rfl _ _ e1 ((num (md 1 (sV A B C D - sW A B C D))).toList) _ (rangeN (Ar.chg (w := v10.drew) (Y10.out.2.2.2.2.2.2.2.2.2.1).drew hc)) Go.Proofs.Ytiehjhlekpjlaaa.u25 rfl (infoN _) ⟨_, rfl, rfl, Chg.refl _⟩
                · injection ho with ho
                  subst ho
                  refine .inl ⟨wanted_none rfl, ?_⟩
                  have e1 : ac.eval (.tmp 96) = .agg (num (md 1 (sV A B C D - sW A B C D))) := hg 1 (by kernel_rfl) (by decide)
                  have e2 : ac.eval (.tmp 97) = .agg (num (md 1 (sV A B C D - sW A B C D))) := hg 2 (by kernel_rfl) (by decide)
                  refine opG_go 24 Try.f24 #[.tmp 96, .tmp 97] #[34, 34] rfl Try.func24 (by kernel_rfl) (by kernel_rfl) (by simp [e1, e2]) (Calls.mono (mulY_any (md 1 (sV A B C D - sW A B C D)) (md 1 (sV A B C D - sW A B C D)) (md_N _ _) (md_N _ _) _) ?_)
                  rintro r u2 ⟨rfl, hc2⟩
                  exact ⟨_, rfl, rfl, hc2⟩
                · injection ho with ho
                  subst ho
                  refine .inl ⟨wanted_none rfl, ?_⟩
                  have e1 : ac.eval (.tmp 95) = .agg (num (x)) := hg 0 (by kernel_rfl) (by decide)
                  have e2 : ac.eval (.tmp 98) = .agg (num (md 1 (md 1 (sV A B C D - sW A B C D) * md 1 (sV A B C D - sW A B C D)))) := hg 3 (by kernel_rfl) (by decide)
                  refine opG_go 24 Try.f24 #[.tmp 95, .tmp 98] #[34, 34] rfl Try.func24 (by kernel_rfl) (by kernel_rfl) (by simp [e1, e2]) (Calls.mono (mulY_any (x) (md 1 (md 1 (sV A B C D - sW A B C D) * md 1 (sV A B C D - sW A B C D))) HX.out.2 (md_N _ _) _) ?_)
                  rintro r u2 ⟨rfl, hc2⟩
                  exact ⟨_, rfl, rfl, hc2⟩
              · intro o u V ho hV hc
                injection ho with ho
                subst ho
                refine ⟨rfl, ?_⟩
                have q95 : V 0 = .agg (num (x)) := hV 0 (by decide)
                have q96 : V 1 = .agg (num (md 1 (sV A B C D - sW A B C D))) := hV 1 (by decide)
                have q97 : V 2 = .agg (num (md 1 (sV A B C D - sW A B C D))) := hV 2 (by decide)
                have q98 : V 3 = .agg (num (md 1 (md 1 (sV A B C D - sW A B C D) * md 1 (sV A B C D - sW A B C D)))) := hV 3 (by decide)
                have q99 : V 4 = .agg (num (iBb x A B C D)) := hV 4 (by decide)
                have hres := Ar.chg (w := v10.drew) (Y10.out.1).a10.drew hc
                refine wp_store_mid 34 (.tmp 10) (.tmp 99) rfl b10 0 (num (iBb x A B C D)) (by rfl) (Eq.trans (by rfl) q99) (by rw [num_size]; exact thereN hres) (szN _) (num_one _) ?_
                rw [show u.setCells b10 0 (num (iBb x A B C D)).toList = u.setRow b10 (num (iBb x A B C D)) from setRowN hres _]
                go_wp2_with fail
                go_meet
                exact ⟨u, (Chg.refl v10).drew.trans hc, rfl⟩
            case rest =>
              obtain ⟨vv, hcv, hwc⟩ := hcut
              obtain ⟨v11, hv11⟩ : ∃ v, v = wc := ⟨_, rfl⟩
              rw [← hv11] at hwc ⊢
              have hos : ∀ (q : Nat) (X : Array Value), b10 < q → Ar v10 q X → Ar v11 q X := fun q X hq hX => by
                have h1 := (Y10.out.1).o10
                have h2 := (Y10.out.1).o9
                have h3 := (Y10.out.1).o8
                rw [hwc]
                exact (hX.chg hcv).rowOther (by omega) _
              have Y11 : Hid (DM w v11 b5 b6 b7 b8 b9 b10 n x (A) (B) (iBt A B C D) (iBb x A B C D) ∧ Ar v11 b13 (num (sS A B)) ∧ Ar v11 b14 (num (sD A B)) ∧ Ar v11 b15 (num (sP A B)) ∧ Ar v11 b16 (num (sQ A B)) ∧ Ar v11 b17 (num (sE A B)) ∧ Ar v11 b18 (num (sV A B C D)) ∧ Ar v11 b19 (num (sW A B C D)) ∧ Ar v11 b20 (num (md 1 (sV A B C D + sW A B C D))) ∧ Ar v11 b21 (num (md 1 (sV A B C D - sW A B C D))) ∧ b10 < b13 ∧ b10 < b14 ∧ b10 < b15 ∧ b10 < b16 ∧ b10 < b17 ∧ b10 < b18 ∧ b10 < b19 ∧ b10 < b20 ∧ b10 < b21) := ⟨by rw [hwc]; exact ((Y10.out.1).to hcv).s10 _, hos _ _ (Y10.out.2.2.2.2.2.2.2.2.2.2.1) (Y10.out.2.1), hos _ _ (Y10.out.2.2.2.2.2.2.2.2.2.2.2.1) (Y10.out.2.2.1), hos _ _ (Y10.out.2.2.2.2.2.2.2.2.2.2.2.2.1) (Y10.out.2.2.2.1), hos _ _ (Y10.out.2.2.2.2.2.2.2.2.2.2.2.2.2.1) (Y10.out.2.2.2.2.1), hos _ _ (Y10.out.2.2.2.2.2.2.2.2.2.2.2.2.2.2.1) (Y10.out.2.2.2.2.2.1), hos _ _ (Y10.out.2.2.2.2.2.2.2.2.2.2.2.2.2.2.2.1) (Y10.out.2.2.2.2.2.2.1), hos _ _ (Y10.out.2.2.2.2.2.2.2.2.2.2.2.2.2.2.2.2.1) (Y10.out.2.2.2.2.2.2.2.1), hos _ _ (Y10.out.2.2.2.2.2.2.2.2.2.2.2.2.2.2.2.2.2.1) (Y10.out.2.2.2.2.2.2.2.2.1), hos _ _ (Y10.out.2.2.2.2.2.2.2.2.2.2.2.2.2.2.2.2.2.2) (Y10.out.2.2.2.2.2.2.2.2.2.1), Y10.out.2.2.2.2.2.2.2.2.2.2.1, Y10.out.2.2.2.2.2.2.2.2.2.2.2.1, Y10.out.2.2.2.2.2.2.2.2.2.2.2.2.1, Y10.out.2.2.2.2.2.2.2.2.2.2.2.2.2.1, Y10.out.2.2.2.2.2.2.2.2.2.2.2.2.2.2.1, Y10.out.2.2.2.2.2.2.2.2.2.2.2.2.2.2.2.1, Y10.out.2.2.2.2.2.2.2.2.2.2.2.2.2.2.2.2.1, Y10.out.2.2.2.2.2.2.2.2.2.2.2.2.2.2.2.2.2.1, Y10.out.2.2.2.2.2.2.2.2.2.2.2.2.2.2.2.2.2.2⟩
              clear hv11 hwc hos hcv Y10
              go_upto_region 28 with fail
              have r1 := rangeN Y11.out.2.2.2.1
              have r2 := rangeN Y11.out.2.2.2.2.1
              have i1 := infoN (sP A B)
              have i2 := infoN (sQ A B)
              have s1 := szN (i2t A B)
              have l1 := lenN (A) (i2t A B)
              have o1 := num_one (i2t A B)
              have HK : Hid (∀ W, Calls Try.prog 24 #[.agg (num (sP A B)), .agg (num (sQ A B))] W fun r w' => r = .returned (.agg (num (i2t A B))) ∧ Chg W w') := fun W => mulY_any (sP A B) (sQ A B) (md_N _ _) (md_N _ _) W
              go_wp2_with (first
                | refine wpList_load_mid rfl 34 (.tmp 15) rfl _ _ rfl ((num (sP A B)).toList) _ r1 Go.Proofs.Ytiehjhlekpjlaaa.u25 rfl i1 ?_
                | refine wpList_load_mid rfl 34 (.tmp 16) rfl _ _ rfl ((num (sQ A B)).toList) _ r2 Go.Proofs.Ytiehjhlekpjlaaa.u25 rfl i2 ?_)
              go_at_call 24
              refine (HK.out _).mono ?_
              rintro r vv ⟨rfl, hcv⟩
              obtain ⟨tt, g1⟩ := ((Y11.out.1).to hcv).a7
              clear r1 i1 HK r2 i2
              go_upto_region 29 with (first | refine wpList_store_row rfl 34 _ _ rfl _ _ rfl rfl _ _ g1 s1 l1 o1 ?_)
              obtain ⟨v12, hv12⟩ : ∃ v, v = vv.setRow b7 (num (i2t A B)) := ⟨_, rfl⟩
              have hos : ∀ (q : Nat) (X : Array Value), b10 < q → Ar v11 q X → Ar v12 q X := fun q X hq hX => by
                have h1 := (Y11.out.1).o10
                have h2 := (Y11.out.1).o9
                have h3 := (Y11.out.1).o8
                rw [hv12]
                exact (hX.chg hcv).rowOther (by omega) _
              have Y12 : Hid (DM w v12 b5 b6 b7 b8 b9 b10 n x (i2t A B) (B) (iBt A B C D) (iBb x A B C D) ∧ Ar v12 b13 (num (sS A B)) ∧ Ar v12 b14 (num (sD A B)) ∧ Ar v12 b15 (num (sP A B)) ∧ Ar v12 b16 (num (sQ A B)) ∧ Ar v12 b17 (num (sE A B)) ∧ Ar v12 b18 (num (sV A B C D)) ∧ Ar v12 b19 (num (sW A B C D)) ∧ Ar v12 b20 (num (md 1 (sV A B C D + sW A B C D))) ∧ Ar v12 b21 (num (md 1 (sV A B C D - sW A B C D))) ∧ b10 < b13 ∧ b10 < b14 ∧ b10 < b15 ∧ b10 < b16 ∧ b10 < b17 ∧ b10 < b18 ∧ b10 < b19 ∧ b10 < b20 ∧ b10 < b21) := ⟨by rw [hv12]; exact ((Y11.out.1).to hcv).s7 _, hos _ _ (Y11.out.2.2.2.2.2.2.2.2.2.2.1) (Y11.out.2.1), hos _ _ (Y11.out.2.2.2.2.2.2.2.2.2.2.2.1) (Y11.out.2.2.1), hos _ _ (Y11.out.2.2.2.2.2.2.2.2.2.2.2.2.1) (Y11.out.2.2.2.1), hos _ _ (Y11.out.2.2.2.2.2.2.2.2.2.2.2.2.2.1) (Y11.out.2.2.2.2.1), hos _ _ (Y11.out.2.2.2.2.2.2.2.2.2.2.2.2.2.2.1) (Y11.out.2.2.2.2.2.1), hos _ _ (Y11.out.2.2.2.2.2.2.2.2.2.2.2.2.2.2.2.1) (Y11.out.2.2.2.2.2.2.1), hos _ _ (Y11.out.2.2.2.2.2.2.2.2.2.2.2.2.2.2.2.2.1) (Y11.out.2.2.2.2.2.2.2.1), hos _ _ (Y11.out.2.2.2.2.2.2.2.2.2.2.2.2.2.2.2.2.2.1) (Y11.out.2.2.2.2.2.2.2.2.1), hos _ _ (Y11.out.2.2.2.2.2.2.2.2.2.2.2.2.2.2.2.2.2.2) (Y11.out.2.2.2.2.2.2.2.2.2.1), Y11.out.2.2.2.2.2.2.2.2.2.2.1, Y11.out.2.2.2.2.2.2.2.2.2.2.2.1, Y11.out.2.2.2.2.2.2.2.2.2.2.2.2.1, Y11.out.2.2.2.2.2.2.2.2.2.2.2.2.2.1, Y11.out.2.2.2.2.2.2.2.2.2.2.2.2.2.2.1, Y11.out.2.2.2.2.2.2.2.2.2.2.2.2.2.2.2.1, Y11.out.2.2.2.2.2.2.2.2.2.2.2.2.2.2.2.2.1, Y11.out.2.2.2.2.2.2.2.2.2.2.2.2.2.2.2.2.2.1, Y11.out.2.2.2.2.2.2.2.2.2.2.2.2.2.2.2.2.2.2⟩
              rw [← hv12]
              clear hv12 hos hcv g1 s1 l1 o1 Y11
              dsimp only [Act.put]
              go_cut [] from 43 to 114 (fun wc => ∃ u, Chg v12 u ∧ wc = u.setRow b8 (num (i2b A B)))
              case first =>
                refine wp_region_good 7 (fun j v wg => match j with
                  | 0 => v = .agg (num (sE A B))
                  | 1 => v = .agg (num (sP A B))
                  | 2 => v = .agg (num (121665))
                  | 3 => v = .agg (num (sE A B))
                  | 4 => v = .agg (num (md 1 (121665 * sE A B)))
                  | 5 => v = .agg (num (md 1 (sP A B + md 1 (121665 * sE A B))))
                  | 6 => v = .agg (num (i2b A B))
                  | _ => True) (by kernel_rfl) (by kernel_rfl) (by kernel_rfl) (by kernel_rfl) (by kernel_rfl) ?_ ?_ ?_
                · intro j v u1 u2 h hc
                  match j, h with
                  | 0, h => exact h
                  | 1, h => exact h
                  | 2, h => exact h
                  | 3, h => exact h
                  | 4, h => exact h
                  | 5, h => exact h
                  | 6, h => exact h
                  | _ + 7, h => exact trivial
                · intro i o ac u hi ho hsz hf hg hc
                  have hcs : i = 0 ∨ i = 1 ∨ i = 2 ∨ i = 3 ∨ i = 4 ∨ i = 5 ∨ i = 6 := by omega
                  rcases hcs with rfl | rfl | rfl | rfl | rfl | rfl | rfl
                  · injection ho with ho
                    subst ho
                    refine .inl ⟨wanted_none rfl, ?_⟩
                    have e1 : ac.eval (.tmp 17) = .pointer (some ⟨b17, 0, none⟩) := hf 17 (by kernel_rfl)
                    exact wp_load_mid 34 (.tmp 17) rfl _ _ e1 ((num (sE A B)).toList) _ (rangeN (Ar.chg (w := v12.drew) (Y12.out.2.2.2.2.2.1).drew hc)) Go.Proofs.Ytiehjhlekpjlaaa.u25 rfl (infoN _) ⟨_, rfl, rfl, Chg.refl _⟩
                  · injection ho with ho
                    subst ho
                    refine .inl ⟨wanted_none rfl, ?_⟩
                    have e1 : ac.eval (.tmp 15) = .pointer (some ⟨b15, 0, none⟩) := hf 15 (by kernel_rfl)
                    exact wp_load_mid 34 (.tmp 15) rfl _ _ e1 ((num (sP A B)).toList) _ (rangeN (Ar.chg (w := v12.drew) (Y12.out.2.2.2.1).drew hc)) Go.Proofs.Ytiehjhlekpjlaaa.u25 rfl (infoN _) ⟨_, rfl, rfl, Chg.refl _⟩
                  · injection ho with ho
                    subst ho
                    refine .inl ⟨wanted_none rfl, ?_⟩
                    have e1 : ac.eval (.const (.int .u64 121665)) = .int .u64 121665 := rfl
                    exact opG_val (by revert e1; generalize ac.eval = ρ; intro e1; simp [go_sem, execOp, e1, zero25.1, num_set12, num_ne0y]) rfl (Chg.refl _)
                  · injection ho with ho
                    subst ho
                    refine .inl ⟨wanted_none rfl, ?_⟩
                    have e1 : ac.eval (.tmp 17) = .pointer (some ⟨b17, 0, none⟩) := hf 17 (by kernel_rfl)
                    exact wp_load_mid 34 (.tmp 17) rfl _ _ e1 ((num (sE A B)).toList) _ (rangeN (Ar.chg (w := v12.drew) (Y12.out.2.2.2.2.2.1).drew hc)) Go.Proofs.Ytiehjhlekpjlaaa.u25 rfl (infoN _) ⟨_, rfl, rfl, Chg.refl _⟩
                  · injection ho with ho
                    subst ho
                    refine .inl ⟨wanted_none rfl, ?_⟩
                    have e1 : ac.eval (.tmp 105) = .agg (num (121665)) := hg 2 (by kernel_rfl) (by decide)
                    have e2 : ac.eval (.tmp 106) = .agg (num (sE A B)) := hg 3 (by kernel_rfl) (by decide)
                    refine opG_go 24 Try.f24 #[.tmp 105, .tmp 106] #[34, 34] rfl Try.func24 (by kernel_rfl) (by kernel_rfl) (by simp [e1, e2]) (Calls.mono (mulY_any 121665 (sE A B) N_12 (md_N _ _) _) ?_)
                    rintro r u2 ⟨rfl, hc2⟩
                    exact ⟨_, rfl, rfl, hc2⟩
                  · injection ho with ho
                    subst ho
                    refine .inl ⟨wanted_none rfl, ?_⟩
                    have e1 : ac.eval (.tmp 104) = .agg (num (sP A B)) := hg 1 (by kernel_rfl) (by decide)
                    have e2 : ac.eval (.tmp 107) = .agg (num (md 1 (121665 * sE A B))) := hg 4 (by kernel_rfl) (by decide)
                    refine opG_go 22 Try.f22 #[.tmp 104, .tmp 107] #[34, 34] rfl Try.func22 (by kernel_rfl) (by kernel_rfl) (by simp [e1, e2]) (Calls.mono (addY_any (sP A B) (md 1 (121665 * sE A B)) (md_N _ _) (md_N _ _) _) ?_)
                    rintro r u2 ⟨rfl, hc2⟩
                    exact ⟨_, rfl, rfl, hc2⟩
                  · injection ho with ho
                    subst ho
                    refine .inl ⟨wanted_none rfl, ?_⟩
                    have e1 : ac.eval (.tmp 103) = .agg (num (sE A B)) := hg 0 (by kernel_rfl) (by decide)
                    have e2 : ac.eval (.tmp 108) = .agg (num (md 1 (sP A B + md 1 (121665 * sE A B)))) := hg 5 (by kernel_rfl) (by decide)
                    refine opG_go 24 Try.f24 #[.tmp 103, .tmp 108] #[34, 34] rfl Try.func24 (by kernel_rfl) (by kernel_rfl) (by simp [e1, e2]) (Calls.mono (mulY_any (sE A B) (md 1 (sP A B + md 1 (121665 * sE A B))) (md_N _ _) (md_N _ _) _) ?_)
                    rintro r u2 ⟨rfl, hc2⟩
                    exact ⟨_, rfl, rfl, hc2⟩
                · intro o u V ho hV hc
                  injection ho with ho
                  subst ho
                  refine ⟨rfl, ?_⟩
                  have q103 : V 0 = .agg (num (sE A B)) := hV 0 (by decide)
                  have q104 : V 1 = .agg (num (sP A B)) := hV 1 (by decide)
                  have q105 : V 2 = .agg (num (121665)) := hV 2 (by decide)
                  have q106 : V 3 = .agg (num (sE A B)) := hV 3 (by decide)
                  have q107 : V 4 = .agg (num (md 1 (121665 * sE A B))) := hV 4 (by decide)
                  have q108 : V 5 = .agg (num (md 1 (sP A B + md 1 (121665 * sE A B)))) := hV 5 (by decide)
                  have q109 : V 6 = .agg (num (i2b A B)) := hV 6 (by decide)
                  have hres := Ar.chg (w := v12.drew) (Y12.out.1).a8.drew hc
                  refine wp_store_mid 34 (.tmp 8) (.tmp 109) rfl b8 0 (num (i2b A B)) (by rfl) (Eq.trans (by rfl) q109) (by rw [num_size]; exact thereN hres) (szN _) (num_one _) ?_
                  rw [show u.setCells b8 0 (num (i2b A B)).toList = u.setRow b8 (num (i2b A B)) from setRowN hres _]
                  go_wp2_with fail
                  go_meet
                  exact ⟨u, (Chg.refl v12).drew.trans hc, rfl⟩
              case rest =>
                obtain ⟨vv, hcv, hwc⟩ := hcut
                obtain ⟨v13, hv13⟩ : ∃ v, v = wc := ⟨_, rfl⟩
                rw [← hv13] at hwc ⊢
                have hos : ∀ (q : Nat) (X : Array Value), b10 < q → Ar v12 q X → Ar v13 q X := fun q X hq hX => by
                  have h1 := (Y12.out.1).o10
                  have h2 := (Y12.out.1).o9
                  have h3 := (Y12.out.1).o8
                  rw [hwc]
                  exact (hX.chg hcv).rowOther (by omega) _
                have Y13 : Hid (DM w v13 b5 b6 b7 b8 b9 b10 n x (i2t A B) (i2b A B) (iBt A B C D) (iBb x A B C D) ∧ Ar v13 b13 (num (sS A B)) ∧ Ar v13 b14 (num (sD A B)) ∧ Ar v13 b15 (num (sP A B)) ∧ Ar v13 b16 (num (sQ A B)) ∧ Ar v13 b17 (num (sE A B)) ∧ Ar v13 b18 (num (sV A B C D)) ∧ Ar v13 b19 (num (sW A B C D)) ∧ Ar v13 b20 (num (md 1 (sV A B C D + sW A B C D))) ∧ Ar v13 b21 (num (md 1 (sV A B C D - sW A B C D))) ∧ b10 < b13 ∧ b10 < b14 ∧ b10 < b15 ∧ b10 < b16 ∧ b10 < b17 ∧ b10 < b18 ∧ b10 < b19 ∧ b10 < b20 ∧ b10 < b21) := ⟨by rw [hwc]; exact ((Y12.out.1).to hcv).s8 _, hos _ _ (Y12.out.2.2.2.2.2.2.2.2.2.2.1) (Y12.out.2.1), hos _ _ (Y12.out.2.2.2.2.2.2.2.2.2.2.2.1) (Y12.out.2.2.1), hos _ _ (Y12.out.2.2.2.2.2.2.2.2.2.2.2.2.1) (Y12.out.2.2.2.1), hos _ _ (Y12.out.2.2.2.2.2.2.2.2.2.2.2.2.2.1) (Y12.out.2.2.2.2.1), hos _ _ (Y12.out.2.2.2.2.2.2.2.2.2.2.2.2.2.2.1) (Y12.out.2.2.2.2.2.1), hos _ _ (Y12.out.2.2.2.2.2.2.2.2.2.2.2.2.2.2.2.1) (Y12.out.2.2.2.2.2.2.1), hos _ _ (Y12.out.2.2.2.2.2.2.2.2.2.2.2.2.2.2.2.2.1) (Y12.out.2.2.2.2.2.2.2.1), hos _ _ (Y12.out.2.2.2.2.2.2.2.2.2.2.2.2.2.2.2.2.2.1) (Y12.out.2.2.2.2.2.2.2.2.1), hos _ _ (Y12.out.2.2.2.2.2.2.2.2.2.2.2.2.2.2.2.2.2.2) (Y12.out.2.2.2.2.2.2.2.2.2.1), Y12.out.2.2.2.2.2.2.2.2.2.2.1, Y12.out.2.2.2.2.2.2.2.2.2.2.2.1, Y12.out.2.2.2.2.2.2.2.2.2.2.2.2.1, Y12.out.2.2.2.2.2.2.2.2.2.2.2.2.2.1, Y12.out.2.2.2.2.2.2.2.2.2.2.2.2.2.2.1, Y12.out.2.2.2.2.2.2.2.2.2.2.2.2.2.2.2.1, Y12.out.2.2.2.2.2.2.2.2.2.2.2.2.2.2.2.2.1, Y12.out.2.2.2.2.2.2.2.2.2.2.2.2.2.2.2.2.2.1, Y12.out.2.2.2.2.2.2.2.2.2.2.2.2.2.2.2.2.2.2⟩
                clear hv13 hwc hos hcv Y12
                have YD : Hid (DM w v13 b5 b6 b7 b8 b9 b10 n x (i2t A B) (i2b A B) (iBt A B C D) (iBb x A B C D)) := Y13.out.1
                clear Y13
                cases cb
                · have hL : LQ x n.toNat ((254 - (j : Int)).toNat + 1) (i2t A B) (i2b A B) (iBt A B C D) (iBb x A B C D) := by
                    rcases HS.out.1 with ⟨h, _⟩ | ⟨_, rfl, rfl, rfl, rfl⟩
                    · cases h
                    · exact HL.out.down HC.out.symm
                  have HL2 : Hid (LQ x n.toNat ((254 - (j : Int)).toNat + 1) (i2t A B) (i2b A B) (iBt A B C D) (iBb x A B C D)) := hL
                  clear hL
                  go_wp2_with fail
                  go_roundw
                  case rel =>
                    have h1 := HZ'.out
                    refine ⟨z', i2t A B, i2b A B, iBt A B C D, iBb x A B C D, by first | rfl | go_num, by omega, by omega, YD.out, ?_⟩
                    rw [show (254 - z').toNat = (254 - (j : Int)).toNat + 1 by omega]
                    exact HL2.out
                  case measure =>
                    have h1 := HZ'.out
                    simp [intOf]
                    omega
                · have hL : LQ x n.toNat ((254 - (j : Int)).toNat + 1) (iBt A B C D) (iBb x A B C D) (i2t A B) (i2b A B) := by
                    rcases HS.out.1 with ⟨_, rfl, rfl, rfl, rfl⟩ | ⟨h, _⟩
                    · exact HL.out.up HC.out.symm
                    · cases h
                  have HL2 : Hid (LQ x n.toNat ((254 - (j : Int)).toNat + 1) (iBt A B C D) (iBb x A B C D) (i2t A B) (i2b A B)) := hL
                  clear hL
                  obtain ⟨a, ha⟩ : ∃ a, a = i2t A B := ⟨_, rfl⟩
                  obtain ⟨b, hb⟩ : ∃ a, a = i2b A B := ⟨_, rfl⟩
                  obtain ⟨c, hc⟩ : ∃ a, a = iBt A B C D := ⟨_, rfl⟩
                  obtain ⟨d, hd⟩ : ∃ a, a = iBb x A B C D := ⟨_, rfl⟩
                  rw [← ha, ← hb, ← hc, ← hd] at HL2 YD
                  clear ha hb hc hd HS HL
                  have r7 := rangeN YD.out.a7
                  have r9 := rangeN YD.out.a9
                  have i7 := infoN a
                  have i9 := infoN c
                  obtain ⟨t7, g7⟩ := YD.out.a7
                  obtain ⟨t9, g9⟩ := (YD.out.s7 c).a9
                  have sa := szN a
                  have sc := szN c
                  have lac := lenN a c
                  have lca := lenN c a
                  have oa := num_one a
                  have oc := num_one c
                  go_upto_region 32 with (first
                    | refine wpList_load_mid rfl 34 (.tmp 9) rfl _ _ rfl ((num c).toList) _ r9 Go.Proofs.Ytiehjhlekpjlaaa.u25 rfl i9 ?_
                    | refine wpList_load_mid rfl 34 (.tmp 7) rfl _ _ rfl ((num a).toList) _ r7 Go.Proofs.Ytiehjhlekpjlaaa.u25 rfl i7 ?_
                    | refine wpList_store_row rfl 34 _ _ rfl _ _ rfl rfl _ _ g7 sc lac oc ?_
                    | refine wpList_store_row rfl 34 _ _ rfl _ _ rfl rfl _ _ g9 sa lca oa ?_)
                  obtain ⟨x1, hx1⟩ : ∃ x1, x1 = (v13.setRow b7 (num c)).setRow b9 (num a) := ⟨_, rfl⟩
                  have Y : Hid (DM w x1 b5 b6 b7 b8 b9 b10 n x c b a d) := by rw [hx1]; exact (YD.out.s7 c).s9 a
                  rw [← hx1]
                  clear hx1 r7 r9 g7 g9 i7 i9
                  dsimp only [Act.put]
                  have r8 := rangeN Y.out.a8
                  have r10 := rangeN Y.out.a10
                  have i8 := infoN b
                  have i10 := infoN d
                  obtain ⟨t8, g8⟩ := Y.out.a8
                  obtain ⟨t10, g10⟩ := (Y.out.s8 d).a10
                  have sb := szN b
                  have sd := szN d
                  have lbd := lenN b d
                  have ldb := lenN d b
                  have ob := num_one b
                  have od := num_one d
                  go_wp2_with (first
                    | refine wpList_load_mid rfl 34 (.tmp 10) rfl _ _ rfl ((num d).toList) _ r10 Go.Proofs.Ytiehjhlekpjlaaa.u25 rfl i10 ?_
                    | refine wpList_load_mid rfl 34 (.tmp 8) rfl _ _ rfl ((num b).toList) _ r8 Go.Proofs.Ytiehjhlekpjlaaa.u25 rfl i8 ?_
                    | refine wpList_store_row rfl 34 _ _ rfl _ _ rfl rfl _ _ g8 sd lbd od ?_
                    | refine wpList_store_row rfl 34 _ _ rfl _ _ rfl rfl _ _ g10 sb ldb ob ?_)
                  go_roundw
                  case rel =>
                    have h1 := HZ'.out
                    refine ⟨z', c, d, a, b, by first | rfl | go_num, by omega, by omega, (Y.out.s8 d).s10 b, ?_⟩
                    rw [show (254 - z').toNat = (254 - (j : Int)).toNat + 1 by omega]
                    exact HL2.out
                  case measure =>
                    have h1 := HZ'.out
                    simp [intOf]
                    omega
    · have e0 : z = -1 := by omega
      subst e0
      clear hm
      rw [show (254 - (-1 : Int)).toNat = 255 from rfl] at H
      have HM : Hid (md 1 (a * md 1 (b ^ ((mo 1 - 2) % R256).toNat)) = mx (kN e) (uN g)) := by
        have h := mx_of H.out.2.flt H.out.2.flb
        rw [HX.out.1, mx_md, HNN.out.1] at h
        rw [← HX.out.1] at *
        exact h
      have hd : decide ((0 : Int) ≤ -1) = false := by decide
      have HMB : Hid (∀ W, Calls Try.prog 25 #[.agg (num (mx (kN e) (uN g)))] W fun r w' => r = .returned (.agg (byt M)) ∧ Chg W w') := fun W => by rw [HMM.out]; exact toLER_any _ W
      obtain ⟨VX, hV⟩ : ∃ V, V = mx (kN e) (uN g) := ⟨_, rfl⟩
      rw [← hV] at HM HMB
      clear hV
      go_upto_region 33 with fail
      refine wp_region_good 5 (fun j v wg => match j with
        | 0 => v = .agg (num (a))
        | 1 => v = .agg (num (b))
        | 2 => v = .agg (num (md 1 (b ^ ((mo 1 - 2) % R256).toNat)))
        | 3 => v = .agg (num (VX))
        | 4 => v = .agg (byt M)
        | _ => True) (by kernel_rfl) (by kernel_rfl) (by kernel_rfl) (by kernel_rfl) (by kernel_rfl) ?_ ?_ ?_
      · intro j v u1 u2 h hc
        match j, h with
        | 0, h => exact h
        | 1, h => exact h
        | 2, h => exact h
        | 3, h => exact h
        | 4, h => exact h
        | _ + 5, h => exact trivial
      · intro i o ac u hi ho hsz hf hg hc
        have hcs : i = 0 ∨ i = 1 ∨ i = 2 ∨ i = 3 ∨ i = 4 := by omega
        rcases hcs with rfl | rfl | rfl | rfl | rfl
        · injection ho with ho
          subst ho
          refine .inl ⟨wanted_none rfl, ?_⟩
          have e1 : ac.eval (.tmp 7) = .pointer (some ⟨b7, 0, none⟩) := hf 7 (by kernel_rfl)
          exact wp_load_mid 34 (.tmp 7) rfl _ _ e1 ((num a).toList) _ (rangeN (Ar.chg (w := wr.drew) H.out.1.a7.drew hc)) Go.Proofs.Ytiehjhlekpjlaaa.u25 rfl (infoN _) ⟨_, rfl, rfl, Chg.refl _⟩
        · injection ho with ho
          subst ho
          refine .inl ⟨wanted_none rfl, ?_⟩
          have e1 : ac.eval (.tmp 8) = .pointer (some ⟨b8, 0, none⟩) := hf 8 (by kernel_rfl)
          exact wp_load_mid 34 (.tmp 8) rfl _ _ e1 ((num b).toList) _ (rangeN (Ar.chg (w := wr.drew) H.out.1.a8.drew hc)) Go.Proofs.Ytiehjhlekpjlaaa.u25 rfl (infoN _) ⟨_, rfl, rfl, Chg.refl _⟩
        · injection ho with ho
          subst ho
          refine .inl ⟨wanted_none rfl, ?_⟩
          have e1 : ac.eval (.const (.int .i64 1)) = .int .i64 1 := rfl
          have e2 : ac.eval (.tmp 116) = .agg (num (b)) := hg 1 (by kernel_rfl) (by decide)
          refine opG_go 26 Try.f26 #[.const (.int .i64 1), .tmp 116] #[41, 34] rfl Try.func26 (by kernel_rfl) (by kernel_rfl) (by simp [e1, e2]) (Calls.mono (invR_any 1 b H.out.2.nlb _) ?_)
          rintro r u2 ⟨rfl, hc2⟩
          exact ⟨_, rfl, rfl, hc2⟩
        · injection ho with ho
          subst ho
          refine .inl ⟨wanted_none rfl, ?_⟩
          have e1 : ac.eval (.tmp 115) = .agg (num (a)) := hg 0 (by kernel_rfl) (by decide)
          have e2 : ac.eval (.tmp 117) = .agg (num (md 1 (b ^ ((mo 1 - 2) % R256).toNat))) := hg 2 (by kernel_rfl) (by decide)
          refine opG_go 24 Try.f24 #[.tmp 115, .tmp 117] #[34, 34] rfl Try.func24 (by kernel_rfl) (by kernel_rfl) (by simp [e1, e2]) (Calls.mono (mulY_any a (md 1 (b ^ ((mo 1 - 2) % R256).toNat)) H.out.2.nlt (md_N _ _) _) ?_)
          rintro r u2 ⟨rfl, hc2⟩
          exact ⟨_, rfl, by show Value.agg _ = Value.agg _; rw [HM.out], hc2⟩
        · injection ho with ho
          subst ho
          refine .inl ⟨wanted_none rfl, ?_⟩
          have e1 : ac.eval (.tmp 118) = .agg (num (VX)) := hg 3 (by kernel_rfl) (by decide)
          refine opG_go 25 Try.f25 #[.tmp 118] #[34] rfl Try.func25 (by kernel_rfl) (by kernel_rfl) (by simp [e1]) (Calls.mono (HMB.out _) ?_)
          rintro r u2 ⟨rfl, hc2⟩
          exact ⟨_, rfl, rfl, hc2⟩
      · intro o u V ho hV hc
        injection ho with ho
        subst ho
        refine ⟨rfl, ?_⟩
        have q115 : V 0 = .agg (num (a)) := hV 0 (by decide)
        have q116 : V 1 = .agg (num (b)) := hV 1 (by decide)
        have q117 : V 2 = .agg (num (md 1 (b ^ ((mo 1 - 2) % R256).toNat))) := hV 2 (by decide)
        have q118 : V 3 = .agg (num (VX)) := hV 3 (by decide)
        have q119 : V 4 = .agg (byt M) := hV 4 (by decide)
        have hres := Ar.chg (w := wr.drew) H.out.1.a4.drew hc
        refine wp_store_mid 22 (.tmp 4) (.tmp 119) rfl (w.heap.size + 1 + 1) 0 (byt M) (by rfl) (Eq.trans (by rfl) q119) (by rw [byt_size]; exact thereY hres) (szY _) (oneY _) ?_
        rw [show u.setCells (w.heap.size + 1 + 1) 0 (byt M).toList = u.setRow (w.heap.size + 1 + 1) (byt M) from setRowY hres _]
        go_wp2_with fail
        exact bp_c (n := 32) (c := byt M) Try.results10 rfl (by rfl) (hres.row _) un37 zero37.2 (byt_size _) ⟨rfl, ((H.out.1.chg.drew).trans hc).setRow (by omega) _⟩
end Go.Proofs.Ytiehjhlekpjlaaa
