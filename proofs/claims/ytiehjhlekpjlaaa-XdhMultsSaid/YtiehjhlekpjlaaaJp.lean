/-
  The ladder, as the program climbs it.
  What a quotient comes to; bytes of which some bits are named.
  X25519, as the program answers it.
  What bytes say of how many times, and of an x: plainly.
-/
import Derived.Test.YtiehjhlekpjlaaaSt
import Derived.Test.YtiehjhlekpjlaaaJf
import Derived.Test.YtiehjhlekpjlaaaFz
import Derived.Test.YtiehjhlekpjlaaaJo
import Derived.Test.YtiehjhlekpjlaaaJj
import Derived.Test.YtiehjhlekpjlaaaJh
import Derived.Test.YtiehjhlekpjlaaaJq
namespace Go.Proofs.Ytiehjhlekpjlaaa
open Go.RowKit
set_option linter.unusedVariables false

/-- What two quotients say: so many steps of the ladder are done. -/
structure LQ (x : Int) (n i : Nat) (lt lb ht hb : Int) : Prop where
  nlt : N256 lt
  nlb : N256 lb
  nht : N256 ht
  nhb : N256 hb
  flt : fz lt = (lad kC (fz x) n i).lt
  flb : fz lb = (lad kC (fz x) n i).lb
  fht : fz ht = (lad kC (fz x) n i).ht
  fhb : fz hb = (lad kC (fz x) n i).hb

theorem LQ.zero {x : Int} (hx : N256 x) (n : Nat) : LQ x n 0 1 0 x 1 :=
  ⟨⟨by decide, by decide⟩, ⟨by decide, by decide⟩, hx, ⟨by decide, by decide⟩, by show fz 1 = 1; decide +kernel, by show fz 0 = 0; decide +kernel, rfl, by show fz 1 = 1; decide +kernel⟩

theorem LQ.up {x : Int} {n i : Nat} {lt lb ht hb : Int} (h : LQ x n i lt lb ht hb) (hc : (n / 2 ^ (254 - i) % 2 == 1) = true) : LQ x n (i + 1) (iBt ht hb lt lb) (iBb x ht hb lt lb) (i2t ht hb) (i2b ht hb) := by
  have e : lad kC (fz x) n (i + 1) = rung kC (fz x) true (lad kC (fz x) n i) := by show rung kC (fz x) (n / 2 ^ (254 - i) % 2 == 1) _ = _; rw [hc]
  refine ⟨md_N _ _, md_N _ _, md_N _ _, md_N _ _, ?_, ?_, ?_, ?_⟩
  · rw [e, (fz_iB x ht hb lt lb).1, h.flt, h.flb, h.fht, h.fhb]; rfl
  · rw [e, (fz_iB x ht hb lt lb).2, h.flt, h.flb, h.fht, h.fhb]; rfl
  · rw [e, (fz_i2 ht hb).1, h.fht, h.fhb]; rfl
  · rw [e, (fz_i2 ht hb).2, h.fht, h.fhb]; rfl
theorem LQ.down {x : Int} {n i : Nat} {lt lb ht hb : Int} (h : LQ x n i lt lb ht hb) (hc : (n / 2 ^ (254 - i) % 2 == 1) = false) : LQ x n (i + 1) (i2t lt lb) (i2b lt lb) (iBt lt lb ht hb) (iBb x lt lb ht hb) := by
  have e : lad kC (fz x) n (i + 1) = rung kC (fz x) false (lad kC (fz x) n i) := by show rung kC (fz x) (n / 2 ^ (254 - i) % 2 == 1) _ = _; rw [hc]
  refine ⟨md_N _ _, md_N _ _, md_N _ _, md_N _ _, ?_, ?_, ?_, ?_⟩
  · rw [e, (fz_i2 lt lb).1, h.flt, h.flb]; rfl
  · rw [e, (fz_i2 lt lb).2, h.flt, h.flb]; rfl
  · rw [e, (fz_iB x lt lb ht hb).1, h.flt, h.flb, h.fht, h.fhb]; rfl
  · rw [e, (fz_iB x lt lb ht hb).2, h.flt, h.flb, h.fht, h.fhb]; rfl
/-- A bit by the integer, and by the number. -/
theorem bit_nat {n : Int} (hn : 0 ≤ n) (j : Nat) : (dg 2 n j == 1) = (n.toNat / 2 ^ j % 2 == 1) := by
  obtain ⟨m, rfl⟩ := Int.eq_ofNat_of_zero_le hn
  unfold dg
  rw [Int.toNat_natCast, show (2 : Int) ^ j = ((2 ^ j : Nat) : Int) by simp, ← Int.natCast_ediv, show (2 : Int) = ((2 : Nat) : Int) from rfl, ← Int.natCast_emod]
  rcases Nat.mod_two_eq_zero_or_one (m / 2 ^ j) with h | h <;> rw [h] <;> rfl

structure CM (w wr : World) (n x lt lb ht hb : Int) : Prop where
  chg : Chg w wr
  a2 : Ar wr w.heap.size (num n)
  a3 : Ar wr (w.heap.size + 1) (num x)
  a4 : Ar wr (w.heap.size + 1 + 1) (quo 0 0)
  a5 : Ar wr (w.heap.size + 1 + 1 + 1) (quo lt lb)
  a6 : Ar wr (w.heap.size + 1 + 1 + 1 + 1) (quo ht hb)
theorem CM.to {w wr u : World} {n x lt lb ht hb : Int} (h : CM w wr n x lt lb ht hb) (k : Chg wr u) : CM w u n x lt lb ht hb := ⟨h.chg.trans k, h.a2.chg k, h.a3.chg k, h.a4.chg k, h.a5.chg k, h.a6.chg k⟩

theorem wpList_quo {ops : Array Oper} {rest : List Oper} {o : Oper} {a : Act} {w : World} {Q : Exit → Act → World → Prop} (hg : o.guard = none) (x : Operand) (t : Int) (ho : o.op = .build 36 #[(0, x)]) (hx : a.eval x = .agg (num t)) (h : wpList Try.prog ops Q rest (a.put o.dst (.agg (quo t 0))) w) : wpList Try.prog ops Q (o :: rest) a w := by
  have e : Try.prog.built 36 (#[(0, x)].map fun (p : Nat × Operand) => (p.1, a.eval p.2)).toList = some (quo t 0) := by
    rw [show (#[(0, x)].map fun (p : Nat × Operand) => (p.1, a.eval p.2)).toList = [(0, .agg (num t))] by simp [hx]]
    exact built36' t
  refine wpList_build hg 36 #[(0, x)] ho ?_ ?_
  · show (Try.prog.built 36 (#[(0, x)].map fun (p : Nat × Operand) => (p.1, a.eval p.2)).toList).isSome = true
    rw [e]; rfl
  · show wpList Try.prog ops Q rest (a.put o.dst (.agg ((Try.prog.built 36 (#[(0, x)].map fun (p : Nat × Operand) => (p.1, a.eval p.2)).toList).getD #[]))) w
    rw [e]; exact h
theorem wpList_quo2 {ops : Array Oper} {rest : List Oper} {o : Oper} {a : Act} {w : World} {Q : Exit → Act → World → Prop} (hg : o.guard = none) (x y : Operand) (t b : Int) (ho : o.op = .build 36 #[(0, x), (1, y)]) (hx : a.eval x = .agg (num t)) (hy : a.eval y = .agg (num b)) (h : wpList Try.prog ops Q rest (a.put o.dst (.agg (quo t b))) w) : wpList Try.prog ops Q (o :: rest) a w := by
  have e : Try.prog.built 36 (#[(0, x), (1, y)].map fun (p : Nat × Operand) => (p.1, a.eval p.2)).toList = some (quo t b) := by
    rw [show (#[(0, x), (1, y)].map fun (p : Nat × Operand) => (p.1, a.eval p.2)).toList = [(0, .agg (num t)), (1, .agg (num b))] by simp [hx, hy]]
    exact built36 t b
  refine wpList_build hg 36 #[(0, x), (1, y)] ho ?_ ?_
  · show (Try.prog.built 36 (#[(0, x), (1, y)].map fun (p : Nat × Operand) => (p.1, a.eval p.2)).toList).isSome = true
    rw [e]; rfl
  · show wpList Try.prog ops Q rest (a.put o.dst (.agg ((Try.prog.built 36 (#[(0, x), (1, y)].map fun (p : Nat × Operand) => (p.1, a.eval p.2)).toList).getD #[]))) w
    rw [e]; exact h

set_option maxRecDepth 100000 in
set_option maxHeartbeats 16000000 in
theorem climb_any (n x : Int) (hn : N256 n) (hx : N256 x) (w : World) : Calls Try.prog 16 #[.agg (num n), .agg (num x)] w fun r w' => ∃ t b, r = .returned (.agg (quo t b)) ∧ Chg w w' ∧ N256 t ∧ N256 b ∧ fz t = (lad kC (fz x) n.toNat 255).lt ∧ fz b = (lad kC (fz x) n.toNat 255).lb := by
  have HN : Hid (N256 n ∧ N256 x) := ⟨hn, hx⟩
  have hz := zero25.1
  have hz6 := zero36.1
  have hsX := num_size x
  have hsN := num_size n
  have iX := infoN x
  have iN := infoN n
  have h1 := num_set1
  have hne := num_ne0y
  obtain ⟨X, hX⟩ : ∃ X, X = num x := ⟨_, rfl⟩
  obtain ⟨N, hN⟩ : ∃ N, N = num n := ⟨_, rfl⟩
  have HA : Hid (X = num x ∧ N = num n) := ⟨hX, hN⟩
  rw [← hX] at hsX iX ⊢
  rw [← hN] at hsN iN ⊢
  clear hn hx hX hN
  go_enter Try.func16, Try.ntmps16
  go_upto_region 1 with fail
  obtain ⟨w1, hw1⟩ : ∃ w1, w1 = ((w.alloc (.cells N 34)).alloc (.cells X 34)).alloc (.cells (quo 0 0) 36) := ⟨_, rfl⟩
  have Z1 : Hid (Chg w w1 ∧ Ar w1 w.heap.size N ∧ Ar w1 (w.heap.size + 1) X ∧ Ar w1 (w.heap.size + 1 + 1) (quo 0 0) ∧ w1.heap.size = w.heap.size + 1 + 1 + 1) := by
    rw [hw1]
    exact ⟨(((Chg.refl w).alloc _).alloc _).alloc _, ((Ar.new w _ _).alloc _).alloc _, (Ar.new1 w _ _ _).alloc _, Ar.new2 w _ _ _ _, by simp⟩
  rw [← hw1]
  clear hw1 hsX hsN
  have g1 := heap_alloc_last w1 (.cells (quo 0 0) 36)
  have s10 := szQ 1 0
  have l10 := lenQ 0 0 1 0
  have o10 := quo_one 1 0
  go_upto_region 2 with (first
    | refine wpList_quo rfl (.tmp 8) 1 rfl rfl ?_
    | refine wpList_store_row rfl 36 _ _ rfl _ _ rfl rfl _ _ g1 s10 l10 o10 ?_)
  obtain ⟨w2, hw2⟩ : ∃ w2, w2 = (w1.alloc (.cells (quo 0 0) 36)).setRow w1.heap.size (quo 1 0) := ⟨_, rfl⟩
  have Z2 : Hid (Chg w w2 ∧ Ar w2 w.heap.size N ∧ Ar w2 (w.heap.size + 1) X ∧ Ar w2 (w.heap.size + 1 + 1) (quo 0 0) ∧ Ar w2 (w.heap.size + 1 + 1 + 1) (quo 1 0) ∧ w2.heap.size = w.heap.size + 1 + 1 + 1 + 1) := by
    obtain ⟨k1, k2, k3, k4, k5⟩ := Z1.out
    rw [hw2]
    have hc : Chg w1 ((w1.alloc (.cells (quo 0 0) 36)).setRow w1.heap.size (quo 1 0)) := ((Chg.refl w1).alloc _).setRow (Nat.le_refl _) _
    refine ⟨k1.trans hc, k2.chg hc, k3.chg hc, k4.chg hc, ?_, by simp [World.setRow, k5]⟩
    rw [← k5]
    exact (Ar.new w1 _ _).row _
  have e1 := Z1.out.2.2.2.2
  rw [← hw2]
  rw [e1]
  clear hw2 Z1 g1 e1
  dsimp only [Act.put]
  have r3 := rangeA Z2.out.2.2.1
  have g2 := heap_alloc_last w2 (.cells (quo 0 0) 36)
  have sx := szQ x 1
  have lx' := lenQ 0 0 x 1
  have ox := quo_one x 1
  have Q1 : Hid ((.agg X : Value) = .agg (num x)) := by show (.agg X : Value) = .agg (num x); rw [HA.out.1]
  go_upto_region 3 with (first
    | refine wpList_load_mid rfl 34 (.tmp 3) rfl _ _ rfl (X.toList) _ r3 u25 rfl iX ?_
    | refine wpList_quo2 rfl (.tmp 10) (.tmp 11) x 1 rfl Q1.out rfl ?_
    | refine wpList_store_row rfl 36 _ _ rfl _ _ rfl rfl _ _ g2 sx lx' ox ?_)
  obtain ⟨w3, hw3⟩ : ∃ w3, w3 = (w2.alloc (.cells (quo 0 0) 36)).setRow w2.heap.size (quo x 1) := ⟨_, rfl⟩
  have Z3 : Hid (CM w w3 n x 1 0 x 1) := by
    obtain ⟨k1, k2, k3, k4, k5, k6⟩ := Z2.out
    rw [HA.out.2] at k2
    rw [HA.out.1] at k3
    rw [hw3]
    have hc : Chg w2 ((w2.alloc (.cells (quo 0 0) 36)).setRow w2.heap.size (quo x 1)) := ((Chg.refl w2).alloc _).setRow (Nat.le_refl _) _
    refine ⟨k1.trans hc, k2.chg hc, k3.chg hc, k4.chg hc, k5.chg hc, ?_⟩
    rw [← k6]
    exact (Ar.new w2 _ _).row _
  have e1 := Z2.out.2.2.2.2.2
  rw [← hw3]
  rw [e1]
  clear hw3 Z2 g2 e1 r3 Q1 sx lx' ox s10 l10 o10
  dsimp only [Act.put]
  go_wp2_with fail
  go_loopw [13] (fun v wr => ∃ (i : Nat) (lt lb ht hb : Int), v = .int .i64 i ∧ i ≤ 255 ∧ CM w wr n x lt lb ht hb ∧ LQ x n.toNat i lt lb ht hb) (fun v wr => 255 - (intOf v).toNat)
  case atStart => exact ⟨0, 1, 0, x, 1, rfl, by omega, Z3.out, LQ.zero HN.out.2 _⟩
  case round =>
    clear Z3
    obtain ⟨i, lt, lb, ht, hb, rfl, hi, hm, hq⟩ := hrel
    have H : Hid (CM w wr n x lt lb ht hb ∧ LQ x n.toNat i lt lb ht hb) := ⟨hm, hq⟩
    by_cases h255 : i < 255
    · have hdi : decide ((i : Int) < 255) = true := by simp; omega
      obtain ⟨j, hj⟩ : ∃ j : Nat, (254 : Int) - (i : Int) = j := ⟨254 - i, by omega⟩
      have hj' : j = 254 - i := by omega
      have wj := wrap_i (x := (j : Int)) (by omega) (by omega)
      obtain ⟨i1, hi1⟩ : ∃ i1 : Nat, (i : Int) + 1 = i1 := ⟨i + 1, by omega⟩
      have hi1' : i1 = i + 1 := by omega
      have wi1 := wrap_i (x := (i1 : Int)) (by omega) (by omega)
      have r2 := rangeN hm.a2
      rw [← HA.out.2] at r2
      have HB : Hid (∀ W, Calls Try.prog 27 #[.agg N, .int .i64 j] W fun r w' => r = .returned (.bool (n.toNat / 2 ^ (254 - i) % 2 == 1)) ∧ Chg W w') := fun W => by
        have := bitX_any n j (by omega) W
        rw [bit_nat HN.out.1.1, hj', ← HA.out.2] at this
        rw [hj']
        exact this
      obtain ⟨c, hc⟩ : ∃ c, c = (n.toNat / 2 ^ (254 - i) % 2 == 1) := ⟨_, rfl⟩
      rw [← hc] at HB
      have HC : Hid (c = (n.toNat / 2 ^ (254 - i) % 2 == 1) ∧ i < 255 ∧ i1 = i + 1) := ⟨hc, h255, hi1'⟩
      clear hm hq hc hj' hi1' h255 hi
      go_wp2_with (first | refine wpList_load_mid rfl 34 (.tmp 2) rfl _ _ rfl (N.toList) _ r2 Go.Proofs.Ytiehjhlekpjlaaa.u25 rfl iN ?_)
      go_at_call 27
      refine (HB.out _).mono ?_
      rintro r w5 ⟨rfl, hc5⟩
      have Z5 : Hid (CM w w5 n x lt lb ht hb) := H.out.1.to hc5
      clear hc5 r2 HB
      cases c
      · have r3 := rangeN Z5.out.a3
        rw [← HA.out.1] at r3
        have r5 := rangeQ Z5.out.a5
        have r6 := rangeQ Z5.out.a6
        have i5 := infoQ lt lb
        have i6 := infoQ ht hb
        have HS : Hid (∀ W, Calls Try.prog 28 #[.agg X, .agg (quo lt lb), .agg (quo ht hb)] W fun r w' => r = .returned (.tuple #[.agg (quo (i2t lt lb) (i2b lt lb)), .agg (quo (iBt lt lb ht hb) (iBb x lt lb ht hb))]) ∧ Chg W w') := fun W => by
          rw [HA.out.1]
          exact stepX_any x lt lb ht hb HN.out.2 H.out.2.nlt H.out.2.nlb H.out.2.nht H.out.2.nhb W
        obtain ⟨T2, hT2⟩ : ∃ A, A = quo (i2t lt lb) (i2b lt lb) := ⟨_, rfl⟩
        obtain ⟨TB, hTB⟩ : ∃ A, A = quo (iBt lt lb ht hb) (iBb x lt lb ht hb) := ⟨_, rfl⟩
        have sA := szQ (i2t lt lb) (i2b lt lb)
        have lA := lenQ lt lb (i2t lt lb) (i2b lt lb)
        have oA := quo_one (i2t lt lb) (i2b lt lb)
        have sB := szQ (iBt lt lb ht hb) (iBb x lt lb ht hb)
        have lB := lenQ ht hb (iBt lt lb ht hb) (iBb x lt lb ht hb)
        have oB := quo_one (iBt lt lb ht hb) (iBb x lt lb ht hb)
        have HT : Hid (T2 = quo (i2t lt lb) (i2b lt lb) ∧ TB = quo (iBt lt lb ht hb) (iBb x lt lb ht hb)) := ⟨hT2, hTB⟩
        rw [← hT2] at sA lA oA HS
        rw [← hTB] at sB lB oB HS
        clear hT2 hTB
        obtain ⟨ONE, hONE⟩ : ∃ A, A = quo lt lb := ⟨_, rfl⟩
        obtain ⟨OTH, hOTH⟩ : ∃ A, A = quo ht hb := ⟨_, rfl⟩
        have HO : Hid (ONE = quo lt lb ∧ OTH = quo ht hb) := ⟨hONE, hOTH⟩
        rw [← hONE] at r5 i5 lA HS
        rw [← hOTH] at r6 i6 lB HS
        clear hONE hOTH
        go_wp2_with (first
          | refine wpList_load_mid rfl 34 (.tmp 3) rfl _ _ rfl (X.toList) _ r3 Go.Proofs.Ytiehjhlekpjlaaa.u25 rfl iX ?_
          | refine wpList_load_mid rfl 36 (.tmp 5) rfl _ _ rfl (ONE.toList) _ r5 Try.underlying36 rfl i5 ?_
          | refine wpList_load_mid rfl 36 (.tmp 6) rfl _ _ rfl (OTH.toList) _ r6 Try.underlying36 rfl i6 ?_)
        go_at_call 28
        refine (HS.out _).mono ?_
        rintro r w6 ⟨rfl, hc6⟩
        have Z6 : Hid (CM w w6 n x lt lb ht hb) := Z5.out.to hc6
        have k1 := Z6.out.a5
        have k2 := Z6.out.a6
        rw [← HO.out.1] at k1
        rw [← HO.out.2] at k2
        have k3 := k2.rowOther (b' := w.heap.size + 1 + 1 + 1) (by omega) T2
        obtain ⟨t1, g1⟩ := k1
        obtain ⟨t2, g2⟩ := k3
        clear hc6 r3 r5 r6 i5 i6 Z5 k2 HS
        go_wp2_with (first
          | refine wpList_store_row rfl 36 _ _ rfl _ _ rfl rfl _ _ g1 sA lA oA ?_
          | refine wpList_store_row rfl 36 _ _ rfl _ _ rfl rfl _ _ g2 sB lB oB ?_)
        rw [HT.out.1, HT.out.2]
        have S := Z6.out
        have hL := H.out.2.down HC.out.1.symm
        refine ⟨⟨i + 1, _, _, _, _, by rw [← HC.out.2.2], by have := HC.out.2.1; omega, ⟨(S.chg.setRow (by omega) _).setRow (by omega) _, (S.a2.rowOther (by omega) _).rowOther (by omega) _, (S.a3.rowOther (by omega) _).rowOther (by omega) _, (S.a4.rowOther (by omega) _).rowOther (by omega) _, ?_, ?_⟩, hL⟩, ?_⟩
        · exact (S.a5.row _).rowOther (by omega) _
        · exact (S.a6.rowOther (by omega) _).row _
        · have := HC.out.2
          simp only [intOf]
          omega
      · have r3 := rangeN Z5.out.a3
        rw [← HA.out.1] at r3
        have r5 := rangeQ Z5.out.a6
        have r6 := rangeQ Z5.out.a5
        have i5 := infoQ ht hb
        have i6 := infoQ lt lb
        have HS : Hid (∀ W, Calls Try.prog 28 #[.agg X, .agg (quo ht hb), .agg (quo lt lb)] W fun r w' => r = .returned (.tuple #[.agg (quo (i2t ht hb) (i2b ht hb)), .agg (quo (iBt ht hb lt lb) (iBb x ht hb lt lb))]) ∧ Chg W w') := fun W => by
          rw [HA.out.1]
          exact stepX_any x ht hb lt lb HN.out.2 H.out.2.nht H.out.2.nhb H.out.2.nlt H.out.2.nlb W
        obtain ⟨T2, hT2⟩ : ∃ A, A = quo (i2t ht hb) (i2b ht hb) := ⟨_, rfl⟩
        obtain ⟨TB, hTB⟩ : ∃ A, A = quo (iBt ht hb lt lb) (iBb x ht hb lt lb) := ⟨_, rfl⟩
        have sA := szQ (i2t ht hb) (i2b ht hb)
        have lA := lenQ ht hb (i2t ht hb) (i2b ht hb)
        have oA := quo_one (i2t ht hb) (i2b ht hb)
        have sB := szQ (iBt ht hb lt lb) (iBb x ht hb lt lb)
        have lB := lenQ lt lb (iBt ht hb lt lb) (iBb x ht hb lt lb)
        have oB := quo_one (iBt ht hb lt lb) (iBb x ht hb lt lb)
        have HT : Hid (T2 = quo (i2t ht hb) (i2b ht hb) ∧ TB = quo (iBt ht hb lt lb) (iBb x ht hb lt lb)) := ⟨hT2, hTB⟩
        rw [← hT2] at sA lA oA HS
        rw [← hTB] at sB lB oB HS
        clear hT2 hTB
        obtain ⟨ONE, hONE⟩ : ∃ A, A = quo ht hb := ⟨_, rfl⟩
        obtain ⟨OTH, hOTH⟩ : ∃ A, A = quo lt lb := ⟨_, rfl⟩
        have HO : Hid (ONE = quo ht hb ∧ OTH = quo lt lb) := ⟨hONE, hOTH⟩
        rw [← hONE] at r5 i5 lA HS
        rw [← hOTH] at r6 i6 lB HS
        clear hONE hOTH
        go_wp2_with (first
          | refine wpList_load_mid rfl 34 (.tmp 3) rfl _ _ rfl (X.toList) _ r3 Go.Proofs.Ytiehjhlekpjlaaa.u25 rfl iX ?_
          | refine wpList_load_mid rfl 36 (.tmp 6) rfl _ _ rfl (ONE.toList) _ r5 Try.underlying36 rfl i5 ?_
          | refine wpList_load_mid rfl 36 (.tmp 5) rfl _ _ rfl (OTH.toList) _ r6 Try.underlying36 rfl i6 ?_)
        go_at_call 28
        refine (HS.out _).mono ?_
        rintro r w6 ⟨rfl, hc6⟩
        have Z6 : Hid (CM w w6 n x lt lb ht hb) := Z5.out.to hc6
        have k1 := Z6.out.a6
        have k2 := Z6.out.a5
        rw [← HO.out.1] at k1
        rw [← HO.out.2] at k2
        have k3 := k2.rowOther (b' := w.heap.size + 1 + 1 + 1 + 1) (by omega) T2
        obtain ⟨t1, g1⟩ := k1
        obtain ⟨t2, g2⟩ := k3
        clear hc6 r3 r5 r6 i5 i6 Z5 k2 HS
        go_wp2_with (first
          | refine wpList_store_row rfl 36 _ _ rfl _ _ rfl rfl _ _ g1 sA lA oA ?_
          | refine wpList_store_row rfl 36 _ _ rfl _ _ rfl rfl _ _ g2 sB lB oB ?_)
        rw [HT.out.1, HT.out.2]
        have S := Z6.out
        have hL := H.out.2.up HC.out.1.symm
        refine ⟨⟨i + 1, _, _, _, _, by rw [← HC.out.2.2], by have := HC.out.2.1; omega, ⟨(S.chg.setRow (by omega) _).setRow (by omega) _, (S.a2.rowOther (by omega) _).rowOther (by omega) _, (S.a3.rowOther (by omega) _).rowOther (by omega) _, (S.a4.rowOther (by omega) _).rowOther (by omega) _, ?_, ?_⟩, hL⟩, ?_⟩
        · exact (S.a5.rowOther (by omega) _).row _
        · exact (S.a6.row _).rowOther (by omega) _
        · have := HC.out.2
          simp only [intOf]
          omega
    · have e : i = 255 := by omega
      subst e
      have r5 := rangeQ hm.a5
      have i5 := infoQ lt lb
      have s5 := szQ lt lb
      have l5 := lenQ 0 0 lt lb
      have o5 := quo_one lt lb
      obtain ⟨t4, g4⟩ := hm.a4
      have HQ : Hid (∃ a b, quo lt lb = quo a b ∧ N256 a ∧ N256 b ∧ fz a = (lad kC (fz x) n.toNat 255).lt ∧ fz b = (lad kC (fz x) n.toNat 255).lb) := ⟨lt, lb, rfl, hq.nlt, hq.nlb, hq.flt, hq.flb⟩
      have hd : decide (((255 : Nat) : Int) < 255) = false := by decide
      clear hq hm
      go_wp2_with (first
        | refine wpList_load_mid rfl 36 (.tmp 5) rfl _ _ rfl ((quo lt lb).toList) _ r5 Try.underlying36 rfl i5 ?_
        | refine wpList_store_row rfl 36 _ _ rfl _ _ rfl rfl _ _ g4 s5 l5 o5 ?_)
      obtain ⟨a, b, e, na, nb, fa, fb⟩ := HQ.out
      have A4 := H.out.1.a4.row (quo lt lb)
      rw [e] at A4 ⊢
      exact bp_q Try.results16 rfl rfl A4 ⟨a, b, rfl, H.out.1.chg.setRow (by omega) _, na, nb, fa, fb⟩
end Go.Proofs.Ytiehjhlekpjlaaa

namespace Go.Proofs.Ytiehjhlekpjlaaa
open Go.RowKit
set_option linter.unusedVariables false

set_option maxRecDepth 100000 in
set_option maxHeartbeats 8000000 in
theorem valueX_any (t b : Int) (ht : N256 t) (hb : N256 b) (w : World) : Calls Try.prog 19 #[.agg (quo t b)] w fun r w' => r = .returned (.agg (num (md 1 (t * md 1 (b ^ ((mo 1 - 2) % R256).toNat))))) ∧ Chg w w' := by
  have HN : Hid (N256 t ∧ N256 b) := ⟨ht, hb⟩
  have hz := zero25.1
  have hsA := quo_size t b
  obtain ⟨A, hA⟩ : ∃ A, A = quo t b := ⟨_, rfl⟩
  have HA : Hid (A = quo t b) := hA
  rw [← hA] at hsA ⊢
  clear hA ht hb
  go_enter Try.func19, Try.ntmps19
  go_upto_region 1 with fail
  obtain ⟨w1, hw1⟩ : ∃ w1, w1 = (w.alloc (.cells A 36)).alloc (.cells (num 0) 34) := ⟨_, rfl⟩
  have Z1 : Hid (Chg w w1 ∧ Ar w1 w.heap.size (quo t b) ∧ Ar w1 (w.heap.size + 1) (num 0)) := by
    rw [hw1, HA.out]
    exact ⟨((Chg.refl w).alloc _).alloc _, (Ar.new w _ _).alloc _, Ar.new1 w _ _ _⟩
  rw [← hw1]
  clear hw1 hsA hz HA
  refine wp_region_good 6 (fun j v wg => match j with
    | 0 => v = .pointer (some ⟨w.heap.size, 0, none⟩)
    | 1 => v = .agg (num t)
    | 2 => v = .pointer (some ⟨w.heap.size, 4, none⟩)
    | 3 => v = .agg (num b)
    | 4 => v = .agg (num (md 1 (b ^ ((mo 1 - 2) % R256).toNat)))
    | 5 => v = .agg (num (md 1 (t * md 1 (b ^ ((mo 1 - 2) % R256).toNat))))
    | _ => True) (by kernel_rfl) (by kernel_rfl) (by kernel_rfl) (by kernel_rfl) (by kernel_rfl) ?_ ?_ ?_
  · intro j v u1 u2 h hc
    match j, h with
    | 0, h => exact h
    | 1, h => exact h
    | 2, h => exact h
    | 3, h => exact h
    | 4, h => exact h
    | 5, h => exact h
    | _ + 6, h => exact trivial
  · intro i o ac u hi ho hsz hf hg hc
    have hcs : i = 0 ∨ i = 1 ∨ i = 2 ∨ i = 3 ∨ i = 4 ∨ i = 5 := by omega
    rcases hcs with rfl | rfl | rfl | rfl | rfl | rfl
    · injection ho with ho
      subst ho
      refine .inl ⟨wanted_none rfl, ?_⟩
      have e1 : ac.eval (.tmp 1) = .pointer (some ⟨w.heap.size, 0, none⟩) := hf 1 (by kernel_rfl)
      exact opG_val (by revert e1; generalize ac.eval = ρ; intro e1; simp [go_sem, execOp, e1]) rfl (Chg.refl _)
    · injection ho with ho
      subst ho
      refine .inl ⟨wanted_none rfl, ?_⟩
      have e1 : ac.eval (.tmp 3) = .pointer (some ⟨w.heap.size, 0, none⟩) := hg 0 (by kernel_rfl) (by decide)
      exact wp_load_mid 34 (.tmp 3) rfl _ _ e1 ((num t).toList) _ (rangeQ0 (Ar.chg (w := w1.drew) Z1.out.2.1.drew hc)) Go.Proofs.Ytiehjhlekpjlaaa.u25 rfl (infoN _) ⟨_, rfl, rfl, Chg.refl _⟩
    · injection ho with ho
      subst ho
      refine .inl ⟨wanted_none rfl, ?_⟩
      have e1 : ac.eval (.tmp 1) = .pointer (some ⟨w.heap.size, 0, none⟩) := hf 1 (by kernel_rfl)
      exact opG_val (by revert e1; generalize ac.eval = ρ; intro e1; simp [go_sem, execOp, e1]) rfl (Chg.refl _)
    · injection ho with ho
      subst ho
      refine .inl ⟨wanted_none rfl, ?_⟩
      have e1 : ac.eval (.tmp 5) = .pointer (some ⟨w.heap.size, 4, none⟩) := hg 2 (by kernel_rfl) (by decide)
      exact wp_load_mid 34 (.tmp 5) rfl _ _ e1 ((num b).toList) _ (rangeQ1 (Ar.chg (w := w1.drew) Z1.out.2.1.drew hc)) Go.Proofs.Ytiehjhlekpjlaaa.u25 rfl (infoN _) ⟨_, rfl, rfl, Chg.refl _⟩
    · injection ho with ho
      subst ho
      refine .inl ⟨wanted_none rfl, ?_⟩
      have e1 : ac.eval (.const (.int .i64 1)) = .int .i64 1 := rfl
      have e2 : ac.eval (.tmp 6) = .agg (num b) := hg 3 (by kernel_rfl) (by decide)
      refine opG_go 31 Try.f31 #[.const (.int .i64 1), .tmp 6] #[41, 34] rfl Try.func31 (by kernel_rfl) (by kernel_rfl) (by simp [e1, e2]) (Calls.mono (invM_any 1 b HN.out.2 _) ?_)
      rintro r u2 ⟨rfl, hc2⟩
      exact ⟨_, rfl, rfl, hc2⟩
    · injection ho with ho
      subst ho
      refine .inl ⟨wanted_none rfl, ?_⟩
      have e1 : ac.eval (.tmp 4) = .agg (num t) := hg 1 (by kernel_rfl) (by decide)
      have e2 : ac.eval (.tmp 7) = .agg (num (md 1 (b ^ ((mo 1 - 2) % R256).toNat))) := hg 4 (by kernel_rfl) (by decide)
      refine opG_go 30 Try.f30 #[.tmp 4, .tmp 7] #[34, 34] rfl Try.func30 (by kernel_rfl) (by kernel_rfl) (by simp [e1, e2]) (Calls.mono (mulX_any t (md 1 (b ^ ((mo 1 - 2) % R256).toNat)) HN.out.1 (md_N _ _) _) ?_)
      rintro r u2 ⟨rfl, hc2⟩
      exact ⟨_, rfl, rfl, hc2⟩
  · intro o u V ho hV hc
    injection ho with ho
    subst ho
    refine ⟨rfl, ?_⟩
    have q3 : V 0 = .pointer (some ⟨w.heap.size, 0, none⟩) := hV 0 (by decide)
    have q4 : V 1 = .agg (num t) := hV 1 (by decide)
    have q5 : V 2 = .pointer (some ⟨w.heap.size, 4, none⟩) := hV 2 (by decide)
    have q6 : V 3 = .agg (num b) := hV 3 (by decide)
    have q7 : V 4 = .agg (num (md 1 (b ^ ((mo 1 - 2) % R256).toNat))) := hV 4 (by decide)
    have q8 : V 5 = .agg (num (md 1 (t * md 1 (b ^ ((mo 1 - 2) % R256).toNat)))) := hV 5 (by decide)
    have hres := Ar.chg (w := w1.drew) Z1.out.2.2.drew hc
    refine wp_store_mid 34 (.tmp 2) (.tmp 8) rfl (w.heap.size + 1) 0 (num (md 1 (t * md 1 (b ^ ((mo 1 - 2) % R256).toNat)))) (by rfl) (Eq.trans (by rfl) q8) (by rw [num_size]; exact thereN hres) (szN _) (num_one _) ?_
    rw [show u.setCells (w.heap.size + 1) 0 (num (md 1 (t * md 1 (b ^ ((mo 1 - 2) % R256).toNat)))).toList = u.setRow (w.heap.size + 1) (num (md 1 (t * md 1 (b ^ ((mo 1 - 2) % R256).toNat)))) from setRowN hres _]
    go_wp2_with fail
    refine bp_n (x := md 1 (t * md 1 (b ^ ((mo 1 - 2) % R256).toNat))) Try.results19 rfl (by rfl) (hres.row _) ⟨rfl, ((Z1.out.1.drew).trans hc).setRow (by omega) _⟩

/-! Bytes of which some bits are named. -/
theorem b_lo8 {b : Int} (h : B8 b) : bits .andNot .u8 b 7 = b - b % 8 ∧ bits .and .u8 b 248 = b - b % 8 := by
  have ⟨h0, h1⟩ := h
  obtain ⟨n, rfl⟩ := Int.eq_ofNat_of_zero_le h0
  have hn : n < 256 := by omega
  have := (by decide +kernel : ∀ n : Nat, n < 256 → bits .andNot .u8 (n : Int) 7 = (n : Int) - (n : Int) % 8 ∧ bits .and .u8 (n : Int) 248 = (n : Int) - (n : Int) % 8)
  exact this n hn
theorem b_hi {b : Int} (h : B8 b) : bits .andNot .u8 b 128 = b % 128 ∧ bits .and .u8 b 127 = b % 128 := by
  have ⟨h0, h1⟩ := h
  obtain ⟨n, rfl⟩ := Int.eq_ofNat_of_zero_le h0
  have hn : n < 256 := by omega
  have := (by decide +kernel : ∀ n : Nat, n < 256 → bits .andNot .u8 (n : Int) 128 = (n : Int) % 128 ∧ bits .and .u8 (n : Int) 127 = (n : Int) % 128)
  exact this n hn
theorem b_or {b : Int} (h : 0 ≤ b ∧ b < 128) : bits .or .u8 b 64 = b % 64 + 64 := by
  have ⟨h0, h1⟩ := h
  obtain ⟨n, rfl⟩ := Int.eq_ofNat_of_zero_le h0
  have hn : n < 128 := by omega
  have := (by decide +kernel : ∀ n : Nat, n < 128 → bits .or .u8 (n : Int) 64 = (n : Int) % 64 + 64)
  exact this n hn

/-- A multiplier's bytes, a point's bytes. -/
def ck (e : Nat → Int) : Nat → Int := upd (upd e 0 (e 0 - e 0 % 8)) 31 (e 31 % 64 + 64)
def cu (e : Nat → Int) : Nat → Int := upd e 31 (e 31 % 128)
theorem ck_8 {e : Nat → Int} (h : ∀ i, B8 (e i)) : ∀ i, B8 (ck e i) := by
  intro i
  have h0 := h 0
  have h31 := h 31
  unfold ck upd
  unfold B8 at *
  split
  · omega
  · split
    · omega
    · exact h i
theorem cu_8 {e : Nat → Int} (h : ∀ i, B8 (e i)) : ∀ i, B8 (cu e i) := by
  intro i
  have h31 := h 31
  unfold cu upd
  unfold B8 at *
  split
  · omega
  · exact h i

set_option maxRecDepth 100000 in
set_option maxHeartbeats 8000000 in
theorem multiplier_any (e : Nat → Int) (he : ∀ i, B8 (e i)) (w : World) : Calls Try.prog 17 #[.agg (byt e)] w fun r w' => r = .returned (.agg (num (val 256 32 (ck e)))) ∧ Chg w w' := by
  have hz := zero25.1
  have hsA := byt_size e
  have b0 := (b_lo8 (he 0)).1
  have b1 := (b_hi (he 31)).1
  have b2 : bits .or .u8 (e 31 % 128) 64 = e 31 % 64 + 64 := by
    have := he 31
    unfold B8 at this
    rw [b_or (by omega)]
    omega
  have s1 := szN (val 256 32 (ck e))
  have l1 := lenN 0 (val 256 32 (ck e))
  have o1 := num_one (val 256 32 (ck e))
  have iY := infoY (ck e)
  have k := fun W => fromLE_any (ck e) (ck_8 he) W
  obtain ⟨A, hA⟩ : ∃ A, A = byt e := ⟨_, rfl⟩
  have HA : Hid (A = byt e) := hA
  obtain ⟨C, hC⟩ : ∃ C, C = byt (ck e) := ⟨_, rfl⟩
  have HC : Hid (C = byt (ck e)) := hC
  obtain ⟨M, hM⟩ : ∃ M, M = num (val 256 32 (ck e)) := ⟨_, rfl⟩
  have HM : Hid (M = num (val 256 32 (ck e))) := hM
  rw [← hA] at hsA ⊢
  rw [← hC] at k iY
  rw [← hM] at s1 l1 o1 k ⊢
  have HK : Hid (∀ W, Calls Try.prog 29 #[.agg C] W fun r w' => r = .returned (.agg M) ∧ Chg W w') := k
  obtain ⟨d0, hd0⟩ : ∃ d, d = e 0 := ⟨_, rfl⟩
  obtain ⟨d31, hd31⟩ : ∃ d, d = e 31 := ⟨_, rfl⟩
  obtain ⟨f0, hf0⟩ : ∃ d, d = e 0 - e 0 % 8 := ⟨_, rfl⟩
  obtain ⟨f1, hf1⟩ : ∃ d, d = e 31 % 128 := ⟨_, rfl⟩
  obtain ⟨f2, hf2⟩ : ∃ d, d = e 31 % 64 + 64 := ⟨_, rfl⟩
  have HF : Hid (d0 = e 0 ∧ d31 = e 31 ∧ f0 = e 0 - e 0 % 8 ∧ f2 = e 31 % 64 + 64) := ⟨hd0, hd31, hf0, hf2⟩
  rw [← hf0, ← hd0] at b0
  rw [← hf1, ← hd31] at b1
  rw [← hf1, ← hf2] at b2
  clear hA hC hM k he hd0 hd31 hf0 hf1 hf2
  go_enter Try.func17, Try.ntmps17
  go_upto_region 1 with fail
  obtain ⟨w1, hw1⟩ : ∃ w1, w1 = (w.alloc (.cells A 22)).alloc (.cells (num 0) 34) := ⟨_, rfl⟩
  have Z1 : Hid (Chg w w1 ∧ Ar w1 w.heap.size (byt e) ∧ Ar w1 (w.heap.size + 1) (num 0)) := by
    rw [hw1, HA.out]
    exact ⟨((Chg.refl w).alloc _).alloc _, (Ar.new w _ _).alloc _, Ar.new1 w _ _ _⟩
  have c0 : w1.cell? ⟨w.heap.size, 0, none⟩ = some (.int .u8 d0) := by rw [HF.out.1]; exact (Z1.out.2.1.cell 0).trans (arr_get _ _ _ (by decide))
  have z0 := Z1.out.2.1.frozen 0
  rw [← hw1]
  clear hw1 hsA hz
  go_upto_region 2 with fail
  obtain ⟨w2, hw2⟩ : ∃ w2, w2 = w1.setCell ⟨w.heap.size, 0, none⟩ (.int .u8 f0) := ⟨_, rfl⟩
  have Z2 : Hid (Chg w w2 ∧ Ar w2 w.heap.size (byt (upd e 0 (e 0 - e 0 % 8))) ∧ Ar w2 (w.heap.size + 1) (num 0)) := by
    rw [hw2, HF.out.2.2.1]
    refine ⟨Z1.out.1.setCell (Nat.le_refl _) _, ?_, Z1.out.2.2.other (by simp) _⟩
    have := Z1.out.2.1.set 0 (.int .u8 (e 0 - e 0 % 8))
    rw [show byt e = arr .u8 32 e from rfl, arr_set] at this
    exact this
  have c1 : w2.cell? ⟨w.heap.size, 31, none⟩ = some (.int .u8 d31) := by rw [HF.out.2.1]; exact (Z2.out.2.1.cell 31).trans (arr_get _ _ _ (by decide))
  have z1 := Z2.out.2.1.frozen 31
  rw [← hw2]
  clear hw2 c0 z0 Z1 b0
  go_upto_region 3 with fail
  obtain ⟨w3, hw3⟩ : ∃ w3, w3 = w2.setCell ⟨w.heap.size, 31, none⟩ (.int .u8 f2) := ⟨_, rfl⟩
  have Z3 : Hid (Chg w w3 ∧ Ar w3 w.heap.size C ∧ Ar w3 (w.heap.size + 1) (num 0)) := by
    rw [hw3, HF.out.2.2.2, HC.out]
    refine ⟨Z2.out.1.setCell (Nat.le_refl _) _, ?_, Z2.out.2.2.other (by simp) _⟩
    have := Z2.out.2.1.set 31 (.int .u8 (e 31 % 64 + 64))
    rw [show byt (upd e 0 (e 0 - e 0 % 8)) = arr .u8 32 (upd e 0 (e 0 - e 0 % 8)) from rfl, arr_set] at this
    exact this
  rw [← hw3]
  clear hw3 c1 z1 Z2 b1 b2
  have r1 := rangeA Z3.out.2.1
  go_wp2_with (first
    | refine wpList_load_mid rfl 22 (.tmp 1) rfl _ _ rfl (C.toList) _ r1 un37 rfl iY ?_)
  go_at_call 29
  refine (HK.out _).mono ?_
  rintro r w4 ⟨rfl, hc4⟩
  have Z4 : Hid (Chg w w4 ∧ Ar w4 (w.heap.size + 1) (num 0)) := ⟨Z3.out.1.trans hc4, Z3.out.2.2.chg hc4⟩
  obtain ⟨t, g⟩ := Z4.out.2
  clear hc4 r1 Z3
  go_wp2_with (first | refine wpList_store_row rfl 34 _ _ rfl _ _ rfl rfl _ _ g s1 l1 o1 ?_)
  rw [HM.out]
  refine bp_n (x := val 256 32 (ck e)) Try.results17 rfl rfl ?_ ⟨rfl, Z4.out.1.setRow (by omega) _⟩
  exact Z4.out.2.row _

set_option maxRecDepth 100000 in
set_option maxHeartbeats 8000000 in
theorem coordinate_any (e : Nat → Int) (he : ∀ i, B8 (e i)) (w : World) : Calls Try.prog 18 #[.agg (byt e)] w fun r w' => r = .returned (.agg (num (val 256 32 (cu e)))) ∧ Chg w w' := by
  have hz := zero25.1
  have hsA := byt_size e
  have b1 := (b_hi (he 31)).1
  have s1 := szN (val 256 32 (cu e))
  have l1 := lenN 0 (val 256 32 (cu e))
  have o1 := num_one (val 256 32 (cu e))
  have iY := infoY (cu e)
  have k := fun W => fromLE_any (cu e) (cu_8 he) W
  obtain ⟨A, hA⟩ : ∃ A, A = byt e := ⟨_, rfl⟩
  have HA : Hid (A = byt e) := hA
  obtain ⟨C, hC⟩ : ∃ C, C = byt (cu e) := ⟨_, rfl⟩
  have HC : Hid (C = byt (cu e)) := hC
  obtain ⟨M, hM⟩ : ∃ M, M = num (val 256 32 (cu e)) := ⟨_, rfl⟩
  have HM : Hid (M = num (val 256 32 (cu e))) := hM
  rw [← hA] at hsA ⊢
  rw [← hC] at k iY
  rw [← hM] at s1 l1 o1 k ⊢
  have HK : Hid (∀ W, Calls Try.prog 29 #[.agg C] W fun r w' => r = .returned (.agg M) ∧ Chg W w') := k
  obtain ⟨d31, hd31⟩ : ∃ d, d = e 31 := ⟨_, rfl⟩
  obtain ⟨f1, hf1⟩ : ∃ d, d = e 31 % 128 := ⟨_, rfl⟩
  have HF : Hid (d31 = e 31 ∧ f1 = e 31 % 128) := ⟨hd31, hf1⟩
  rw [← hf1, ← hd31] at b1
  clear hA hC hM k he hd31 hf1
  go_enter Try.func18, Try.ntmps18
  go_upto_region 1 with fail
  obtain ⟨w1, hw1⟩ : ∃ w1, w1 = (w.alloc (.cells A 22)).alloc (.cells (num 0) 34) := ⟨_, rfl⟩
  have Z1 : Hid (Chg w w1 ∧ Ar w1 w.heap.size (byt e) ∧ Ar w1 (w.heap.size + 1) (num 0)) := by
    rw [hw1, HA.out]
    exact ⟨((Chg.refl w).alloc _).alloc _, (Ar.new w _ _).alloc _, Ar.new1 w _ _ _⟩
  have c1 : w1.cell? ⟨w.heap.size, 31, none⟩ = some (.int .u8 d31) := by rw [HF.out.1]; exact (Z1.out.2.1.cell 31).trans (arr_get _ _ _ (by decide))
  have z1 := Z1.out.2.1.frozen 31
  rw [← hw1]
  clear hw1 hsA hz
  go_upto_region 2 with fail
  obtain ⟨w3, hw3⟩ : ∃ w3, w3 = w1.setCell ⟨w.heap.size, 31, none⟩ (.int .u8 f1) := ⟨_, rfl⟩
  have Z3 : Hid (Chg w w3 ∧ Ar w3 w.heap.size C ∧ Ar w3 (w.heap.size + 1) (num 0)) := by
    rw [hw3, HF.out.2, HC.out]
    refine ⟨Z1.out.1.setCell (Nat.le_refl _) _, ?_, Z1.out.2.2.other (by simp) _⟩
    have := Z1.out.2.1.set 31 (.int .u8 (e 31 % 128))
    rw [show byt e = arr .u8 32 e from rfl, arr_set] at this
    exact this
  rw [← hw3]
  clear hw3 c1 z1 Z1 b1
  have r1 := rangeA Z3.out.2.1
  go_wp2_with (first
    | refine wpList_load_mid rfl 22 (.tmp 1) rfl _ _ rfl (C.toList) _ r1 un37 rfl iY ?_)
  go_at_call 29
  refine (HK.out _).mono ?_
  rintro r w4 ⟨rfl, hc4⟩
  have Z4 : Hid (Chg w w4 ∧ Ar w4 (w.heap.size + 1) (num 0)) := ⟨Z3.out.1.trans hc4, Z3.out.2.2.chg hc4⟩
  obtain ⟨t, g⟩ := Z4.out.2
  clear hc4 r1 Z3
  go_wp2_with (first | refine wpList_store_row rfl 34 _ _ rfl _ _ rfl rfl _ _ g s1 l1 o1 ?_)
  rw [HM.out]
  refine bp_n (x := val 256 32 (cu e)) Try.results18 rfl rfl ?_ ⟨rfl, Z4.out.1.setRow (by omega) _⟩
  exact Z4.out.2.row _
end Go.Proofs.Ytiehjhlekpjlaaa

namespace Go.Proofs.Ytiehjhlekpjlaaa
open Go.RowKit
set_option linter.unusedVariables false

theorem rangeY {w : World} {b : Nat} {d : Nat → Int} (h : Ar w b (byt d)) : w.rangeAt b 0 (byt d).toList := by
  intro j v hv
  rw [Nat.zero_add, h.cell]
  simpa using hv
theorem thereY {w : World} {b : Nat} {d : Nat → Int} (h : Ar w b (byt d)) : w.there b 0 32 := fun j hj => by
  rw [Nat.zero_add, h.cell]
  refine ⟨?_, h.frozen j⟩
  rw [byt, arr_get _ _ _ hj]
  rfl
theorem setRowY {w : World} {b : Nat} {d : Nat → Int} (h : Ar w b (byt d)) (e : Nat → Int) : w.setCells b 0 (byt e).toList = w.setRow b (byt e) := by
  have h1 := run_storeVar_mid (P := Try.prog) w b 0 22 (byt e) (by rw [byt_size]; exact thereY h) (szY e) (oneY e)
  obtain ⟨t, h⟩ := h
  have h2 := run_storeVar_row (P := Try.prog) w b t 22 _ (byt e) h (szY e) (lenY d e) (oneY e)
  rw [h1] at h2
  injection h2
/-- How many times, and the x, of which bytes speak. -/
def kN (e : Nat → Int) : Nat := (val 256 32 (ck e)).toNat
def uN (e : Nat → Int) : Int := val 256 32 (cu e)
/-- What Mult answers. -/
def mB (e g : Nat → Int) : Nat → Int := dg 256 (mx (kN e) (uN g))
theorem mx_of {t b x : Int} {n : Nat} (f1 : fz t = (lad kC (fz x) n 255).lt) (f2 : fz b = (lad kC (fz x) n 255).lb) : md 1 (t * md 1 (b ^ ((mo 1 - 2) % R256).toNat)) = mx n x := md_fz (by rw [fz_mul, fz_md, fz_iv, f1, f2]; rfl)

set_option maxRecDepth 100000 in
set_option maxHeartbeats 8000000 in
theorem multX_any (e g : Nat → Int) (he : ∀ i, B8 (e i)) (hg : ∀ i, B8 (g i)) (w : World) : Calls Try.prog 9 #[.agg (byt e), .agg (byt g)] w fun r w' => r = .returned (.agg (byt (mB e g))) ∧ Chg w w' := by
  have HN : Hid ((∀ i, B8 (e i)) ∧ ∀ i, B8 (g i)) := ⟨he, hg⟩
  have hz := zero37.1
  have hsA := byt_size e
  have hsB := byt_size g
  obtain ⟨A, hA⟩ : ∃ A, A = byt e := ⟨_, rfl⟩
  obtain ⟨B, hB⟩ : ∃ B, B = byt g := ⟨_, rfl⟩
  obtain ⟨Z0, hZ0⟩ : ∃ A, A = byt zD := ⟨_, rfl⟩
  have HA : Hid (A = byt e ∧ B = byt g ∧ Z0 = byt zD) := ⟨hA, hB, hZ0⟩
  rw [← hA] at hsA ⊢
  rw [← hB] at hsB ⊢
  rw [← hZ0] at hz
  clear hA hB hZ0 he hg
  go_enter Try.func9, Try.ntmps9
  go_upto_region 1 with fail
  obtain ⟨w1, hw1⟩ : ∃ w1, w1 = ((w.alloc (.cells A 22)).alloc (.cells B 22)).alloc (.cells Z0 22) := ⟨_, rfl⟩
  have Z1 : Hid (Chg w w1 ∧ Ar w1 w.heap.size (byt e) ∧ Ar w1 (w.heap.size + 1) (byt g) ∧ Ar w1 (w.heap.size + 1 + 1) (byt zD)) := by
    rw [hw1, HA.out.1, HA.out.2.1, HA.out.2.2]
    exact ⟨(((Chg.refl w).alloc _).alloc _).alloc _, ((Ar.new w _ _).alloc _).alloc _, (Ar.new1 w _ _ _).alloc _, Ar.new2 w _ _ _ _⟩
  rw [← hw1]
  clear hw1 hsA hsB hz HA
  refine wp_region_good 7 (fun j v wg => match j with
    | 0 => v = .agg (byt e)
    | 1 => v = .agg (num (val 256 32 (ck e)))
    | 2 => v = .agg (byt g)
    | 3 => v = .agg (num (val 256 32 (cu g)))
    | 4 => ∃ t b, v = .agg (quo t b) ∧ N256 t ∧ N256 b ∧ fz t = (lad kC (fz (uN g)) (kN e) 255).lt ∧ fz b = (lad kC (fz (uN g)) (kN e) 255).lb
    | 5 => v = .agg (num (mx (kN e) (uN g)))
    | 6 => v = .agg (byt (mB e g))
    | _ => True) (by kernel_rfl) (by kernel_rfl) (by kernel_rfl) (by kernel_rfl) (by kernel_rfl) ?_ ?_ ?_
  · intro j v u1 u2 h hc
    match j, h with
    | 0, h => exact h
    | 1, h => exact h
    | 2, h => exact h
    | 3, h => exact h
    | 4, h => exact h
    | 5, h => exact h
    | 6, h => exact h
    | _ + 7, h => exact trivial
  · intro i o ac u hi ho hsz hf hg hc
    have hcs : i = 0 ∨ i = 1 ∨ i = 2 ∨ i = 3 ∨ i = 4 ∨ i = 5 ∨ i = 6 := by omega
    rcases hcs with rfl | rfl | rfl | rfl | rfl | rfl | rfl
    · injection ho with ho
      subst ho
      refine .inl ⟨wanted_none rfl, ?_⟩
      have e1 : ac.eval (.tmp 2) = .pointer (some ⟨w.heap.size, 0, none⟩) := hf 2 (by kernel_rfl)
      exact wp_load_mid 22 (.tmp 2) rfl _ _ e1 ((byt e).toList) _ (rangeY (Ar.chg (w := w1.drew) Z1.out.2.1.drew hc)) un37 rfl (infoY _) ⟨_, rfl, rfl, Chg.refl _⟩
    · injection ho with ho
      subst ho
      refine .inl ⟨wanted_none rfl, ?_⟩
      have e1 : ac.eval (.tmp 5) = .agg (byt e) := hg 0 (by kernel_rfl) (by decide)
      refine opG_go 17 Try.f17 #[.tmp 5] #[22] rfl Try.func17 (by kernel_rfl) (by kernel_rfl) (by simp [e1]) (Calls.mono (multiplier_any e HN.out.1 _) ?_)
      rintro r u2 ⟨rfl, hc2⟩
      exact ⟨_, rfl, rfl, hc2⟩
    · injection ho with ho
      subst ho
      refine .inl ⟨wanted_none rfl, ?_⟩
      have e1 : ac.eval (.tmp 3) = .pointer (some ⟨w.heap.size + 1, 0, none⟩) := hf 3 (by kernel_rfl)
      exact wp_load_mid 22 (.tmp 3) rfl _ _ e1 ((byt g).toList) _ (rangeY (Ar.chg (w := w1.drew) Z1.out.2.2.1.drew hc)) un37 rfl (infoY _) ⟨_, rfl, rfl, Chg.refl _⟩
    · injection ho with ho
      subst ho
      refine .inl ⟨wanted_none rfl, ?_⟩
      have e1 : ac.eval (.tmp 7) = .agg (byt g) := hg 2 (by kernel_rfl) (by decide)
      refine opG_go 18 Try.f18 #[.tmp 7] #[22] rfl Try.func18 (by kernel_rfl) (by kernel_rfl) (by simp [e1]) (Calls.mono (coordinate_any g HN.out.2 _) ?_)
      rintro r u2 ⟨rfl, hc2⟩
      exact ⟨_, rfl, rfl, hc2⟩
    · injection ho with ho
      subst ho
      refine .inl ⟨wanted_none rfl, ?_⟩
      have e1 : ac.eval (.tmp 6) = .agg (num (val 256 32 (ck e))) := hg 1 (by kernel_rfl) (by decide)
      have e2 : ac.eval (.tmp 8) = .agg (num (val 256 32 (cu g))) := hg 3 (by kernel_rfl) (by decide)
      refine opG_go 16 Try.f16 #[.tmp 6, .tmp 8] #[34, 34] rfl Try.func16 (by kernel_rfl) (by kernel_rfl) (by simp [e1, e2]) (Calls.mono (climb_any (val 256 32 (ck e)) (val 256 32 (cu g)) (N_val (ck_8 HN.out.1)) (N_val (cu_8 HN.out.2)) _) ?_)
      rintro r u2 ⟨t9, b9, rfl, hc2, n1, n2, f1, f2⟩
      exact ⟨_, rfl, ⟨t9, b9, rfl, n1, n2, f1, f2⟩, hc2⟩
    · injection ho with ho
      subst ho
      refine .inl ⟨wanted_none rfl, ?_⟩
      obtain ⟨t9, b9, e10, n1, n2, f1, f2⟩ := hg 4 (by kernel_rfl) (by decide)
      have e1 : ac.eval (.tmp 9) = .agg (quo t9 b9) := e10
      refine opG_go 19 Try.f19 #[.tmp 9] #[36] rfl Try.func19 (by kernel_rfl) (by kernel_rfl) (by simp [e1]) (Calls.mono (valueX_any t9 b9 n1 n2 _) ?_)
      rintro r u2 ⟨rfl, hc2⟩
      exact ⟨_, rfl, by show Value.agg _ = Value.agg _; rw [mx_of f1 f2], hc2⟩
    · injection ho with ho
      subst ho
      refine .inl ⟨wanted_none rfl, ?_⟩
      have e1 : ac.eval (.tmp 10) = .agg (num (mx (kN e) (uN g))) := hg 5 (by kernel_rfl) (by decide)
      refine opG_go 15 Try.f15 #[.tmp 10] #[34] rfl Try.func15 (by kernel_rfl) (by kernel_rfl) (by simp [e1]) (Calls.mono (toLE_any (mx (kN e) (uN g)) _) ?_)
      rintro r u2 ⟨rfl, hc2⟩
      exact ⟨_, rfl, rfl, hc2⟩
  · intro o u V ho hV hc
    injection ho with ho
    subst ho
    refine ⟨rfl, ?_⟩
    have q5 : V 0 = .agg (byt e) := hV 0 (by decide)
    have q6 : V 1 = .agg (num (val 256 32 (ck e))) := hV 1 (by decide)
    have q7 : V 2 = .agg (byt g) := hV 2 (by decide)
    have q8 : V 3 = .agg (num (val 256 32 (cu g))) := hV 3 (by decide)
    obtain ⟨t9, b9, q9, n1, n2, f1, f2⟩ := hV 4 (by decide)
    have q10 : V 5 = .agg (num (mx (kN e) (uN g))) := hV 5 (by decide)
    have q11 : V 6 = .agg (byt (mB e g)) := hV 6 (by decide)
    have hres := Ar.chg (w := w1.drew) Z1.out.2.2.2.drew hc
    refine wp_store_mid 22 (.tmp 4) (.tmp 11) rfl (w.heap.size + 1 + 1) 0 (byt (mB e g)) (by rfl) (Eq.trans (by rfl) q11) (by rw [byt_size]; exact thereY hres) (szY _) (oneY _) ?_
    rw [show u.setCells (w.heap.size + 1 + 1) 0 (byt (mB e g)).toList = u.setRow (w.heap.size + 1 + 1) (byt (mB e g)) from setRowY hres _]
    go_wp2_with fail
    exact bp_c (n := 32) (c := byt (mB e g)) Try.results9 rfl (by rfl) (hres.row _) un37 zero37.2 (byt_size _) ⟨rfl, ((Z1.out.1.drew).trans hc).setRow (by omega) _⟩

theorem mB_8 (e g : Nat → Int) : ∀ i, B8 (mB e g i) := fun i => dg_bound (by decide) _ i

/-- The bytes 9, 0, .. -/
def by9 : Nat → Int := upd zD 0 9
theorem built9 : Try.prog.built 22 [(0, .int .u8 9)] = some (byt by9) := by kernel_rfl
theorem by9_8 : ∀ i, B8 (by9 i) := by
  intro i
  unfold by9 upd B8 zD
  split <;> omega
theorem uN9 : uN by9 = 9 := by decide +kernel
theorem val_zD : uN zD = 0 := by decide +kernel
def by1 : Nat → Int := upd zD 0 1
theorem built1 : Try.prog.built 22 [(0, .int .u8 1)] = some (byt by1) := by kernel_rfl
theorem by1_8 : ∀ i, B8 (by1 i) := by
  intro i
  unfold by1 upd B8 zD
  split <;> omega
theorem uN1 : uN by1 = 1 := by decide +kernel
theorem zD_8 : ∀ i, B8 (zD i) := by
  intro i
  unfold B8 zD
  omega
theorem wpList_bytes {ops : Array Oper} {rest : List Oper} {o : Oper} {a : Act} {w : World} {Q : Exit → Act → World → Prop} (hg : o.guard = none) (x : Int) (d : Nat → Int) (hd : Try.prog.built 22 [(0, .int .u8 x)] = some (byt d)) (ho : o.op = .build 22 #[(0, .const (.int .u8 x))]) (h : wpList Try.prog ops Q rest (a.put o.dst (.agg (byt d))) w) : wpList Try.prog ops Q (o :: rest) a w := by
  have e : Try.prog.built 22 (#[(0, Operand.const (.int .u8 x))].map fun (p : Nat × Operand) => (p.1, a.eval p.2)).toList = some (byt d) := by
    rw [show (#[(0, Operand.const (.int .u8 x))].map fun (p : Nat × Operand) => (p.1, a.eval p.2)).toList = [(0, .int .u8 x)] by simp [Act.eval]]
    exact hd
  refine wpList_build hg 22 _ ho ?_ ?_
  · show (Try.prog.built 22 (#[(0, Operand.const (.int .u8 x))].map fun (p : Nat × Operand) => (p.1, a.eval p.2)).toList).isSome = true
    rw [e]; rfl
  · show wpList Try.prog ops Q rest (a.put o.dst (.agg ((Try.prog.built 22 (#[(0, Operand.const (.int .u8 x))].map fun (p : Nat × Operand) => (p.1, a.eval p.2)).toList).getD #[]))) w
    rw [e]; exact h
theorem run_neB (f g : Nat → Int) (w : World) : (Op.equalIn 10000 22 (.agg (byt f)) (.agg (byt g))).run Try.prog w = .ok ((List.range 32).all fun i => f i == g i) w := run_eqB (t := 22) (n := 32) (by kernel_rfl) (by decide) f g 9998 w
/-- Is it anything? -/
def isB (d : Nat → Int) : Bool := !((List.range 32).all fun i => d i == zD i)

set_option maxRecDepth 100000 in
set_option maxHeartbeats 8000000 in
theorem publicX_any (e : Nat → Int) (he : ∀ i, B8 (e i)) (w : World) : Calls Try.prog 13 #[.agg (byt e)] w fun r w' => r = .returned (.agg (byt (mB e by9))) ∧ Chg w w' := by
  have HN : Hid (∀ i, B8 (e i)) := he
  have hz := zero37.1
  have hsA := byt_size e
  have iA := infoY e
  have s1 := szY (mB e by9)
  have l1 := lenY zD (mB e by9)
  have o1 := oneY (mB e by9)
  have k := fun W => multX_any e by9 he by9_8 W
  obtain ⟨A, hA⟩ : ∃ A, A = byt e := ⟨_, rfl⟩
  obtain ⟨Z0, hZ0⟩ : ∃ A, A = byt zD := ⟨_, rfl⟩
  obtain ⟨M, hM⟩ : ∃ A, A = byt (mB e by9) := ⟨_, rfl⟩
  have HA : Hid (A = byt e ∧ Z0 = byt zD ∧ M = byt (mB e by9)) := ⟨hA, hZ0, hM⟩
  rw [← hA] at hsA iA k ⊢
  rw [← hZ0] at hz l1
  rw [← hM] at s1 l1 o1 k ⊢
  have HK : Hid (∀ W, Calls Try.prog 9 #[.agg A, .agg (byt by9)] W fun r w' => r = .returned (.agg M) ∧ Chg W w') := k
  clear hA hZ0 hM he k
  go_enter Try.func13, Try.ntmps13
  go_upto_region 1 with fail
  obtain ⟨w1, hw1⟩ : ∃ w1, w1 = (w.alloc (.cells A 22)).alloc (.cells Z0 22) := ⟨_, rfl⟩
  have Z1 : Hid (Chg w w1 ∧ Ar w1 w.heap.size A ∧ Ar w1 (w.heap.size + 1) Z0) := by
    rw [hw1]
    exact ⟨((Chg.refl w).alloc _).alloc _, (Ar.new w _ _).alloc _, Ar.new1 w _ _ _⟩
  rw [← hw1]
  clear hw1 hsA hz
  have r1 := rangeA Z1.out.2.1
  go_wp2_with (first
    | refine wpList_load_mid rfl 22 (.tmp 1) rfl _ _ rfl (A.toList) _ r1 un37 rfl iA ?_
    | refine wpList_bytes rfl 9 by9 built9 rfl ?_)
  go_at_call 9
  refine (HK.out _).mono ?_
  rintro r w2 ⟨rfl, hc2⟩
  have Z2 : Hid (Chg w w2 ∧ Ar w2 (w.heap.size + 1) Z0) := ⟨Z1.out.1.trans hc2, Z1.out.2.2.chg hc2⟩
  obtain ⟨t, g⟩ := Z2.out.2
  clear hc2 r1 Z1
  go_wp2_with (first | refine wpList_store_row rfl 22 _ _ rfl _ _ rfl rfl _ _ g s1 l1 o1 ?_)
  exact bp_c (n := 32) (c := M) Try.results13 rfl rfl (Z2.out.2.row _) un37 zero37.2 (by rw [HA.out.2.2]; exact byt_size _) ⟨rfl, Z2.out.1.setRow (by omega) _⟩

set_option maxRecDepth 100000 in
set_option maxHeartbeats 8000000 in
theorem sharedX_any (e g : Nat → Int) (he : ∀ i, B8 (e i)) (hg : ∀ i, B8 (g i)) (w : World) : Calls Try.prog 11 #[.agg (byt e), .agg (byt g)] w fun r w' => r = .returned (.tuple #[.agg (byt (mB e g)), .bool (isB (mB e g))]) ∧ Chg w w' := by
  obtain ⟨d, hd⟩ : ∃ d, d = mB e g := ⟨_, rfl⟩
  have k := fun W => multX_any e g he hg W
  rw [← hd] at k ⊢
  clear hd
  have hz := zero37.1
  have hsA := byt_size e
  have hsB := byt_size g
  have iA := infoY e
  have iB := infoY g
  have s1 := szY d
  have l1 := lenY zD d
  have o1 := oneY d
  obtain ⟨A, hA⟩ : ∃ A, A = byt e := ⟨_, rfl⟩
  obtain ⟨B, hB⟩ : ∃ A, A = byt g := ⟨_, rfl⟩
  obtain ⟨Z0, hZ0⟩ : ∃ A, A = byt zD := ⟨_, rfl⟩
  obtain ⟨M, hM⟩ : ∃ A, A = byt d := ⟨_, rfl⟩
  have HA : Hid (A = byt e ∧ B = byt g ∧ Z0 = byt zD ∧ M = byt d) := ⟨hA, hB, hZ0, hM⟩
  rw [← hA] at hsA iA k ⊢
  rw [← hB] at hsB iB k ⊢
  rw [← hZ0] at hz l1
  rw [← hM] at s1 l1 o1 k ⊢
  have HK : Hid (∀ W, Calls Try.prog 9 #[.agg A, .agg B] W fun r w' => r = .returned (.agg M) ∧ Chg W w') := k
  clear hA hB hZ0 hM he hg k
  go_enter Try.func11, Try.ntmps11
  go_upto_region 1 with fail
  obtain ⟨w1, hw1⟩ : ∃ w1, w1 = ((w.alloc (.cells A 22)).alloc (.cells B 22)).alloc (.cells Z0 22) := ⟨_, rfl⟩
  have Z1 : Hid (Chg w w1 ∧ Ar w1 w.heap.size A ∧ Ar w1 (w.heap.size + 1) B ∧ Ar w1 (w.heap.size + 1 + 1) Z0) := by
    rw [hw1]
    exact ⟨(((Chg.refl w).alloc _).alloc _).alloc _, ((Ar.new w _ _).alloc _).alloc _, (Ar.new1 w _ _ _).alloc _, Ar.new2 w _ _ _ _⟩
  rw [← hw1]
  clear hw1 hsA hsB
  have r1 := rangeA Z1.out.2.1
  have r2 := rangeA Z1.out.2.2.1
  go_wp2_with (first
    | refine wpList_load_mid rfl 22 (.tmp 2) rfl _ _ rfl (A.toList) _ r1 un37 rfl iA ?_
    | refine wpList_load_mid rfl 22 (.tmp 3) rfl _ _ rfl (B.toList) _ r2 un37 rfl iB ?_)
  go_at_call 9
  refine (HK.out _).mono ?_
  rintro r w2 ⟨rfl, hc2⟩
  have Z2 : Hid (Chg w w2 ∧ Ar w2 (w.heap.size + 1 + 1) Z0) := ⟨Z1.out.1.trans hc2, Z1.out.2.2.2.chg hc2⟩
  have g2 := heap_alloc_last w2 (.cells Z0 22)
  clear hc2 r1 r2 Z1 HK
  go_upto_region 2 with (first | refine wpList_store_row rfl 22 _ _ rfl _ _ rfl rfl _ _ g2 s1 l1 o1 ?_)
  obtain ⟨w3, hw3⟩ : ∃ w3, w3 = (w2.alloc (.cells Z0 22)).setRow w2.heap.size M := ⟨_, rfl⟩
  obtain ⟨b6, hb6⟩ : ∃ b6, b6 = w2.heap.size := ⟨_, rfl⟩
  have Z3 : Hid (Chg w w3 ∧ Ar w3 (w.heap.size + 1 + 1) (byt zD) ∧ Ar w3 b6 (byt d) ∧ w.heap.size + 1 + 1 < b6) := by
    have hc : Chg w2 w3 := by rw [hw3]; exact ((Chg.refl w2).alloc _).setRow (Nat.le_refl _) _
    refine ⟨Z2.out.1.trans hc, by rw [← HA.out.2.2.1]; exact Z2.out.2.chg hc, ?_, by rw [hb6]; exact Z2.out.2.lt⟩
    rw [hw3, hb6, ← HA.out.2.2.2]
    exact (Ar.new w2 _ _).row _
  rw [← hw3]
  rw [← hb6]
  clear hw3 hb6 g2 Z2 hz s1 l1 o1
  dsimp only [Act.put]
  refine wp_region_store 4 (fun j v fl wg => match j with
    | 0 => v = .agg (byt d)
    | 1 => v = .agg (byt d)
    | 2 => v = .agg (byt zD)
    | 3 => v = .bool (isB d)
    | 5 => v = .bool (isB d)
    | _ => True) (fun fl u => Chg w u ∧ Ar u b6 (byt d) ∧ (fl = true → Ar u (w.heap.size + 1 + 1) (byt d)) ∧ (fl = false → Ar u (w.heap.size + 1 + 1) (byt zD))) (by kernel_rfl) (by decide) (by kernel_rfl) (by kernel_rfl) (by kernel_rfl) ?_ ?_ ?_ ?_ ?_ ?_
  · intro j v fl u1 u2 h hc
    match j, h with
    | 0, h => exact h
    | 1, h => exact h
    | 2, h => exact h
    | 3, h => exact h
    | 4, h => exact trivial
    | 5, h => exact h
    | _ + 6, h => exact trivial
  · intro fl u u' h k
    exact ⟨h.1.trans k, h.2.1.chg k, fun e => (h.2.2.1 e).chg k, fun e => (h.2.2.2 e).chg k⟩
  · intro i o' ac u fl hi his ho hfl hf hg hc
    have hi' : i < 6 := hi
    have hcs : i = 0 ∨ i = 1 ∨ i = 2 ∨ i = 3 ∨ i = 5 := by omega
    rcases hcs with rfl | rfl | rfl | rfl | rfl
    · injection ho with ho
      subst ho
      have e1 : ac.eval (.tmp 6) = .pointer (some ⟨b6, 0, none⟩) := hf 6 (by kernel_rfl)
      exact wp_load_mid 22 (.tmp 6) rfl _ _ e1 ((byt d).toList) _ (rangeY hc.2.1) un37 rfl (infoY _) ⟨_, rfl, rfl, Chg.refl _⟩
    · injection ho with ho
      subst ho
      have e1 : ac.eval (.tmp 6) = .pointer (some ⟨b6, 0, none⟩) := hf 6 (by kernel_rfl)
      exact wp_load_mid 22 (.tmp 6) rfl _ _ e1 ((byt d).toList) _ (rangeY hc.2.1) un37 rfl (infoY _) ⟨_, rfl, rfl, Chg.refl _⟩
    · injection ho with ho
      subst ho
      exact opG_val (by generalize ac.eval = ρ; simp [go_sem, execOp, zero37.1]) rfl (Chg.refl _)
    · injection ho with ho
      subst ho
      have e1 : ac.eval (.tmp 11) = .agg (byt d) := hg 1 (by kernel_rfl) (by decide) (by decide)
      have e2 : ac.eval (.tmp 12) = .agg (byt zD) := hg 2 (by kernel_rfl) (by decide) (by decide)
      exact opG_val (by revert e1 e2; generalize ac.eval = ρ; intro e1 e2; simp [go_sem, execOp, e1, e2, run_neB, isB]) rfl (Chg.refl _)
    · injection ho with ho
      subst ho
      have e1 : ac.eval (.tmp 13) = .bool (isB d) := hg 3 (by kernel_rfl) (by decide) (by decide)
      exact opG_val (by simp [execOp, e1]) rfl (Chg.refl _)
  · intro o' ac u ho hf hg hc
    injection ho with ho
    subst ho
    have e1 : ac.eval (.tmp 4) = .pointer (some ⟨w.heap.size + 1 + 1, 0, none⟩) := hf 4 (by kernel_rfl)
    have e2 : ac.eval (.tmp 10) = .agg (byt d) := hg 0 (by kernel_rfl) (by decide) (by decide)
    have A4 := hc.2.2.2 rfl
    have hlt := Z3.out.2.2.2
    refine wp_store_mid 22 (.tmp 4) (.tmp 10) rfl _ 0 (byt d) e1 e2 (by rw [byt_size]; exact thereY A4) (szY _) (oneY _) ⟨rfl, ?_, ?_⟩
    · rw [setRowY A4]
      exact ⟨hc.1.setRow (by omega) _, hc.2.1.rowOther (by omega) _, (fun _ => A4.row _), (fun e => nomatch e)⟩
    · intro j hj hjs h
      have hj' : j < 6 := hj
      have hcs : j = 0 ∨ j = 1 ∨ j = 2 ∨ j = 3 ∨ j = 5 := by omega
      rcases hcs with rfl | rfl | rfl | rfl | rfl
      · exact h
      · exact h
      · exact h
      · exact h
      · exact h
  · exact ⟨Z3.out.1.drew, Z3.out.2.2.1.drew, (fun e => nomatch e), (fun _ => Z3.out.2.1.drew)⟩
  · intro u V hV hB
    have q5 : V 5 = .bool (isB d) := hV 5 (by decide) (by decide)
    have A4 := hB.2.2.1 rfl
    have hcu := hB.1
    clear hV hB
    go_wp2_with fail
    exact bp_ct (n := 32) (c := byt d) Try.results11 rfl (by rfl) (Eq.trans (by rfl) q5) A4 un37 zero37.2 (byt_size _) ⟨by rw [HA.out.2.2.2], hcu⟩

end Go.Proofs.Ytiehjhlekpjlaaa

namespace Go.Proofs.Ytiehjhlekpjlaaa
set_option linter.unusedVariables false
set_option maxRecDepth 100000

theorem top_byte {d : Nat → Int} (hd : ∀ i, B8 (d i)) (h : d 31 < 128) : 0 ≤ val 256 32 d ∧ val 256 32 d < 2 ^ 255 := by
  have h1 := val_b hd 31
  have h2 := (hd 31).1
  have e : val 256 32 d = val 256 31 d + d 31 * 256 ^ 31 := rfl
  have h3 : d 31 * 256 ^ 31 ≤ 127 * 256 ^ 31 := Int.mul_le_mul_of_nonneg_right (by omega) (by decide)
  have h4 : 0 ≤ d 31 * 256 ^ 31 := Int.mul_nonneg h2 (by decide)
  have e2 : (256 : Int) ^ 31 + 127 * 256 ^ 31 = 2 ^ 255 := by decide +kernel
  rw [e]
  generalize (256 : Int) ^ 31 = P at *
  generalize (2 : Int) ^ 255 = Q at *
  omega
theorem low_byte (d : Nat → Int) : ∃ q, val 256 32 d = d 0 + 8 * q := by
  have h := val_split (B := 256) 1 31 d
  rw [show val 256 1 d = d 0 by simp [val]] at h
  refine ⟨32 * val 256 31 (fun i => d (1 + i)), ?_⟩
  rw [show (32 : Nat) = 1 + 31 from rfl, h]
  omega
theorem ck_31 {e : Nat → Int} : ck e 31 = e 31 % 64 + 64 := upd_same _ _ _
theorem ck_0 {e : Nat → Int} : ck e 0 = e 0 - e 0 % 8 := by unfold ck; rw [upd_ne _ _ (by decide), upd_same]
theorem kN_lt {e : Nat → Int} (he : ∀ i, B8 (e i)) : kN e < 2 ^ 255 := by
  have h := top_byte (ck_8 he) (by rw [ck_31]; omega)
  unfold kN
  have h1 := h.2
  have h2 := h.1
  have e : ((2 : Int) ^ 255) = ((2 ^ 255 : Nat) : Int) := by decide +kernel
  rw [e] at h1
  generalize (2 ^ 255 : Nat) = Q at *
  omega
theorem kN_8 {e : Nat → Int} (he : ∀ i, B8 (e i)) : kN e % 8 = 0 := by
  have h := top_byte (ck_8 he) (by rw [ck_31]; omega)
  obtain ⟨q, hq⟩ := low_byte (ck e)
  rw [ck_0] at hq
  have h2 := h.1
  unfold kN
  omega
theorem kN_2 {e : Nat → Int} (he : ∀ i, B8 (e i)) : kN e % 2 = 0 := by have := kN_8 he; omega
theorem kN_4 {e : Nat → Int} (he : ∀ i, B8 (e i)) : kN e % 4 = 0 := by have := kN_8 he; omega
/-- The x of what Mult answers. -/
theorem uN_mB (e g : Nat → Int) : uN (mB e g) = mx (kN e) (uN g) := by
  have h := mx_lt (kN e) (uN g)
  have hm : mo 1 ≤ (2 : Int) ^ 255 := by decide +kernel
  unfold mB
  generalize mx (kN e) (uN g) = V at h ⊢
  unfold uN
  have hV : 0 ≤ V ∧ V < 2 ^ 255 := ⟨h.1, Int.lt_of_lt_of_le h.2 hm⟩
  have h31 : dg 256 V 31 < 128 := by
    unfold dg
    have e1 : V / 256 ^ 31 < 128 := by
      refine Int.ediv_lt_of_lt_mul (by decide) ?_
      have : (128 : Int) * 256 ^ 31 = 2 ^ 255 := by decide +kernel
      rw [this]
      exact hV.2
    have e0 : 0 ≤ V / 256 ^ 31 := Int.ediv_nonneg hV.1 (by decide)
    generalize V / 256 ^ 31 = q at *
    omega
  have hc : cu (dg 256 V) = dg 256 V := by
    unfold cu
    have hb := dg_bound (B := 256) (by decide) V 31
    rw [Int.emod_eq_of_lt hb.1 h31]
    exact upd_self _ _
  rw [hc, low32b]
  refine Int.emod_eq_of_lt hV.1 (Int.lt_of_lt_of_le hV.2 (by decide +kernel))
theorem mB_turn {k l : Nat → Int} (u : Nat → Int) (hk : ∀ i, B8 (k i)) (hl : ∀ i, B8 (l i)) : mB k (mB l u) = mB l (mB k u) := by
  unfold mB
  rw [show uN (dg 256 (mx (kN l) (uN u))) = mx (kN l) (uN u) from uN_mB l u, show uN (dg 256 (mx (kN k) (uN u))) = mx (kN k) (uN u) from uN_mB k u, mx_turn (kN_lt hl) (kN_lt hk) (kN_2 hl) (kN_2 hk)]
/-- Of nothing, and of the x 1, comes nothing. -/
theorem dg_0 : dg 256 0 = zD := by
  funext i
  unfold dg zD
  simp
theorem mB_zero (k : Nat → Int) : mB k zD = zD := by
  unfold mB
  rw [val_zD, mx_zero, dg_0]
theorem mB_one {k : Nat → Int} (hk : ∀ i, B8 (k i)) : mB k by1 = zD := by
  unfold mB
  rw [uN1, mx_one (kN_lt hk) (kN_4 hk), dg_0]
theorem isB_zD : isB zD = false := by decide +kernel

/-! Bits that are not named. -/
theorem x_lo {b l : Int} (hb : B8 b) (hl : B8 l) : B8 (bits .xor .u8 b (bits .and .u8 l 7)) ∧ bits .xor .u8 b (bits .and .u8 l 7) - bits .xor .u8 b (bits .and .u8 l 7) % 8 = b - b % 8 := by
  obtain ⟨n, rfl⟩ := Int.eq_ofNat_of_zero_le hb.1
  obtain ⟨m, rfl⟩ := Int.eq_ofNat_of_zero_le hl.1
  have hn := hb.2
  have hm := hl.2
  have k1 := (by decide +kernel : ∀ m : Nat, m < 256 → bits .and .u8 (m : Int) 7 = ((m % 8 : Nat) : Int))
  have k2 := (by decide +kernel : ∀ n : Nat, n < 256 → ∀ m : Nat, m < 8 → (0 ≤ bits .xor .u8 (n : Int) (m : Int) ∧ bits .xor .u8 (n : Int) (m : Int) < 256) ∧ bits .xor .u8 (n : Int) (m : Int) - bits .xor .u8 (n : Int) (m : Int) % 8 = (n : Int) - (n : Int) % 8)
  rw [k1 m (by omega)]
  exact k2 n (by omega) (m % 8) (by omega)
theorem x_hi {b l : Int} (hb : B8 b) (hl : B8 l) : B8 (bits .xor .u8 b (bits .and .u8 l 192)) ∧ bits .xor .u8 b (bits .and .u8 l 192) % 64 = b % 64 := by
  obtain ⟨n, rfl⟩ := Int.eq_ofNat_of_zero_le hb.1
  obtain ⟨m, rfl⟩ := Int.eq_ofNat_of_zero_le hl.1
  have hn := hb.2
  have hm := hl.2
  have k1 := (by decide +kernel : ∀ m : Nat, m < 256 → bits .and .u8 (m : Int) 192 = ((64 * (m / 64) : Nat) : Int))
  have k2 := (by decide +kernel : ∀ n : Nat, n < 256 → ∀ m : Nat, m < 4 → (0 ≤ bits .xor .u8 (n : Int) ((64 * m : Nat) : Int) ∧ bits .xor .u8 (n : Int) ((64 * m : Nat) : Int) < 256) ∧ bits .xor .u8 (n : Int) ((64 * m : Nat) : Int) % 64 = (n : Int) % 64)
  rw [k1 m (by omega)]
  exact k2 n (by omega) (m / 64) (by omega)
theorem x_top {b l : Int} (hb : B8 b) (hl : B8 l) : B8 (bits .xor .u8 b (bits .and .u8 l 128)) ∧ bits .xor .u8 b (bits .and .u8 l 128) % 128 = b % 128 := by
  obtain ⟨n, rfl⟩ := Int.eq_ofNat_of_zero_le hb.1
  obtain ⟨m, rfl⟩ := Int.eq_ofNat_of_zero_le hl.1
  have hn := hb.2
  have hm := hl.2
  have k1 := (by decide +kernel : ∀ m : Nat, m < 256 → bits .and .u8 (m : Int) 128 = ((128 * (m / 128) : Nat) : Int))
  have k2 := (by decide +kernel : ∀ n : Nat, n < 256 → ∀ m : Nat, m < 2 → (0 ≤ bits .xor .u8 (n : Int) ((128 * m : Nat) : Int) ∧ bits .xor .u8 (n : Int) ((128 * m : Nat) : Int) < 256) ∧ bits .xor .u8 (n : Int) ((128 * m : Nat) : Int) % 128 = (n : Int) % 128)
  rw [k1 m (by omega)]
  exact k2 n (by omega) (m / 128) (by omega)
def jB (k : Nat → Int) (l h : Int) : Nat → Int := upd (upd k 0 (bits .xor .u8 (k 0) (bits .and .u8 l 7))) 31 (bits .xor .u8 (k 31) (bits .and .u8 h 192))
def vB (u : Nat → Int) (h : Int) : Nat → Int := upd u 31 (bits .xor .u8 (u 31) (bits .and .u8 h 128))
theorem jB_8 {k : Nat → Int} {l h : Int} (hk : ∀ i, B8 (k i)) (hl : B8 l) (hh : B8 h) : ∀ i, B8 (jB k l h i) := by
  intro i
  unfold jB upd
  split
  · exact (x_hi (hk 31) hh).1
  · split
    · exact (x_lo (hk 0) hl).1
    · exact hk i
theorem vB_8 {u : Nat → Int} {h : Int} (hu : ∀ i, B8 (u i)) (hh : B8 h) : ∀ i, B8 (vB u h i) := by
  intro i
  unfold vB upd
  split
  · exact (x_top (hu 31) hh).1
  · exact hu i
theorem mB_bits {k u : Nat → Int} {l h : Int} (hk : ∀ i, B8 (k i)) (hu : ∀ i, B8 (u i)) (hl : B8 l) (hh : B8 h) : mB (jB k l h) (vB u h) = mB k u := by
  have e1 : ck (jB k l h) = ck k := by
    funext i
    unfold ck
    rw [show jB k l h 31 = bits .xor .u8 (k 31) (bits .and .u8 h 192) from upd_same _ _ _, (x_hi (hk 31) hh).2, show jB k l h 0 = bits .xor .u8 (k 0) (bits .and .u8 l 7) by unfold jB; rw [upd_ne _ _ (by decide), upd_same], (x_lo (hk 0) hl).2]
    unfold jB upd
    by_cases h1 : i = 31
    · simp [h1]
    · by_cases h0 : i = 0
      · simp [h0]
      · simp [h1, h0]
  have e2 : cu (vB u h) = cu u := by
    funext i
    unfold cu
    rw [show vB u h 31 = bits .xor .u8 (u 31) (bits .and .u8 h 128) from upd_same _ _ _, (x_top (hu 31) hh).2]
    unfold vB upd
    by_cases h1 : i = 31
    · simp [h1]
    · simp [h1]
  unfold mB kN uN
  rw [e1, e2]
end Go.Proofs.Ytiehjhlekpjlaaa
