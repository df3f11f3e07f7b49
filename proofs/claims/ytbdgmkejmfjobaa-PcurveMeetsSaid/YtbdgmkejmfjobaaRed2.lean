/-
  What a number of eight digits leaves modulo the prime of P-256.
-/
import Derived.Test.YtbdgmkejmfjobaaJe
import Derived.Test.YtbdgmkejmfjobaaJo
namespace Go.Proofs.Ytbdgmkejmfjobaa
set_option maxRecDepth 100000
open Go.RowKit
set_option linter.unusedVariables false
theorem zero83 : (∀ w, (zeroValue 102).run Try.prog w = .ok (.agg (arr .i64 16 fun _ => 0)) w) ∧ (Try.prog.info? 102).map (·.size) = some 16 := zero_of_info (by kernel_rfl)
def cs (x : Int) : Nat → Nat → Int
 | 0 => colr x 16
 | i + 1 => fold (cs x i) (15 - i)
theorem cs_next (x : Int) (i : Nat) : cs x (i + 1) = fold (cs x i) (15 - i) := rfl
theorem cs_bound (x : Int) (i : Nat) : Cb (4294967296 * 2 ^ i) (cs x i) ∨ 8 < i := by
 induction i with
 | zero =>
  left
  have e : (4294967296 * 2 ^ 0 : Int) = 4294967296 := by decide
  rw [e]
  exact colr_bound x
 | succ i ih =>
  by_cases h : 8 < i + 1
  ·exact .inr h
  ·left
   rcases ih with ih | ih
   ·have e : 15 - i = (7 - i) + 8 := by omega
    have := fold_bound ih (7 - i)
    rw [← e] at this
    have e2 : (4294967296 * 2 ^ (i + 1) : Int) = 2 * (4294967296 * 2 ^ i) := by rw [Int.pow_succ]; omega
    rw [e2]
    exact this
   ·omega
theorem cs_cb (x : Int) (i : Nat) (hi : i ≤ 8) : Cb 1099511627776 (cs x i) := by
 rcases cs_bound x i with h | h
 ·intro j
  have hj := h j
  have hp : (2 : Int) ^ i ≤ 256 := by
   have : ∀ i, i ≤ 8 → (2 : Int) ^ i ≤ 256 := by decide
   exact this i hi
  have : (4294967296 * 2 ^ i : Int) ≤ 1099511627776 := by omega
  omega
 ·omega
theorem cs_val (x : Int) (hx : N512 x) (i : Nat) (hi : i ≤ 8) : val B32 16 (cs x i) % mo 2 = x % mo 2 := by
 induction i with
 | zero => show val B32 16 (colr x 16) % mo 2 = _; rw [colr_val x hx]
 | succ i ih =>
  have e : 15 - i = (7 - i) + 8 := by omega
  show val B32 16 (fold (cs x i) (15 - i)) % mo 2 = _
  rw [e, fold_val _ _ _ (by omega), ← ih (by omega)]
  generalize cs x i (7 - i + 8) * B32 ^ (7 - i) = y
  rw [Int.sub_emod, Int.mul_emod_left, Int.sub_zero, Int.emod_emod]
theorem cs_high (x : Int) (i : Nat) (hi : i ≤ 8) : ∀ j, 16 - i ≤ j → cs x i j = 0 := by
 induction i with
 | zero =>
  intro j hj
  show colr x 16 j = 0
  unfold colr
  rw [if_neg (by omega)]
 | succ i ih =>
  intro j hj
  have e : 15 - i = (7 - i) + 8 := by omega
  show fold (cs x i) (15 - i) j = 0
  rw [e]
  by_cases h : j = (7 - i) + 8
  ·rw [h, fold_zero]
  ·rw [fold_high _ _ _ (by omega), ih (by omega) j (by omega)]
theorem val16_9 (s : Nat → Int) (h : ∀ j, 8 < j → s j = 0) : val B32 16 s = val B32 9 s := val_zeros 9 7 s (fun j hj => h j (by omega))
def nput (w : World) (b : Nat) (v : Int) : World := (((w.setCell ⟨b, 0, none⟩ (.int .u64 (dg B64 v 0))).setCell ⟨b, 1, none⟩ (.int .u64 (dg B64 v 1))).setCell ⟨b, 2, none⟩ (.int .u64 (dg B64 v 2))).setCell ⟨b, 3, none⟩ (.int .u64 (dg B64 v 3))
theorem Ar.nput {w : World} {b : Nat} {x : Int} (h : Ar w b (num x)) (v : Int) : Ar (Ytbdgmkejmfjobaa.nput w b v) b (num v) := (((h.set 0 _).set 1 _).set 2 _).set 3 _
theorem Ar.nput_other {w : World} {b b' : Nat} {c : Array Value} (h : Ar w b c) (hb : b ≠ b') (v : Int) : Ar (Ytbdgmkejmfjobaa.nput w b' v) b c := (((h.other (p := ⟨b', 0, none⟩) hb _).other (p := ⟨b', 1, none⟩) hb _).other (p := ⟨b', 2, none⟩) hb _).other (p := ⟨b', 3, none⟩) hb _
theorem Chg.nput {a w : World} {b : Nat} (h : Chg a w) (hb : a.heap.size ≤ b) (v : Int) : Chg a (Ytbdgmkejmfjobaa.nput w b v) := (((h.setCell (p := ⟨b, 0, none⟩) hb _).setCell (p := ⟨b, 1, none⟩) hb _).setCell (p := ⟨b, 2, none⟩) hb _).setCell (p := ⟨b, 3, none⟩) hb _
theorem red2_lt {L x : Int} (h1 : L % mo 2 = x % mo 2) (h2 : N256 L) (h3 : L < mo 2) : L = x % mo 2 := by
 have h2 := h2.1
 rw [mo2] at *
 omega
theorem red2_ge {L x v : Int} (h1 : L % mo 2 = x % mo 2) (h2 : N256 L) (h3 : mo 2 ≤ L) (h4 : v = (L - mo 2) % R256) : v = x % mo 2 := by
 obtain ⟨h5, h6⟩ := h2
 rw [mo2] at *
 unfold R256 at *
 omega
structure SeS (w wr : World) (x : Int) (s : Nat → Int) (m : Nat) : Prop where
 chg : Chg w wr
 out : Ar wr (w.heap.size + 1) (num 0)
 c : Ar wr (w.heap.size + 1 + 1) (arr .i64 16 s)
 low : ∀ j, j < 8 → 0 ≤ s j ∧ s j < 4294967296
 high : ∀ j, 8 < j → s j = 0
 far : Far m s
 val : val B32 9 s % mo 2 = x % mo 2
theorem SeS.cb {w wr : World} {x : Int} {s : Nat → Int} {m : Nat} (h : SeS w wr x s m) : Cb 1099511627776 s := fun j => by
 by_cases h1 : j < 8
 ·have := h.low j h1
  omega
 ·by_cases h2 : j = 8
  ·subst h2
   have hf := h.far
   unfold Far at hf
   omega
  ·have := h.high j (by omega)
   omega
set_option maxHeartbeats 8000000 in
theorem red2_any (x : Int) (hx : N512 x) (w : World) :
  Calls Try.prog 91 #[.agg (wid x)] w fun r w' => r = .returned (.agg (num (x % mo 2))) ∧ Chg w w' := by
 have HX : Hid (N512 x) := hx
 have hz := zero25.1
 have hz2 := zero83.1
 have hsA := wid_size x
 obtain ⟨A, hA⟩ : ∃ A, A = wid x := ⟨_, rfl⟩
 have HA : Hid (A = wid x) := hA
 rw [← hA] at hsA ⊢
 clear hA hx
 go_enter Try.func91, Try.ntmps91
 go_upto_region 2 with fail
 obtain ⟨w1, hw1⟩ : ∃ w1, w1 = ((w.alloc (.cells A 86)).alloc (.cells (num 0) 24)).alloc (.cells (arr .i64 16 fun _ => 0) 102) := ⟨_, rfl⟩
 have Z1 : Hid (Chg w w1 ∧ Ar w1 w.heap.size (wid x) ∧ Ar w1 (w.heap.size + 1) (num 0) ∧ Ar w1 (w.heap.size + 1 + 1) (arr .i64 16 (colr x 0))) := by
  rw [hw1, HA.out]
  exact ⟨(((Chg.refl w).alloc _).alloc _).alloc _, ((Ar.new w _ _).alloc _).alloc _, (Ar.new1 w _ _ _).alloc _, Ar.new2 w _ _ _ _⟩
 rw [← hw1]
 clear hw1 hsA hz hz2
 go_wp2_with fail
 go_loopw [7] (fun v wr => ∃ (i : Nat), v = .int .i64 i ∧ i ≤ 16 ∧ Chg w wr ∧ Ar wr w.heap.size (wid x) ∧ Ar wr (w.heap.size + 1) (num 0) ∧ Ar wr (w.heap.size + 1 + 1) (arr .i64 16 (colr x i))) (fun v wr => 16 - (intOf v).toNat)
 case atStart => exact ⟨0, rfl, by omega, Z1.out⟩
 case round =>
  clear Z1
  obtain ⟨i, rfl, hi, hz⟩ := hrel
  have Z : Hid (Chg w wr ∧ Ar wr w.heap.size (wid x) ∧ Ar wr (w.heap.size + 1) (num 0) ∧ Ar wr (w.heap.size + 1 + 1) (arr .i64 16 (colr x i))) := hz
  by_cases h16 : i < 16
  ·have hd : decide ((i : Int) < 16) = true := by simp; omega
   have li : (i : Int) < 16 := by omega
   obtain ⟨q, hq⟩ : ∃ q : Nat, (i : Int).tdiv 2 = q := ⟨i / 2, by rw [Int.tdiv_eq_ediv_of_nonneg (by omega)]; omega⟩
   obtain ⟨r, hr⟩ : ∃ r : Nat, (i : Int).tmod 2 = r := ⟨i % 2, by rw [Int.tmod_eq_emod_of_nonneg (by omega)]; omega⟩
   have hq' : q = i / 2 := by rw [Int.tdiv_eq_ediv_of_nonneg (by omega)] at hq; omega
   have hr' : r = i % 2 := by rw [Int.tmod_eq_emod_of_nonneg (by omega)] at hr; omega
   obtain ⟨t, ht⟩ : ∃ t : Nat, (r : Int) * 32 = t := ⟨r * 32, by omega⟩
   have wq := wrap_i (x := (q : Int)) (by omega) (by omega)
   have wr' := wrap_i (x := (r : Int)) (by omega) (by omega)
   have wt := wrap_i (x := (t : Int)) (by omega) (by omega)
   have lt : ¬ (t : Int) < 0 := by omega
   have lt64 : t < 64 := by omega
   have lq : (q : Int) < 8 := by omega
   have lq' : q < 8 := by omega
   have c1 : wr.cell? ⟨w.heap.size, q, none⟩ = some (.int .u64 (dg B64 x q)) := (hz.2.1.cell q).trans (arr_get _ _ _ lq')
   have c2 := (hz.2.2.2.cell i).trans (arr_get _ _ _ h16)
   have f2 := hz.2.2.2.frozen i
   obtain ⟨d, hdd⟩ : ∃ d, d = dg B64 x q := ⟨_, rfl⟩
   rw [← hdd] at c1
   have hdw : W64 d := by rw [hdd]; exact dg_w x q
   have hsw : W64 (d / 2 ^ t) := by
    have ⟨h0, h1⟩ := hdw
    have hp : (0 : Int) < 2 ^ t := Int.pow_pos (by decide)
    refine ⟨Int.ediv_nonneg h0 (by omega), ?_⟩
    exact Int.lt_of_le_of_lt (Int.ediv_le_self _ h0) h1
   have em := mask32 hsw
   obtain ⟨y, hy⟩ : ∃ y, y = d / 2 ^ t % 4294967296 := ⟨_, rfl⟩
   rw [← hy] at em
   have HY : Hid (y = dg B32 x i) := by
    show y = _
    rw [hy, hdd]
    have h2 : i = 2 * q + r := by omega
    have hr2 : r = 0 ∨ r = 1 := by omega
    rcases hr2 with h0 | h0
    ·have ht0 : t = 0 := by omega
     rw [h2, h0, Nat.add_zero, dg_even, ht0, Int.pow_zero, Int.ediv_one]
    ·have ht0 : t = 32 := by omega
     rw [h2, h0, dg_odd, ht0]
     have ⟨e0, e1⟩ := dg_w x q
     show dg B64 x q / 4294967296 % 4294967296 = _
     omega
   have wy : IntKind.i64.wrap y = y := wrap_i (by rw [hy]; omega) (by rw [hy]; omega)
   clear hz hy hdd hdw hsw hq' hr'
   go_wp2_with fail
   go_roundw
   case rel =>
    refine ⟨i + 1, by go_num, by omega, Z.out.1.setCell (by dsimp only; omega) _, Z.out.2.1.other (by dsimp only; omega) _, Z.out.2.2.1.other (by dsimp only; omega) _, ?_⟩
    have h := Z.out.2.2.2.set i (.int .i64 y)
    rw [arr_set, colr_step x i HY.out] at h
    exact h
   case measure => simp [intOf]; omega
  ·have hi' : i = 16 := by omega
   subst hi'
   have e16 : ((16 : Nat) : Int) = 16 := rfl
   rw [e16]
   clear hz e16
   go_wp2_with fail
   go_loopw [23] (fun v wr => ∃ (i : Nat), v = .int .i64 i ∧ i ≤ 8 ∧ Chg w wr ∧ Ar wr (w.heap.size + 1) (num 0) ∧ Ar wr (w.heap.size + 1 + 1) (arr .i64 16 (cs x i))) (fun v wr => 8 - (intOf v).toNat)
   case atStart => exact ⟨0, rfl, by omega, Z.out.1, Z.out.2.2.1, Z.out.2.2.2⟩
   case round =>
    clear Z
    obtain ⟨i, rfl, hi, hz⟩ := hrel
    have Z : Hid (Chg w wr ∧ Ar wr (w.heap.size + 1) (num 0) ∧ Ar wr (w.heap.size + 1 + 1) (arr .i64 16 (cs x i))) := hz
    by_cases h8 : i < 8
    ·have hd : decide ((i : Int) < 8) = true := by simp; omega
     obtain ⟨k, hk⟩ : ∃ k : Nat, (15 : Int) - i = k := ⟨15 - i, by omega⟩
     have HK : Hid (k = 15 - i) := by show k = 15 - i; omega
     have wk := wrap_i (x := (k : Int)) (by omega) (by omega)
     clear hz
     go_wp2_with fail
     go_at_call 100
     refine (fold_any (w.heap.size + 1 + 1) k (cs x i) _ (by have := HK.out; omega) (by have := HK.out; omega) Z.out.2.2 (cs_cb x i (by omega))).mono ?_
     rintro r w1 ⟨rfl, hb, ha⟩
     have ZZ : Hid (Chg w w1 ∧ Ar w1 (w.heap.size + 1) (num 0) ∧ Ar w1 (w.heap.size + 1 + 1) (arr .i64 16 (cs x (i + 1)))) := by
      refine ⟨Z.out.1.bt hb (by omega), Z.out.2.1.bt hb (by omega), ?_⟩
      rw [cs_next, ← HK.out]
      exact ha
     clear hb ha Z
     go_wp2
     go_roundw
     case rel => exact ⟨i + 1, by go_num, by omega, ZZ.out⟩
     case measure => simp [intOf]; omega
    ·have hi' : i = 8 := by omega
     subst hi'
     have e8 : ((8 : Nat) : Int) = 8 := rfl
     rw [e8]
     clear hz e8
     go_wp2_with fail
     go_at_call 101
     refine (settle_any (w.heap.size + 1 + 1) (cs x 8) _ Z.out.2.2 ?_).mono ?_
     ·intro j
      have := cs_cb x 8 (by omega) j
      omega
     rintro r w2 ⟨rfl, hb, s, ha, hs⟩
     have Y : Hid (SeS w w2 x s 2) := by
      have hh := cs_high x 8 (by omega)
      refine ⟨Z.out.1.bt hb (by omega), Z.out.2.1.bt hb (by omega), ha, hs.low, ?_, far_start (cs_cb x 8 (by omega)) (hh 8 (by omega)) hs, ?_⟩
      ·intro j hj
       rw [hs.same j hj]
       exact hh j (by omega)
      ·rw [hs.value, ← val16_9 _ (fun j hj => hh j (by omega)), cs_val x HX.out 8 (by omega)]
     clear hb ha hs Z
     go_wp2_with fail
     go_loopg [] 2 (fun m wr => ∃ s, SeS w wr x s m)
     case atStart => exact ⟨s, Y.out⟩
     case round =>
      clear Y
      obtain ⟨s, hy⟩ := hrel
      have Y : Hid (SeS w wr x s gk) := hy
      have c8 := (hy.c.cell 8).trans (arr_get .i64 16 s (i := 8) (by omega))
      clear hy
      by_cases h0 : s 8 = 0
      ·rw [h0] at c8
       go_wp2_with fail
       go_at_call 102
       refine (low_num (w.heap.size + 1 + 1) s _ Y.out.c Y.out.low).mono ?_
       rintro r w3 ⟨hr, hc3⟩
       obtain ⟨L, hL⟩ : ∃ L, L = val B32 8 s := ⟨_, rfl⟩
       have HL : Hid (N256 L ∧ L % mo 2 = x % mo 2) := by
        have hv := Y.out.val
        rw [val9, h0, ← hL] at hv
        have hb := val8b Y.out.low
        rw [← hL] at hb
        exact ⟨hb, by rw [← hv]; simp⟩
       rw [← hL, num4] at hr
       subst hr
       have X3 : Hid (Chg w w3 ∧ Ar w3 (w.heap.size + 1) (num 0)) := ⟨Y.out.chg.trans hc3, Y.out.out.chg hc3⟩
       have HN : Hid (w.heap.size + 1 < w3.heap.size) := X3.out.2.lt
       clear Y hc3 hL c8
       go_wp2_with fail
       have hn := HN.out
       obtain ⟨w4, hw4⟩ : ∃ w4, w4 = w3.alloc (.cells #[.int .u64 (dg B64 L 0), .int .u64 (dg B64 L 1), .int .u64 (dg B64 L 2), .int .u64 (dg B64 L 3)] 24) := ⟨_, rfl⟩
       have X4 : Hid (Chg w w4 ∧ Ar w4 (w.heap.size + 1) (num 0) ∧ Ar w4 w3.heap.size (num L)) := by
        rw [hw4]
        exact ⟨X3.out.1.alloc _, X3.out.2.alloc _, Ar.new w3 (num L) 24⟩
       rw [← hw4]
       clear hw4 X3 hn
       obtain ⟨x0, x1, x2, x3⟩ := Ar.four (d := dg B64 L) X4.out.2.2
       by_cases hlt : L < mo 2
       ·have hd : decide (L < mo 2) = true := by simp [hlt]
        clear hlt
        go_region_with (first
         | (go_at_call 77; refine (prime2_any _).mono ?_; rintro r w6 ⟨rfl, hc6⟩; obtain ⟨z0, z1, z2, z3⟩ := Ar.four (d := dg B64 L) (X4.out.2.2.drew.chg hc6); have HC6 : Hid (Chg w4.drew w6) := hc6; clear hc6)
         | (go_at_call 58; refine (below_num L (mo 2) HL.out.1 (mo_N 2) _).mono ?_; rw [hd]; rintro r w7 ⟨rfl, hc7⟩; have HC7 : Hid (Chg w4.drew w7) := HC6.out.trans hc7; clear hc7))
        all_goals
         obtain ⟨y0, y1, y2, y3⟩ := Ar.four (d := dg B64 L) (X4.out.2.2.drew.chg HC7.out)
         obtain ⟨s0, s1, s2, s3⟩ := Ar.four (d := dg B64 0) (X4.out.2.1.drew.chg HC7.out)
         obtain ⟨t0, t1, t2, t3⟩ := (X4.out.2.1.drew.chg HC7.out).free4
         go_wp2
         have hn := HN.out
         have e : L = x % mo 2 := red2_lt HL.out.2 HL.out.1 (by simpa using hd)
         refine bp_n (x := L) Try.results91 rfl rfl ?_ ⟨by rw [e], ?_⟩
         ·exact ((((X4.out.2.1.drew.chg HC7.out).set 0 _).set 1 _).set 2 _).set 3 _
         ·exact ((((X4.out.1.drew.trans HC7.out).setCell (by dsimp only; omega) _).setCell (by dsimp only; omega) _).setCell (by dsimp only; omega) _).setCell (by dsimp only; omega) _
       ·have hd : decide (L < mo 2) = false := by simp; omega
        have HG : Hid (mo 2 ≤ L) := by show mo 2 ≤ L; omega
        clear hlt
        go_cut [40] from 36 to 40 (fun v wc => v = .bool true ∧ Chg w4 wc)
        case first =>
         go_region_with (first
          | (go_at_call 77; refine (prime2_any _).mono ?_; rintro r w6 ⟨rfl, hc6⟩; obtain ⟨z0, z1, z2, z3⟩ := Ar.four (d := dg B64 L) (X4.out.2.2.drew.chg hc6); have HC6 : Hid (Chg w4.drew w6) := hc6; clear hc6)
          | (go_at_call 58; refine (below_num L (mo 2) HL.out.1 (mo_N 2) _).mono ?_; rw [hd]; rintro r w7 ⟨rfl, hc7⟩; have HC7 : Hid (Chg w4.drew w7) := HC6.out.trans hc7; clear hc7))
         all_goals
          go_wp2_with fail
          go_meet
          exact ⟨by simp, (Chg.refl w4).drew.trans HC7.out⟩
        obtain ⟨rfl, hcc⟩ := hcut
        obtain ⟨w8, hw8⟩ : ∃ w8, w8 = wc := ⟨_, rfl⟩
        subst hw8
        clear x0 x1 x2 x3
        obtain ⟨x0, x1, x2, x3⟩ := Ar.four (d := dg B64 L) (X4.out.2.2.chg hcc)
        have HC8 : Hid (Chg w4 w8) := hcc
        clear hcc
        go_wp2_with fail
        obtain ⟨v, hv⟩ : ∃ v, v = (L - mo 2) % R256 := ⟨_, rfl⟩
        obtain ⟨c', hc'⟩ : ∃ c, c = bor L (mo 2) := ⟨_, rfl⟩
        have k := fun W => minus_num L (mo 2) HL.out.1 (mo_N 2) W
        rw [← hv, ← hc', num4 v] at k
        have HK : Hid (∀ W, Calls Try.prog 72 #[.agg (num L), .agg (num (mo 2))] W fun r w' => r = .returned (.tuple #[.agg #[.int .u64 (dg B64 v 0), .int .u64 (dg B64 v 1), .int .u64 (dg B64 v 2), .int .u64 (dg B64 v 3)], .int .u64 c']) ∧ Chg W w') := k
        have Hv : Hid (v = (L - mo 2) % R256) := hv
        clear k hv hc'
        go_region_with (first
         | (go_at_call 77; refine (prime2_any _).mono ?_; rintro r w6 ⟨rfl, hc6⟩; obtain ⟨z0, z1, z2, z3⟩ := Ar.four (d := dg B64 L) ((X4.out.2.2.chg HC8.out).drew.chg hc6); have HC6 : Hid (Chg w8.drew w6) := hc6; clear hc6)
         | (go_at_call 72; refine (HK.out _).mono ?_; rintro r w7 ⟨rfl, hc7⟩; have HC7 : Hid (Chg w8.drew w7) := HC6.out.trans hc7; clear hc7; obtain ⟨y0, y1, y2, y3⟩ := Ar.four (d := dg B64 L) ((X4.out.2.2.chg HC8.out).drew.chg HC7.out); obtain ⟨g0, g1, g2, g3⟩ := ((X4.out.2.2.chg HC8.out).drew.chg HC7.out).free4))
        all_goals
         obtain ⟨s0, s1, s2, s3⟩ := Ar.four (d := dg B64 0) ((X4.out.2.1.chg HC8.out).drew.chg HC7.out)
         obtain ⟨t0, t1, t2, t3⟩ := ((X4.out.2.1.chg HC8.out).drew.chg HC7.out).free4
         have hne : ¬ w3.heap.size = w.heap.size + 1 := fun h => by
          have := HN.out
          omega
         have hne' : ¬ w.heap.size + 1 = w3.heap.size := fun h => by
          have := HN.out
          omega
         go_wp2
         have hn := HN.out
         have e : v = x % mo 2 := red2_ge HL.out.2 HL.out.1 HG.out Hv.out
         refine bp_n (x := v) Try.results91 rfl rfl ?_ ⟨by rw [e], ?_⟩
         ·exact (((X4.out.2.1.chg HC8.out).drew.chg HC7.out).nput_other hne' v).nput v
         ·exact (((X4.out.1.trans HC8.out).drew.trans HC7.out).nput (by omega) v).nput (by omega) v
      ·have hd : (s 8 == 0) = false := by simpa using h0
       go_wp2_with fail
       go_at_call 100
       refine (fold_any (w.heap.size + 1 + 1) 8 s _ (by omega) (by omega) Y.out.c Y.out.cb).mono ?_
       rintro r w3 ⟨rfl, hb3, ha3⟩
       have A3 : Hid (Bt (w.heap.size + 1 + 1) wr w3 ∧ Ar w3 (w.heap.size + 1 + 1) (arr .i64 16 (fold s 8))) := ⟨hb3, ha3⟩
       clear hb3 ha3 c8
       go_wp2_with fail
       go_at_call 101
       refine (settle_any (w.heap.size + 1 + 1) (fold s 8) _ A3.out.2 ?_).mono ?_
       ·intro j
        have := fold_bound Y.out.cb 0 j
        simp only [Nat.zero_add] at this
        omega
       rintro r w4 ⟨rfl, hb4, s', ha4, hs4⟩
       obtain ⟨m', hm, hf⟩ := far_next Y.out.far h0 Y.out.low hs4
       have Y4 : Hid (SeS w w4 x s' m') := by
        refine ⟨(Y.out.chg.bt A3.out.1 (by omega)).bt hb4 (by omega), (Y.out.out.bt A3.out.1 (by omega)).bt hb4 (by omega), ha4, hs4.low, ?_, hf, ?_⟩
        ·intro j hj
         rw [hs4.same j hj]
         have := fold_high s 0 j (by omega)
         rw [Nat.zero_add] at this
         rw [this]
         exact Y.out.high j hj
        ·have := fold_val s 0 9 (by omega)
         rw [Nat.zero_add] at this
         rw [hs4.value, this, ← Y.out.val]
         generalize s 8 * B32 ^ 0 = y
         rw [Int.sub_emod, Int.mul_emod_left, Int.sub_zero, Int.emod_emod]
       have HM : Hid (m' < gk) := hm
       clear hb4 ha4 hs4 hf hm Y A3
       go_wp2_with fail
       go_roundg m'
       case measure => exact HM.out
       case rel => exact ⟨s', Y4.out⟩
end Go.Proofs.Ytbdgmkejmfjobaa
