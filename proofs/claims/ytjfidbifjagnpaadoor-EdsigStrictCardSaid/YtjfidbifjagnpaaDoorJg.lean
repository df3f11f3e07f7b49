/-
  The document's digits of 32 bits: a number's digits, and the number of them.
  The number of the eight lowest digits.
  The document's moduli, what 2^256 leaves, numbers compared.
  The document's product of two numbers: its digits.
  The document's sum and difference of two numbers.
  The document's difference of two numbers, modulo 2^256.
-/
import Derived.Test.YtjfidbifjagnpaaDoorJf
namespace Go.Proofs.YtjfidbifjagnpaaDoor
open Go.RowKit
set_option linter.unusedVariables false
set_option maxRecDepth 100000
def wdr (x : Int) : Array Value := arr .u64 17 (dg B32 x)
theorem dg32_b (x : Int) (i : Nat) : 0 ≤ dg B32 x i ∧ dg B32 x i < 4294967296 := dg_bound B32_pos x i
def zD : Nat → Int := fun _ => 0
end Go.Proofs.YtjfidbifjagnpaaDoor
namespace Go.Proofs.YtjfidbifjagnpaaDoor
open Go.RowKit
set_option linter.unusedVariables false
set_option maxRecDepth 100000
end Go.Proofs.YtjfidbifjagnpaaDoor
namespace Go.Proofs.YtjfidbifjagnpaaDoor
open Go.RowKit
set_option linter.unusedVariables false
set_option maxRecDepth 100000
set_option maxHeartbeats 8000000 in
theorem modulusR_any (f : Int) (w : World) : Calls Tryd.prog 11 #[.int .i64 f] w fun r w' => r = .returned (.agg (num (mo f))) ∧ Chg w w' := by
 by_cases h1 : f = 1
 ·subst h1
  rw [num_1]
  go_enter Tryd.func11, Tryd.ntmps11
  go_wp2
  exact bp_c (n := 4) Tryd.results11 rfl rfl (Ar.new w _ 32) u25 i25 rfl ⟨rfl, (Chg.refl w).alloc _⟩
 by_cases h2 : f = 2
 ·subst h2
  rw [num_2]
  go_enter Tryd.func11, Tryd.ntmps11
  go_wp2
  exact bp_c (n := 4) Tryd.results11 rfl rfl (Ar.new w _ 32) u25 i25 rfl ⟨rfl, (Chg.refl w).alloc _⟩
 by_cases h3 : f = 3
 ·subst h3
  rw [num_3]
  go_enter Tryd.func11, Tryd.ntmps11
  go_wp2
  exact bp_c (n := 4) Tryd.results11 rfl rfl (Ar.new w _ 32) u25 i25 rfl ⟨rfl, (Chg.refl w).alloc _⟩
 by_cases h4 : f = 4
 ·subst h4
  rw [num_4]
  go_enter Tryd.func11, Tryd.ntmps11
  go_wp2
  exact bp_c (n := 4) Tryd.results11 rfl rfl (Ar.new w _ 32) u25 i25 rfl ⟨rfl, (Chg.refl w).alloc _⟩
 ·have hmo : mo f = 0 := by simp [mo, h1, h2, h3, h4]
  rw [hmo, num_0]
  go_enter Tryd.func11, Tryd.ntmps11
  go_wp2
  exact bp_c (n := 4) Tryd.results11 rfl rfl (Ar.new w _ 32) u25 i25 rfl ⟨rfl, (Chg.refl w).alloc _⟩
theorem Chg.drewN {a b : World} (h : Chg a b) (n : Nat) : Chg a (b.drewN n) := ⟨h.os, h.tape, h.output, h.size, h.block⟩
theorem Ar.drewN {w : World} {b : Nat} {c : Array Value} (h : Ar w b c) (n : Nat) : Ar (w.drewN n) b c := h
end Go.Proofs.YtjfidbifjagnpaaDoor
namespace Go.Proofs.YtjfidbifjagnpaaDoor
open Go.RowKit
set_option linter.unusedVariables false
set_option maxRecDepth 100000
def D32 (d : Nat → Int) : Prop := ∀ i, 0 ≤ d i ∧ d i < 4294967296
theorem D32.upd {d : Nat → Int} (h : D32 d) (i : Nat) {x : Int} (hx : 0 ≤ x ∧ x < 4294967296) : D32 (upd d i x) := fun j => by
 unfold Go.Proofs.YtjfidbifjagnpaaDoor.upd
 by_cases e : j = i
 ·rw [if_pos e]; exact hx
 ·rw [if_neg e]; exact h j
theorem D32.dg (x : Int) : D32 (dg B32 x) := fun i => dg32_b x i
theorem D32.w {d : Nat → Int} (h : D32 d) (i : Nat) : W64 (d i) := ⟨(h i).1, Int.lt_trans (h i).2 (by decide)⟩
structure TS (w wr : World) (b5 b6 b7 : Nat) (a b : Int) (d : Nat → Int) : Prop where
 chg : Chg w wr
 res : Ar wr (w.heap.size + 1 + 1) (arr .u64 17 zD)
 x : Ar wr b5 (wdr a)
 y : Ar wr b6 (wdr b)
 o : Ar wr b7 (arr .u64 17 d)
theorem TS.set {w wr : World} {b5 b6 b7 : Nat} {a b : Int} {d : Nat → Int} (h : TS w wr b5 b6 b7 a b d) (h5 : w.heap.size + 2 < b5) (h6 : b5 < b6) (h7 : b6 < b7) (i : Nat) (v : Int) : TS w (wr.setCell ⟨b7, i, none⟩ (.int .u64 v)) b5 b6 b7 a b (upd d i v) :=
 ⟨h.chg.setCell (by dsimp only; omega) _, h.res.other (by dsimp only; omega) _, h.x.other (by dsimp only; omega) _, h.y.other (by dsimp only; omega) _, by have := h.o.set i (.int .u64 v); rwa [arr_set] at this⟩
theorem TS.drew {w wr : World} {b5 b6 b7 : Nat} {a b : Int} {d : Nat → Int} (h : TS w wr b5 b6 b7 a b d) : TS w wr.drew b5 b6 b7 a b d := ⟨h.chg.drew, h.res, h.x, h.y, h.o⟩
theorem TS.drewN {w wr : World} {b5 b6 b7 : Nat} {a b : Int} {d : Nat → Int} (h : TS w wr b5 b6 b7 a b d) (n : Nat) : TS w (wr.drewN n) b5 b6 b7 a b d := ⟨h.chg.drewN n, h.res, h.x, h.y, h.o⟩
end Go.Proofs.YtjfidbifjagnpaaDoor
namespace Go.Proofs.YtjfidbifjagnpaaDoor
open Go.RowKit
set_option linter.unusedVariables false
set_option maxRecDepth 100000
def mixD (i : Nat) (s d : Nat → Int) : Nat → Int := fun j => if j < i then s j else d j
theorem mixD_zero (s d : Nat → Int) : mixD 0 s d = d := by funext j; simp [mixD]
theorem mixD_at (i : Nat) (s d : Nat → Int) : mixD i s d i = d i := by simp [mixD]
theorem mixD_upd (i : Nat) (s d : Nat → Int) (x : Int) : upd (mixD i s d) i x = mixD (i + 1) (upd s i x) d := by
 funext j
 unfold upd mixD
 by_cases h : j = i
 ·subst h; simp
 ·by_cases h2 : j < i
  ·have : j < i + 1 := by omega
   simp [h, h2, this]
  ·have : ¬ j < i + 1 := by omega
   simp [h, h2, this]
theorem mixD_all (n : Nat) (s d : Nat → Int) : arr .u64 n (mixD n s d) = arr .u64 n s := arr_congr fun i hi => by simp [mixD, hi]
structure PP (w wr : World) (b : Int) (d : Nat → Int) : Prop where
 chg : Chg w wr
 x : Ar wr w.heap.size (arr .u64 4 d)
 y : Ar wr (w.heap.size + 1) (num b)
 res : Ar wr (w.heap.size + 1 + 1) (num 0)
theorem PP.set {w wr : World} {b : Int} {d : Nat → Int} (h : PP w wr b d) (i : Nat) (v : Int) : PP w (wr.setCell ⟨w.heap.size, i, none⟩ (.int .u64 v)) b (upd d i v) :=
 ⟨h.chg.setCell (by dsimp only; omega) _, by have := h.x.set i (.int .u64 v); rwa [arr_set] at this, h.y.other (by dsimp only; omega) _, h.res.other (by dsimp only; omega) _⟩
theorem PP.drewN {w wr : World} {b : Int} {d : Nat → Int} (h : PP w wr b d) (n : Nat) : PP w (wr.drewN n) b d := ⟨h.chg.drewN n, h.x, h.y, h.res⟩
set_option maxHeartbeats 16000000 in
theorem plusR_any (a b : Int) (ha : N256 a) (hb : N256 b) (w : World) : Calls Tryd.prog 10 #[.agg (num a), .agg (num b)] w fun r w' => r = .returned (.tuple #[.agg (num ((a + b) % R256)), .int .u64 ((a + b) / R256)]) ∧ Chg w w' := by
 have HAB : Hid (N256 a ∧ N256 b) := ⟨ha, hb⟩
 have hsA := num_size a
 have hsB := num_size b
 obtain ⟨A, hA⟩ : ∃ A, A = num a := ⟨_, rfl⟩
 obtain ⟨E, hE⟩ : ∃ A, A = num b := ⟨_, rfl⟩
 obtain ⟨Z0, hZ0⟩ : ∃ Z, Z = num 0 := ⟨_, rfl⟩
 have HA : Hid (A = num a ∧ E = num b ∧ Z0 = num 0) := ⟨hA, hE, hZ0⟩
 have hz := zero25.1
 rw [← hA] at hsA ⊢
 rw [← hE] at hsB ⊢
 rw [← hZ0] at hz
 clear hA hE hZ0 ha hb
 obtain ⟨RS, hRS⟩ : ∃ R, R = num ((a + b) % R256) := ⟨_, rfl⟩
 obtain ⟨RC, hRC⟩ : ∃ c, c = (a + b) / R256 := ⟨_, rfl⟩
 have HR : Hid (RS = num ((a + b) % R256) ∧ RC = (a + b) / R256) := ⟨hRS, hRC⟩
 rw [← hRS, ← hRC]
 clear hRS hRC
 go_enter Tryd.func10, Tryd.ntmps10
 go_wp2_with fail
 obtain ⟨w3, hw3⟩ : ∃ w3, w3 = ((w.alloc (.cells A 32)).alloc (.cells E 32)).alloc (.cells Z0 32) := ⟨_, rfl⟩
 have Z3 : Hid (PP w w3 b (dg B64 a)) := by
  rw [hw3, HA.out.1, HA.out.2.1, HA.out.2.2]
  exact ⟨(((Chg.refl w).alloc _).alloc _).alloc _, ((Ar.new w _ _).alloc _).alloc _, (Ar.new1 w _ _ _).alloc _, Ar.new2 w _ _ _ _⟩
 rw [← hw3]
 clear hw3 hsA hsB hz HA
 go_loopw [6, 7] (fun v v7 wr => ∃ (i : Nat) (c : Int) (s : Nat → Int), v7 = .int .i64 i ∧ v = .int .u64 c ∧ i ≤ 4 ∧ (0 ≤ c ∧ c ≤ 1) ∧ PP w wr b (mixD i s (dg B64 a)) ∧ (∀ j, W64 (s j)) ∧ val B64 i s + c * B64 ^ i = val B64 i (dg B64 a) + val B64 i (dg B64 b)) (fun v v7 wr => 4 - (intOf v7).toNat)
 case atStart => exact ⟨0, 0, fun _ => 0, rfl, rfl, by omega, by decide, by rw [mixD_zero]; exact Z3.out, fun j => ⟨by show (0 : Int) ≤ 0; decide, by show (0 : Int) < _; decide⟩, rfl⟩
 case round =>
  clear Z3
  obtain ⟨i, c, s, rfl, rfl, hi, hc, hp, hs, hv⟩ := hrel
  have H : Hid (PP w wr b (mixD i s (dg B64 a)) ∧ (∀ j, W64 (s j)) ∧ val B64 i s + c * B64 ^ i = val B64 i (dg B64 a) + val B64 i (dg B64 b)) := ⟨hp, hs, hv⟩
  by_cases h4 : i < 4
  ·have hdi : decide ((i : Int) < 4) = true := by simp; omega
   have li : (i : Int) < 4 := by omega
   have li0 : (0 : Int) ≤ (i : Int) := by omega
   have c1 := (hp.x.cell i).trans (arr_get .u64 4 _ h4)
   rw [mixD_at] at c1
   have c2 := (hp.y.cell i).trans (arr_get .u64 4 _ h4)
   have f1 := hp.x.frozen i
   obtain ⟨x, hx⟩ : ∃ x, x = dg B64 a i := ⟨_, rfl⟩
   obtain ⟨y, hy⟩ : ∃ y, y = dg B64 b i := ⟨_, rfl⟩
   have bx := dg_w a i
   have by' := dg_w b i
   rw [← hx] at c1 bx
   rw [← hy] at c2 by'
   obtain ⟨bx0, bx1⟩ := bx
   obtain ⟨by0, by1⟩ := by'
   have HX : Hid (x = dg B64 a i ∧ y = dg B64 b i) := ⟨hx, hy⟩
   clear hp hs hv hx hy
   by_cases hov : x + y < 18446744073709551616
   ·obtain ⟨m, hm⟩ : ∃ m, x + y = m := ⟨_, rfl⟩
    have wm : IntKind.u64.wrap m = m := by rw [IntKind.wrap_u64]; omega
    have dm : decide (m < x) = false := by simp; omega
    by_cases ho2 : m + c < 18446744073709551616
    ·obtain ⟨t, ht⟩ : ∃ t, m + c = t := ⟨_, rfl⟩
     have wt : IntKind.u64.wrap t = t := by rw [IntKind.wrap_u64]; omega
     have dt : decide (t < m) = false := by simp; omega
     have HL : Hid (t + 0 * B64 = x + y + c ∧ W64 t) := ⟨by show t + 0 * 18446744073709551616 = _; omega, by omega, by omega⟩
     clear hov
     go_wp2_with fail
     go_quiet (fail)
     go_wp2_with fail
     go_roundw
     case rel =>
      obtain ⟨k1, k2, k3⟩ := H.out
      have hst := (k1.drewN nq).set i t
      rw [mixD_upd] at hst
      refine ⟨i + 1, 0, upd s i t, by go_num, rfl, by omega, by decide, hst, upd_w k2 i HL.out.2, ?_⟩
      have hx := HL.out.1
      rw [HX.out.1, HX.out.2] at hx
      exact val_step k3 hx
     case measure => simp [intOf]; omega
    ·have hmc : m = 18446744073709551615 ∧ c = 1 := by omega
     obtain ⟨rfl, rfl⟩ := hmc
     have wt : IntKind.u64.wrap ((18446744073709551615 : Int) + 1) = 0 := by decide
     have HL : Hid (0 + 1 * B64 = x + y + 1 ∧ W64 0) := ⟨by show 0 + 1 * 18446744073709551616 = _; omega, by decide, by decide⟩
     clear hov
     go_wp2_with fail
     go_quiet (fail)
     go_wp2_with fail
     go_roundw
     case rel =>
      obtain ⟨k1, k2, k3⟩ := H.out
      have hst := (k1.drewN nq).set i 0
      rw [mixD_upd] at hst
      refine ⟨i + 1, 1, upd s i 0, by go_num, rfl, by omega, by decide, hst, upd_w k2 i HL.out.2, ?_⟩
      have hx := HL.out.1
      rw [HX.out.1, HX.out.2] at hx
      exact val_step k3 hx
     case measure => simp [intOf]; omega
   ·obtain ⟨m, hm⟩ : ∃ m, x + y = m + 18446744073709551616 := ⟨x + y - 18446744073709551616, by omega⟩
    have wm : IntKind.u64.wrap (x + y) = m := by rw [IntKind.wrap_u64]; omega
    have dm : decide (m < x) = true := by simp; omega
    obtain ⟨t, ht⟩ : ∃ t, m + c = t := ⟨_, rfl⟩
    have wt : IntKind.u64.wrap t = t := by rw [IntKind.wrap_u64]; omega
    have dt : decide (t < m) = false := by simp; omega
    have HL : Hid (t + 1 * B64 = x + y + c ∧ W64 t) := ⟨by show t + 1 * 18446744073709551616 = _; omega, by omega, by omega⟩
    clear hm
    clear hov
    go_wp2_with fail
    go_quiet (fail)
    go_wp2_with fail
    go_roundw
    case rel =>
     obtain ⟨k1, k2, k3⟩ := H.out
     have hst := (k1.drewN nq).set i t
     rw [mixD_upd] at hst
     refine ⟨i + 1, 1, upd s i t, by go_num, rfl, by omega, by decide, hst, upd_w k2 i HL.out.2, ?_⟩
     have hx := HL.out.1
     rw [HX.out.1, HX.out.2] at hx
     exact val_step k3 hx
    case measure => simp [intOf]; omega
  ·have : i = 4 := by omega
   subst this
   have HV : Hid (arr .u64 4 s = RS ∧ c = RC) := by
    rw [HR.out.1, HR.out.2]
    rw [val4 a HAB.out.1.1 HAB.out.1.2, val4 b HAB.out.2.1 HAB.out.2.2, p4] at hv
    have hb4 := val_b4 hs
    rw [arr_num hs]
    constructor
    ·congr 1
     clear H
     show val B64 4 s = (a + b) % 115792089237316195423570985008687907853269984665640564039457584007913129639936
     have h1 : c * 115792089237316195423570985008687907853269984665640564039457584007913129639936 = a + b - val B64 4 s := by have := hv; show c * R256 = _; omega
     have h2 : val B64 4 s < 115792089237316195423570985008687907853269984665640564039457584007913129639936 := hb4.2
     have h3 := hb4.1
     omega
    ·have h1 : c * 115792089237316195423570985008687907853269984665640564039457584007913129639936 = a + b - val B64 4 s := by have := hv; show c * R256 = _; omega
     have h2 : val B64 4 s < 115792089237316195423570985008687907853269984665640564039457584007913129639936 := hb4.2
     have h3 := hb4.1
     show c = (a + b) / 115792089237316195423570985008687907853269984665640564039457584007913129639936
     omega
   have hx := hp.x
   rw [mixD_all] at hx
   rw [HV.out.1] at hx
   have hcc := HV.out.2
   subst hcc
   obtain ⟨t1, g1⟩ := hx
   obtain ⟨t3, g3⟩ := hp.res
   have hsz := szN ((a + b) % R256)
   have hlen := lenN 0 ((a + b) % R256)
   have hone := num_one ((a + b) % R256)
   rw [← HR.out.1] at hsz hlen hone
   have HP : Hid (PP w wr b (mixD 4 s (dg B64 a))) := hp
   clear hp hs hv HV H
   go_wp2_with (first | refine wpList_load_row rfl 32 _ rfl _ rfl _ _ _ _ g1 undNum rfl hsz ?_ | refine wpList_store_row rfl 32 _ _ rfl _ _ rfl rfl _ _ g3 hsz hlen hone ?_)
   refine bp_ct (n := 4) (c := RS) Tryd.results10 rfl rfl rfl ?_ undNum Go.Proofs.YtjfidbifjagnpaaDoor.i25 (by rw [HR.out.1]; exact num_size _) ⟨rfl, ?_⟩
   ·exact HP.out.res.row _
   ·exact HP.out.chg.setRow (by omega) _
end Go.Proofs.YtjfidbifjagnpaaDoor
namespace Go.Proofs.YtjfidbifjagnpaaDoor
open Go.RowKit
set_option linter.unusedVariables false
set_option maxRecDepth 100000
theorem N_modR (x : Int) : N256 (x % R256) := ⟨Int.emod_nonneg _ (by decide), Int.emod_lt_of_pos _ (by decide)⟩
end Go.Proofs.YtjfidbifjagnpaaDoor
