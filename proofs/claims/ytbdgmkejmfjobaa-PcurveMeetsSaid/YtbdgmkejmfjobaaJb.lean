/-
  Numbers as values of the program: the contracts of sums, differences, products, by the numbers themselves.
  New blocks, one behind the other; copy.
  The moduli, and the quotients' numbers, as the program tells them.
  Eight digits out of twice four, and back.
  Eight digits as twice four.
-/
import Derived.Test.YtbdgmkejmfjobaaJa
import Derived.Test.YtbdgmkejmfjobaaProd
import Derived.Test.YtbdgmkejmfjobaaJv
import Derived.Laws.CopyRow
namespace Go.Proofs.Ytbdgmkejmfjobaa
open Go.RowKit
set_option linter.unusedVariables false
abbrev R256 : Int := 115792089237316195423570985008687907853269984665640564039457584007913129639936
abbrev R512 : Int := 13407807929942597099574024998205846127479365820592393377723561443721764030073546976801874298166903427690031858186486050853753882811946569946433649006084096
theorem p4 : B64 ^ 4 = R256 := by decide
theorem p8 : B64 ^ 8 = R512 := by decide +kernel
def num (x : Int) : Array Value := arr .u64 4 (dg B64 x)
def wid (x : Int) : Array Value := arr .u64 8 (dg B64 x)
theorem B64_pos : (0 : Int) < B64 := by decide
theorem dg_w (x : Int) (i : Nat) : W64 (dg B64 x i) := dg_bound B64_pos x i
theorem val4 (x : Int) (h0 : 0 ≤ x) (h1 : x < R256) : val B64 4 (dg B64 x) = x := by
 rw [val_dg B64_pos, p4]; exact Int.emod_eq_of_lt h0 h1
theorem val8 (x : Int) (h0 : 0 ≤ x) (h1 : x < R512) : val B64 8 (dg B64 x) = x := by
 rw [val_dg B64_pos, p8]; exact Int.emod_eq_of_lt h0 h1
theorem arr_congr {κ : IntKind} {n : Nat} {d e : Nat → Int} (h : ∀ i, i < n → d i = e i) : arr κ n d = arr κ n e := by
 unfold arr
 congr 1
 exact List.map_congr_left fun i hi => by rw [h i (List.mem_range.1 hi)]
theorem val_b4 {s : Nat → Int} (h : ∀ i, W64 (s i)) : 0 ≤ val B64 4 s ∧ val B64 4 s < R256 := by
 rw [← p4]; exact val_bound B64_pos (fun i _ => h i)
theorem val_b8 {s : Nat → Int} (h : ∀ i, W64 (s i)) : 0 ≤ val B64 8 s ∧ val B64 8 s < R512 := by
 rw [← p8]; exact val_bound B64_pos (fun i _ => h i)
theorem arr_num {s : Nat → Int} (h : ∀ i, W64 (s i)) : arr .u64 4 s = num (val B64 4 s) :=
 arr_congr (val_inj B64_pos (fun i _ => h i) (fun i _ => dg_w _ i) (by rw [val4 _ (val_b4 h).1 (val_b4 h).2]))
theorem arr_wid {s : Nat → Int} (h : ∀ i, W64 (s i)) : arr .u64 8 s = wid (val B64 8 s) :=
 arr_congr (val_inj B64_pos (fun i _ => h i) (fun i _ => dg_w _ i) (by rw [val8 _ (val_b8 h).1 (val_b8 h).2]))
def N256 (x : Int) : Prop := 0 ≤ x ∧ x < R256
def N512 (x : Int) : Prop := 0 ≤ x ∧ x < R512
theorem plus_num (a b : Int) (ha : N256 a) (hb : N256 b) (w : World) :
  Calls Try.prog 85 #[.agg (num a), .agg (num b)] w fun r w' => r = .returned (.tuple #[.agg (num ((a + b) % R256)), .int .u64 ((a + b) / R256)]) ∧ Chg w w' := by
 refine (plus_any (dg B64 a) (dg B64 b) w (dg_w a) (dg_w b)).mono ?_
 rintro r w' ⟨s, o, rfl, hc, hs, h0, h1, hv⟩
 rw [val4 a ha.1 ha.2, val4 b hb.1 hb.2, p4] at hv
 have hb4 := val_b4 hs
 have e1 : val B64 4 s = (a + b) % R256 := by unfold R256 at *; omega
 have e2 : o = (a + b) / R256 := by unfold R256 at *; omega
 rw [arr_num hs, e1, e2]
 exact ⟨rfl, hc⟩
theorem minus_num (a b : Int) (ha : N256 a) (hb : N256 b) (w : World) :
  Calls Try.prog 72 #[.agg (num a), .agg (num b)] w fun r w' => r = .returned (.tuple #[.agg (num ((a - b) % R256)), .int .u64 (bor a b)]) ∧ Chg w w' := by
 refine (minus_any (dg B64 a) (dg B64 b) w (dg_w a) (dg_w b)).mono ?_
 rintro r w' ⟨s, o, rfl, hc, hs, h0, h1, hv⟩
 rw [val4 a ha.1 ha.2, val4 b hb.1 hb.2, p4] at hv
 have hb4 := val_b4 hs
 have ⟨ha0, ha1⟩ := ha
 have ⟨hb0, hb1⟩ := hb
 have e1 : val B64 4 s = (a - b) % R256 := by unfold R256 at *; omega
 have e2 : o = bor a b := by unfold R256 bor at *; split <;> omega
 rw [arr_num hs, e1, e2]
 exact ⟨rfl, hc⟩
theorem below_num (a b : Int) (ha : N256 a) (hb : N256 b) (w : World) :
  Calls Try.prog 58 #[.agg (num a), .agg (num b)] w fun r w' => r = .returned (.bool (decide (a < b))) ∧ Chg w w' := by
 refine (below_any (dg B64 a) (dg B64 b) w (dg_w a) (dg_w b)).mono ?_
 rintro r w' ⟨rfl, hc⟩
 rw [val4 a ha.1 ha.2, val4 b hb.1 hb.2]
 exact ⟨rfl, hc⟩
theorem add38_num (a b : Int) (ha : N256 a) (hb : N256 b) (w : World) :
  Calls Try.prog 99 #[.agg (num a), .agg (num b)] w fun r w' => r = .returned (.tuple #[.agg (num ((a + 38 * b) % R256)), .int .u64 ((a + 38 * b) / R256)]) ∧ Chg w w' := by
 refine (add38_any (dg B64 a) (dg B64 b) w (dg_w a) (dg_w b)).mono ?_
 rintro r w' ⟨s, o, rfl, hc, hs, h1, hv⟩
 rw [val4 a ha.1 ha.2, val4 b hb.1 hb.2, p4] at hv
 have hb4 := val_b4 hs
 have e1 : val B64 4 s = (a + 38 * b) % R256 := by unfold R256 at *; omega
 have e2 : o = (a + 38 * b) / R256 := by unfold R256 at *; omega
 rw [arr_num hs, e1, e2]
 exact ⟨rfl, hc⟩
theorem product_num (a b : Int) (ha : N256 a) (hb : N256 b) (w : World) :
  Calls Try.prog 81 #[.agg (num a), .agg (num b)] w fun r w' => r = .returned (.agg (wid (a * b))) ∧ Chg w w' := by
 refine (product_any (dg B64 a) (dg B64 b) w (dg_w a) (dg_w b)).mono ?_
 rintro r w' ⟨s, rfl, hc, hs, hv⟩
 rw [val4 a ha.1 ha.2, val4 b hb.1 hb.2] at hv
 rw [arr_wid hs, hv]
 exact ⟨rfl, hc⟩
theorem mul_N512 {a b : Int} (ha : N256 a) (hb : N256 b) : N512 (a * b) := by
 have ⟨ha0, ha1⟩ := ha
 have ⟨hb0, hb1⟩ := hb
 refine ⟨Int.mul_nonneg ha0 hb0, ?_⟩
 have := Int.mul_le_mul (a := a) (b := b) (c := R256 - 1) (d := R256 - 1) (by omega) (by omega) hb0 (by decide)
 have e : (R256 - 1) * (R256 - 1) < R512 := by decide +kernel
 omega
end Go.Proofs.Ytbdgmkejmfjobaa

namespace Go.Proofs.Ytbdgmkejmfjobaa
open Go.RowKit
set_option linter.unusedVariables false
theorem Ar.new1 (w : World) (o : Obj) (c : Array Value) (t : TypeId) : Ar ((w.alloc o).alloc (.cells c t)) (w.heap.size + 1) c := by
 have := Ar.new (w.alloc o) c t
 rw [World.size_alloc] at this
 exact this
theorem Ar.new2 (w : World) (o o' : Obj) (c : Array Value) (t : TypeId) : Ar (((w.alloc o).alloc o').alloc (.cells c t)) (w.heap.size + 1 + 1) c := by
 have := Ar.new ((w.alloc o).alloc o') c t
 rw [World.size_alloc, World.size_alloc] at this
 exact this
theorem Ar.new3 (w : World) (o o' o'' : Obj) (c : Array Value) (t : TypeId) : Ar ((((w.alloc o).alloc o').alloc o'').alloc (.cells c t)) (w.heap.size + 1 + 1 + 1) c := by
 have := Ar.new (((w.alloc o).alloc o').alloc o'') c t
 rw [World.size_alloc, World.size_alloc, World.size_alloc] at this
 exact this
theorem u77 : Try.prog.underlying 108 = some (.slice 22) := by kernel_rfl
theorem i23 : (Try.prog.info? 22).map (·.size) = some 1 := by kernel_rfl
theorem run_cp (w : World) (g o dl dc b o' sl sc n : Nat) (cur src : Array Value) (hg : Ar w g cur) (hs : Ar w b src) (hn : n = Nat.min sl dl) (hf : o + n ≤ cur.size) (hf' : o' + n ≤ src.size) (h1 : src.all (·.oneCell') = true) (res : Array Value)
  (hres : res = (cur.toList.take o ++ (((src.toList.drop o').take n) ++ cur.toList.drop (o + n))).toArray) :
  (Builtin.copy_ #[108, 108] 3 #[.slice (some ⟨g, o, none⟩) dl dc, .slice (some ⟨b, o', none⟩) sl sc]).run Try.prog w = .ok (.int .i64 n) (w.setRow g res) := by
 obtain ⟨t, hg'⟩ := hg
 have hl : ((src.toList.drop o').take n).length = n := by simp; omega
 have := run_copy_row (P := Try.prog) w 108 108 3 22 g o dl dc ⟨b, o', none⟩ sl sc cur t ((src.toList.drop o').take n) u77 i23 hg' (by rw [hl, hn]) (fun j v hv => ?_) (by rw [hl]; exact hf) (fun v hv => ?_)
 ·rw [this, hl, hres, List.append_assoc]
  rfl
 ·have hadd : (⟨b, o', none⟩ : Addr).add j = ⟨b, o' + j, none⟩ := by unfold Addr.add; split <;> simp_all
  rw [hadd, hs.cell]
  rw [List.getElem?_take] at hv
  split at hv
  ·rw [List.getElem?_drop] at hv
   simpa using hv
  ·cases hv
 ·have := List.mem_of_mem_drop (List.mem_of_mem_take hv)
  exact (Array.all_eq_true_iff_forall_mem.1 h1) v (by simpa using this)
end Go.Proofs.Ytbdgmkejmfjobaa

namespace Go.Proofs.Ytbdgmkejmfjobaa
open Go.RowKit
set_option linter.unusedVariables false
def mo (f : Int) : Int :=
 if f = 1 then 57896044618658097711785492504343953926634992332820282019728792003956564819949
 else if f = 2 then 115792089210356248762697446949407573530086143415290314195533631308867097853951
 else if f = 3 then 115792089210356248762697446949407573529996955224135760342422259061068512044369
 else if f = 4 then 7237005577332262213973186563042994240857116359379907606001950938285454250989
 else 0
theorem num_0 : num 0 = #[.int .u64 0, .int .u64 0, .int .u64 0, .int .u64 0] := by kernel_rfl
theorem num_1 : num (mo 1) = #[.int .u64 0xffffffffffffffed, .int .u64 0xffffffffffffffff, .int .u64 0xffffffffffffffff, .int .u64 0x7fffffffffffffff] := by kernel_rfl
theorem num_2 : num (mo 2) = #[.int .u64 0xffffffffffffffff, .int .u64 0x00000000ffffffff, .int .u64 0, .int .u64 0xffffffff00000001] := by kernel_rfl
theorem num_3 : num (mo 3) = #[.int .u64 0xf3b9cac2fc632551, .int .u64 0xbce6faada7179e84, .int .u64 0xffffffffffffffff, .int .u64 0xffffffff00000000] := by kernel_rfl
theorem num_4 : num (mo 4) = #[.int .u64 0x5812631a5cf5d3ed, .int .u64 0x14def9dea2f79cd6, .int .u64 0, .int .u64 0x1000000000000000] := by kernel_rfl
theorem mo_N (f : Int) : N256 (mo f) := by
 unfold mo N256
 repeat' split
 all_goals exact ⟨by decide, by decide⟩
theorem prime1_any (w : World) : Calls Try.prog 76 #[] w fun r w' => r = .returned (.agg (num (mo 1))) ∧ Chg w w' := by
 rw [num_1]
 go_enter Try.func76, Try.ntmps76
 go_wp2
 refine bp_c (n := 4) Try.results76 rfl rfl (Ar.new w _ 24) u25 i25 rfl ⟨rfl, (Chg.refl w).alloc _⟩
theorem prime2_any (w : World) : Calls Try.prog 77 #[] w fun r w' => r = .returned (.agg (num (mo 2))) ∧ Chg w w' := by
 rw [num_2]
 go_enter Try.func77, Try.ntmps77
 go_wp2
 refine bp_c (n := 4) Try.results77 rfl rfl (Ar.new w _ 24) u25 i25 rfl ⟨rfl, (Chg.refl w).alloc _⟩
theorem order3_any (w : World) : Calls Try.prog 78 #[.agg #[]] w fun r w' => r = .returned (.agg (num (mo 3))) ∧ Chg w w' := by
 rw [num_3]
 go_enter Try.func78, Try.ntmps78
 go_wp2
 refine bp_c (n := 4) Try.results78 rfl rfl ?_ u25 i25 rfl ⟨rfl, ((Chg.refl w).alloc _).alloc _⟩
 exact Ar.new1 _ _ _ _
theorem order4_any (w : World) : Calls Try.prog 79 #[.agg #[]] w fun r w' => r = .returned (.agg (num (mo 4))) ∧ Chg w w' := by
 rw [num_4]
 go_enter Try.func79, Try.ntmps79
 go_wp2
 refine bp_c (n := 4) Try.results79 rfl rfl ?_ u25 i25 rfl ⟨rfl, ((Chg.refl w).alloc _).alloc _⟩
 exact Ar.new1 _ _ _ _
end Go.Proofs.Ytbdgmkejmfjobaa

namespace Go.Proofs.Ytbdgmkejmfjobaa
open Go.RowKit
set_option linter.unusedVariables false
theorem arr4 (d : Nat → Int) : arr .u64 4 d = #[.int .u64 (d 0), .int .u64 (d 1), .int .u64 (d 2), .int .u64 (d 3)] := rfl
theorem arr8 (d : Nat → Int) : arr .u64 8 d = #[.int .u64 (d 0), .int .u64 (d 1), .int .u64 (d 2), .int .u64 (d 3), .int .u64 (d 4), .int .u64 (d 5), .int .u64 (d 6), .int .u64 (d 7)] := rfl
set_option maxHeartbeats 1000000 in
theorem join_any (d e : Nat → Int) (w : World) :
  Calls Try.prog 96 #[.agg (arr .u64 4 d), .agg (arr .u64 4 e)] w fun r w' => r = .returned (.agg (arr .u64 8 fun i => if i < 4 then d i else e (i - 4))) ∧ Chg w w' := by
 obtain ⟨W, hW⟩ : ∃ W, W = (((w.alloc (.cells (arr .u64 4 d) 24)).alloc (.cells (arr .u64 4 e) 24)).alloc (.cells #[.int .u64 0, .int .u64 0, .int .u64 0, .int .u64 0, .int .u64 0, .int .u64 0, .int .u64 0, .int .u64 0] 86)).alloc (.cells #[.int .u64 0, .int .u64 0, .int .u64 0, .int .u64 0, .int .u64 0, .int .u64 0, .int .u64 0, .int .u64 0] 86) := ⟨_, rfl⟩
 have a1 : Ar W w.heap.size (arr .u64 4 d) := by rw [hW]; exact (((Ar.new _ _ _).alloc _).alloc _).alloc _
 have a2 : Ar W (w.heap.size + 1) (arr .u64 4 e) := by rw [hW]; exact ((Ar.new1 _ _ _ _).alloc _).alloc _
 have a3 : Ar W (w.heap.size + 1 + 1) (arr .u64 8 fun _ => 0) := by rw [hW]; exact (Ar.new2 _ _ _ _ _).alloc _
 have a4 : Ar W (w.heap.size + 1 + 1 + 1) (arr .u64 8 fun _ => 0) := by rw [hW]; exact Ar.new3 _ _ _ _ _ _
 have hc : Chg w W := by rw [hW]; exact ((((Chg.refl w).alloc _).alloc _).alloc _).alloc _
 have HW : Hid (W = (((w.alloc (.cells (arr .u64 4 d) 24)).alloc (.cells (arr .u64 4 e) 24)).alloc (.cells #[.int .u64 0, .int .u64 0, .int .u64 0, .int .u64 0, .int .u64 0, .int .u64 0, .int .u64 0, .int .u64 0] 86)).alloc (.cells #[.int .u64 0, .int .u64 0, .int .u64 0, .int .u64 0, .int .u64 0, .int .u64 0, .int .u64 0, .int .u64 0] 86)) := hW
 clear hW
 have k1 := run_cp W.drew (w.heap.size + 1 + 1 + 1) 0 4 8 w.heap.size 0 4 4 4 (arr .u64 8 fun _ => 0) (arr .u64 4 d) a4.drew a1.drew rfl (by simp [arr_size]) (by simp [arr_size]) (arr_one _ _ _) (arr .u64 8 fun i => if i < 4 then d i else 0) rfl
 obtain ⟨W2, hW2⟩ : ∃ W2, W2 = W.drew.setRow (w.heap.size + 1 + 1 + 1) (arr .u64 8 fun i => if i < 4 then d i else 0) := ⟨_, rfl⟩
 have b2 : Ar W2 (w.heap.size + 1) (arr .u64 4 e) := by rw [hW2]; exact a2.drew.rowOther (by omega) _
 have b3 : Ar W2 (w.heap.size + 1 + 1) (arr .u64 8 fun _ => 0) := by rw [hW2]; exact a3.drew.rowOther (by omega) _
 have b4 : Ar W2 (w.heap.size + 1 + 1 + 1) (arr .u64 8 fun i => if i < 4 then d i else 0) := by rw [hW2]; exact a4.drew.row _
 have hc2 : Chg w W2 := by rw [hW2]; exact hc.drew.setRow (by omega) _
 have k2 := run_cp W2.drew (w.heap.size + 1 + 1 + 1) 4 4 4 (w.heap.size + 1) 0 4 4 4 (arr .u64 8 fun i => if i < 4 then d i else 0) (arr .u64 4 e) b4.drew b2.drew rfl (by simp [arr_size]) (by simp [arr_size]) (arr_one _ _ _) (arr .u64 8 fun i => if i < 4 then d i else e (i - 4)) rfl
 obtain ⟨W3, hW3⟩ : ∃ W3, W3 = W2.drew.setRow (w.heap.size + 1 + 1 + 1) (arr .u64 8 fun i => if i < 4 then d i else e (i - 4)) := ⟨_, rfl⟩
 have c3 : Ar W3 (w.heap.size + 1 + 1) (arr .u64 8 fun _ => 0) := by rw [hW3]; exact b3.drew.rowOther (by omega) _
 have c4 : Ar W3 (w.heap.size + 1 + 1 + 1) (arr .u64 8 fun i => if i < 4 then d i else e (i - 4)) := by rw [hW3]; exact b4.drew.row _
 have hc3 : Chg w W3 := by rw [hW3]; exact hc2.drew.setRow (by omega) _
 rw [← hW2] at k1
 rw [← hW3] at k2
 obtain ⟨x0, x1, x2, x3, x4, x5, x6, x7⟩ := c4.eight
 obtain ⟨y0, y1, y2, y3, y4, y5, y6, y7⟩ := c3.eight
 obtain ⟨f0, f1, f2, f3, f4, f5, f6, f7⟩ := c3.free8
 have C3 : Hid (Ar W3 (w.heap.size + 1 + 1) (arr .u64 8 fun _ => 0)) := c3
 have HC : Hid (Chg w W3) := hc3
 clear a1 a2 a3 a4 b2 b3 b4 c3 c4 hc hc2 hc3 hW2 hW3
 go_enter Try.func96, Try.ntmps96
 go_wp2_with fail
 rw [← HW.out]
 clear HW
 go_region_with (fail)
 all_goals go_wp2_with fail
 all_goals go_region_with (fail)
 all_goals go_wp2
 all_goals
  refine bp_c (n := 8) (c := arr .u64 8 fun i => if i < 4 then d i else e (i - 4)) Try.results96 rfl rfl ?_ u55 i55 (arr_size _ _ _) ⟨rfl, ?_⟩
  ·exact (((((((C3.out.set 0 _).set 1 _).set 2 _).set 3 _).set 4 _).set 5 _).set 6 _).set 7 _
  ·exact (((((((HC.out.setCell (by dsimp only; omega) _).setCell (by dsimp only; omega) _).setCell (by dsimp only; omega) _).setCell (by dsimp only; omega) _).setCell (by dsimp only; omega) _).setCell (by dsimp only; omega) _).setCell (by dsimp only; omega) _).setCell (by dsimp only; omega) _
end Go.Proofs.Ytbdgmkejmfjobaa

namespace Go.Proofs.Ytbdgmkejmfjobaa
open Go.RowKit
set_option linter.unusedVariables false
theorem val_split {B : Int} (n m : Nat) (d : Nat → Int) : val B (n + m) d = val B n d + B ^ n * val B m (fun i => d (n + i)) := by
 induction m with
 | zero => simp [val]
 | succ m ih =>
  rw [← Nat.add_assoc, val1, ih, val1, Int.pow_add]
  grind
theorem bp_cc {fn : Func} {R : Ending → World → Prop} {a : Act} {w : World} {p q b b' n n' : Nat} {ty e ty' e' : TypeId} {c c' : Array Value} (h : fn.results = #[.cell p ty, .cell q ty']) (hd : a.defers = []) (hp : a.tmps.getD p undef = .pointer (some ⟨b, 0, none⟩)) (hq : a.tmps.getD q undef = .pointer (some ⟨b', 0, none⟩)) (ha : Ar w b c) (ha' : Ar w b' c')
  (hu : Try.prog.underlying ty = some (.array n e)) (hi : (Try.prog.info? ty).map (·.size) = some n) (hc : c.size = n) (hu' : Try.prog.underlying ty' = some (.array n' e')) (hi' : (Try.prog.info? ty').map (·.size) = some n') (hc' : c'.size = n') (hR : R (.returned (.tuple #[.agg c, .agg c'])) w) : bodyPost Try.prog fn R .ret a w := by
 refine bodyPost_ret (v := .tuple #[.agg c, .agg c']) ?_ hd hR
 rw [Array.getD_eq_getD_getElem?] at hp hq
 simp only [results, h]
 simp [Sem.run_bind, Result.andThen, hp, hq, asAddr, ha.loadVar ty hu hi hc, ha'.loadVar ty' hu' hi' hc']
theorem join_num (a b : Int) (ha : N256 a) (hb : N256 b) (w : World) :
  Calls Try.prog 96 #[.agg (num a), .agg (num b)] w fun r w' => r = .returned (.agg (wid (a + R256 * b))) ∧ Chg w w' := by
 refine (join_any (dg B64 a) (dg B64 b) w).mono ?_
 rintro r w' ⟨rfl, hc⟩
 have hw : ∀ i, W64 ((fun i => if i < 4 then dg B64 a i else dg B64 b (i - 4)) i) := by
  intro i
  dsimp only
  split
  ·exact dg_w a i
  ·exact dg_w b _
 rw [arr_wid hw]
 have e1 := val_split (B := B64) 4 4 (fun i => if i < 4 then dg B64 a i else dg B64 b (i - 4))
 have e2 : val B64 4 (fun i => if i < 4 then dg B64 a i else dg B64 b (i - 4)) = val B64 4 (dg B64 a) := val_congr fun i hi => by simp [hi]
 have e3 : val B64 4 (fun i => (fun i => if i < 4 then dg B64 a i else dg B64 b (i - 4)) (4 + i)) = val B64 4 (dg B64 b) := val_congr fun i hi => by
  have : ¬ 4 + i < 4 := by omega
  have e : 4 + i - 4 = i := by omega
  simp [this, e]
 rw [e2, e3, val4 a ha.1 ha.2, val4 b hb.1 hb.2, p4] at e1
 rw [show (8 : Nat) = 4 + 4 from rfl, e1]
 exact ⟨rfl, hc⟩
set_option maxHeartbeats 1000000 in
theorem halves_any (d : Nat → Int) (w : World) :
  Calls Try.prog 98 #[.agg (arr .u64 8 d)] w fun r w' => r = .returned (.tuple #[.agg (arr .u64 4 d), .agg (arr .u64 4 fun i => d (4 + i))]) ∧ Chg w w' := by
 obtain ⟨W, hW⟩ : ∃ W, W = ((w.alloc (.cells (arr .u64 8 d) 86)).alloc (.cells #[.int .u64 0, .int .u64 0, .int .u64 0, .int .u64 0] 24)).alloc (.cells #[.int .u64 0, .int .u64 0, .int .u64 0, .int .u64 0] 24) := ⟨_, rfl⟩
 have a1 : Ar W w.heap.size (arr .u64 8 d) := by rw [hW]; exact ((Ar.new _ _ _).alloc _).alloc _
 have a2 : Ar W (w.heap.size + 1) (arr .u64 4 fun _ => 0) := by rw [hW]; exact (Ar.new1 _ _ _ _).alloc _
 have a3 : Ar W (w.heap.size + 1 + 1) (arr .u64 4 fun _ => 0) := by rw [hW]; exact Ar.new2 _ _ _ _ _
 have hc : Chg w W := by rw [hW]; exact (((Chg.refl w).alloc _).alloc _).alloc _
 have HW : Hid (W = ((w.alloc (.cells (arr .u64 8 d) 86)).alloc (.cells #[.int .u64 0, .int .u64 0, .int .u64 0, .int .u64 0] 24)).alloc (.cells #[.int .u64 0, .int .u64 0, .int .u64 0, .int .u64 0] 24)) := hW
 clear hW
 have k1 := run_cp W.drew (w.heap.size + 1) 0 4 4 w.heap.size 0 4 8 4 (arr .u64 4 fun _ => 0) (arr .u64 8 d) a2.drew a1.drew rfl (by simp [arr_size]) (by simp [arr_size]) (arr_one _ _ _) (arr .u64 4 d) rfl
 obtain ⟨W2, hW2⟩ : ∃ W2, W2 = W.drew.setRow (w.heap.size + 1) (arr .u64 4 d) := ⟨_, rfl⟩
 have b1 : Ar W2 w.heap.size (arr .u64 8 d) := by rw [hW2]; exact a1.drew.rowOther (by omega) _
 have b2 : Ar W2 (w.heap.size + 1) (arr .u64 4 d) := by rw [hW2]; exact a2.drew.row _
 have b3 : Ar W2 (w.heap.size + 1 + 1) (arr .u64 4 fun _ => 0) := by rw [hW2]; exact a3.drew.rowOther (by omega) _
 have hc2 : Chg w W2 := by rw [hW2]; exact hc.drew.setRow (by omega) _
 have k2 := run_cp W2.drew (w.heap.size + 1 + 1) 0 4 4 w.heap.size 4 4 4 4 (arr .u64 4 fun _ => 0) (arr .u64 8 d) b3.drew b1.drew rfl (by simp [arr_size]) (by simp [arr_size]) (arr_one _ _ _) (arr .u64 4 fun i => d (4 + i)) rfl
 obtain ⟨W3, hW3⟩ : ∃ W3, W3 = W2.drew.setRow (w.heap.size + 1 + 1) (arr .u64 4 fun i => d (4 + i)) := ⟨_, rfl⟩
 have c2 : Ar W3 (w.heap.size + 1) (arr .u64 4 d) := by rw [hW3]; exact b2.drew.rowOther (by omega) _
 have c3 : Ar W3 (w.heap.size + 1 + 1) (arr .u64 4 fun i => d (4 + i)) := by rw [hW3]; exact b3.drew.row _
 have hc3 : Chg w W3 := by rw [hW3]; exact hc2.drew.setRow (by omega) _
 rw [← hW2] at k1
 rw [← hW3] at k2
 obtain ⟨x0, x1, x2, x3⟩ := c2.four
 obtain ⟨y0, y1, y2, y3⟩ := c3.four
 obtain ⟨f0, f1, f2, f3⟩ := c2.free4
 obtain ⟨g0, g1, g2, g3⟩ := c3.free4
 have C2 : Hid (Ar W3 (w.heap.size + 1) (arr .u64 4 d)) := c2
 have C3 : Hid (Ar W3 (w.heap.size + 1 + 1) (arr .u64 4 fun i => d (4 + i))) := c3
 have HC : Hid (Chg w W3) := hc3
 clear a1 a2 a3 b1 b2 b3 c2 c3 hc hc2 hc3 hW2 hW3
 go_enter Try.func98, Try.ntmps98
 go_wp2_with fail
 rw [← HW.out]
 clear HW
 go_region_with (fail)
 all_goals go_wp2_with fail
 all_goals go_region_with (fail)
 all_goals go_wp2
 all_goals
  refine bp_cc (n := 4) (n' := 4) (c := arr .u64 4 d) (c' := arr .u64 4 fun i => d (4 + i)) Try.results98 rfl rfl rfl ?_ ?_ u25 i25 (arr_size _ _ _) u25 i25 (arr_size _ _ _) ⟨rfl, ?_⟩
  ·exact ((((((((C2.out.set 0 _).set 1 _).set 2 _).set 3 _).other (by dsimp only; omega) _).other (by dsimp only; omega) _).other (by dsimp only; omega) _).other (by dsimp only; omega) _)
  ·exact ((((((((C3.out.other (by dsimp only; omega) _).other (by dsimp only; omega) _).other (by dsimp only; omega) _).other (by dsimp only; omega) _).set 0 _).set 1 _).set 2 _).set 3 _)
  ·exact (((((((HC.out.setCell (by dsimp only; omega) _).setCell (by dsimp only; omega) _).setCell (by dsimp only; omega) _).setCell (by dsimp only; omega) _).setCell (by dsimp only; omega) _).setCell (by dsimp only; omega) _).setCell (by dsimp only; omega) _).setCell (by dsimp only; omega) _
theorem halves_num (x : Int) (hx : N512 x) (w : World) :
  Calls Try.prog 98 #[.agg (wid x)] w fun r w' => r = .returned (.tuple #[.agg (num (x % R256)), .agg (num (x / R256))]) ∧ Chg w w' := by
 refine (halves_any (dg B64 x) w).mono ?_
 rintro r w' ⟨rfl, hc⟩
 have hw : ∀ i, W64 ((fun i => dg B64 x (4 + i)) i) := fun i => dg_w x _
 have e1 := val_split (B := B64) 4 4 (dg B64 x)
 rw [show 4 + 4 = 8 from rfl, val8 x hx.1 hx.2, val_dg B64_pos, p4] at e1
 rw [arr_num (dg_w x), arr_num hw, val_dg B64_pos, p4]
 have e2 : val B64 4 (fun i => dg B64 x (4 + i)) = x / R256 := by
  unfold R256 at *
  omega
 rw [e2]
 exact ⟨rfl, hc⟩
end Go.Proofs.Ytbdgmkejmfjobaa
