/-
  What ends the bytes, and the sum's bytes: the functions ending and sumOf.
  What ends the bytes: the function ending.
  The sum so far: the functions Sum, New, Clone, Hash.
  The sum of parts: the function Of.
-/
import Derived.Test.YtjfidbifjagnpaaDoorJsb
import Derived.Laws.MakeOwn
import Derived.Test.YtjfidbifjagnpaaDoorSWri2
namespace Go.Proofs.YtjfidbifjagnpaaDoor.Sha
open Go.RowKit
set_option linter.unusedVariables false
set_option maxRecDepth 100000
theorem mk8 (n : Nat) (hn : n ≤ 1000000) (w : World) : (Instr.makeSlice 23 (.int .i64 n) (.int .i64 n)).run Tryd.prog w = .ok (.slice (some ⟨w.heap.size, 0, none⟩) n n) (w.alloc (.cells (arr .u8 n fun _ => 0) 5)) := by
 have hi : (Tryd.prog.info? 5).map (fun i => (i.zero, i.size, i.bytes)) = some (some (.int .u8 0), 1, 1) := by kernel_rfl
 cases hq : Tryd.prog.info? 5 with
 | none => rw [hq] at hi; cases hi
 | some i =>
  rw [hq] at hi
  have hi := Option.some.inj hi
  have h1 : i.zero = some (.int .u8 0) := congrArg (·.1) hi
  have h2 : i.size = 1 := congrArg (·.2.1) hi
  have h3 : i.bytes = 1 := congrArg (·.2.2) hi
  have := run_make (P := Tryd.prog) w 23 5 i _ u23 hq h1 .i64 .i64 n n (by omega) (by omega) (by rw [h3]; omega) (by omega)
  rw [this, h2]
  have e : madeCells (Value.int .u8 0).cells ((n : Int).toNat * 1) = arr .u8 n fun _ => 0 := by
   apply Array.ext_getElem?
   intro j
   by_cases hj : j < n
   ·simp [madeCells, arr, Value.cells, hj, Nat.mod_one]
   ·simp [madeCells, arr, Value.cells, hj]
  rw [e]
  simp
def sumByte (h : Int) (st : Nat → Int) (i : Nat) : Int := IntKind.u8.wrap (st (i / (blockOf h / 16)) / 2 ^ (8 * (blockOf h / 16 - 1 - i % (blockOf h / 16))))
def sumUp (h : Int) (st : Nat → Int) (i : Nat) : Nat → Int := fun j => if j < i then sumByte h st j else 0
set_option maxHeartbeats 4000000 in
theorem sumOf_any (q : Int) (st : Nat → Int) (w : World) (hv : Valid q) :
  Calls Tryd.prog 76 #[.int .i64 q, .agg (arr .u64 8 st)] w fun r w' => ∃ b, r = .returned (.slice (some ⟨b, 0, none⟩) (sizeOfH q) (sizeOfH q)) ∧ w.heap.size ≤ b ∧ Chg w w' ∧ Ar w' b (arr .u8 (sizeOfH q) (sumByte q st)) := by
 obtain ⟨B, hB⟩ : ∃ B, B = blockOf q := ⟨_, rfl⟩
 obtain ⟨S, hS⟩ : ∃ S, S = sizeOfH q := ⟨_, rfl⟩
 have HB : Hid (∀ u, Calls Tryd.prog 72 #[.int .i64 q] u fun r w' => r = .returned (.int .i64 B) ∧ w' = u) := by
  intro u
  rw [hB]
  exact block_any q u
 have HSz : Hid (∀ u, Calls Tryd.prog 74 #[.int .i64 q] u fun r w' => r = .returned (.int .i64 S) ∧ w' = u) := by
  intro u
  rw [hS]
  exact size_any q u
 rw [← hS]
 obtain ⟨z, hz⟩ : ∃ z : Nat, z = B / 16 := ⟨_, rfl⟩
 have hq1 : (B : Int).tdiv 16 = z := by rw [Int.tdiv_eq_ediv_of_nonneg (by omega), hz]; rfl
 have hzS : (z = 4 ∧ S = 32) ∨ (z = 8 ∧ (S = 48 ∨ S = 64)) := by
  rw [hz, hB, hS]
  rcases hv with rfl | rfl | rfl
  ·exact .inl ⟨rfl, rfl⟩
  ·exact .inr ⟨rfl, .inl rfl⟩
  ·exact .inr ⟨rfl, .inr rfl⟩
 have HZ : Hid (B = blockOf q ∧ z = B / 16 ∧ ((z = 4 ∧ S = 32) ∨ (z = 8 ∧ (S = 48 ∨ S = 64)))) := ⟨hB, hz, hzS⟩
 have hzw := wrap_i (x := (z : Int)) (by omega) (by omega)
 have hz0 : ¬ (z : Int) = 0 := by omega
 have hS0 : (0 : Int) ≤ S := by omega
 have hS64 : S ≤ 64 := by omega
 have hmk := mk8 S (by omega)
 clear hB hS hv hz
 go_enter Tryd.func76, Tryd.ntmps76
 go_wp2_with (first | (go_at_call 72; (refine (HB.out _).mono ?_; rintro r w1 ⟨rfl, hw1⟩; rw [hw1])) | (go_at_call 74; (refine (HSz.out _).mono ?_; rintro r w2 ⟨rfl, hw2⟩; rw [hw2])))
 obtain ⟨w3, hw3⟩ : ∃ w3, w3 = (w.alloc (.cells (arr .u64 8 st) 74)).alloc (.cells (arr .u8 S fun _ => 0) 5) := ⟨_, rfl⟩
 rw [← hw3]
 have z0 : Hid (Chg w w3 ∧ Ar w3 w.heap.size (arr .u64 8 st) ∧ Ar w3 (w.heap.size + 1) (arr .u8 S (sumUp q st 0))) := by
  rw [hw3]
  exact ⟨((Chg.refl w).alloc _).alloc _, (Ar.new w _ _).alloc _, Ar.new1 w _ _ _⟩
 clear hw3 hmk
 go_loopw [16] (fun v wr => ∃ (i : Nat), v = .int .i64 i ∧ i ≤ S ∧ Chg w wr ∧ Ar wr w.heap.size (arr .u64 8 st) ∧ Ar wr (w.heap.size + 1) (arr .u8 S (sumUp q st i))) (fun v wr => S - (intOf v).toNat)
 case atStart => exact ⟨0, rfl, by omega, z0.out.1, z0.out.2.1, z0.out.2.2⟩
 case round =>
  clear z0
  obtain ⟨i, rfl, hi, hch, h1, h2⟩ := hrel
  have HC : Hid (Chg w wr) := hch
  have H1 : Hid (Ar wr w.heap.size (arr .u64 8 st)) := h1
  have H2 : Hid (Ar wr (w.heap.size + 1) (arr .u8 S (sumUp q st i))) := h2
  by_cases hiS : i < S
  ·obtain ⟨a, ha⟩ : ∃ a : Nat, a = i / z := ⟨_, rfl⟩
   obtain ⟨e, he⟩ : ∃ e : Nat, e = i % z := ⟨_, rfl⟩
   have hdiv : (i : Int).tdiv z = a := by rw [Int.tdiv_eq_ediv_of_nonneg (by omega), ha]; rfl
   have hmod : (i : Int).tmod z = e := by rw [Int.tmod_eq_emod_of_nonneg (by omega), he]; rfl
   have hez : e < z := by rw [he]; exact Nat.mod_lt _ (by omega)
   have haz : a < 8 := by
    rw [ha]
    rcases hzS with ⟨e1, e2⟩ | ⟨e1, e2 | e2⟩
    ·rw [e1]; omega
    ·rw [e1]; omega
    ·rw [e1]; omega
   obtain ⟨z1, hz1⟩ : ∃ z1 : Nat, (z : Int) - 1 = z1 := ⟨z - 1, by omega⟩
   obtain ⟨s1, hs1⟩ : ∃ s1 : Nat, (z1 : Int) - e = s1 := ⟨z1 - e, by omega⟩
   obtain ⟨s, hs⟩ : ∃ s : Nat, 8 * (s1 : Int) = s := ⟨8 * s1, by omega⟩
   have wz1 := wrap_i (x := (z1 : Int)) (by omega) (by omega)
   have ws1 := wrap_i (x := (s1 : Int)) (by omega) (by omega)
   have ws := wrap_i (x := (s : Int)) (by omega) (by omega)
   have wa := wrap_i (x := (a : Int)) (by omega) (by omega)
   have we := wrap_i (x := (e : Int)) (by omega) (by omega)
   have ls : (s : Int) ≤ 64 := by omega
   have la : (a : Int) < 8 := by omega
   have li : (i : Int) < S := by omega
   obtain ⟨x, hx⟩ : ∃ x, x = st a := ⟨_, rfl⟩
   have c0 := (h1.cell a).trans (arr_get .u64 8 st haz)
   rw [← hx] at c0
   have c1 := (h2.cell i).trans (arr_get .u8 S (sumUp q st i) hiS)
   obtain ⟨y0, hy0⟩ : ∃ x, x = sumUp q st i i := ⟨_, rfl⟩
   rw [← hy0] at c1
   have f1 := h2.frozen i
   have hid : decide ((i : Int) < S) = true := by simp; omega
   have HX : Hid (IntKind.u8.wrap (x / 2 ^ s) = sumByte q st i) := by
    show _ = sumByte q st i
    obtain ⟨hB, hz, _⟩ := HZ.out
    have e0 : blockOf q / 16 = z := by rw [← hB, hz]
    have e1 : 8 * (z - 1 - i % z) = s := by omega
    rw [sumByte, e0, e1, ← ha, hx]
   have HZ1 : Hid (1 ≤ S) := by show 1 ≤ S; omega
   clear ha he hx hy0 hch h1 h2 hzS
   go_wp2_with fail
   go_region_with (fail)
   all_goals go_wp2
   all_goals
    have hX := HX.out
    rw [IntKind.wrap_u8] at hX
    go_roundw
    case rel =>
     refine ⟨i + 1, by go_num, by omega, (HC.out.setCell (by dsimp only; omega) _).drew, (H1.out.other (by dsimp only; omega) _).drew, ?_⟩
     have hh := H2.out.set i (.int .u8 (x / 2 ^ s % 256))
     rw [arr_set] at hh
     have e : upd (sumUp q st i) i (x / 2 ^ s % 256) = sumUp q st (i + 1) := by
      funext j
      unfold upd sumUp
      by_cases hj : j = i
      ·subst hj; simp [hX]
      ·have e : (j < i + 1) ↔ j < i := by omega
       simp [hj, e]
     rw [e] at hh
     exact hh.drew
    case measure => simp [intOf]; omega
  ·have hid : decide ((i : Int) < S) = false := by simp; omega
   have hiS' : i = S := by omega
   have e : arr .u8 S (sumUp q st i) = arr .u8 S (sumByte q st) := arr_congr fun j hj => by unfold sumUp; rw [if_pos (by omega)]
   rw [e] at h2
   have H2' : Hid (Ar wr (w.heap.size + 1) (arr .u8 S (sumByte q st))) := h2
   clear hch h1 h2 e hiS' H2 hzS
   go_wp2
   go_ret
   exact ⟨w.heap.size + 1, rfl, by omega, HC.out, H2'.out⟩
end Go.Proofs.YtjfidbifjagnpaaDoor.Sha
namespace Go.Proofs.YtjfidbifjagnpaaDoor.Sha
open Go.RowKit
set_option linter.unusedVariables false
set_option maxRecDepth 100000
def endN (q : Int) (r : Nat) : Nat := 1 + (2 * blockOf q - r - 1 - blockOf q / 8) % blockOf q + blockOf q / 8
def endUp (T : Nat) (c : Int) (i : Nat) : Nat → Int := fun j => if j = 0 then 128 else if T - i ≤ j then IntKind.u8.wrap (IntKind.u64.wrap (c * 8) / 2 ^ (8 * (T - 1 - j))) else 0
def endB (T : Nat) (c : Int) : Nat → Int := endUp T c 8
set_option maxHeartbeats 4000000 in
theorem ending_any (D : Nat) (q : Int) (st rest : Nat → Int) (r : Nat) (c : Int) (w : World) (hv : Valid q) (hd : Ar w D (dig q st rest (r : Int) c)) (hr : r < blockOf q) :
  Calls Tryd.prog 75 #[.pointer (some ⟨D, 0, none⟩)] w fun e w' => e = .returned (.slice (some ⟨w.heap.size, 0, none⟩) (endN q r) (endN q r)) ∧ Chg w w' ∧ Ar w' w.heap.size (arr .u8 (endN q r) (endB (endN q r) c)) := by
 obtain ⟨B, hB⟩ : ∃ B, B = blockOf q := ⟨_, rfl⟩
 have HB : Hid (∀ u, Calls Tryd.prog 72 #[.int .i64 q] u fun r w' => r = .returned (.int .i64 B) ∧ w' = u) := by
  intro u
  rw [hB]
  exact block_any q u
 have hBp : (B = 64 ∨ B = 128) := by
  rw [hB]
  rcases hv.block with ⟨e, _⟩ | ⟨e, _⟩
  ·exact .inl e
  ·exact .inr e
 rw [← hB] at hr
 obtain ⟨l, hl⟩ : ∃ l : Nat, l = B / 8 := ⟨_, rfl⟩
 have hq1 : (B : Int).tdiv 8 = l := by rw [Int.tdiv_eq_ediv_of_nonneg (by omega), hl]; rfl
 obtain ⟨m2, hm2⟩ : ∃ m : Nat, 2 * (B : Int) = m := ⟨2 * B, by omega⟩
 obtain ⟨m3, hm3⟩ : ∃ m : Nat, (m2 : Int) - r = m := ⟨m2 - r, by omega⟩
 obtain ⟨m4, hm4⟩ : ∃ m : Nat, (m3 : Int) - 1 = m := ⟨m3 - 1, by omega⟩
 obtain ⟨m5, hm5⟩ : ∃ m : Nat, (m4 : Int) - l = m := ⟨m4 - l, by omega⟩
 obtain ⟨g, hg⟩ : ∃ g : Nat, g = m5 % B := ⟨_, rfl⟩
 have hgB : g < B := by rw [hg]; exact Nat.mod_lt _ (by omega)
 have hq2 : (m5 : Int).tmod B = g := by rw [Int.tmod_eq_emod_of_nonneg (by omega), hg]; rfl
 obtain ⟨g1, hg1⟩ : ∃ m : Nat, 1 + (g : Int) = m := ⟨1 + g, by omega⟩
 obtain ⟨T, hT⟩ : ∃ m : Nat, (g1 : Int) + l = m := ⟨g1 + l, by omega⟩
 have hTe : endN q r = T := by
  unfold endN
  rw [← hB, ← hl]
  have : 2 * B - r - 1 - l = m5 := by omega
  rw [this, ← hg]
  omega
 rw [hTe]
 have wl := wrap_i (x := (l : Int)) (by omega) (by omega)
 have w2 := wrap_i (x := (m2 : Int)) (by omega) (by omega)
 have w3 := wrap_i (x := (m3 : Int)) (by omega) (by omega)
 have w4 := wrap_i (x := (m4 : Int)) (by omega) (by omega)
 have w5 := wrap_i (x := (m5 : Int)) (by omega) (by omega)
 have wg := wrap_i (x := (g : Int)) (by omega) (by omega)
 have wg1 := wrap_i (x := (g1 : Int)) (by omega) (by omega)
 have wT := wrap_i (x := (T : Int)) (by omega) (by omega)
 have hB0 : ¬ (B : Int) = 0 := by omega
 have hTb : 9 ≤ T ∧ T ≤ 200 := by omega
 have hT0 : (0 : Int) < T := by omega
 have hmk := mk8 T (by omega)
 have n0 := ((Ar.new w (arr .u8 T fun _ => 0) 5).cell 0).trans (arr_get .u8 T (fun _ => 0) (by omega))
 have n1 := (Ar.new w (arr .u8 T fun _ => 0) 5).frozen 0
 have c0 := (hd.cell 0).trans (dig_hash _ _ _ _ _)
 have c7 := (hd.cell 137).trans (dig_held _ _ _ _ _)
 have HD : Hid (Ar w D (dig q st rest (r : Int) c) ∧ D < w.heap.size) := ⟨hd, hd.lt⟩
 clear hTe hB hl hg hd hv hBp hr
 go_enter Tryd.func75, Tryd.ntmps75
 go_wp2_with (first | (go_at_call 72; (refine (HB.out _).mono ?_; rintro r' w1 ⟨rfl, hw1⟩; rw [hw1])))
 obtain ⟨w9, hw9⟩ : ∃ w9, w9 = w.alloc (.cells ((arr .u8 T fun _ => 0).setIfInBounds 0 (.int .u8 128)) 5) := ⟨_, rfl⟩
 rw [← hw9]
 have z0 : Hid (Chg w w9 ∧ Ar w9 w.heap.size (arr .u8 T (endUp T c 0))) := by
  rw [hw9, arr_set]
  refine ⟨(Chg.refl w).alloc _, ?_⟩
  have e : arr .u8 T (upd (fun _ => 0) 0 128) = arr .u8 T (endUp T c 0) := arr_congr fun j hj => by
   unfold upd endUp
   by_cases h0 : j = 0
   ·simp [h0]
   ·have h1 : ¬ T - 0 ≤ j := by omega
    simp only [h0, h1, if_false]
  rw [e]
  exact Ar.new w _ _
 clear hw9 hmk n0 n1 c0 c7
 go_loopw [34] (fun v wr => ∃ (i : Nat), v = .int .i64 i ∧ i ≤ 8 ∧ Chg w wr ∧ Ar wr w.heap.size (arr .u8 T (endUp T c i))) (fun v wr => 8 - (intOf v).toNat)
 case atStart => exact ⟨0, rfl, by omega, z0.out.1, z0.out.2⟩
 case round =>
  clear z0
  obtain ⟨i, rfl, hi, hch, h1⟩ := hrel
  have HC : Hid (Chg w wr) := hch
  have H1 : Hid (Ar wr w.heap.size (arr .u8 T (endUp T c i))) := h1
  by_cases hi8 : i < 8
  ·have hid : decide ((i : Int) < 8) = true := by simp; omega
   obtain ⟨t1, ht1⟩ : ∃ m : Nat, (T : Int) - 1 = m := ⟨T - 1, by omega⟩
   obtain ⟨j, hj⟩ : ∃ m : Nat, (t1 : Int) - i = m := ⟨t1 - i, by omega⟩
   obtain ⟨s, hs⟩ : ∃ m : Nat, 8 * (i : Int) = m := ⟨8 * i, by omega⟩
   have wt1 := wrap_i (x := (t1 : Int)) (by omega) (by omega)
   have wj := wrap_i (x := (j : Int)) (by omega) (by omega)
   have ws := wrap_i (x := (s : Int)) (by omega) (by omega)
   have ls : (s : Int) ≤ 64 := by omega
   have lj : (j : Int) < T := by omega
   have c8 := ((HD.out.1.chg hch).cell 138).trans (dig_count _ _ _ _ _)
   have c1 := (h1.cell j).trans (arr_get .u8 T (endUp T c i) (i := j) (by omega))
   obtain ⟨y0, hy0⟩ : ∃ x, x = endUp T c i j := ⟨_, rfl⟩
   rw [← hy0] at c1
   have f1 := h1.frozen j
   clear hy0 hch h1
   go_wp2
   go_roundw
   case rel =>
    have hDl := HD.out.2
    refine ⟨i + 1, by go_num, by omega, HC.out.setCell (by dsimp only; omega) _, ?_⟩
    have hh := H1.out.set j (.int .u8 (IntKind.u8.wrap (IntKind.u64.wrap (c * 8) / 2 ^ s)))
    rw [arr_set] at hh
    have e : arr .u8 T (upd (endUp T c i) j (IntKind.u8.wrap (IntKind.u64.wrap (c * 8) / 2 ^ s))) = arr .u8 T (endUp T c (i + 1)) := arr_congr fun k hk => by
     unfold upd endUp
     by_cases hkj : k = j
     ·have e0 : ¬ j = 0 := by omega
      have e1 : T - (i + 1) ≤ j := by omega
      have e2 : 8 * (T - 1 - j) = s := by omega
      simp only [hkj, e0, e1, e2, if_true, if_false]
     ·have e1 : (T - (i + 1) ≤ k) ↔ (T - i ≤ k) := by omega
      simp only [hkj, e1, if_false]
    rw [e] at hh
    simp only [IntKind.wrap_u8, IntKind.wrap_u64] at hh ⊢
    exact hh
   case measure => simp [intOf]; omega
  ·have hid : decide ((i : Int) < 8) = false := by simp; omega
   have hi8' : i = 8 := by omega
   have H1' : Hid (Ar wr w.heap.size (arr .u8 T (endUp T c 8))) := by
    have := h1
    rw [hi8'] at this
    exact this
   clear hch h1 hi8' H1
   go_wp2
   go_ret
   exact ⟨rfl, HC.out, H1'.out⟩
end Go.Proofs.YtjfidbifjagnpaaDoor.Sha
namespace Go.Proofs.YtjfidbifjagnpaaDoor.Sha
open Go.RowKit
set_option linter.unusedVariables false
set_option maxRecDepth 100000
def endL (q : Int) (all : List Int) : List Int := (List.range (endN q (all.length % blockOf q))).map (endB (endN q (all.length % blockOf q)) (cnt all))
def sumSt (q : Int) (all : List Int) : Nat → Int := stOf q (all ++ endL q all)
theorem gd_map_range (n : Nat) (f : Nat → Int) {j : Nat} (h : j < n) : gd ((List.range n).map f) j = f j := by
 simp [gd, List.getD_eq_getElem?_getD, h]
set_option maxHeartbeats 4000000 in
theorem sum_any (D : Nat) (q : Int) (all : List Int) (w : World) (hv : Valid q) (ht : Tabs w) (hd : DgC w D q all (cnt all)) :
  Calls Tryd.prog 59 #[.pointer (some ⟨D, 0, none⟩)] w fun r w' => ∃ b, r = .returned (.slice (some ⟨b, 0, none⟩) (sizeOfH q) (sizeOfH q)) ∧ w.heap.size ≤ b ∧ Chg w w' ∧ Ar w' b (arr .u8 (sizeOfH q) (sumByte q (sumSt q all))) := by
 obtain ⟨S, hS⟩ : ∃ S, S = sizeOfH q := ⟨_, rfl⟩
 have HSz : Hid (∀ u, Calls Tryd.prog 74 #[.int .i64 q] u fun r w' => r = .returned (.int .i64 S) ∧ w' = u) := by
  intro u
  rw [hS]
  exact size_any q u
 have hS0 : ¬ (S : Int) = 0 := by
  rw [hS]
  rcases hv with rfl | rfl | rfl <;> decide
 obtain ⟨rest, hd1, hd2⟩ := hd
 obtain ⟨r, hr⟩ : ∃ r, r = all.length % blockOf q := ⟨_, rfl⟩
 have hrB : r < blockOf q := by rw [hr]; exact Nat.mod_lt _ (by have := hv.pos; omega)
 rw [← hr] at hd1 hd2
 obtain ⟨X, hX⟩ : ∃ X, X = dig q (stOf q all) rest (r : Int) (cnt all) := ⟨_, rfl⟩
 have c0 := (hd1.cell 0).trans (dig_hash _ _ _ _ _)
 obtain ⟨f, hf⟩ := str44
 obtain ⟨t1, hg1⟩ := hd1
 rw [← hX] at hg1
 have hz' : (Tryd.prog.info? 83).map (·.size) = some X.size := by rw [hX, dig_size]; exact zero44.2
 have hl' : (dig 0 (fun _ => 0) (fun _ => 0) 0 0).size = X.size := by rw [hX, dig_size, dig_size]
 have ho' : X.all (·.oneCell') = true := by rw [hX]; exact dig_one _ _ _ _ _
 have hz := zero44.1
 have HX : Hid (X = dig q (stOf q all) rest (r : Int) (cnt all) ∧ ∀ j, j < r → rest j = gd all (blockOf q * (all.length / blockOf q) + j)) := ⟨hX, hd2⟩
 have HV : Hid (Valid q ∧ Tabs w ∧ S = sizeOfH q ∧ r = all.length % blockOf q ∧ r < blockOf q) := ⟨hv, ht, hS, hr, hrB⟩
 rw [← hS]
 clear hS hv ht hX hd2 hr hrB
 obtain ⟨E, hE⟩ : ∃ E, E = w.heap.size := ⟨_, rfl⟩
 obtain ⟨w2, hw2⟩ : ∃ w2, w2 = (w.alloc (.cells (dig 0 (fun _ => 0) (fun _ => 0) 0 0) 83)).setRow w.heap.size X := ⟨_, rfl⟩
 have a2 : Ar w2 E X := by
  rw [hw2, hE]
  exact (Ar.new w _ _).row _
 have k2 : Chg w w2 := by
  rw [hw2]
  exact ((Chg.refl w).alloc _).setRow (Nat.le_refl _) _
 have e2 : w2.heap.size = E + 1 := by rw [hw2, size_setRow, World.size_alloc, hE]
 obtain ⟨T, hT⟩ : ∃ T, T = endN q r := ⟨_, rfl⟩
 obtain ⟨L, hL⟩ : ∃ L, L = endL q all := ⟨_, rfl⟩
 have hLT : L.length = T := by
  rw [hL, endL, ← HV.out.2.2.2.1, ← hT]
  simp
 have HE : Hid (Calls Tryd.prog 75 #[.pointer (some ⟨E, 0, none⟩)] w2 fun e w' => e = .returned (.slice (some ⟨E + 1, 0, none⟩) T T) ∧ Chg w2 w' ∧ Sl w' E (.slice (some ⟨E + 1, 0, none⟩) T T) L) := by
  have := ending_any E q (stOf q all) rest r (cnt all) w2 HV.out.1 (by rw [← HX.out.1]; exact a2) HV.out.2.2.2.2
  rw [← hT, e2] at this
  refine this.mono ?_
  rintro e w' ⟨rfl, g1, g2⟩
  refine ⟨rfl, g1, .inr (.inr ⟨E + 1, 0, T, by rw [hLT], by omega, ?_, fun j hj => ?_, by omega⟩)⟩
  ·have hTb : T < 1000 := by
    rw [hT]
    unfold endN
    have := HV.out.1.pos
    have := Nat.mod_lt (2 * blockOf q - r - 1 - blockOf q / 8) (show blockOf q > 0 by omega)
    omega
   exact ⟨by omega, by rw [hLT]; omega⟩
  ·rw [hLT] at hj
   rw [hL, endL, ← HV.out.2.2.2.1, ← hT, gd_map_range _ _ hj, Nat.zero_add]
   exact (g2.cell j).trans (arr_get .u8 T _ hj)
 obtain ⟨st, hst⟩ : ∃ st, st = sumSt q all := ⟨_, rfl⟩
 have HW : Hid (∀ u v, Chg w2 u → Sl u E v L → Calls Tryd.prog 58 #[.pointer (some ⟨E, 0, none⟩), v] u fun e w' => e = .returned (.tuple #[]) ∧ Chg w w' ∧ ∃ rest' held, Ar w' E (dig q st rest' held (cnt (all ++ L)))) := by
  intro u v hu hs
  have hEs := HV.out.2.1.size
  refine (write_any E q all L v u HV.out.1 (HV.out.2.1.chg (k2.trans hu)) (by omega) ⟨rest, ?_, ?_⟩ hs).mono ?_
  ·rw [← HV.out.2.2.2.1, ← HX.out.1]
   exact a2.chg hu
  ·rw [← HV.out.2.2.2.1]
   exact HX.out.2
  ·rintro e w' ⟨rfl, g1, rest', g2, _⟩
   refine ⟨rfl, Cb.low (k2.trans hu) g1 (by omega), rest', (((all ++ L).length % blockOf q : Nat) : Int), ?_⟩
   rw [hst, sumSt, ← hL]
   exact g2
 have HSm : Hid (∀ u, Chg w u → Calls Tryd.prog 76 #[.int .i64 q, .agg #[.int .u64 (st 0), .int .u64 (st 1), .int .u64 (st 2), .int .u64 (st 3), .int .u64 (st 4), .int .u64 (st 5), .int .u64 (st 6), .int .u64 (st 7)]] u fun e w' => ∃ b, e = .returned (.slice (some ⟨b, 0, none⟩) S S) ∧ w.heap.size ≤ b ∧ Chg w w' ∧ Ar w' b (arr .u8 S (sumByte q st))) := by
  intro u hu
  have := sumOf_any q st u HV.out.1
  rw [← HV.out.2.2.1] at this
  refine this.mono ?_
  rintro e w' ⟨b, rfl, g1, g2, g3⟩
  exact ⟨b, rfl, Nat.le_trans hu.size g1, hu.trans g2, g3⟩
 rw [← hst]
 have K2 : Hid (w2 = (w.alloc (.cells (dig 0 (fun _ => 0) (fun _ => 0) 0 0) 83)).setRow w.heap.size X ∧ E = w.heap.size ∧ Chg w2 w2) := ⟨hw2, hE, Chg.refl w2⟩
 clear a2 k2 e2 hT hL hLT hst hE hw2
 go_enter Tryd.func59, Tryd.ntmps59
 go_wp2_with (first | (go_at_call 74; (refine (HSz.out _).mono ?_; rintro r' w1 ⟨rfl, hw1⟩; rw [hw1])) | refine wpList_load_row rfl 83 _ rfl _ rfl _ _ _ _ hg1 hf rfl hz' ?_ | refine wpList_store_row rfl 83 _ _ rfl _ _ rfl rfl _ _ (heap_alloc_last w _) hz' hl' ho' ?_)
 rw [← K2.out.1, ← K2.out.2.1]
 refine HE.out.mono ?_
 rintro e w3 ⟨rfl, hc3, hs3⟩
 have HS3 : Hid (Chg w2 w3 ∧ Sl w3 E (.slice (some ⟨E + 1, 0, none⟩) T T) L) := ⟨hc3, hs3⟩
 clear hc3 hs3 hz hz' hl' ho' hg1 c0
 go_wp2_with (first | (go_at_call 58; (refine (HW.out _ _ HS3.out.1 HS3.out.2).mono ?_; rintro e w4 ⟨rfl, hc4, rest', held, ha4⟩; have d0 := (ha4.cell 0).trans (dig_hash _ _ _ _ _); have d1 := (ha4.cell 1).trans (dig_st _ _ _ _ _ (i := 0) (by omega)); have d2 := (ha4.cell 2).trans (dig_st _ _ _ _ _ (i := 1) (by omega)); have d3 := (ha4.cell 3).trans (dig_st _ _ _ _ _ (i := 2) (by omega)); have d4 := (ha4.cell 4).trans (dig_st _ _ _ _ _ (i := 3) (by omega)); have d5 := (ha4.cell 5).trans (dig_st _ _ _ _ _ (i := 4) (by omega)); have d6 := (ha4.cell 6).trans (dig_st _ _ _ _ _ (i := 5) (by omega)); have d7 := (ha4.cell 7).trans (dig_st _ _ _ _ _ (i := 6) (by omega)); have d8 := (ha4.cell 8).trans (dig_st _ _ _ _ _ (i := 7) (by omega)))) | (go_at_call 76; (refine (HSm.out _ hc4).mono ?_; rintro e w5 ⟨b, rfl, hb5, hc5, ha5⟩)))
 go_ret
 exact ⟨b, rfl, hb5, hc5, ha5⟩
end Go.Proofs.YtjfidbifjagnpaaDoor.Sha
namespace Go.Proofs.YtjfidbifjagnpaaDoor.Sha
open Go.RowKit
set_option linter.unusedVariables false
set_option maxRecDepth 100000
def SlA (w : World) (v : Value) (xs : List Int) : Prop :=
 (v = .slice none 0 0 ∧ xs = []) ∨ (∃ a cap, v = .slice (some a) 0 cap ∧ xs = []) ∨ ∃ b o cap, v = .slice (some ⟨b, o, none⟩) xs.length cap ∧ xs.length ≤ cap ∧ (cap < 9223372036854775808 ∧ xs.length < 4611686018427387904) ∧ Bs w b o xs.length (gd xs)
theorem SlA.chg {w w' : World} {v : Value} {xs : List Int} (h : SlA w v xs) (k : Chg w w') : SlA w' v xs := by
 rcases h with h | h | ⟨b, o, cap, h1, h2, h3, h4⟩
 ·exact .inl h
 ·exact .inr (.inl h)
 ·exact .inr (.inr ⟨b, o, cap, h1, h2, h3, h4.chg k⟩)
theorem SlA.to {w w' : World} {v : Value} {xs : List Int} (h : SlA w v xs) (k : Chg w w') {D : Nat} (hD : w.heap.size ≤ D) : Sl w' D v xs := by
 rcases h with h | h | ⟨b, o, cap, h1, h2, h3, h4⟩
 ·exact .inl h
 ·exact .inr (.inl h)
 ·cases xs with
  | nil => exact .inr (.inl ⟨_, _, h1, rfl⟩)
  | cons x xs =>
   have := block_lt_of_cell (h4 0 (by simp))
   dsimp only at this
   exact .inr (.inr ⟨b, o, cap, h1, h2, h3, h4.chg k, by omega⟩)
def Pt (w : World) (v : Value) (xss : List (List Int)) : Prop :=
 (v = .slice none 0 0 ∧ xss = []) ∨ (∃ a cap, v = .slice (some a) 0 cap ∧ xss = []) ∨ ∃ b o cap, v = .slice (some ⟨b, o, none⟩) xss.length cap ∧ xss.length < 281474976710657 ∧ ∀ j xs, xss[j]? = some xs → ∃ u, w.cell? ⟨b, o + j, none⟩ = some u ∧ SlA w u xs
theorem Pt.chg {w w' : World} {v : Value} {xss : List (List Int)} (h : Pt w v xss) (k : Chg w w') : Pt w' v xss := by
 rcases h with h | h | ⟨b, o, cap, h1, h2, h3⟩
 ·exact .inl h
 ·exact .inr (.inl h)
 ·refine .inr (.inr ⟨b, o, cap, h1, h2, fun j xs hj => ?_⟩)
  obtain ⟨u, g1, g2⟩ := h3 j xs hj
  exact ⟨u, cell_at k g1, g2.chg k⟩
theorem Pt.made2 {w u : World} (hu : Chg w u) {va vb : Value} {xa xb : List Int} (ha : SlA w va xa) (hb : SlA w vb xb) (t : TypeId) : Pt (u.alloc (.cells #[va, vb] t)) (.slice (some ⟨u.heap.size, 0, none⟩) 2 2) [xa, xb] := by
 have hn := Ar.new u #[va, vb] t
 refine .inr (.inr ⟨_, _, _, rfl, by simp, fun j xs hj => ?_⟩)
 match j, hj with
 | 0, hj =>
  simp at hj
  subst hj
  exact ⟨va, hn.cell 0, ha.chg (hu.alloc _)⟩
 | 1, hj =>
  simp at hj
  subst hj
  exact ⟨vb, hn.cell 1, hb.chg (hu.alloc _)⟩
theorem Pt.made3 {w u : World} (hu : Chg w u) {va vb vc : Value} {xa xb xc : List Int} (ha : SlA w va xa) (hb : SlA w vb xb) (hc : SlA w vc xc) (t : TypeId) : Pt (u.alloc (.cells #[va, vb, vc] t)) (.slice (some ⟨u.heap.size, 0, none⟩) 3 3) [xa, xb, xc] := by
 have hn := Ar.new u #[va, vb, vc] t
 refine .inr (.inr ⟨_, _, _, rfl, by simp, fun j xs hj => ?_⟩)
 match j, hj with
 | 0, hj =>
  simp at hj
  subst hj
  exact ⟨va, hn.cell 0, ha.chg (hu.alloc _)⟩
 | 1, hj =>
  simp at hj
  subst hj
  exact ⟨vb, hn.cell 1, hb.chg (hu.alloc _)⟩
 | 2, hj =>
  simp at hj
  subst hj
  exact ⟨vc, hn.cell 2, hc.chg (hu.alloc _)⟩
theorem SlA.new (w : World) (xs : List Int) (t : TypeId) (hl : xs.length < 281474976710657) : SlA (w.alloc (.cells (xs.map (Value.int .u8)).toArray t)) (.slice (some ⟨w.heap.size, 0, none⟩) xs.length xs.length) xs := by
 have hn := Ar.new w (xs.map (Value.int .u8)).toArray t
 refine .inr (.inr ⟨_, _, _, rfl, Nat.le_refl _, ⟨by omega, by omega⟩, fun j hj => ?_⟩)
 rw [Nat.zero_add]
 refine (hn.cell j).trans ?_
 simp [gd, List.getD_eq_getElem?_getD, hj]
set_option maxHeartbeats 4000000 in
theorem of_any (q : Int) (v : Value) (xss : List (List Int)) (w : World) (hv : Valid q) (ht : Tabs w) (hp : Pt w v xss) :
  Calls Tryd.prog 35 #[.int .i64 q, v] w fun r w' => ∃ b, r = .returned (.slice (some ⟨b, 0, none⟩) (sizeOfH q) (sizeOfH q)) ∧ w.heap.size ≤ b ∧ Chg w w' ∧ Ar w' b (arr .u8 (sizeOfH q) (sumByte q (sumSt q xss.flatten))) := by
 obtain ⟨X, hX⟩ : ∃ X, X = dig q (startOf q) (fun _ => 0) 0 0 := ⟨_, rfl⟩
 have HBe : Hid (Calls Tryd.prog 57 #[.int .i64 q] w fun r w' => r = .returned (.agg X) ∧ Chg w w') := by
  rw [hX]
  exact begin_any q w ht
 have hz' : (Tryd.prog.info? 83).map (·.size) = some X.size := by rw [hX, dig_size]; exact zero44.2
 have hl' : (dig 0 (fun _ => 0) (fun _ => 0) 0 0).size = X.size := by rw [hX, dig_size, dig_size]
 have ho' : X.all (·.oneCell') = true := by rw [hX]; exact dig_one _ _ _ _ _
 have hz := zero44.1
 obtain ⟨n, p, cap, hn, rfl⟩ : ∃ n p cap, n = xss.length ∧ v = .slice p n cap := by
  rcases hp with ⟨e1, e2⟩ | ⟨a, cap, e1, e2⟩ | ⟨b, o, cap, e1, _⟩
  ·exact ⟨0, none, 0, by rw [e2]; rfl, e1⟩
  ·exact ⟨0, some a, cap, by rw [e2]; rfl, e1⟩
  ·exact ⟨_, _, _, rfl, e1⟩
 have hnb : n < 281474976710657 := by
  rcases hp with ⟨e1, e2⟩ | ⟨a, cap, e1, e2⟩ | ⟨b, o, cap, e1, e2, _⟩
  ·rw [hn, e2]; decide
  ·rw [hn, e2]; decide
  ·rw [hn]; exact e2
 have HX : Hid (X = dig q (startOf q) (fun _ => 0) 0 0 ∧ Valid q ∧ Tabs w ∧ Pt w (.slice p n cap) xss ∧ n = xss.length) := ⟨hX, hv, ht, hp, hn⟩
 obtain ⟨S, hS⟩ : ∃ S, S = sizeOfH q := ⟨_, rfl⟩
 rw [← hS]
 have HS : Hid (S = sizeOfH q) := hS
 clear hX hv ht hp hn hS
 go_enter Tryd.func35, Tryd.ntmps35
 go_wp2_with (first | (go_at_call 57; (refine HBe.out.mono ?_; rintro r' w2 ⟨rfl, hc2⟩)) | refine wpList_store_row rfl 83 _ _ rfl _ _ rfl rfl _ _ (heap_alloc_last w2 _) hz' hl' ho' ?_)
 obtain ⟨D, hD⟩ : ∃ D, D = w2.heap.size := ⟨_, rfl⟩
 obtain ⟨w3, hw3⟩ : ∃ w3, w3 = (w2.alloc (.cells (dig 0 (fun _ => 0) (fun _ => 0) 0 0) 83)).setRow w2.heap.size X := ⟨_, rfl⟩
 rw [← hw3, ← hD]
 have z0 : Hid (Chg w w3 ∧ DgC w3 D q [] (cnt []) ∧ w.heap.size ≤ D) := by
  refine ⟨?_, ⟨fun _ => 0, ?_, fun j hj => ?_⟩, by rw [hD]; exact hc2.size⟩
  ·rw [hw3]
   exact (hc2.alloc _).setRow hc2.size _
  ·have : Ar ((w2.alloc (.cells (dig 0 (fun _ => 0) (fun _ => 0) 0 0) 83)).setRow w2.heap.size X) w2.heap.size X := (Ar.new w2 _ _).row _
   rw [← hw3, ← hD, HX.out.1] at this
   have e : stOf q [] = startOf q := by simp [stOf, stN]
   rw [e]
   simpa [cnt] using this
  ·simp at hj
 have HDw : Hid (w.heap.size ≤ D) := z0.out.2.2
 clear hz hz' hl' ho' hw3 hD hc2
 go_loopw [12] (fun v wr => ∃ (i : Nat), v = .int .i64 i ∧ i ≤ n ∧ Chg w wr ∧ DgC wr D q (xss.take i).flatten (cnt (xss.take i).flatten)) (fun v wr => n - (intOf v).toNat)
 case atStart => exact ⟨0, rfl, by omega, z0.out.1, z0.out.2.1⟩
 case round =>
  clear z0
  obtain ⟨i, rfl, hi, hch, hd⟩ := hrel
  obtain ⟨hX, hv, ht, hp, hn⟩ := HX.out
  by_cases hin : i < n
  ·rcases hp with ⟨e1, e2⟩ | ⟨a, cap, e1, e2⟩ | ⟨pb, po, pcap, e1, e2, e3⟩
   ·rw [hn, e2] at hin
    exact absurd hin (Nat.not_lt_zero i)
   ·rw [hn, e2] at hin
    exact absurd hin (Nat.not_lt_zero i)
   ·injection e1 with e4 e5 e6
    subst e4
    obtain ⟨u, g1, g2⟩ := e3 i (xss[i]'(by omega)) (List.getElem?_eq_getElem (by omega))
    have c0 := cell_at hch g1
    have hle : (i : Int) < n := by omega
    have hid : decide ((i : Int) < n) = true := by simp; omega
    have HW : Hid (Calls Tryd.prog 58 #[.pointer (some ⟨D, 0, none⟩), u] wr fun e w' => e = .returned (.tuple #[]) ∧ Chg w w' ∧ DgC w' D q (xss.take (i + 1)).flatten (cnt (xss.take (i + 1)).flatten)) := by
     have hsz := ht.size
     have hDw := HDw.out
     refine (write_any D q _ (xss[i]'(by omega)) u wr hv (ht.chg hch) (by omega) hd (g2.to hch hDw)).mono ?_
     rintro e w' ⟨rfl, k1, k2⟩
     have e7 : (xss.take (i + 1)).flatten = (xss.take i).flatten ++ xss[i]'(by omega) := by
      rw [List.take_add_one, List.getElem?_eq_getElem (by omega), List.flatten_append]
      simp
     rw [e7]
     exact ⟨rfl, Cb.low hch k1 hDw, k2⟩
    clear hX hv ht hn hch hd g1 g2 e2 e3 e5 e6
    go_wp2_with (first | (go_at_call 58; (refine HW.out.mono ?_; rintro e w4 ⟨rfl, hc4, hd4⟩)))
    go_roundw
    case rel => exact ⟨i + 1, by go_num, by omega, hc4, hd4⟩
    case measure => simp [intOf]; omega
  ·have hid : decide ((i : Int) < n) = false := by simp; omega
   have hi' : i = n := by omega
   have e1 : xss.take i = xss := by rw [hi', hn]; exact List.take_length
   rw [e1] at hd
   have HSm : Hid (Calls Tryd.prog 59 #[.pointer (some ⟨D, 0, none⟩)] wr fun r w' => ∃ b, r = .returned (.slice (some ⟨b, 0, none⟩) S S) ∧ w.heap.size ≤ b ∧ Chg w w' ∧ Ar w' b (arr .u8 S (sumByte q (sumSt q xss.flatten)))) := by
    rw [HS.out]
    refine (sum_any D q _ wr hv (ht.chg hch) hd).mono ?_
    rintro r w' ⟨b, rfl, k1, k2, k3⟩
    exact ⟨b, rfl, Nat.le_trans hch.size k1, hch.trans k2, k3⟩
   clear hX hv ht hp hn hch hd hi' e1
   go_wp2_with (first | (go_at_call 59; (refine HSm.out.mono ?_; rintro e w4 ⟨b, rfl, hb4, hc4, ha4⟩)))
   go_ret
   exact ⟨b, rfl, hb4, hc4, ha4⟩
end Go.Proofs.YtjfidbifjagnpaaDoor.Sha
