/-
  Quotients as cells: two numbers side by side.
  The field's sums, differences, products, as the program and the document call them.
  One step of the ladder, by integers.
-/
import Derived.Test.YtiehjhlekpjlaaaNm
import Derived.Test.YtiehjhlekpjlaaaJc
import Derived.Test.YtiehjhlekpjlaaaJj
namespace Go.Proofs.Ytiehjhlekpjlaaa
open Go.RowKit
set_option linter.unusedVariables false

def quo (t b : Int) : Array Value := arr .u64 8 (fun i => if i < 4 then dg B64 t i else dg B64 b (i - 4))
theorem quo_size (t b : Int) : (quo t b).size = 8 := arr_size _ _ _
theorem quo_one (t b : Int) : (quo t b).all (·.oneCell') = true := arr_one _ _ _
theorem quo_00 : quo 0 0 = #[.int .u64 0, .int .u64 0, .int .u64 0, .int .u64 0, .int .u64 0, .int .u64 0, .int .u64 0, .int .u64 0] := by kernel_rfl
theorem zero36 : (∀ w, (zeroValue 36).run Try.prog w = .ok (.agg (quo 0 0)) w) ∧ (Try.prog.info? 36).map (·.size) = some 8 := by
  rw [quo_00]
  exact zero_of_info (by kernel_rfl)
theorem szQ (t b : Int) : (Try.prog.info? 36).map (·.size) = some (quo t b).size := by rw [quo_size]; exact zero36.2
theorem lenQ (t b t' b' : Int) : (quo t b).size = (quo t' b').size := by rw [quo_size, quo_size]
theorem infoQ (t b : Int) : (Try.prog.info? 36).map (·.size) = some (quo t b).toList.length := by rw [Array.length_toList]; exact szQ t b
theorem rangeQ {w : World} {b : Nat} {x y : Int} (h : Ar w b (quo x y)) : w.rangeAt b 0 (quo x y).toList := by
  intro j v hv
  rw [Nat.zero_add, h.cell]
  simpa using hv
theorem rangeQ0 {w : World} {b : Nat} {x y : Int} (h : Ar w b (quo x y)) : w.rangeAt b 0 (num x).toList := by
  intro j v hv
  rw [Nat.zero_add, h.cell]
  have hj : j < 4 := by
    have := (List.getElem?_eq_some_iff.1 hv).1
    rw [Array.length_toList, num_size] at this
    exact this
  rw [Array.getElem?_toList, num, arr_get _ _ _ hj] at hv
  rw [quo, arr_get _ _ _ (by omega)]
  simpa [hj] using hv
theorem rangeQ1 {w : World} {b : Nat} {x y : Int} (h : Ar w b (quo x y)) : w.rangeAt b 4 (num y).toList := by
  intro j v hv
  rw [h.cell]
  have hj : j < 4 := by
    have := (List.getElem?_eq_some_iff.1 hv).1
    rw [Array.length_toList, num_size] at this
    exact this
  rw [Array.getElem?_toList, num, arr_get _ _ _ hj] at hv
  rw [quo, arr_get _ _ _ (by omega)]
  have h4 : ¬ 4 + j < 4 := by omega
  simpa [h4] using hv
theorem thereQ {w : World} {b : Nat} {x y : Int} (h : Ar w b (quo x y)) : w.there b 0 8 := fun j hj => by
  rw [Nat.zero_add, h.cell]
  refine ⟨?_, h.frozen j⟩
  rw [quo, arr_get _ _ _ hj]
  rfl
theorem setRowQ {w : World} {b : Nat} {x y : Int} (h : Ar w b (quo x y)) (x' y' : Int) : w.setCells b 0 (quo x' y').toList = w.setRow b (quo x' y') := by
  have h1 := run_storeVar_mid (P := Try.prog) w b 0 36 (quo x' y') (by rw [quo_size]; exact thereQ h) (szQ x' y') (quo_one x' y')
  obtain ⟨t, h⟩ := h
  have h2 := run_storeVar_row (P := Try.prog) w b t 36 _ (quo x' y') h (szQ x' y') (lenQ x y x' y') (quo_one x' y')
  rw [h1] at h2
  injection h2
/-- A quotient that is built of two numbers. -/
theorem built36 (t b : Int) : Try.prog.built 36 [(0, .agg (num t)), (1, .agg (num b))] = some (quo t b) := by kernel_rfl
theorem quo_t0 (t : Int) : #[Value.int .u64 (dg B64 t 0), .int .u64 (dg B64 t 1), .int .u64 (dg B64 t 2), .int .u64 (dg B64 t 3), .int .u64 0, .int .u64 0, .int .u64 0, .int .u64 0] = quo t 0 := by
  show _ = #[Value.int .u64 (dg B64 t 0), .int .u64 (dg B64 t 1), .int .u64 (dg B64 t 2), .int .u64 (dg B64 t 3), .int .u64 (dg B64 0 0), .int .u64 (dg B64 0 1), .int .u64 (dg B64 0 2), .int .u64 (dg B64 0 3)]
  rw [show dg B64 0 0 = 0 by decide, show dg B64 0 1 = 0 by decide, show dg B64 0 2 = 0 by decide, show dg B64 0 3 = 0 by decide +kernel]
theorem built36t (t : Int) : Try.prog.built 36 [(0, .agg (num t))] = some #[Value.int .u64 (dg B64 t 0), .int .u64 (dg B64 t 1), .int .u64 (dg B64 t 2), .int .u64 (dg B64 t 3), .int .u64 0, .int .u64 0, .int .u64 0, .int .u64 0] := by kernel_rfl
theorem built36' (t : Int) : Try.prog.built 36 [(0, .agg (num t))] = some (quo t 0) := by rw [← quo_t0]; exact built36t t
theorem run_quo (t b : Int) (w : World) : (Instr.build 36 #[(0, .agg (num t)), (1, .agg (num b))]).run Try.prog w = .ok (.agg (quo t b)) w := run_build w 36 _ _ (built36 t b)
theorem run_quo' (t : Int) (w : World) : (Instr.build 36 #[(0, .agg (num t))]).run Try.prog w = .ok (.agg (quo t 0)) w := run_build w 36 _ _ (built36' t)
theorem opG_quo {o : Oper} {a : Act} {w : World} {t b : Int} {G : Value → World → Prop} {Q : Exit → Act → World → Prop} (x y : Operand) (ho : o.op = .build 36 #[(0, x), (1, y)]) (hx : a.eval x = .agg (num t)) (hy : a.eval y = .agg (num b)) (hG : G (.agg (quo t b)) w) : o.wp Try.prog a w (fun a' u => ∃ v, a' = a.put o.dst v ∧ G v u ∧ Chg w u) Q := by
  have e : (#[(0, x), (1, y)].map fun (p : Nat × Operand) => (p.1, a.eval p.2)).toList = [(0, .agg (num t)), (1, .agg (num b))] := by
    simp [hx, hy]
  have h : Try.prog.built 36 (#[(0, x), (1, y)].map fun (p : Nat × Operand) => (p.1, a.eval p.2)).toList = some (quo t b) := by rw [e]; exact built36 t b
  refine wp_build 36 _ ho ?_ ?_
  · show (Try.prog.built 36 (#[(0, x), (1, y)].map fun (p : Nat × Operand) => (p.1, a.eval p.2)).toList).isSome = true
    rw [h]
    rfl
  · show ∃ v, a.put o.dst (.agg ((Try.prog.built 36 (#[(0, x), (1, y)].map fun (p : Nat × Operand) => (p.1, a.eval p.2)).toList).getD #[])) = a.put o.dst v ∧ G v w ∧ Chg w w
    rw [h]
    exact ⟨_, rfl, hG, Chg.refl _⟩
/-- Two quotients as results. -/
theorem Ar.loadQ {w : World} {b : Nat} {x y : Int} (h : Ar w b (quo x y)) : (Go.loadVar 36 ⟨b, 0, none⟩).run Try.prog w = .ok (.agg (quo x y)) w := by
  obtain ⟨t, h⟩ := h
  exact run_loadVar_row w b t 36 _ (0, 0) _ h Try.underlying36 rfl (szQ x y)
theorem bp_qq {fn : Func} {R : Ending → World → Prop} {a : Act} {w : World} {p q b b' : Nat} {x y x' y' : Int} (h : fn.results = #[.cell p 36, .cell q 36]) (hd : a.defers = []) (hp : a.tmps.getD p undef = .pointer (some ⟨b, 0, none⟩)) (hq : a.tmps.getD q undef = .pointer (some ⟨b', 0, none⟩)) (ha : Ar w b (quo x y)) (ha' : Ar w b' (quo x' y'))
    (hR : R (.returned (.tuple #[.agg (quo x y), .agg (quo x' y')])) w) : bodyPost Try.prog fn R .ret a w := by
  refine bodyPost_ret (v := .tuple #[.agg (quo x y), .agg (quo x' y')]) ?_ hd hR
  rw [Array.getD_eq_getD_getElem?] at hp hq
  simp only [results, h]
  simp [Sem.run_bind, Result.andThen, hp, hq, asAddr, ha.loadQ, ha'.loadQ]
theorem bp_q {fn : Func} {R : Ending → World → Prop} {a : Act} {w : World} {p b : Nat} {x y : Int} (h : fn.results = #[.cell p 36]) (hd : a.defers = []) (hp : a.tmps.getD p undef = .pointer (some ⟨b, 0, none⟩)) (ha : Ar w b (quo x y)) (hR : R (.returned (.agg (quo x y))) w) : bodyPost Try.prog fn R .ret a w := by
  refine bodyPost_ret (v := .agg (quo x y)) ?_ hd hR
  rw [Array.getD_eq_getD_getElem?] at hp
  simp only [results, h]
  simp [hp, asAddr, ha.loadQ]
end Go.Proofs.Ytiehjhlekpjlaaa

namespace Go.Proofs.Ytiehjhlekpjlaaa
open Go.RowKit
set_option linter.unusedVariables false

set_option maxRecDepth 100000 in
set_option maxHeartbeats 4000000 in
theorem addX_any (a b : Int) (ha : N256 a) (hb : N256 b) (w : World) : Calls Try.prog 41 #[.agg (num a), .agg (num b)] w fun r w' => r = .returned (.agg (num (md 1 (a + b)))) ∧ Chg w w' := by
  have hz := zero25.1
  have hsA := num_size a
  have hsB := num_size b
  have iA := infoN a
  have iB := infoN b
  have s1 := szN (md 1 (a + b))
  have l1 := lenN 0 (md 1 (a + b))
  have o1 := num_one (md 1 (a + b))
  have k := fun W => addM_any 1 a b ha hb W
  obtain ⟨A, hA⟩ : ∃ A, A = num a := ⟨_, rfl⟩
  obtain ⟨B, hB⟩ : ∃ B, B = num b := ⟨_, rfl⟩
  obtain ⟨M, hM⟩ : ∃ M, M = num (md 1 (a + b)) := ⟨_, rfl⟩
  have HM : Hid (M = num (md 1 (a + b))) := hM
  rw [← hA] at hsA iA k ⊢
  rw [← hB] at hsB iB k ⊢
  rw [← hM] at s1 l1 o1 k ⊢
  have HK : Hid (∀ W, Calls Try.prog 54 #[.int .i64 1, .agg A, .agg B] W fun r w' => r = .returned (.agg M) ∧ Chg W w') := k
  clear hA hB hM k ha hb
  go_enter Try.func41, Try.ntmps41
  go_upto_region 1 with fail
  obtain ⟨w1, hw1⟩ : ∃ w1, w1 = ((w.alloc (.cells A 34)).alloc (.cells B 34)).alloc (.cells (num 0) 34) := ⟨_, rfl⟩
  have Z : Hid (Chg w w1 ∧ Ar w1 w.heap.size A ∧ Ar w1 (w.heap.size + 1) B ∧ Ar w1 (w.heap.size + 1 + 1) (num 0)) := by
    rw [hw1]
    exact ⟨(((Chg.refl w).alloc _).alloc _).alloc _, ((Ar.new w _ _).alloc _).alloc _, (Ar.new1 w _ _ _).alloc _, Ar.new2 w _ _ _ _⟩
  rw [← hw1]
  clear hw1 hsA hsB hz
  have r1 := rangeA Z.out.2.1
  have r2 := rangeA Z.out.2.2.1
  go_wp2_with (first
    | refine wpList_load_mid rfl 34 (.tmp 2) rfl _ _ rfl (A.toList) _ r1 u25 rfl iA ?_
    | refine wpList_load_mid rfl 34 (.tmp 3) rfl _ _ rfl (B.toList) _ r2 u25 rfl iB ?_)
  go_at_call 54
  refine (HK.out _).mono ?_
  rintro r w2 ⟨rfl, hc2⟩
  have Z2 : Hid (Chg w w2 ∧ Ar w2 (w.heap.size + 1 + 1) (num 0)) := ⟨Z.out.1.trans hc2, Z.out.2.2.2.chg hc2⟩
  obtain ⟨t, g⟩ := Z2.out.2
  clear hc2 r1 r2 Z
  go_wp2_with (first | refine wpList_store_row rfl 34 _ _ rfl _ _ rfl rfl _ _ g s1 l1 o1 ?_)
  rw [HM.out]
  refine bp_n (x := md 1 (a + b)) Try.results41 rfl rfl ?_ ⟨rfl, Z2.out.1.setRow (by omega) _⟩
  exact Z2.out.2.row _

set_option maxRecDepth 100000 in
set_option maxHeartbeats 4000000 in
theorem subX_any (a b : Int) (ha : N256 a) (hb : N256 b) (w : World) : Calls Try.prog 42 #[.agg (num a), .agg (num b)] w fun r w' => r = .returned (.agg (num (md 1 (a - b)))) ∧ Chg w w' := by
  have hz := zero25.1
  have hsA := num_size a
  have hsB := num_size b
  have iA := infoN a
  have iB := infoN b
  have s1 := szN (md 1 (a - b))
  have l1 := lenN 0 (md 1 (a - b))
  have o1 := num_one (md 1 (a - b))
  have k := fun W => subM_any 1 a b ha hb W
  obtain ⟨A, hA⟩ : ∃ A, A = num a := ⟨_, rfl⟩
  obtain ⟨B, hB⟩ : ∃ B, B = num b := ⟨_, rfl⟩
  obtain ⟨M, hM⟩ : ∃ M, M = num (md 1 (a - b)) := ⟨_, rfl⟩
  have HM : Hid (M = num (md 1 (a - b))) := hM
  rw [← hA] at hsA iA k ⊢
  rw [← hB] at hsB iB k ⊢
  rw [← hM] at s1 l1 o1 k ⊢
  have HK : Hid (∀ W, Calls Try.prog 55 #[.int .i64 1, .agg A, .agg B] W fun r w' => r = .returned (.agg M) ∧ Chg W w') := k
  clear hA hB hM k ha hb
  go_enter Try.func42, Try.ntmps42
  go_upto_region 1 with fail
  obtain ⟨w1, hw1⟩ : ∃ w1, w1 = ((w.alloc (.cells A 34)).alloc (.cells B 34)).alloc (.cells (num 0) 34) := ⟨_, rfl⟩
  have Z : Hid (Chg w w1 ∧ Ar w1 w.heap.size A ∧ Ar w1 (w.heap.size + 1) B ∧ Ar w1 (w.heap.size + 1 + 1) (num 0)) := by
    rw [hw1]
    exact ⟨(((Chg.refl w).alloc _).alloc _).alloc _, ((Ar.new w _ _).alloc _).alloc _, (Ar.new1 w _ _ _).alloc _, Ar.new2 w _ _ _ _⟩
  rw [← hw1]
  clear hw1 hsA hsB hz
  have r1 := rangeA Z.out.2.1
  have r2 := rangeA Z.out.2.2.1
  go_wp2_with (first
    | refine wpList_load_mid rfl 34 (.tmp 2) rfl _ _ rfl (A.toList) _ r1 u25 rfl iA ?_
    | refine wpList_load_mid rfl 34 (.tmp 3) rfl _ _ rfl (B.toList) _ r2 u25 rfl iB ?_)
  go_at_call 55
  refine (HK.out _).mono ?_
  rintro r w2 ⟨rfl, hc2⟩
  have Z2 : Hid (Chg w w2 ∧ Ar w2 (w.heap.size + 1 + 1) (num 0)) := ⟨Z.out.1.trans hc2, Z.out.2.2.2.chg hc2⟩
  obtain ⟨t, g⟩ := Z2.out.2
  clear hc2 r1 r2 Z
  go_wp2_with (first | refine wpList_store_row rfl 34 _ _ rfl _ _ rfl rfl _ _ g s1 l1 o1 ?_)
  rw [HM.out]
  refine bp_n (x := md 1 (a - b)) Try.results42 rfl rfl ?_ ⟨rfl, Z2.out.1.setRow (by omega) _⟩
  exact Z2.out.2.row _

set_option maxRecDepth 100000 in
set_option maxHeartbeats 4000000 in
theorem mulX_any (a b : Int) (ha : N256 a) (hb : N256 b) (w : World) : Calls Try.prog 30 #[.agg (num a), .agg (num b)] w fun r w' => r = .returned (.agg (num (md 1 (a * b)))) ∧ Chg w w' := by
  have hz := zero25.1
  have hsA := num_size a
  have hsB := num_size b
  have iA := infoN a
  have iB := infoN b
  have s1 := szN (md 1 (a * b))
  have l1 := lenN 0 (md 1 (a * b))
  have o1 := num_one (md 1 (a * b))
  have k := fun W => mulM_any 1 a b ha hb W
  obtain ⟨A, hA⟩ : ∃ A, A = num a := ⟨_, rfl⟩
  obtain ⟨B, hB⟩ : ∃ B, B = num b := ⟨_, rfl⟩
  obtain ⟨M, hM⟩ : ∃ M, M = num (md 1 (a * b)) := ⟨_, rfl⟩
  have HM : Hid (M = num (md 1 (a * b))) := hM
  rw [← hA] at hsA iA k ⊢
  rw [← hB] at hsB iB k ⊢
  rw [← hM] at s1 l1 o1 k ⊢
  have HK : Hid (∀ W, Calls Try.prog 44 #[.int .i64 1, .agg A, .agg B] W fun r w' => r = .returned (.agg M) ∧ Chg W w') := k
  clear hA hB hM k ha hb
  go_enter Try.func30, Try.ntmps30
  go_upto_region 1 with fail
  obtain ⟨w1, hw1⟩ : ∃ w1, w1 = ((w.alloc (.cells A 34)).alloc (.cells B 34)).alloc (.cells (num 0) 34) := ⟨_, rfl⟩
  have Z : Hid (Chg w w1 ∧ Ar w1 w.heap.size A ∧ Ar w1 (w.heap.size + 1) B ∧ Ar w1 (w.heap.size + 1 + 1) (num 0)) := by
    rw [hw1]
    exact ⟨(((Chg.refl w).alloc _).alloc _).alloc _, ((Ar.new w _ _).alloc _).alloc _, (Ar.new1 w _ _ _).alloc _, Ar.new2 w _ _ _ _⟩
  rw [← hw1]
  clear hw1 hsA hsB hz
  have r1 := rangeA Z.out.2.1
  have r2 := rangeA Z.out.2.2.1
  go_wp2_with (first
    | refine wpList_load_mid rfl 34 (.tmp 2) rfl _ _ rfl (A.toList) _ r1 u25 rfl iA ?_
    | refine wpList_load_mid rfl 34 (.tmp 3) rfl _ _ rfl (B.toList) _ r2 u25 rfl iB ?_)
  go_at_call 44
  refine (HK.out _).mono ?_
  rintro r w2 ⟨rfl, hc2⟩
  have Z2 : Hid (Chg w w2 ∧ Ar w2 (w.heap.size + 1 + 1) (num 0)) := ⟨Z.out.1.trans hc2, Z.out.2.2.2.chg hc2⟩
  obtain ⟨t, g⟩ := Z2.out.2
  clear hc2 r1 r2 Z
  go_wp2_with (first | refine wpList_store_row rfl 34 _ _ rfl _ _ rfl rfl _ _ g s1 l1 o1 ?_)
  rw [HM.out]
  refine bp_n (x := md 1 (a * b)) Try.results30 rfl rfl ?_ ⟨rfl, Z2.out.1.setRow (by omega) _⟩
  exact Z2.out.2.row _

set_option maxRecDepth 100000 in
set_option maxHeartbeats 4000000 in
theorem sqX_any (a : Int) (ha : N256 a) (w : World) : Calls Try.prog 43 #[.agg (num a)] w fun r w' => r = .returned (.agg (num (md 1 (a * a)))) ∧ Chg w w' := by
  have hz := zero25.1
  have hsA := num_size a
  have iA := infoN a
  have s1 := szN (md 1 (a * a))
  have l1 := lenN 0 (md 1 (a * a))
  have o1 := num_one (md 1 (a * a))
  have k := fun W => mulX_any a a ha ha W
  obtain ⟨A, hA⟩ : ∃ A, A = num a := ⟨_, rfl⟩
  obtain ⟨M, hM⟩ : ∃ M, M = num (md 1 (a * a)) := ⟨_, rfl⟩
  have HM : Hid (M = num (md 1 (a * a))) := hM
  rw [← hA] at hsA iA k ⊢
  rw [← hM] at s1 l1 o1 k ⊢
  have HK : Hid (∀ W, Calls Try.prog 30 #[.agg A, .agg A] W fun r w' => r = .returned (.agg M) ∧ Chg W w') := k
  clear hA hM k ha
  go_enter Try.func43, Try.ntmps43
  go_upto_region 1 with fail
  obtain ⟨w1, hw1⟩ : ∃ w1, w1 = (w.alloc (.cells A 34)).alloc (.cells (num 0) 34) := ⟨_, rfl⟩
  have Z : Hid (Chg w w1 ∧ Ar w1 w.heap.size A ∧ Ar w1 (w.heap.size + 1) (num 0)) := by
    rw [hw1]
    exact ⟨((Chg.refl w).alloc _).alloc _, (Ar.new w _ _).alloc _, Ar.new1 w _ _ _⟩
  rw [← hw1]
  clear hw1 hsA hz
  have r1 := rangeA Z.out.2.1
  go_wp2_with (first
    | refine wpList_load_mid rfl 34 (.tmp 1) rfl _ _ rfl (A.toList) _ r1 u25 rfl iA ?_)
  go_at_call 30
  refine (HK.out _).mono ?_
  rintro r w2 ⟨rfl, hc2⟩
  have Z2 : Hid (Chg w w2 ∧ Ar w2 (w.heap.size + 1) (num 0)) := ⟨Z.out.1.trans hc2, Z.out.2.2.chg hc2⟩
  obtain ⟨t, g⟩ := Z2.out.2
  clear hc2 r1 Z
  go_wp2_with (first | refine wpList_store_row rfl 34 _ _ rfl _ _ rfl rfl _ _ g s1 l1 o1 ?_)
  rw [HM.out]
  refine bp_n (x := md 1 (a * a)) Try.results43 rfl rfl ?_ ⟨rfl, Z2.out.1.setRow (by omega) _⟩
  exact Z2.out.2.row _
end Go.Proofs.Ytiehjhlekpjlaaa

namespace Go.Proofs.Ytiehjhlekpjlaaa
open Go.RowKit
set_option linter.unusedVariables false

def sS (t b : Int) : Int := md 1 (t + b)
def sD (t b : Int) : Int := md 1 (t - b)
def sP (t b : Int) : Int := md 1 (sS t b * sS t b)
def sQ (t b : Int) : Int := md 1 (sD t b * sD t b)
def sE (t b : Int) : Int := md 1 (sP t b - sQ t b)
def sV (t b t' b' : Int) : Int := md 1 (md 1 (t' - b') * sS t b)
def sW (t b t' b' : Int) : Int := md 1 (md 1 (t' + b') * sD t b)
def i2t (t b : Int) : Int := md 1 (sP t b * sQ t b)
def i2b (t b : Int) : Int := md 1 (sE t b * md 1 (sP t b + md 1 (121665 * sE t b)))
def iBt (t b t' b' : Int) : Int := md 1 (md 1 (sV t b t' b' + sW t b t' b') * md 1 (sV t b t' b' + sW t b t' b'))
def iBb (x t b t' b' : Int) : Int := md 1 (x * md 1 (md 1 (sV t b t' b' - sW t b t' b') * md 1 (sV t b t' b' - sW t b t' b')))
theorem N_12 : N256 121665 := ⟨by decide, by decide⟩
theorem num_set12 : (num 0).setIfInBounds 0 (.int .u64 121665) = num 121665 := by kernel_rfl
theorem num_ne0y : (num 0 = #[]) = False := by
  apply eq_false
  intro h
  have := congrArg Array.size h
  rw [show (num 0).size = 4 from arr_size _ _ _] at this
  cases this
end Go.Proofs.Ytiehjhlekpjlaaa
