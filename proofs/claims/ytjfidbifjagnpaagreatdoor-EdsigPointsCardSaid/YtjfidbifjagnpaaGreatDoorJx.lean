/-
Sums of bytes, as this layer uses them; halves and joins of bytes, slices of arrays: small facts.
-/
import Derived.Test.YtjfidbifjagnpaaGreatDoorJsd
import Derived.Test.YtjfidbifjagnpaaGreatDoorJq
import Derived.Test.YtjfidbifjagnpaaGreatDoorBy
import Derived.Test.YtjfidbifjagnpaaGreatDoorJc
namespace Go.Proofs.YtjfidbifjagnpaaGreatDoor
open Go.RowKit
set_option linter.unusedVariables false
set_option maxRecDepth 100000
theorem toS {w w' : World} (h : Chg w w') : Sha.Chg w w' := ⟨h.os, h.tape, h.output, h.size, h.block⟩
theorem ofS {w w' : World} (h : Sha.Chg w w') : Chg w w' := ⟨h.os, h.tape, h.output, h.size, h.block⟩
theorem ofArS {w : World} {b : Nat} {c : Array Value} (h : Sha.Ar w b c) : Ar w b c := h
def hL (xs : List Int) : Nat → Int := Sha.sumByte 3 (Sha.sumSt 3 xs)
theorem hL_8 (xs : List Int) (i : Nat) : B8 (hL xs i) := by
 unfold hL Sha.sumByte B8
 rw [IntKind.wrap_u8]
 omega
def ls (n : Nat) (e : Nat → Int) : List Int := (List.range n).map e
theorem ls_len (n : Nat) (e : Nat → Int) : (ls n e).length = n := by simp [ls]
theorem ls_gd {n : Nat} (e : Nat → Int) {j : Nat} (h : j < n) : Sha.gd (ls n e) j = e j := by
 unfold Sha.gd ls
 simp [List.getD_eq_getElem?_getD, h]
theorem ls_congr {n : Nat} {e f : Nat → Int} (h : ∀ i, i < n → e i = f i) : ls n e = ls n f := List.map_congr_left fun i hi => h i (List.mem_range.1 hi)
theorem ls_8 {n : Nat} {e : Nat → Int} (h : ∀ i, B8 (e i)) : ∀ x ∈ ls n e, 0 ≤ x ∧ x < 256 := by
 intro x hx
 obtain ⟨i, _, rfl⟩ := List.mem_map.1 hx
 exact h i
theorem sumL_ls (xs : List Int) : Sha.sumL 3 xs = ls 64 (hL xs) := rfl
theorem SlA_of {w : World} {b N o n c : Nat} {e : Nat → Int} (h : Ar w b (arr .u8 N e)) (hn : o + n ≤ N) (hc : n ≤ c) (hc' : c < 1000000) : Sha.SlA w (.slice (some ⟨b, o, none⟩) n c) (ls n (fun i => e (o + i))) := by
 refine .inr (.inr ⟨b, o, c, by rw [ls_len], by rw [ls_len]; exact hc, by rw [ls_len]; omega, fun j hj => ?_⟩)
 rw [ls_len] at hj
 rw [h.cell, arr_get _ _ _ (by omega), ls_gd _ hj]
theorem SlA_0 {w : World} {b : Nat} {e : Nat → Int} (h : Ar w b (byt e)) : Sha.SlA w (.slice (some ⟨b, 0, none⟩) 32 32) (ls 32 e) := by
 have := SlA_of (o := 0) (n := 32) (c := 32) h (by decide) (by decide) (by decide)
 rw [ls_congr (f := e) (fun i _ => by rw [Nat.zero_add])] at this
 exact this
theorem Pt_made1 {w u : World} (hu : Sha.Chg w u) {va : Value} {xa : List Int} (ha : Sha.SlA w va xa) (t : TypeId) : Sha.Pt (u.alloc (.cells #[va] t)) (.slice (some ⟨u.heap.size, 0, none⟩) 1 1) [xa] := by
 have hn := Sha.Ar.new u #[va] t
 refine .inr (.inr ⟨_, _, _, rfl, by simp, fun j xs hj => ?_⟩)
 match j, hj with
 | 0, hj =>
  simp at hj
  subst hj
  exact ⟨va, hn.cell 0, ha.chg (hu.alloc _)⟩
def b64 (f : Nat → Int) : Array Value := arr .u8 64 f
theorem b64_size (f : Nat → Int) : (b64 f).size = 64 := arr_size _ _ _
theorem zeroB : (∀ w, (zeroValue 26).run Tryz.prog w = .ok (.agg (b64 zD)) w) ∧ (Tryz.prog.info? 26).map (·.size) = some 64 := zero_of_info (by kernel_rfl)
theorem szB (f : Nat → Int) : (Tryz.prog.info? 26).map (·.size) = some (b64 f).size := by rw [b64_size]; exact zeroB.2
theorem infoB (f : Nat → Int) : (Tryz.prog.info? 26).map (·.size) = some (b64 f).toList.length := by rw [Array.length_toList]; exact szB f
theorem unB : Tryz.prog.underlying 26 = some (.array 64 5) := by kernel_rfl
theorem bp_YY {fn : Func} {R : Ending → World → Prop} {a : Act} {w : World} {p q b b' : Nat} {d e : Nat → Int} (h : fn.results = #[.cell p 22, .cell q 22]) (hd : a.defers = []) (hp : a.tmps.getD p undef = .pointer (some ⟨b, 0, none⟩)) (hq : a.tmps.getD q undef = .pointer (some ⟨b', 0, none⟩)) (ha : Ar w b (byt d)) (ha' : Ar w b' (byt e)) (hR : R (.returned (.tuple #[.agg (byt d), .agg (byt e)])) w) : bodyPost Tryz.prog fn R .ret a w := by
 refine bodyPost_ret (v := .tuple #[.agg (byt d), .agg (byt e)]) ?_ hd hR
 rw [Array.getD_eq_getD_getElem?] at hp hq
 simp only [results, h]
 simp [Sem.run_bind, Result.andThen, hp, hq, asAddr, ha.loadYe, ha'.loadYe]
theorem Ar.loadNe {w : World} {b : Nat} {x : Int} (h : Ar w b (num x)) : (Go.loadVar 35 ⟨b, 0, none⟩).run Tryz.prog w = .ok (.agg (num x)) w := by
 obtain ⟨g, h⟩ := h
 exact run_loadVar_row w b g 35 _ (0, 0) _ h undNum rfl (szN x)
theorem bp_NY {fn : Func} {R : Ending → World → Prop} {a : Act} {w : World} {p q b b' : Nat} {x : Int} {e : Nat → Int} (h : fn.results = #[.cell p 35, .cell q 22]) (hd : a.defers = []) (hp : a.tmps.getD p undef = .pointer (some ⟨b, 0, none⟩)) (hq : a.tmps.getD q undef = .pointer (some ⟨b', 0, none⟩)) (ha : Ar w b (num x)) (ha' : Ar w b' (byt e)) (hR : R (.returned (.tuple #[.agg (num x), .agg (byt e)])) w) : bodyPost Tryz.prog fn R .ret a w := by
 refine bodyPost_ret (v := .tuple #[.agg (num x), .agg (byt e)]) ?_ hd hR
 rw [Array.getD_eq_getD_getElem?] at hp hq
 simp only [results, h]
 simp [Sem.run_bind, Result.andThen, hp, hq, asAddr, ha.loadNe, ha'.loadYe]
theorem wpList_al {ops : Array Oper} {rest : List Oper} {o : Oper} {a : Act} {w : World} {Q : Exit → Act → World → Prop} (hg : o.guard = none) (T : TypeId) (c : Array Value) (ho : o.op = .alloc T) (hz : ∀ w, (zeroValue T).run Tryz.prog w = .ok (.agg c) w) (h : wpList Tryz.prog ops Q rest (a.put o.dst (.pointer (some ⟨w.heap.size, 0, none⟩))) (w.alloc (.cells c T))) : wpList Tryz.prog ops Q (o :: rest) a w :=
 wpList_plain hg fun K hK => op_val1 (v := .pointer (some ⟨w.heap.size, 0, none⟩)) (w' := w.alloc (.cells c T)) (by generalize a.eval = ρ; simp [go_sem, execOp, ho, hz]) (hK _ _ h)
theorem run_sliceHi {t n k : Nat} (hu : Tryz.prog.underlying t = some (.array n 5)) (hk : k ≤ n) (hk0 : 0 < n) (hn : n < 1000000) (b : Nat) (w : World) : (Instr.sliceAt t (.pointer (some ⟨b, 0, none⟩)) none (some (.int .i64 (k : Int))) none).run Tryz.prog w = .ok (.slice (some ⟨b, 0, none⟩) k n) w := by
 have h6 : ¬ n = 0 := by omega
 simp [go_sem, Instr.sliceAt, Instr.sliceBounds, Instr.sliceBound, run_underlying hu, Sem.run_bind, asIntOf, hk]
theorem run_sliceLo {t n k : Nat} (hu : Tryz.prog.underlying t = some (.array n 5)) (hk : k < n) (hn : n < 1000000) (b : Nat) (w : World) : (Instr.sliceAt t (.pointer (some ⟨b, 0, none⟩)) (some (.int .i64 (k : Int))) none none).run Tryz.prog w = .ok (.slice (some ⟨b, k, none⟩) (n - k) (n - k)) w := by
 have h6 : ¬ n = 0 := by omega
 have h7 : k ≤ n := by omega
 have h8 : ¬ n = k := by omega
 simp [go_sem, Instr.sliceAt, Instr.sliceBounds, Instr.sliceBound, run_underlying hu, Sem.run_bind, asIntOf, h7, h8, addr_addY]
theorem slHi (b : Nat) (w : World) : (Instr.sliceAt 26 (.pointer (some ⟨b, 0, none⟩)) none (some (.int .i64 32)) none).run Tryz.prog w = .ok (.slice (some ⟨b, 0, none⟩) 32 64) w := run_sliceHi (k := 32) unB (by decide) (by decide) (by decide) b w
theorem slLo (b : Nat) (w : World) : (Instr.sliceAt 26 (.pointer (some ⟨b, 0, none⟩)) (some (.int .i64 32)) none none).run Tryz.prog w = .ok (.slice (some ⟨b, 32, none⟩) 32 32) w := run_sliceLo (k := 32) unB (by decide) (by decide) b w
theorem slY (b : Nat) (w : World) : (Instr.sliceAt 22 (.pointer (some ⟨b, 0, none⟩)) none none none).run Tryz.prog w = .ok (.slice (some ⟨b, 0, none⟩) 32 32) w := run_sliceArrY un37 (by decide) b w
theorem slB (b : Nat) (w : World) : (Instr.sliceAt 26 (.pointer (some ⟨b, 0, none⟩)) none none none).run Tryz.prog w = .ok (.slice (some ⟨b, 0, none⟩) 64 64) w := run_sliceArrY unB (by decide) b w
theorem op_cp {o : Oper} {a : Act} {w : World} {K : Act → World → Prop} {Q : Exit → Act → World → Prop} (x y : Operand) (g N p dl dc b s sl sc n : Nat) (f e : Nat → Int) (ho : o.op = .call { callee := .builtin .copy, args := #[x, y], argTypes := #[23, 23] }) (ht : o.type = 3) (hx : a.eval x = .slice (some ⟨g, p, none⟩) dl dc) (hy : a.eval y = .slice (some ⟨b, s, none⟩) sl sc) (hd : Ar w g (arr .u8 N f)) (hs : Bz w b s n e) (hn : n = Nat.min sl dl) (hr : p + n ≤ N) (hK : K (a.put o.dst (.int .i64 n)) (w.setRow g (arr .u8 N (ovr p n e f)))) : o.wp Tryz.prog a w K Q := by
 refine op_val1 (v := .int .i64 n) ?_ hK
 revert hx hy
 generalize a.eval = ρ
 intro hx hy
 have hc := run_cpY w g N p dl dc b s sl sc n f e hd hs hn hr
 simp [go_sem, execOp, ho, ht, hx, hy, hc]
theorem Ar.bzE {w : World} {b N o n : Nat} {e : Nat → Int} (h : Ar w b (arr .u8 N e)) (hn : o + n ≤ N) : Bz w b o n (fun i => e (o + i)) := fun j hj => by
 rw [h.cell, arr_get _ _ _ (by omega)]
theorem ov_0 (f g : Nat → Int) : arr .u8 32 (ovr 0 32 (fun i => f (0 + i)) g) = byt f := arr_congr fun i hi => by
 unfold ovr
 rw [if_pos (by omega), Nat.sub_zero]
 show f (0 + i) = f i
 rw [Nat.zero_add]
theorem ov_1 (f g : Nat → Int) : arr .u8 32 (ovr 0 32 (fun i => f (32 + i)) g) = byt (fun i => f (32 + i)) := arr_congr fun i hi => by
 unfold ovr
 rw [if_pos (by omega), Nat.sub_zero]
set_option maxHeartbeats 8000000 in
theorem halvesE_any (f : Nat → Int) (w : World) : Calls Tryz.prog 33 #[.agg (b64 f)] w fun r w' => r = .returned (.tuple #[.agg (byt f), .agg (byt (fun i => f (32 + i)))]) ∧ Chg w w' := by
 have hz := zero37.1
 have hsA := b64_size f
 obtain ⟨A, hA⟩ : ∃ A, A = b64 f := ⟨_, rfl⟩
 have HA : Hid (A = b64 f) := hA
 rw [← hA] at hsA ⊢
 clear hA
 go_enter Tryz.func33, Tryz.ntmps33
 go_upto_region 1 with fail
 obtain ⟨w1, hw1⟩ : ∃ w1, w1 = ((w.alloc (.cells A 26)).alloc (.cells (byt zD) 22)).alloc (.cells (byt zD) 22) := ⟨_, rfl⟩
 have Z1 : Hid (Chg w w1 ∧ Ar w1 w.heap.size (b64 f) ∧ Ar w1 (w.heap.size + 1) (byt zD) ∧ Ar w1 (w.heap.size + 1 + 1) (byt zD)) := by
  have hnew0 := Ar.new w (b64 f) 26
  have hnew1 := Ar.new (w.alloc (.cells (b64 f) 26)) (byt zD) 22
  rw [World.size_alloc] at hnew1
  have hnew2 := Ar.new ((w.alloc (.cells (b64 f) 26)).alloc (.cells (byt zD) 22)) (byt zD) 22
  rw [World.size_alloc, World.size_alloc] at hnew2
  rw [hw1, HA.out]
  exact ⟨((((Chg.refl w).alloc _).alloc _).alloc _), (((hnew0).alloc _).alloc _), ((hnew1).alloc _), (hnew2)⟩
 rw [← hw1]
 clear hw1
 clear hsA hz HA
 go_cut [] from 4 to 6 (fun wc => ∃ u, Chg w1 u ∧ wc = u.setRow (w.heap.size + 1) (byt f))
 case first =>
  refine regA 2 (fun j v wg => match j with
   | 0 => v = .slice (some ⟨w.heap.size + 1, 0, none⟩) 32 32
   | 1 => v = .slice (some ⟨w.heap.size, 0, none⟩) 32 64
   | _ => True) (by kernel_rfl) (by kernel_rfl) (by kernel_rfl) (by kernel_rfl) (by kernel_rfl) ?_ ?_ ?_
  ·intro j v u1 u2 h hc
   match j, h with
   | 0, h => exact h
   | 1, h => exact h
   | _ + 2, h => exact trivial
  ·intro i o ac u hi ho hsz hf hg hc
   have hcs : i = 0 ∨ i = 1 := by omega
   rcases hcs with rfl | rfl
   ·injection ho with ho
    subst ho
    refine .inl ⟨wanted_none rfl, ?_⟩
    have e1 : ac.eval (.tmp 2) = .pointer (some ⟨w.heap.size + 1, 0, none⟩) := hf 2 (by kernel_rfl)
    exact opG_val (by simp [execOp, e1, slY]) rfl (Chg.refl _)
   ·injection ho with ho
    subst ho
    refine .inl ⟨wanted_none rfl, ?_⟩
    have e1 : ac.eval (.tmp 1) = .pointer (some ⟨w.heap.size, 0, none⟩) := hf 1 (by kernel_rfl)
    exact opG_val (by simp [execOp, e1, show ac.eval (.const (.int .i64 32)) = .int .i64 32 from rfl, slHi]) rfl (Chg.refl _)
  ·intro o u V ho hV hc
   injection ho with ho
   subst ho
   refine ⟨rfl, ?_⟩
   have q4 : V 0 = .slice (some ⟨w.heap.size + 1, 0, none⟩) 32 32 := hV 0 (by decide)
   have q5 : V 1 = .slice (some ⟨w.heap.size, 0, none⟩) 32 64 := hV 1 (by decide)
   have hres := Z1.out.2.2.1.chg hc
   refine op_cp (.tmp 4) (.tmp 5) (w.heap.size + 1) 32 0 32 32 w.heap.size 0 32 64 32 zD (fun i => (f) (0 + i)) rfl rfl (Eq.trans (by rfl) q4) (Eq.trans (by rfl) q5) hres (Ar.bzE (Z1.out.2.1.chg hc) (by decide)) rfl (by decide) ?_
   rw [show arr .u8 32 (ovr 0 32 (fun i => (f) (0 + i)) zD) = byt f from ov_0 f zD]
   go_wp2_with fail
   go_meet
   exact ⟨u, hc, rfl⟩
 obtain ⟨u, hcc, rfl⟩ := hcut
 obtain ⟨w2, hw2⟩ : ∃ zz0, zz0 = u.setRow (w.heap.size + 1) (byt f) := ⟨_, rfl⟩
 have Z2 : Hid (Chg w w2 ∧ Ar w2 w.heap.size (b64 f) ∧ Ar w2 (w.heap.size + 1) (byt f) ∧ Ar w2 (w.heap.size + 1 + 1) (byt zD)) := by
  rw [hw2]
  exact ⟨(Z1.out.1.trans hcc).setRow (by omega) _, (Z1.out.2.1.chg hcc).rowOther (by omega) _, (Z1.out.2.2.1.chg hcc).row _, (Z1.out.2.2.2.chg hcc).rowOther (by omega) _⟩
 rw [← hw2]
 clear hw2 hcc Z1 u
 go_upto_region 2 with fail
 go_cut [] from 7 to 9 (fun wc => ∃ u, Chg w2 u ∧ wc = u.setRow (w.heap.size + 1 + 1) (byt (fun i => f (32 + i))))
 case first =>
  refine regA 2 (fun j v wg => match j with
   | 0 => v = .slice (some ⟨w.heap.size + 1 + 1, 0, none⟩) 32 32
   | 1 => v = .slice (some ⟨w.heap.size, 32, none⟩) 32 32
   | _ => True) (by kernel_rfl) (by kernel_rfl) (by kernel_rfl) (by kernel_rfl) (by kernel_rfl) ?_ ?_ ?_
  ·intro j v u1 u2 h hc
   match j, h with
   | 0, h => exact h
   | 1, h => exact h
   | _ + 2, h => exact trivial
  ·intro i o ac u hi ho hsz hf hg hc
   have hcs : i = 0 ∨ i = 1 := by omega
   rcases hcs with rfl | rfl
   ·injection ho with ho
    subst ho
    refine .inl ⟨wanted_none rfl, ?_⟩
    have e1 : ac.eval (.tmp 3) = .pointer (some ⟨w.heap.size + 1 + 1, 0, none⟩) := hf 3 (by kernel_rfl)
    exact opG_val (by simp [execOp, e1, slY]) rfl (Chg.refl _)
   ·injection ho with ho
    subst ho
    refine .inl ⟨wanted_none rfl, ?_⟩
    have e1 : ac.eval (.tmp 1) = .pointer (some ⟨w.heap.size, 0, none⟩) := hf 1 (by kernel_rfl)
    exact opG_val (by simp [execOp, e1, show ac.eval (.const (.int .i64 32)) = .int .i64 32 from rfl, slLo]) rfl (Chg.refl _)
  ·intro o u V ho hV hc
   injection ho with ho
   subst ho
   refine ⟨rfl, ?_⟩
   have q7 : V 0 = .slice (some ⟨w.heap.size + 1 + 1, 0, none⟩) 32 32 := hV 0 (by decide)
   have q8 : V 1 = .slice (some ⟨w.heap.size, 32, none⟩) 32 32 := hV 1 (by decide)
   have hres := Z2.out.2.2.2.chg hc
   refine op_cp (.tmp 7) (.tmp 8) (w.heap.size + 1 + 1) 32 0 32 32 w.heap.size 32 32 32 32 zD (fun i => (f) (32 + i)) rfl rfl (Eq.trans (by rfl) q7) (Eq.trans (by rfl) q8) hres (Ar.bzE (Z2.out.2.1.chg hc) (by decide)) rfl (by decide) ?_
   rw [show arr .u8 32 (ovr 0 32 (fun i => (f) (32 + i)) zD) = byt (fun i => f (32 + i)) from ov_1 f zD]
   go_wp2_with fail
   go_meet
   exact ⟨u, hc, rfl⟩
 obtain ⟨u, hcc, rfl⟩ := hcut
 obtain ⟨w3, hw3⟩ : ∃ zz0, zz0 = u.setRow (w.heap.size + 1 + 1) (byt (fun i => f (32 + i))) := ⟨_, rfl⟩
 have Z3 : Hid (Chg w w3 ∧ Ar w3 w.heap.size (b64 f) ∧ Ar w3 (w.heap.size + 1) (byt f) ∧ Ar w3 (w.heap.size + 1 + 1) (byt (fun i => f (32 + i)))) := by
  rw [hw3]
  exact ⟨(Z2.out.1.trans hcc).setRow (by omega) _, (Z2.out.2.1.chg hcc).rowOther (by omega) _, (Z2.out.2.2.1.chg hcc).rowOther (by omega) _, (Z2.out.2.2.2.chg hcc).row _⟩
 rw [← hw3]
 clear hw3 hcc Z2 u
 go_upto_region 3 with fail
 go_cut [] from 10 to 11 (fun wc => Chg w wc ∧ Ar wc w.heap.size (b64 f) ∧ Ar wc (w.heap.size + 1) (byt f) ∧ Ar wc (w.heap.size + 1 + 1) (byt (fun i => f (32 + i))))
 case first =>
  refine regL 2 (fun j v wg => match j with
   | 0 => v = .agg (byt f)
   | 1 => v = .agg (byt (fun i => f (32 + i)))
   | _ => True) (by decide) (by kernel_rfl) ?_ ?_ ?_
  ·intro j v u1 u2 h hc
   match j, h with
   | 0, h => exact h
   | 1, h => exact h
   | _ + 2, h => exact trivial
  ·intro i o ac u hi ho hsz hf hg hc
   have hcs : i = 0 ∨ i = 1 := by omega
   rcases hcs with rfl | rfl
   ·injection ho with ho
    subst ho
    refine .inl ⟨wanted_none rfl, ?_⟩
    have e1 : ac.eval (.tmp 2) = .pointer (some ⟨w.heap.size + 1, 0, none⟩) := hf 2 (by kernel_rfl)
    exact wp_load_mid 22 (.tmp 2) rfl _ _ e1 ((byt f).toList) _ (rangeAp (Z3.out.2.2.1.chg hc)) un37 rfl (infoY _) ⟨_, rfl, rfl, Chg.refl _⟩
   ·injection ho with ho
    subst ho
    refine .inl ⟨wanted_none rfl, ?_⟩
    have e1 : ac.eval (.tmp 3) = .pointer (some ⟨w.heap.size + 1 + 1, 0, none⟩) := hf 3 (by kernel_rfl)
    exact wp_load_mid 22 (.tmp 3) rfl _ _ e1 ((byt (fun i => f (32 + i))).toList) _ (rangeAp (Z3.out.2.2.2.chg hc)) un37 rfl (infoY _) ⟨_, rfl, rfl, Chg.refl _⟩
  ·intro u V hV hc
   have q10 : V 0 = .agg (byt f) := hV 0 (by decide)
   have q11 : V 1 = .agg (byt (fun i => f (32 + i))) := hV 1 (by decide)
   have h2 := Z3.out.2.2.1.chg hc
   have h3 := Z3.out.2.2.2.chg hc
   refine wpList_store_mid rfl 22 (.tmp 2) (.tmp 10) rfl (w.heap.size + 1) 0 (byt f) (by rfl) (Eq.trans (by rfl) q10) (by rw [byt_size]; exact thereY h2) (szY _) (oneY _) ?_
   rw [show u.setCells (w.heap.size + 1) 0 (byt f).toList = u.setRow (w.heap.size + 1) (byt f) from setRowY h2 _]
   have h3' := h3.rowOther (b' := w.heap.size + 1) (by omega) (byt f)
   refine wpList_store_mid rfl 22 (.tmp 3) (.tmp 11) rfl (w.heap.size + 1 + 1) 0 (byt (fun i => f (32 + i))) (by rfl) (Eq.trans (by rfl) q11) (by rw [byt_size]; exact thereY h3') (szY _) (oneY _) ?_
   rw [show (u.setRow (w.heap.size + 1) (byt f)).setCells (w.heap.size + 1 + 1) 0 (byt (fun i => f (32 + i))).toList = (u.setRow (w.heap.size + 1) (byt f)).setRow (w.heap.size + 1 + 1) (byt (fun i => f (32 + i))) from setRowY h3' _]
   have q8 : Hid (Chg w ((u.setRow (w.heap.size + 1) (byt f)).setRow (w.heap.size + 1 + 1) (byt (fun i => f (32 + i)))) ∧ Ar ((u.setRow (w.heap.size + 1) (byt f)).setRow (w.heap.size + 1 + 1) (byt (fun i => f (32 + i)))) w.heap.size (b64 f) ∧ Ar ((u.setRow (w.heap.size + 1) (byt f)).setRow (w.heap.size + 1 + 1) (byt (fun i => f (32 + i)))) (w.heap.size + 1) (byt f) ∧ Ar ((u.setRow (w.heap.size + 1) (byt f)).setRow (w.heap.size + 1 + 1) (byt (fun i => f (32 + i)))) (w.heap.size + 1 + 1) (byt (fun i => f (32 + i)))) := ⟨((Z3.out.1.trans hc).setRow (by omega) _).setRow (by omega) _, ((Z3.out.2.1.chg hc).rowOther (by omega) _).rowOther (by omega) _, (h2.row _).rowOther (by omega) _, h3'.row _⟩
   generalize (u.setRow (w.heap.size + 1) (byt f)).setRow (w.heap.size + 1 + 1) (byt (fun i => f (32 + i))) = uu at *
   go_wp2_with fail
   go_meet
   exact q8.out
 have Z9 : Hid (Chg w wc ∧ Ar wc w.heap.size (b64 f) ∧ Ar wc (w.heap.size + 1) (byt f) ∧ Ar wc (w.heap.size + 1 + 1) (byt (fun i => f (32 + i)))) := hcut
 clear hcut Z3
 go_wp2_with fail
 exact bp_YY Tryz.results33 rfl rfl rfl Z9.out.2.2.1 Z9.out.2.2.2 ⟨rfl, Z9.out.1⟩
end Go.Proofs.YtjfidbifjagnpaaGreatDoor
