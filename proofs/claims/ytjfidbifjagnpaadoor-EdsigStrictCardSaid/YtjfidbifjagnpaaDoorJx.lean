/-
  Sums of bytes, as this layer uses them; halves and joins of bytes, slices of arrays: small facts.
  Halves and joins of bytes: the program.
-/
import Derived.Test.YtjfidbifjagnpaaDoorJsd
import Derived.Test.YtjfidbifjagnpaaDoorJs
import Derived.Test.YtjfidbifjagnpaaDoorBy
import Derived.Test.YtjfidbifjagnpaaDoorJc
namespace Go.Proofs.YtjfidbifjagnpaaDoor
open Go.RowKit
set_option linter.unusedVariables false
set_option maxRecDepth 100000
theorem toS {w w' : World} (h : Chg w w') : Sha.Chg w w' := ⟨h.os, h.tape, h.output, h.size, h.block⟩
theorem ofS {w w' : World} (h : Sha.Chg w w') : Chg w w' := ⟨h.os, h.tape, h.output, h.size, h.block⟩
theorem ofArS {w : World} {b : Nat} {c : Array Value} (h : Sha.Ar w b c) : Ar w b c := h
def hL (xs : List Int) : Nat → Int := Sha.sumByte 3 (Sha.sumSt 3 xs)
theorem hL_8 (xs : List Int) (i : Nat) : B8 (hL xs i) := by
 unfold hL Sha.sumByte B8
 rw [IntKind.wrap_u8]
 omega
def kW (xs : List Int) : Int := md 4 (val 256 64 (hL xs))
theorem kW_N (xs : List Int) : N256 (kW xs) := md_N _ _
def ls (n : Nat) (e : Nat → Int) : List Int := (List.range n).map e
theorem ls_len (n : Nat) (e : Nat → Int) : (ls n e).length = n := by simp [ls]
theorem ls_gd {n : Nat} (e : Nat → Int) {j : Nat} (h : j < n) : Sha.gd (ls n e) j = e j := by
 unfold Sha.gd ls
 simp [List.getD_eq_getElem?_getD, h]
theorem ls_congr {n : Nat} {e f : Nat → Int} (h : ∀ i, i < n → e i = f i) : ls n e = ls n f := List.map_congr_left fun i hi => h i (List.mem_range.1 hi)
theorem ls_8 {n : Nat} {e : Nat → Int} (h : ∀ i, B8 (e i)) : ∀ x ∈ ls n e, 0 ≤ x ∧ x < 256 := by
 intro x hx
 obtain ⟨i, _, rfl⟩ := List.mem_map.1 hx
 exact h i
theorem sumL_ls (xs : List Int) : Sha.sumL 3 xs = ls 64 (hL xs) := rfl
theorem SlA_of {w : World} {b N o n c : Nat} {e : Nat → Int} (h : Ar w b (arr .u8 N e)) (hn : o + n ≤ N) (hc : n ≤ c) (hc' : c < 1000000) : Sha.SlA w (.slice (some ⟨b, o, none⟩) n c) (ls n (fun i => e (o + i))) := by
 refine .inr (.inr ⟨b, o, c, by rw [ls_len], by rw [ls_len]; exact hc, by rw [ls_len]; omega, fun j hj => ?_⟩)
 rw [ls_len] at hj
 rw [h.cell, arr_get _ _ _ (by omega), ls_gd _ hj]
theorem SlA_0 {w : World} {b : Nat} {e : Nat → Int} (h : Ar w b (byt e)) : Sha.SlA w (.slice (some ⟨b, 0, none⟩) 32 32) (ls 32 e) := by
 have := SlA_of (o := 0) (n := 32) (c := 32) h (by decide) (by decide) (by decide)
 rw [ls_congr (f := e) (fun i _ => by rw [Nat.zero_add])] at this
 exact this
theorem Pt_made1 {w u : World} (hu : Sha.Chg w u) {va : Value} {xa : List Int} (ha : Sha.SlA w va xa) (t : TypeId) : Sha.Pt (u.alloc (.cells #[va] t)) (.slice (some ⟨u.heap.size, 0, none⟩) 1 1) [xa] := by
 have hn := Sha.Ar.new u #[va] t
 refine .inr (.inr ⟨_, _, _, rfl, by simp, fun j xs hj => ?_⟩)
 match j, hj with
 | 0, hj =>
  simp at hj
  subst hj
  exact ⟨va, hn.cell 0, ha.chg (hu.alloc _)⟩
def b64 (f : Nat → Int) : Array Value := arr .u8 64 f
theorem b64_size (f : Nat → Int) : (b64 f).size = 64 := arr_size _ _ _
theorem zeroB : (∀ w, (zeroValue 27).run Tryd.prog w = .ok (.agg (b64 zD)) w) ∧ (Tryd.prog.info? 27).map (·.size) = some 64 := zero_of_info (by kernel_rfl)
theorem szB (f : Nat → Int) : (Tryd.prog.info? 27).map (·.size) = some (b64 f).size := by rw [b64_size]; exact zeroB.2
theorem lenB (f g : Nat → Int) : (b64 f).size = (b64 g).size := by rw [b64_size, b64_size]
theorem oneB (f : Nat → Int) : (b64 f).all (·.oneCell') = true := arr_one _ _ _
theorem infoB (f : Nat → Int) : (Tryd.prog.info? 27).map (·.size) = some (b64 f).toList.length := by rw [Array.length_toList]; exact szB f
theorem unB : Tryd.prog.underlying 27 = some (.array 64 5) := by kernel_rfl
theorem thereB {w : World} {b : Nat} {d : Nat → Int} (h : Ar w b (b64 d)) : w.there b 0 64 := fun j hj => by
 rw [Nat.zero_add, h.cell]
 refine ⟨?_, h.frozen j⟩
 unfold b64
 rw [arr_get _ _ _ hj]
 rfl
theorem setRowB {w : World} {b : Nat} {d : Nat → Int} (h : Ar w b (b64 d)) (e : Nat → Int) : w.setCells b 0 (b64 e).toList = w.setRow b (b64 e) := by
 have h1 := run_storeVar_mid (P := Tryd.prog) w b 0 27 (b64 e) (by rw [b64_size]; exact thereB h) (szB e) (oneB e)
 obtain ⟨t, h⟩ := h
 have h2 := run_storeVar_row (P := Tryd.prog) w b t 27 _ (b64 e) h (szB e) (lenB d e) (oneB e)
 rw [h1] at h2
 injection h2
theorem Ar.loadB {w : World} {b : Nat} {d : Nat → Int} (h : Ar w b (b64 d)) : (Go.loadVar 27 ⟨b, 0, none⟩).run Tryd.prog w = .ok (.agg (b64 d)) w := by
 obtain ⟨g, h⟩ := h
 exact run_loadVar_row w b g 27 _ (0, 0) _ h Tryd.underlying27 rfl (szB d)
theorem bp_B {fn : Func} {R : Ending → World → Prop} {a : Act} {w : World} {p b : Nat} {d : Nat → Int} (h : fn.results = #[.cell p 27]) (hd : a.defers = []) (hp : a.tmps.getD p undef = .pointer (some ⟨b, 0, none⟩)) (ha : Ar w b (b64 d)) (hR : R (.returned (.agg (b64 d))) w) : bodyPost Tryd.prog fn R .ret a w := by
 refine bodyPost_ret (v := .agg (b64 d)) ?_ hd hR
 rw [Array.getD_eq_getD_getElem?] at hp
 simp only [results, h]
 simp [hp, asAddr, ha.loadB]
theorem bp_YY {fn : Func} {R : Ending → World → Prop} {a : Act} {w : World} {p q b b' : Nat} {d e : Nat → Int} (h : fn.results = #[.cell p 22, .cell q 22]) (hd : a.defers = []) (hp : a.tmps.getD p undef = .pointer (some ⟨b, 0, none⟩)) (hq : a.tmps.getD q undef = .pointer (some ⟨b', 0, none⟩)) (ha : Ar w b (byt d)) (ha' : Ar w b' (byt e)) (hR : R (.returned (.tuple #[.agg (byt d), .agg (byt e)])) w) : bodyPost Tryd.prog fn R .ret a w := by
 refine bodyPost_ret (v := .tuple #[.agg (byt d), .agg (byt e)]) ?_ hd hR
 rw [Array.getD_eq_getD_getElem?] at hp hq
 simp only [results, h]
 simp [Sem.run_bind, Result.andThen, hp, hq, asAddr, ha.loadYe, ha'.loadYe]
theorem Ar.loadNe {w : World} {b : Nat} {x : Int} (h : Ar w b (num x)) : (Go.loadVar 32 ⟨b, 0, none⟩).run Tryd.prog w = .ok (.agg (num x)) w := by
 obtain ⟨g, h⟩ := h
 exact run_loadVar_row w b g 32 _ (0, 0) _ h undNum rfl (szN x)
theorem bp_NY {fn : Func} {R : Ending → World → Prop} {a : Act} {w : World} {p q b b' : Nat} {x : Int} {e : Nat → Int} (h : fn.results = #[.cell p 32, .cell q 22]) (hd : a.defers = []) (hp : a.tmps.getD p undef = .pointer (some ⟨b, 0, none⟩)) (hq : a.tmps.getD q undef = .pointer (some ⟨b', 0, none⟩)) (ha : Ar w b (num x)) (ha' : Ar w b' (byt e)) (hR : R (.returned (.tuple #[.agg (num x), .agg (byt e)])) w) : bodyPost Tryd.prog fn R .ret a w := by
 refine bodyPost_ret (v := .tuple #[.agg (num x), .agg (byt e)]) ?_ hd hR
 rw [Array.getD_eq_getD_getElem?] at hp hq
 simp only [results, h]
 simp [Sem.run_bind, Result.andThen, hp, hq, asAddr, ha.loadNe, ha'.loadYe]
theorem wpList_al {ops : Array Oper} {rest : List Oper} {o : Oper} {a : Act} {w : World} {Q : Exit → Act → World → Prop} (hg : o.guard = none) (T : TypeId) (c : Array Value) (ho : o.op = .alloc T) (hz : ∀ w, (zeroValue T).run Tryd.prog w = .ok (.agg c) w) (h : wpList Tryd.prog ops Q rest (a.put o.dst (.pointer (some ⟨w.heap.size, 0, none⟩))) (w.alloc (.cells c T))) : wpList Tryd.prog ops Q (o :: rest) a w :=
 wpList_plain hg fun K hK => op_val1 (v := .pointer (some ⟨w.heap.size, 0, none⟩)) (w' := w.alloc (.cells c T)) (by generalize a.eval = ρ; simp [go_sem, execOp, ho, hz]) (hK _ _ h)
theorem run_sliceHi {t n k : Nat} (hu : Tryd.prog.underlying t = some (.array n 5)) (hk : k ≤ n) (hk0 : 0 < n) (hn : n < 1000000) (b : Nat) (w : World) : (Instr.sliceAt t (.pointer (some ⟨b, 0, none⟩)) none (some (.int .i64 (k : Int))) none).run Tryd.prog w = .ok (.slice (some ⟨b, 0, none⟩) k n) w := by
 have h6 : ¬ n = 0 := by omega
 simp [go_sem, Instr.sliceAt, Instr.sliceBounds, Instr.sliceBound, run_underlying hu, Sem.run_bind, asIntOf, hk]
theorem run_sliceLo {t n k : Nat} (hu : Tryd.prog.underlying t = some (.array n 5)) (hk : k < n) (hn : n < 1000000) (b : Nat) (w : World) : (Instr.sliceAt t (.pointer (some ⟨b, 0, none⟩)) (some (.int .i64 (k : Int))) none none).run Tryd.prog w = .ok (.slice (some ⟨b, k, none⟩) (n - k) (n - k)) w := by
 have h6 : ¬ n = 0 := by omega
 have h7 : k ≤ n := by omega
 have h8 : ¬ n = k := by omega
 simp [go_sem, Instr.sliceAt, Instr.sliceBounds, Instr.sliceBound, run_underlying hu, Sem.run_bind, asIntOf, h7, h8, addr_addY]
theorem slHi (b : Nat) (w : World) : (Instr.sliceAt 27 (.pointer (some ⟨b, 0, none⟩)) none (some (.int .i64 32)) none).run Tryd.prog w = .ok (.slice (some ⟨b, 0, none⟩) 32 64) w := run_sliceHi (k := 32) unB (by decide) (by decide) (by decide) b w
theorem slLo (b : Nat) (w : World) : (Instr.sliceAt 27 (.pointer (some ⟨b, 0, none⟩)) (some (.int .i64 32)) none none).run Tryd.prog w = .ok (.slice (some ⟨b, 32, none⟩) 32 32) w := run_sliceLo (k := 32) unB (by decide) (by decide) b w
theorem slY (b : Nat) (w : World) : (Instr.sliceAt 22 (.pointer (some ⟨b, 0, none⟩)) none none none).run Tryd.prog w = .ok (.slice (some ⟨b, 0, none⟩) 32 32) w := run_sliceArrY un37 (by decide) b w
theorem slB (b : Nat) (w : World) : (Instr.sliceAt 27 (.pointer (some ⟨b, 0, none⟩)) none none none).run Tryd.prog w = .ok (.slice (some ⟨b, 0, none⟩) 64 64) w := run_sliceArrY unB (by decide) b w
theorem op_cp {o : Oper} {a : Act} {w : World} {K : Act → World → Prop} {Q : Exit → Act → World → Prop} (x y : Operand) (g N p dl dc b s sl sc n : Nat) (f e : Nat → Int) (ho : o.op = .call { callee := .builtin .copy, args := #[x, y], argTypes := #[23, 23] }) (ht : o.type = 3) (hx : a.eval x = .slice (some ⟨g, p, none⟩) dl dc) (hy : a.eval y = .slice (some ⟨b, s, none⟩) sl sc) (hd : Ar w g (arr .u8 N f)) (hs : Bz w b s n e) (hn : n = Nat.min sl dl) (hr : p + n ≤ N) (hK : K (a.put o.dst (.int .i64 n)) (w.setRow g (arr .u8 N (ovr p n e f)))) : o.wp Tryd.prog a w K Q := by
 refine op_val1 (v := .int .i64 n) ?_ hK
 revert hx hy
 generalize a.eval = ρ
 intro hx hy
 have hc := run_cpY w g N p dl dc b s sl sc n f e hd hs hn hr
 simp [go_sem, execOp, ho, ht, hx, hy, hc]
theorem Ar.bzE {w : World} {b N o n : Nat} {e : Nat → Int} (h : Ar w b (arr .u8 N e)) (hn : o + n ≤ N) : Bz w b o n (fun i => e (o + i)) := fun j hj => by
 rw [h.cell, arr_get _ _ _ (by omega)]
end Go.Proofs.YtjfidbifjagnpaaDoor
namespace Go.Proofs.YtjfidbifjagnpaaDoor
open Go.RowKit
set_option linter.unusedVariables false
set_option maxRecDepth 100000
theorem ov_0 (f g : Nat → Int) : arr .u8 32 (ovr 0 32 (fun i => f (0 + i)) g) = byt f := arr_congr fun i hi => by
 unfold ovr
 rw [if_pos (by omega), Nat.sub_zero]
 show f (0 + i) = f i
 rw [Nat.zero_add]
theorem ov_1 (f g : Nat → Int) : arr .u8 32 (ovr 0 32 (fun i => f (32 + i)) g) = byt (fun i => f (32 + i)) := arr_congr fun i hi => by
 unfold ovr
 rw [if_pos (by omega), Nat.sub_zero]
def jn (f g : Nat → Int) : Nat → Int := fun i => if i < 32 then f i else g (i - 32)
theorem jn_8 {f g : Nat → Int} (hf : ∀ i, B8 (f i)) (hg : ∀ i, B8 (g i)) : ∀ i, B8 (jn f g i) := fun i => by
 unfold jn
 split
 ·exact hf i
 ·exact hg _
theorem ov_2 (f g : Nat → Int) : arr .u8 64 (ovr 32 32 (fun i => g (0 + i)) (ovr 0 32 (fun i => f (0 + i)) zD)) = b64 (jn f g) := arr_congr fun i hi => by
 unfold ovr jn
 by_cases h : i < 32
 ·rw [if_neg (by omega), if_pos (by omega), if_pos h, Nat.sub_zero]
  show f (0 + i) = f i
  rw [Nat.zero_add]
 ·rw [if_pos (by omega), if_neg h]
  show g (0 + (i - 32)) = g (i - 32)
  rw [Nat.zero_add]
set_option maxHeartbeats 8000000 in
theorem halvesE_any (f : Nat → Int) (w : World) : Calls Tryd.prog 14 #[.agg (b64 f)] w fun r w' => r = .returned (.tuple #[.agg (byt f), .agg (byt (fun i => f (32 + i)))]) ∧ Chg w w' := by
 have hz := zero37.1
 have hsA := b64_size f
 obtain ⟨A, hA⟩ : ∃ A, A = b64 f := ⟨_, rfl⟩
 have HA : Hid (A = b64 f) := hA
 rw [← hA] at hsA ⊢
 clear hA
 go_enter Tryd.func14, Tryd.ntmps14
 go_upto_region 1 with fail
 obtain ⟨w1, hw1⟩ : ∃ w1, w1 = ((w.alloc (.cells A 27)).alloc (.cells (byt zD) 22)).alloc (.cells (byt zD) 22) := ⟨_, rfl⟩
 have Z1 : Hid (Chg w w1 ∧ Ar w1 w.heap.size (b64 f) ∧ Ar w1 (w.heap.size + 1) (byt zD) ∧ Ar w1 (w.heap.size + 1 + 1) (byt zD)) := by
  have hnew0 := Ar.new w (b64 f) 27
  have hnew1 := Ar.new (w.alloc (.cells (b64 f) 27)) (byt zD) 22
  rw [World.size_alloc] at hnew1
  have hnew2 := Ar.new ((w.alloc (.cells (b64 f) 27)).alloc (.cells (byt zD) 22)) (byt zD) 22
  rw [World.size_alloc, World.size_alloc] at hnew2
  rw [hw1, HA.out]
  exact ⟨((((Chg.refl w).alloc _).alloc _).alloc _), (((hnew0).alloc _).alloc _), ((hnew1).alloc _), (hnew2)⟩
 rw [← hw1]
 clear hw1
 clear hsA hz HA
 go_cut [] from 4 to 6 (fun wc => ∃ u, Chg w1 u ∧ wc = u.setRow (w.heap.size + 1) (byt f))
 case first =>
  refine regA 2 (fun j v wg => match j with
   | 0 => v = .slice (some ⟨w.heap.size + 1, 0, none⟩) 32 32
   | 1 => v = .slice (some ⟨w.heap.size, 0, none⟩) 32 64
   | _ => True) (by kernel_rfl) (by kernel_rfl) (by kernel_rfl) (by kernel_rfl) (by kernel_rfl) ?_ ?_ ?_
  ·intro j v u1 u2 h hc
   match j, h with
   | 0, h => exact h
   | 1, h => exact h
   | _ + 2, h => exact trivial
  ·intro i o ac u hi ho hsz hf hg hc
   have hcs : i = 0 ∨ i = 1 := by omega
   rcases hcs with rfl | rfl
   ·injection ho with ho
    subst ho
    refine .inl ⟨wanted_none rfl, ?_⟩
    have e1 : ac.eval (.tmp 2) = .pointer (some ⟨w.heap.size + 1, 0, none⟩) := hf 2 (by kernel_rfl)
    exact opG_val (by simp [execOp, e1, slY]) rfl (Chg.refl _)
   ·injection ho with ho
    subst ho
    refine .inl ⟨wanted_none rfl, ?_⟩
    have e1 : ac.eval (.tmp 1) = .pointer (some ⟨w.heap.size, 0, none⟩) := hf 1 (by kernel_rfl)
    exact opG_val (by simp [execOp, e1, show ac.eval (.const (.int .i64 32)) = .int .i64 32 from rfl, slHi]) rfl (Chg.refl _)
  ·intro o u V ho hV hc
   injection ho with ho
   subst ho
   refine ⟨rfl, ?_⟩
   have q4 : V 0 = .slice (some ⟨w.heap.size + 1, 0, none⟩) 32 32 := hV 0 (by decide)
   have q5 : V 1 = .slice (some ⟨w.heap.size, 0, none⟩) 32 64 := hV 1 (by decide)
   have hres := Z1.out.2.2.1.chg hc
   refine op_cp (.tmp 4) (.tmp 5) (w.heap.size + 1) 32 0 32 32 w.heap.size 0 32 64 32 zD (fun i => (f) (0 + i)) rfl rfl (Eq.trans (by rfl) q4) (Eq.trans (by rfl) q5) hres (Ar.bzE (Z1.out.2.1.chg hc) (by decide)) rfl (by decide) ?_
   rw [show arr .u8 32 (ovr 0 32 (fun i => (f) (0 + i)) zD) = byt f from ov_0 f zD]
   go_wp2_with fail
   go_meet
   exact ⟨u, hc, rfl⟩
 obtain ⟨u, hcc, rfl⟩ := hcut
 obtain ⟨w2, hw2⟩ : ∃ zz0, zz0 = u.setRow (w.heap.size + 1) (byt f) := ⟨_, rfl⟩
 have Z2 : Hid (Chg w w2 ∧ Ar w2 w.heap.size (b64 f) ∧ Ar w2 (w.heap.size + 1) (byt f) ∧ Ar w2 (w.heap.size + 1 + 1) (byt zD)) := by
  rw [hw2]
  exact ⟨(Z1.out.1.trans hcc).setRow (by omega) _, (Z1.out.2.1.chg hcc).rowOther (by omega) _, (Z1.out.2.2.1.chg hcc).row _, (Z1.out.2.2.2.chg hcc).rowOther (by omega) _⟩
 rw [← hw2]
 clear hw2 hcc Z1 u
 go_upto_region 2 with fail
 go_cut [] from 7 to 9 (fun wc => ∃ u, Chg w2 u ∧ wc = u.setRow (w.heap.size + 1 + 1) (byt (fun i => f (32 + i))))
 case first =>
  refine regA 2 (fun j v wg => match j with
   | 0 => v = .slice (some ⟨w.heap.size + 1 + 1, 0, none⟩) 32 32
   | 1 => v = .slice (some ⟨w.heap.size, 32, none⟩) 32 32
   | _ => True) (by kernel_rfl) (by kernel_rfl) (by kernel_rfl) (by kernel_rfl) (by kernel_rfl) ?_ ?_ ?_
  ·intro j v u1 u2 h hc
   match j, h with
   | 0, h => exact h
   | 1, h => exact h
   | _ + 2, h => exact trivial
  ·intro i o ac u hi ho hsz hf hg hc
   have hcs : i = 0 ∨ i = 1 := by omega
   rcases hcs with rfl | rfl
   ·injection ho with ho
    subst ho
    refine .inl ⟨wanted_none rfl, ?_⟩
    have e1 : ac.eval (.tmp 3) = .pointer (some ⟨w.heap.size + 1 + 1, 0, none⟩) := hf 3 (by kernel_rfl)
    exact opG_val (by simp [execOp, e1, slY]) rfl (Chg.refl _)
   ·injection ho with ho
    subst ho
    refine .inl ⟨wanted_none rfl, ?_⟩
    have e1 : ac.eval (.tmp 1) = .pointer (some ⟨w.heap.size, 0, none⟩) := hf 1 (by kernel_rfl)
    exact opG_val (by simp [execOp, e1, show ac.eval (.const (.int .i64 32)) = .int .i64 32 from rfl, slLo]) rfl (Chg.refl _)
  ·intro o u V ho hV hc
   injection ho with ho
   subst ho
   refine ⟨rfl, ?_⟩
   have q7 : V 0 = .slice (some ⟨w.heap.size + 1 + 1, 0, none⟩) 32 32 := hV 0 (by decide)
   have q8 : V 1 = .slice (some ⟨w.heap.size, 32, none⟩) 32 32 := hV 1 (by decide)
   have hres := Z2.out.2.2.2.chg hc
   refine op_cp (.tmp 7) (.tmp 8) (w.heap.size + 1 + 1) 32 0 32 32 w.heap.size 32 32 32 32 zD (fun i => (f) (32 + i)) rfl rfl (Eq.trans (by rfl) q7) (Eq.trans (by rfl) q8) hres (Ar.bzE (Z2.out.2.1.chg hc) (by decide)) rfl (by decide) ?_
   rw [show arr .u8 32 (ovr 0 32 (fun i => (f) (32 + i)) zD) = byt (fun i => f (32 + i)) from ov_1 f zD]
   go_wp2_with fail
   go_meet
   exact ⟨u, hc, rfl⟩
 obtain ⟨u, hcc, rfl⟩ := hcut
 obtain ⟨w3, hw3⟩ : ∃ zz0, zz0 = u.setRow (w.heap.size + 1 + 1) (byt (fun i => f (32 + i))) := ⟨_, rfl⟩
 have Z3 : Hid (Chg w w3 ∧ Ar w3 w.heap.size (b64 f) ∧ Ar w3 (w.heap.size + 1) (byt f) ∧ Ar w3 (w.heap.size + 1 + 1) (byt (fun i => f (32 + i)))) := by
  rw [hw3]
  exact ⟨(Z2.out.1.trans hcc).setRow (by omega) _, (Z2.out.2.1.chg hcc).rowOther (by omega) _, (Z2.out.2.2.1.chg hcc).rowOther (by omega) _, (Z2.out.2.2.2.chg hcc).row _⟩
 rw [← hw3]
 clear hw3 hcc Z2 u
 go_upto_region 3 with fail
 go_cut [] from 10 to 11 (fun wc => Chg w wc ∧ Ar wc w.heap.size (b64 f) ∧ Ar wc (w.heap.size + 1) (byt f) ∧ Ar wc (w.heap.size + 1 + 1) (byt (fun i => f (32 + i))))
 case first =>
  refine regL 2 (fun j v wg => match j with
   | 0 => v = .agg (byt f)
   | 1 => v = .agg (byt (fun i => f (32 + i)))
   | _ => True) (by decide) (by kernel_rfl) ?_ ?_ ?_
  ·intro j v u1 u2 h hc
   match j, h with
   | 0, h => exact h
   | 1, h => exact h
   | _ + 2, h => exact trivial
  ·intro i o ac u hi ho hsz hf hg hc
   have hcs : i = 0 ∨ i = 1 := by omega
   rcases hcs with rfl | rfl
   ·injection ho with ho
    subst ho
    refine .inl ⟨wanted_none rfl, ?_⟩
    have e1 : ac.eval (.tmp 2) = .pointer (some ⟨w.heap.size + 1, 0, none⟩) := hf 2 (by kernel_rfl)
    exact wp_load_mid 22 (.tmp 2) rfl _ _ e1 ((byt f).toList) _ (rangeAp (Z3.out.2.2.1.chg hc)) un37 rfl (infoY _) ⟨_, rfl, rfl, Chg.refl _⟩
   ·injection ho with ho
    subst ho
    refine .inl ⟨wanted_none rfl, ?_⟩
    have e1 : ac.eval (.tmp 3) = .pointer (some ⟨w.heap.size + 1 + 1, 0, none⟩) := hf 3 (by kernel_rfl)
    exact wp_load_mid 22 (.tmp 3) rfl _ _ e1 ((byt (fun i => f (32 + i))).toList) _ (rangeAp (Z3.out.2.2.2.chg hc)) un37 rfl (infoY _) ⟨_, rfl, rfl, Chg.refl _⟩
  ·intro u V hV hc
   have q10 : V 0 = .agg (byt f) := hV 0 (by decide)
   have q11 : V 1 = .agg (byt (fun i => f (32 + i))) := hV 1 (by decide)
   have h2 := Z3.out.2.2.1.chg hc
   have h3 := Z3.out.2.2.2.chg hc
   refine wpList_store_mid rfl 22 (.tmp 2) (.tmp 10) rfl (w.heap.size + 1) 0 (byt f) (by rfl) (Eq.trans (by rfl) q10) (by rw [byt_size]; exact thereY h2) (szY _) (oneY _) ?_
   rw [show u.setCells (w.heap.size + 1) 0 (byt f).toList = u.setRow (w.heap.size + 1) (byt f) from setRowY h2 _]
   have h3' := h3.rowOther (b' := w.heap.size + 1) (by omega) (byt f)
   refine wpList_store_mid rfl 22 (.tmp 3) (.tmp 11) rfl (w.heap.size + 1 + 1) 0 (byt (fun i => f (32 + i))) (by rfl) (Eq.trans (by rfl) q11) (by rw [byt_size]; exact thereY h3') (szY _) (oneY _) ?_
   rw [show (u.setRow (w.heap.size + 1) (byt f)).setCells (w.heap.size + 1 + 1) 0 (byt (fun i => f (32 + i))).toList = (u.setRow (w.heap.size + 1) (byt f)).setRow (w.heap.size + 1 + 1) (byt (fun i => f (32 + i))) from setRowY h3' _]
   have q8 : Hid (Chg w ((u.setRow (w.heap.size + 1) (byt f)).setRow (w.heap.size + 1 + 1) (byt (fun i => f (32 + i)))) ∧ Ar ((u.setRow (w.heap.size + 1) (byt f)).setRow (w.heap.size + 1 + 1) (byt (fun i => f (32 + i)))) w.heap.size (b64 f) ∧ Ar ((u.setRow (w.heap.size + 1) (byt f)).setRow (w.heap.size + 1 + 1) (byt (fun i => f (32 + i)))) (w.heap.size + 1) (byt f) ∧ Ar ((u.setRow (w.heap.size + 1) (byt f)).setRow (w.heap.size + 1 + 1) (byt (fun i => f (32 + i)))) (w.heap.size + 1 + 1) (byt (fun i => f (32 + i)))) := ⟨((Z3.out.1.trans hc).setRow (by omega) _).setRow (by omega) _, ((Z3.out.2.1.chg hc).rowOther (by omega) _).rowOther (by omega) _, (h2.row _).rowOther (by omega) _, h3'.row _⟩
   generalize (u.setRow (w.heap.size + 1) (byt f)).setRow (w.heap.size + 1 + 1) (byt (fun i => f (32 + i))) = uu at *
   go_wp2_with fail
   go_meet
   exact q8.out
 have Z9 : Hid (Chg w wc ∧ Ar wc w.heap.size (b64 f) ∧ Ar wc (w.heap.size + 1) (byt f) ∧ Ar wc (w.heap.size + 1 + 1) (byt (fun i => f (32 + i)))) := hcut
 clear hcut Z3
 go_wp2_with fail
 exact bp_YY Tryd.results14 rfl rfl rfl Z9.out.2.2.1 Z9.out.2.2.2 ⟨rfl, Z9.out.1⟩
set_option maxHeartbeats 8000000 in
theorem joinE_any (f g : Nat → Int) (w : World) : Calls Tryd.prog 27 #[.agg (byt f), .agg (byt g)] w fun r w' => r = .returned (.agg (b64 (jn f g))) ∧ Chg w w' := by
 have hz := zeroB.1
 have hsA := byt_size f
 have hsB := byt_size g
 obtain ⟨A, hA⟩ : ∃ A, A = byt f := ⟨_, rfl⟩
 obtain ⟨B, hB⟩ : ∃ B, B = byt g := ⟨_, rfl⟩
 have HA : Hid (A = byt f) := hA
 have HB : Hid (B = byt g) := hB
 rw [← hA] at hsA ⊢
 rw [← hB] at hsB ⊢
 clear hA hB
 go_enter Tryd.func27, Tryd.ntmps27
 go_upto_region 1 with fail
 obtain ⟨w1, hw1⟩ : ∃ w1, w1 = ((w.alloc (.cells A 22)).alloc (.cells B 22)).alloc (.cells (b64 zD) 27) := ⟨_, rfl⟩
 have Z1 : Hid (Chg w w1 ∧ Ar w1 w.heap.size (byt f) ∧ Ar w1 (w.heap.size + 1) (byt g) ∧ Ar w1 (w.heap.size + 1 + 1) (b64 zD)) := by
  have hnew0 := Ar.new w (byt f) 22
  have hnew1 := Ar.new (w.alloc (.cells (byt f) 22)) (byt g) 22
  rw [World.size_alloc] at hnew1
  have hnew2 := Ar.new ((w.alloc (.cells (byt f) 22)).alloc (.cells (byt g) 22)) (b64 zD) 27
  rw [World.size_alloc, World.size_alloc] at hnew2
  rw [hw1, HA.out, HB.out]
  exact ⟨((((Chg.refl w).alloc _).alloc _).alloc _), (((hnew0).alloc _).alloc _), ((hnew1).alloc _), (hnew2)⟩
 rw [← hw1]
 clear hw1
 clear hsA hsB HA HB
 go_upto_region 2 with fail
 obtain ⟨w2, hw2⟩ : ∃ zz0, zz0 = w1.alloc (.cells (b64 zD) 27) := ⟨_, rfl⟩
 obtain ⟨b5, hb5⟩ : ∃ zz0, zz0 = w1.heap.size := ⟨_, rfl⟩
 have O5 : Hid (w.heap.size < b5 ∧ w.heap.size + 1 < b5 ∧ w.heap.size + 1 + 1 < b5) := ⟨by rw [hb5]; exact Z1.out.2.1.lt, by rw [hb5]; exact Z1.out.2.2.1.lt, by rw [hb5]; exact Z1.out.2.2.2.lt⟩
 have Z2 : Hid (Chg w w2 ∧ Ar w2 w.heap.size (byt f) ∧ Ar w2 (w.heap.size + 1) (byt g) ∧ Ar w2 (w.heap.size + 1 + 1) (b64 zD) ∧ Ar w2 b5 (b64 zD)) := by
  rw [hw2, hb5]
  exact ⟨Z1.out.1.alloc _, Z1.out.2.1.alloc _, Z1.out.2.2.1.alloc _, Z1.out.2.2.2.alloc _, Ar.new _ _ _⟩
 rw [← hw2, ← hb5]
 clear hw2 hb5 hz Z1
 go_upto_region 2 with fail
 go_cut [] from 6 to 8 (fun wc => ∃ u, Chg w2 u ∧ wc = u.setRow b5 (b64 (ovr 0 32 (fun i => f (0 + i)) zD)))
 case first =>
  refine regA 2 (fun j v wg => match j with
   | 0 => v = .slice (some ⟨b5, 0, none⟩) 32 64
   | 1 => v = .slice (some ⟨w.heap.size, 0, none⟩) 32 32
   | _ => True) (by kernel_rfl) (by kernel_rfl) (by kernel_rfl) (by kernel_rfl) (by kernel_rfl) ?_ ?_ ?_
  ·intro j v u1 u2 h hc
   match j, h with
   | 0, h => exact h
   | 1, h => exact h
   | _ + 2, h => exact trivial
  ·intro i o ac u hi ho hsz hf hg hc
   have hcs : i = 0 ∨ i = 1 := by omega
   rcases hcs with rfl | rfl
   ·injection ho with ho
    subst ho
    refine .inl ⟨wanted_none rfl, ?_⟩
    have e1 : ac.eval (.tmp 5) = .pointer (some ⟨b5, 0, none⟩) := hf 5 (by kernel_rfl)
    exact opG_val (by simp [execOp, e1, show ac.eval (.const (.int .i64 32)) = .int .i64 32 from rfl, slHi]) rfl (Chg.refl _)
   ·injection ho with ho
    subst ho
    refine .inl ⟨wanted_none rfl, ?_⟩
    have e1 : ac.eval (.tmp 2) = .pointer (some ⟨w.heap.size, 0, none⟩) := hf 2 (by kernel_rfl)
    exact opG_val (by simp [execOp, e1, slY]) rfl (Chg.refl _)
  ·intro o u V ho hV hc
   injection ho with ho
   subst ho
   refine ⟨rfl, ?_⟩
   have q6 : V 0 = .slice (some ⟨b5, 0, none⟩) 32 64 := hV 0 (by decide)
   have q7 : V 1 = .slice (some ⟨w.heap.size, 0, none⟩) 32 32 := hV 1 (by decide)
   have hres := Z2.out.2.2.2.2.chg hc
   refine op_cp (.tmp 6) (.tmp 7) b5 64 0 32 64 w.heap.size 0 32 32 32 zD (fun i => (f) (0 + i)) rfl rfl (Eq.trans (by rfl) q6) (Eq.trans (by rfl) q7) hres (Ar.bzE (Z2.out.2.1.chg hc) (by decide)) rfl (by decide) ?_
   rw [show arr .u8 64 (ovr 0 32 (fun i => (f) (0 + i)) zD) = b64 (ovr 0 32 (fun i => f (0 + i)) zD) from rfl]
   go_wp2_with fail
   go_meet
   exact ⟨u, hc, rfl⟩
 obtain ⟨u, hcc, rfl⟩ := hcut
 obtain ⟨w3, hw3⟩ : ∃ zz0, zz0 = u.setRow b5 (b64 (ovr 0 32 (fun i => f (0 + i)) zD)) := ⟨_, rfl⟩
 have Z3 : Hid (Chg w w3 ∧ Ar w3 w.heap.size (byt f) ∧ Ar w3 (w.heap.size + 1) (byt g) ∧ Ar w3 (w.heap.size + 1 + 1) (b64 zD) ∧ Ar w3 b5 (b64 (ovr 0 32 (fun i => f (0 + i)) zD))) := by
  have ordO5 := O5.out
  rw [hw3]
  exact ⟨(Z2.out.1.trans hcc).setRow (by omega) _, (Z2.out.2.1.chg hcc).rowOther (by omega) _, (Z2.out.2.2.1.chg hcc).rowOther (by omega) _, (Z2.out.2.2.2.1.chg hcc).rowOther (by omega) _, (Z2.out.2.2.2.2.chg hcc).row _⟩
 rw [← hw3]
 clear hw3 hcc Z2 u
 go_upto_region 3 with fail
 go_cut [] from 9 to 11 (fun wc => ∃ u, Chg w3 u ∧ wc = u.setRow b5 (b64 (jn f g)))
 case first =>
  refine regA 2 (fun j v wg => match j with
   | 0 => v = .slice (some ⟨b5, 32, none⟩) 32 32
   | 1 => v = .slice (some ⟨w.heap.size + 1, 0, none⟩) 32 32
   | _ => True) (by kernel_rfl) (by kernel_rfl) (by kernel_rfl) (by kernel_rfl) (by kernel_rfl) ?_ ?_ ?_
  ·intro j v u1 u2 h hc
   match j, h with
   | 0, h => exact h
   | 1, h => exact h
   | _ + 2, h => exact trivial
  ·intro i o ac u hi ho hsz hf hg hc
   have hcs : i = 0 ∨ i = 1 := by omega
   rcases hcs with rfl | rfl
   ·injection ho with ho
    subst ho
    refine .inl ⟨wanted_none rfl, ?_⟩
    have e1 : ac.eval (.tmp 5) = .pointer (some ⟨b5, 0, none⟩) := hf 5 (by kernel_rfl)
    exact opG_val (by simp [execOp, e1, show ac.eval (.const (.int .i64 32)) = .int .i64 32 from rfl, slLo]) rfl (Chg.refl _)
   ·injection ho with ho
    subst ho
    refine .inl ⟨wanted_none rfl, ?_⟩
    have e1 : ac.eval (.tmp 3) = .pointer (some ⟨w.heap.size + 1, 0, none⟩) := hf 3 (by kernel_rfl)
    exact opG_val (by simp [execOp, e1, slY]) rfl (Chg.refl _)
  ·intro o u V ho hV hc
   injection ho with ho
   subst ho
   refine ⟨rfl, ?_⟩
   have q9 : V 0 = .slice (some ⟨b5, 32, none⟩) 32 32 := hV 0 (by decide)
   have q10 : V 1 = .slice (some ⟨w.heap.size + 1, 0, none⟩) 32 32 := hV 1 (by decide)
   have hres := Z3.out.2.2.2.2.chg hc
   refine op_cp (.tmp 9) (.tmp 10) b5 64 32 32 32 (w.heap.size + 1) 0 32 32 32 (ovr 0 32 (fun i => f (0 + i)) zD) (fun i => (g) (0 + i)) rfl rfl (Eq.trans (by rfl) q9) (Eq.trans (by rfl) q10) hres (Ar.bzE (Z3.out.2.2.1.chg hc) (by decide)) rfl (by decide) ?_
   rw [show arr .u8 64 (ovr 32 32 (fun i => (g) (0 + i)) (ovr 0 32 (fun i => f (0 + i)) zD)) = b64 (jn f g) from ov_2 f g]
   go_wp2_with fail
   go_meet
   exact ⟨u, hc, rfl⟩
 obtain ⟨u, hcc, rfl⟩ := hcut
 obtain ⟨w4, hw4⟩ : ∃ zz0, zz0 = u.setRow b5 (b64 (jn f g)) := ⟨_, rfl⟩
 have Z4 : Hid (Chg w w4 ∧ Ar w4 w.heap.size (byt f) ∧ Ar w4 (w.heap.size + 1) (byt g) ∧ Ar w4 (w.heap.size + 1 + 1) (b64 zD) ∧ Ar w4 b5 (b64 (jn f g))) := by
  have ordO5 := O5.out
  rw [hw4]
  exact ⟨(Z3.out.1.trans hcc).setRow (by omega) _, (Z3.out.2.1.chg hcc).rowOther (by omega) _, (Z3.out.2.2.1.chg hcc).rowOther (by omega) _, (Z3.out.2.2.2.1.chg hcc).rowOther (by omega) _, (Z3.out.2.2.2.2.chg hcc).row _⟩
 rw [← hw4]
 clear hw4 hcc Z3 u
 go_upto_region 4 with fail
 go_cut [] from 12 to 12 (fun wc => ∃ u, Chg w4 u ∧ wc = u.setRow (w.heap.size + 1 + 1) (b64 (jn f g)))
 case first =>
  refine regS 1 (fun j v wg => match j with
   | 0 => v = .agg (b64 (jn f g))
   | _ => True) (by kernel_rfl) (by kernel_rfl) ?_ ?_ ?_
  ·intro j v u1 u2 h hc
   match j, h with
   | 0, h => exact h
   | _ + 1, h => exact trivial
  ·intro i o ac u hi ho hsz hf hg hc
   have hcs : i = 0 := by omega
   rcases hcs with rfl
   ·injection ho with ho
    subst ho
    refine .inl ⟨wanted_none rfl, ?_⟩
    have e1 : ac.eval (.tmp 5) = .pointer (some ⟨b5, 0, none⟩) := hf 5 (by kernel_rfl)
    exact wp_load_mid 27 (.tmp 5) rfl _ _ e1 ((b64 (jn f g)).toList) _ (rangeAp (Z4.out.2.2.2.2.chg hc)) unB rfl (infoB _) ⟨_, rfl, rfl, Chg.refl _⟩
  ·intro o u V ho hV hc
   injection ho with ho
   subst ho
   refine ⟨rfl, ?_⟩
   have q12 : V 0 = .agg (b64 (jn f g)) := hV 0 (by decide)
   have hres := Z4.out.2.2.2.1.chg hc
   refine wp_store_mid 27 (.tmp 4) (.tmp 12) rfl (w.heap.size + 1 + 1) 0 (b64 (jn f g)) (by rfl) (Eq.trans (by rfl) q12) (by rw [b64_size]; exact thereB hres) (szB _) (oneB _) ?_
   rw [show u.setCells (w.heap.size + 1 + 1) 0 (b64 (jn f g)).toList = u.setRow (w.heap.size + 1 + 1) (b64 (jn f g)) from setRowB hres _]
   go_wp2_with fail
   go_meet
   exact ⟨u, hc, rfl⟩
 obtain ⟨u, hcc, rfl⟩ := hcut
 obtain ⟨w5, hw5⟩ : ∃ zz0, zz0 = u.setRow (w.heap.size + 1 + 1) (b64 (jn f g)) := ⟨_, rfl⟩
 have Z5 : Hid (Chg w w5 ∧ Ar w5 w.heap.size (byt f) ∧ Ar w5 (w.heap.size + 1) (byt g) ∧ Ar w5 (w.heap.size + 1 + 1) (b64 (jn f g)) ∧ Ar w5 b5 (b64 (jn f g))) := by
  have ordO5 := O5.out
  rw [hw5]
  exact ⟨(Z4.out.1.trans hcc).setRow (by omega) _, (Z4.out.2.1.chg hcc).rowOther (by omega) _, (Z4.out.2.2.1.chg hcc).rowOther (by omega) _, (Z4.out.2.2.2.1.chg hcc).row _, (Z4.out.2.2.2.2.chg hcc).rowOther (by omega) _⟩
 rw [← hw5]
 clear hw5 hcc Z4 u
 go_wp2_with fail
 exact bp_B Tryd.results27 rfl rfl Z5.out.2.2.2.1 ⟨rfl, Z5.out.1⟩
end Go.Proofs.YtjfidbifjagnpaaDoor
