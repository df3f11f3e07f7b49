/-
  Points as cells: three numbers side by side (the program's, the document's); a bool and two numbers.
-/
import Derived.Test.YtbdgmkejmfjobaaJo
import Derived.Test.YtbdgmkejmfjobaaJc
import Derived.Test.YtbdgmkejmfjobaaJb
namespace Go.Proofs.Ytbdgmkejmfjobaa
open Go.RowKit
set_option linter.unusedVariables false
set_option maxRecDepth 100000
def nms (k : Nat) (f : Nat → Int) : Array Value := arr .u64 (4 * k) (fun i => dg B64 (f (i / 4)) (i % 4))
theorem nms_size (k : Nat) (f : Nat → Int) : (nms k f).size = 4 * k := arr_size _ _ _
theorem nms_cells (k : Nat) (f : Nat → Int) : (nms k f).all (·.oneCell') = true := arr_one _ _ _
theorem nms_get (k : Nat) (f : Nat → Int) {i : Nat} (h : i < 4 * k) : (nms k f)[i]? = some (.int .u64 (dg B64 (f (i / 4)) (i % 4))) := arr_get _ _ _ h
theorem nms_congr {k : Nat} {f g : Nat → Int} (h : ∀ j, j < k → f j = g j) : nms k f = nms k g := arr_congr fun i hi => by rw [h (i / 4) (by omega)]
theorem nms_one (f : Nat → Int) : nms 1 f = num (f 0) := arr_congr fun i hi => by
 have h4 : i < 4 := by omega
 rw [Nat.div_eq_of_lt h4, Nat.mod_eq_of_lt h4]
theorem nms_range {w : World} {b k : Nat} {f : Nat → Int} (h : Ar w b (nms k f)) (j m : Nat) (hj : j + m ≤ k) : w.rangeAt b (4 * j) (nms m (fun c => f (j + c))).toList := by
 intro i v hv
 have hi : i < 4 * m := by
  have := (List.getElem?_eq_some_iff.1 hv).1
  rw [Array.length_toList, nms_size] at this
  exact this
 rw [Array.getElem?_toList, nms_get _ _ hi] at hv
 rw [h.cell, nms_get _ _ (by omega), ← hv]
 congr 3
 ·congr 1; omega
 ·omega
theorem nms_num {w : World} {b k : Nat} {f : Nat → Int} (h : Ar w b (nms k f)) (j : Nat) (hj : j < k) : w.rangeAt b (4 * j) (num (f j)).toList := by
 have := nms_range h j 1 (by omega)
 rw [nms_one] at this
 exact this
theorem nms_there {w : World} {b k : Nat} {f : Nat → Int} (h : Ar w b (nms k f)) (j m : Nat) (hj : j + m ≤ k) : w.there b (4 * j) (4 * m) := fun i hi => by
 rw [h.cell]
 refine ⟨?_, h.frozen _⟩
 rw [nms_get _ _ (by omega)]
 rfl
def putR (c : Array Value) (o : Nat) : List Value → Array Value
 | [] => c
 | v :: r => putR (c.setIfInBounds o v) (o + 1) r
theorem putR_get (vs : List Value) : ∀ (c : Array Value) (o i : Nat), o + vs.length ≤ c.size → (putR c o vs)[i]? = if o ≤ i ∧ i < o + vs.length then vs[i - o]? else c[i]? := by
 induction vs with
 | nil => intro c o i h; rw [putR, if_neg (by simp)]
 | cons v r ih =>
  intro c o i h
  simp only [List.length_cons] at h ⊢
  rw [putR, ih _ _ _ (by rw [Array.size_setIfInBounds]; omega)]
  by_cases e : i = o
  ·subst e
   rw [if_neg (by omega), if_pos (by omega), Array.getElem?_setIfInBounds_self_of_lt (by omega)]
   simp
  ·by_cases e2 : o + 1 ≤ i ∧ i < o + 1 + r.length
   ·rw [if_pos e2, if_pos (by omega), show i - o = (i - (o + 1)) + 1 by omega, List.getElem?_cons_succ]
   ·rw [if_neg e2, if_neg (by omega), Array.getElem?_setIfInBounds_ne (fun x => e x.symm)]
theorem putR_size (vs : List Value) : ∀ (c : Array Value) (o : Nat), (putR c o vs).size = c.size := by
 induction vs with
 | nil => intro c o; rfl
 | cons v r ih => intro c o; rw [putR, ih, Array.size_setIfInBounds]
theorem Ar.cellsIn {b : Nat} (vs : List Value) : ∀ {w : World} {c : Array Value} (o : Nat), Ar w b c → Ar (w.setCells b o vs) b (putR c o vs) := by
 induction vs with
 | nil => intro w c o h; exact h
 | cons v r ih => intro w c o h; exact ih _ (h.set o v)
theorem Ar.cellsOther {b g : Nat} (hn : g ≠ b) (vs : List Value) : ∀ {w : World} {c : Array Value} (o : Nat), Ar w g c → Ar (w.setCells b o vs) g c := by
 induction vs with
 | nil => intro w c o h; exact h
 | cons v r ih => intro w c o h; exact ih _ (h.other hn v)
theorem Chg.cells {a : World} {b : Nat} (hb : a.heap.size ≤ b) (vs : List Value) : ∀ {w : World} (o : Nat), Chg a w → Chg a (w.setCells b o vs) := by
 induction vs with
 | nil => intro w o h; exact h
 | cons v r ih => intro w o h; exact ih _ (h.setCell hb v)
def ovn (j m : Nat) (g f : Nat → Int) : Nat → Int := fun c => if j ≤ c ∧ c < j + m then g (c - j) else f c
theorem putR_nms {k : Nat} {f g : Nat → Int} (j m : Nat) (hj : j + m ≤ k) : putR (nms k f) (4 * j) (nms m g).toList = nms k (ovn j m g f) := by
 refine Array.ext_getElem? fun i => ?_
 have hl : (nms m g).toList.length = 4 * m := by rw [Array.length_toList, nms_size]
 rw [putR_get _ _ _ _ (by rw [hl, nms_size]; omega), hl]
 by_cases hi : i < 4 * k
 ·rw [nms_get k (ovn j m g f) hi]
  by_cases e : 4 * j ≤ i ∧ i < 4 * j + 4 * m
  ·rw [if_pos e, Array.getElem?_toList, nms_get _ _ (by omega)]
   unfold ovn
   rw [if_pos (by omega)]
   congr 3
   ·congr 1; omega
   ·omega
  ·rw [if_neg e, nms_get _ _ hi]
   unfold ovn
   rw [if_neg (by omega)]
 ·rw [if_neg (by omega)]
  rw [Array.getElem?_eq_none (by rw [nms_size]; omega), Array.getElem?_eq_none (by rw [nms_size]; omega)]
theorem Ar.putN {w : World} {b k : Nat} {f : Nat → Int} (h : Ar w b (nms k f)) (g : Nat → Int) (j m : Nat) (hj : j + m ≤ k) : Ar (w.setCells b (4 * j) (nms m g).toList) b (nms k (ovn j m g f)) := by
 have := Ar.cellsIn (nms m g).toList (4 * j) h
 rw [putR_nms j m hj] at this
 exact this
def sel3 (x y z : Int) : Nat → Int
 | 0 => x
 | 1 => y
 | _ => z
def q3 (x y z : Int) : Array Value := nms 3 (sel3 x y z)
theorem q3_size (x y z : Int) : (q3 x y z).size = 12 := nms_size _ _
theorem q3_one (x y z : Int) : (q3 x y z).all (·.oneCell') = true := nms_cells _ _
theorem dg00 (i : Nat) : dg B64 0 i = 0 := by unfold dg; simp
theorem nms_zero (k : Nat) (f : Nat → Int) (h : ∀ j, j < k → f j = 0) : nms k f = arr .u64 (4 * k) (fun _ => 0) := arr_congr fun i hi => by rw [h (i / 4) (by omega), dg00]
theorem sel3_0 {j : Nat} : sel3 0 0 0 j = 0 := by unfold sel3; split <;> rfl
theorem lenP3 (x y z x' y' z' : Int) : (q3 x y z).size = (q3 x' y' z').size := by rw [q3_size, q3_size]
theorem rangeq3F0 {w : World} {b : Nat} {x y z : Int} (h : Ar w b (q3 x y z)) : w.rangeAt b 0 (num x).toList := nms_num h 0 (by decide)
theorem rangeq3F1 {w : World} {b : Nat} {x y z : Int} (h : Ar w b (q3 x y z)) : w.rangeAt b 4 (num y).toList := nms_num h 1 (by decide)
theorem rangeq3F2 {w : World} {b : Nat} {x y z : Int} (h : Ar w b (q3 x y z)) : w.rangeAt b 8 (num z).toList := nms_num h 2 (by decide)
theorem Ar.apart {w : World} {b B : Nat} {c : Array Value} (h : Ar w b c) (s : w.heap.size ≤ B) : b ≠ B := by have := h.lt; omega
theorem rangeAp {w : World} {b : Nat} {A : Array Value} (h : Ar w b A) : w.rangeAt b 0 A.toList := by
 intro j v hv
 rw [Nat.zero_add, h.cell]
 simpa using hv
theorem zeroTr : (∀ w, (zeroValue 49).run Try.prog w = .ok (.agg (q3 0 0 0)) w) ∧ (Try.prog.info? 49).map (·.size) = some 12 := by
 rw [show q3 0 0 0 = arr .u64 12 (fun _ => 0) from nms_zero 3 _ fun j hj => sel3_0]
 exact zero_of_info (by kernel_rfl)
theorem szTr (x y z : Int) : (Try.prog.info? 49).map (·.size) = some (q3 x y z).size := by rw [q3_size]; exact zeroTr.2
theorem infoTr (x y z : Int) : (Try.prog.info? 49).map (·.size) = some (q3 x y z).toList.length := by rw [Array.length_toList]; exact szTr _ _ _
theorem setRowTr {w : World} {b : Nat} {x y z : Int} (h : Ar w b (q3 x y z)) (x' y' z' : Int) : w.setCells b 0 (q3 x' y' z').toList = w.setRow b (q3 x' y' z') := by
 have h1 := run_storeVar_mid (P := Try.prog) w b 0 49 (q3 x' y' z') (by rw [q3_size]; exact nms_there h 0 3 (by omega)) (szTr x' y' z') (q3_one x' y' z')
 obtain ⟨t, h⟩ := h
 have h2 := run_storeVar_row (P := Try.prog) w b t 49 _ (q3 x' y' z') h (szTr x' y' z') (lenP3 _ _ _ x' y' z') (q3_one x' y' z')
 rw [h1] at h2
 injection h2
theorem Ar.loadTr {w : World} {b : Nat} {x y z : Int} (h : Ar w b (q3 x y z)) : (Go.loadVar 49 ⟨b, 0, none⟩).run Try.prog w = .ok (.agg (q3 x y z)) w := by
 obtain ⟨g, h⟩ := h
 exact run_loadVar_row w b g 49 _ (0, 0) _ h Try.underlying49 rfl (szTr _ _ _)
theorem bp_Tr {fn : Func} {R : Ending → World → Prop} {a : Act} {w : World} {p b : Nat} {x y z : Int} (h : fn.results = #[.cell p 49]) (hd : a.defers = []) (hp : a.tmps.getD p undef = .pointer (some ⟨b, 0, none⟩)) (ha : Ar w b (q3 x y z)) (hR : R (.returned (.agg (q3 x y z))) w) : bodyPost Try.prog fn R .ret a w := by
 refine bodyPost_ret (v := .agg (q3 x y z)) ?_ hd hR
 rw [Array.getD_eq_getD_getElem?] at hp
 simp only [results, h]
 simp [hp, asAddr, ha.loadTr]
theorem builtTr (x y z : Int) : Try.prog.built 49 [(0, .agg (num x)), (1, .agg (num y)), (2, .agg (num z))] = some (q3 x y z) := by kernel_rfl
theorem zeroTh : (∀ w, (zeroValue 54).run Try.prog w = .ok (.agg (q3 0 0 0)) w) ∧ (Try.prog.info? 54).map (·.size) = some 12 := by
 rw [show q3 0 0 0 = arr .u64 12 (fun _ => 0) from nms_zero 3 _ fun j hj => sel3_0]
 exact zero_of_info (by kernel_rfl)
theorem szTh (x y z : Int) : (Try.prog.info? 54).map (·.size) = some (q3 x y z).size := by rw [q3_size]; exact zeroTh.2
theorem infoTh (x y z : Int) : (Try.prog.info? 54).map (·.size) = some (q3 x y z).toList.length := by rw [Array.length_toList]; exact szTh _ _ _
theorem setRowTh {w : World} {b : Nat} {x y z : Int} (h : Ar w b (q3 x y z)) (x' y' z' : Int) : w.setCells b 0 (q3 x' y' z').toList = w.setRow b (q3 x' y' z') := by
 have h1 := run_storeVar_mid (P := Try.prog) w b 0 54 (q3 x' y' z') (by rw [q3_size]; exact nms_there h 0 3 (by omega)) (szTh x' y' z') (q3_one x' y' z')
 obtain ⟨t, h⟩ := h
 have h2 := run_storeVar_row (P := Try.prog) w b t 54 _ (q3 x' y' z') h (szTh x' y' z') (lenP3 _ _ _ x' y' z') (q3_one x' y' z')
 rw [h1] at h2
 injection h2
theorem Ar.loadTh {w : World} {b : Nat} {x y z : Int} (h : Ar w b (q3 x y z)) : (Go.loadVar 54 ⟨b, 0, none⟩).run Try.prog w = .ok (.agg (q3 x y z)) w := by
 obtain ⟨g, h⟩ := h
 exact run_loadVar_row w b g 54 _ (0, 0) _ h Try.underlying54 rfl (szTh _ _ _)
theorem bp_Th {fn : Func} {R : Ending → World → Prop} {a : Act} {w : World} {p b : Nat} {x y z : Int} (h : fn.results = #[.cell p 54]) (hd : a.defers = []) (hp : a.tmps.getD p undef = .pointer (some ⟨b, 0, none⟩)) (ha : Ar w b (q3 x y z)) (hR : R (.returned (.agg (q3 x y z))) w) : bodyPost Try.prog fn R .ret a w := by
 refine bodyPost_ret (v := .agg (q3 x y z)) ?_ hd hR
 rw [Array.getD_eq_getD_getElem?] at hp
 simp only [results, h]
 simp [hp, asAddr, ha.loadTh]
theorem builtTh (x y z : Int) : Try.prog.built 54 [(0, .agg (num x)), (1, .agg (num y)), (2, .agg (num z))] = some (q3 x y z) := by kernel_rfl
def pt (z : Bool) (x y : Int) : Array Value := (Value.bool z :: (List.range 8).map fun i => Value.int .u64 (dg B64 (if i < 4 then x else y) (i % 4))).toArray
theorem pt_size (z : Bool) (x y : Int) : (pt z x y).size = 9 := by simp [pt]
theorem pt_get0 (z : Bool) (x y : Int) : (pt z x y)[0]? = some (.bool z) := rfl
theorem pt_get (z : Bool) (x y : Int) {i : Nat} (h : i < 8) : (pt z x y)[i + 1]? = some (.int .u64 (dg B64 (if i < 4 then x else y) (i % 4))) := by simp [pt, h]
theorem pt_one (z : Bool) (x y : Int) : (pt z x y).all (·.oneCell') = true := by
 rw [Array.all_eq_true_iff_forall_mem]
 intro v hv
 simp [pt] at hv
 rcases hv with rfl | ⟨i, _, rfl⟩ <;> rfl
theorem zeroPt : (∀ w, (zeroValue 26).run Try.prog w = .ok (.agg (pt false 0 0)) w) ∧ (Try.prog.info? 26).map (·.size) = some 9 := by
 have e : pt false 0 0 = (Value.bool false :: (List.range 8).map fun _ => Value.int .u64 0).toArray := by
  unfold pt
  simp only [ite_self, dg00]
 rw [e]
 exact zero_of_info (by kernel_rfl)
theorem szPt (z : Bool) (x y : Int) : (Try.prog.info? 26).map (·.size) = some (pt z x y).size := by rw [pt_size]; exact zeroPt.2
theorem infoPt (z : Bool) (x y : Int) : (Try.prog.info? 26).map (·.size) = some (pt z x y).toList.length := by rw [Array.length_toList]; exact szPt _ _ _
theorem lenPt (z : Bool) (x y : Int) (z' : Bool) (x' y' : Int) : (pt z x y).size = (pt z' x' y').size := by rw [pt_size, pt_size]
theorem pt_there {w : World} {b : Nat} {z : Bool} {x y : Int} (h : Ar w b (pt z x y)) : w.there b 0 9 := fun i hi => by
 rw [Nat.zero_add, h.cell]
 refine ⟨?_, h.frozen i⟩
 cases i with
 | zero => rfl
 | succ i => rw [pt_get _ _ _ (by omega)]; rfl
theorem setRowPt {w : World} {b : Nat} {z : Bool} {x y : Int} (h : Ar w b (pt z x y)) (z' : Bool) (x' y' : Int) : w.setCells b 0 (pt z' x' y').toList = w.setRow b (pt z' x' y') := by
 have h1 := run_storeVar_mid (P := Try.prog) w b 0 26 (pt z' x' y') (by rw [pt_size]; exact pt_there h) (szPt z' x' y') (pt_one z' x' y')
 obtain ⟨t, h⟩ := h
 have h2 := run_storeVar_row (P := Try.prog) w b t 26 _ (pt z' x' y') h (szPt z' x' y') (lenPt _ _ _ z' x' y') (pt_one z' x' y')
 rw [h1] at h2
 injection h2
theorem Ar.loadPt {w : World} {b : Nat} {z : Bool} {x y : Int} (h : Ar w b (pt z x y)) : (Go.loadVar 26 ⟨b, 0, none⟩).run Try.prog w = .ok (.agg (pt z x y)) w := by
 obtain ⟨g, h⟩ := h
 exact run_loadVar_row w b g 26 _ (0, 0) _ h Try.underlying26 rfl (szPt _ _ _)
theorem bp_Pt {fn : Func} {R : Ending → World → Prop} {a : Act} {w : World} {p b : Nat} {z : Bool} {x y : Int} (h : fn.results = #[.cell p 26]) (hd : a.defers = []) (hp : a.tmps.getD p undef = .pointer (some ⟨b, 0, none⟩)) (ha : Ar w b (pt z x y)) (hR : R (.returned (.agg (pt z x y))) w) : bodyPost Try.prog fn R .ret a w := by
 refine bodyPost_ret (v := .agg (pt z x y)) ?_ hd hR
 rw [Array.getD_eq_getD_getElem?] at hp
 simp only [results, h]
 simp [hp, asAddr, ha.loadPt]
theorem pt_num {w : World} {b : Nat} {z : Bool} {x y : Int} (h : Ar w b (pt z x y)) (j : Nat) (hj : j < 2) : w.rangeAt b (1 + 4 * j) (num (if j = 0 then x else y)).toList := by
 intro i v hv
 have hi : i < 4 := by
  have := (List.getElem?_eq_some_iff.1 hv).1
  rw [Array.length_toList, num_size] at this
  exact this
 rw [Array.getElem?_toList, num, arr_get _ _ _ hi] at hv
 rw [h.cell, show 1 + 4 * j + i = (4 * j + i) + 1 by omega, pt_get _ _ _ (by omega), ← hv]
 have e : (4 * j + i < 4) = (j = 0) := by apply propext; omega
 simp only [e, show (4 * j + i) % 4 = i by omega]
theorem rangePtX {w : World} {b : Nat} {z : Bool} {x y : Int} (h : Ar w b (pt z x y)) : w.rangeAt b 1 (num x).toList := pt_num h 0 (by decide)
theorem rangePtY {w : World} {b : Nat} {z : Bool} {x y : Int} (h : Ar w b (pt z x y)) : w.rangeAt b 5 (num y).toList := pt_num h 1 (by decide)
theorem cellPtZ {w : World} {b : Nat} {z : Bool} {x y : Int} (h : Ar w b (pt z x y)) : w.cell? ⟨b, 0, none⟩ = some (.bool z) := by rw [h.cell]; rfl
theorem builtPt (x y : Int) : Try.prog.built 26 [(1, .agg (num x)), (2, .agg (num y))] = some (pt false x y) := by kernel_rfl
theorem builtPtZ : Try.prog.built 26 [(0, .bool true)] = some (pt true 0 0) := by
 rw [show pt true 0 0 = (Value.bool true :: (List.range 8).map fun _ => Value.int .u64 0).toArray by
  unfold pt
  simp only [ite_self, dg00]]
 kernel_rfl
theorem opG_built {o : Oper} {a : Act} {w : World} {T : TypeId} {c : Array Value} {G : Value → World → Prop} {Q : Exit → Act → World → Prop} (l : Array (Nat × Operand)) (L : List (Nat × Value)) (ho : o.op = .build T l) (e : (l.map fun (p : Nat × Operand) => (p.1, a.eval p.2)).toList = L) (h : Try.prog.built T L = some c) (hG : G (.agg c) w) : o.wp Try.prog a w (fun a' u => ∃ v, a' = a.put o.dst v ∧ G v u ∧ Chg w u) Q := by
 have h : Try.prog.built T (l.map fun (p : Nat × Operand) => (p.1, a.eval p.2)).toList = some c := by rw [e]; exact h
 refine wp_build T _ ho ?_ ?_
 ·show (Try.prog.built T (l.map fun (p : Nat × Operand) => (p.1, a.eval p.2)).toList).isSome = true
  rw [h]
  rfl
 ·show ∃ v, a.put o.dst (.agg ((Try.prog.built T (l.map fun (p : Nat × Operand) => (p.1, a.eval p.2)).toList).getD #[])) = a.put o.dst v ∧ G v w ∧ Chg w w
  rw [h]
  exact ⟨_, rfl, hG, Chg.refl _⟩
theorem ldN {o : Oper} {a : Act} {w : World} {k b off : Nat} {x : Int} {G : Value → World → Prop} {Q : Exit → Act → World → Prop} (ho : o.op = .load 24 (.tmp k)) (e : a.eval (.tmp k) = .pointer (some ⟨b, off, none⟩)) (h : w.rangeAt b off (num x).toList) (hG : G (.agg (num x)) w) : o.wp Try.prog a w (fun a' u => ∃ v, a' = a.put o.dst v ∧ G v u ∧ Chg w u) Q :=
 wp_load_mid 24 (.tmp k) ho _ _ e (num x).toList _ h undNum rfl (infoN _) ⟨_, rfl, hG, Chg.refl _⟩
end Go.Proofs.Ytbdgmkejmfjobaa
