/-
  Points as cells: numbers side by side.
  The field's sums, differences, products, as the program calls them.
  The curve number, points that are told by an x and a y, the base point, two points together: the program.
  Sixteen points in an array, as cells.
-/
import Derived.Test.YtjfidbifjagnpaaDoorNm
import Derived.Test.YtjfidbifjagnpaaDoorJc
import Derived.Test.YtjfidbifjagnpaaDoorJb
import Derived.Test.YtjfidbifjagnpaaDoorJj
import Derived.Test.YtjfidbifjagnpaaDoorJt
namespace Go.Proofs.YtjfidbifjagnpaaDoor
open Go.RowKit
set_option linter.unusedVariables false
set_option maxRecDepth 100000
def nms (k : Nat) (f : Nat → Int) : Array Value := arr .u64 (4 * k) (fun i => dg B64 (f (i / 4)) (i % 4))
theorem nms_size (k : Nat) (f : Nat → Int) : (nms k f).size = 4 * k := arr_size _ _ _
theorem nms_cells (k : Nat) (f : Nat → Int) : (nms k f).all (·.oneCell') = true := arr_one _ _ _
theorem nms_get (k : Nat) (f : Nat → Int) {i : Nat} (h : i < 4 * k) : (nms k f)[i]? = some (.int .u64 (dg B64 (f (i / 4)) (i % 4))) := arr_get _ _ _ h
theorem nms_congr {k : Nat} {f g : Nat → Int} (h : ∀ j, j < k → f j = g j) : nms k f = nms k g := arr_congr fun i hi => by rw [h (i / 4) (by omega)]
theorem nms_one (f : Nat → Int) : nms 1 f = num (f 0) := arr_congr fun i hi => by
 have h4 : i < 4 := by omega
 rw [Nat.div_eq_of_lt h4, Nat.mod_eq_of_lt h4]
theorem nms_range {w : World} {b k : Nat} {f : Nat → Int} (h : Ar w b (nms k f)) (j m : Nat) (hj : j + m ≤ k) : w.rangeAt b (4 * j) (nms m (fun c => f (j + c))).toList := by
 intro i v hv
 have hi : i < 4 * m := by
  have := (List.getElem?_eq_some_iff.1 hv).1
  rw [Array.length_toList, nms_size] at this
  exact this
 rw [Array.getElem?_toList, nms_get _ _ hi] at hv
 rw [h.cell, nms_get _ _ (by omega), ← hv]
 congr 3
 ·congr 1; omega
 ·omega
theorem nms_num {w : World} {b k : Nat} {f : Nat → Int} (h : Ar w b (nms k f)) (j : Nat) (hj : j < k) : w.rangeAt b (4 * j) (num (f j)).toList := by
 have := nms_range h j 1 (by omega)
 rw [nms_one] at this
 exact this
theorem nms_there {w : World} {b k : Nat} {f : Nat → Int} (h : Ar w b (nms k f)) (j m : Nat) (hj : j + m ≤ k) : w.there b (4 * j) (4 * m) := fun i hi => by
 rw [h.cell]
 refine ⟨?_, h.frozen _⟩
 rw [nms_get _ _ (by omega)]
 rfl
def putR (c : Array Value) (o : Nat) : List Value → Array Value
 | [] => c
 | v :: r => putR (c.setIfInBounds o v) (o + 1) r
theorem putR_get (vs : List Value) : ∀ (c : Array Value) (o i : Nat), o + vs.length ≤ c.size → (putR c o vs)[i]? = if o ≤ i ∧ i < o + vs.length then vs[i - o]? else c[i]? := by
 induction vs with
 | nil => intro c o i h; rw [putR, if_neg (by simp)]
 | cons v r ih =>
  intro c o i h
  simp only [List.length_cons] at h ⊢
  rw [putR, ih _ _ _ (by rw [Array.size_setIfInBounds]; omega)]
  by_cases e : i = o
  ·subst e
   rw [if_neg (by omega), if_pos (by omega), Array.getElem?_setIfInBounds_self_of_lt (by omega)]
   simp
  ·by_cases e2 : o + 1 ≤ i ∧ i < o + 1 + r.length
   ·rw [if_pos e2, if_pos (by omega), show i - o = (i - (o + 1)) + 1 by omega, List.getElem?_cons_succ]
   ·rw [if_neg e2, if_neg (by omega), Array.getElem?_setIfInBounds_ne (fun x => e x.symm)]
theorem Ar.cellsIn {b : Nat} (vs : List Value) : ∀ {w : World} {c : Array Value} (o : Nat), Ar w b c → Ar (w.setCells b o vs) b (putR c o vs) := by
 induction vs with
 | nil => intro w c o h; exact h
 | cons v r ih => intro w c o h; exact ih _ (h.set o v)
theorem Ar.cellsOther {b g : Nat} (hn : g ≠ b) (vs : List Value) : ∀ {w : World} {c : Array Value} (o : Nat), Ar w g c → Ar (w.setCells b o vs) g c := by
 induction vs with
 | nil => intro w c o h; exact h
 | cons v r ih => intro w c o h; exact ih _ (h.other hn v)
theorem Chg.cells {a : World} {b : Nat} (hb : a.heap.size ≤ b) (vs : List Value) : ∀ {w : World} (o : Nat), Chg a w → Chg a (w.setCells b o vs) := by
 induction vs with
 | nil => intro w o h; exact h
 | cons v r ih => intro w o h; exact ih _ (h.setCell hb v)
def ovn (j m : Nat) (g f : Nat → Int) : Nat → Int := fun c => if j ≤ c ∧ c < j + m then g (c - j) else f c
theorem putR_nms {k : Nat} {f g : Nat → Int} (j m : Nat) (hj : j + m ≤ k) : putR (nms k f) (4 * j) (nms m g).toList = nms k (ovn j m g f) := by
 refine Array.ext_getElem? fun i => ?_
 have hl : (nms m g).toList.length = 4 * m := by rw [Array.length_toList, nms_size]
 rw [putR_get _ _ _ _ (by rw [hl, nms_size]; omega), hl]
 by_cases hi : i < 4 * k
 ·rw [nms_get k (ovn j m g f) hi]
  by_cases e : 4 * j ≤ i ∧ i < 4 * j + 4 * m
  ·rw [if_pos e, Array.getElem?_toList, nms_get _ _ (by omega)]
   unfold ovn
   rw [if_pos (by omega)]
   congr 3
   ·congr 1; omega
   ·omega
  ·rw [if_neg e, nms_get _ _ hi]
   unfold ovn
   rw [if_neg (by omega)]
 ·rw [if_neg (by omega)]
  rw [Array.getElem?_eq_none (by rw [nms_size]; omega), Array.getElem?_eq_none (by rw [nms_size]; omega)]
theorem Ar.putN {w : World} {b k : Nat} {f : Nat → Int} (h : Ar w b (nms k f)) (g : Nat → Int) (j m : Nat) (hj : j + m ≤ k) : Ar (w.setCells b (4 * j) (nms m g).toList) b (nms k (ovn j m g f)) := by
 have := Ar.cellsIn (nms m g).toList (4 * j) h
 rw [putR_nms j m hj] at this
 exact this
def sel4 (x y z t : Int) : Nat → Int
 | 0 => x
 | 1 => y
 | 2 => z
 | _ => t
def sel3 (x y z : Int) : Nat → Int
 | 0 => x
 | 1 => y
 | _ => z
def q4 (x y z t : Int) : Array Value := nms 4 (sel4 x y z t)
def q3 (x y z : Int) : Array Value := nms 3 (sel3 x y z)
theorem q4_size (x y z t : Int) : (q4 x y z t).size = 16 := nms_size _ _
theorem q4_one (x y z t : Int) : (q4 x y z t).all (·.oneCell') = true := nms_cells _ _
theorem dg00 (i : Nat) : dg B64 0 i = 0 := by unfold dg; simp
theorem nms_zero (k : Nat) (f : Nat → Int) (h : ∀ j, j < k → f j = 0) : nms k f = arr .u64 (4 * k) (fun _ => 0) := arr_congr fun i hi => by rw [h (i / 4) (by omega), dg00]
theorem sel4_0 {j : Nat} : sel4 0 0 0 0 j = 0 := by unfold sel4; split <;> rfl
theorem zeroP4 : (∀ w, (zeroValue 44).run Tryd.prog w = .ok (.agg (q4 0 0 0 0)) w) ∧ (Tryd.prog.info? 44).map (·.size) = some 16 := by
 rw [show q4 0 0 0 0 = arr .u64 16 (fun _ => 0) from nms_zero 4 _ fun j hj => sel4_0]
 exact zero_of_info (by kernel_rfl)
theorem zeroPA : (∀ w, (zeroValue 67).run Tryd.prog w = .ok (.agg (nms 64 (fun _ => 0))) w) ∧ (Tryd.prog.info? 67).map (·.size) = some 256 := by
 rw [show nms 64 (fun _ => 0) = arr .u64 256 (fun _ => 0) from nms_zero 64 _ fun j hj => rfl]
 exact zero_of_info (by kernel_rfl)
theorem szP4 (x y z t : Int) : (Tryd.prog.info? 44).map (·.size) = some (q4 x y z t).size := by rw [q4_size]; exact zeroP4.2
theorem lenP4 (x y z t x' y' z' t' : Int) : (q4 x y z t).size = (q4 x' y' z' t').size := by rw [q4_size, q4_size]
theorem infoP4 (x y z t : Int) : (Tryd.prog.info? 44).map (·.size) = some (q4 x y z t).toList.length := by rw [Array.length_toList]; exact szP4 _ _ _ _
theorem setRowP4 {w : World} {b : Nat} {x y z t : Int} (h : Ar w b (q4 x y z t)) (x' y' z' t' : Int) : w.setCells b 0 (q4 x' y' z' t').toList = w.setRow b (q4 x' y' z' t') := by
 have h1 := run_storeVar_mid (P := Tryd.prog) w b 0 44 (q4 x' y' z' t') (by rw [q4_size]; exact nms_there h 0 4 (by omega)) (szP4 x' y' z' t') (q4_one x' y' z' t')
 obtain ⟨t, h⟩ := h
 have h2 := run_storeVar_row (P := Tryd.prog) w b t 44 _ (q4 x' y' z' t') h (szP4 x' y' z' t') (lenP4 _ _ _ _ x' y' z' t') (q4_one x' y' z' t')
 rw [h1] at h2
 injection h2
theorem Ar.loadP4 {w : World} {b : Nat} {x y z t : Int} (h : Ar w b (q4 x y z t)) : (Go.loadVar 44 ⟨b, 0, none⟩).run Tryd.prog w = .ok (.agg (q4 x y z t)) w := by
 obtain ⟨g, h⟩ := h
 exact run_loadVar_row w b g 44 _ (0, 0) _ h Tryd.underlying44 rfl (szP4 _ _ _ _)
theorem bp_4 {fn : Func} {R : Ending → World → Prop} {a : Act} {w : World} {p b : Nat} {x y z t : Int} (h : fn.results = #[.cell p 44]) (hd : a.defers = []) (hp : a.tmps.getD p undef = .pointer (some ⟨b, 0, none⟩)) (ha : Ar w b (q4 x y z t)) (hR : R (.returned (.agg (q4 x y z t))) w) : bodyPost Tryd.prog fn R .ret a w := by
 refine bodyPost_ret (v := .agg (q4 x y z t)) ?_ hd hR
 rw [Array.getD_eq_getD_getElem?] at hp
 simp only [results, h]
 simp [hp, asAddr, ha.loadP4]
theorem rangeq4F0 {w : World} {b : Nat} {x y z t : Int} (h : Ar w b (q4 x y z t)) : w.rangeAt b 0 (num x).toList := nms_num h 0 (by decide)
theorem rangeq4F1 {w : World} {b : Nat} {x y z t : Int} (h : Ar w b (q4 x y z t)) : w.rangeAt b 4 (num y).toList := nms_num h 1 (by decide)
theorem rangeq4F2 {w : World} {b : Nat} {x y z t : Int} (h : Ar w b (q4 x y z t)) : w.rangeAt b 8 (num z).toList := nms_num h 2 (by decide)
theorem rangeq4F3 {w : World} {b : Nat} {x y z t : Int} (h : Ar w b (q4 x y z t)) : w.rangeAt b 12 (num t).toList := nms_num h 3 (by decide)
theorem rangeAp {w : World} {b : Nat} {A : Array Value} (h : Ar w b A) : w.rangeAt b 0 A.toList := by
 intro j v hv
 rw [Nat.zero_add, h.cell]
 simpa using hv
theorem builtP4 (x y z t : Int) : Tryd.prog.built 44 [(0, .agg (num x)), (1, .agg (num y)), (2, .agg (num z)), (3, .agg (num t))] = some (q4 x y z t) := by kernel_rfl
theorem opG_P4 {o : Oper} {a : Act} {w : World} {x y z t : Int} {G : Value → World → Prop} {Q : Exit → Act → World → Prop} (X Y Z T : Operand) (ho : o.op = .build 44 #[(0, X), (1, Y), (2, Z), (3, T)]) (hx : a.eval X = .agg (num x)) (hy : a.eval Y = .agg (num y)) (hz : a.eval Z = .agg (num z)) (ht : a.eval T = .agg (num t)) (hG : G (.agg (q4 x y z t)) w) : o.wp Tryd.prog a w (fun a' u => ∃ v, a' = a.put o.dst v ∧ G v u ∧ Chg w u) Q := by
 have e : (#[(0, X), (1, Y), (2, Z), (3, T)].map fun (p : Nat × Operand) => (p.1, a.eval p.2)).toList = [(0, .agg (num x)), (1, .agg (num y)), (2, .agg (num z)), (3, .agg (num t))] := by
  simp [hx, hy, hz, ht]
 have h : Tryd.prog.built 44 (#[(0, X), (1, Y), (2, Z), (3, T)].map fun (p : Nat × Operand) => (p.1, a.eval p.2)).toList = some (q4 x y z t) := by rw [e]; exact builtP4 x y z t
 refine wp_build 44 _ ho ?_ ?_
 ·show (Tryd.prog.built 44 (#[(0, X), (1, Y), (2, Z), (3, T)].map fun (p : Nat × Operand) => (p.1, a.eval p.2)).toList).isSome = true
  rw [h]
  rfl
 ·show ∃ v, a.put o.dst (.agg ((Tryd.prog.built 44 (#[(0, X), (1, Y), (2, Z), (3, T)].map fun (p : Nat × Operand) => (p.1, a.eval p.2)).toList).getD #[])) = a.put o.dst v ∧ G v w ∧ Chg w w
  rw [h]
  exact ⟨_, rfl, hG, Chg.refl _⟩
end Go.Proofs.YtjfidbifjagnpaaDoor
namespace Go.Proofs.YtjfidbifjagnpaaDoor
open Go.RowKit
set_option linter.unusedVariables false
set_option maxRecDepth 100000
set_option maxHeartbeats 4000000 in
theorem mulE_any (a b : Int) (ha : N256 a) (hb : N256 b) (w : World) : Calls Tryd.prog 39 #[.agg (num a), .agg (num b)] w fun r w' => r = .returned (.agg (num (md 1 (a * b)))) ∧ Chg w w' := by
 have HN : Hid (N256 a ∧ N256 b) := ⟨ha, hb⟩
 have hz := zero25.1
 have hsA := num_size a
 have hsB := num_size b
 obtain ⟨A, hA⟩ : ∃ A, A = num a := ⟨_, rfl⟩
 obtain ⟨B, hB⟩ : ∃ B, B = num b := ⟨_, rfl⟩
 have HA : Hid (A = num a) := hA
 have HB : Hid (B = num b) := hB
 rw [← hA] at hsA ⊢
 rw [← hB] at hsB ⊢
 clear hA hB ha hb
 go_enter Tryd.func39, Tryd.ntmps39
 go_upto_region 1 with fail
 obtain ⟨w1, hw1⟩ : ∃ w1, w1 = ((w.alloc (.cells A 32)).alloc (.cells B 32)).alloc (.cells (num 0) 32) := ⟨_, rfl⟩
 have Z1 : Hid (Chg w w1 ∧ Ar w1 w.heap.size (num a) ∧ Ar w1 (w.heap.size + 1) (num b) ∧ Ar w1 (w.heap.size + 1 + 1) (num 0)) := by
  have hnew0 := Ar.new w (num a) 32
  have hnew1 := Ar.new (w.alloc (.cells (num a) 32)) (num b) 32
  rw [World.size_alloc] at hnew1
  have hnew2 := Ar.new ((w.alloc (.cells (num a) 32)).alloc (.cells (num b) 32)) (num 0) 32
  rw [World.size_alloc, World.size_alloc] at hnew2
  rw [hw1, HA.out, HB.out]
  exact ⟨((((Chg.refl w).alloc _).alloc _).alloc _), (((hnew0).alloc _).alloc _), ((hnew1).alloc _), (hnew2)⟩
 rw [← hw1]
 clear hw1
 clear hsA hsB hz HA HB
 go_cut [] from 5 to 7 (fun wc => ∃ u, Chg w1 u ∧ wc = u.setRow (w.heap.size + 1 + 1) (num (md 1 (a * b))))
 case first =>
  refine regS 3 (fun j v wg => match j with
   | 0 => v = .agg (num a)
   | 1 => v = .agg (num b)
   | 2 => v = .agg (num (md 1 (a * b)))
   | _ => True) (by kernel_rfl) (by kernel_rfl) ?_ ?_ ?_
  ·intro j v u1 u2 h hc
   match j, h with
   | 0, h => exact h
   | 1, h => exact h
   | 2, h => exact h
   | _ + 3, h => exact trivial
  ·intro i o ac u hi ho hsz hf hg hc
   have hcs : i = 0 ∨ i = 1 ∨ i = 2 := by omega
   rcases hcs with rfl | rfl | rfl
   ·injection ho with ho
    subst ho
    refine .inl ⟨wanted_none rfl, ?_⟩
    have e1 : ac.eval (.tmp 2) = .pointer (some ⟨w.heap.size, 0, none⟩) := hf 2 (by kernel_rfl)
    exact wp_load_mid 32 (.tmp 2) rfl _ _ e1 ((num a).toList) _ (rangeAp (Z1.out.2.1.chg hc)) undNum rfl (infoN _) ⟨_, rfl, rfl, Chg.refl _⟩
   ·injection ho with ho
    subst ho
    refine .inl ⟨wanted_none rfl, ?_⟩
    have e1 : ac.eval (.tmp 3) = .pointer (some ⟨w.heap.size + 1, 0, none⟩) := hf 3 (by kernel_rfl)
    exact wp_load_mid 32 (.tmp 3) rfl _ _ e1 ((num b).toList) _ (rangeAp (Z1.out.2.2.1.chg hc)) undNum rfl (infoN _) ⟨_, rfl, rfl, Chg.refl _⟩
   ·injection ho with ho
    subst ho
    refine .inl ⟨wanted_none rfl, ?_⟩
    have e1 : ac.eval (.const (.int .i64 1)) = .int .i64 1 := rfl
    have e2 : ac.eval (.tmp 5) = .agg (num a) := hg 0 (by decide) (by decide)
    have e3 : ac.eval (.tmp 6) = .agg (num b) := hg 1 (by decide) (by decide)
    refine opG_go 26 Tryd.f26 #[.const (.int .i64 1), .tmp 5, .tmp 6] #[37, 32, 32] rfl Tryd.func26 (by kernel_rfl) (by kernel_rfl) (by simp [e1, e2, e3]) (Calls.mono (mulM_any 1 a b HN.out.1 HN.out.2 _) ?_)
    rintro r u2 ⟨rfl, hc2⟩
    exact ⟨_, rfl, rfl, hc2⟩
  ·intro o u V ho hV hc
   injection ho with ho
   subst ho
   refine ⟨rfl, ?_⟩
   have q5 : V 0 = .agg (num a) := hV 0 (by decide)
   have q6 : V 1 = .agg (num b) := hV 1 (by decide)
   have q7 : V 2 = .agg (num (md 1 (a * b))) := hV 2 (by decide)
   have hres := Z1.out.2.2.2.chg hc
   refine wp_store_mid 32 (.tmp 4) (.tmp 7) rfl (w.heap.size + 1 + 1) 0 (num (md 1 (a * b))) (by rfl) (Eq.trans (by rfl) q7) (by rw [num_size]; exact thereN hres) (szN _) (num_one _) ?_
   rw [show u.setCells (w.heap.size + 1 + 1) 0 (num (md 1 (a * b))).toList = u.setRow (w.heap.size + 1 + 1) (num (md 1 (a * b))) from setRowN hres _]
   go_wp2_with fail
   go_meet
   exact ⟨u, hc, rfl⟩
 obtain ⟨u, hcc, rfl⟩ := hcut
 obtain ⟨w2, hw2⟩ : ∃ x, x = u.setRow (w.heap.size + 1 + 1) (num (md 1 (a * b))) := ⟨_, rfl⟩
 have Z2 : Hid (Chg w w2 ∧ Ar w2 w.heap.size (num a) ∧ Ar w2 (w.heap.size + 1) (num b) ∧ Ar w2 (w.heap.size + 1 + 1) (num (md 1 (a * b)))) := by
  rw [hw2]
  exact ⟨(Z1.out.1.trans hcc).setRow (by omega) _, (Z1.out.2.1.chg hcc).rowOther (by omega) _, (Z1.out.2.2.1.chg hcc).rowOther (by omega) _, (Z1.out.2.2.2.chg hcc).row _⟩
 rw [← hw2]
 clear hw2 hcc Z1 u
 go_wp2_with fail
 exact bp_n Tryd.results39 rfl rfl Z2.out.2.2.2 ⟨rfl, Z2.out.1⟩
set_option maxHeartbeats 4000000 in
theorem addE_any (a b : Int) (ha : N256 a) (hb : N256 b) (w : World) : Calls Tryd.prog 41 #[.agg (num a), .agg (num b)] w fun r w' => r = .returned (.agg (num (md 1 (a + b)))) ∧ Chg w w' := by
 have HN : Hid (N256 a ∧ N256 b) := ⟨ha, hb⟩
 have hz := zero25.1
 have hsA := num_size a
 have hsB := num_size b
 obtain ⟨A, hA⟩ : ∃ A, A = num a := ⟨_, rfl⟩
 obtain ⟨B, hB⟩ : ∃ B, B = num b := ⟨_, rfl⟩
 have HA : Hid (A = num a) := hA
 have HB : Hid (B = num b) := hB
 rw [← hA] at hsA ⊢
 rw [← hB] at hsB ⊢
 clear hA hB ha hb
 go_enter Tryd.func41, Tryd.ntmps41
 go_upto_region 1 with fail
 obtain ⟨w1, hw1⟩ : ∃ w1, w1 = ((w.alloc (.cells A 32)).alloc (.cells B 32)).alloc (.cells (num 0) 32) := ⟨_, rfl⟩
 have Z1 : Hid (Chg w w1 ∧ Ar w1 w.heap.size (num a) ∧ Ar w1 (w.heap.size + 1) (num b) ∧ Ar w1 (w.heap.size + 1 + 1) (num 0)) := by
  have hnew0 := Ar.new w (num a) 32
  have hnew1 := Ar.new (w.alloc (.cells (num a) 32)) (num b) 32
  rw [World.size_alloc] at hnew1
  have hnew2 := Ar.new ((w.alloc (.cells (num a) 32)).alloc (.cells (num b) 32)) (num 0) 32
  rw [World.size_alloc, World.size_alloc] at hnew2
  rw [hw1, HA.out, HB.out]
  exact ⟨((((Chg.refl w).alloc _).alloc _).alloc _), (((hnew0).alloc _).alloc _), ((hnew1).alloc _), (hnew2)⟩
 rw [← hw1]
 clear hw1
 clear hsA hsB hz HA HB
 go_cut [] from 5 to 7 (fun wc => ∃ u, Chg w1 u ∧ wc = u.setRow (w.heap.size + 1 + 1) (num (md 1 (a + b))))
 case first =>
  refine regS 3 (fun j v wg => match j with
   | 0 => v = .agg (num a)
   | 1 => v = .agg (num b)
   | 2 => v = .agg (num (md 1 (a + b)))
   | _ => True) (by kernel_rfl) (by kernel_rfl) ?_ ?_ ?_
  ·intro j v u1 u2 h hc
   match j, h with
   | 0, h => exact h
   | 1, h => exact h
   | 2, h => exact h
   | _ + 3, h => exact trivial
  ·intro i o ac u hi ho hsz hf hg hc
   have hcs : i = 0 ∨ i = 1 ∨ i = 2 := by omega
   rcases hcs with rfl | rfl | rfl
   ·injection ho with ho
    subst ho
    refine .inl ⟨wanted_none rfl, ?_⟩
    have e1 : ac.eval (.tmp 2) = .pointer (some ⟨w.heap.size, 0, none⟩) := hf 2 (by kernel_rfl)
    exact wp_load_mid 32 (.tmp 2) rfl _ _ e1 ((num a).toList) _ (rangeAp (Z1.out.2.1.chg hc)) undNum rfl (infoN _) ⟨_, rfl, rfl, Chg.refl _⟩
   ·injection ho with ho
    subst ho
    refine .inl ⟨wanted_none rfl, ?_⟩
    have e1 : ac.eval (.tmp 3) = .pointer (some ⟨w.heap.size + 1, 0, none⟩) := hf 3 (by kernel_rfl)
    exact wp_load_mid 32 (.tmp 3) rfl _ _ e1 ((num b).toList) _ (rangeAp (Z1.out.2.2.1.chg hc)) undNum rfl (infoN _) ⟨_, rfl, rfl, Chg.refl _⟩
   ·injection ho with ho
    subst ho
    refine .inl ⟨wanted_none rfl, ?_⟩
    have e1 : ac.eval (.const (.int .i64 1)) = .int .i64 1 := rfl
    have e2 : ac.eval (.tmp 5) = .agg (num a) := hg 0 (by decide) (by decide)
    have e3 : ac.eval (.tmp 6) = .agg (num b) := hg 1 (by decide) (by decide)
    refine opG_go 25 Tryd.f25 #[.const (.int .i64 1), .tmp 5, .tmp 6] #[37, 32, 32] rfl Tryd.func25 (by kernel_rfl) (by kernel_rfl) (by simp [e1, e2, e3]) (Calls.mono (addM_any 1 a b HN.out.1 HN.out.2 _) ?_)
    rintro r u2 ⟨rfl, hc2⟩
    exact ⟨_, rfl, rfl, hc2⟩
  ·intro o u V ho hV hc
   injection ho with ho
   subst ho
   refine ⟨rfl, ?_⟩
   have q5 : V 0 = .agg (num a) := hV 0 (by decide)
   have q6 : V 1 = .agg (num b) := hV 1 (by decide)
   have q7 : V 2 = .agg (num (md 1 (a + b))) := hV 2 (by decide)
   have hres := Z1.out.2.2.2.chg hc
   refine wp_store_mid 32 (.tmp 4) (.tmp 7) rfl (w.heap.size + 1 + 1) 0 (num (md 1 (a + b))) (by rfl) (Eq.trans (by rfl) q7) (by rw [num_size]; exact thereN hres) (szN _) (num_one _) ?_
   rw [show u.setCells (w.heap.size + 1 + 1) 0 (num (md 1 (a + b))).toList = u.setRow (w.heap.size + 1 + 1) (num (md 1 (a + b))) from setRowN hres _]
   go_wp2_with fail
   go_meet
   exact ⟨u, hc, rfl⟩
 obtain ⟨u, hcc, rfl⟩ := hcut
 obtain ⟨w2, hw2⟩ : ∃ x, x = u.setRow (w.heap.size + 1 + 1) (num (md 1 (a + b))) := ⟨_, rfl⟩
 have Z2 : Hid (Chg w w2 ∧ Ar w2 w.heap.size (num a) ∧ Ar w2 (w.heap.size + 1) (num b) ∧ Ar w2 (w.heap.size + 1 + 1) (num (md 1 (a + b)))) := by
  rw [hw2]
  exact ⟨(Z1.out.1.trans hcc).setRow (by omega) _, (Z1.out.2.1.chg hcc).rowOther (by omega) _, (Z1.out.2.2.1.chg hcc).rowOther (by omega) _, (Z1.out.2.2.2.chg hcc).row _⟩
 rw [← hw2]
 clear hw2 hcc Z1 u
 go_wp2_with fail
 exact bp_n Tryd.results41 rfl rfl Z2.out.2.2.2 ⟨rfl, Z2.out.1⟩
set_option maxHeartbeats 4000000 in
theorem subE_any (a b : Int) (ha : N256 a) (hb : N256 b) (w : World) : Calls Tryd.prog 40 #[.agg (num a), .agg (num b)] w fun r w' => r = .returned (.agg (num (md 1 (a - b)))) ∧ Chg w w' := by
 have HN : Hid (N256 a ∧ N256 b) := ⟨ha, hb⟩
 have hz := zero25.1
 have hsA := num_size a
 have hsB := num_size b
 obtain ⟨A, hA⟩ : ∃ A, A = num a := ⟨_, rfl⟩
 obtain ⟨B, hB⟩ : ∃ B, B = num b := ⟨_, rfl⟩
 have HA : Hid (A = num a) := hA
 have HB : Hid (B = num b) := hB
 rw [← hA] at hsA ⊢
 rw [← hB] at hsB ⊢
 clear hA hB ha hb
 go_enter Tryd.func40, Tryd.ntmps40
 go_upto_region 1 with fail
 obtain ⟨w1, hw1⟩ : ∃ w1, w1 = ((w.alloc (.cells A 32)).alloc (.cells B 32)).alloc (.cells (num 0) 32) := ⟨_, rfl⟩
 have Z1 : Hid (Chg w w1 ∧ Ar w1 w.heap.size (num a) ∧ Ar w1 (w.heap.size + 1) (num b) ∧ Ar w1 (w.heap.size + 1 + 1) (num 0)) := by
  have hnew0 := Ar.new w (num a) 32
  have hnew1 := Ar.new (w.alloc (.cells (num a) 32)) (num b) 32
  rw [World.size_alloc] at hnew1
  have hnew2 := Ar.new ((w.alloc (.cells (num a) 32)).alloc (.cells (num b) 32)) (num 0) 32
  rw [World.size_alloc, World.size_alloc] at hnew2
  rw [hw1, HA.out, HB.out]
  exact ⟨((((Chg.refl w).alloc _).alloc _).alloc _), (((hnew0).alloc _).alloc _), ((hnew1).alloc _), (hnew2)⟩
 rw [← hw1]
 clear hw1
 clear hsA hsB hz HA HB
 go_cut [] from 5 to 7 (fun wc => ∃ u, Chg w1 u ∧ wc = u.setRow (w.heap.size + 1 + 1) (num (md 1 (a - b))))
 case first =>
  refine regS 3 (fun j v wg => match j with
   | 0 => v = .agg (num a)
   | 1 => v = .agg (num b)
   | 2 => v = .agg (num (md 1 (a - b)))
   | _ => True) (by kernel_rfl) (by kernel_rfl) ?_ ?_ ?_
  ·intro j v u1 u2 h hc
   match j, h with
   | 0, h => exact h
   | 1, h => exact h
   | 2, h => exact h
   | _ + 3, h => exact trivial
  ·intro i o ac u hi ho hsz hf hg hc
   have hcs : i = 0 ∨ i = 1 ∨ i = 2 := by omega
   rcases hcs with rfl | rfl | rfl
   ·injection ho with ho
    subst ho
    refine .inl ⟨wanted_none rfl, ?_⟩
    have e1 : ac.eval (.tmp 2) = .pointer (some ⟨w.heap.size, 0, none⟩) := hf 2 (by kernel_rfl)
    exact wp_load_mid 32 (.tmp 2) rfl _ _ e1 ((num a).toList) _ (rangeAp (Z1.out.2.1.chg hc)) undNum rfl (infoN _) ⟨_, rfl, rfl, Chg.refl _⟩
   ·injection ho with ho
    subst ho
    refine .inl ⟨wanted_none rfl, ?_⟩
    have e1 : ac.eval (.tmp 3) = .pointer (some ⟨w.heap.size + 1, 0, none⟩) := hf 3 (by kernel_rfl)
    exact wp_load_mid 32 (.tmp 3) rfl _ _ e1 ((num b).toList) _ (rangeAp (Z1.out.2.2.1.chg hc)) undNum rfl (infoN _) ⟨_, rfl, rfl, Chg.refl _⟩
   ·injection ho with ho
    subst ho
    refine .inl ⟨wanted_none rfl, ?_⟩
    have e1 : ac.eval (.const (.int .i64 1)) = .int .i64 1 := rfl
    have e2 : ac.eval (.tmp 5) = .agg (num a) := hg 0 (by decide) (by decide)
    have e3 : ac.eval (.tmp 6) = .agg (num b) := hg 1 (by decide) (by decide)
    refine opG_go 51 Tryd.f51 #[.const (.int .i64 1), .tmp 5, .tmp 6] #[37, 32, 32] rfl Tryd.func51 (by kernel_rfl) (by kernel_rfl) (by simp [e1, e2, e3]) (Calls.mono (subM_any 1 a b HN.out.1 HN.out.2 _) ?_)
    rintro r u2 ⟨rfl, hc2⟩
    exact ⟨_, rfl, rfl, hc2⟩
  ·intro o u V ho hV hc
   injection ho with ho
   subst ho
   refine ⟨rfl, ?_⟩
   have q5 : V 0 = .agg (num a) := hV 0 (by decide)
   have q6 : V 1 = .agg (num b) := hV 1 (by decide)
   have q7 : V 2 = .agg (num (md 1 (a - b))) := hV 2 (by decide)
   have hres := Z1.out.2.2.2.chg hc
   refine wp_store_mid 32 (.tmp 4) (.tmp 7) rfl (w.heap.size + 1 + 1) 0 (num (md 1 (a - b))) (by rfl) (Eq.trans (by rfl) q7) (by rw [num_size]; exact thereN hres) (szN _) (num_one _) ?_
   rw [show u.setCells (w.heap.size + 1 + 1) 0 (num (md 1 (a - b))).toList = u.setRow (w.heap.size + 1 + 1) (num (md 1 (a - b))) from setRowN hres _]
   go_wp2_with fail
   go_meet
   exact ⟨u, hc, rfl⟩
 obtain ⟨u, hcc, rfl⟩ := hcut
 obtain ⟨w2, hw2⟩ : ∃ x, x = u.setRow (w.heap.size + 1 + 1) (num (md 1 (a - b))) := ⟨_, rfl⟩
 have Z2 : Hid (Chg w w2 ∧ Ar w2 w.heap.size (num a) ∧ Ar w2 (w.heap.size + 1) (num b) ∧ Ar w2 (w.heap.size + 1 + 1) (num (md 1 (a - b)))) := by
  rw [hw2]
  exact ⟨(Z1.out.1.trans hcc).setRow (by omega) _, (Z1.out.2.1.chg hcc).rowOther (by omega) _, (Z1.out.2.2.1.chg hcc).rowOther (by omega) _, (Z1.out.2.2.2.chg hcc).row _⟩
 rw [← hw2]
 clear hw2 hcc Z1 u
 go_wp2_with fail
 exact bp_n Tryd.results40 rfl rfl Z2.out.2.2.2 ⟨rfl, Z2.out.1⟩
end Go.Proofs.YtjfidbifjagnpaaDoor
namespace Go.Proofs.YtjfidbifjagnpaaDoor
open Go.RowKit
set_option linter.unusedVariables false
set_option maxRecDepth 100000
theorem N_dN : N256 (dN : Int) := ⟨by decide +kernel, by decide +kernel⟩
theorem N_bX : N256 bX := ⟨by decide +kernel, by decide +kernel⟩
theorem N_bY : N256 bY := ⟨by decide +kernel, by decide +kernel⟩
theorem built_d_op (a : Act) : Tryd.prog.built 32 (#[((0 : Nat), Operand.const (.int .u64 8496970652267935907)), ((1 : Nat), Operand.const (.int .u64 31536524315187371)), ((2 : Nat), Operand.const (.int .u64 10144147576115030168)), ((3 : Nat), Operand.const (.int .u64 5909686906226998899))].map fun (p : Nat × Operand) => (p.1, a.eval p.2)).toList = some (num ((dN : Int))) := by kernel_rfl
theorem built_bX_op (a : Act) : Tryd.prog.built 32 (#[((0 : Nat), Operand.const (.int .u64 14507833142362363162)), ((1 : Nat), Operand.const (.int .u64 7578651490590762930)), ((2 : Nat), Operand.const (.int .u64 13881468655802702940)), ((3 : Nat), Operand.const (.int .u64 2407515759118799870))].map fun (p : Nat × Operand) => (p.1, a.eval p.2)).toList = some (num bX) := by kernel_rfl
theorem built_bY_op (a : Act) : Tryd.prog.built 32 (#[((0 : Nat), Operand.const (.int .u64 7378697629483820632)), ((1 : Nat), Operand.const (.int .u64 7378697629483820646)), ((2 : Nat), Operand.const (.int .u64 7378697629483820646)), ((3 : Nat), Operand.const (.int .u64 7378697629483820646))].map fun (p : Nat × Operand) => (p.1, a.eval p.2)).toList = some (num bY) := by kernel_rfl
theorem built_1_op (a : Act) : Tryd.prog.built 32 (#[((0 : Nat), Operand.const (.int .u64 1))].map fun (p : Nat × Operand) => (p.1, a.eval p.2)).toList = some (num 1) := by kernel_rfl
theorem built_0_op (a : Act) : Tryd.prog.built 32 ((#[] : Array (Nat × Operand)).map fun (p : Nat × Operand) => (p.1, a.eval p.2)).toList = some (num 0) := by kernel_rfl
theorem opG_lit {o : Oper} {a : Act} {w : World} {x : Int} {G : Value → World → Prop} {Q : Exit → Act → World → Prop} (l : Array (Nat × Operand)) (ho : o.op = .build 32 l) (h : Tryd.prog.built 32 (l.map fun (p : Nat × Operand) => (p.1, a.eval p.2)).toList = some (num x)) (hG : G (.agg (num x)) w) : o.wp Tryd.prog a w (fun a' u => ∃ v, a' = a.put o.dst v ∧ G v u ∧ Chg w u) Q := by
 refine wp_build 32 _ ho ?_ ?_
 ·show (Tryd.prog.built 32 (l.map fun (p : Nat × Operand) => (p.1, a.eval p.2)).toList).isSome = true
  rw [h]
  rfl
 ·show ∃ v, a.put o.dst (.agg ((Tryd.prog.built 32 (l.map fun (p : Nat × Operand) => (p.1, a.eval p.2)).toList).getD #[])) = a.put o.dst v ∧ G v w ∧ Chg w w
  rw [h]
  exact ⟨_, rfl, hG, Chg.refl _⟩
set_option maxHeartbeats 4000000 in
theorem curveE_any (w : World) : Calls Tryd.prog 42 #[] w fun r w' => r = .returned (.agg (num (dN : Int))) ∧ Chg w w' := by
 have hz := zero25.1
 go_enter Tryd.func42, Tryd.ntmps42
 go_upto_region 1 with fail
 obtain ⟨w1, hw1⟩ : ∃ w1, w1 = w.alloc (.cells (num 0) 32) := ⟨_, rfl⟩
 have Z1 : Hid (Chg w w1 ∧ Ar w1 w.heap.size (num 0)) := by
  have hnew0 := Ar.new w (num 0) 32
  rw [hw1]
  exact ⟨((Chg.refl w).alloc _), (hnew0)⟩
 rw [← hw1]
 clear hw1
 clear hz
 go_cut [] from 1 to 1 (fun wc => ∃ u, Chg w1 u ∧ wc = u.setRow w.heap.size (num ((dN : Int))))
 case first =>
  refine regS 1 (fun j v wg => match j with
   | 0 => v = .agg (num ((dN : Int)))
   | _ => True) (by kernel_rfl) (by kernel_rfl) ?_ ?_ ?_
  ·intro j v u1 u2 h hc
   match j, h with
   | 0, h => exact h
   | _ + 1, h => exact trivial
  ·intro i o ac u hi ho hsz hf hg hc
   have hcs : i = 0 := by omega
   rcases hcs with rfl
   ·injection ho with ho
    subst ho
    refine .inl ⟨wanted_none rfl, ?_⟩
    exact opG_lit _ rfl (built_d_op ac) rfl
  ·intro o u V ho hV hc
   injection ho with ho
   subst ho
   refine ⟨rfl, ?_⟩
   have q1 : V 0 = .agg (num ((dN : Int))) := hV 0 (by decide)
   have hres := Z1.out.2.chg hc
   refine wp_store_mid 32 (.tmp 0) (.tmp 1) rfl w.heap.size 0 (num ((dN : Int))) (by rfl) (Eq.trans (by rfl) q1) (by rw [num_size]; exact thereN hres) (szN _) (num_one _) ?_
   rw [show u.setCells w.heap.size 0 (num ((dN : Int))).toList = u.setRow w.heap.size (num ((dN : Int))) from setRowN hres _]
   go_wp2_with fail
   go_meet
   exact ⟨u, hc, rfl⟩
 obtain ⟨u, hcc, rfl⟩ := hcut
 obtain ⟨w2, hw2⟩ : ∃ zz0, zz0 = u.setRow w.heap.size (num ((dN : Int))) := ⟨_, rfl⟩
 have Z2 : Hid (Chg w w2 ∧ Ar w2 w.heap.size (num ((dN : Int)))) := by
  rw [hw2]
  exact ⟨(Z1.out.1.trans hcc).setRow (by omega) _, (Z1.out.2.chg hcc).row _⟩
 rw [← hw2]
 clear hw2 hcc Z1 u
 go_wp2_with fail
 exact bp_n Tryd.results42 rfl rfl Z2.out.2 ⟨rfl, Z2.out.1⟩
set_option maxHeartbeats 4000000 in
theorem atE_any (a b : Int) (ha : N256 a) (hb : N256 b) (w : World) : Calls Tryd.prog 31 #[.agg (num a), .agg (num b)] w fun r w' => r = .returned (.agg (q4 a b 1 (md 1 (a * b)))) ∧ Chg w w' := by
 have HN : Hid (N256 a ∧ N256 b) := ⟨ha, hb⟩
 have hz := zeroP4.1
 have hsA := num_size a
 have hsB := num_size b
 obtain ⟨A, hA⟩ : ∃ A, A = num a := ⟨_, rfl⟩
 obtain ⟨B, hB⟩ : ∃ B, B = num b := ⟨_, rfl⟩
 have HA : Hid (A = num a) := hA
 have HB : Hid (B = num b) := hB
 rw [← hA] at hsA ⊢
 rw [← hB] at hsB ⊢
 clear hA hB ha hb
 go_enter Tryd.func31, Tryd.ntmps31
 go_upto_region 1 with fail
 obtain ⟨w1, hw1⟩ : ∃ w1, w1 = ((w.alloc (.cells A 32)).alloc (.cells B 32)).alloc (.cells (q4 0 0 0 0) 44) := ⟨_, rfl⟩
 have Z1 : Hid (Chg w w1 ∧ Ar w1 w.heap.size (num a) ∧ Ar w1 (w.heap.size + 1) (num b) ∧ Ar w1 (w.heap.size + 1 + 1) (q4 0 0 0 0)) := by
  have hnew0 := Ar.new w (num a) 32
  have hnew1 := Ar.new (w.alloc (.cells (num a) 32)) (num b) 32
  rw [World.size_alloc] at hnew1
  have hnew2 := Ar.new ((w.alloc (.cells (num a) 32)).alloc (.cells (num b) 32)) (q4 0 0 0 0) 44
  rw [World.size_alloc, World.size_alloc] at hnew2
  rw [hw1, HA.out, HB.out]
  exact ⟨((((Chg.refl w).alloc _).alloc _).alloc _), (((hnew0).alloc _).alloc _), ((hnew1).alloc _), (hnew2)⟩
 rw [← hw1]
 clear hw1
 clear hsA hsB hz HA HB
 go_cut [] from 5 to 11 (fun wc => ∃ u, Chg w1 u ∧ wc = u.setRow (w.heap.size + 1 + 1) (q4 a b 1 (md 1 (a * b))))
 case first =>
  refine regA 7 (fun j v wg => match j with
   | 0 => v = .agg (num a)
   | 1 => v = .agg (num b)
   | 2 => v = .agg (num 1)
   | 3 => v = .agg (num a)
   | 4 => v = .agg (num b)
   | 5 => v = .agg (num (md 1 (a * b)))
   | 6 => v = .agg (q4 a b 1 (md 1 (a * b)))
   | _ => True) (by kernel_rfl) (by kernel_rfl) (by kernel_rfl) (by kernel_rfl) (by kernel_rfl) ?_ ?_ ?_
  ·intro j v u1 u2 h hc
   match j, h with
   | 0, h => exact h
   | 1, h => exact h
   | 2, h => exact h
   | 3, h => exact h
   | 4, h => exact h
   | 5, h => exact h
   | 6, h => exact h
   | _ + 7, h => exact trivial
  ·intro i o ac u hi ho hsz hf hg hc
   have hcs : i = 0 ∨ i = 1 ∨ i = 2 ∨ i = 3 ∨ i = 4 ∨ i = 5 ∨ i = 6 := by omega
   rcases hcs with rfl | rfl | rfl | rfl | rfl | rfl | rfl
   ·injection ho with ho
    subst ho
    refine .inl ⟨wanted_none rfl, ?_⟩
    have e1 : ac.eval (.tmp 2) = .pointer (some ⟨w.heap.size, 0, none⟩) := hf 2 (by kernel_rfl)
    exact wp_load_mid 32 (.tmp 2) rfl _ _ e1 ((num a).toList) _ (rangeAp (Z1.out.2.1.chg hc)) undNum rfl (infoN _) ⟨_, rfl, rfl, Chg.refl _⟩
   ·injection ho with ho
    subst ho
    refine .inl ⟨wanted_none rfl, ?_⟩
    have e1 : ac.eval (.tmp 3) = .pointer (some ⟨w.heap.size + 1, 0, none⟩) := hf 3 (by kernel_rfl)
    exact wp_load_mid 32 (.tmp 3) rfl _ _ e1 ((num b).toList) _ (rangeAp (Z1.out.2.2.1.chg hc)) undNum rfl (infoN _) ⟨_, rfl, rfl, Chg.refl _⟩
   ·injection ho with ho
    subst ho
    refine .inl ⟨wanted_none rfl, ?_⟩
    exact opG_lit _ rfl (built_1_op ac) rfl
   ·injection ho with ho
    subst ho
    refine .inl ⟨wanted_none rfl, ?_⟩
    have e1 : ac.eval (.tmp 2) = .pointer (some ⟨w.heap.size, 0, none⟩) := hf 2 (by kernel_rfl)
    exact wp_load_mid 32 (.tmp 2) rfl _ _ e1 ((num a).toList) _ (rangeAp (Z1.out.2.1.chg hc)) undNum rfl (infoN _) ⟨_, rfl, rfl, Chg.refl _⟩
   ·injection ho with ho
    subst ho
    refine .inl ⟨wanted_none rfl, ?_⟩
    have e1 : ac.eval (.tmp 3) = .pointer (some ⟨w.heap.size + 1, 0, none⟩) := hf 3 (by kernel_rfl)
    exact wp_load_mid 32 (.tmp 3) rfl _ _ e1 ((num b).toList) _ (rangeAp (Z1.out.2.2.1.chg hc)) undNum rfl (infoN _) ⟨_, rfl, rfl, Chg.refl _⟩
   ·injection ho with ho
    subst ho
    refine .inl ⟨wanted_none rfl, ?_⟩
    have e1 : ac.eval (.tmp 8) = .agg (num a) := hg 3 (by kernel_rfl) (by decide)
    have e2 : ac.eval (.tmp 9) = .agg (num b) := hg 4 (by kernel_rfl) (by decide)
    refine opG_go 39 Tryd.f39 #[.tmp 8, .tmp 9] #[32, 32] rfl Tryd.func39 (by kernel_rfl) (by kernel_rfl) (by simp [e1, e2]) (Calls.mono (mulE_any a b (HN.out.1) (HN.out.2) _) ?_)
    rintro r u2 ⟨rfl, hc2⟩
    exact ⟨_, rfl, rfl, hc2⟩
   ·injection ho with ho
    subst ho
    refine .inl ⟨wanted_none rfl, ?_⟩
    have e1 : ac.eval (.tmp 5) = .agg (num a) := hg 0 (by kernel_rfl) (by decide)
    have e2 : ac.eval (.tmp 6) = .agg (num b) := hg 1 (by kernel_rfl) (by decide)
    have e3 : ac.eval (.tmp 7) = .agg (num 1) := hg 2 (by kernel_rfl) (by decide)
    have e4 : ac.eval (.tmp 10) = .agg (num (md 1 (a * b))) := hg 5 (by kernel_rfl) (by decide)
    exact opG_P4 (.tmp 5) (.tmp 6) (.tmp 7) (.tmp 10) rfl e1 e2 e3 e4 rfl
  ·intro o u V ho hV hc
   injection ho with ho
   subst ho
   refine ⟨rfl, ?_⟩
   have q5 : V 0 = .agg (num a) := hV 0 (by decide)
   have q6 : V 1 = .agg (num b) := hV 1 (by decide)
   have q7 : V 2 = .agg (num 1) := hV 2 (by decide)
   have q8 : V 3 = .agg (num a) := hV 3 (by decide)
   have q9 : V 4 = .agg (num b) := hV 4 (by decide)
   have q10 : V 5 = .agg (num (md 1 (a * b))) := hV 5 (by decide)
   have q11 : V 6 = .agg (q4 a b 1 (md 1 (a * b))) := hV 6 (by decide)
   have hres := Z1.out.2.2.2.chg hc
   refine wp_store_mid 44 (.tmp 4) (.tmp 11) rfl (w.heap.size + 1 + 1) 0 (q4 a b 1 (md 1 (a * b))) (by rfl) (Eq.trans (by rfl) q11) (by rw [q4_size]; exact nms_there hres 0 4 (by omega)) (szP4 _ _ _ _) (q4_one _ _ _ _) ?_
   rw [show u.setCells (w.heap.size + 1 + 1) 0 (q4 a b 1 (md 1 (a * b))).toList = u.setRow (w.heap.size + 1 + 1) (q4 a b 1 (md 1 (a * b))) from setRowP4 hres _ _ _ _]
   go_wp2_with fail
   go_meet
   exact ⟨u, hc, rfl⟩
 obtain ⟨u, hcc, rfl⟩ := hcut
 obtain ⟨w2, hw2⟩ : ∃ zz0, zz0 = u.setRow (w.heap.size + 1 + 1) (q4 a b 1 (md 1 (a * b))) := ⟨_, rfl⟩
 have Z2 : Hid (Chg w w2 ∧ Ar w2 w.heap.size (num a) ∧ Ar w2 (w.heap.size + 1) (num b) ∧ Ar w2 (w.heap.size + 1 + 1) (q4 a b 1 (md 1 (a * b)))) := by
  rw [hw2]
  exact ⟨(Z1.out.1.trans hcc).setRow (by omega) _, (Z1.out.2.1.chg hcc).rowOther (by omega) _, (Z1.out.2.2.1.chg hcc).rowOther (by omega) _, (Z1.out.2.2.2.chg hcc).row _⟩
 rw [← hw2]
 clear hw2 hcc Z1 u
 go_wp2_with fail
 exact bp_4 Tryd.results31 rfl rfl Z2.out.2.2.2 ⟨rfl, Z2.out.1⟩
set_option maxHeartbeats 4000000 in
theorem neutralE_any (w : World) : Calls Tryd.prog 37 #[] w fun r w' => r = .returned (.agg (q4 0 1 1 (md 1 (0 * 1)))) ∧ Chg w w' := by
 have hz := zeroP4.1
 go_enter Tryd.func37, Tryd.ntmps37
 go_upto_region 1 with fail
 obtain ⟨w1, hw1⟩ : ∃ w1, w1 = w.alloc (.cells (q4 0 0 0 0) 44) := ⟨_, rfl⟩
 have Z1 : Hid (Chg w w1 ∧ Ar w1 w.heap.size (q4 0 0 0 0)) := by
  have hnew0 := Ar.new w (q4 0 0 0 0) 44
  rw [hw1]
  exact ⟨((Chg.refl w).alloc _), (hnew0)⟩
 rw [← hw1]
 clear hw1
 clear hz
 go_cut [] from 1 to 3 (fun wc => ∃ u, Chg w1 u ∧ wc = u.setRow w.heap.size (q4 0 1 1 (md 1 (0 * 1))))
 case first =>
  refine regS 3 (fun j v wg => match j with
   | 0 => v = .agg (num 0)
   | 1 => v = .agg (num 1)
   | 2 => v = .agg (q4 0 1 1 (md 1 (0 * 1)))
   | _ => True) (by kernel_rfl) (by kernel_rfl) ?_ ?_ ?_
  ·intro j v u1 u2 h hc
   match j, h with
   | 0, h => exact h
   | 1, h => exact h
   | 2, h => exact h
   | _ + 3, h => exact trivial
  ·intro i o ac u hi ho hsz hf hg hc
   have hcs : i = 0 ∨ i = 1 ∨ i = 2 := by omega
   rcases hcs with rfl | rfl | rfl
   ·injection ho with ho
    subst ho
    refine .inl ⟨wanted_none rfl, ?_⟩
    exact opG_lit _ rfl (built_0_op ac) rfl
   ·injection ho with ho
    subst ho
    refine .inl ⟨wanted_none rfl, ?_⟩
    exact opG_lit _ rfl (built_1_op ac) rfl
   ·injection ho with ho
    subst ho
    refine .inl ⟨wanted_none rfl, ?_⟩
    have e1 : ac.eval (.tmp 1) = .agg (num 0) := hg 0 (by decide) (by decide)
    have e2 : ac.eval (.tmp 2) = .agg (num 1) := hg 1 (by decide) (by decide)
    refine opG_go 31 Tryd.f31 #[.tmp 1, .tmp 2] #[32, 32] rfl Tryd.func31 (by kernel_rfl) (by kernel_rfl) (by simp [e1, e2]) (Calls.mono (atE_any 0 1 n0E n1E _) ?_)
    rintro r u2 ⟨rfl, hc2⟩
    exact ⟨_, rfl, rfl, hc2⟩
  ·intro o u V ho hV hc
   injection ho with ho
   subst ho
   refine ⟨rfl, ?_⟩
   have q1 : V 0 = .agg (num 0) := hV 0 (by decide)
   have q2 : V 1 = .agg (num 1) := hV 1 (by decide)
   have q3 : V 2 = .agg (q4 0 1 1 (md 1 (0 * 1))) := hV 2 (by decide)
   have hres := Z1.out.2.chg hc
   refine wp_store_mid 44 (.tmp 0) (.tmp 3) rfl w.heap.size 0 (q4 0 1 1 (md 1 (0 * 1))) (by rfl) (Eq.trans (by rfl) q3) (by rw [q4_size]; exact nms_there hres 0 4 (by omega)) (szP4 _ _ _ _) (q4_one _ _ _ _) ?_
   rw [show u.setCells w.heap.size 0 (q4 0 1 1 (md 1 (0 * 1))).toList = u.setRow w.heap.size (q4 0 1 1 (md 1 (0 * 1))) from setRowP4 hres _ _ _ _]
   go_wp2_with fail
   go_meet
   exact ⟨u, hc, rfl⟩
 obtain ⟨u, hcc, rfl⟩ := hcut
 obtain ⟨w2, hw2⟩ : ∃ zz0, zz0 = u.setRow w.heap.size (q4 0 1 1 (md 1 (0 * 1))) := ⟨_, rfl⟩
 have Z2 : Hid (Chg w w2 ∧ Ar w2 w.heap.size (q4 0 1 1 (md 1 (0 * 1)))) := by
  rw [hw2]
  exact ⟨(Z1.out.1.trans hcc).setRow (by omega) _, (Z1.out.2.chg hcc).row _⟩
 rw [← hw2]
 clear hw2 hcc Z1 u
 go_wp2_with fail
 exact bp_4 Tryd.results37 rfl rfl Z2.out.2 ⟨rfl, Z2.out.1⟩
set_option maxHeartbeats 4000000 in
theorem baseE_any (w : World) : Calls Tryd.prog 19 #[] w fun r w' => r = .returned (.agg (q4 bX bY 1 (md 1 (bX * bY)))) ∧ Chg w w' := by
 have hz := zeroP4.1
 go_enter Tryd.func19, Tryd.ntmps19
 go_upto_region 1 with fail
 obtain ⟨w1, hw1⟩ : ∃ w1, w1 = w.alloc (.cells (q4 0 0 0 0) 44) := ⟨_, rfl⟩
 have Z1 : Hid (Chg w w1 ∧ Ar w1 w.heap.size (q4 0 0 0 0)) := by
  have hnew0 := Ar.new w (q4 0 0 0 0) 44
  rw [hw1]
  exact ⟨((Chg.refl w).alloc _), (hnew0)⟩
 rw [← hw1]
 clear hw1
 clear hz
 go_cut [1] from 1 to 3 (fun v1 wc => ∃ b1, v1 = .pointer (some ⟨b1, 0, none⟩) ∧ w1.heap.size ≤ b1 ∧ Ar wc b1 (num bX) ∧ Chg w1 wc)
 case first =>
  refine regS 2 (fun j v wg => match j with
   | 0 => v = .agg (num bX)
   | 1 => ∃ b, v = .pointer (some ⟨b, 0, none⟩) ∧ Ar wg b (num 0) ∧ w1.heap.size ≤ b
   | _ => True) (by kernel_rfl) (by kernel_rfl) ?_ ?_ ?_
  ·intro j v u1 u2 h hc
   match j, h with
   | 0, h => exact h
   | 1, h => (obtain ⟨b, h1, h2, h3⟩ := h; exact ⟨b, h1, h2.chg hc, h3⟩)
   | _ + 2, h => exact trivial
  ·intro i o ac u hi ho hsz hf hg hc
   have hcs : i = 0 ∨ i = 1 := by omega
   rcases hcs with rfl | rfl
   ·injection ho with ho
    subst ho
    refine .inl ⟨wanted_none rfl, ?_⟩
    exact opG_lit _ rfl (built_bX_op ac) rfl
   ·injection ho with ho
    subst ho
    refine .inl ⟨wanted_none rfl, ?_⟩
    exact opG_val (v := .pointer (some ⟨u.heap.size, 0, none⟩)) (w' := u.alloc (.cells (num 0) 32)) (by generalize ac.eval = ρ; simp [go_sem, execOp, zero25.1]) ⟨_, rfl, Ar.new _ _ _, hc.size⟩ ((Chg.refl _).alloc _)
  ·intro o u V ho hV hc
   injection ho with ho
   subst ho
   refine ⟨rfl, ?_⟩
   have q3 : V 0 = .agg (num bX) := hV 0 (by decide)
   obtain ⟨b1, q1, r1, s1⟩ := hV 1 (by decide)
   refine wp_store_mid 32 (.tmp 1) (.tmp 3) rfl b1 0 (num bX) (Eq.trans (by rfl) q1) (Eq.trans (by rfl) q3) (by rw [num_size]; exact thereN r1) (szN _) (num_one _) ?_
   rw [show u.setCells b1 0 (num bX).toList = u.setRow b1 (num bX) from setRowN r1 _]
   go_wp2_with fail
   go_meet
   exact ⟨b1, q1, s1, r1.row _, hc.setRow s1 _⟩
 obtain ⟨b1, rfl, l1, ha1, hcc⟩ := hcut
 obtain ⟨w2, hw2⟩ : ∃ zz0, zz0 = wc := ⟨_, rfl⟩
 rw [← hw2] at hcc ha1 ⊢
 clear hw2
 have O1 : Hid (w.heap.size < b1) := Nat.lt_of_lt_of_le (Z1.out.2.lt) l1
 have Z2 : Hid (Chg w w2 ∧ Ar w2 w.heap.size (q4 0 0 0 0) ∧ Ar w2 b1 (num bX)) := ⟨Z1.out.1.trans hcc, Z1.out.2.chg hcc, ha1⟩
 clear hcc ha1 l1 Z1
 go_upto_region 2 with fail
 go_cut [2] from 2 to 4 (fun v2 wc => ∃ b2, v2 = .pointer (some ⟨b2, 0, none⟩) ∧ w2.heap.size ≤ b2 ∧ Ar wc b2 (num bY) ∧ Chg w2 wc)
 case first =>
  refine regS 2 (fun j v wg => match j with
   | 0 => v = .agg (num bY)
   | 1 => ∃ b, v = .pointer (some ⟨b, 0, none⟩) ∧ Ar wg b (num 0) ∧ w2.heap.size ≤ b
   | _ => True) (by kernel_rfl) (by kernel_rfl) ?_ ?_ ?_
  ·intro j v u1 u2 h hc
   match j, h with
   | 0, h => exact h
   | 1, h => (obtain ⟨b, h1, h2, h3⟩ := h; exact ⟨b, h1, h2.chg hc, h3⟩)
   | _ + 2, h => exact trivial
  ·intro i o ac u hi ho hsz hf hg hc
   have hcs : i = 0 ∨ i = 1 := by omega
   rcases hcs with rfl | rfl
   ·injection ho with ho
    subst ho
    refine .inl ⟨wanted_none rfl, ?_⟩
    exact opG_lit _ rfl (built_bY_op ac) rfl
   ·injection ho with ho
    subst ho
    refine .inl ⟨wanted_none rfl, ?_⟩
    exact opG_val (v := .pointer (some ⟨u.heap.size, 0, none⟩)) (w' := u.alloc (.cells (num 0) 32)) (by generalize ac.eval = ρ; simp [go_sem, execOp, zero25.1]) ⟨_, rfl, Ar.new _ _ _, hc.size⟩ ((Chg.refl _).alloc _)
  ·intro o u V ho hV hc
   injection ho with ho
   subst ho
   refine ⟨rfl, ?_⟩
   have q4 : V 0 = .agg (num bY) := hV 0 (by decide)
   obtain ⟨b2, q2, r2, s2⟩ := hV 1 (by decide)
   refine wp_store_mid 32 (.tmp 2) (.tmp 4) rfl b2 0 (num bY) (Eq.trans (by rfl) q2) (Eq.trans (by rfl) q4) (by rw [num_size]; exact thereN r2) (szN _) (num_one _) ?_
   rw [show u.setCells b2 0 (num bY).toList = u.setRow b2 (num bY) from setRowN r2 _]
   go_wp2_with fail
   go_meet
   exact ⟨b2, q2, s2, r2.row _, hc.setRow s2 _⟩
 obtain ⟨b2, rfl, l2, ha2, hcc⟩ := hcut
 obtain ⟨w3, hw3⟩ : ∃ zz0, zz0 = wc := ⟨_, rfl⟩
 rw [← hw3] at hcc ha2 ⊢
 clear hw3
 have O2 : Hid (b1 < b2) := Nat.lt_of_lt_of_le (Z2.out.2.2.lt) l2
 have Z3 : Hid (Chg w w3 ∧ Ar w3 w.heap.size (q4 0 0 0 0) ∧ Ar w3 b1 (num bX) ∧ Ar w3 b2 (num bY)) := ⟨Z2.out.1.trans hcc, Z2.out.2.1.chg hcc, Z2.out.2.2.chg hcc, ha2⟩
 clear hcc ha2 l2 Z2
 go_upto_region 3 with fail
 go_cut [] from 5 to 7 (fun wc => ∃ u, Chg w3 u ∧ wc = u.setRow w.heap.size (q4 bX bY 1 (md 1 (bX * bY))))
 case first =>
  refine regS 3 (fun j v wg => match j with
   | 0 => v = .agg (num bX)
   | 1 => v = .agg (num bY)
   | 2 => v = .agg (q4 bX bY 1 (md 1 (bX * bY)))
   | _ => True) (by kernel_rfl) (by kernel_rfl) ?_ ?_ ?_
  ·intro j v u1 u2 h hc
   match j, h with
   | 0, h => exact h
   | 1, h => exact h
   | 2, h => exact h
   | _ + 3, h => exact trivial
  ·intro i o ac u hi ho hsz hf hg hc
   have hcs : i = 0 ∨ i = 1 ∨ i = 2 := by omega
   rcases hcs with rfl | rfl | rfl
   ·injection ho with ho
    subst ho
    refine .inl ⟨wanted_none rfl, ?_⟩
    have e1 : ac.eval (.tmp 1) = .pointer (some ⟨b1, 0, none⟩) := hf 1 (by kernel_rfl)
    exact wp_load_mid 32 (.tmp 1) rfl _ _ e1 ((num bX).toList) _ (rangeAp (Z3.out.2.2.1.chg hc)) undNum rfl (infoN _) ⟨_, rfl, rfl, Chg.refl _⟩
   ·injection ho with ho
    subst ho
    refine .inl ⟨wanted_none rfl, ?_⟩
    have e1 : ac.eval (.tmp 2) = .pointer (some ⟨b2, 0, none⟩) := hf 2 (by kernel_rfl)
    exact wp_load_mid 32 (.tmp 2) rfl _ _ e1 ((num bY).toList) _ (rangeAp (Z3.out.2.2.2.chg hc)) undNum rfl (infoN _) ⟨_, rfl, rfl, Chg.refl _⟩
   ·injection ho with ho
    subst ho
    refine .inl ⟨wanted_none rfl, ?_⟩
    have e1 : ac.eval (.tmp 5) = .agg (num bX) := hg 0 (by decide) (by decide)
    have e2 : ac.eval (.tmp 6) = .agg (num bY) := hg 1 (by decide) (by decide)
    refine opG_go 31 Tryd.f31 #[.tmp 5, .tmp 6] #[32, 32] rfl Tryd.func31 (by kernel_rfl) (by kernel_rfl) (by simp [e1, e2]) (Calls.mono (atE_any bX bY N_bX N_bY _) ?_)
    rintro r u2 ⟨rfl, hc2⟩
    exact ⟨_, rfl, rfl, hc2⟩
  ·intro o u V ho hV hc
   injection ho with ho
   subst ho
   refine ⟨rfl, ?_⟩
   have q5 : V 0 = .agg (num bX) := hV 0 (by decide)
   have q6 : V 1 = .agg (num bY) := hV 1 (by decide)
   have q7 : V 2 = .agg (q4 bX bY 1 (md 1 (bX * bY))) := hV 2 (by decide)
   have hres := Z3.out.2.1.chg hc
   refine wp_store_mid 44 (.tmp 0) (.tmp 7) rfl w.heap.size 0 (q4 bX bY 1 (md 1 (bX * bY))) (by rfl) (Eq.trans (by rfl) q7) (by rw [q4_size]; exact nms_there hres 0 4 (by omega)) (szP4 _ _ _ _) (q4_one _ _ _ _) ?_
   rw [show u.setCells w.heap.size 0 (q4 bX bY 1 (md 1 (bX * bY))).toList = u.setRow w.heap.size (q4 bX bY 1 (md 1 (bX * bY))) from setRowP4 hres _ _ _ _]
   go_wp2_with fail
   go_meet
   exact ⟨u, hc, rfl⟩
 obtain ⟨u, hcc, rfl⟩ := hcut
 obtain ⟨w4, hw4⟩ : ∃ zz0, zz0 = u.setRow w.heap.size (q4 bX bY 1 (md 1 (bX * bY))) := ⟨_, rfl⟩
 have Z4 : Hid (Chg w w4 ∧ Ar w4 w.heap.size (q4 bX bY 1 (md 1 (bX * bY))) ∧ Ar w4 b1 (num bX) ∧ Ar w4 b2 (num bY)) := by
  have ordO1 := O1.out
  have ordO2 := O2.out
  rw [hw4]
  exact ⟨(Z3.out.1.trans hcc).setRow (by omega) _, (Z3.out.2.1.chg hcc).row _, (Z3.out.2.2.1.chg hcc).rowOther (by omega) _, (Z3.out.2.2.2.chg hcc).rowOther (by omega) _⟩
 rw [← hw4]
 clear hw4 hcc Z3 u
 go_wp2_with fail
 exact bp_4 Tryd.results19 rfl rfl Z4.out.2.1 ⟨rfl, Z4.out.1⟩
end Go.Proofs.YtjfidbifjagnpaaDoor
namespace Go.Proofs.YtjfidbifjagnpaaDoor
open Go.RowKit
set_option linter.unusedVariables false
set_option maxRecDepth 100000
theorem n64_size (f : Nat → Int) : (nms 64 f).size = 256 := nms_size _ _
theorem szPA (f : Nat → Int) : (Tryd.prog.info? 67).map (·.size) = some (nms 64 f).size := by rw [n64_size]; exact zeroPA.2
theorem lenPA (f g : Nat → Int) : (nms 64 f).size = (nms 64 g).size := by rw [n64_size, n64_size]
theorem infoPA (f : Nat → Int) : (Tryd.prog.info? 67).map (·.size) = some (nms 64 f).toList.length := by rw [Array.length_toList]; exact szPA _
theorem setRowPA {w : World} {b : Nat} {f : Nat → Int} (h : Ar w b (nms 64 f)) (g : Nat → Int) : w.setCells b 0 (nms 64 g).toList = w.setRow b (nms 64 g) := by
 have h1 := run_storeVar_mid (P := Tryd.prog) w b 0 67 (nms 64 g) (by rw [n64_size]; exact nms_there h 0 64 (by omega)) (szPA g) (nms_cells 64 g)
 obtain ⟨t, h⟩ := h
 have h2 := run_storeVar_row (P := Tryd.prog) w b t 67 _ (nms 64 g) h (szPA g) (lenPA _ g) (nms_cells 64 g)
 rw [h1] at h2
 injection h2
theorem Ar.loadPA {w : World} {b : Nat} {f : Nat → Int} (h : Ar w b (nms 64 f)) : (Go.loadVar 67 ⟨b, 0, none⟩).run Tryd.prog w = .ok (.agg (nms 64 f)) w := by
 obtain ⟨g, h⟩ := h
 exact run_loadVar_row w b g 67 _ (0, 0) _ h Tryd.underlying67 rfl (szPA _)
theorem bp_A {fn : Func} {R : Ending → World → Prop} {a : Act} {w : World} {p b : Nat} {f : Nat → Int} (h : fn.results = #[.cell p 67]) (hd : a.defers = []) (hp : a.tmps.getD p undef = .pointer (some ⟨b, 0, none⟩)) (ha : Ar w b (nms 64 f)) (hR : R (.returned (.agg (nms 64 f))) w) : bodyPost Tryd.prog fn R .ret a w := by
 refine bodyPost_ret (v := .agg (nms 64 f)) ?_ hd hR
 rw [Array.getD_eq_getD_getElem?] at hp
 simp only [results, h]
 simp [hp, asAddr, ha.loadPA]
theorem builtPA (x y z t : Int) : Tryd.prog.built 67 [(0, .agg (q4 x y z t))] = some (nms 64 (ovn 0 4 (sel4 x y z t) (fun _ => 0))) := by
 have h : Tryd.prog.built 67 [(0, .agg (q4 x y z t))] = some ((q4 x y z t) ++ Array.replicate 240 (.int .u64 0)) := by kernel_rfl
 rw [h]
 refine congrArg some (Array.ext_getElem? fun i => ?_)
 by_cases hi : i < 256
 ·rw [nms_get 64 _ hi]
  by_cases h4 : i < 16
  ·rw [Array.getElem?_append_left (by rw [q4_size]; exact h4)]
   unfold q4
   rw [nms_get 4 _ h4]
   unfold ovn
   rw [if_pos (by omega), Nat.sub_zero]
  ·rw [Array.getElem?_append_right (by rw [q4_size]; omega), q4_size, Array.getElem?_replicate, if_pos (by omega)]
   unfold ovn
   rw [if_neg (by omega), dg00]
 ·rw [Array.getElem?_eq_none (by simp [q4_size]; omega), Array.getElem?_eq_none (by rw [n64_size]; omega)]
theorem opG_PA {o : Oper} {a : Act} {w : World} {x y z t : Int} {G : Value → World → Prop} {Q : Exit → Act → World → Prop} (X : Operand) (ho : o.op = .build 67 #[(0, X)]) (hx : a.eval X = .agg (q4 x y z t)) (hG : G (.agg (nms 64 (ovn 0 4 (sel4 x y z t) (fun _ => 0)))) w) : o.wp Tryd.prog a w (fun a' u => ∃ v, a' = a.put o.dst v ∧ G v u ∧ Chg w u) Q := by
 have e : (#[(0, X)].map fun (p : Nat × Operand) => (p.1, a.eval p.2)).toList = [(0, .agg (q4 x y z t))] := by simp [hx]
 have h : Tryd.prog.built 67 (#[(0, X)].map fun (p : Nat × Operand) => (p.1, a.eval p.2)).toList = some (nms 64 (ovn 0 4 (sel4 x y z t) (fun _ => 0))) := by rw [e]; exact builtPA x y z t
 refine wp_build 67 _ ho ?_ ?_
 ·show (Tryd.prog.built 67 (#[(0, X)].map fun (p : Nat × Operand) => (p.1, a.eval p.2)).toList).isSome = true
  rw [h]
  rfl
 ·show ∃ v, a.put o.dst (.agg ((Tryd.prog.built 67 (#[(0, X)].map fun (p : Nat × Operand) => (p.1, a.eval p.2)).toList).getD #[])) = a.put o.dst v ∧ G v w ∧ Chg w w
  rw [h]
  exact ⟨_, rfl, hG, Chg.refl _⟩
theorem q4_eta (f : Nat → Int) (j : Nat) : nms 4 (fun c => f (4 * j + c)) = q4 (f (4 * j)) (f (4 * j + 1)) (f (4 * j + 2)) (f (4 * j + 3)) := nms_congr fun c hc => by
 have : c = 0 ∨ c = 1 ∨ c = 2 ∨ c = 3 := by omega
 rcases this with rfl | rfl | rfl | rfl <;> rfl
theorem rangePA {w : World} {b : Nat} {f : Nat → Int} (h : Ar w b (nms 64 f)) (j : Nat) (hj : j < 16) : w.rangeAt b (16 * j) (q4 (f (4 * j)) (f (4 * j + 1)) (f (4 * j + 2)) (f (4 * j + 3))).toList := by
 have := nms_range h (4 * j) 4 (by omega)
 rw [q4_eta, ← Nat.mul_assoc] at this
 exact this
theorem therePA {w : World} {b : Nat} {f : Nat → Int} (h : Ar w b (nms 64 f)) (j : Nat) (hj : j < 16) : w.there b (16 * j) 16 := by
 have := nms_there h (4 * j) 4 (by omega)
 rw [← Nat.mul_assoc] at this
 exact this
theorem Ar.putPA {w : World} {b : Nat} {f : Nat → Int} (h : Ar w b (nms 64 f)) (x y z t : Int) (j : Nat) (hj : j < 16) : Ar (w.setCells b (16 * j) (q4 x y z t).toList) b (nms 64 (ovn (4 * j) 4 (sel4 x y z t) f)) := by
 have := h.putN (sel4 x y z t) (4 * j) 4 (by omega)
 rw [← Nat.mul_assoc] at this
 exact this
end Go.Proofs.YtjfidbifjagnpaaDoor
