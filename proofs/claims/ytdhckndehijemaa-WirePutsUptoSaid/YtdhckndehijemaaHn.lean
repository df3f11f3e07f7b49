/-
  A name that is written.
-/
import Derived.Test.YtdhckndehijemaaWg
namespace Go.Proofs.Ytdhckndehijemaa
open Go.RowKit
set_option linter.unusedVariables false
set_option maxRecDepth 100000

theorem WM.begin (w : World) : WM (w.alloc (.cells #[.slice none 0 0, .bool false] 242)) w.heap.size (.slice none 0 0) false [] :=
  ⟨heap_alloc_last w _, .inl ⟨rfl, rfl⟩, fun k e => by (cases e), Byt.nil⟩
theorem Rel.begin {t : Ty} {w w1 : World} {us : List Value} {x : t.Dat} (h : Rel t (Bel w.heap.size) w us x) (c : Chg Non w w1) : Rel t (Fa w.heap.size (.slice none 0 0) w1) w1 us x :=
  h.keep (fun k q => ⟨by have q' : k < w.heap.size := q; omega, fun e => by (cases e), Nat.lt_of_lt_of_le q c.size⟩) (fun k q hk => c.block k hk (fun s => s))

/-- What put answers: the bytes, if there are any; in memory of its own. -/
structure PO {α : Type} (p : Pw α) (w w' : World) (v : Value) (a : α) : Prop where
  chg : Chg Non w w'
  own : OwnV w' v ((p a).getD [])
  byt : Byt ((p a).getD [])
  new : ∀ k, v.ownBlock = some k → w.heap.size ≤ k
theorem PO.shape {α : Type} {p : Pw α} {w w' : World} {v : Value} {a : α} (h : PO p w w' v a) : ∃ ao n c, v = .slice ao n c := by
  obtain ⟨ao, n, c, e, -⟩ := h.own.rd.shape
  exact ⟨ao, n, c, e⟩
theorem PO.rel {α : Type} {p : Pw α} {w w' : World} {v : Value} {a : α} (h : PO p w w' v a) : Rel .byt (Btw w.heap.size w'.heap.size) w' [v] ((p a).getD []) :=
  ⟨v, rfl, h.own.rd, h.byt, fun k e _ => ⟨h.new k e, h.own.lt k e⟩⟩
theorem PO.bt {α : Type} {p : Pw α} {w w' : World} {v : Value} {a : α} (h : PO p w w' v a) : Bt (Bel w'.heap.size) w' v ((p a).getD []) := ⟨h.own.rd, h.byt, fun k e => h.own.lt k e⟩
theorem wq_chg {α : Type} {p : Pw α} {G : Nat} {w w1 w2 : World} {v : Value} {no : Bool} {xs ys : List Int} {a : α} (h : WQ p G w.heap.size (.slice none 0 0) w1 w2 v false no xs ys a) (c : Chg Non w w1) : Chg Non w w2 :=
  c.trans h.wp.chg (fun i hi q => by rcases q with q | q; omega; cases q)
theorem po_none {α : Type} {p : Pw α} {G : Nat} {w w1 w2 : World} {v : Value} {ys : List Int} {a : α} (h : WQ p G w.heap.size (.slice none 0 0) w1 w2 v false true [] ys a) (c : Chg Non w w1) : PO p w w2 (.slice none 0 0) a := by
  rcases h.out rfl with ⟨h1, -⟩ | ⟨h1, -⟩
  · refine ⟨wq_chg h c, ?_, ?_, fun k e => by cases e⟩
    · rw [h1]; exact .inl ⟨rfl, rfl⟩
    · rw [h1]; exact Byt.nil
  · cases h1
theorem po_some {α : Type} {p : Pw α} {G : Nat} {w w1 w2 : World} {v : Value} {ys : List Int} {a : α} (h : WQ p G w.heap.size (.slice none 0 0) w1 w2 v false false [] ys a) (c : Chg Non w w1) : PO p w w2 v a := by
  rcases h.out rfl with ⟨-, h1⟩ | ⟨-, h1⟩
  · cases h1
  · have ho := h.wp.wm
    refine ⟨wq_chg h c, ?_, ?_, fun k e => Nat.le_of_lt (ho.new k e)⟩
    · rw [h1]; exact ho.own
    · rw [h1]; exact ho.byt

def wName : Pw (List Int) := fun x => wList 2 1 1 wHost [x]

theorem one_str (w : World) (S : ByteArray) (x : List Int) (h : S = strOfNums x) (hb : Byt x) : Rel (.lst .str) (Btw w.heap.size (w.heap.size + 1)) (w.alloc (.cells #[.string S] 9)) [.slice (some ⟨w.heap.size, 0, none⟩) 1 1] [x] := by
  refine ⟨_, 1, 1, rfl, rfl, Nat.le_refl _, by decide, fun e => by (cases e), fun b e j a ha => ?_⟩
  injection e with e
  subst e
  refine ⟨⟨Nat.le_refl _, Nat.lt_succ_self _⟩, ?_⟩
  match j, ha with
  | 0, ha =>
    have ha' : x = a := by have : ([x] : List (List Int))[0]? = some a := ha; exact Option.some.inj this
    subst ha'
    refine ⟨[.string S], ⟨by rw [h], hb⟩, fun i u hu => ?_⟩
    match i, hu with
    | 0, hu =>
      injection hu with hu
      subst hu
      rw [Addr.add_lit, cell_of_row _ w.heap.size _ _ 9 (0, 0) (heap_alloc_last w _)]
      rfl
  | j + 1, ha =>
    have : ([x] : List (List Int))[j + 1]? = some a := ha
    cases this

set_option maxHeartbeats 1600000 in
theorem wname_any (r : Nat) (S : ByteArray) (x : List Int) (v : Value) (no : Bool) (xs : List Int) (w : World) (h : WM w r v no xs) (hS : Rel .str (Fa r v w) w [.string S] x) (hl : xs.length ≤ 990000000000) (hx : x.length ≤ 140737488355328) :
    Calls Try.prog 162 #[.pointer (some ⟨r, 0, none⟩), .string S] w fun e w' => ∃ v' no' ys, e = .returned (.tuple #[]) ∧ WQ wName 50331700 r v w w' v' no no' xs ys x := by
  obtain ⟨hS1, hb⟩ := hS
  injection hS1 with hS1
  injection hS1 with hS1
  have HS : Hid (S = strOfNums x ∧ Byt x ∧ xs.length ≤ 990000000000 ∧ x.length ≤ 140737488355328) := ⟨hS1, hb, hl, hx⟩
  have HM : Hid (WM w r v no xs) := h
  clear h hS1 hb hl hx
  go_enter Try.func162, Try.ntmps162
  go_wp2_with (go_at_call 187; refine (exactly_any 1 2 w).mono ?_)
  first | (rintro e w2 rfl hc2) | (rintro e w2 ⟨rfl, hc2⟩)
  have C2 : Hid (Chg Non w w2) := hc2
  obtain ⟨w3, hw3⟩ : ∃ w3, w3 = w2.alloc (.cells #[.string S] 9) := ⟨_, rfl⟩
  have hm2 := HM.out.non hc2
  have c3 : Chg Non w2 w3 := by rw [hw3]; exact (Chg.refl _ _).alloc _
  have hr3 : Rel (.lst .str) (Fa r v w3) w3 [.slice (some ⟨w2.heap.size, 0, none⟩) 1 1] [x] := by
    have := one_str w2 S x HS.out.1 HS.out.2.1
    rw [← hw3] at this
    exact (this.btw (Nat.le_refl _) (by rw [hw3]; simp)).newFa hm2
  have hp := putH_any r 2 1 1 2 1 1 rfl rfl rfl (by decide) (by decide) _ [x] v no xs w3 (hm2.non c3) hr3 HS.out.2.2.1 (fun a ha => by have ha' : a ∈ ([x] : List (List Int)) := ha; have := List.mem_singleton.1 ha'; rw [this]; exact HS.out.2.2.2)
  have C3 : Hid (Chg Non w2 w3) := c3
  have HW3 : Hid (w3 = w2.alloc (.cells #[.string S] 9)) := hw3
  clear hc2 hw3 hm2 c3 hr3
  go_wp2_with fail
  rw [← HW3.out]
  refine (calls_wo hp).mono ?_
  rintro e w4 ⟨rfl, v4, n4, zs, h4⟩
  have H4 : Hid (WQ (wList 2 1 1 wHost) (16777300 + 16777302) r v w3 w4 v4 no n4 xs zs [x]) := h4
  clear h4 hp
  go_wp2
  go_end0
  have h5 := ((H4.out.ahead C3.out).ahead C2.out)
  exact ⟨v4, n4, zs, rfl, ⟨h5.wp, h5.bad, h5.out, Nat.le_trans h5.len (by decide)⟩⟩


set_option maxHeartbeats 1600000 in
theorem putS_any (S : ByteArray) (x : (Ty.str).Dat) (w : World) (h : Rel (.str) (Bel w.heap.size) w [.string S] x) (hx : List.length (α := Int) x ≤ 140737488355328) : Calls Try.prog 161 #[.string S, .func (.func 162) #[] #[]] w fun e w' => ∃ v, e = .returned v ∧ PO (wName) w w' v x := by
  obtain ⟨w1, hw1⟩ : ∃ w1, w1 = w.alloc (.cells #[.slice none 0 0, .bool false] 242) := ⟨_, rfl⟩
  have hm : WM w1 w.heap.size (.slice none 0 0) false [] := by rw [hw1]; exact WM.begin w
  have c1 : Chg Non w w1 := by rw [hw1]; exact (Chg.refl _ _).alloc _
  have hp := wname_any w.heap.size S x (.slice none 0 0) false [] w1 hm (h.begin c1) (by simp) hx
  have HW1 : Hid (w1 = w.alloc (.cells #[.slice none 0 0, .bool false] 242)) := hw1
  have C1 : Hid (Chg Non w w1) := c1
  clear h hw1 hm c1
  go_enter Try.func161, Try.ntmps161
  go_wp2_with fail
  rw [← HW1.out]
  refine (calls_wo hp).mono ?_
  rintro e w2 ⟨rfl, v2, no2, ys, hq⟩
  obtain ⟨ao, n, c, rfl, -, -, -⟩ := hq.wp.wm.own.rd.shape
  obtain ⟨z0, z1, f0, f1⟩ := hq.wp.wm.facts
  have HQ : Hid (WQ (wName) 50331700 w.heap.size (.slice none 0 0) w1 w2 (.slice ao n c) false no2 [] ys x) := hq
  clear hq hp
  cases no2 with
  | true =>
    go_wp2
    go_ret
    exact ⟨_, rfl, po_none HQ.out C1.out⟩
  | false =>
    go_wp2
    go_ret
    exact ⟨_, rfl, po_some HQ.out C1.out⟩

set_option maxHeartbeats 800000 in
theorem putName_any (S : ByteArray) (x : (Ty.str).Dat) (w : World) (h : Rel (.str) (Bel w.heap.size) w [.string S] x) (hx : List.length (α := Int) x ≤ 140737488355328) : Calls Try.prog 75 #[.string S] w fun e w' => ∃ v, e = .returned v ∧ PO (wName) w w' v x := by
  have hp := putS_any S x w h hx
  clear h
  go_enter Try.func75, Try.ntmps75
  go_wp2_with (go_at_call 161; refine hp.mono ?_)
  rintro e w2 ⟨v, rfl, hq⟩
  obtain ⟨ao, n, c, rfl⟩ := hq.shape
  have HQ : Hid (PO (wName) w w2 (.slice ao n c) x) := hq
  clear hq hp
  go_wp2
  go_ret
  exact ⟨_, rfl, HQ.out⟩
end Go.Proofs.Ytdhckndehijemaa
