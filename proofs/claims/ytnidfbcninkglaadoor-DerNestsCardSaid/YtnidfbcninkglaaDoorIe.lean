/-
  Items: the program's.
-/
import Derived.Test.YtnidfbcninkglaaDoorIf
namespace Go.Proofs.YtnidfbcninkglaaDoor
open Go.RowKit Go.Shelf
set_option linter.unusedVariables false
set_option maxRecDepth 100000
attribute [local go_sem] Oper.semAt_some

theorem info25 : (Tryd.prog.info? 25).map (fun i => (i.zero, i.size, i.bytes)) = some (some (.agg #[.int .u8 0, .slice none 0 0, .int .i64 0, .int .i64 0]), 4, 48) := by kernel_rfl

/-- All items; or none, with where and why. -/
structure ItP (w w' : World) (xs : List Int) (v : Value) (p e : Int) : Prop where
  chg : Chg Non w w'
  res : (∃ pre k, Its xs 0 (pre.map (·.1)) k ∧ xs.length ≤ k ∧ p = 0 ∧ e = 0 ∧ w'.ownsRow w.heap.size 25 4 v pre.length (rowsI pre) ∧ ∀ q ∈ pre, OwnV w' q.2 q.1.ys ∧ ∀ i, q.2.ownBlock = some i → w.heap.size ≤ i) ∨
    (∃ (pl : List PI) (k : Nat), Its xs 0 pl k ∧ k < xs.length ∧ nxE xs k ≠ 0 ∧ p = k ∧ e = nxE xs k ∧ v = .slice none 0 0)

/-- What is left where an item is wrong. -/
structure IX (w : World) (xs : List Int) (k : Nat) (W : World) : Prop where
  chg : Chg Non w W
  b2 : W.heap[w.heap.size]? = some (.cells #[.slice none 0 0] 30)
  b3 : W.heap[w.heap.size + 1]? = some (.cells #[.int .i64 k] 3)
  b4 : W.heap[w.heap.size + 2]? = some (.cells #[.int .i64 (nxE xs k)] 26)
  ok : k < xs.length ∧ nxE xs k ≠ 0 ∧ ∃ pl, Its xs 0 pl k

theorem IX.keep {w W W' : World} {xs : List Int} {k l : Nat} (h : IX w xs k W) (hl : w.heap.size ≤ l) (hc : ∀ cur t z, W.heap[l]? ≠ some (.cells cur t z)) (c : Chg (One l) W W') : IX w xs k W' := by
  have hb : ∀ {b : Nat} {cur t z}, W.heap[b]? = some (.cells cur t z) → W'.heap[b]? = some (.cells cur t z) := fun {b cur t z} e => by
    rw [c.block b (lt_some e) (fun q => by have q' : b = l := q; subst q'; exact hc _ _ _ e)]
    exact e
  exact ⟨h.chg.trans c (fun i hi q => by have q' : i = l := q; omega), hb h.b2, hb h.b3, hb h.b4, h.ok⟩

theorem no_cells {W : World} {r : Nat} {o : Obj} (h : W.heap[r]? = some o) (ho : o.isCells = false) : ∀ cur t z, W.heap[r]? ≠ some (.cells cur t z) := fun cur t z e => by
  rw [h] at e
  injection e with e
  subst e
  cases ho

theorem row_keep {W W' : World} {base size k : Nat} {t : TypeId} {v : Value} {xs : List Value} (h : W.ownsRow base t size v k xs) (hk : ∀ {b : Nat} {cur t z}, W.heap[b]? = some (.cells cur t z) → W'.heap[b]? = some (.cells cur t z)) : W'.ownsRow base t size v k xs := by
  refine ⟨h.1, ?_⟩
  rcases h.2 with q | ⟨g, cap, cur, e, h1, h2, h3⟩
  · exact .inl q
  · exact .inr ⟨g, cap, cur, e, h1, hk h2, h3⟩
theorem own_keep {W W' : World} {v : Value} {ys : List Int} (h : OwnV W v ys) (hk : ∀ {b : Nat} {cur t z}, W.heap[b]? = some (.cells cur t z) → W'.heap[b]? = some (.cells cur t z)) : OwnV W' v ys :=
  h.keep (fun b e => by
    obtain ⟨cur, q⟩ := h.kind e
    rw [hk q, q])
theorem chg_cells {W W' : World} (c : Chg Non W W') : ∀ {b : Nat} {cur t z}, W.heap[b]? = some (.cells cur t z) → W'.heap[b]? = some (.cells cur t z) := fun {b cur t z} e => (c.block b (lt_some e) (fun x => x)).trans e

theorem er_end {w w2 w8 : World} {v : Value} {xs : List Int} {pre : List (PI × Value)} {k : Nat} {E : Int} (h : II w v xs pre k w2) (c : Chg Non w2 w8) (hE : E = nxE xs k ∧ nxE xs k ≠ 0 ∧ k < xs.length) :
    IX w xs k (((w8.setCell ⟨w.heap.size, 0, none⟩ (.slice none 0 0)).setCell ⟨w.heap.size + 1, 0, none⟩ (.int .i64 k)).setCell ⟨w.heap.size + 2, 0, none⟩ (.int .i64 E)) ∧
      ∀ b, w.heap.size + 3 ≤ b → b < w2.heap.size → (((w8.setCell ⟨w.heap.size, 0, none⟩ (.slice none 0 0)).setCell ⟨w.heap.size + 1, 0, none⟩ (.int .i64 k)).setCell ⟨w.heap.size + 2, 0, none⟩ (.int .i64 E)).heap[b]? = w2.heap[b]? := by
  have h8 := h.non c
  have p2 : Boxed w8 w.heap.size 30 (.slice none 0 0) := h8.b2
  have p3 : Boxed w8 (w.heap.size + 1) 3 (.int .i64 0) := h8.b3
  have p4 : Boxed w8 (w.heap.size + 2) 26 (.int .i64 0) := h8.b4
  refine ⟨⟨?_, ?_, ?_, ?_, hE.2.2, hE.2.1, _, h.its⟩, fun b b1 b2 => ?_⟩
  · exact ((h8.chg.setCell (p := ⟨w.heap.size, 0, none⟩) (fun q => absurd q (Nat.lt_irrefl _)) _).setCell (p := ⟨w.heap.size + 1, 0, none⟩) (fun q => absurd q (by simp)) _).setCell (p := ⟨w.heap.size + 2, 0, none⟩) (fun q => absurd q (by simp)) _
  · exact ((p2.set _).other (by omega) _).other (by omega) _
  · exact ((p3.other (by omega) _).set _).other (by omega) _
  · rw [← hE.1]
    exact ((p4.other (by omega) _).other (by omega) _).set _
  · rw [Below.heap_setCell _ _ _ b (by dsimp only; omega), Below.heap_setCell _ _ _ b (by dsimp only; omega), Below.heap_setCell _ _ _ b (by dsimp only; omega)]
    exact c.block b b2 (fun x => x)

theorem done_end {w W : World} {v va : Value} {xs : List Int} {pre : List (PI × Value)} {k D : Nat} (h : II w v xs pre k W) (hrow : W.ownsRow w.heap.size 25 4 va pre.length (rowsI pre)) (hD : W.heap[D]? = some (.deferred (some []))) (hDs : D = w.heap.size + 5) (hk : xs.length ≤ k) :
    (((W.setCell ⟨w.heap.size, 0, none⟩ va).setCell ⟨w.heap.size + 1, 0, none⟩ (.int .i64 0)).setCell ⟨w.heap.size + 2, 0, none⟩ (.int .i64 0)).heap[D]? = some (.deferred (some [])) ∧
      ∀ o', (((((W.setCell ⟨w.heap.size, 0, none⟩ va).setCell ⟨w.heap.size + 1, 0, none⟩ (.int .i64 0)).setCell ⟨w.heap.size + 2, 0, none⟩ (.int .i64 0)).putObj D o').cell? ⟨w.heap.size, 0, none⟩ = some va ∧
        ((((W.setCell ⟨w.heap.size, 0, none⟩ va).setCell ⟨w.heap.size + 1, 0, none⟩ (.int .i64 0)).setCell ⟨w.heap.size + 2, 0, none⟩ (.int .i64 0)).putObj D o').cell? ⟨w.heap.size + 1, 0, none⟩ = some (.int .i64 0) ∧
        ((((W.setCell ⟨w.heap.size, 0, none⟩ va).setCell ⟨w.heap.size + 1, 0, none⟩ (.int .i64 0)).setCell ⟨w.heap.size + 2, 0, none⟩ (.int .i64 0)).putObj D o').cell? ⟨w.heap.size + 2, 0, none⟩ = some (.int .i64 0)) ∧
        ItP w ((((W.setCell ⟨w.heap.size, 0, none⟩ va).setCell ⟨w.heap.size + 1, 0, none⟩ (.int .i64 0)).setCell ⟨w.heap.size + 2, 0, none⟩ (.int .i64 0)).putObj D o') xs va 0 0 := by
  have p2 : Boxed W w.heap.size 30 (.slice none 0 0) := h.b2
  have p3 : Boxed W (w.heap.size + 1) 3 (.int .i64 0) := h.b3
  have p4 : Boxed W (w.heap.size + 2) 26 (.int .i64 0) := h.b4
  have r2 := ((p2.set va).other (B' := w.heap.size + 1) (by omega) (.int .i64 0)).other (B' := w.heap.size + 2) (by omega) (.int .i64 0)
  have r3 := ((p3.other (B' := w.heap.size) (by omega) va).set (.int .i64 0)).other (B' := w.heap.size + 2) (by omega) (.int .i64 0)
  have r4 := ((p4.other (B' := w.heap.size) (by omega) va).other (B' := w.heap.size + 1) (by omega) (.int .i64 0)).set (.int .i64 0)
  have hb : ∀ b, b ≠ w.heap.size → b ≠ w.heap.size + 1 → b ≠ w.heap.size + 2 → (((W.setCell ⟨w.heap.size, 0, none⟩ va).setCell ⟨w.heap.size + 1, 0, none⟩ (.int .i64 0)).setCell ⟨w.heap.size + 2, 0, none⟩ (.int .i64 0)).heap[b]? = W.heap[b]? := fun b b1 b2 b3 => by
    rw [Below.heap_setCell _ _ _ b (by dsimp only; omega), Below.heap_setCell _ _ _ b (by dsimp only; omega), Below.heap_setCell _ _ _ b (by dsimp only; omega)]
  have hc3 : Chg Non w (((W.setCell ⟨w.heap.size, 0, none⟩ va).setCell ⟨w.heap.size + 1, 0, none⟩ (.int .i64 0)).setCell ⟨w.heap.size + 2, 0, none⟩ (.int .i64 0)) := ((h.chg.setCell (p := ⟨w.heap.size, 0, none⟩) (fun q => absurd q (Nat.lt_irrefl _)) _).setCell (p := ⟨w.heap.size + 1, 0, none⟩) (fun q => absurd q (by simp)) _).setCell (p := ⟨w.heap.size + 2, 0, none⟩) (fun q => absurd q (by simp)) _
  have hd3 := (hb D (by omega) (by omega) (by omega)).trans hD
  refine ⟨hd3, fun o' => ?_⟩
  have hz : ∀ b, b ≠ D → ((((W.setCell ⟨w.heap.size, 0, none⟩ va).setCell ⟨w.heap.size + 1, 0, none⟩ (.int .i64 0)).setCell ⟨w.heap.size + 2, 0, none⟩ (.int .i64 0)).putObj D o').heap[b]? = (((W.setCell ⟨w.heap.size, 0, none⟩ va).setCell ⟨w.heap.size + 1, 0, none⟩ (.int .i64 0)).setCell ⟨w.heap.size + 2, 0, none⟩ (.int .i64 0)).heap[b]? := fun b hb => World.putObj_heap_other hb
  have keep : ∀ {b : Nat} {cur : Array Value} {t : TypeId}, W.heap[b]? = some (.cells cur t) → t ≠ 30 → t ≠ 3 → t ≠ 26 → ((((W.setCell ⟨w.heap.size, 0, none⟩ va).setCell ⟨w.heap.size + 1, 0, none⟩ (.int .i64 0)).setCell ⟨w.heap.size + 2, 0, none⟩ (.int .i64 0)).putObj D o').heap[b]? = some (.cells cur t) := fun {b cur t} e t1 t2 t3 => by
    have e0 : b ≠ D := fun q => by rw [q, hD] at e; injection e with e; cases e
    have e1 : b ≠ w.heap.size := fun q => by rw [q, h.b2] at e; injection e with e; injection e with _ e; exact t1 e.symm
    have e2 : b ≠ w.heap.size + 1 := fun q => by rw [q, h.b3] at e; injection e with e; injection e with _ e; exact t2 e.symm
    have e3 : b ≠ w.heap.size + 2 := fun q => by rw [q, h.b4] at e; injection e with e; injection e with _ e; exact t3 e.symm
    rw [hz b e0, hb b e1 e2 e3, e]
  refine ⟨⟨?_, ?_, ?_⟩, ⟨hc3.trans (S' := One D) (chg_put hd3) (fun i hi q => by have q' : i = D := q; omega), .inl ⟨pre, k, h.its, hk, rfl, rfl, ⟨hrow.1, ?_⟩, fun q hq => ⟨(h.bod q hq).1.keep (fun b e => ?_), (h.bod q hq).2⟩⟩⟩⟩
  · exact cell_of_row _ w.heap.size 0 _ 30 (0, 0) ((hz _ (by omega)).trans r2)
  · exact cell_of_row _ (w.heap.size + 1) 0 _ 3 (0, 0) ((hz _ (by omega)).trans r3)
  · exact cell_of_row _ (w.heap.size + 2) 0 _ 26 (0, 0) ((hz _ (by omega)).trans r4)
  · rcases hrow.2 with q | ⟨g, cap, cur, e, h1, h2, h3⟩
    · exact .inl q
    · exact .inr ⟨g, cap, cur, e, h1, keep h2 (by decide) (by decide) (by decide), h3⟩
  · obtain ⟨cur, q5⟩ := (h.bod q hq).1.kind e
    rw [keep q5 (by decide) (by decide) (by decide), q5]

set_option maxHeartbeats 16000000 in
theorem items_any (v : Value) (xs : List Int) (hb : Byt xs) (hl : xs.length ≤ 1000000000000) (w : World) (hg : ErrT w) (hv : Rd w v xs) :
    Calls Tryd.prog 13 #[v] w fun e w' => ∃ v' p E, e = .returned (.tuple #[v', .int .i64 p, .int .i64 E]) ∧ ItP w w' xs v' p E := by
  have hvs := hv
  obtain ⟨ao, N, c, rfl, -, -, -⟩ := hvs.shape
  have HG : Hid (ErrT w) := hg
  have HV : Hid (Rd w (.slice ao N c) xs) := hv
  have HB : Hid (Byt xs) := hb
  have HL : Hid (xs.length ≤ 1000000000000) := hl
  clear hvs hg hv hb hl
  apply (callsIn_wide (n := 9)).1
  refine callsIn_of_wp_marks Tryd.func13 rfl trivial ?_ rfl
  simp only [Tryd.ntmps13, List.size_toArray, List.length_cons, List.length_nil, Nat.reduceAdd, Nat.reduceSub, Array.replicate_succ, Array.replicate_zero, List.push_toArray, List.append_toArray, List.nil_append, List.cons_append]
  gi_wp2
  obtain ⟨w4, hw4⟩ : ∃ w4, w4 = (((w.alloc (.cells #[.slice none 0 0] 30)).alloc (.cells #[.int .i64 0] 3)).alloc (.cells #[.int .i64 0] 26)).alloc (.cells #[.slice none 0 0] 30) := ⟨_, rfl⟩
  rw [← hw4]
  have C4 : Hid (Chg Non w w4) := by rw [hw4]; exact ((((Chg.refl _ _).alloc _).alloc _).alloc _).alloc _
  have S4 : w4.heap.size = w.heap.size + 4 := by rw [hw4]; simp
  refine ⟨trivial, (callsIn_wide.2 (each_any _ xs w4 (HV.out.chg C4.out))).mono ?_⟩
  rintro e w5 ⟨rfl, hw5⟩
  have C5 : Hid (Chg Non w w5) := by rw [hw5]; exact C4.out.alloc _
  have S5 : w5.heap.size = w.heap.size + 5 := by rw [hw5]; simp [S4]
  have HI5 : Hid (II w (.slice ao N c) xs [] 0 w5) := by
    have q : ∀ b, b < w4.heap.size → w5.heap[b]? = w4.heap[b]? := fun b hb => by rw [hw5]; exact Below.heap_alloc _ _ _ hb
    have q4 : w5.heap[w.heap.size + 4]? = some (.cells #[.slice ao N c] 22) := by rw [hw5, ← S4]; exact heap_alloc_last w4 _
    have r2 : w4.heap[w.heap.size]? = some (.cells #[.slice none 0 0] 30) := by rw [hw4, Below.heap_alloc _ _ _ (by simp <;> omega), Below.heap_alloc _ _ _ (by simp <;> omega), Below.heap_alloc _ _ _ (by simp)]; exact heap_alloc_last w _
    have r3 : w4.heap[w.heap.size + 1]? = some (.cells #[.int .i64 0] 3) := by rw [hw4, Below.heap_alloc _ _ _ (by simp <;> omega), Below.heap_alloc _ _ _ (by simp)]; have := heap_alloc_last (w.alloc (.cells #[.slice none 0 0] 30)) (.cells #[.int .i64 0] 3); rwa [World.size_alloc] at this
    have r4 : w4.heap[w.heap.size + 2]? = some (.cells #[.int .i64 0] 26) := by rw [hw4, Below.heap_alloc _ _ _ (by simp)]; have := heap_alloc_last ((w.alloc (.cells #[.slice none 0 0] 30)).alloc (.cells #[.int .i64 0] 3)) (.cells #[.int .i64 0] 26); rwa [World.size_alloc, World.size_alloc] at this
    have r5 : w4.heap[w.heap.size + 3]? = some (.cells #[.slice none 0 0] 30) := by rw [hw4]; have := heap_alloc_last (((w.alloc (.cells #[.slice none 0 0] 30)).alloc (.cells #[.int .i64 0] 3)).alloc (.cells #[.int .i64 0] 26)) (.cells #[.slice none 0 0] 30); rwa [World.size_alloc, World.size_alloc, World.size_alloc] at this
    exact ⟨C5.out, (q _ (by omega)).trans r2, (q _ (by omega)).trans r3, (q _ (by omega)).trans r4, ⟨_, (q _ (by omega)).trans r5, rfl, .inl ⟨rfl, rfl⟩⟩, q4, rfl, fun p hp => by cases hp⟩
  rw [S4]
  clear hw4 hw5 C4 S4
  gi_wp2
  refine range_items (n := 7) w5 (w.heap.size + 4) (.slice ao N c) xs HB.out (by have := HL.out; omega) rfl (fun pre k W => II w (.slice ao N c) xs pre k W) (fun k W => IX w xs k W) (fun pre k W W' h hc => h.non hc)
    (fun pre k W r o o' h hr ho hn => h.keep (by omega) (no_cells ho hn) (chg_put ho)) (fun k W r o o' h hr ho hn => h.keep (by omega) (no_cells ho hn) (chg_put ho))
    (fun pre k W h => ⟨cell_of_row W (w.heap.size + 4) 0 _ 22 (0, 0) h.bx, HV.out.chg h.chg⟩) HI5.out ?ok ?er ?done ?stop
  case ok =>
    rintro pre k x v' u W hi hc ⟨rr, hrr⟩ hdd hx hov hn
    have hlt := lt_some hrr
    obtain ⟨bo, bn, bc, rfl, -, -, -⟩ := hov.rd.shape
    obtain ⟨xt, hxt⟩ : ∃ xt, xt = x.t := ⟨_, rfl⟩
    obtain ⟨xk, hxk⟩ : ∃ xk, xk = x.k := ⟨_, rfl⟩
    obtain ⟨xl, hxl⟩ : ∃ xl, xl = x.l := ⟨_, rfl⟩
    have HXT : Hid (xt = x.t ∧ xk = x.k ∧ xl = x.l) := ⟨hxt, hxk, hxl⟩
    rw [← hxt, ← hxk, ← hxl]
    clear hxt hxk hxl
    unfold itemV
    gi_wp2
    refine ⟨(Chg.refl _ _).alloc _, ?_⟩
    intro w2 hs2 hc2 hnc
    have hsz := hc.size
    have hk1 : ∀ {b : Nat} {cur t z}, (W.alloc (.cells #[.int .u8 xt, .slice bo bn bc, .int .i64 xk, .int .i64 xl] 25)).heap[b]? = some (.cells cur t z) → w2.heap[b]? = some (.cells cur t z) := fun {b cur t z} e => by
      rw [hc2.block b (lt_some e) (fun q => by have q' : b = w5.heap.size + 1 := q; subst q'; exact hnc _ _ _ _ e rfl)]
      exact e
    have hkW : ∀ {b : Nat} {cur t z}, W.heap[b]? = some (.cells cur t z) → w2.heap[b]? = some (.cells cur t z) := fun {b cur t z} e => hk1 (chg_cells ((Chg.refl _ _).alloc _) e)
    obtain ⟨va, hva0, hrow0⟩ := hi.all
    have hva := hkW (chg_cells hc hva0)
    have hrow := row_keep hrow0 (fun {b cur t z} e => hkW (chg_cells hc e))
    have hov2 := own_keep hov hkW
    have hi2 := ((hi.non hc).non ((Chg.refl _ W).alloc (.cells #[.int .u8 xt, .slice bo bn bc, .int .i64 xk, .int .i64 xl] 25))).keep (l := w5.heap.size + 1) (by omega) (fun cur t z e => hnc _ _ _ _ e rfl) hc2
    have hbx := hk1 (heap_alloc_last W (.cells #[.int .u8 xt, .slice bo bn bc, .int .i64 xk, .int .i64 xl] 25))
    have hs2' : w2.heap.size = W.heap.size + 1 := by rw [hs2]; simp
    have hlen := (hi.its.len HB.out (Nat.zero_le _))
    rw [List.length_map] at hlen
    obtain ⟨w6, hw6⟩ : ∃ w6, w6 = w2.alloc (.cells #[.int .i64 0, .int .i64 0] 66) := ⟨_, rfl⟩
    have c6 : Chg Non w2 w6 := by rw [hw6]; exact (Chg.refl _ _).alloc _
    have HI6 : Hid (II w (.slice ao N c) xs pre k w6) := hi2.non c6
    have HVA : Hid (w6.heap[w.heap.size + 3]? = some (.cells #[va] 30)) := chg_cells c6 hva
    have HRO : Hid (w6.ownsRow w.heap.size 25 4 va pre.length (rowsI pre)) := row_keep hrow (chg_cells c6)
    have HOV : Hid (OwnV w6 (.slice bo bn bc) x.ys) := own_keep hov2 (chg_cells c6)
    have HC6 : Hid (Chg Non w2 w6) := c6
    obtain ⟨y0, y1, y2, y3, -⟩ := cells4 (chg_cells c6 hbx)
    have hca : w6.cell? ⟨w.heap.size + 1 + 1 + 1, 0, none⟩ = some va := cell_of_row w6 (w.heap.size + 3) 0 _ 30 (0, 0) HVA.out
    have HX : Hid (nxI xs k = some x) := hx
    have HNW : Hid (∀ i, (Value.slice bo bn bc).ownBlock = some i → w.heap.size ≤ i) := fun i e => Nat.le_trans hi.chg.size (hn i e)
    have HBLK : Hid (∀ b, va.ownBlock = some b → b < u.heap.size ∧ ∃ cur, u.heap[b]? = some (.cells cur 25 (0, 0))) := fun b e => (row_kind hrow0 e).2
    have H3 : Hid (w.heap.size + 3 < u.heap.size) := lt_some hva0
    have HLN : Hid (2 * pre.length ≤ 1000000000000 ∧ w.heap.size ≤ w6.heap.size) := ⟨by have := HL.out; omega, HI6.out.chg.size⟩
    have HSZ : Hid (w5.heap.size + 1 < u.heap.size ∧ u.heap.size ≤ W.heap.size ∧ w2.heap.size = W.heap.size + 1) := ⟨hlt, hsz, hs2'⟩
    have HW6 : Hid (w6 = w2.alloc (.cells #[.int .i64 0, .int .i64 0] 66)) := hw6
    have HNL : Hid (∀ b, va.ownBlock = some b → b ≠ w5.heap.size + 1 ∧ b ≠ w5.heap.size) := fun b e => by
      obtain ⟨-, cur, q⟩ := HBLK.out b e
      refine ⟨fun q1 => ?_, fun q1 => ?_⟩
      · rw [q1, hrr] at q; injection q with q; cases q
      · rw [q1, hdd] at q; injection q with q; cases q
    clear hw6 c6 hbx hva hrow hov2 hi2 hva0 hrow0 hs2 hc2 hnc hrr hdd hk1 hkW hx hn hi hc hov hlen hsz hlt hs2'
    gi_wp2
    refine ⟨trivial, (CallsIn.inRound _ (callsIn_wide.2 (as_nil _ _))).mono ?_⟩
    rintro e w7 ⟨rfl, hw7⟩
    rw [← HW6.out] at hw7
    subst hw7
    obtain ⟨i0, q1, q2, q3, q4⟩ := info_parts info25
    have hnew : ∀ j u, ([.int .u8 xt, .slice bo bn bc, .int .i64 xk, .int .i64 xl] : List Value)[j]? = some u → (w7.alloc (.cells #[.int .u8 xt, .slice bo bn bc, .int .i64 xk, .int .i64 xl] 25)).cell? ((⟨w7.heap.size, 0, none⟩ : Addr).add j) = some u := fun j u hj => by
      rw [Addr.add_lit, cell_of_row _ w7.heap.size (0 + j) _ 25 (0, 0) (heap_alloc_last w7 _)]
      simpa using hj
    have HNEW : Hid (∀ j u, ([.int .u8 xt, .slice bo bn bc, .int .i64 xk, .int .i64 xl] : List Value)[j]? = some u → (w7.alloc (.cells #[.int .u8 xt, .slice bo bn bc, .int .i64 xk, .int .i64 xl] 25)).cell? ((⟨w7.heap.size, 0, none⟩ : Addr).add j) = some u) := hnew
    have HONE : Hid (∀ u ∈ ([.int .u8 xt, .slice bo bn bc, .int .i64 xk, .int .i64 xl] : List Value), u.oneCell' = true) := by
      intro u hu
      simp at hu
      rcases hu with rfl | rfl | rfl | rfl <;> rfl
    have HRO' : Hid ((w7.alloc (.cells #[.int .u8 xt, .slice bo bn bc, .int .i64 xk, .int .i64 xl] 25)).ownsRow w.heap.size 25 4 va pre.length (rowsI pre)) := row_keep HRO.out (chg_cells ((Chg.refl _ _).alloc _))
    have HBB : Hid (pre.length + 1 ≤ maxLen ∧ (pre.length + 1) * 48 ≤ 140737488355328 ∧ w.heap.size ≤ (w7.alloc (.cells #[.int .u8 xt, .slice bo bn bc, .int .i64 xk, .int .i64 xl] 25)).heap.size) := ⟨by unfold maxLen; have := HLN.out; omega, by have := HLN.out; omega, by have := HLN.out; simp; omega⟩
    clear hnew
    gi_wp2_with (gi_at_builtin; refine wpListIn_append_own_at _ rfl _ _ 30 rfl w.heap.size 25 i0 _ 4 48 Tryd.underlying30 q1 q2 q3 q4 rfl (by decide) va pre.length (rowsI pre) rfl HRO'.out ⟨w7.heap.size, 0, none⟩ 1 1 [.int .u8 xt, .slice bo bn bc, .int .i64 xk, .int .i64 xl] rfl rfl HNEW.out HONE.out HBB.out.1 HBB.out.2.1 HBB.out.2.2 ?_)
    intro va' w8 hrow8 hgrow8 _ hblk8
    obtain ⟨g8, cap8, rfl⟩ := ownsRow_succ hrow8
    rw [HXT.out.1, HXT.out.2.1, HXT.out.2.2] at hrow8
    obtain ⟨m1, m2, m3⟩ := II.more HI6.out HVA.out HRO.out HX.out HOV.out HNW.out hrow8 hgrow8
    have hc8 : w8.cell? ⟨w.heap.size + 1 + 1 + 1, 0, none⟩ = some va := cell_of_row w8 (w.heap.size + 3) 0 _ 30 (0, 0) m3
    have hf8 : w8.frozen? ⟨w.heap.size + 1 + 1 + 1, 0, none⟩ = false := Boxed.frozen (show Boxed w8 (w.heap.size + 3) 30 va from m3)
    have M1 : Hid (II w (.slice ao N c) xs (pre ++ [(x, .slice bo bn bc)]) (k + xl) (w8.setCell ⟨w.heap.size + 3, 0, none⟩ (.slice (some ⟨g8, 0, none⟩) (pre.length + 1) cap8))) := by rw [HXT.out.2.2]; exact m1
    have M2 : Hid (Chg (fun b => va.ownBlock = some b ∨ b = w.heap.size + 3) w7 (w8.setCell ⟨w.heap.size + 3, 0, none⟩ (.slice (some ⟨g8, 0, none⟩) (pre.length + 1) cap8))) := m2
    clear hrow8 hgrow8 hblk8 m1 m2 m3 HNEW HONE HRO' HBB q1 q2 q3 q4
    gi_wp2
    have z : ∀ b, b < w2.heap.size → b ≠ w.heap.size + 3 → ¬ va.ownBlock = some b → (w8.setCell ⟨w.heap.size + 3, 0, none⟩ (.slice (some ⟨g8, 0, none⟩) (pre.length + 1) cap8)).heap[b]? = w2.heap[b]? := fun b b1 b2 b3 => by
      rw [M2.out.block b (Nat.lt_of_lt_of_le b1 HC6.out.size) (fun q => by rcases q with q | q; exact b3 q; exact b2 q)]
      exact HC6.out.block b b1 (fun x => x)
    have y1 := HSZ.out
    have y2 := H3.out
    refine ⟨M1.out, z _ (by omega) (by omega) (fun q => (HNL.out _ q).1 rfl), z _ (by omega) (by omega) (fun q => (HNL.out _ q).2 rfl), fun b b1 b2 => z b b2 (by omega) (fun q => ?_)⟩
    have := (HBLK.out b q).1
    omega
  case er =>
    rintro pre k W hi ⟨rr, hrr⟩ hdd hk he
    obtain ⟨E, hE⟩ : ∃ E, E = nxE xs k := ⟨_, rfl⟩
    have HE : Hid (E = nxE xs k ∧ nxE xs k ≠ 0 ∧ k < xs.length) := ⟨hE, he, hk⟩
    rw [← hE]
    unfold itemV faultV
    clear hE he hk
    gi_wp2
    refine ⟨(Chg.refl _ _).alloc _, ?_⟩
    intro w2 hs2 hc2 hnc
    have hi2 := (hi.non ((Chg.refl _ W).alloc (.cells #[.int .u8 0, .slice none 0 0, .int .i64 0, .int .i64 0] 25))).keep (l := w5.heap.size + 1) (by omega) (fun cur t z e => hnc _ _ _ _ e rfl) hc2
    have hs2' : w2.heap.size = W.heap.size + 1 := by rw [hs2]; simp
    have HI2 : Hid (II w (.slice ao N c) xs pre k w2) := hi2
    have HSZ : Hid (w5.heap.size + 1 < w2.heap.size ∧ w.heap.size + 4 < w2.heap.size) := ⟨by have := lt_some hrr; omega, lt_some hi2.bx⟩
    obtain ⟨w6, hw6⟩ : ∃ w6, w6 = w2.alloc (.cells #[.int .i64 0, .int .i64 0] 66) := ⟨_, rfl⟩
    have HAS : Hid (Calls Tryd.prog 38 #[.iface 66 (.agg #[.int .i64 E, .int .i64 k]), .iface 68 (.pointer (some ⟨w2.heap.size, 0, none⟩))] (w2.alloc (.cells #[.int .i64 0, .int .i64 0] 66)) fun ev w' => ev = .returned (.bool true) ∧ ∃ W, Chg Non (w2.alloc (.cells #[.int .i64 0, .int .i64 0] 66)) W ∧ w' = W.setRow w2.heap.size #[.int .i64 E, .int .i64 k]) :=
      as_fault E k w2.heap.size _ (HG.out.chg (hi2.chg.alloc _)) (heap_alloc_last w2 _)
    clear hi2 hs2' hs2 hc2 hnc hrr hdd hi hw6
    gi_wp2
    refine ⟨trivial, (CallsIn.inRound _ (callsIn_wide.2 HAS.out)).mono ?_⟩
    rintro e w7 ⟨rfl, W7, hc7, hw7⟩
    have h66 : W7.heap[w2.heap.size]? = some (.cells #[.int .i64 0, .int .i64 0] 66) := (hc7.block _ (by simp) (fun x => x)).trans (heap_alloc_last w2 _)
    have h7 : w7.heap[w2.heap.size]? = some (.cells #[.int .i64 E, .int .i64 k] 66) := by rw [hw7]; exact setRow_heap W7 _ _ _ 66 _ h66
    have c7 : Chg Non w2 w7 := by
      rw [hw7]
      exact ((Chg.refl Non w2).alloc _).two hc7 |>.trans (S' := One w2.heap.size) ⟨rfl, rfl, rfl, by simp [World.setRow], fun b _ hb => setRow_other W7 _ b _ (fun e => hb e)⟩ (fun i hi q => by have q' : i = w2.heap.size := q; omega)
    have HF : Hid (∀ u, Chg Non w7 u → u.cell? ⟨w2.heap.size, 1, none⟩ = some (.int .i64 k) ∧ (u.cell? ⟨w.heap.size, 0, none⟩ = some (.slice none 0 0) ∧ u.frozen? ⟨w.heap.size, 0, none⟩ = false) ∧ (u.cell? ⟨w.heap.size + 1, 0, none⟩ = some (.int .i64 0) ∧ u.frozen? ⟨w.heap.size + 1, 0, none⟩ = false) ∧ (u.cell? ⟨w.heap.size + 1 + 1, 0, none⟩ = some (.int .i64 0) ∧ u.frozen? ⟨w.heap.size + 1 + 1, 0, none⟩ = false)) := fun u hu => by
      have hu2 := HI2.out.non (c7.two hu)
      exact ⟨cell_of_row u w2.heap.size 1 _ 66 (0, 0) (chg_cells hu h7), ⟨Boxed.cell hu2.b2, Boxed.frozen hu2.b2⟩, ⟨Boxed.cell hu2.b3, Boxed.frozen hu2.b3⟩, ⟨Boxed.cell (B := w.heap.size + 2) hu2.b4, Boxed.frozen (B := w.heap.size + 2) hu2.b4⟩⟩
    have HNU : Hid (∀ u, Chg Non w7 u → Calls Tryd.prog 36 #[.iface 66 (.agg #[.int .i64 E, .int .i64 k])] u fun e w' => e = .returned (.int .i64 E) ∧ Chg Non u w') := fun u hu => number_fault E k u (HG.out.chg ((HI2.out.chg.two c7).two hu))
    have C7 : Hid (Chg Non w2 w7) := c7
    clear hw7 hc7 h66 h7 c7 HAS
    obtain ⟨f0, ⟨f1, f2⟩, ⟨f3, f4⟩, ⟨f5, f6⟩⟩ := HF.out w7 (Chg.refl _ _)
    have hmix : Tryd.prog.follows .mixedOrders = true := by kernel_rfl
    gi_wp2
    gi_region_with_o (refine ⟨trivial, ?_⟩; refine (CallsIn.inRound _ (callsIn_wide.2 (HNU.out _ (by first | exact (Chg.refl _ _).drew | exact Chg.refl _ _)))).mono ?_; rintro e w8 ⟨rfl, hc8⟩; obtain ⟨g0, ⟨g1, g2⟩, ⟨g3, g4⟩, ⟨g5, g6⟩⟩ := HF.out w8 (Chg.two (by first | exact (Chg.refl _ _).drew | exact Chg.refl _ _) hc8); have hz8 : Hid (Chg Non w2 w8) := C7.out.two (Chg.two (by first | exact (Chg.refl _ _).drew | exact Chg.refl _ _) hc8); clear hc8)
    all_goals gi_wp2
    all_goals
      have y1 := HSZ.out
      obtain ⟨z1, z2⟩ := er_end HI2.out hz8.out HE.out
      exact ⟨z1, z2 _ (by omega) (by omega), z2 _ (by omega) (by omega)⟩
  case done =>
    rintro W pre k hk hi hd
    obtain ⟨va, hva, hrow⟩ := hi.all
    have p5 : W.cell? ⟨w.heap.size + 1 + 1 + 1, 0, none⟩ = some va := Boxed.cell (B := w.heap.size + 3) hva
    have p2 := Boxed.cell hi.b2
    have p2' := Boxed.frozen hi.b2
    have p3 := Boxed.cell hi.b3
    have p3' := Boxed.frozen hi.b3
    have p4 : W.cell? ⟨w.heap.size + 1 + 1, 0, none⟩ = some (.int .i64 0) := Boxed.cell (B := w.heap.size + 2) hi.b4
    have p4' : W.frozen? ⟨w.heap.size + 1 + 1, 0, none⟩ = false := Boxed.frozen (B := w.heap.size + 2) hi.b4
    obtain ⟨sa, sn, sc, rfl⟩ : ∃ a n c, va = .slice a n c := by
      rcases hrow.2 with ⟨e, -⟩ | ⟨g, cap, cur, e, -⟩
      · exact ⟨_, _, _, e⟩
      · exact ⟨_, _, _, e⟩
    have HI : Hid (II w (.slice ao N c) xs pre k W) := hi
    have HRO : Hid (W.ownsRow w.heap.size 25 4 (.slice sa sn sc) pre.length (rowsI pre)) := hrow
    have HD : Hid (W.heap[w5.heap.size]? = some (.deferred (some []))) := hd
    clear hi hrow hd hva
    gi_wp2
    obtain ⟨hd3, hz⟩ := done_end HI.out HRO.out HD.out S5 hk
    obtain ⟨⟨x1, x2, x3⟩, hP⟩ := hz (.deferred none)
    refine ⟨by simp, .inl ⟨_, _, rfl, run_takeDeferred hd3, ?_⟩⟩
    refine ⟨.tuple #[.slice sa sn sc, .int .i64 0, .int .i64 0], ?_, _, _, _, rfl, hP⟩
    simp [results, Tryd.results13, go_sem, x1, x2, x3]
  case stop =>
    rintro W k hi hd
    gi_wp2
    have hz : ∀ {b : Nat} {cur : Array Value} {t : TypeId}, W.heap[b]? = some (.cells cur t) → (W.putObj w5.heap.size (.deferred none)).heap[b]? = some (.cells cur t) := fun {b cur t} e => by
      rw [World.putObj_heap_other (fun q => by rw [q, hd] at e; injection e with e; cases e), e]
    have x1 := cell_of_row _ w.heap.size 0 _ 30 (0, 0) (hz hi.b2)
    have x2 := cell_of_row _ (w.heap.size + 1) 0 _ 3 (0, 0) (hz hi.b3)
    have x3 : (W.putObj w5.heap.size (.deferred none)).cell? ⟨w.heap.size + 1 + 1, 0, none⟩ = _ := cell_of_row _ (w.heap.size + 2) 0 _ 26 (0, 0) (hz hi.b4)
    obtain ⟨pl, hpl⟩ := hi.ok.2.2
    refine ⟨by simp, .inl ⟨_, _, rfl, run_takeDeferred hd, ?_⟩⟩
    refine ⟨.tuple #[.slice none 0 0, .int .i64 k, .int .i64 (nxE xs k)], ?_, _, _, _, rfl, ⟨hi.chg.trans (S' := One w5.heap.size) (chg_put hd) (fun i hi q => by have q' : i = w5.heap.size := q; omega), .inr ⟨pl, k, hpl, hi.ok.1, hi.ok.2.1, rfl, rfl, rfl⟩⟩⟩
    simp [results, Tryd.results13, go_sem, x1, x2, x3]
end Go.Proofs.YtnidfbcninkglaaDoor
