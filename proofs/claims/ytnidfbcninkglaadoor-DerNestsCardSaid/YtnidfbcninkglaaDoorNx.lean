/-
  Next: the program's.
-/
import Derived.Test.YtnidfbcninkglaaDoorRd3
namespace Go.Proofs.YtnidfbcninkglaaDoor
open Go.RowKit
set_option linter.unusedVariables false
set_option maxRecDepth 100000

set_option maxHeartbeats 4000000 in
theorem next_bad (v : Value) (a E : Int) (w : World) (hg : ErrT w) (hr : ∀ u, Chg Non w u → Calls Tryd.prog 35 #[v, .int .i64 a] u fun e w' => e = .returned (.tuple #[itemV 0 (.slice none 0 0) 0 0, faultV E a]) ∧ Chg Non u w') :
    Calls Tryd.prog 10 #[v, .int .i64 a] w fun e w' => e = .returned (.tuple #[itemV 0 (.slice none 0 0) 0 0, .int .i64 E]) ∧ Chg Non w w' := by
  obtain ⟨w1, hw1⟩ : ∃ w1, w1 = w.alloc (.cells #[.int .u8 0, .slice none 0 0, .int .i64 0, .int .i64 0] 25) := ⟨_, rfl⟩
  have HW1 : Hid (Chg Non w w1) := by rw [hw1]; exact (Chg.refl _ _).alloc _
  have HW2 : Hid (w1 = w.alloc (.cells #[.int .u8 0, .slice none 0 0, .int .i64 0, .int .i64 0] 25)) := hw1
  have HR : Hid (Calls Tryd.prog 35 #[v, .int .i64 a] w1 fun e w' => e = .returned (.tuple #[.agg #[.int .u8 0, .slice none 0 0, .int .i64 0, .int .i64 0], .iface 66 (.agg #[.int .i64 E, .int .i64 a])]) ∧ Chg Non w1 w') := hr w1 HW1.out
  have HG : Hid (ErrT w) := hg
  clear hg
  clear hw1
  go_enter Tryd.func10, Tryd.ntmps10
  go_upto_region 1 with fail
  rw [← HW2.out]
  go_wp2_with (go_at_call 35; refine HR.out.mono ?_)
  rintro e w2 ⟨rfl, hc2⟩
  obtain ⟨w3, hw3⟩ : ∃ w3, w3 = w2.alloc (.cells #[.int .u8 0, .slice none 0 0, .int .i64 0, .int .i64 0] 25) := ⟨_, rfl⟩
  have H3 : Hid (Chg Non w2 w3) := by rw [hw3]; exact (Chg.refl _ _).alloc _
  have H3' : Hid (w3 = w2.alloc (.cells #[.int .u8 0, .slice none 0 0, .int .i64 0, .int .i64 0] 25)) := hw3
  have HC2 : Hid (Chg Non w1 w2) := hc2
  have HCI : Hid (∀ u, Chg Non w3 u → u.cell? ⟨w2.heap.size, 0, none⟩ = some (.int .u8 0) ∧ u.cell? ⟨w2.heap.size, 1, none⟩ = some (.slice none 0 0) ∧ u.cell? ⟨w2.heap.size, 2, none⟩ = some (.int .i64 0) ∧ u.cell? ⟨w2.heap.size, 3, none⟩ = some (.int .i64 0)) := fun u hu => by
    have hb : u.heap[w2.heap.size]? = some (.cells #[.int .u8 0, .slice none 0 0, .int .i64 0, .int .i64 0] 25) := (hu.block w2.heap.size (by rw [hw3]; simp) (fun x => x)).trans (by rw [hw3]; exact heap_alloc_last w2 _)
    obtain ⟨g0, g1, g2, g3, -⟩ := cells4 hb
    exact ⟨g0, g1, g2, g3⟩
  have HC4 : Hid (∀ u, Chg Non w3 u → u.cell? ⟨w.heap.size, 0, none⟩ = some (.int .u8 0) ∧ u.cell? ⟨w.heap.size, 1, none⟩ = some (.slice none 0 0) ∧ u.cell? ⟨w.heap.size, 2, none⟩ = some (.int .i64 0) ∧ u.cell? ⟨w.heap.size, 3, none⟩ = some (.int .i64 0) ∧ (∀ j, u.frozen? ⟨w.heap.size, j, none⟩ = false)) := fun u hu => cells4 (four (w := w) (u := u) (by rw [← HW2.out]; exact (HC2.out.two H3.out).two hu))
  have HNU : Hid (∀ u, Chg Non w3 u → Calls Tryd.prog 36 #[.iface 66 (.agg #[.int .i64 E, .int .i64 a])] u fun e w' => e = .returned (.int .i64 (E)) ∧ Chg Non u w') := fun u hu => number_fault E a u (HG.out.chg ((HW1.out.two (HC2.out.two H3.out)).two hu))
  have hsz1 : w1.heap.size = w.heap.size + 1 := by rw [HW2.out]; simp
  have hsz2 : w1.heap.size ≤ w2.heap.size := HC2.out.size
  have hne : ¬ w2.heap.size = w.heap.size := by omega
  clear hw3 hc2
  go_upto_region 2 with fail
  rw [← H3'.out]
  obtain ⟨y0, y1, y2, y3⟩ := HCI.out w3 (Chg.refl _ _)
  refine wp_region_noPanic ?_
  go_region_held3 (fun w' => w'.cell? ⟨w2.heap.size, 0, none⟩ = some (.int .u8 0) ∧ w'.cell? ⟨w2.heap.size, 1, none⟩ = some (.slice none 0 0) ∧ w'.cell? ⟨w2.heap.size, 2, none⟩ = some (.int .i64 0) ∧ w'.cell? ⟨w2.heap.size, 3, none⟩ = some (.int .i64 0)) (first | exact HCI.out _ (Chg.refl _ _).drew | exact HCI.out _ hw4 | (refine ⟨?_, ?_, ?_, ?_⟩ <;> (rw [World.cell?_of_block (keep4 (w := w) (u := w4) _ _ _ _ _ (fun e => hne e.symm))]; first | exact (HCI.out _ hw4).1 | exact (HCI.out _ hw4).2.1 | exact (HCI.out _ hw4).2.2.1 | exact (HCI.out _ hw4).2.2.2)))
    (first
      | (go_at_call 36; refine (HNU.out _ (by first | exact (Chg.refl _ _).drew | assumption)).mono ?_; rintro e w4 ⟨rfl, hc4⟩; have hw4 : Chg Non w3 w4 := Chg.two (by first | exact (Chg.refl _ _).drew | assumption) hc4; obtain ⟨f0, f1, f2, f3, ff⟩ := HC4.out w4 hw4))
  refine NoPanic.normal ?_
  go_wp2_with fail
  refine bodyPost_ret (v := .tuple #[.agg #[.int .u8 0, .slice none 0 0, .int .i64 0, .int .i64 0], .int .i64 E]) ?_ rfl ⟨rfl, Chg.four (((HW1.out.two HC2.out).two H3.out).two hw4) _ _ _ _⟩
  simp [results, Tryd.results10, go_sem, f0, f1, f2, f3]
set_option maxHeartbeats 4000000 in
theorem next_good (v : Value) (a t l : Int) (ys : List Int) (w : World) (hr : ∀ u, Chg Non w u → Calls Tryd.prog 35 #[v, .int .i64 a] u fun e w' => ∃ v', e = .returned (.tuple #[itemV t v' a l, .nilIface]) ∧ ReadP u w' v' ys) :
    Calls Tryd.prog 10 #[v, .int .i64 a] w fun e w' => ∃ v', e = .returned (.tuple #[itemV t v' a l, .int .i64 0]) ∧ ReadP w w' v' ys := by
  obtain ⟨w1, hw1⟩ : ∃ w1, w1 = w.alloc (.cells #[.int .u8 0, .slice none 0 0, .int .i64 0, .int .i64 0] 25) := ⟨_, rfl⟩
  have HW1 : Hid (Chg Non w w1) := by rw [hw1]; exact (Chg.refl _ _).alloc _
  have HW2 : Hid (w1 = w.alloc (.cells #[.int .u8 0, .slice none 0 0, .int .i64 0, .int .i64 0] 25)) := hw1
  have HR : Hid (Calls Tryd.prog 35 #[v, .int .i64 a] w1 fun e w' => ∃ v', e = .returned (.tuple #[.agg #[.int .u8 t, v', .int .i64 a, .int .i64 l], .nilIface]) ∧ ReadP w1 w' v' ys) := hr w1 HW1.out
  clear hw1
  go_enter Tryd.func10, Tryd.ntmps10
  go_upto_region 1 with fail
  rw [← HW2.out]
  go_wp2_with (go_at_call 35; refine HR.out.mono ?_)
  rintro e w2 ⟨vb, rfl, hq⟩
  obtain ⟨ob, nb, cb, rfl, -, -, -⟩ := hq.own.rd.shape
  have hc2 := hq.own.chg
  obtain ⟨w3, hw3⟩ : ∃ w3, w3 = w2.alloc (.cells #[.int .u8 t, .slice ob nb cb, .int .i64 a, .int .i64 l] 25) := ⟨_, rfl⟩
  have H3 : Hid (Chg Non w2 w3) := by rw [hw3]; exact (Chg.refl _ _).alloc _
  have H3' : Hid (w3 = w2.alloc (.cells #[.int .u8 t, .slice ob nb cb, .int .i64 a, .int .i64 l] 25)) := hw3
  have HC2 : Hid (Chg Non w1 w2) := hc2
  have HCI : Hid (∀ u, Chg Non w3 u → u.cell? ⟨w2.heap.size, 0, none⟩ = some (.int .u8 t) ∧ u.cell? ⟨w2.heap.size, 1, none⟩ = some (.slice ob nb cb) ∧ u.cell? ⟨w2.heap.size, 2, none⟩ = some (.int .i64 a) ∧ u.cell? ⟨w2.heap.size, 3, none⟩ = some (.int .i64 l)) := fun u hu => by
    have hb : u.heap[w2.heap.size]? = some (.cells #[.int .u8 t, .slice ob nb cb, .int .i64 a, .int .i64 l] 25) := (hu.block w2.heap.size (by rw [hw3]; simp) (fun x => x)).trans (by rw [hw3]; exact heap_alloc_last w2 _)
    obtain ⟨g0, g1, g2, g3, -⟩ := cells4 hb
    exact ⟨g0, g1, g2, g3⟩
  have HC4 : Hid (∀ u, Chg Non w3 u → u.cell? ⟨w.heap.size, 0, none⟩ = some (.int .u8 0) ∧ u.cell? ⟨w.heap.size, 1, none⟩ = some (.slice none 0 0) ∧ u.cell? ⟨w.heap.size, 2, none⟩ = some (.int .i64 0) ∧ u.cell? ⟨w.heap.size, 3, none⟩ = some (.int .i64 0) ∧ (∀ j, u.frozen? ⟨w.heap.size, j, none⟩ = false)) := fun u hu => cells4 (four (w := w) (u := u) (by rw [← HW2.out]; exact (HC2.out.two H3.out).two hu))
  have HNU : Hid (∀ u, Chg Non w3 u → Calls Tryd.prog 36 #[.nilIface] u fun e w' => e = .returned (.int .i64 (0)) ∧ Chg Non u w') := fun u hu => number_nil u
  have hsz1 : w1.heap.size = w.heap.size + 1 := by rw [HW2.out]; simp
  have hsz2 : w1.heap.size ≤ w2.heap.size := HC2.out.size
  have hne : ¬ w2.heap.size = w.heap.size := by omega
  clear hw3 hc2
  go_upto_region 2 with fail
  rw [← H3'.out]
  obtain ⟨y0, y1, y2, y3⟩ := HCI.out w3 (Chg.refl _ _)
  refine wp_region_noPanic ?_
  go_region_held3 (fun w' => w'.cell? ⟨w2.heap.size, 0, none⟩ = some (.int .u8 t) ∧ w'.cell? ⟨w2.heap.size, 1, none⟩ = some (.slice ob nb cb) ∧ w'.cell? ⟨w2.heap.size, 2, none⟩ = some (.int .i64 a) ∧ w'.cell? ⟨w2.heap.size, 3, none⟩ = some (.int .i64 l)) (first | exact HCI.out _ (Chg.refl _ _).drew | exact HCI.out _ hw4 | (refine ⟨?_, ?_, ?_, ?_⟩ <;> (rw [World.cell?_of_block (keep4 (w := w) (u := w4) _ _ _ _ _ (fun e => hne e.symm))]; first | exact (HCI.out _ hw4).1 | exact (HCI.out _ hw4).2.1 | exact (HCI.out _ hw4).2.2.1 | exact (HCI.out _ hw4).2.2.2)))
    (first
      | (go_at_call 36; refine (HNU.out _ (by first | exact (Chg.refl _ _).drew | assumption)).mono ?_; rintro e w4 ⟨rfl, hc4⟩; have hw4 : Chg Non w3 w4 := Chg.two (by first | exact (Chg.refl _ _).drew | assumption) hc4; obtain ⟨f0, f1, f2, f3, ff⟩ := HC4.out w4 hw4))
  refine NoPanic.normal ?_
  go_wp2_with fail
  refine bodyPost_ret (v := .tuple #[.agg #[.int .u8 t, .slice ob nb cb, .int .i64 a, .int .i64 l], .int .i64 0]) ?_ rfl ⟨_, rfl, ⟨⟨((hq.own.own.chg H3.out).chg hw4).keep (fun i e => ?_), fun i e => ?_, Chg.four (((HW1.out.two HC2.out).two H3.out).two hw4) _ _ _ _⟩⟩⟩
  · simp [results, Tryd.results10, go_sem, f0, f1, f2, f3]
  · exact keep4 _ _ _ _ _ (by have h7 : w1.heap.size ≤ i := hq.own.new i e; omega)
  · exact Nat.le_trans HW1.out.size (hq.own.new i e)
end Go.Proofs.YtnidfbcninkglaaDoor
