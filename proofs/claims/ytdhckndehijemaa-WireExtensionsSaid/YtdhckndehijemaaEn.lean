/-
  A certificate of a message.
-/
import Derived.Test.YtdhckndehijemaaXs
namespace Go.Proofs.Ytdhckndehijemaa
open Go.RowKit
set_option linter.unusedVariables false
set_option maxRecDepth 100000

abbrev tEntry : Ty := .pair .byt (.lst tExt)
def pEntry : Pr (List Int × List Ext) := pPair (pBytes 3 1 16777216) pExts
theorem pEntry_shr : Shr pEntry := pPair_shr (pBytes_shr (by decide)) pExts_shr.shq


set_option maxHeartbeats 3200000 in
theorem entry_any (r : Nat) (s0 : St) (w : World) (h : RS w r s0) : Calls Try.prog 203 #[.pointer (some ⟨r, 0, none⟩)] w fun e w' => ∃ a1 l1 c1 a2 l2 c2 x, e = .returned (.agg #[.slice a1 l1 c1, .slice a2 l2 c2]) ∧ RP (tEntry) (pEntry) w w' r s0 [.slice a1 l1 c1, .slice a2 l2 c2] x := by
  obtain ⟨w0, hw0⟩ : ∃ w0, w0 = w.alloc (.cells #[.slice none 0 0, .slice none 0 0] 146) := ⟨_, rfl⟩
  have c0 : Chg Non w w0 := by rw [hw0]; exact (Chg.refl _ _).alloc _
  have H0 : Hid (r < w.heap.size ∧ Chg Non w w0 ∧ w.heap.size < w0.heap.size ∧ w0.heap[w.heap.size]? = some (.cells #[.slice none 0 0, .slice none 0 0] 146)) := ⟨h.lt, c0, by rw [hw0]; simp, by rw [hw0]; exact heap_alloc_last w _⟩
  have HW0 : Hid (w0 = w.alloc (.cells #[.slice none 0 0, .slice none 0 0] 146)) := hw0
  have R0 : Hid (RS w0 r s0) := h.non c0
  clear h c0 hw0
  go_enter Try.func203, Try.ntmps203
  go_wp2_with fail
  rw [← HW0.out]
  refine (filled_any 3 w0).mono ?_
  rintro e u1 ⟨rfl, hc⟩
  have h1 := listB_any r 3 1 16777216 3 1 16777216 rfl rfl rfl (by decide) (by decide) s0 u1 (R0.out.non hc)
  have C1 : Hid (Chg Non w0 u1) := hc
  clear hc
  go_wp2_with (go_at_call 200; refine h1.mono ?_)
  rintro e w1 ⟨v, x1, rfl, hx⟩
  obtain ⟨a1, l1, c1, rfl⟩ := hx.slice
  have hy : RP (.byt) (pBytes 3 1 16777216) w0 w1 r s0 [.slice a1 l1 c1] x1 := (RP.byt hx).ahead C1.out
  obtain ⟨s1, q1, q2⟩ := hy.ps.st
  have H1 : Hid (RP (.byt) (pBytes 3 1 16777216) w0 w1 r s0 [.slice a1 l1 c1] x1 ∧ Res (pBytes 3 1 16777216) s0 x1 s1) := ⟨hy, q2⟩
  have R1 : Hid (RS w1 r s1) := q1
  clear hx hy q1 q2 h1
  have h2 := exts_any r s1 w1 R1.out
  go_wp2_with (go_at_call 115; refine h2.mono ?_)
  rintro e w2 ⟨a2, l2, c2, x2, rfl, hx⟩
  have hy := hx
  obtain ⟨s2, q1, q2⟩ := hy.ps.st
  have H2 : Hid (RP (.lst tExt) (pExts) w1 w2 r s1 [.slice a2 l2 c2] x2 ∧ Res (pExts) s1 x2 s2) := ⟨hy, q2⟩
  have R2 : Hid (RS w2 r s2) := q1
  clear hx hy q1 q2 h2
  have P2 := H2.out.1
  have P1 := H1.out.1.pair H1.out.2 P2 R0.out.lt
  have HP : Hid (∃ x, RP (tEntry) (pEntry) w0 w2 r s0 [.slice a1 l1 c1, .slice a2 l2 c2] x) := ⟨_, P1⟩
  have hB : w2.heap[w.heap.size]? = some (.cells #[.slice none 0 0, .slice none 0 0] 146) := by
    obtain ⟨x, hx⟩ := HP.out
    rw [hx.ps.chg.block w.heap.size H0.out.2.2.1 (fun e => by have e' : w.heap.size = r := e; have := H0.out.1; omega)]
    exact H0.out.2.2.2
  have y0 : w2.cell? ⟨w.heap.size, 0, none⟩ = some (.slice none 0 0) := by rw [cell_of_row w2 w.heap.size 0 _ 146 (0, 0) hB]; rfl
  have f0 := frozen_of_row w2 w.heap.size 0 _ _ hB
  have y1 : w2.cell? ⟨w.heap.size, 1, none⟩ = some (.slice none 0 0) := by rw [cell_of_row w2 w.heap.size 1 _ 146 (0, 0) hB]; rfl
  have f1 := frozen_of_row w2 w.heap.size 1 _ _ hB
  clear hB P2 P1
  go_wp2_with fail
  obtain ⟨x, hx⟩ := HP.out
  refine bodyPost_ret (v := .agg #[.slice a1 l1 c1, .slice a2 l2 c2]) ?_ rfl ⟨a1, l1, c1, a2, l2, c2, x, rfl, hx.outC H0.out.2.1 H0.out.2.2.1 ((chg_rest _ _ 0 _).one (chg_rest _ _ 1 _)) H0.out.1⟩
  simp [results, Try.results203, go_sem, y0, y1]
end Go.Proofs.Ytdhckndehijemaa
