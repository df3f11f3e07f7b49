/-
  Parts of extensions that are structs.
-/
import Derived.Test.YtdhckndehijemaaMs
import Derived.Test.YtdhckndehijemaaLn
namespace Go.Proofs.Ytdhckndehijemaa
open Go.RowKit
set_option linter.unusedVariables false
set_option maxRecDepth 100000


set_option maxHeartbeats 3200000 in
theorem share_any (r : Nat) (s0 : St) (w : World) (h : RS w r s0) : Calls Try.prog 154 #[.pointer (some ⟨r, 0, none⟩)] w fun e w' => ∃ x1 a2 l2 c2 x, e = .returned (.agg #[.int .u16 x1, .slice a2 l2 c2]) ∧ RP (tExt) (pShare) w w' r s0 [.int .u16 x1, .slice a2 l2 c2] x := by
  obtain ⟨w0, hw0⟩ : ∃ w0, w0 = w.alloc (.cells #[.int .u16 0, .slice none 0 0] 87) := ⟨_, rfl⟩
  have c0 : Chg Non w w0 := by rw [hw0]; exact (Chg.refl _ _).alloc _
  have H0 : Hid (r < w.heap.size ∧ Chg Non w w0 ∧ w.heap.size < w0.heap.size ∧ w0.heap[w.heap.size]? = some (.cells #[.int .u16 0, .slice none 0 0] 87)) := ⟨h.lt, c0, by rw [hw0]; simp, by rw [hw0]; exact heap_alloc_last w _⟩
  have HW0 : Hid (w0 = w.alloc (.cells #[.int .u16 0, .slice none 0 0] 87)) := hw0
  have R0 : Hid (RS w0 r s0) := h.non c0
  clear h c0 hw0
  go_enter Try.func154, Try.ntmps154
  have h1 := number_any r s0 w0 R0.out
  go_wp2_with fail
  rw [← HW0.out]
  refine h1.mono ?_
  rintro e w1 ⟨x1, rfl, hx⟩
  obtain ⟨s1, q1, q2⟩ := hx.ps.st
  have H1 : Hid (RP (.num .u16) (pDig 2) w0 w1 r s0 [.int .u16 x1] x1 ∧ Res (pDig 2) s0 x1 s1) := ⟨hx.rp2, q2⟩
  have R1 : Hid (RS w1 r s1) := q1
  clear hx q1 q2 h1
  go_wp2_with (go_at_call 185; refine (filled_any 2 w1).mono ?_)
  rintro e u2 ⟨rfl, hc⟩
  have h2 := listB_any r 2 1 16777216 2 1 16777216 rfl rfl rfl (by decide) (by decide) s1 u2 (R1.out.non hc)
  have C2 : Hid (Chg Non w1 u2) := hc
  clear hc
  go_wp2_with (go_at_call 200; refine h2.mono ?_)
  rintro e w2 ⟨v, x2, rfl, hx⟩
  obtain ⟨a2, l2, c2, rfl⟩ := hx.slice
  have hy : RP (.byt) (pBytes 2 1 16777216) w1 w2 r s1 [.slice a2 l2 c2] x2 := (RP.byt hx).ahead C2.out
  obtain ⟨s2, q1, q2⟩ := hy.ps.st
  have H2 : Hid (RP (.byt) (pBytes 2 1 16777216) w1 w2 r s1 [.slice a2 l2 c2] x2 ∧ Res (pBytes 2 1 16777216) s1 x2 s2) := ⟨hy, q2⟩
  have R2 : Hid (RS w2 r s2) := q1
  clear hx hy q1 q2 h2
  have P2 := H2.out.1
  have P1 := H1.out.1.pair H1.out.2 P2 R0.out.lt
  have HP : Hid (∃ x, RP (tExt) (pShare) w0 w2 r s0 [.int .u16 x1, .slice a2 l2 c2] x) := ⟨_, P1⟩
  have hB : w2.heap[w.heap.size]? = some (.cells #[.int .u16 0, .slice none 0 0] 87) := by
    obtain ⟨x, hx⟩ := HP.out
    rw [hx.ps.chg.block w.heap.size H0.out.2.2.1 (fun e => by have e' : w.heap.size = r := e; have := H0.out.1; omega)]
    exact H0.out.2.2.2
  have y0 : w2.cell? ⟨w.heap.size, 0, none⟩ = some (.int .u16 0) := by rw [cell_of_row w2 w.heap.size 0 _ 87 (0, 0) hB]; rfl
  have f0 := frozen_of_row w2 w.heap.size 0 _ _ hB
  have y1 : w2.cell? ⟨w.heap.size, 1, none⟩ = some (.slice none 0 0) := by rw [cell_of_row w2 w.heap.size 1 _ 87 (0, 0) hB]; rfl
  have f1 := frozen_of_row w2 w.heap.size 1 _ _ hB
  clear hB P2 P1
  go_wp2_with fail
  obtain ⟨x, hx⟩ := HP.out
  refine bodyPost_ret (v := .agg #[.int .u16 x1, .slice a2 l2 c2]) ?_ rfl ⟨x1, a2, l2, c2, x, rfl, hx.outC H0.out.2.1 H0.out.2.2.1 ((chg_rest _ _ 0 _).one (chg_rest _ _ 1 _)) H0.out.1⟩
  simp [results, Try.results154, go_sem, y0, y1]

set_option maxHeartbeats 3200000 in
theorem ticket_any (r : Nat) (s0 : St) (w : World) (h : RS w r s0) : Calls Try.prog 216 #[.pointer (some ⟨r, 0, none⟩)] w fun e w' => ∃ a1 l1 c1 x2 x, e = .returned (.agg #[.slice a1 l1 c1, .int .u32 x2, .slice none 0 0]) ∧ RP (tPSK) (pTicket) w w' r s0 [.slice a1 l1 c1, .int .u32 x2, .slice none 0 0] x := by
  obtain ⟨w0, hw0⟩ : ∃ w0, w0 = w.alloc (.cells #[.slice none 0 0, .int .u32 0, .slice none 0 0] 200) := ⟨_, rfl⟩
  have c0 : Chg Non w w0 := by rw [hw0]; exact (Chg.refl _ _).alloc _
  have H0 : Hid (r < w.heap.size ∧ Chg Non w w0 ∧ w.heap.size < w0.heap.size ∧ w0.heap[w.heap.size]? = some (.cells #[.slice none 0 0, .int .u32 0, .slice none 0 0] 200)) := ⟨h.lt, c0, by rw [hw0]; simp, by rw [hw0]; exact heap_alloc_last w _⟩
  have HW0 : Hid (w0 = w.alloc (.cells #[.slice none 0 0, .int .u32 0, .slice none 0 0] 200)) := hw0
  have R0 : Hid (RS w0 r s0) := h.non c0
  clear h c0 hw0
  go_enter Try.func216, Try.ntmps216
  go_wp2_with fail
  rw [← HW0.out]
  refine (filled_any 2 w0).mono ?_
  rintro e u1 ⟨rfl, hc⟩
  have h1 := listB_any r 2 1 16777216 2 1 16777216 rfl rfl rfl (by decide) (by decide) s0 u1 (R0.out.non hc)
  have C1 : Hid (Chg Non w0 u1) := hc
  clear hc
  go_wp2_with (go_at_call 200; refine h1.mono ?_)
  rintro e w1 ⟨v, x1, rfl, hx⟩
  obtain ⟨a1, l1, c1, rfl⟩ := hx.slice
  have hy : RP (.byt) (pBytes 2 1 16777216) w0 w1 r s0 [.slice a1 l1 c1] x1 := (RP.byt hx).ahead C1.out
  obtain ⟨s1, q1, q2⟩ := hy.ps.st
  have H1 : Hid (RP (.byt) (pBytes 2 1 16777216) w0 w1 r s0 [.slice a1 l1 c1] x1 ∧ Res (pBytes 2 1 16777216) s0 x1 s1) := ⟨hy, q2⟩
  have R1 : Hid (RS w1 r s1) := q1
  clear hx hy q1 q2 h1
  have h2 := long_any r s1 w1 R1.out
  go_wp2_with (go_at_call 204; refine h2.mono ?_)
  rintro e w2 ⟨x2, rfl, hx⟩
  obtain ⟨s2, q1, q2⟩ := hx.ps.st
  have H2 : Hid (RP (.num .u32) (pDig 4) w1 w2 r s1 [.int .u32 x2] x2 ∧ Res (pDig 4) s1 x2 s2) := ⟨hx.rp4, q2⟩
  have R2 : Hid (RS w2 r s2) := q1
  clear hx q1 q2 h2
  have P2 := H2.out.1.pair H2.out.2 (RP.nought w2 r s2 R2.out) R1.out.lt
  have P1 := H1.out.1.pair H1.out.2 P2 R0.out.lt
  have HP : Hid (∃ x, RP (tPSK) (pTicket) w0 w2 r s0 [.slice a1 l1 c1, .int .u32 x2, .slice none 0 0] x) := ⟨_, P1⟩
  have hB : w2.heap[w.heap.size]? = some (.cells #[.slice none 0 0, .int .u32 0, .slice none 0 0] 200) := by
    obtain ⟨x, hx⟩ := HP.out
    rw [hx.ps.chg.block w.heap.size H0.out.2.2.1 (fun e => by have e' : w.heap.size = r := e; have := H0.out.1; omega)]
    exact H0.out.2.2.2
  have y0 : w2.cell? ⟨w.heap.size, 0, none⟩ = some (.slice none 0 0) := by rw [cell_of_row w2 w.heap.size 0 _ 200 (0, 0) hB]; rfl
  have f0 := frozen_of_row w2 w.heap.size 0 _ _ hB
  have y1 : w2.cell? ⟨w.heap.size, 1, none⟩ = some (.int .u32 0) := by rw [cell_of_row w2 w.heap.size 1 _ 200 (0, 0) hB]; rfl
  have f1 := frozen_of_row w2 w.heap.size 1 _ _ hB
  have y2 : w2.cell? ⟨w.heap.size, 2, none⟩ = some (.slice none 0 0) := by rw [cell_of_row w2 w.heap.size 2 _ 200 (0, 0) hB]; rfl
  have f2 := frozen_of_row w2 w.heap.size 2 _ _ hB
  clear hB P2 P1
  go_wp2_with fail
  obtain ⟨x, hx⟩ := HP.out
  refine bodyPost_ret (v := .agg #[.slice a1 l1 c1, .int .u32 x2, .slice none 0 0]) ?_ rfl ⟨a1, l1, c1, x2, x, rfl, hx.outC H0.out.2.1 H0.out.2.2.1 (((chg_rest _ _ 0 _).one (chg_rest _ _ 1 _)).one (chg_rest _ _ 2 _)) H0.out.1⟩
  simp [results, Try.results216, go_sem, y0, y1, y2]

set_option maxHeartbeats 1600000 in
theorem binder_any (r : Nat) (s : St) (w : World) (h : RS w r s) : Calls Try.prog 218 #[.pointer (some ⟨r, 0, none⟩)] w fun e w' => ∃ ao L c x, e = .returned (.slice ao L c) ∧ RP (.byt) (pBytes 1 32 16777216) w w' r s [.slice ao L c] x := by
  go_enter Try.func218, Try.ntmps218
  go_wp2_with (go_at_call 233; refine (binderS_any  w).mono ?_)
  rintro e w2 ⟨rfl, hc⟩
  have h2 := listB_any r 1 32 16777216 1 32 16777216 rfl rfl rfl (by decide) (by decide) s w2 (h.non hc)
  have C2 : Hid (Chg Non w w2) := hc
  clear hc h
  go_wp2_with (go_at_call 200; refine h2.mono ?_)
  rintro e w3 ⟨v, x, rfl, hx⟩
  obtain ⟨ao, L, c, rfl⟩ := hx.slice
  have H2 : Hid (RP (.byt) (pBytes 1 32 16777216) w w3 r s [.slice ao L c] x) := (RP.byt hx).ahead C2.out
  clear hx h2
  go_wp2
  go_ret
  exact ⟨ao, L, c, x, rfl, H2.out⟩

set_option maxHeartbeats 1600000 in
theorem numbers_any (r : Nat) (s : St) (w : World) (h : RS w r s) : Calls Try.prog 143 #[.pointer (some ⟨r, 0, none⟩)] w fun e w' => ∃ ao L c x, e = .returned (.slice ao L c) ∧ RP (.lst (.num .u16)) (pList 2 1 16777216 (pDig 2)) w w' r s [.slice ao L c] x := by
  go_enter Try.func143, Try.ntmps143
  go_wp2_with (go_at_call 185; refine (filled_any 2 w).mono ?_)
  rintro e w2 ⟨rfl, hc⟩
  have h2 := listN_any r 2 1 16777216 2 1 16777216 rfl rfl rfl (by decide) (by decide) s w2 (h.non hc)
  have C2 : Hid (Chg Non w w2) := hc
  clear hc h
  go_wp2_with (go_at_call 184; refine h2.mono ?_)
  rintro e w3 ⟨v, x, rfl, hx⟩
  obtain ⟨ao, L, c, rfl⟩ := hx.slice
  have H2 : Hid (RP (.lst (.num .u16)) (pList 2 1 16777216 (pDig 2)) w w3 r s [.slice ao L c] x) := hx.ahead C2.out
  clear hx h2
  go_wp2
  go_ret
  exact ⟨ao, L, c, x, rfl, H2.out⟩

set_option maxHeartbeats 1600000 in
theorem versions_any (r : Nat) (s : St) (w : World) (h : RS w r s) : Calls Try.prog 145 #[.pointer (some ⟨r, 0, none⟩)] w fun e w' => ∃ ao L c x, e = .returned (.slice ao L c) ∧ RP (.lst (.num .u16)) (pList 1 1 16777216 (pDig 2)) w w' r s [.slice ao L c] x := by
  go_enter Try.func145, Try.ntmps145
  go_wp2_with (go_at_call 185; refine (filled_any 1 w).mono ?_)
  rintro e w2 ⟨rfl, hc⟩
  have h2 := listN_any r 1 1 16777216 1 1 16777216 rfl rfl rfl (by decide) (by decide) s w2 (h.non hc)
  have C2 : Hid (Chg Non w w2) := hc
  clear hc h
  go_wp2_with (go_at_call 184; refine h2.mono ?_)
  rintro e w3 ⟨v, x, rfl, hx⟩
  obtain ⟨ao, L, c, rfl⟩ := hx.slice
  have H2 : Hid (RP (.lst (.num .u16)) (pList 1 1 16777216 (pDig 2)) w w3 r s [.slice ao L c] x) := hx.ahead C2.out
  clear hx h2
  go_wp2
  go_ret
  exact ⟨ao, L, c, x, rfl, H2.out⟩

set_option maxHeartbeats 1600000 in
theorem modes_any (r : Nat) (s : St) (w : World) (h : RS w r s) : Calls Try.prog 149 #[.pointer (some ⟨r, 0, none⟩)] w fun e w' => ∃ ao L c x, e = .returned (.slice ao L c) ∧ RP (.byt) (pBytes 1 1 16777216) w w' r s [.slice ao L c] x := by
  go_enter Try.func149, Try.ntmps149
  go_wp2_with (go_at_call 185; refine (filled_any 1 w).mono ?_)
  rintro e w2 ⟨rfl, hc⟩
  have h2 := listB_any r 1 1 16777216 1 1 16777216 rfl rfl rfl (by decide) (by decide) s w2 (h.non hc)
  have C2 : Hid (Chg Non w w2) := hc
  clear hc h
  go_wp2_with (go_at_call 200; refine h2.mono ?_)
  rintro e w3 ⟨v, x, rfl, hx⟩
  obtain ⟨ao, L, c, rfl⟩ := hx.slice
  have H2 : Hid (RP (.byt) (pBytes 1 1 16777216) w w3 r s [.slice ao L c] x) := (RP.byt hx).ahead C2.out
  clear hx h2
  go_wp2
  go_ret
  exact ⟨ao, L, c, x, rfl, H2.out⟩

set_option maxHeartbeats 1600000 in
theorem cookie_any (r : Nat) (s : St) (w : World) (h : RS w r s) : Calls Try.prog 159 #[.pointer (some ⟨r, 0, none⟩)] w fun e w' => ∃ ao L c x, e = .returned (.slice ao L c) ∧ RP (.byt) (pBytes 2 1 16777216) w w' r s [.slice ao L c] x := by
  go_enter Try.func159, Try.ntmps159
  go_wp2_with (go_at_call 185; refine (filled_any 2 w).mono ?_)
  rintro e w2 ⟨rfl, hc⟩
  have h2 := listB_any r 2 1 16777216 2 1 16777216 rfl rfl rfl (by decide) (by decide) s w2 (h.non hc)
  have C2 : Hid (Chg Non w w2) := hc
  clear hc h
  go_wp2_with (go_at_call 200; refine h2.mono ?_)
  rintro e w3 ⟨v, x, rfl, hx⟩
  obtain ⟨ao, L, c, rfl⟩ := hx.slice
  have H2 : Hid (RP (.byt) (pBytes 2 1 16777216) w w3 r s [.slice ao L c] x) := (RP.byt hx).ahead C2.out
  clear hx h2
  go_wp2
  go_ret
  exact ⟨ao, L, c, x, rfl, H2.out⟩
end Go.Proofs.Ytdhckndehijemaa
