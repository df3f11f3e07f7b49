/-
  Messages that are structs.
-/
import Derived.Test.YtdhckndehijemaaLc
namespace Go.Proofs.Ytdhckndehijemaa
open Go.RowKit
set_option linter.unusedVariables false
set_option maxRecDepth 100000

abbrev tCert : Ty := .pair .byt (.lst tEntry)
def pCert : Pr (List Int × List (List Int × List Ext)) := pPair (pBytes 1 0 16777216) (pList 3 0 16777216 pEntry)
abbrev tReq : Ty := .pair .byt (.lst tExt)
def pReq : Pr (List Int × List Ext) := pPair (pBytes 1 0 16777216) pExts
def pVer : Pr (Int × List Int) := pPair (pDig 2) (pBytes 2 0 16777216)
abbrev tTick : Ty := .pair (.num .u32) (.pair (.num .u32) (.pair .byt (.pair .byt (.lst tExt))))
def pTick : Pr (Int × Int × List Int × List Int × List Ext) := pPair (pDig 4) (pPair (pDig 4) (pPair (pBytes 1 0 16777216) (pPair (pBytes 2 1 16777216) pExts)))
def pShare : Pr (Int × List Int) := pPair (pDig 2) (pBytes 2 1 16777216)
theorem pShare_shr : Shr pShare := pPair_shr (pDig_shr (by decide)) (pBytes_shr (by decide)).shq
abbrev tPSK : Ty := .pair .byt (.pair (.num .u32) .byt)
def pTicket : Pr (List Int × Int × List Int) := pPair (pBytes 2 1 16777216) (pPair (pDig 4) (pRet []))
theorem pTicket_shr : Shr pTicket := pPair_shr (pBytes_shr (by decide)) (pPair_shq (pDig_shr (by decide)).shq (pRet_shq _))
theorem RP.nought (w : World) (r : Nat) (s : St) (h : RS w r s) : RP .byt (pRet []) w w r s [.slice none 0 0] [] :=
  ⟨⟨_, rfl, Rd.nil w, Byt.nil, fun k e => by cases e⟩, Chg.refl _ _, s, h, Res.ret _ _⟩


set_option maxHeartbeats 3200000 in
theorem certMsg_any (r : Nat) (s0 : St) (w : World) (h : RS w r s0) : Calls Try.prog 118 #[.pointer (some ⟨r, 0, none⟩)] w fun e w' => ∃ a1 l1 c1 a2 l2 c2 x, e = .returned (.agg #[.slice a1 l1 c1, .slice a2 l2 c2]) ∧ RP (tCert) (pCert) w w' r s0 [.slice a1 l1 c1, .slice a2 l2 c2] x := by
  obtain ⟨w0, hw0⟩ : ∃ w0, w0 = w.alloc (.cells #[.slice none 0 0, .slice none 0 0] 44) := ⟨_, rfl⟩
  have c0 : Chg Non w w0 := by rw [hw0]; exact (Chg.refl _ _).alloc _
  have H0 : Hid (r < w.heap.size ∧ Chg Non w w0 ∧ w.heap.size < w0.heap.size ∧ w0.heap[w.heap.size]? = some (.cells #[.slice none 0 0, .slice none 0 0] 44)) := ⟨h.lt, c0, by rw [hw0]; simp, by rw [hw0]; exact heap_alloc_last w _⟩
  have HW0 : Hid (w0 = w.alloc (.cells #[.slice none 0 0, .slice none 0 0] 44)) := hw0
  have R0 : Hid (RS w0 r s0) := h.non c0
  clear h c0 hw0
  go_enter Try.func118, Try.ntmps118
  go_wp2_with fail
  rw [← HW0.out]
  refine (free_any 1 w0).mono ?_
  rintro e u1 ⟨rfl, hc⟩
  have h1 := listB_any r 1 0 16777216 1 0 16777216 rfl rfl rfl (by decide) (by decide) s0 u1 (R0.out.non hc)
  have C1 : Hid (Chg Non w0 u1) := hc
  clear hc
  go_wp2_with (go_at_call 200; refine h1.mono ?_)
  rintro e w1 ⟨v, x1, rfl, hx⟩
  obtain ⟨a1, l1, c1, rfl⟩ := hx.slice
  have hy : RP (.byt) (pBytes 1 0 16777216) w0 w1 r s0 [.slice a1 l1 c1] x1 := (RP.byt hx).ahead C1.out
  obtain ⟨s1, q1, q2⟩ := hy.ps.st
  have H1 : Hid (RP (.byt) (pBytes 1 0 16777216) w0 w1 r s0 [.slice a1 l1 c1] x1 ∧ Res (pBytes 1 0 16777216) s0 x1 s1) := ⟨hy, q2⟩
  have R1 : Hid (RS w1 r s1) := q1
  clear hx hy q1 q2 h1
  go_wp2_with (go_at_call 197; refine (free_any 3 w1).mono ?_)
  rintro e u2 ⟨rfl, hc⟩
  have h2 := listC_any r 3 0 16777216 3 0 16777216 rfl rfl rfl (by decide) (by decide) s1 u2 (R1.out.non hc)
  have C2 : Hid (Chg Non w1 u2) := hc
  clear hc
  go_wp2_with (go_at_call 202; refine h2.mono ?_)
  rintro e w2 ⟨v, x2, rfl, hx⟩
  obtain ⟨a2, l2, c2, rfl⟩ := hx.slice
  have hy : RP (.lst tEntry) (pList 3 0 16777216 pEntry) w1 w2 r s1 [.slice a2 l2 c2] x2 := hx.ahead C2.out
  obtain ⟨s2, q1, q2⟩ := hy.ps.st
  have H2 : Hid (RP (.lst tEntry) (pList 3 0 16777216 pEntry) w1 w2 r s1 [.slice a2 l2 c2] x2 ∧ Res (pList 3 0 16777216 pEntry) s1 x2 s2) := ⟨hy, q2⟩
  have R2 : Hid (RS w2 r s2) := q1
  clear hx hy q1 q2 h2
  have P2 := H2.out.1
  have P1 := H1.out.1.pair H1.out.2 P2 R0.out.lt
  have HP : Hid (∃ x, RP (tCert) (pCert) w0 w2 r s0 [.slice a1 l1 c1, .slice a2 l2 c2] x) := ⟨_, P1⟩
  have hB : w2.heap[w.heap.size]? = some (.cells #[.slice none 0 0, .slice none 0 0] 44) := by
    obtain ⟨x, hx⟩ := HP.out
    rw [hx.ps.chg.block w.heap.size H0.out.2.2.1 (fun e => by have e' : w.heap.size = r := e; have := H0.out.1; omega)]
    exact H0.out.2.2.2
  have y0 : w2.cell? ⟨w.heap.size, 0, none⟩ = some (.slice none 0 0) := by rw [cell_of_row w2 w.heap.size 0 _ 44 (0, 0) hB]; rfl
  have f0 := frozen_of_row w2 w.heap.size 0 _ _ hB
  have y1 : w2.cell? ⟨w.heap.size, 1, none⟩ = some (.slice none 0 0) := by rw [cell_of_row w2 w.heap.size 1 _ 44 (0, 0) hB]; rfl
  have f1 := frozen_of_row w2 w.heap.size 1 _ _ hB
  clear hB P2 P1
  go_wp2_with fail
  obtain ⟨x, hx⟩ := HP.out
  refine bodyPost_ret (v := .agg #[.slice a1 l1 c1, .slice a2 l2 c2]) ?_ rfl ⟨a1, l1, c1, a2, l2, c2, x, rfl, hx.outC H0.out.2.1 H0.out.2.2.1 ((chg_rest _ _ 0 _).one (chg_rest _ _ 1 _)) H0.out.1⟩
  simp [results, Try.results118, go_sem, y0, y1]

set_option maxHeartbeats 3200000 in
theorem request_any (r : Nat) (s0 : St) (w : World) (h : RS w r s0) : Calls Try.prog 124 #[.pointer (some ⟨r, 0, none⟩)] w fun e w' => ∃ a1 l1 c1 a2 l2 c2 x, e = .returned (.agg #[.slice a1 l1 c1, .slice a2 l2 c2]) ∧ RP (tReq) (pReq) w w' r s0 [.slice a1 l1 c1, .slice a2 l2 c2] x := by
  obtain ⟨w0, hw0⟩ : ∃ w0, w0 = w.alloc (.cells #[.slice none 0 0, .slice none 0 0] 57) := ⟨_, rfl⟩
  have c0 : Chg Non w w0 := by rw [hw0]; exact (Chg.refl _ _).alloc _
  have H0 : Hid (r < w.heap.size ∧ Chg Non w w0 ∧ w.heap.size < w0.heap.size ∧ w0.heap[w.heap.size]? = some (.cells #[.slice none 0 0, .slice none 0 0] 57)) := ⟨h.lt, c0, by rw [hw0]; simp, by rw [hw0]; exact heap_alloc_last w _⟩
  have HW0 : Hid (w0 = w.alloc (.cells #[.slice none 0 0, .slice none 0 0] 57)) := hw0
  have R0 : Hid (RS w0 r s0) := h.non c0
  clear h c0 hw0
  go_enter Try.func124, Try.ntmps124
  go_wp2_with fail
  rw [← HW0.out]
  refine (free_any 1 w0).mono ?_
  rintro e u1 ⟨rfl, hc⟩
  have h1 := listB_any r 1 0 16777216 1 0 16777216 rfl rfl rfl (by decide) (by decide) s0 u1 (R0.out.non hc)
  have C1 : Hid (Chg Non w0 u1) := hc
  clear hc
  go_wp2_with (go_at_call 200; refine h1.mono ?_)
  rintro e w1 ⟨v, x1, rfl, hx⟩
  obtain ⟨a1, l1, c1, rfl⟩ := hx.slice
  have hy : RP (.byt) (pBytes 1 0 16777216) w0 w1 r s0 [.slice a1 l1 c1] x1 := (RP.byt hx).ahead C1.out
  obtain ⟨s1, q1, q2⟩ := hy.ps.st
  have H1 : Hid (RP (.byt) (pBytes 1 0 16777216) w0 w1 r s0 [.slice a1 l1 c1] x1 ∧ Res (pBytes 1 0 16777216) s0 x1 s1) := ⟨hy, q2⟩
  have R1 : Hid (RS w1 r s1) := q1
  clear hx hy q1 q2 h1
  have h2 := exts_any r s1 w1 R1.out
  go_wp2_with (go_at_call 115; refine h2.mono ?_)
  rintro e w2 ⟨a2, l2, c2, x2, rfl, hx⟩
  have hy := hx
  obtain ⟨s2, q1, q2⟩ := hy.ps.st
  have H2 : Hid (RP (.lst tExt) (pExts) w1 w2 r s1 [.slice a2 l2 c2] x2 ∧ Res (pExts) s1 x2 s2) := ⟨hy, q2⟩
  have R2 : Hid (RS w2 r s2) := q1
  clear hx hy q1 q2 h2
  have P2 := H2.out.1
  have P1 := H1.out.1.pair H1.out.2 P2 R0.out.lt
  have HP : Hid (∃ x, RP (tReq) (pReq) w0 w2 r s0 [.slice a1 l1 c1, .slice a2 l2 c2] x) := ⟨_, P1⟩
  have hB : w2.heap[w.heap.size]? = some (.cells #[.slice none 0 0, .slice none 0 0] 57) := by
    obtain ⟨x, hx⟩ := HP.out
    rw [hx.ps.chg.block w.heap.size H0.out.2.2.1 (fun e => by have e' : w.heap.size = r := e; have := H0.out.1; omega)]
    exact H0.out.2.2.2
  have y0 : w2.cell? ⟨w.heap.size, 0, none⟩ = some (.slice none 0 0) := by rw [cell_of_row w2 w.heap.size 0 _ 57 (0, 0) hB]; rfl
  have f0 := frozen_of_row w2 w.heap.size 0 _ _ hB
  have y1 : w2.cell? ⟨w.heap.size, 1, none⟩ = some (.slice none 0 0) := by rw [cell_of_row w2 w.heap.size 1 _ 57 (0, 0) hB]; rfl
  have f1 := frozen_of_row w2 w.heap.size 1 _ _ hB
  clear hB P2 P1
  go_wp2_with fail
  obtain ⟨x, hx⟩ := HP.out
  refine bodyPost_ret (v := .agg #[.slice a1 l1 c1, .slice a2 l2 c2]) ?_ rfl ⟨a1, l1, c1, a2, l2, c2, x, rfl, hx.outC H0.out.2.1 H0.out.2.2.1 ((chg_rest _ _ 0 _).one (chg_rest _ _ 1 _)) H0.out.1⟩
  simp [results, Try.results124, go_sem, y0, y1]

set_option maxHeartbeats 3200000 in
theorem verified_any (r : Nat) (s0 : St) (w : World) (h : RS w r s0) : Calls Try.prog 126 #[.pointer (some ⟨r, 0, none⟩)] w fun e w' => ∃ x1 a2 l2 c2 x, e = .returned (.agg #[.int .u16 x1, .slice a2 l2 c2]) ∧ RP (tExt) (pVer) w w' r s0 [.int .u16 x1, .slice a2 l2 c2] x := by
  obtain ⟨w0, hw0⟩ : ∃ w0, w0 = w.alloc (.cells #[.int .u16 0, .slice none 0 0] 49) := ⟨_, rfl⟩
  have c0 : Chg Non w w0 := by rw [hw0]; exact (Chg.refl _ _).alloc _
  have H0 : Hid (r < w.heap.size ∧ Chg Non w w0 ∧ w.heap.size < w0.heap.size ∧ w0.heap[w.heap.size]? = some (.cells #[.int .u16 0, .slice none 0 0] 49)) := ⟨h.lt, c0, by rw [hw0]; simp, by rw [hw0]; exact heap_alloc_last w _⟩
  have HW0 : Hid (w0 = w.alloc (.cells #[.int .u16 0, .slice none 0 0] 49)) := hw0
  have R0 : Hid (RS w0 r s0) := h.non c0
  clear h c0 hw0
  go_enter Try.func126, Try.ntmps126
  have h1 := number_any r s0 w0 R0.out
  go_wp2_with fail
  rw [← HW0.out]
  refine h1.mono ?_
  rintro e w1 ⟨x1, rfl, hx⟩
  obtain ⟨s1, q1, q2⟩ := hx.ps.st
  have H1 : Hid (RP (.num .u16) (pDig 2) w0 w1 r s0 [.int .u16 x1] x1 ∧ Res (pDig 2) s0 x1 s1) := ⟨hx.rp2, q2⟩
  have R1 : Hid (RS w1 r s1) := q1
  clear hx q1 q2 h1
  go_wp2_with (go_at_call 197; refine (free_any 2 w1).mono ?_)
  rintro e u2 ⟨rfl, hc⟩
  have h2 := listB_any r 2 0 16777216 2 0 16777216 rfl rfl rfl (by decide) (by decide) s1 u2 (R1.out.non hc)
  have C2 : Hid (Chg Non w1 u2) := hc
  clear hc
  go_wp2_with (go_at_call 200; refine h2.mono ?_)
  rintro e w2 ⟨v, x2, rfl, hx⟩
  obtain ⟨a2, l2, c2, rfl⟩ := hx.slice
  have hy : RP (.byt) (pBytes 2 0 16777216) w1 w2 r s1 [.slice a2 l2 c2] x2 := (RP.byt hx).ahead C2.out
  obtain ⟨s2, q1, q2⟩ := hy.ps.st
  have H2 : Hid (RP (.byt) (pBytes 2 0 16777216) w1 w2 r s1 [.slice a2 l2 c2] x2 ∧ Res (pBytes 2 0 16777216) s1 x2 s2) := ⟨hy, q2⟩
  have R2 : Hid (RS w2 r s2) := q1
  clear hx hy q1 q2 h2
  have P2 := H2.out.1
  have P1 := H1.out.1.pair H1.out.2 P2 R0.out.lt
  have HP : Hid (∃ x, RP (tExt) (pVer) w0 w2 r s0 [.int .u16 x1, .slice a2 l2 c2] x) := ⟨_, P1⟩
  have hB : w2.heap[w.heap.size]? = some (.cells #[.int .u16 0, .slice none 0 0] 49) := by
    obtain ⟨x, hx⟩ := HP.out
    rw [hx.ps.chg.block w.heap.size H0.out.2.2.1 (fun e => by have e' : w.heap.size = r := e; have := H0.out.1; omega)]
    exact H0.out.2.2.2
  have y0 : w2.cell? ⟨w.heap.size, 0, none⟩ = some (.int .u16 0) := by rw [cell_of_row w2 w.heap.size 0 _ 49 (0, 0) hB]; rfl
  have f0 := frozen_of_row w2 w.heap.size 0 _ _ hB
  have y1 : w2.cell? ⟨w.heap.size, 1, none⟩ = some (.slice none 0 0) := by rw [cell_of_row w2 w.heap.size 1 _ 49 (0, 0) hB]; rfl
  have f1 := frozen_of_row w2 w.heap.size 1 _ _ hB
  clear hB P2 P1
  go_wp2_with fail
  obtain ⟨x, hx⟩ := HP.out
  refine bodyPost_ret (v := .agg #[.int .u16 x1, .slice a2 l2 c2]) ?_ rfl ⟨x1, a2, l2, c2, x, rfl, hx.outC H0.out.2.1 H0.out.2.2.1 ((chg_rest _ _ 0 _).one (chg_rest _ _ 1 _)) H0.out.1⟩
  simp [results, Try.results126, go_sem, y0, y1]

set_option maxHeartbeats 3200000 in
theorem ticketMsg_any (r : Nat) (s0 : St) (w : World) (h : RS w r s0) : Calls Try.prog 129 #[.pointer (some ⟨r, 0, none⟩)] w fun e w' => ∃ x1 x2 a3 l3 c3 a4 l4 c4 a5 l5 c5 x, e = .returned (.agg #[.int .u32 x1, .int .u32 x2, .slice a3 l3 c3, .slice a4 l4 c4, .slice a5 l5 c5]) ∧ RP (tTick) (pTick) w w' r s0 [.int .u32 x1, .int .u32 x2, .slice a3 l3 c3, .slice a4 l4 c4, .slice a5 l5 c5] x := by
  obtain ⟨w0, hw0⟩ : ∃ w0, w0 = w.alloc (.cells #[.int .u32 0, .int .u32 0, .slice none 0 0, .slice none 0 0, .slice none 0 0] 47) := ⟨_, rfl⟩
  have c0 : Chg Non w w0 := by rw [hw0]; exact (Chg.refl _ _).alloc _
  have H0 : Hid (r < w.heap.size ∧ Chg Non w w0 ∧ w.heap.size < w0.heap.size ∧ w0.heap[w.heap.size]? = some (.cells #[.int .u32 0, .int .u32 0, .slice none 0 0, .slice none 0 0, .slice none 0 0] 47)) := ⟨h.lt, c0, by rw [hw0]; simp, by rw [hw0]; exact heap_alloc_last w _⟩
  have HW0 : Hid (w0 = w.alloc (.cells #[.int .u32 0, .int .u32 0, .slice none 0 0, .slice none 0 0, .slice none 0 0] 47)) := hw0
  have R0 : Hid (RS w0 r s0) := h.non c0
  clear h c0 hw0
  go_enter Try.func129, Try.ntmps129
  have h1 := long_any r s0 w0 R0.out
  go_wp2_with fail
  rw [← HW0.out]
  refine h1.mono ?_
  rintro e w1 ⟨x1, rfl, hx⟩
  obtain ⟨s1, q1, q2⟩ := hx.ps.st
  have H1 : Hid (RP (.num .u32) (pDig 4) w0 w1 r s0 [.int .u32 x1] x1 ∧ Res (pDig 4) s0 x1 s1) := ⟨hx.rp4, q2⟩
  have R1 : Hid (RS w1 r s1) := q1
  clear hx q1 q2 h1
  have h2 := long_any r s1 w1 R1.out
  go_wp2_with (go_at_call 204; refine h2.mono ?_)
  rintro e w2 ⟨x2, rfl, hx⟩
  obtain ⟨s2, q1, q2⟩ := hx.ps.st
  have H2 : Hid (RP (.num .u32) (pDig 4) w1 w2 r s1 [.int .u32 x2] x2 ∧ Res (pDig 4) s1 x2 s2) := ⟨hx.rp4, q2⟩
  have R2 : Hid (RS w2 r s2) := q1
  clear hx q1 q2 h2
  go_wp2_with (go_at_call 197; refine (free_any 1 w2).mono ?_)
  rintro e u3 ⟨rfl, hc⟩
  have h3 := listB_any r 1 0 16777216 1 0 16777216 rfl rfl rfl (by decide) (by decide) s2 u3 (R2.out.non hc)
  have C3 : Hid (Chg Non w2 u3) := hc
  clear hc
  go_wp2_with (go_at_call 200; refine h3.mono ?_)
  rintro e w3 ⟨v, x3, rfl, hx⟩
  obtain ⟨a3, l3, c3, rfl⟩ := hx.slice
  have hy : RP (.byt) (pBytes 1 0 16777216) w2 w3 r s2 [.slice a3 l3 c3] x3 := (RP.byt hx).ahead C3.out
  obtain ⟨s3, q1, q2⟩ := hy.ps.st
  have H3 : Hid (RP (.byt) (pBytes 1 0 16777216) w2 w3 r s2 [.slice a3 l3 c3] x3 ∧ Res (pBytes 1 0 16777216) s2 x3 s3) := ⟨hy, q2⟩
  have R3 : Hid (RS w3 r s3) := q1
  clear hx hy q1 q2 h3
  go_wp2_with (go_at_call 185; refine (filled_any 2 w3).mono ?_)
  rintro e u4 ⟨rfl, hc⟩
  have h4 := listB_any r 2 1 16777216 2 1 16777216 rfl rfl rfl (by decide) (by decide) s3 u4 (R3.out.non hc)
  have C4 : Hid (Chg Non w3 u4) := hc
  clear hc
  go_wp2_with (go_at_call 200; refine h4.mono ?_)
  rintro e w4 ⟨v, x4, rfl, hx⟩
  obtain ⟨a4, l4, c4, rfl⟩ := hx.slice
  have hy : RP (.byt) (pBytes 2 1 16777216) w3 w4 r s3 [.slice a4 l4 c4] x4 := (RP.byt hx).ahead C4.out
  obtain ⟨s4, q1, q2⟩ := hy.ps.st
  have H4 : Hid (RP (.byt) (pBytes 2 1 16777216) w3 w4 r s3 [.slice a4 l4 c4] x4 ∧ Res (pBytes 2 1 16777216) s3 x4 s4) := ⟨hy, q2⟩
  have R4 : Hid (RS w4 r s4) := q1
  clear hx hy q1 q2 h4
  have h5 := exts_any r s4 w4 R4.out
  go_wp2_with (go_at_call 115; refine h5.mono ?_)
  rintro e w5 ⟨a5, l5, c5, x5, rfl, hx⟩
  have hy := hx
  obtain ⟨s5, q1, q2⟩ := hy.ps.st
  have H5 : Hid (RP (.lst tExt) (pExts) w4 w5 r s4 [.slice a5 l5 c5] x5 ∧ Res (pExts) s4 x5 s5) := ⟨hy, q2⟩
  have R5 : Hid (RS w5 r s5) := q1
  clear hx hy q1 q2 h5
  have P5 := H5.out.1
  have P4 := H4.out.1.pair H4.out.2 P5 R3.out.lt
  have P3 := H3.out.1.pair H3.out.2 P4 R2.out.lt
  have P2 := H2.out.1.pair H2.out.2 P3 R1.out.lt
  have P1 := H1.out.1.pair H1.out.2 P2 R0.out.lt
  have HP : Hid (∃ x, RP (tTick) (pTick) w0 w5 r s0 [.int .u32 x1, .int .u32 x2, .slice a3 l3 c3, .slice a4 l4 c4, .slice a5 l5 c5] x) := ⟨_, P1⟩
  have hB : w5.heap[w.heap.size]? = some (.cells #[.int .u32 0, .int .u32 0, .slice none 0 0, .slice none 0 0, .slice none 0 0] 47) := by
    obtain ⟨x, hx⟩ := HP.out
    rw [hx.ps.chg.block w.heap.size H0.out.2.2.1 (fun e => by have e' : w.heap.size = r := e; have := H0.out.1; omega)]
    exact H0.out.2.2.2
  have y0 : w5.cell? ⟨w.heap.size, 0, none⟩ = some (.int .u32 0) := by rw [cell_of_row w5 w.heap.size 0 _ 47 (0, 0) hB]; rfl
  have f0 := frozen_of_row w5 w.heap.size 0 _ _ hB
  have y1 : w5.cell? ⟨w.heap.size, 1, none⟩ = some (.int .u32 0) := by rw [cell_of_row w5 w.heap.size 1 _ 47 (0, 0) hB]; rfl
  have f1 := frozen_of_row w5 w.heap.size 1 _ _ hB
  have y2 : w5.cell? ⟨w.heap.size, 2, none⟩ = some (.slice none 0 0) := by rw [cell_of_row w5 w.heap.size 2 _ 47 (0, 0) hB]; rfl
  have f2 := frozen_of_row w5 w.heap.size 2 _ _ hB
  have y3 : w5.cell? ⟨w.heap.size, 3, none⟩ = some (.slice none 0 0) := by rw [cell_of_row w5 w.heap.size 3 _ 47 (0, 0) hB]; rfl
  have f3 := frozen_of_row w5 w.heap.size 3 _ _ hB
  have y4 : w5.cell? ⟨w.heap.size, 4, none⟩ = some (.slice none 0 0) := by rw [cell_of_row w5 w.heap.size 4 _ 47 (0, 0) hB]; rfl
  have f4 := frozen_of_row w5 w.heap.size 4 _ _ hB
  clear hB P5 P4 P3 P2 P1
  go_wp2_with fail
  obtain ⟨x, hx⟩ := HP.out
  refine bodyPost_ret (v := .agg #[.int .u32 x1, .int .u32 x2, .slice a3 l3 c3, .slice a4 l4 c4, .slice a5 l5 c5]) ?_ rfl ⟨x1, x2, a3, l3, c3, a4, l4, c4, a5, l5, c5, x, rfl, hx.outC H0.out.2.1 H0.out.2.2.1 (((((chg_rest _ _ 0 _).one (chg_rest _ _ 1 _)).one (chg_rest _ _ 2 _)).one (chg_rest _ _ 3 _)).one (chg_rest _ _ 4 _)) H0.out.1⟩
  simp [results, Try.results129, go_sem, y0, y1, y2, y3, y4]
end Go.Proofs.Ytdhckndehijemaa
