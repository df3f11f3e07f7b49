/-
  What put answers: certificates, tickets, signatures, requests, texts, shares.
-/
import Derived.Test.YtdhckndehijemaaXe
namespace Go.Proofs.Ytdhckndehijemaa
open Go.RowKit
set_option linter.unusedVariables false
set_option maxRecDepth 100000

theorem PO.ahead {α : Type} {p : Pw α} {a b c : World} {v : Value} {x : α} (h : PO p b c v x) (k : Chg Non a b) : PO p a c v x :=
  ⟨k.two h.chg, h.own, h.byt, fun i e => Nat.le_trans k.size (h.new i e)⟩


set_option maxHeartbeats 1600000 in
theorem putCm_any (a1 : Option Addr) (l1 c1 : Nat) (a2 : Option Addr) (l2 c2 : Nat) (x : (tCert).Dat) (w : World) (h : Rel (tCert) (Bel w.heap.size) w [.slice a1 l1 c1, .slice a2 l2 c2] x) : Calls Try.prog 130 #[.agg #[.slice a1 l1 c1, .slice a2 l2 c2], .func (.func 131) #[] #[]] w fun e w' => ∃ v, e = .returned v ∧ PO (wCert) w w' v x := by
  obtain ⟨w0, hw0⟩ : ∃ w0, w0 = w.alloc (.cells #[.slice a1 l1 c1, .slice a2 l2 c2] 44) := ⟨_, rfl⟩
  have kc0 : Chg Non w w0 := by rw [hw0]; exact (Chg.refl _ _).alloc _
  have hs0 : w0.heap.size = w.heap.size + 1 := by rw [hw0]; simp
  obtain ⟨w1, hw1⟩ : ∃ w1, w1 = w0.alloc (.cells #[.slice none 0 0, .bool false] 242) := ⟨_, rfl⟩
  have hm : WM w1 w0.heap.size (.slice none 0 0) false [] := by rw [hw1]; exact WM.begin w0
  have kc1 : Chg Non w0 w1 := by rw [hw1]; exact (Chg.refl _ _).alloc _
  have hb0 : Rel (tCert) (Bel w0.heap.size) w0 [.slice a1 l1 c1, .slice a2 l2 c2] x := (h.oldN kc0).bel2 kc0.size
  have hp := wcertMsg_any w0.heap.size a1 l1 c1 a2 l2 c2 x (.slice none 0 0) false [] w1 hm (hb0.begin kc1) (by simp)
  rw [hs0] at hp
  have HS0 : Hid (w0.heap.size = w.heap.size + 1) := hs0
  have HW : Hid (w1 = (w.alloc (.cells #[.slice a1 l1 c1, .slice a2 l2 c2] 44)).alloc (.cells #[.slice none 0 0, .bool false] 242)) := by show _ = _; rw [hw1, hw0]
  have C0 : Hid (Chg Non w w0) := kc0
  have C1 : Hid (Chg Non w0 w1) := kc1
  clear h hw0 hw1 hm kc0 kc1 hb0 hs0
  go_enter Try.func130, Try.ntmps130
  go_wp2_with fail
  rw [← HW.out]
  refine (calls_wo hp).mono ?_
  rintro e w2 ⟨rfl, v2, no2, ys, hq⟩
  obtain ⟨ao, n, c, rfl, -, -, -⟩ := hq.wp.wm.own.rd.shape
  obtain ⟨z0, z1, f0, f1⟩ := hq.wp.wm.facts
  have HQ : Hid (WQ (wCert) 83886505 w0.heap.size (.slice none 0 0) w1 w2 (.slice ao n c) false no2 [] ys x) := by show WQ _ _ _ _ _ _ _ _ _ _ _ _; rw [HS0.out]; exact hq
  clear hq hp
  cases no2 with
  | true =>
    go_wp2
    go_ret
    exact ⟨_, rfl, (po_none HQ.out C1.out).ahead C0.out⟩
  | false =>
    go_wp2
    go_ret
    exact ⟨_, rfl, (po_some HQ.out C1.out).ahead C0.out⟩

set_option maxHeartbeats 800000 in
theorem putCert_any (a1 : Option Addr) (l1 c1 : Nat) (a2 : Option Addr) (l2 c2 : Nat) (x : (tCert).Dat) (w : World) (h : Rel (tCert) (Bel w.heap.size) w [.slice a1 l1 c1, .slice a2 l2 c2] x) : Calls Try.prog 39 #[.agg #[.slice a1 l1 c1, .slice a2 l2 c2]] w fun e w' => ∃ v, e = .returned v ∧ PO (wCert) w w' v x := by
  obtain ⟨w0, hw0⟩ : ∃ w0, w0 = w.alloc (.cells #[.slice a1 l1 c1, .slice a2 l2 c2] 44) := ⟨_, rfl⟩
  have kc0 : Chg Non w w0 := by rw [hw0]; exact (Chg.refl _ _).alloc _
  have hp := putCm_any a1 l1 c1 a2 l2 c2 x w0 ((h.oldN kc0).bel2 kc0.size)
  have HW : Hid (w0 = w.alloc (.cells #[.slice a1 l1 c1, .slice a2 l2 c2] 44)) := hw0
  have C0 : Hid (Chg Non w w0) := kc0
  clear h kc0 hw0
  go_enter Try.func39, Try.ntmps39
  go_wp2_with fail
  rw [← HW.out]
  refine hp.mono ?_
  rintro e w2 ⟨v, rfl, hq⟩
  obtain ⟨ao, n, c, rfl⟩ := hq.shape
  have HQ : Hid (PO (wCert) w w2 (.slice ao n c) x) := hq.ahead C0.out
  clear hq hp
  go_wp2
  go_ret
  exact ⟨_, rfl, HQ.out⟩

set_option maxHeartbeats 1600000 in
theorem putTm_any (nA nB : Int) (a3 : Option Addr) (l3 c3 : Nat) (a4 : Option Addr) (l4 c4 : Nat) (a5 : Option Addr) (l5 c5 : Nat) (x : (tTick).Dat) (w : World) (h : Rel (tTick) (Bel w.heap.size) w [.int .u32 nA, .int .u32 nB, .slice a3 l3 c3, .slice a4 l4 c4, .slice a5 l5 c5] x) : Calls Try.prog 132 #[.agg #[.int .u32 nA, .int .u32 nB, .slice a3 l3 c3, .slice a4 l4 c4, .slice a5 l5 c5], .func (.func 133) #[] #[]] w fun e w' => ∃ v, e = .returned v ∧ PO (wTick) w w' v x := by
  obtain ⟨w0, hw0⟩ : ∃ w0, w0 = w.alloc (.cells #[.int .u32 nA, .int .u32 nB, .slice a3 l3 c3, .slice a4 l4 c4, .slice a5 l5 c5] 47) := ⟨_, rfl⟩
  have kc0 : Chg Non w w0 := by rw [hw0]; exact (Chg.refl _ _).alloc _
  have hs0 : w0.heap.size = w.heap.size + 1 := by rw [hw0]; simp
  obtain ⟨w1, hw1⟩ : ∃ w1, w1 = w0.alloc (.cells #[.slice none 0 0, .bool false] 242) := ⟨_, rfl⟩
  have hm : WM w1 w0.heap.size (.slice none 0 0) false [] := by rw [hw1]; exact WM.begin w0
  have kc1 : Chg Non w0 w1 := by rw [hw1]; exact (Chg.refl _ _).alloc _
  have hb0 : Rel (tTick) (Bel w0.heap.size) w0 [.int .u32 nA, .int .u32 nB, .slice a3 l3 c3, .slice a4 l4 c4, .slice a5 l5 c5] x := (h.oldN kc0).bel2 kc0.size
  have hp := wticketMsg_any w0.heap.size nA nB a3 l3 c3 a4 l4 c4 a5 l5 c5 x (.slice none 0 0) false [] w1 hm (hb0.begin kc1) (by simp)
  rw [hs0] at hp
  have HS0 : Hid (w0.heap.size = w.heap.size + 1) := hs0
  have HW : Hid (w1 = (w.alloc (.cells #[.int .u32 nA, .int .u32 nB, .slice a3 l3 c3, .slice a4 l4 c4, .slice a5 l5 c5] 47)).alloc (.cells #[.slice none 0 0, .bool false] 242)) := by show _ = _; rw [hw1, hw0]
  have C0 : Hid (Chg Non w w0) := kc0
  have C1 : Hid (Chg Non w0 w1) := kc1
  clear h hw0 hw1 hm kc0 kc1 hb0 hs0
  go_enter Try.func132, Try.ntmps132
  go_wp2_with fail
  rw [← HW.out]
  refine (calls_wo hp).mono ?_
  rintro e w2 ⟨rfl, v2, no2, ys, hq⟩
  obtain ⟨ao, n, c, rfl, -, -, -⟩ := hq.wp.wm.own.rd.shape
  obtain ⟨z0, z1, f0, f1⟩ := hq.wp.wm.facts
  have HQ : Hid (WQ (wTick) 67109213 w0.heap.size (.slice none 0 0) w1 w2 (.slice ao n c) false no2 [] ys x) := by show WQ _ _ _ _ _ _ _ _ _ _ _ _; rw [HS0.out]; exact hq
  clear hq hp
  cases no2 with
  | true =>
    go_wp2
    go_ret
    exact ⟨_, rfl, (po_none HQ.out C1.out).ahead C0.out⟩
  | false =>
    go_wp2
    go_ret
    exact ⟨_, rfl, (po_some HQ.out C1.out).ahead C0.out⟩

set_option maxHeartbeats 800000 in
theorem putTicket_any (nA nB : Int) (a3 : Option Addr) (l3 c3 : Nat) (a4 : Option Addr) (l4 c4 : Nat) (a5 : Option Addr) (l5 c5 : Nat) (x : (tTick).Dat) (w : World) (h : Rel (tTick) (Bel w.heap.size) w [.int .u32 nA, .int .u32 nB, .slice a3 l3 c3, .slice a4 l4 c4, .slice a5 l5 c5] x) : Calls Try.prog 41 #[.agg #[.int .u32 nA, .int .u32 nB, .slice a3 l3 c3, .slice a4 l4 c4, .slice a5 l5 c5]] w fun e w' => ∃ v, e = .returned v ∧ PO (wTick) w w' v x := by
  obtain ⟨w0, hw0⟩ : ∃ w0, w0 = w.alloc (.cells #[.int .u32 nA, .int .u32 nB, .slice a3 l3 c3, .slice a4 l4 c4, .slice a5 l5 c5] 47) := ⟨_, rfl⟩
  have kc0 : Chg Non w w0 := by rw [hw0]; exact (Chg.refl _ _).alloc _
  have hp := putTm_any nA nB a3 l3 c3 a4 l4 c4 a5 l5 c5 x w0 ((h.oldN kc0).bel2 kc0.size)
  have HW : Hid (w0 = w.alloc (.cells #[.int .u32 nA, .int .u32 nB, .slice a3 l3 c3, .slice a4 l4 c4, .slice a5 l5 c5] 47)) := hw0
  have C0 : Hid (Chg Non w w0) := kc0
  clear h kc0 hw0
  go_enter Try.func41, Try.ntmps41
  go_wp2_with fail
  rw [← HW.out]
  refine hp.mono ?_
  rintro e w2 ⟨v, rfl, hq⟩
  obtain ⟨ao, n, c, rfl⟩ := hq.shape
  have HQ : Hid (PO (wTick) w w2 (.slice ao n c) x) := hq.ahead C0.out
  clear hq hp
  go_wp2
  go_ret
  exact ⟨_, rfl, HQ.out⟩

set_option maxHeartbeats 1600000 in
theorem putVm_any (n : Int) (ao : Option Addr) (L c : Nat) (x : (tExt).Dat) (w : World) (h : Rel (tExt) (Bel w.heap.size) w [.int .u16 n, .slice ao L c] x) : Calls Try.prog 134 #[.agg #[.int .u16 n, .slice ao L c], .func (.func 135) #[] #[]] w fun e w' => ∃ v, e = .returned v ∧ PO (wVer) w w' v x := by
  obtain ⟨w0, hw0⟩ : ∃ w0, w0 = w.alloc (.cells #[.int .u16 n, .slice ao L c] 49) := ⟨_, rfl⟩
  have kc0 : Chg Non w w0 := by rw [hw0]; exact (Chg.refl _ _).alloc _
  have hs0 : w0.heap.size = w.heap.size + 1 := by rw [hw0]; simp
  obtain ⟨w1, hw1⟩ : ∃ w1, w1 = w0.alloc (.cells #[.slice none 0 0, .bool false] 242) := ⟨_, rfl⟩
  have hm : WM w1 w0.heap.size (.slice none 0 0) false [] := by rw [hw1]; exact WM.begin w0
  have kc1 : Chg Non w0 w1 := by rw [hw1]; exact (Chg.refl _ _).alloc _
  have hb0 : Rel (tExt) (Bel w0.heap.size) w0 [.int .u16 n, .slice ao L c] x := (h.oldN kc0).bel2 kc0.size
  have hp := wverified_any w0.heap.size n ao L c x (.slice none 0 0) false [] w1 hm (hb0.begin kc1) (by simp)
  rw [hs0] at hp
  have HS0 : Hid (w0.heap.size = w.heap.size + 1) := hs0
  have HW : Hid (w1 = (w.alloc (.cells #[.int .u16 n, .slice ao L c] 49)).alloc (.cells #[.slice none 0 0, .bool false] 242)) := by show _ = _; rw [hw1, hw0]
  have C0 : Hid (Chg Non w w0) := kc0
  have C1 : Hid (Chg Non w0 w1) := kc1
  clear h hw0 hw1 hm kc0 kc1 hb0 hs0
  go_enter Try.func134, Try.ntmps134
  go_wp2_with fail
  rw [← HW.out]
  refine (calls_wo hp).mono ?_
  rintro e w2 ⟨rfl, v2, no2, ys, hq⟩
  obtain ⟨ao, n, c, rfl, -, -, -⟩ := hq.wp.wm.own.rd.shape
  obtain ⟨z0, z1, f0, f1⟩ := hq.wp.wm.facts
  have HQ : Hid (WQ (wVer) 16777303 w0.heap.size (.slice none 0 0) w1 w2 (.slice ao n c) false no2 [] ys x) := by show WQ _ _ _ _ _ _ _ _ _ _ _ _; rw [HS0.out]; exact hq
  clear hq hp
  cases no2 with
  | true =>
    go_wp2
    go_ret
    exact ⟨_, rfl, (po_none HQ.out C1.out).ahead C0.out⟩
  | false =>
    go_wp2
    go_ret
    exact ⟨_, rfl, (po_some HQ.out C1.out).ahead C0.out⟩

set_option maxHeartbeats 800000 in
theorem putVerify_any (n : Int) (ao : Option Addr) (L c : Nat) (x : (tExt).Dat) (w : World) (h : Rel (tExt) (Bel w.heap.size) w [.int .u16 n, .slice ao L c] x) : Calls Try.prog 43 #[.agg #[.int .u16 n, .slice ao L c]] w fun e w' => ∃ v, e = .returned v ∧ PO (wVer) w w' v x := by
  obtain ⟨w0, hw0⟩ : ∃ w0, w0 = w.alloc (.cells #[.int .u16 n, .slice ao L c] 49) := ⟨_, rfl⟩
  have kc0 : Chg Non w w0 := by rw [hw0]; exact (Chg.refl _ _).alloc _
  have hp := putVm_any n ao L c x w0 ((h.oldN kc0).bel2 kc0.size)
  have HW : Hid (w0 = w.alloc (.cells #[.int .u16 n, .slice ao L c] 49)) := hw0
  have C0 : Hid (Chg Non w w0) := kc0
  clear h kc0 hw0
  go_enter Try.func43, Try.ntmps43
  go_wp2_with fail
  rw [← HW.out]
  refine hp.mono ?_
  rintro e w2 ⟨v, rfl, hq⟩
  obtain ⟨ao, n, c, rfl⟩ := hq.shape
  have HQ : Hid (PO (wVer) w w2 (.slice ao n c) x) := hq.ahead C0.out
  clear hq hp
  go_wp2
  go_ret
  exact ⟨_, rfl, HQ.out⟩

set_option maxHeartbeats 1600000 in
theorem putRm_any (a1 : Option Addr) (l1 c1 : Nat) (a2 : Option Addr) (l2 c2 : Nat) (x : (tReq).Dat) (w : World) (h : Rel (tReq) (Bel w.heap.size) w [.slice a1 l1 c1, .slice a2 l2 c2] x) : Calls Try.prog 136 #[.agg #[.slice a1 l1 c1, .slice a2 l2 c2], .func (.func 137) #[] #[]] w fun e w' => ∃ v, e = .returned v ∧ PO (wReq) w w' v x := by
  obtain ⟨w0, hw0⟩ : ∃ w0, w0 = w.alloc (.cells #[.slice a1 l1 c1, .slice a2 l2 c2] 57) := ⟨_, rfl⟩
  have kc0 : Chg Non w w0 := by rw [hw0]; exact (Chg.refl _ _).alloc _
  have hs0 : w0.heap.size = w.heap.size + 1 := by rw [hw0]; simp
  obtain ⟨w1, hw1⟩ : ∃ w1, w1 = w0.alloc (.cells #[.slice none 0 0, .bool false] 242) := ⟨_, rfl⟩
  have hm : WM w1 w0.heap.size (.slice none 0 0) false [] := by rw [hw1]; exact WM.begin w0
  have kc1 : Chg Non w0 w1 := by rw [hw1]; exact (Chg.refl _ _).alloc _
  have hb0 : Rel (tReq) (Bel w0.heap.size) w0 [.slice a1 l1 c1, .slice a2 l2 c2] x := (h.oldN kc0).bel2 kc0.size
  have hp := wrequest_any w0.heap.size a1 l1 c1 a2 l2 c2 x (.slice none 0 0) false [] w1 hm (hb0.begin kc1) (by simp)
  rw [hs0] at hp
  have HS0 : Hid (w0.heap.size = w.heap.size + 1) := hs0
  have HW : Hid (w1 = (w.alloc (.cells #[.slice a1 l1 c1, .slice a2 l2 c2] 57)).alloc (.cells #[.slice none 0 0, .bool false] 242)) := by show _ = _; rw [hw1, hw0]
  have C0 : Hid (Chg Non w w0) := kc0
  have C1 : Hid (Chg Non w0 w1) := kc1
  clear h hw0 hw1 hm kc0 kc1 hb0 hs0
  go_enter Try.func136, Try.ntmps136
  go_wp2_with fail
  rw [← HW.out]
  refine (calls_wo hp).mono ?_
  rintro e w2 ⟨rfl, v2, no2, ys, hq⟩
  obtain ⟨ao, n, c, rfl, -, -, -⟩ := hq.wp.wm.own.rd.shape
  obtain ⟨z0, z1, f0, f1⟩ := hq.wp.wm.facts
  have HQ : Hid (WQ (wReq) 50331904 w0.heap.size (.slice none 0 0) w1 w2 (.slice ao n c) false no2 [] ys x) := by show WQ _ _ _ _ _ _ _ _ _ _ _ _; rw [HS0.out]; exact hq
  clear hq hp
  cases no2 with
  | true =>
    go_wp2
    go_ret
    exact ⟨_, rfl, (po_none HQ.out C1.out).ahead C0.out⟩
  | false =>
    go_wp2
    go_ret
    exact ⟨_, rfl, (po_some HQ.out C1.out).ahead C0.out⟩

set_option maxHeartbeats 800000 in
theorem putRequest_any (a1 : Option Addr) (l1 c1 : Nat) (a2 : Option Addr) (l2 c2 : Nat) (x : (tReq).Dat) (w : World) (h : Rel (tReq) (Bel w.heap.size) w [.slice a1 l1 c1, .slice a2 l2 c2] x) : Calls Try.prog 45 #[.agg #[.slice a1 l1 c1, .slice a2 l2 c2]] w fun e w' => ∃ v, e = .returned v ∧ PO (wReq) w w' v x := by
  obtain ⟨w0, hw0⟩ : ∃ w0, w0 = w.alloc (.cells #[.slice a1 l1 c1, .slice a2 l2 c2] 57) := ⟨_, rfl⟩
  have kc0 : Chg Non w w0 := by rw [hw0]; exact (Chg.refl _ _).alloc _
  have hp := putRm_any a1 l1 c1 a2 l2 c2 x w0 ((h.oldN kc0).bel2 kc0.size)
  have HW : Hid (w0 = w.alloc (.cells #[.slice a1 l1 c1, .slice a2 l2 c2] 57)) := hw0
  have C0 : Hid (Chg Non w w0) := kc0
  clear h kc0 hw0
  go_enter Try.func45, Try.ntmps45
  go_wp2_with fail
  rw [← HW.out]
  refine hp.mono ?_
  rintro e w2 ⟨v, rfl, hq⟩
  obtain ⟨ao, n, c, rfl⟩ := hq.shape
  have HQ : Hid (PO (wReq) w w2 (.slice ao n c) x) := hq.ahead C0.out
  clear hq hp
  go_wp2
  go_ret
  exact ⟨_, rfl, HQ.out⟩

set_option maxHeartbeats 1600000 in
theorem putTs_any (ao : Option Addr) (L c : Nat) (x : (Ty.lst .str).Dat) (w : World) (h : Rel (.lst .str) (Bel w.heap.size) w [.slice ao L c] x) (hx : ∀ a ∈ (show List (List Int) from x), List.length (α := Int) a ≤ 140737488355328) : Calls Try.prog 167 #[.slice ao L c, .func (.func 168) #[] #[]] w fun e w' => ∃ v, e = .returned v ∧ PO (wTexts) w w' v x := by
  obtain ⟨w1, hw1⟩ : ∃ w1, w1 = w.alloc (.cells #[.slice none 0 0, .bool false] 242) := ⟨_, rfl⟩
  have hm : WM w1 w.heap.size (.slice none 0 0) false [] := by rw [hw1]; exact WM.begin w
  have c1 : Chg Non w w1 := by rw [hw1]; exact (Chg.refl _ _).alloc _
  have hp := wprotocols_any w.heap.size ao L c x (.slice none 0 0) false [] w1 hm (h.begin c1) (by simp) hx
  have HW1 : Hid (w1 = w.alloc (.cells #[.slice none 0 0, .bool false] 242)) := hw1
  have C1 : Hid (Chg Non w w1) := c1
  clear h hw1 hm c1
  go_enter Try.func167, Try.ntmps167
  go_wp2_with fail
  rw [← HW1.out]
  refine (calls_wo hp).mono ?_
  rintro e w2 ⟨rfl, v2, no2, ys, hq⟩
  obtain ⟨ao, n, c, rfl, -, -, -⟩ := hq.wp.wm.own.rd.shape
  obtain ⟨z0, z1, f0, f1⟩ := hq.wp.wm.facts
  have HQ : Hid (WQ (wTexts) 33554601 w.heap.size (.slice none 0 0) w1 w2 (.slice ao n c) false no2 [] ys x) := hq
  clear hq hp
  cases no2 with
  | true =>
    go_wp2
    go_ret
    exact ⟨_, rfl, po_none HQ.out C1.out⟩
  | false =>
    go_wp2
    go_ret
    exact ⟨_, rfl, po_some HQ.out C1.out⟩

set_option maxHeartbeats 800000 in
theorem putALPN_any (ao : Option Addr) (L c : Nat) (x : (Ty.lst .str).Dat) (w : World) (h : Rel (.lst .str) (Bel w.heap.size) w [.slice ao L c] x) (hx : ∀ a ∈ (show List (List Int) from x), List.length (α := Int) a ≤ 140737488355328) : Calls Try.prog 81 #[.slice ao L c] w fun e w' => ∃ v, e = .returned v ∧ PO (wTexts) w w' v x := by
  have hp := putTs_any ao L c x w h hx
  clear h hx
  go_enter Try.func81, Try.ntmps81
  go_wp2_with (go_at_call 167; refine hp.mono ?_)
  rintro e w2 ⟨v, rfl, hq⟩
  obtain ⟨ao, n, c, rfl⟩ := hq.shape
  have HQ : Hid (PO (wTexts) w w2 (.slice ao n c) x) := hq
  clear hq hp
  go_wp2
  go_ret
  exact ⟨_, rfl, HQ.out⟩

set_option maxHeartbeats 1600000 in
theorem putSs_any (ao : Option Addr) (L c : Nat) (x : (Ty.lst tExt).Dat) (w : World) (h : Rel (.lst tExt) (Bel w.heap.size) w [.slice ao L c] x) : Calls Try.prog 171 #[.slice ao L c, .func (.func 172) #[] #[]] w fun e w' => ∃ v, e = .returned v ∧ PO (wShares) w w' v x := by
  obtain ⟨w1, hw1⟩ : ∃ w1, w1 = w.alloc (.cells #[.slice none 0 0, .bool false] 242) := ⟨_, rfl⟩
  have hm : WM w1 w.heap.size (.slice none 0 0) false [] := by rw [hw1]; exact WM.begin w
  have c1 : Chg Non w w1 := by rw [hw1]; exact (Chg.refl _ _).alloc _
  have hp := wshares_any w.heap.size ao L c x (.slice none 0 0) false [] w1 hm (h.begin c1) (by simp)
  have HW1 : Hid (w1 = w.alloc (.cells #[.slice none 0 0, .bool false] 242)) := hw1
  have C1 : Hid (Chg Non w w1) := c1
  clear h hw1 hm c1
  go_enter Try.func171, Try.ntmps171
  go_wp2_with fail
  rw [← HW1.out]
  refine (calls_wo hp).mono ?_
  rintro e w2 ⟨rfl, v2, no2, ys, hq⟩
  obtain ⟨ao, n, c, rfl, -, -, -⟩ := hq.wp.wm.own.rd.shape
  obtain ⟨z0, z1, f0, f1⟩ := hq.wp.wm.facts
  have HQ : Hid (WQ (wShares) 33554603 w.heap.size (.slice none 0 0) w1 w2 (.slice ao n c) false no2 [] ys x) := hq
  clear hq hp
  cases no2 with
  | true =>
    go_wp2
    go_ret
    exact ⟨_, rfl, po_none HQ.out C1.out⟩
  | false =>
    go_wp2
    go_ret
    exact ⟨_, rfl, po_some HQ.out C1.out⟩

set_option maxHeartbeats 800000 in
theorem putShares_any (ao : Option Addr) (L c : Nat) (x : (Ty.lst tExt).Dat) (w : World) (h : Rel (.lst tExt) (Bel w.heap.size) w [.slice ao L c] x) : Calls Try.prog 85 #[.slice ao L c] w fun e w' => ∃ v, e = .returned v ∧ PO (wShares) w w' v x := by
  have hp := putSs_any ao L c x w h
  clear h
  go_enter Try.func85, Try.ntmps85
  go_wp2_with (go_at_call 171; refine hp.mono ?_)
  rintro e w2 ⟨v, rfl, hq⟩
  obtain ⟨ao, n, c, rfl⟩ := hq.shape
  have HQ : Hid (PO (wShares) w w2 (.slice ao n c) x) := hq
  clear hq hp
  go_wp2
  go_ret
  exact ⟨_, rfl, HQ.out⟩
end Go.Proofs.Ytdhckndehijemaa
