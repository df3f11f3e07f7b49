/-
  The program's puts of numbers, versions, modes, a cookie, a staple, a number.
-/
import Derived.Test.YtdhckndehijemaaXp
import Derived.Test.YtdhckndehijemaaWn
namespace Go.Proofs.Ytdhckndehijemaa
open Go.RowKit
set_option linter.unusedVariables false
set_option maxRecDepth 100000

/-- A staple: a 1, and bytes. -/
def wStap : Pw (List Int) := wSeq (fun _ => (1 : Int)) (fun x => x) (wNum 1) (wBytes 3 1 16777216)
set_option maxHeartbeats 1600000 in
theorem wstaple_any (r : Nat) (ao : Option Addr) (L c : Nat) (x : List Int) (v : Value) (no : Bool) (xs : List Int) (w : World) (h : WM w r v no xs) (hx : Rel .byt (Fa r v w) w [.slice ao L c] x) (hl : xs.length ≤ 998000000000) :
    Calls Try.prog 177 #[.pointer (some ⟨r, 0, none⟩), .slice ao L c] w fun e w' => ∃ v' no' ys, e = .returned (.tuple #[]) ∧ WQ wStap 16777302 r v w w' v' no no' xs ys x := by
  have ho := woctet_any r 1 v no xs w h inK8' (by omega)
  have HX : Hid (WM w r v no xs ∧ Rel .byt (Fa r v w) w [.slice ao L c] x ∧ xs.length ≤ 998000000000) := ⟨h, hx, hl⟩
  clear h hx hl
  go_enter Try.func177, Try.ntmps177
  go_wp2_with (go_at_call 194; refine (calls_wo ho).mono ?_)
  rintro e w1 ⟨rfl, v1, n1, ys, h1⟩
  have H1 : Hid (WQ (wNum 1) 1 r v w w1 v1 no n1 xs ys 1) := h1
  clear h1 ho
  go_wp2_with (go_at_call 185; refine (filled_any 3 w1).mono ?_)
  first | (rintro e w2 rfl hc2) | (rintro e w2 ⟨rfl, hc2⟩)
  have C2 : Hid (Chg Non w1 w2) := hc2
  have hr1 : Rel .byt (Fa r v1 w1) w1 [.slice ao L c] x := Rel.fa (t := .byt) HX.out.2.1 H1.out.wp
  have hp := putB_any r 3 1 16777216 3 1 16777216 rfl rfl rfl (by decide) (by decide) (.slice ao L c) x v1 n1 (xs ++ ys) w2 (H1.out.wp.wm.non hc2) (Rel.faN (t := .byt) hr1 hc2).ofByt (by rw [List.length_append]; have := H1.out.len; have := HX.out.2.2; omega)
  clear hc2 hr1
  go_wp2_with (go_at_call 193; refine (calls_wo hp).mono ?_)
  rintro e w4 ⟨rfl, v4, n4, zs, h4⟩
  have H4 : Hid (WQ (wBytes 3 1 16777216) (16777300 + 1) r v1 w2 w4 v4 n1 n4 (xs ++ ys) zs x) := h4
  clear h4 hp
  go_wp2
  go_end0
  have h5 := WQ.seq (γ := List Int) (f := fun _ => (1 : Int)) (g := fun x => x) (x := x) H1.out (H4.out.ahead C2.out)
  exact ⟨v4, n4, _, rfl, h5.weak (by decide)⟩


set_option maxHeartbeats 1600000 in
theorem wnums_any (r : Nat) (ao : Option Addr) (L c : Nat) (l : (Ty.lst (.num .u16)).Dat) (v0 : Value) (n0 : Bool) (xs : List Int) (w : World) (h : WM w r v0 n0 xs) (hx : Rel (.lst (.num .u16)) (Fa r v0 w) w [.slice ao L c] l) (hl : xs.length ≤ 998000000000) :
    Calls Try.prog 164 #[.pointer (some ⟨r, 0, none⟩), .slice ao L c] w fun e w' => ∃ v' no' ys, e = .returned (.tuple #[]) ∧ WQ (wList 2 1 16777216 (wNum 2)) 16777302 r v0 w w' v' n0 no' xs ys l := by
  have hpb := fun u (hu : Chg Non w u) => putN_any r 2 1 16777216 2 1 16777216 rfl rfl rfl (by decide) (by decide) (.slice ao L c) l v0 n0 xs u (h.non hu) (hx.faN hu) (by omega)
  clear h hx hl
  go_enter Try.func164, Try.ntmps164
  go_wp2_with (go_at_call 185; refine (filled_any 2 w).mono ?_)
  first | (rintro e w2 rfl hc) | (rintro e w2 ⟨rfl, hc⟩)
  have C2 : Hid (Chg Non w w2) := hc
  have hp := hpb w2 hc
  clear hc hpb
  go_wp2_with (go_at_call 192; refine (calls_wo hp).mono ?_)
  rintro e w3 ⟨rfl, v3, n3, ys, h3⟩
  have H3 : Hid (WQ (wList 2 1 16777216 (wNum 2)) 16777302 r v0 w w3 v3 n0 n3 xs ys l) := (h3.weak (by decide)).ahead C2.out
  clear h3 hp
  go_wp2
  go_end0
  exact ⟨v3, n3, ys, rfl, H3.out⟩

set_option maxHeartbeats 1600000 in
theorem wvers_any (r : Nat) (ao : Option Addr) (L c : Nat) (l : (Ty.lst (.num .u16)).Dat) (v0 : Value) (n0 : Bool) (xs : List Int) (w : World) (h : WM w r v0 n0 xs) (hx : Rel (.lst (.num .u16)) (Fa r v0 w) w [.slice ao L c] l) (hl : xs.length ≤ 998000000000) :
    Calls Try.prog 166 #[.pointer (some ⟨r, 0, none⟩), .slice ao L c] w fun e w' => ∃ v' no' ys, e = .returned (.tuple #[]) ∧ WQ (wList 1 1 16777216 (wNum 2)) 16777302 r v0 w w' v' n0 no' xs ys l := by
  have hpb := fun u (hu : Chg Non w u) => putN_any r 1 1 16777216 1 1 16777216 rfl rfl rfl (by decide) (by decide) (.slice ao L c) l v0 n0 xs u (h.non hu) (hx.faN hu) (by omega)
  clear h hx hl
  go_enter Try.func166, Try.ntmps166
  go_wp2_with (go_at_call 185; refine (filled_any 1 w).mono ?_)
  first | (rintro e w2 rfl hc) | (rintro e w2 ⟨rfl, hc⟩)
  have C2 : Hid (Chg Non w w2) := hc
  have hp := hpb w2 hc
  clear hc hpb
  go_wp2_with (go_at_call 192; refine (calls_wo hp).mono ?_)
  rintro e w3 ⟨rfl, v3, n3, ys, h3⟩
  have H3 : Hid (WQ (wList 1 1 16777216 (wNum 2)) 16777302 r v0 w w3 v3 n0 n3 xs ys l) := (h3.weak (by decide)).ahead C2.out
  clear h3 hp
  go_wp2
  go_end0
  exact ⟨v3, n3, ys, rfl, H3.out⟩

set_option maxHeartbeats 1600000 in
theorem wmodes_any (r : Nat) (ao : Option Addr) (L c : Nat) (l : (Ty.byt).Dat) (v0 : Value) (n0 : Bool) (xs : List Int) (w : World) (h : WM w r v0 n0 xs) (hx : Rel (.byt) (Fa r v0 w) w [.slice ao L c] l) (hl : xs.length ≤ 998000000000) :
    Calls Try.prog 170 #[.pointer (some ⟨r, 0, none⟩), .slice ao L c] w fun e w' => ∃ v' no' ys, e = .returned (.tuple #[]) ∧ WQ (wBytes 1 1 16777216) 16777301 r v0 w w' v' n0 no' xs ys l := by
  have hpb := fun u (hu : Chg Non w u) => putB_any r 1 1 16777216 1 1 16777216 rfl rfl rfl (by decide) (by decide) (.slice ao L c) l v0 n0 xs u (h.non hu) (hx.faN hu).ofByt (by omega)
  clear h hx hl
  go_enter Try.func170, Try.ntmps170
  go_wp2_with (go_at_call 185; refine (filled_any 1 w).mono ?_)
  first | (rintro e w2 rfl hc) | (rintro e w2 ⟨rfl, hc⟩)
  have C2 : Hid (Chg Non w w2) := hc
  have hp := hpb w2 hc
  clear hc hpb
  go_wp2_with (go_at_call 193; refine (calls_wo hp).mono ?_)
  rintro e w3 ⟨rfl, v3, n3, ys, h3⟩
  have H3 : Hid (WQ (wBytes 1 1 16777216) 16777301 r v0 w w3 v3 n0 n3 xs ys l) := (h3.weak (by decide)).ahead C2.out
  clear h3 hp
  go_wp2
  go_end0
  exact ⟨v3, n3, ys, rfl, H3.out⟩

set_option maxHeartbeats 1600000 in
theorem wcook_any (r : Nat) (ao : Option Addr) (L c : Nat) (l : (Ty.byt).Dat) (v0 : Value) (n0 : Bool) (xs : List Int) (w : World) (h : WM w r v0 n0 xs) (hx : Rel (.byt) (Fa r v0 w) w [.slice ao L c] l) (hl : xs.length ≤ 998000000000) :
    Calls Try.prog 176 #[.pointer (some ⟨r, 0, none⟩), .slice ao L c] w fun e w' => ∃ v' no' ys, e = .returned (.tuple #[]) ∧ WQ (wBytes 2 1 16777216) 16777301 r v0 w w' v' n0 no' xs ys l := by
  have hpb := fun u (hu : Chg Non w u) => putB_any r 2 1 16777216 2 1 16777216 rfl rfl rfl (by decide) (by decide) (.slice ao L c) l v0 n0 xs u (h.non hu) (hx.faN hu).ofByt (by omega)
  clear h hx hl
  go_enter Try.func176, Try.ntmps176
  go_wp2_with (go_at_call 185; refine (filled_any 2 w).mono ?_)
  first | (rintro e w2 rfl hc) | (rintro e w2 ⟨rfl, hc⟩)
  have C2 : Hid (Chg Non w w2) := hc
  have hp := hpb w2 hc
  clear hc hpb
  go_wp2_with (go_at_call 193; refine (calls_wo hp).mono ?_)
  rintro e w3 ⟨rfl, v3, n3, ys, h3⟩
  have H3 : Hid (WQ (wBytes 2 1 16777216) 16777301 r v0 w w3 v3 n0 n3 xs ys l) := (h3.weak (by decide)).ahead C2.out
  clear h3 hp
  go_wp2
  go_end0
  exact ⟨v3, n3, ys, rfl, H3.out⟩

set_option maxHeartbeats 1600000 in
theorem putNs_any (ao : Option Addr) (L c : Nat) (x : (Ty.lst (.num .u16)).Dat) (w : World) (h : Rel (.lst (.num .u16)) (Bel w.heap.size) w [.slice ao L c] x) : Calls Try.prog 163 #[.slice ao L c, .func (.func 164) #[] #[]] w fun e w' => ∃ v, e = .returned v ∧ PO (wList 2 1 16777216 (wNum 2)) w w' v x := by
  obtain ⟨w1, hw1⟩ : ∃ w1, w1 = w.alloc (.cells #[.slice none 0 0, .bool false] 242) := ⟨_, rfl⟩
  have hm : WM w1 w.heap.size (.slice none 0 0) false [] := by rw [hw1]; exact WM.begin w
  have c1 : Chg Non w w1 := by rw [hw1]; exact (Chg.refl _ _).alloc _
  have hp := wnums_any w.heap.size ao L c x (.slice none 0 0) false [] w1 hm (h.begin c1) (by simp)
  have HW1 : Hid (w1 = w.alloc (.cells #[.slice none 0 0, .bool false] 242)) := hw1
  have C1 : Hid (Chg Non w w1) := c1
  clear h hw1 hm c1
  go_enter Try.func163, Try.ntmps163
  go_wp2_with fail
  rw [← HW1.out]
  refine (calls_wo hp).mono ?_
  rintro e w2 ⟨rfl, v2, no2, ys, hq⟩
  obtain ⟨ao, n, c, rfl, -, -, -⟩ := hq.wp.wm.own.rd.shape
  obtain ⟨z0, z1, f0, f1⟩ := hq.wp.wm.facts
  have HQ : Hid (WQ (wList 2 1 16777216 (wNum 2)) 16777302 w.heap.size (.slice none 0 0) w1 w2 (.slice ao n c) false no2 [] ys x) := hq
  clear hq hp
  cases no2 with
  | true =>
    go_wp2
    go_ret
    exact ⟨_, rfl, po_none HQ.out C1.out⟩
  | false =>
    go_wp2
    go_ret
    exact ⟨_, rfl, po_some HQ.out C1.out⟩

set_option maxHeartbeats 800000 in
theorem putList_any (ao : Option Addr) (L c : Nat) (x : (Ty.lst (.num .u16)).Dat) (w : World) (h : Rel (.lst (.num .u16)) (Bel w.heap.size) w [.slice ao L c] x) : Calls Try.prog 77 #[.slice ao L c] w fun e w' => ∃ v, e = .returned v ∧ PO (wList 2 1 16777216 (wNum 2)) w w' v x := by
  have hp := putNs_any ao L c x w h
  clear h
  go_enter Try.func77, Try.ntmps77
  go_wp2_with (go_at_call 163; refine hp.mono ?_)
  rintro e w2 ⟨v, rfl, hq⟩
  obtain ⟨ao, n, c, rfl⟩ := hq.shape
  have HQ : Hid (PO (wList 2 1 16777216 (wNum 2)) w w2 (.slice ao n c) x) := hq
  clear hq hp
  go_wp2
  go_ret
  exact ⟨_, rfl, HQ.out⟩

set_option maxHeartbeats 1600000 in
theorem putVs_any (ao : Option Addr) (L c : Nat) (x : (Ty.lst (.num .u16)).Dat) (w : World) (h : Rel (.lst (.num .u16)) (Bel w.heap.size) w [.slice ao L c] x) : Calls Try.prog 163 #[.slice ao L c, .func (.func 166) #[] #[]] w fun e w' => ∃ v, e = .returned v ∧ PO (wList 1 1 16777216 (wNum 2)) w w' v x := by
  obtain ⟨w1, hw1⟩ : ∃ w1, w1 = w.alloc (.cells #[.slice none 0 0, .bool false] 242) := ⟨_, rfl⟩
  have hm : WM w1 w.heap.size (.slice none 0 0) false [] := by rw [hw1]; exact WM.begin w
  have c1 : Chg Non w w1 := by rw [hw1]; exact (Chg.refl _ _).alloc _
  have hp := wvers_any w.heap.size ao L c x (.slice none 0 0) false [] w1 hm (h.begin c1) (by simp)
  have HW1 : Hid (w1 = w.alloc (.cells #[.slice none 0 0, .bool false] 242)) := hw1
  have C1 : Hid (Chg Non w w1) := c1
  clear h hw1 hm c1
  go_enter Try.func163, Try.ntmps163
  go_wp2_with fail
  rw [← HW1.out]
  refine (calls_wo hp).mono ?_
  rintro e w2 ⟨rfl, v2, no2, ys, hq⟩
  obtain ⟨ao, n, c, rfl, -, -, -⟩ := hq.wp.wm.own.rd.shape
  obtain ⟨z0, z1, f0, f1⟩ := hq.wp.wm.facts
  have HQ : Hid (WQ (wList 1 1 16777216 (wNum 2)) 16777302 w.heap.size (.slice none 0 0) w1 w2 (.slice ao n c) false no2 [] ys x) := hq
  clear hq hp
  cases no2 with
  | true =>
    go_wp2
    go_ret
    exact ⟨_, rfl, po_none HQ.out C1.out⟩
  | false =>
    go_wp2
    go_ret
    exact ⟨_, rfl, po_some HQ.out C1.out⟩

set_option maxHeartbeats 800000 in
theorem putVersions_any (ao : Option Addr) (L c : Nat) (x : (Ty.lst (.num .u16)).Dat) (w : World) (h : Rel (.lst (.num .u16)) (Bel w.heap.size) w [.slice ao L c] x) : Calls Try.prog 79 #[.slice ao L c] w fun e w' => ∃ v, e = .returned v ∧ PO (wList 1 1 16777216 (wNum 2)) w w' v x := by
  have hp := putVs_any ao L c x w h
  clear h
  go_enter Try.func79, Try.ntmps79
  go_wp2_with (go_at_call 163; refine hp.mono ?_)
  rintro e w2 ⟨v, rfl, hq⟩
  obtain ⟨ao, n, c, rfl⟩ := hq.shape
  have HQ : Hid (PO (wList 1 1 16777216 (wNum 2)) w w2 (.slice ao n c) x) := hq
  clear hq hp
  go_wp2
  go_ret
  exact ⟨_, rfl, HQ.out⟩

set_option maxHeartbeats 1600000 in
theorem putMo_any (ao : Option Addr) (L c : Nat) (x : (Ty.byt).Dat) (w : World) (h : Rel (.byt) (Bel w.heap.size) w [.slice ao L c] x) : Calls Try.prog 169 #[.slice ao L c, .func (.func 170) #[] #[]] w fun e w' => ∃ v, e = .returned v ∧ PO (wBytes 1 1 16777216) w w' v x := by
  obtain ⟨w1, hw1⟩ : ∃ w1, w1 = w.alloc (.cells #[.slice none 0 0, .bool false] 242) := ⟨_, rfl⟩
  have hm : WM w1 w.heap.size (.slice none 0 0) false [] := by rw [hw1]; exact WM.begin w
  have c1 : Chg Non w w1 := by rw [hw1]; exact (Chg.refl _ _).alloc _
  have hp := wmodes_any w.heap.size ao L c x (.slice none 0 0) false [] w1 hm (h.begin c1) (by simp)
  have HW1 : Hid (w1 = w.alloc (.cells #[.slice none 0 0, .bool false] 242)) := hw1
  have C1 : Hid (Chg Non w w1) := c1
  clear h hw1 hm c1
  go_enter Try.func169, Try.ntmps169
  go_wp2_with fail
  rw [← HW1.out]
  refine (calls_wo hp).mono ?_
  rintro e w2 ⟨rfl, v2, no2, ys, hq⟩
  obtain ⟨ao, n, c, rfl, -, -, -⟩ := hq.wp.wm.own.rd.shape
  obtain ⟨z0, z1, f0, f1⟩ := hq.wp.wm.facts
  have HQ : Hid (WQ (wBytes 1 1 16777216) 16777301 w.heap.size (.slice none 0 0) w1 w2 (.slice ao n c) false no2 [] ys x) := hq
  clear hq hp
  cases no2 with
  | true =>
    go_wp2
    go_ret
    exact ⟨_, rfl, po_none HQ.out C1.out⟩
  | false =>
    go_wp2
    go_ret
    exact ⟨_, rfl, po_some HQ.out C1.out⟩

set_option maxHeartbeats 800000 in
theorem putModes_any (ao : Option Addr) (L c : Nat) (x : (Ty.byt).Dat) (w : World) (h : Rel (.byt) (Bel w.heap.size) w [.slice ao L c] x) : Calls Try.prog 83 #[.slice ao L c] w fun e w' => ∃ v, e = .returned v ∧ PO (wBytes 1 1 16777216) w w' v x := by
  have hp := putMo_any ao L c x w h
  clear h
  go_enter Try.func83, Try.ntmps83
  go_wp2_with (go_at_call 169; refine hp.mono ?_)
  rintro e w2 ⟨v, rfl, hq⟩
  obtain ⟨ao, n, c, rfl⟩ := hq.shape
  have HQ : Hid (PO (wBytes 1 1 16777216) w w2 (.slice ao n c) x) := hq
  clear hq hp
  go_wp2
  go_ret
  exact ⟨_, rfl, HQ.out⟩

set_option maxHeartbeats 1600000 in
theorem putCk_any (ao : Option Addr) (L c : Nat) (x : (Ty.byt).Dat) (w : World) (h : Rel (.byt) (Bel w.heap.size) w [.slice ao L c] x) : Calls Try.prog 169 #[.slice ao L c, .func (.func 176) #[] #[]] w fun e w' => ∃ v, e = .returned v ∧ PO (wBytes 2 1 16777216) w w' v x := by
  obtain ⟨w1, hw1⟩ : ∃ w1, w1 = w.alloc (.cells #[.slice none 0 0, .bool false] 242) := ⟨_, rfl⟩
  have hm : WM w1 w.heap.size (.slice none 0 0) false [] := by rw [hw1]; exact WM.begin w
  have c1 : Chg Non w w1 := by rw [hw1]; exact (Chg.refl _ _).alloc _
  have hp := wcook_any w.heap.size ao L c x (.slice none 0 0) false [] w1 hm (h.begin c1) (by simp)
  have HW1 : Hid (w1 = w.alloc (.cells #[.slice none 0 0, .bool false] 242)) := hw1
  have C1 : Hid (Chg Non w w1) := c1
  clear h hw1 hm c1
  go_enter Try.func169, Try.ntmps169
  go_wp2_with fail
  rw [← HW1.out]
  refine (calls_wo hp).mono ?_
  rintro e w2 ⟨rfl, v2, no2, ys, hq⟩
  obtain ⟨ao, n, c, rfl, -, -, -⟩ := hq.wp.wm.own.rd.shape
  obtain ⟨z0, z1, f0, f1⟩ := hq.wp.wm.facts
  have HQ : Hid (WQ (wBytes 2 1 16777216) 16777301 w.heap.size (.slice none 0 0) w1 w2 (.slice ao n c) false no2 [] ys x) := hq
  clear hq hp
  cases no2 with
  | true =>
    go_wp2
    go_ret
    exact ⟨_, rfl, po_none HQ.out C1.out⟩
  | false =>
    go_wp2
    go_ret
    exact ⟨_, rfl, po_some HQ.out C1.out⟩

set_option maxHeartbeats 800000 in
theorem putCookie_any (ao : Option Addr) (L c : Nat) (x : (Ty.byt).Dat) (w : World) (h : Rel (.byt) (Bel w.heap.size) w [.slice ao L c] x) : Calls Try.prog 89 #[.slice ao L c] w fun e w' => ∃ v, e = .returned v ∧ PO (wBytes 2 1 16777216) w w' v x := by
  have hp := putCk_any ao L c x w h
  clear h
  go_enter Try.func89, Try.ntmps89
  go_wp2_with (go_at_call 169; refine hp.mono ?_)
  rintro e w2 ⟨v, rfl, hq⟩
  obtain ⟨ao, n, c, rfl⟩ := hq.shape
  have HQ : Hid (PO (wBytes 2 1 16777216) w w2 (.slice ao n c) x) := hq
  clear hq hp
  go_wp2
  go_ret
  exact ⟨_, rfl, HQ.out⟩

set_option maxHeartbeats 1600000 in
theorem putSt_any (ao : Option Addr) (L c : Nat) (x : (Ty.byt).Dat) (w : World) (h : Rel (.byt) (Bel w.heap.size) w [.slice ao L c] x) : Calls Try.prog 169 #[.slice ao L c, .func (.func 177) #[] #[]] w fun e w' => ∃ v, e = .returned v ∧ PO (wStap) w w' v x := by
  obtain ⟨w1, hw1⟩ : ∃ w1, w1 = w.alloc (.cells #[.slice none 0 0, .bool false] 242) := ⟨_, rfl⟩
  have hm : WM w1 w.heap.size (.slice none 0 0) false [] := by rw [hw1]; exact WM.begin w
  have c1 : Chg Non w w1 := by rw [hw1]; exact (Chg.refl _ _).alloc _
  have hp := wstaple_any w.heap.size ao L c x (.slice none 0 0) false [] w1 hm (h.begin c1) (by simp)
  have HW1 : Hid (w1 = w.alloc (.cells #[.slice none 0 0, .bool false] 242)) := hw1
  have C1 : Hid (Chg Non w w1) := c1
  clear h hw1 hm c1
  go_enter Try.func169, Try.ntmps169
  go_wp2_with fail
  rw [← HW1.out]
  refine (calls_wo hp).mono ?_
  rintro e w2 ⟨rfl, v2, no2, ys, hq⟩
  obtain ⟨ao, n, c, rfl, -, -, -⟩ := hq.wp.wm.own.rd.shape
  obtain ⟨z0, z1, f0, f1⟩ := hq.wp.wm.facts
  have HQ : Hid (WQ (wStap) 16777302 w.heap.size (.slice none 0 0) w1 w2 (.slice ao n c) false no2 [] ys x) := hq
  clear hq hp
  cases no2 with
  | true =>
    go_wp2
    go_ret
    exact ⟨_, rfl, po_none HQ.out C1.out⟩
  | false =>
    go_wp2
    go_ret
    exact ⟨_, rfl, po_some HQ.out C1.out⟩

set_option maxHeartbeats 800000 in
theorem putStatus_any (ao : Option Addr) (L c : Nat) (x : (Ty.byt).Dat) (w : World) (h : Rel (.byt) (Bel w.heap.size) w [.slice ao L c] x) : Calls Try.prog 91 #[.slice ao L c] w fun e w' => ∃ v, e = .returned v ∧ PO (wStap) w w' v x := by
  have hp := putSt_any ao L c x w h
  clear h
  go_enter Try.func91, Try.ntmps91
  go_wp2_with (go_at_call 169; refine hp.mono ?_)
  rintro e w2 ⟨v, rfl, hq⟩
  obtain ⟨ao, n, c, rfl⟩ := hq.shape
  have HQ : Hid (PO (wStap) w w2 (.slice ao n c) x) := hq
  clear hq hp
  go_wp2
  go_ret
  exact ⟨_, rfl, HQ.out⟩
end Go.Proofs.Ytdhckndehijemaa

namespace Go.Proofs.Ytdhckndehijemaa
open Go.RowKit
set_option linter.unusedVariables false
set_option maxRecDepth 100000

theorem wnumr_any (r : Nat) (n : Int) (x : (Ty.num .u16).Dat) (v : Value) (no : Bool) (xs : List Int) (w : World) (h : WM w r v no xs) (hx : Rel (.num .u16) (Fa r v w) w [.int .u16 n] x) (hl : xs.length ≤ 1000000000000) :
    Calls Try.prog 179 #[.pointer (some ⟨r, 0, none⟩), .int .u16 n] w fun e w' => ∃ v' no' ys, e = .returned (.tuple #[]) ∧ WQ (wNum 2) 2 r v w w' v' no no' xs ys x := by
  obtain ⟨e, k⟩ := hx
  injection e with e
  injection e with _ e
  rw [e]
  exact wnumber_any r x v no xs w h k hl


set_option maxHeartbeats 1600000 in
theorem putNm_any (n : Int) (x : (Ty.num .u16).Dat) (w : World) (h : Rel (.num .u16) (Bel w.heap.size) w [.int .u16 n] x) : Calls Try.prog 178 #[.int .u16 n, .func (.func 179) #[] #[]] w fun e w' => ∃ v, e = .returned v ∧ PO (wNum 2) w w' v x := by
  obtain ⟨w1, hw1⟩ : ∃ w1, w1 = w.alloc (.cells #[.slice none 0 0, .bool false] 242) := ⟨_, rfl⟩
  have hm : WM w1 w.heap.size (.slice none 0 0) false [] := by rw [hw1]; exact WM.begin w
  have c1 : Chg Non w w1 := by rw [hw1]; exact (Chg.refl _ _).alloc _
  have hp := wnumr_any w.heap.size n x (.slice none 0 0) false [] w1 hm (h.begin c1) (by simp)
  have HW1 : Hid (w1 = w.alloc (.cells #[.slice none 0 0, .bool false] 242)) := hw1
  have C1 : Hid (Chg Non w w1) := c1
  clear h hw1 hm c1
  go_enter Try.func178, Try.ntmps178
  go_wp2_with fail
  rw [← HW1.out]
  refine (calls_wo hp).mono ?_
  rintro e w2 ⟨rfl, v2, no2, ys, hq⟩
  obtain ⟨ao, n, c, rfl, -, -, -⟩ := hq.wp.wm.own.rd.shape
  obtain ⟨z0, z1, f0, f1⟩ := hq.wp.wm.facts
  have HQ : Hid (WQ (wNum 2) 2 w.heap.size (.slice none 0 0) w1 w2 (.slice ao n c) false no2 [] ys x) := hq
  clear hq hp
  cases no2 with
  | true =>
    go_wp2
    go_ret
    exact ⟨_, rfl, po_none HQ.out C1.out⟩
  | false =>
    go_wp2
    go_ret
    exact ⟨_, rfl, po_some HQ.out C1.out⟩

set_option maxHeartbeats 800000 in
theorem putNumber_any (n : Int) (x : (Ty.num .u16).Dat) (w : World) (h : Rel (.num .u16) (Bel w.heap.size) w [.int .u16 n] x) : Calls Try.prog 93 #[.int .u16 n] w fun e w' => ∃ v, e = .returned v ∧ PO (wNum 2) w w' v x := by
  have hp := putNm_any n x w h
  clear h
  go_enter Try.func93, Try.ntmps93
  go_wp2_with (go_at_call 178; refine hp.mono ?_)
  rintro e w2 ⟨v, rfl, hq⟩
  obtain ⟨ao, n, c, rfl⟩ := hq.shape
  have HQ : Hid (PO (wNum 2) w w2 (.slice ao n c) x) := hq
  clear hq hp
  go_wp2
  go_ret
  exact ⟨_, rfl, HQ.out⟩

set_option maxHeartbeats 1600000 in
theorem putSm_any (n : Int) (ao : Option Addr) (L c : Nat) (x : (tExt).Dat) (w : World) (h : Rel (tExt) (Bel w.heap.size) w [.int .u16 n, .slice ao L c] x) : Calls Try.prog 180 #[.agg #[.int .u16 n, .slice ao L c], .func (.func 181) #[] #[]] w fun e w' => ∃ v, e = .returned v ∧ PO (wShare) w w' v x := by
  obtain ⟨w0, hw0⟩ : ∃ w0, w0 = w.alloc (.cells #[.int .u16 n, .slice ao L c] 87) := ⟨_, rfl⟩
  have kc0 : Chg Non w w0 := by rw [hw0]; exact (Chg.refl _ _).alloc _
  have hs0 : w0.heap.size = w.heap.size + 1 := by rw [hw0]; simp
  obtain ⟨w1, hw1⟩ : ∃ w1, w1 = w0.alloc (.cells #[.slice none 0 0, .bool false] 242) := ⟨_, rfl⟩
  have hm : WM w1 w0.heap.size (.slice none 0 0) false [] := by rw [hw1]; exact WM.begin w0
  have kc1 : Chg Non w0 w1 := by rw [hw1]; exact (Chg.refl _ _).alloc _
  have hb0 : Rel (tExt) (Bel w0.heap.size) w0 [.int .u16 n, .slice ao L c] x := (h.oldN kc0).bel2 kc0.size
  have hp := wshare_any w0.heap.size n ao L c x (.slice none 0 0) false [] w1 hm (hb0.begin kc1) (by simp)
  rw [hs0] at hp
  have HS0 : Hid (w0.heap.size = w.heap.size + 1) := hs0
  have HW : Hid (w1 = (w.alloc (.cells #[.int .u16 n, .slice ao L c] 87)).alloc (.cells #[.slice none 0 0, .bool false] 242)) := by show _ = _; rw [hw1, hw0]
  have C0 : Hid (Chg Non w w0) := kc0
  have C1 : Hid (Chg Non w0 w1) := kc1
  clear h hw0 hw1 hm kc0 kc1 hb0 hs0
  go_enter Try.func180, Try.ntmps180
  go_wp2_with fail
  rw [← HW.out]
  refine (calls_wo hp).mono ?_
  rintro e w2 ⟨rfl, v2, no2, ys, hq⟩
  obtain ⟨ao, n, c, rfl, -, -, -⟩ := hq.wp.wm.own.rd.shape
  obtain ⟨z0, z1, f0, f1⟩ := hq.wp.wm.facts
  have HQ : Hid (WQ (wShare) 16777303 w0.heap.size (.slice none 0 0) w1 w2 (.slice ao n c) false no2 [] ys x) := by show WQ _ _ _ _ _ _ _ _ _ _ _ _; rw [HS0.out]; exact hq
  clear hq hp
  cases no2 with
  | true =>
    go_wp2
    go_ret
    exact ⟨_, rfl, (po_none HQ.out C1.out).ahead C0.out⟩
  | false =>
    go_wp2
    go_ret
    exact ⟨_, rfl, (po_some HQ.out C1.out).ahead C0.out⟩

set_option maxHeartbeats 800000 in
theorem putShare_any (n : Int) (ao : Option Addr) (L c : Nat) (x : (tExt).Dat) (w : World) (h : Rel (tExt) (Bel w.heap.size) w [.int .u16 n, .slice ao L c] x) : Calls Try.prog 95 #[.agg #[.int .u16 n, .slice ao L c]] w fun e w' => ∃ v, e = .returned v ∧ PO (wShare) w w' v x := by
  obtain ⟨w0, hw0⟩ : ∃ w0, w0 = w.alloc (.cells #[.int .u16 n, .slice ao L c] 87) := ⟨_, rfl⟩
  have kc0 : Chg Non w w0 := by rw [hw0]; exact (Chg.refl _ _).alloc _
  have hp := putSm_any n ao L c x w0 ((h.oldN kc0).bel2 kc0.size)
  have HW : Hid (w0 = w.alloc (.cells #[.int .u16 n, .slice ao L c] 87)) := hw0
  have C0 : Hid (Chg Non w w0) := kc0
  clear h kc0 hw0
  go_enter Try.func95, Try.ntmps95
  go_wp2_with fail
  rw [← HW.out]
  refine hp.mono ?_
  rintro e w2 ⟨v, rfl, hq⟩
  obtain ⟨ao, n, c, rfl⟩ := hq.shape
  have HQ : Hid (PO (wShare) w w2 (.slice ao n c) x) := hq.ahead C0.out
  clear hq hp
  go_wp2
  go_ret
  exact ⟨_, rfl, HQ.out⟩
end Go.Proofs.Ytdhckndehijemaa
