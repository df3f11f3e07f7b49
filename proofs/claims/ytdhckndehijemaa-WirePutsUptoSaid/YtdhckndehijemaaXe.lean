/-
  Messages that are written.
-/
import Derived.Test.YtdhckndehijemaaXd
import Derived.Test.YtdhckndehijemaaXs2
import Derived.Test.YtdhckndehijemaaWh
namespace Go.Proofs.Ytdhckndehijemaa
open Go.RowKit
set_option linter.unusedVariables false
set_option maxRecDepth 100000


set_option maxHeartbeats 3200000 in
theorem wcertMsg_any (r : Nat) (a1 : Option Addr) (l1 c1 : Nat) (a2 : Option Addr) (l2 c2 : Nat) (x : (tCert).Dat) (v0 : Value) (n0 : Bool) (xs : List Int) (w : World) (h : WM w r v0 n0 xs) (hx : Rel (tCert) (Fa r v0 w) w [.slice a1 l1 c1, .slice a2 l2 c2] x) (hl : xs.length ≤ 994000000000) :
    Calls Try.prog 131 #[.pointer (some ⟨r, 0, none⟩), .agg #[.slice a1 l1 c1, .slice a2 l2 c2]] w fun e w' => ∃ v' no' ys, e = .returned (.tuple #[]) ∧ WQ (wCert) 83886505 r v0 w w' v' n0 no' xs ys x := by
  obtain ⟨w0, hw0⟩ : ∃ w0, w0 = w.alloc (.cells #[.slice a1 l1 c1, .slice a2 l2 c2] 44) := ⟨_, rfl⟩
  have hc0 : Chg Non w w0 := by rw [hw0]; exact (Chg.refl _ _).alloc _
  have C0 : Hid (Chg Non w w0) := hc0
  have B0 : Hid (Bk w0 r v0 w.heap.size (.cells #[.slice a1 l1 c1, .slice a2 l2 c2] 44)) := by show Bk _ _ _ _ _; rw [hw0]; exact Bk.new h _
  have HW0 : Hid (w0 = w.alloc (.cells #[.slice a1 l1 c1, .slice a2 l2 c2] 44)) := hw0
  have HM : Hid (WM w0 r v0 n0 xs) := h.non hc0
  have HX : Hid (xs.length ≤ 994000000000) := hl
  have hx0 := hx.faN hc0
  obtain ⟨g1, hx1⟩ := Rel.split (us1 := [.slice a1 l1 c1]) (us2 := [.slice a2 l2 c2]) hx0 rfl
  have g2 := hx1
  have F1_0 : Hid (Rel (.byt) (Fa r v0 w0) w0 [.slice a1 l1 c1] (x.1)) := g1
  have F2_0 : Hid (Rel (.lst tEntry) (Fa r v0 w0) w0 [.slice a2 l2 c2] (x.2)) := g2
  clear h hx hl hc0 hw0 hx0 hx1 g1 g2
  have y0 : w0.cell? ⟨w.heap.size, 0, none⟩ = some (.slice a1 l1 c1) := B0.out.cell rfl
  have hfr1 := fun u => free_any 1 u
  have hpb1 := fun u (hu : Chg Non w0 u) => putB_any r 1 0 16777216 1 0 16777216 rfl rfl rfl (by decide) (by decide) (.slice a1 l1 c1) (x.1) v0 n0 xs u (HM.out.non hu) (F1_0.out.faN hu).ofByt (by have := HX.out; omega)
  have HSS1 : Hid (∀ u, Chg Non w0 u → u.cell? ⟨w.heap.size, 0, none⟩ = some (.slice a1 l1 c1)) := fun u hu => (B0.out.non hu).cell rfl
  have HSP1 : Hid (∀ u u6 v6 n6 zs, Chg Non w0 u → WP r v0 u u6 v6 n6 zs → u6.cell? ⟨w.heap.size, 0, none⟩ = some (.slice a1 l1 c1)) := fun u u6 v6 n6 zs hu hp => ((B0.out.non hu).wp hp).cell rfl
  go_enter Try.func131, Try.ntmps131
  go_wp2_with fail
  rw [← HW0.out]
  go_region_held3 (fun q => q.cell? ⟨w.heap.size, 0, none⟩ = some (.slice a1 l1 c1)) (first | exact HSS1.out _ (Chg.refl _ _).drew | exact hS6 | exact HSS1.out _ hu5) (first | (go_at_call 197; refine (hfr1 _).mono ?_; first | (rintro e u rfl hcu) | (rintro e u ⟨rfl, hcu⟩); have hu5 : Chg Non w0 u := ((Chg.refl Non w0).drew).two hcu; clear hcu) | (go_at_call 193; refine (calls_wo (hpb1 _ hu5)).mono ?_; rintro e w1 ⟨rfl, v1, n1, ys1, h1⟩; have hS6 := HSP1.out _ _ _ _ _ hu5 h1.wp))
  have H1 : Hid (WQ (wBytes 1 0 16777216) 16777301 r v0 w0 w1 v1 n0 n1 xs ys1 (x.1)) := (h1.weak (by decide)).ahead hu5
  have B1 : Hid (Bk w1 r v1 w.heap.size (.cells #[.slice a1 l1 c1, .slice a2 l2 c2] 44)) := B0.out.wp H1.out.wp
  clear h1 hfr1 hpb1 hS6 hu5 y0
  have F2_1 : Hid (Rel (.lst tEntry) (Fa r v1 w1) w1 [.slice a2 l2 c2] (x.2)) := F2_0.out.fa H1.out.wp
  have y1 : w1.cell? ⟨w.heap.size, 1, none⟩ = some (.slice a2 l2 c2) := B1.out.cell rfl
  have hfr2 := fun u => free_any 3 u
  have hpb2 := fun u (hu : Chg Non w1 u) => putC_any r 3 0 16777216 3 0 16777216 rfl rfl rfl (by decide) (by decide) (.slice a2 l2 c2) (x.2) v1 n1 (xs ++ ys1) u (H1.out.wp.wm.non hu) (F2_1.out.faN hu) (by simp only [List.length_append]; have := H1.out.len; have := HX.out; omega)
  have HSS2 : Hid (∀ u, Chg Non w1 u → u.cell? ⟨w.heap.size, 1, none⟩ = some (.slice a2 l2 c2)) := fun u hu => (B1.out.non hu).cell rfl
  have HSP2 : Hid (∀ u u6 v6 n6 zs, Chg Non w1 u → WP r v1 u u6 v6 n6 zs → u6.cell? ⟨w.heap.size, 1, none⟩ = some (.slice a2 l2 c2)) := fun u u6 v6 n6 zs hu hp => ((B1.out.non hu).wp hp).cell rfl
  go_wp2_with fail
  go_region_held3 (fun q => q.cell? ⟨w.heap.size, 1, none⟩ = some (.slice a2 l2 c2)) (first | exact HSS2.out _ (Chg.refl _ _).drew | exact hS6 | exact HSS2.out _ hu5) (first | (go_at_call 197; refine (hfr2 _).mono ?_; first | (rintro e u rfl hcu) | (rintro e u ⟨rfl, hcu⟩); have hu5 : Chg Non w1 u := ((Chg.refl Non w1).drew).two hcu; clear hcu) | (go_at_call 205; refine (calls_wo (hpb2 _ hu5)).mono ?_; rintro e w2 ⟨rfl, v2, n2, ys2, h2⟩; have hS6 := HSP2.out _ _ _ _ _ hu5 h2.wp))
  have H2 : Hid (WQ (wList 3 0 16777216 wEntry) 67109204 r v1 w1 w2 v2 n1 n2 (xs ++ ys1) ys2 (x.2)) := (h2.weak (by decide)).ahead hu5
  have B2 : Hid (Bk w2 r v2 w.heap.size (.cells #[.slice a1 l1 c1, .slice a2 l2 c2] 44)) := B1.out.wp H2.out.wp
  clear h2 hfr2 hpb2 hS6 hu5 y1
  go_wp2
  go_end0
  exact ⟨v2, n2, _, rfl, (WQ.seq (f := Prod.fst) (g := Prod.snd) (x := x) H1.out H2.out).ahead C0.out⟩

set_option maxHeartbeats 3200000 in
theorem wrequest_any (r : Nat) (a1 : Option Addr) (l1 c1 : Nat) (a2 : Option Addr) (l2 c2 : Nat) (x : (tReq).Dat) (v0 : Value) (n0 : Bool) (xs : List Int) (w : World) (h : WM w r v0 n0 xs) (hx : Rel (tReq) (Fa r v0 w) w [.slice a1 l1 c1, .slice a2 l2 c2] x) (hl : xs.length ≤ 994000000000) :
    Calls Try.prog 137 #[.pointer (some ⟨r, 0, none⟩), .agg #[.slice a1 l1 c1, .slice a2 l2 c2]] w fun e w' => ∃ v' no' ys, e = .returned (.tuple #[]) ∧ WQ (wReq) 50331904 r v0 w w' v' n0 no' xs ys x := by
  obtain ⟨w0, hw0⟩ : ∃ w0, w0 = w.alloc (.cells #[.slice a1 l1 c1, .slice a2 l2 c2] 57) := ⟨_, rfl⟩
  have hc0 : Chg Non w w0 := by rw [hw0]; exact (Chg.refl _ _).alloc _
  have C0 : Hid (Chg Non w w0) := hc0
  have B0 : Hid (Bk w0 r v0 w.heap.size (.cells #[.slice a1 l1 c1, .slice a2 l2 c2] 57)) := by show Bk _ _ _ _ _; rw [hw0]; exact Bk.new h _
  have HW0 : Hid (w0 = w.alloc (.cells #[.slice a1 l1 c1, .slice a2 l2 c2] 57)) := hw0
  have HM : Hid (WM w0 r v0 n0 xs) := h.non hc0
  have HX : Hid (xs.length ≤ 994000000000) := hl
  have hx0 := hx.faN hc0
  obtain ⟨g1, hx1⟩ := Rel.split (us1 := [.slice a1 l1 c1]) (us2 := [.slice a2 l2 c2]) hx0 rfl
  have g2 := hx1
  have F1_0 : Hid (Rel (.byt) (Fa r v0 w0) w0 [.slice a1 l1 c1] (x.1)) := g1
  have F2_0 : Hid (Rel (.lst tExt) (Fa r v0 w0) w0 [.slice a2 l2 c2] (x.2)) := g2
  clear h hx hl hc0 hw0 hx0 hx1 g1 g2
  have y0 : w0.cell? ⟨w.heap.size, 0, none⟩ = some (.slice a1 l1 c1) := B0.out.cell rfl
  have hfr1 := fun u => free_any 1 u
  have hpb1 := fun u (hu : Chg Non w0 u) => putB_any r 1 0 16777216 1 0 16777216 rfl rfl rfl (by decide) (by decide) (.slice a1 l1 c1) (x.1) v0 n0 xs u (HM.out.non hu) (F1_0.out.faN hu).ofByt (by have := HX.out; omega)
  have HSS1 : Hid (∀ u, Chg Non w0 u → u.cell? ⟨w.heap.size, 0, none⟩ = some (.slice a1 l1 c1)) := fun u hu => (B0.out.non hu).cell rfl
  have HSP1 : Hid (∀ u u6 v6 n6 zs, Chg Non w0 u → WP r v0 u u6 v6 n6 zs → u6.cell? ⟨w.heap.size, 0, none⟩ = some (.slice a1 l1 c1)) := fun u u6 v6 n6 zs hu hp => ((B0.out.non hu).wp hp).cell rfl
  go_enter Try.func137, Try.ntmps137
  go_wp2_with fail
  rw [← HW0.out]
  go_region_held3 (fun q => q.cell? ⟨w.heap.size, 0, none⟩ = some (.slice a1 l1 c1)) (first | exact HSS1.out _ (Chg.refl _ _).drew | exact hS6 | exact HSS1.out _ hu5) (first | (go_at_call 197; refine (hfr1 _).mono ?_; first | (rintro e u rfl hcu) | (rintro e u ⟨rfl, hcu⟩); have hu5 : Chg Non w0 u := ((Chg.refl Non w0).drew).two hcu; clear hcu) | (go_at_call 193; refine (calls_wo (hpb1 _ hu5)).mono ?_; rintro e w1 ⟨rfl, v1, n1, ys1, h1⟩; have hS6 := HSP1.out _ _ _ _ _ hu5 h1.wp))
  have H1 : Hid (WQ (wBytes 1 0 16777216) 16777301 r v0 w0 w1 v1 n0 n1 xs ys1 (x.1)) := (h1.weak (by decide)).ahead hu5
  have B1 : Hid (Bk w1 r v1 w.heap.size (.cells #[.slice a1 l1 c1, .slice a2 l2 c2] 57)) := B0.out.wp H1.out.wp
  clear h1 hfr1 hpb1 hS6 hu5 y0
  have F2_1 : Hid (Rel (.lst tExt) (Fa r v1 w1) w1 [.slice a2 l2 c2] (x.2)) := F2_0.out.fa H1.out.wp
  have y1 : w1.cell? ⟨w.heap.size, 1, none⟩ = some (.slice a2 l2 c2) := B1.out.cell rfl
  have hp2 := wexts_any r a2 l2 c2 (x.2) v1 n1 (xs ++ ys1) w1 H1.out.wp.wm F2_1.out (by simp only [List.length_append]; have := H1.out.len; have := HX.out; omega)
  go_wp2_with (go_at_call 139; refine (calls_wo hp2).mono ?_)
  rintro e w2 ⟨rfl, v2, n2, ys2, h2⟩
  have H2 : Hid (WQ (wExts) 33554603 r v1 w1 w2 v2 n1 n2 (xs ++ ys1) ys2 (x.2)) := h2
  have B2 : Hid (Bk w2 r v2 w.heap.size (.cells #[.slice a1 l1 c1, .slice a2 l2 c2] 57)) := B1.out.wp h2.wp
  clear h2 hp2 y1
  go_wp2
  go_end0
  exact ⟨v2, n2, _, rfl, (WQ.seq (f := Prod.fst) (g := Prod.snd) (x := x) H1.out H2.out).ahead C0.out⟩

set_option maxHeartbeats 3200000 in
theorem wticketMsg_any (r : Nat) (nA nB : Int) (a3 : Option Addr) (l3 c3 : Nat) (a4 : Option Addr) (l4 c4 : Nat) (a5 : Option Addr) (l5 c5 : Nat) (x : (tTick).Dat) (v0 : Value) (n0 : Bool) (xs : List Int) (w : World) (h : WM w r v0 n0 xs) (hx : Rel (tTick) (Fa r v0 w) w [.int .u32 nA, .int .u32 nB, .slice a3 l3 c3, .slice a4 l4 c4, .slice a5 l5 c5] x) (hl : xs.length ≤ 994000000000) :
    Calls Try.prog 133 #[.pointer (some ⟨r, 0, none⟩), .agg #[.int .u32 nA, .int .u32 nB, .slice a3 l3 c3, .slice a4 l4 c4, .slice a5 l5 c5]] w fun e w' => ∃ v' no' ys, e = .returned (.tuple #[]) ∧ WQ (wTick) 67109213 r v0 w w' v' n0 no' xs ys x := by
  obtain ⟨w0, hw0⟩ : ∃ w0, w0 = w.alloc (.cells #[.int .u32 nA, .int .u32 nB, .slice a3 l3 c3, .slice a4 l4 c4, .slice a5 l5 c5] 47) := ⟨_, rfl⟩
  have hc0 : Chg Non w w0 := by rw [hw0]; exact (Chg.refl _ _).alloc _
  have C0 : Hid (Chg Non w w0) := hc0
  have B0 : Hid (Bk w0 r v0 w.heap.size (.cells #[.int .u32 nA, .int .u32 nB, .slice a3 l3 c3, .slice a4 l4 c4, .slice a5 l5 c5] 47)) := by show Bk _ _ _ _ _; rw [hw0]; exact Bk.new h _
  have HW0 : Hid (w0 = w.alloc (.cells #[.int .u32 nA, .int .u32 nB, .slice a3 l3 c3, .slice a4 l4 c4, .slice a5 l5 c5] 47)) := hw0
  have HM : Hid (WM w0 r v0 n0 xs) := h.non hc0
  have HX : Hid (xs.length ≤ 994000000000) := hl
  have hx0 := hx.faN hc0
  obtain ⟨g1, hx1⟩ := Rel.split (us1 := [.int .u32 nA]) (us2 := [.int .u32 nB, .slice a3 l3 c3, .slice a4 l4 c4, .slice a5 l5 c5]) hx0 rfl
  obtain ⟨g2, hx2⟩ := Rel.split (us1 := [.int .u32 nB]) (us2 := [.slice a3 l3 c3, .slice a4 l4 c4, .slice a5 l5 c5]) hx1 rfl
  obtain ⟨g3, hx3⟩ := Rel.split (us1 := [.slice a3 l3 c3]) (us2 := [.slice a4 l4 c4, .slice a5 l5 c5]) hx2 rfl
  obtain ⟨g4, hx4⟩ := Rel.split (us1 := [.slice a4 l4 c4]) (us2 := [.slice a5 l5 c5]) hx3 rfl
  have g5 := hx4
  obtain ⟨e1, k1⟩ : ([Value.int .u32 nA] = [Value.int .u32 (x.1)]) ∧ InK .u32 (x.1) := g1
  have N1 : Hid (nA = x.1 ∧ InK .u32 nA) := by
    injection e1 with e1
    injection e1 with _ e1
    exact ⟨e1, by rw [e1]; exact k1⟩
  obtain ⟨e2, k2⟩ : ([Value.int .u32 nB] = [Value.int .u32 (x.2.1)]) ∧ InK .u32 (x.2.1) := g2
  have N2 : Hid (nB = x.2.1 ∧ InK .u32 nB) := by
    injection e2 with e2
    injection e2 with _ e2
    exact ⟨e2, by rw [e2]; exact k2⟩
  have F3_0 : Hid (Rel (.byt) (Fa r v0 w0) w0 [.slice a3 l3 c3] (x.2.2.1)) := g3
  have F4_0 : Hid (Rel (.byt) (Fa r v0 w0) w0 [.slice a4 l4 c4] (x.2.2.2.1)) := g4
  have F5_0 : Hid (Rel (.lst tExt) (Fa r v0 w0) w0 [.slice a5 l5 c5] (x.2.2.2.2)) := g5
  clear h hx hl hc0 hw0 hx0 hx1 hx2 hx3 hx4 g3 g4 g5 e1 k1 e2 k2
  have y0 : w0.cell? ⟨w.heap.size, 0, none⟩ = some (.int .u32 nA) := B0.out.cell rfl
  have hp1 := wlong_any r nA v0 n0 xs w0 HM.out N1.out.2 (by have := HX.out; omega)
  go_enter Try.func133, Try.ntmps133
  go_wp2_with fail
  rw [← HW0.out]
  refine (calls_wo hp1).mono ?_
  rintro e w1 ⟨rfl, v1, n1, ys1, h1⟩
  have H1 : Hid (WQ (wNum 4) 4 r v0 w0 w1 v1 n0 n1 xs ys1 (x.1)) := by rw [← N1.out.1]; exact h1
  have B1 : Hid (Bk w1 r v1 w.heap.size (.cells #[.int .u32 nA, .int .u32 nB, .slice a3 l3 c3, .slice a4 l4 c4, .slice a5 l5 c5] 47)) := B0.out.wp h1.wp
  clear h1 hp1 y0
  have F3_1 : Hid (Rel (.byt) (Fa r v1 w1) w1 [.slice a3 l3 c3] (x.2.2.1)) := F3_0.out.fa H1.out.wp
  have F4_1 : Hid (Rel (.byt) (Fa r v1 w1) w1 [.slice a4 l4 c4] (x.2.2.2.1)) := F4_0.out.fa H1.out.wp
  have F5_1 : Hid (Rel (.lst tExt) (Fa r v1 w1) w1 [.slice a5 l5 c5] (x.2.2.2.2)) := F5_0.out.fa H1.out.wp
  have y1 : w1.cell? ⟨w.heap.size, 1, none⟩ = some (.int .u32 nB) := B1.out.cell rfl
  have hp2 := wlong_any r nB v1 n1 (xs ++ ys1) w1 H1.out.wp.wm N2.out.2 (by simp only [List.length_append]; have := H1.out.len; have := HX.out; omega)
  go_wp2_with (go_at_call 207; refine (calls_wo hp2).mono ?_)
  rintro e w2 ⟨rfl, v2, n2, ys2, h2⟩
  have H2 : Hid (WQ (wNum 4) 4 r v1 w1 w2 v2 n1 n2 (xs ++ ys1) ys2 (x.2.1)) := by rw [← N2.out.1]; exact h2
  have B2 : Hid (Bk w2 r v2 w.heap.size (.cells #[.int .u32 nA, .int .u32 nB, .slice a3 l3 c3, .slice a4 l4 c4, .slice a5 l5 c5] 47)) := B1.out.wp h2.wp
  clear h2 hp2 y1
  have F3_2 : Hid (Rel (.byt) (Fa r v2 w2) w2 [.slice a3 l3 c3] (x.2.2.1)) := F3_1.out.fa H2.out.wp
  have F4_2 : Hid (Rel (.byt) (Fa r v2 w2) w2 [.slice a4 l4 c4] (x.2.2.2.1)) := F4_1.out.fa H2.out.wp
  have F5_2 : Hid (Rel (.lst tExt) (Fa r v2 w2) w2 [.slice a5 l5 c5] (x.2.2.2.2)) := F5_1.out.fa H2.out.wp
  have y2 : w2.cell? ⟨w.heap.size, 2, none⟩ = some (.slice a3 l3 c3) := B2.out.cell rfl
  have hfr3 := fun u => free_any 1 u
  have hpb3 := fun u (hu : Chg Non w2 u) => putB_any r 1 0 16777216 1 0 16777216 rfl rfl rfl (by decide) (by decide) (.slice a3 l3 c3) (x.2.2.1) v2 n2 ((xs ++ ys1) ++ ys2) u (H2.out.wp.wm.non hu) (F3_2.out.faN hu).ofByt (by simp only [List.length_append]; have := H1.out.len; have := H2.out.len; have := HX.out; omega)
  have HSS3 : Hid (∀ u, Chg Non w2 u → u.cell? ⟨w.heap.size, 2, none⟩ = some (.slice a3 l3 c3)) := fun u hu => (B2.out.non hu).cell rfl
  have HSP3 : Hid (∀ u u6 v6 n6 zs, Chg Non w2 u → WP r v2 u u6 v6 n6 zs → u6.cell? ⟨w.heap.size, 2, none⟩ = some (.slice a3 l3 c3)) := fun u u6 v6 n6 zs hu hp => ((B2.out.non hu).wp hp).cell rfl
  go_wp2_with fail
  go_region_held3 (fun q => q.cell? ⟨w.heap.size, 2, none⟩ = some (.slice a3 l3 c3)) (first | exact HSS3.out _ (Chg.refl _ _).drew | exact hS6 | exact HSS3.out _ hu5) (first | (go_at_call 197; refine (hfr3 _).mono ?_; first | (rintro e u rfl hcu) | (rintro e u ⟨rfl, hcu⟩); have hu5 : Chg Non w2 u := ((Chg.refl Non w2).drew).two hcu; clear hcu) | (go_at_call 193; refine (calls_wo (hpb3 _ hu5)).mono ?_; rintro e w3 ⟨rfl, v3, n3, ys3, h3⟩; have hS6 := HSP3.out _ _ _ _ _ hu5 h3.wp))
  have H3 : Hid (WQ (wBytes 1 0 16777216) 16777301 r v2 w2 w3 v3 n2 n3 ((xs ++ ys1) ++ ys2) ys3 (x.2.2.1)) := (h3.weak (by decide)).ahead hu5
  have B3 : Hid (Bk w3 r v3 w.heap.size (.cells #[.int .u32 nA, .int .u32 nB, .slice a3 l3 c3, .slice a4 l4 c4, .slice a5 l5 c5] 47)) := B2.out.wp H3.out.wp
  clear h3 hfr3 hpb3 hS6 hu5 y2
  have F4_3 : Hid (Rel (.byt) (Fa r v3 w3) w3 [.slice a4 l4 c4] (x.2.2.2.1)) := F4_2.out.fa H3.out.wp
  have F5_3 : Hid (Rel (.lst tExt) (Fa r v3 w3) w3 [.slice a5 l5 c5] (x.2.2.2.2)) := F5_2.out.fa H3.out.wp
  have y3 : w3.cell? ⟨w.heap.size, 3, none⟩ = some (.slice a4 l4 c4) := B3.out.cell rfl
  have hfr4 := fun u => filled_any 2 u
  have hpb4 := fun u (hu : Chg Non w3 u) => putB_any r 2 1 16777216 2 1 16777216 rfl rfl rfl (by decide) (by decide) (.slice a4 l4 c4) (x.2.2.2.1) v3 n3 (((xs ++ ys1) ++ ys2) ++ ys3) u (H3.out.wp.wm.non hu) (F4_3.out.faN hu).ofByt (by simp only [List.length_append]; have := H1.out.len; have := H2.out.len; have := H3.out.len; have := HX.out; omega)
  have HSS4 : Hid (∀ u, Chg Non w3 u → u.cell? ⟨w.heap.size, 3, none⟩ = some (.slice a4 l4 c4)) := fun u hu => (B3.out.non hu).cell rfl
  have HSP4 : Hid (∀ u u6 v6 n6 zs, Chg Non w3 u → WP r v3 u u6 v6 n6 zs → u6.cell? ⟨w.heap.size, 3, none⟩ = some (.slice a4 l4 c4)) := fun u u6 v6 n6 zs hu hp => ((B3.out.non hu).wp hp).cell rfl
  go_wp2_with fail
  go_region_held3 (fun q => q.cell? ⟨w.heap.size, 3, none⟩ = some (.slice a4 l4 c4)) (first | exact HSS4.out _ (Chg.refl _ _).drew | exact hS6 | exact HSS4.out _ hu5) (first | (go_at_call 185; refine (hfr4 _).mono ?_; first | (rintro e u rfl hcu) | (rintro e u ⟨rfl, hcu⟩); have hu5 : Chg Non w3 u := ((Chg.refl Non w3).drew).two hcu; clear hcu) | (go_at_call 193; refine (calls_wo (hpb4 _ hu5)).mono ?_; rintro e w4 ⟨rfl, v4, n4, ys4, h4⟩; have hS6 := HSP4.out _ _ _ _ _ hu5 h4.wp))
  have H4 : Hid (WQ (wBytes 2 1 16777216) 16777301 r v3 w3 w4 v4 n3 n4 (((xs ++ ys1) ++ ys2) ++ ys3) ys4 (x.2.2.2.1)) := (h4.weak (by decide)).ahead hu5
  have B4 : Hid (Bk w4 r v4 w.heap.size (.cells #[.int .u32 nA, .int .u32 nB, .slice a3 l3 c3, .slice a4 l4 c4, .slice a5 l5 c5] 47)) := B3.out.wp H4.out.wp
  clear h4 hfr4 hpb4 hS6 hu5 y3
  have F5_4 : Hid (Rel (.lst tExt) (Fa r v4 w4) w4 [.slice a5 l5 c5] (x.2.2.2.2)) := F5_3.out.fa H4.out.wp
  have y4 : w4.cell? ⟨w.heap.size, 4, none⟩ = some (.slice a5 l5 c5) := B4.out.cell rfl
  have hp5 := wexts_any r a5 l5 c5 (x.2.2.2.2) v4 n4 ((((xs ++ ys1) ++ ys2) ++ ys3) ++ ys4) w4 H4.out.wp.wm F5_4.out (by simp only [List.length_append]; have := H1.out.len; have := H2.out.len; have := H3.out.len; have := H4.out.len; have := HX.out; omega)
  go_wp2_with (go_at_call 139; refine (calls_wo hp5).mono ?_)
  rintro e w5 ⟨rfl, v5, n5, ys5, h5⟩
  have H5 : Hid (WQ (wExts) 33554603 r v4 w4 w5 v5 n4 n5 ((((xs ++ ys1) ++ ys2) ++ ys3) ++ ys4) ys5 (x.2.2.2.2)) := h5
  have B5 : Hid (Bk w5 r v5 w.heap.size (.cells #[.int .u32 nA, .int .u32 nB, .slice a3 l3 c3, .slice a4 l4 c4, .slice a5 l5 c5] 47)) := B4.out.wp h5.wp
  clear h5 hp5 y4
  go_wp2
  go_end0
  exact ⟨v5, n5, _, rfl, (WQ.seq (f := Prod.fst) (g := Prod.snd) (x := x) H1.out (WQ.seq (f := Prod.fst) (g := Prod.snd) (x := x.2) H2.out (WQ.seq (f := Prod.fst) (g := Prod.snd) (x := x.2.2) H3.out (WQ.seq (f := Prod.fst) (g := Prod.snd) (x := x.2.2.2) H4.out H5.out)))).ahead C0.out⟩

set_option maxHeartbeats 1600000 in
theorem wshares_any (r : Nat) (ao : Option Addr) (L c : Nat) (l : (Ty.lst tExt).Dat) (v0 : Value) (n0 : Bool) (xs : List Int) (w : World) (h : WM w r v0 n0 xs) (hx : Rel (.lst tExt) (Fa r v0 w) w [.slice ao L c] l) (hl : xs.length ≤ 996000000000) :
    Calls Try.prog 172 #[.pointer (some ⟨r, 0, none⟩), .slice ao L c] w fun e w' => ∃ v' no' ys, e = .returned (.tuple #[]) ∧ WQ (wShares) 33554603 r v0 w w' v' n0 no' xs ys l := by
  have hpb := fun u (hu : Chg Non w u) => putSh_any r 2 0 16777216 2 0 16777216 rfl rfl rfl (by decide) (by decide) (.slice ao L c) l v0 n0 xs u (h.non hu) (hx.faN hu) (by omega)
  clear h hx hl
  go_enter Try.func172, Try.ntmps172
  go_wp2_with (go_at_call 197; refine (free_any 2 w).mono ?_)
  first | (rintro e w2 rfl hc) | (rintro e w2 ⟨rfl, hc⟩)
  have C2 : Hid (Chg Non w w2) := hc
  have hp := hpb w2 hc
  clear hc hpb
  go_wp2_with (go_at_call 223; refine (calls_wo hp).mono ?_)
  rintro e w3 ⟨rfl, v3, n3, ys, h3⟩
  have H3 : Hid (WQ (wShares) 33554603 r v0 w w3 v3 n0 n3 xs ys l) := (h3.weak (by decide)).ahead C2.out
  clear h3 hp
  go_wp2
  go_end0
  exact ⟨v3, n3, ys, rfl, H3.out⟩

set_option maxHeartbeats 1600000 in
theorem wprotocols_any (r : Nat) (ao : Option Addr) (L c : Nat) (l : (Ty.lst .str).Dat) (v0 : Value) (n0 : Bool) (xs : List Int) (w : World) (h : WM w r v0 n0 xs) (hx : Rel (.lst .str) (Fa r v0 w) w [.slice ao L c] l) (hl : xs.length ≤ 989000000000) (hel : ∀ a ∈ (show List (List Int) from l), List.length (α := Int) a ≤ 140737488355328) :
    Calls Try.prog 168 #[.pointer (some ⟨r, 0, none⟩), .slice ao L c] w fun e w' => ∃ v' no' ys, e = .returned (.tuple #[]) ∧ WQ (wTexts) 33554601 r v0 w w' v' n0 no' xs ys l := by
  have hpb := fun u (hu : Chg Non w u) => putP_any r 2 1 16777216 2 1 16777216 rfl rfl rfl (by decide) (by decide) (.slice ao L c) l v0 n0 xs u (h.non hu) (hx.faN hu) (by omega) hel
  clear h hx hl
  go_enter Try.func168, Try.ntmps168
  go_wp2_with (go_at_call 185; refine (filled_any 2 w).mono ?_)
  first | (rintro e w2 rfl hc) | (rintro e w2 ⟨rfl, hc⟩)
  have C2 : Hid (Chg Non w w2) := hc
  have hp := hpb w2 hc
  clear hc hpb
  go_wp2_with (go_at_call 220; refine (calls_wo hp).mono ?_)
  rintro e w3 ⟨rfl, v3, n3, ys, h3⟩
  have H3 : Hid (WQ (wTexts) 33554601 r v0 w w3 v3 n0 n3 xs ys l) := (h3.weak (by decide)).ahead C2.out
  clear h3 hp
  go_wp2
  go_end0
  exact ⟨v3, n3, ys, rfl, H3.out⟩
end Go.Proofs.Ytdhckndehijemaa
