/-
  Writers of a ticket that is offered.
-/
import Derived.Test.YtdhckndehijemaaXe
import Derived.Test.YtdhckndehijemaaMs
namespace Go.Proofs.Ytdhckndehijemaa
open Go.RowKit
set_option linter.unusedVariables false
set_option maxRecDepth 100000

abbrev PSKW := List Int × Int × List Int
def wTk : Pw PSKW := wSeq (fun x : PSKW => x.1) (fun x : PSKW => x.2.1) (wBytes 2 1 16777216) (wNum 4)
def wBd : Pw PSKW := fun x => wBytes 1 32 16777216 x.2.2
def wPSKs : Pw (List PSKW) := wSeq (fun l : List PSKW => l) (fun l : List PSKW => l) (wList 2 1 16777216 wTk) (wList 2 1 16777216 wBd)
theorem Rel.psk {F : Nat → Prop} {w : World} {us : List Value} {x : PSKW} (h : Rel tPSK F w us x) : ∃ a1 l1 c1 a2 l2 c2, us = [.slice a1 l1 c1, .int .u32 x.2.1, .slice a2 l2 c2] := by
  obtain ⟨us1, us2, rfl, h1, h2⟩ := h
  obtain ⟨v, rfl, h3, -⟩ := h1
  obtain ⟨ao, n, c, rfl, -⟩ := h3.shape
  obtain ⟨us3, us4, rfl, h4, h5⟩ := h2
  obtain ⟨rfl, -⟩ := h4
  obtain ⟨v, rfl, h6, -⟩ := h5
  obtain ⟨a2, l2, c2, rfl, -⟩ := h6.shape
  exact ⟨ao, n, c, a2, l2, c2, rfl⟩


set_option maxHeartbeats 3200000 in
theorem wtk_any (r : Nat) (a1 : Option Addr) (l1 c1 : Nat) (nA : Int) (a2 : Option Addr) (l2 c2 : Nat) (x : (tPSK).Dat) (v0 : Value) (n0 : Bool) (xs : List Int) (w : World) (h : WM w r v0 n0 xs) (hx : Rel (tPSK) (Fa r v0 w) w [.slice a1 l1 c1, .int .u32 nA, .slice a2 l2 c2] x) (hl : xs.length ≤ 998000000000) :
    Calls Try.prog 225 #[.pointer (some ⟨r, 0, none⟩), .agg #[.slice a1 l1 c1, .int .u32 nA, .slice a2 l2 c2]] w fun e w' => ∃ v' no' ys, e = .returned (.tuple #[]) ∧ WQ (wTk) 16777305 r v0 w w' v' n0 no' xs ys x := by
  obtain ⟨w0, hw0⟩ : ∃ w0, w0 = w.alloc (.cells #[.slice a1 l1 c1, .int .u32 nA, .slice a2 l2 c2] 200) := ⟨_, rfl⟩
  have hc0 : Chg Non w w0 := by rw [hw0]; exact (Chg.refl _ _).alloc _
  have C0 : Hid (Chg Non w w0) := hc0
  have B0 : Hid (Bk w0 r v0 w.heap.size (.cells #[.slice a1 l1 c1, .int .u32 nA, .slice a2 l2 c2] 200)) := by show Bk _ _ _ _ _; rw [hw0]; exact Bk.new h _
  have HW0 : Hid (w0 = w.alloc (.cells #[.slice a1 l1 c1, .int .u32 nA, .slice a2 l2 c2] 200)) := hw0
  have HM : Hid (WM w0 r v0 n0 xs) := h.non hc0
  have HX : Hid (xs.length ≤ 998000000000) := hl
  have hx0 := hx.faN hc0
  obtain ⟨g1, hx1⟩ := Rel.split (us1 := [.slice a1 l1 c1]) (us2 := [.int .u32 nA, .slice a2 l2 c2]) hx0 rfl
  obtain ⟨g2, hx2⟩ := Rel.split (us1 := [.int .u32 nA]) (us2 := [.slice a2 l2 c2]) hx1 rfl
  have g3 := hx2
  have F1_0 : Hid (Rel (.byt) (Fa r v0 w0) w0 [.slice a1 l1 c1] (x.1)) := g1
  obtain ⟨e2, k2⟩ : ([Value.int .u32 nA] = [Value.int .u32 (x.2.1)]) ∧ InK .u32 (x.2.1) := g2
  have N2 : Hid (nA = x.2.1 ∧ InK .u32 nA) := by
    injection e2 with e2
    injection e2 with _ e2
    exact ⟨e2, by rw [e2]; exact k2⟩
  have F3_0 : Hid (Rel (.byt) (Fa r v0 w0) w0 [.slice a2 l2 c2] (x.2.2)) := g3
  clear h hx hl hc0 hw0 hx0 hx1 hx2 g1 e2 k2 g3
  have y0 : w0.cell? ⟨w.heap.size, 0, none⟩ = some (.slice a1 l1 c1) := B0.out.cell rfl
  have hfr1 := fun u => filled_any 2 u
  have hpb1 := fun u (hu : Chg Non w0 u) => putB_any r 2 1 16777216 2 1 16777216 rfl rfl rfl (by decide) (by decide) (.slice a1 l1 c1) (x.1) v0 n0 xs u (HM.out.non hu) (F1_0.out.faN hu).ofByt (by have := HX.out; omega)
  have HSS1 : Hid (∀ u, Chg Non w0 u → u.cell? ⟨w.heap.size, 0, none⟩ = some (.slice a1 l1 c1)) := fun u hu => (B0.out.non hu).cell rfl
  have HSP1 : Hid (∀ u u6 v6 n6 zs, Chg Non w0 u → WP r v0 u u6 v6 n6 zs → u6.cell? ⟨w.heap.size, 0, none⟩ = some (.slice a1 l1 c1)) := fun u u6 v6 n6 zs hu hp => ((B0.out.non hu).wp hp).cell rfl
  go_enter Try.func225, Try.ntmps225
  go_wp2_with fail
  rw [← HW0.out]
  go_region_held3 (fun q => q.cell? ⟨w.heap.size, 0, none⟩ = some (.slice a1 l1 c1)) (first | exact HSS1.out _ (Chg.refl _ _).drew | exact hS6 | exact HSS1.out _ hu5) (first | (go_at_call 185; refine (hfr1 _).mono ?_; first | (rintro e u rfl hcu) | (rintro e u ⟨rfl, hcu⟩); have hu5 : Chg Non w0 u := ((Chg.refl Non w0).drew).two hcu; clear hcu) | (go_at_call 193; refine (calls_wo (hpb1 _ hu5)).mono ?_; rintro e w1 ⟨rfl, v1, n1, ys1, h1⟩; have hS6 := HSP1.out _ _ _ _ _ hu5 h1.wp))
  have H1 : Hid (WQ (wBytes 2 1 16777216) 16777301 r v0 w0 w1 v1 n0 n1 xs ys1 (x.1)) := (h1.weak (by decide)).ahead hu5
  have B1 : Hid (Bk w1 r v1 w.heap.size (.cells #[.slice a1 l1 c1, .int .u32 nA, .slice a2 l2 c2] 200)) := B0.out.wp H1.out.wp
  clear h1 hfr1 hpb1 hS6 hu5 y0
  have y1 : w1.cell? ⟨w.heap.size, 1, none⟩ = some (.int .u32 nA) := B1.out.cell rfl
  have hp2 := wlong_any r nA v1 n1 (xs ++ ys1) w1 H1.out.wp.wm N2.out.2 (by simp only [List.length_append]; have := H1.out.len; have := HX.out; omega)
  go_wp2_with (go_at_call 207; refine (calls_wo hp2).mono ?_)
  rintro e w2 ⟨rfl, v2, n2, ys2, h2⟩
  have H2 : Hid (WQ (wNum 4) 4 r v1 w1 w2 v2 n1 n2 (xs ++ ys1) ys2 (x.2.1)) := by rw [← N2.out.1]; exact h2
  have B2 : Hid (Bk w2 r v2 w.heap.size (.cells #[.slice a1 l1 c1, .int .u32 nA, .slice a2 l2 c2] 200)) := B1.out.wp h2.wp
  clear h2 hp2 y1
  go_wp2
  go_end0
  exact ⟨v2, n2, _, rfl, ((WQ.seq (f := fun x : PSKW => x.1) (g := fun x : PSKW => x.2.1) (x := x) H1.out H2.out)).ahead C0.out⟩

set_option maxHeartbeats 3200000 in
theorem wbd_any (r : Nat) (a1 : Option Addr) (l1 c1 : Nat) (nA : Int) (a2 : Option Addr) (l2 c2 : Nat) (x : (tPSK).Dat) (v0 : Value) (n0 : Bool) (xs : List Int) (w : World) (h : WM w r v0 n0 xs) (hx : Rel (tPSK) (Fa r v0 w) w [.slice a1 l1 c1, .int .u32 nA, .slice a2 l2 c2] x) (hl : xs.length ≤ 998000000000) :
    Calls Try.prog 226 #[.pointer (some ⟨r, 0, none⟩), .agg #[.slice a1 l1 c1, .int .u32 nA, .slice a2 l2 c2]] w fun e w' => ∃ v' no' ys, e = .returned (.tuple #[]) ∧ WQ (wBd) 16777301 r v0 w w' v' n0 no' xs ys x := by
  obtain ⟨w0, hw0⟩ : ∃ w0, w0 = w.alloc (.cells #[.slice a1 l1 c1, .int .u32 nA, .slice a2 l2 c2] 200) := ⟨_, rfl⟩
  have hc0 : Chg Non w w0 := by rw [hw0]; exact (Chg.refl _ _).alloc _
  have C0 : Hid (Chg Non w w0) := hc0
  have B0 : Hid (Bk w0 r v0 w.heap.size (.cells #[.slice a1 l1 c1, .int .u32 nA, .slice a2 l2 c2] 200)) := by show Bk _ _ _ _ _; rw [hw0]; exact Bk.new h _
  have HW0 : Hid (w0 = w.alloc (.cells #[.slice a1 l1 c1, .int .u32 nA, .slice a2 l2 c2] 200)) := hw0
  have HM : Hid (WM w0 r v0 n0 xs) := h.non hc0
  have HX : Hid (xs.length ≤ 998000000000) := hl
  have hx0 := hx.faN hc0
  obtain ⟨g1, hx1⟩ := Rel.split (us1 := [.slice a1 l1 c1]) (us2 := [.int .u32 nA, .slice a2 l2 c2]) hx0 rfl
  obtain ⟨g2, hx2⟩ := Rel.split (us1 := [.int .u32 nA]) (us2 := [.slice a2 l2 c2]) hx1 rfl
  have g3 := hx2
  have F1_0 : Hid (Rel (.byt) (Fa r v0 w0) w0 [.slice a1 l1 c1] (x.1)) := g1
  have F2_0 : Hid (Rel (.num .u32) (Fa r v0 w0) w0 [.int .u32 nA] (x.2.1)) := g2
  have F3_0 : Hid (Rel (.byt) (Fa r v0 w0) w0 [.slice a2 l2 c2] (x.2.2)) := g3
  clear h hx hl hc0 hw0 hx0 hx1 hx2 g1 g2 g3
  have y2 : w0.cell? ⟨w.heap.size, 2, none⟩ = some (.slice a2 l2 c2) := B0.out.cell rfl
  have hfr1 := fun u => binderS_any u
  have hpb1 := fun u (hu : Chg Non w0 u) => putB_any r 1 32 16777216 1 32 16777216 rfl rfl rfl (by decide) (by decide) (.slice a2 l2 c2) (x.2.2) v0 n0 xs u (HM.out.non hu) (F3_0.out.faN hu).ofByt (by have := HX.out; omega)
  have HSS1 : Hid (∀ u, Chg Non w0 u → u.cell? ⟨w.heap.size, 2, none⟩ = some (.slice a2 l2 c2)) := fun u hu => (B0.out.non hu).cell rfl
  have HSP1 : Hid (∀ u u6 v6 n6 zs, Chg Non w0 u → WP r v0 u u6 v6 n6 zs → u6.cell? ⟨w.heap.size, 2, none⟩ = some (.slice a2 l2 c2)) := fun u u6 v6 n6 zs hu hp => ((B0.out.non hu).wp hp).cell rfl
  go_enter Try.func226, Try.ntmps226
  go_wp2_with fail
  rw [← HW0.out]
  go_region_held3 (fun q => q.cell? ⟨w.heap.size, 2, none⟩ = some (.slice a2 l2 c2)) (first | exact HSS1.out _ (Chg.refl _ _).drew | exact hS6 | exact HSS1.out _ hu5) (first | (go_at_call 233; refine (hfr1 _).mono ?_; first | (rintro e u rfl hcu) | (rintro e u ⟨rfl, hcu⟩); have hu5 : Chg Non w0 u := ((Chg.refl Non w0).drew).two hcu; clear hcu) | (go_at_call 193; refine (calls_wo (hpb1 _ hu5)).mono ?_; rintro e w1 ⟨rfl, v1, n1, ys1, h1⟩; have hS6 := HSP1.out _ _ _ _ _ hu5 h1.wp))
  have H1 : Hid (WQ (wBytes 1 32 16777216) 16777301 r v0 w0 w1 v1 n0 n1 xs ys1 (x.2.2)) := (h1.weak (by decide)).ahead hu5
  have B1 : Hid (Bk w1 r v1 w.heap.size (.cells #[.slice a1 l1 c1, .int .u32 nA, .slice a2 l2 c2] 200)) := B0.out.wp H1.out.wp
  clear h1 hfr1 hpb1 hS6 hu5 y2
  go_wp2
  go_end0
  exact ⟨v1, n1, _, rfl, ((⟨H1.out.wp, H1.out.bad, H1.out.out, H1.out.len⟩ : WQ wBd _ _ _ _ _ _ _ _ _ _ _)).ahead C0.out⟩
end Go.Proofs.Ytdhckndehijemaa
