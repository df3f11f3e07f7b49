/-
  Writers' methods of two fields.
-/
import Derived.Test.YtdhckndehijemaaBk
namespace Go.Proofs.Ytdhckndehijemaa
open Go.RowKit
set_option linter.unusedVariables false
set_option maxRecDepth 100000


set_option maxHeartbeats 3200000 in
theorem wext_any (r : Nat) (n : Int) (ao : Option Addr) (L c : Nat) (x : (tExt).Dat) (v0 : Value) (n0 : Bool) (xs : List Int) (w : World) (h : WM w r v0 n0 xs) (hx : Rel (tExt) (Fa r v0 w) w [.int .u16 n, .slice ao L c] x) (hl : xs.length ≤ 998000000000) :
    Calls Try.prog 209 #[.pointer (some ⟨r, 0, none⟩), .agg #[.int .u16 n, .slice ao L c]] w fun e w' => ∃ v' no' ys, e = .returned (.tuple #[]) ∧ WQ (wExt) 16777303 r v0 w w' v' n0 no' xs ys x := by
  obtain ⟨w0, hw0⟩ : ∃ w0, w0 = w.alloc (.cells #[.int .u16 n, .slice ao L c] 135) := ⟨_, rfl⟩
  have hc0 : Chg Non w w0 := by rw [hw0]; exact (Chg.refl _ _).alloc _
  have C0 : Hid (Chg Non w w0) := hc0
  have B0 : Hid (Bk w0 r v0 w.heap.size (.cells #[.int .u16 n, .slice ao L c] 135)) := by show Bk _ _ _ _ _; rw [hw0]; exact Bk.new h _
  have HW0 : Hid (w0 = w.alloc (.cells #[.int .u16 n, .slice ao L c] 135)) := hw0
  have HM : Hid (WM w0 r v0 n0 xs) := h.non hc0
  have HX : Hid (xs.length ≤ 998000000000) := hl
  have hx0 := hx.faN hc0
  obtain ⟨g1, hx1⟩ := Rel.split (us1 := [.int .u16 n]) (us2 := [.slice ao L c]) hx0 rfl
  have g2 := hx1
  obtain ⟨e1, k1⟩ : ([Value.int .u16 n] = [Value.int .u16 (x.1)]) ∧ InK .u16 (x.1) := g1
  have N1 : Hid (n = x.1 ∧ InK .u16 n) := by
    injection e1 with e1
    injection e1 with _ e1
    exact ⟨e1, by rw [e1]; exact k1⟩
  have F2_0 : Hid (Rel (.byt) (Fa r v0 w0) w0 [.slice ao L c] (x.2)) := g2
  clear h hx hl hc0 hw0 hx0 hx1 g2 e1 k1
  have y0 : w0.cell? ⟨w.heap.size, 0, none⟩ = some (.int .u16 n) := B0.out.cell rfl
  have hp1 := wnumber_any r n v0 n0 xs w0 HM.out N1.out.2 (by have := HX.out; omega)
  go_enter Try.func209, Try.ntmps209
  go_wp2_with fail
  rw [← HW0.out]
  refine (calls_wo hp1).mono ?_
  rintro e w1 ⟨rfl, v1, n1, ys1, h1⟩
  have H1 : Hid (WQ (wNum 2) 2 r v0 w0 w1 v1 n0 n1 xs ys1 (x.1)) := by rw [← N1.out.1]; exact h1
  have B1 : Hid (Bk w1 r v1 w.heap.size (.cells #[.int .u16 n, .slice ao L c] 135)) := B0.out.wp h1.wp
  clear h1 hp1 y0
  have F2_1 : Hid (Rel (.byt) (Fa r v1 w1) w1 [.slice ao L c] (x.2)) := F2_0.out.fa H1.out.wp
  have y1 : w1.cell? ⟨w.heap.size, 1, none⟩ = some (.slice ao L c) := B1.out.cell rfl
  have hfr2 := fun u => free_any 2 u
  have hpb2 := fun u (hu : Chg Non w1 u) => putB_any r 2 0 16777216 2 0 16777216 rfl rfl rfl (by decide) (by decide) (.slice ao L c) (x.2) v1 n1 (xs ++ ys1) u (H1.out.wp.wm.non hu) (F2_1.out.faN hu).ofByt (by simp only [List.length_append]; have := H1.out.len; have := HX.out; omega)
  have HSS2 : Hid (∀ u, Chg Non w1 u → u.cell? ⟨w.heap.size, 1, none⟩ = some (.slice ao L c)) := fun u hu => (B1.out.non hu).cell rfl
  have HSP2 : Hid (∀ u u6 v6 n6 zs, Chg Non w1 u → WP r v1 u u6 v6 n6 zs → u6.cell? ⟨w.heap.size, 1, none⟩ = some (.slice ao L c)) := fun u u6 v6 n6 zs hu hp => ((B1.out.non hu).wp hp).cell rfl
  go_wp2_with fail
  go_region_held3 (fun q => q.cell? ⟨w.heap.size, 1, none⟩ = some (.slice ao L c)) (first | exact HSS2.out _ (Chg.refl _ _).drew | exact hS6 | exact HSS2.out _ hu5) (first | (go_at_call 197; refine (hfr2 _).mono ?_; first | (rintro e u rfl hcu) | (rintro e u ⟨rfl, hcu⟩); have hu5 : Chg Non w1 u := ((Chg.refl Non w1).drew).two hcu; clear hcu) | (go_at_call 193; refine (calls_wo (hpb2 _ hu5)).mono ?_; rintro e w2 ⟨rfl, v2, n2, ys2, h2⟩; have hS6 := HSP2.out _ _ _ _ _ hu5 h2.wp))
  have H2 : Hid (WQ (wBytes 2 0 16777216) 16777301 r v1 w1 w2 v2 n1 n2 (xs ++ ys1) ys2 (x.2)) := (h2.weak (by decide)).ahead hu5
  have B2 : Hid (Bk w2 r v2 w.heap.size (.cells #[.int .u16 n, .slice ao L c] 135)) := B1.out.wp H2.out.wp
  clear h2 hfr2 hpb2 hS6 hu5 y1
  go_wp2
  go_end0
  exact ⟨v2, n2, _, rfl, (WQ.seq (f := Prod.fst) (g := Prod.snd) (x := x) H1.out H2.out).ahead C0.out⟩

set_option maxHeartbeats 3200000 in
theorem wshare_any (r : Nat) (n : Int) (ao : Option Addr) (L c : Nat) (x : (tExt).Dat) (v0 : Value) (n0 : Bool) (xs : List Int) (w : World) (h : WM w r v0 n0 xs) (hx : Rel (tExt) (Fa r v0 w) w [.int .u16 n, .slice ao L c] x) (hl : xs.length ≤ 998000000000) :
    Calls Try.prog 181 #[.pointer (some ⟨r, 0, none⟩), .agg #[.int .u16 n, .slice ao L c]] w fun e w' => ∃ v' no' ys, e = .returned (.tuple #[]) ∧ WQ (wShare) 16777303 r v0 w w' v' n0 no' xs ys x := by
  obtain ⟨w0, hw0⟩ : ∃ w0, w0 = w.alloc (.cells #[.int .u16 n, .slice ao L c] 87) := ⟨_, rfl⟩
  have hc0 : Chg Non w w0 := by rw [hw0]; exact (Chg.refl _ _).alloc _
  have C0 : Hid (Chg Non w w0) := hc0
  have B0 : Hid (Bk w0 r v0 w.heap.size (.cells #[.int .u16 n, .slice ao L c] 87)) := by show Bk _ _ _ _ _; rw [hw0]; exact Bk.new h _
  have HW0 : Hid (w0 = w.alloc (.cells #[.int .u16 n, .slice ao L c] 87)) := hw0
  have HM : Hid (WM w0 r v0 n0 xs) := h.non hc0
  have HX : Hid (xs.length ≤ 998000000000) := hl
  have hx0 := hx.faN hc0
  obtain ⟨g1, hx1⟩ := Rel.split (us1 := [.int .u16 n]) (us2 := [.slice ao L c]) hx0 rfl
  have g2 := hx1
  obtain ⟨e1, k1⟩ : ([Value.int .u16 n] = [Value.int .u16 (x.1)]) ∧ InK .u16 (x.1) := g1
  have N1 : Hid (n = x.1 ∧ InK .u16 n) := by
    injection e1 with e1
    injection e1 with _ e1
    exact ⟨e1, by rw [e1]; exact k1⟩
  have F2_0 : Hid (Rel (.byt) (Fa r v0 w0) w0 [.slice ao L c] (x.2)) := g2
  clear h hx hl hc0 hw0 hx0 hx1 g2 e1 k1
  have y0 : w0.cell? ⟨w.heap.size, 0, none⟩ = some (.int .u16 n) := B0.out.cell rfl
  have hp1 := wnumber_any r n v0 n0 xs w0 HM.out N1.out.2 (by have := HX.out; omega)
  go_enter Try.func181, Try.ntmps181
  go_wp2_with fail
  rw [← HW0.out]
  refine (calls_wo hp1).mono ?_
  rintro e w1 ⟨rfl, v1, n1, ys1, h1⟩
  have H1 : Hid (WQ (wNum 2) 2 r v0 w0 w1 v1 n0 n1 xs ys1 (x.1)) := by rw [← N1.out.1]; exact h1
  have B1 : Hid (Bk w1 r v1 w.heap.size (.cells #[.int .u16 n, .slice ao L c] 87)) := B0.out.wp h1.wp
  clear h1 hp1 y0
  have F2_1 : Hid (Rel (.byt) (Fa r v1 w1) w1 [.slice ao L c] (x.2)) := F2_0.out.fa H1.out.wp
  have y1 : w1.cell? ⟨w.heap.size, 1, none⟩ = some (.slice ao L c) := B1.out.cell rfl
  have hfr2 := fun u => filled_any 2 u
  have hpb2 := fun u (hu : Chg Non w1 u) => putB_any r 2 1 16777216 2 1 16777216 rfl rfl rfl (by decide) (by decide) (.slice ao L c) (x.2) v1 n1 (xs ++ ys1) u (H1.out.wp.wm.non hu) (F2_1.out.faN hu).ofByt (by simp only [List.length_append]; have := H1.out.len; have := HX.out; omega)
  have HSS2 : Hid (∀ u, Chg Non w1 u → u.cell? ⟨w.heap.size, 1, none⟩ = some (.slice ao L c)) := fun u hu => (B1.out.non hu).cell rfl
  have HSP2 : Hid (∀ u u6 v6 n6 zs, Chg Non w1 u → WP r v1 u u6 v6 n6 zs → u6.cell? ⟨w.heap.size, 1, none⟩ = some (.slice ao L c)) := fun u u6 v6 n6 zs hu hp => ((B1.out.non hu).wp hp).cell rfl
  go_wp2_with fail
  go_region_held3 (fun q => q.cell? ⟨w.heap.size, 1, none⟩ = some (.slice ao L c)) (first | exact HSS2.out _ (Chg.refl _ _).drew | exact hS6 | exact HSS2.out _ hu5) (first | (go_at_call 185; refine (hfr2 _).mono ?_; first | (rintro e u rfl hcu) | (rintro e u ⟨rfl, hcu⟩); have hu5 : Chg Non w1 u := ((Chg.refl Non w1).drew).two hcu; clear hcu) | (go_at_call 193; refine (calls_wo (hpb2 _ hu5)).mono ?_; rintro e w2 ⟨rfl, v2, n2, ys2, h2⟩; have hS6 := HSP2.out _ _ _ _ _ hu5 h2.wp))
  have H2 : Hid (WQ (wBytes 2 1 16777216) 16777301 r v1 w1 w2 v2 n1 n2 (xs ++ ys1) ys2 (x.2)) := (h2.weak (by decide)).ahead hu5
  have B2 : Hid (Bk w2 r v2 w.heap.size (.cells #[.int .u16 n, .slice ao L c] 87)) := B1.out.wp H2.out.wp
  clear h2 hfr2 hpb2 hS6 hu5 y1
  go_wp2
  go_end0
  exact ⟨v2, n2, _, rfl, (WQ.seq (f := Prod.fst) (g := Prod.snd) (x := x) H1.out H2.out).ahead C0.out⟩

set_option maxHeartbeats 3200000 in
theorem wverified_any (r : Nat) (n : Int) (ao : Option Addr) (L c : Nat) (x : (tExt).Dat) (v0 : Value) (n0 : Bool) (xs : List Int) (w : World) (h : WM w r v0 n0 xs) (hx : Rel (tExt) (Fa r v0 w) w [.int .u16 n, .slice ao L c] x) (hl : xs.length ≤ 998000000000) :
    Calls Try.prog 135 #[.pointer (some ⟨r, 0, none⟩), .agg #[.int .u16 n, .slice ao L c]] w fun e w' => ∃ v' no' ys, e = .returned (.tuple #[]) ∧ WQ (wVer) 16777303 r v0 w w' v' n0 no' xs ys x := by
  obtain ⟨w0, hw0⟩ : ∃ w0, w0 = w.alloc (.cells #[.int .u16 n, .slice ao L c] 49) := ⟨_, rfl⟩
  have hc0 : Chg Non w w0 := by rw [hw0]; exact (Chg.refl _ _).alloc _
  have C0 : Hid (Chg Non w w0) := hc0
  have B0 : Hid (Bk w0 r v0 w.heap.size (.cells #[.int .u16 n, .slice ao L c] 49)) := by show Bk _ _ _ _ _; rw [hw0]; exact Bk.new h _
  have HW0 : Hid (w0 = w.alloc (.cells #[.int .u16 n, .slice ao L c] 49)) := hw0
  have HM : Hid (WM w0 r v0 n0 xs) := h.non hc0
  have HX : Hid (xs.length ≤ 998000000000) := hl
  have hx0 := hx.faN hc0
  obtain ⟨g1, hx1⟩ := Rel.split (us1 := [.int .u16 n]) (us2 := [.slice ao L c]) hx0 rfl
  have g2 := hx1
  obtain ⟨e1, k1⟩ : ([Value.int .u16 n] = [Value.int .u16 (x.1)]) ∧ InK .u16 (x.1) := g1
  have N1 : Hid (n = x.1 ∧ InK .u16 n) := by
    injection e1 with e1
    injection e1 with _ e1
    exact ⟨e1, by rw [e1]; exact k1⟩
  have F2_0 : Hid (Rel (.byt) (Fa r v0 w0) w0 [.slice ao L c] (x.2)) := g2
  clear h hx hl hc0 hw0 hx0 hx1 g2 e1 k1
  have y0 : w0.cell? ⟨w.heap.size, 0, none⟩ = some (.int .u16 n) := B0.out.cell rfl
  have hp1 := wnumber_any r n v0 n0 xs w0 HM.out N1.out.2 (by have := HX.out; omega)
  go_enter Try.func135, Try.ntmps135
  go_wp2_with fail
  rw [← HW0.out]
  refine (calls_wo hp1).mono ?_
  rintro e w1 ⟨rfl, v1, n1, ys1, h1⟩
  have H1 : Hid (WQ (wNum 2) 2 r v0 w0 w1 v1 n0 n1 xs ys1 (x.1)) := by rw [← N1.out.1]; exact h1
  have B1 : Hid (Bk w1 r v1 w.heap.size (.cells #[.int .u16 n, .slice ao L c] 49)) := B0.out.wp h1.wp
  clear h1 hp1 y0
  have F2_1 : Hid (Rel (.byt) (Fa r v1 w1) w1 [.slice ao L c] (x.2)) := F2_0.out.fa H1.out.wp
  have y1 : w1.cell? ⟨w.heap.size, 1, none⟩ = some (.slice ao L c) := B1.out.cell rfl
  have hfr2 := fun u => free_any 2 u
  have hpb2 := fun u (hu : Chg Non w1 u) => putB_any r 2 0 16777216 2 0 16777216 rfl rfl rfl (by decide) (by decide) (.slice ao L c) (x.2) v1 n1 (xs ++ ys1) u (H1.out.wp.wm.non hu) (F2_1.out.faN hu).ofByt (by simp only [List.length_append]; have := H1.out.len; have := HX.out; omega)
  have HSS2 : Hid (∀ u, Chg Non w1 u → u.cell? ⟨w.heap.size, 1, none⟩ = some (.slice ao L c)) := fun u hu => (B1.out.non hu).cell rfl
  have HSP2 : Hid (∀ u u6 v6 n6 zs, Chg Non w1 u → WP r v1 u u6 v6 n6 zs → u6.cell? ⟨w.heap.size, 1, none⟩ = some (.slice ao L c)) := fun u u6 v6 n6 zs hu hp => ((B1.out.non hu).wp hp).cell rfl
  go_wp2_with fail
  go_region_held3 (fun q => q.cell? ⟨w.heap.size, 1, none⟩ = some (.slice ao L c)) (first | exact HSS2.out _ (Chg.refl _ _).drew | exact hS6 | exact HSS2.out _ hu5) (first | (go_at_call 197; refine (hfr2 _).mono ?_; first | (rintro e u rfl hcu) | (rintro e u ⟨rfl, hcu⟩); have hu5 : Chg Non w1 u := ((Chg.refl Non w1).drew).two hcu; clear hcu) | (go_at_call 193; refine (calls_wo (hpb2 _ hu5)).mono ?_; rintro e w2 ⟨rfl, v2, n2, ys2, h2⟩; have hS6 := HSP2.out _ _ _ _ _ hu5 h2.wp))
  have H2 : Hid (WQ (wBytes 2 0 16777216) 16777301 r v1 w1 w2 v2 n1 n2 (xs ++ ys1) ys2 (x.2)) := (h2.weak (by decide)).ahead hu5
  have B2 : Hid (Bk w2 r v2 w.heap.size (.cells #[.int .u16 n, .slice ao L c] 49)) := B1.out.wp H2.out.wp
  clear h2 hfr2 hpb2 hS6 hu5 y1
  go_wp2
  go_end0
  exact ⟨v2, n2, _, rfl, (WQ.seq (f := Prod.fst) (g := Prod.snd) (x := x) H1.out H2.out).ahead C0.out⟩
end Go.Proofs.Ytdhckndehijemaa
