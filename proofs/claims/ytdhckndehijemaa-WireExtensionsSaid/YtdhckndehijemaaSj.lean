/-
  Writers' methods of two fields.
-/
import Derived.Test.YtdhckndehijemaaBk
namespace Go.Proofs.Ytdhckndehijemaa
open Go.RowKit
set_option linter.unusedVariables false
set_option maxRecDepth 100000


set_option maxHeartbeats 3200000 in
theorem wext_any (r : Nat) (n : Int) (ao : Option Addr) (L c : Nat) (x : (tExt).Dat) (v0 : Value) (n0 : Bool) (xs : List Int) (w : World) (h : WM w r v0 n0 xs) (hx : Rel (tExt) (Fa r v0 w) w [.int .u16 n, .slice ao L c] x) (hl : xs.length ≤ 998000000000) :
    Calls Try.prog 209 #[.pointer (some ⟨r, 0, none⟩), .agg #[.int .u16 n, .slice ao L c]] w fun e w' => ∃ v' no' ys, e = .returned (.tuple #[]) ∧ WQ (wExt) 16777303 r v0 w w' v' n0 no' xs ys x := by
  obtain ⟨w0, hw0⟩ : ∃ w0, w0 = w.alloc (.cells #[.int .u16 n, .slice ao L c] 135) := ⟨_, rfl⟩
  have hc0 : Chg Non w w0 := by rw [hw0]; exact (Chg.refl _ _).alloc _
  have C0 : Hid (Chg Non w w0) := hc0
  have B0 : Hid (Bk w0 r v0 w.heap.size (.cells #[.int .u16 n, .slice ao L c] 135)) := by show Bk _ _ _ _ _; rw [hw0]; exact Bk.new h _
  have HW0 : Hid (w0 = w.alloc (.cells #[.int .u16 n, .slice ao L c] 135)) := hw0
  have HM : Hid (WM w0 r v0 n0 xs) := h.non hc0
  have HX : Hid (xs.length ≤ 998000000000) := hl
  have hx0 := hx.faN hc0
  obtain ⟨g1, hx1⟩ := Rel.split (us1 := [.int .u16 n]) (us2 := [.slice ao L c]) hx0 rfl
  have g2 := hx1
  obtain ⟨e1, k1⟩ : ([Value.int .u16 n] = [Value.int .u16 (x.1)]) ∧ InK .u16 (x.1) := g1
  have N1 : Hid (n = x.1 ∧ InK .u16 n) := by
    injection e1 with e1
    injection e1 with _ e1
    exact ⟨e1, by rw [e1]; exact k1⟩
  have F2_0 : Hid (Rel (.byt) (Fa r v0 w0) w0 [.slice ao L c] (x.2)) := g2
  clear h hx hl hc0 hw0 hx0 hx1 g2 e1 k1
  have y0 : w0.cell? ⟨w.heap.size, 0, none⟩ = some (.int .u16 n) := B0.out.cell rfl
  have hp1 := wnumber_any r n v0 n0 xs w0 HM.out N1.out.2 (by have := HX.out; omega)
  go_enter Try.func209, Try.ntmps209
  go_wp2_with fail
  rw [← HW0.out]
  refine (calls_wo hp1).mono ?_
  rintro e w1 ⟨rfl, v1, n1, ys1, h1⟩
  have H1 : Hid (WQ (wNum 2) 2 r v0 w0 w1 v1 n0 n1 xs ys1 (x.1)) := by rw [← N1.out.1]; exact h1
  have B1 : Hid (Bk w1 r v1 w.heap.size (.cells #[.int .u16 n, .slice ao L c] 135)) := B0.out.wp h1.wp
  clear h1 hp1 y0
  have F2_1 : Hid (Rel (.byt) (Fa r v1 w1) w1 [.slice ao L c] (x.2)) := F2_0.out.fa H1.out.wp
  have y1 : w1.cell? ⟨w.heap.size, 1, none⟩ = some (.slice ao L c) := B1.out.cell rfl
  have hfr2 := fun u => free_any 2 u
  have hpb2 := fun u (hu : Chg Non w1 u) => putB_any r 2 0 16777216 2 0 16777216 rfl rfl rfl (by decide) (by decide) (.slice ao L c) (x.2) v1 n1 (xs ++ ys1) u (H1.out.wp.wm.non hu) (F2_1.out.faN hu).ofByt (by simp only [List.length_append]; have := H1.out.len; have := HX.out; omega)
  have HSS2 : Hid (∀ u, Chg Non w1 u → u.cell? ⟨w.heap.size, 1, none⟩ = some (.slice ao L c)) := fun u hu => (B1.out.non hu).cell rfl
  have HSP2 : Hid (∀ u u6 v6 n6 zs, Chg Non w1 u → WP r v1 u u6 v6 n6 zs → u6.cell? ⟨w.heap.size, 1, none⟩ = some (.slice ao L c)) := fun u u6 v6 n6 zs hu hp => ((B1.out.non hu).wp hp).cell rfl
  go_wp2_with fail
  go_region_held3 (fun q => q.cell? ⟨w.heap.size, 1, none⟩ = some (.slice ao L c)) (first | exact HSS2.out _ (Chg.refl _ _).drew | exact hS6 | exact HSS2.out _ hu5) (first | (go_at_call 197; refine (hfr2 _).mono ?_; first | (rintro e u rfl hcu) | (rintro e u ⟨rfl, hcu⟩); have hu5 : Chg Non w1 u := ((Chg.refl Non w1).drew).two hcu; clear hcu) | (go_at_call 193; refine (calls_wo (hpb2 _ hu5)).mono ?_; rintro e w2 ⟨rfl, v2, n2, ys2, h2⟩; have hS6 := HSP2.out _ _ _ _ _ hu5 h2.wp))
  have H2 : Hid (WQ (wBytes 2 0 16777216) 16777301 r v1 w1 w2 v2 n1 n2 (xs ++ ys1) ys2 (x.2)) := (h2.weak (by decide)).ahead hu5
  have B2 : Hid (Bk w2 r v2 w.heap.size (.cells #[.int .u16 n, .slice ao L c] 135)) := B1.out.wp H2.out.wp
  clear h2 hfr2 hpb2 hS6 hu5 y1
  go_wp2
  go_end0
  exact ⟨v2, n2, _, rfl, (WQ.seq (f := Prod.fst) (g := Prod.snd) (x := x) H1.out H2.out).ahead C0.out⟩

set_option maxHeartbeats 3200000 in
theorem wshare_any (r : Nat) (n : Int) (ao : Option Addr) (L c : Nat) (x : (tExt).Dat) (v0 : Value) (n0 : Bool) (xs : List Int) (w : World) (h : WM w r v0 n0 xs) (hx : Rel (tExt) (Fa r v0 w) w [.int .u16 n, .slice ao L c] x) (hl : xs.length ≤ 998000000000) :
    Calls Try.prog 181 #[.pointer (some ⟨r, 0, none⟩), .agg #[.int .u16 n, .slice ao L c]] w fun e w' => ∃ v' no' ys, e = .returned (.tuple #[]) ∧ WQ (wShare) 16777303 r v0 w w' v' n0 no' xs ys x := by
  obtain ⟨w0, hw0⟩ : ∃ w0, w0 = w.alloc (.cells #[.int .u16 n, .slice ao L c] 87) := ⟨_, rfl⟩
  have hc0 : Chg Non w w0 := by rw [hw0]; exact (Chg.refl _ _).alloc _
  have C0 : Hid (Chg Non w w0) := hc0
  have B0 : Hid (Bk w0 r v0 w.heap.size (.cells #[.int .u16 n, .slice ao L c] 87)) := by show Bk _ _ _ _ _; rw [hw0]; exact Bk.new h _
  have HW0 : Hid (w0 = w.alloc (.cells #[.int .u16 n, .slice ao L c] 87)) := hw0
  have HM : Hid (WM w0 r v0 n0 xs) := h.non hc0
  have HX : Hid (xs.length ≤ 998000000000) := hl
  have hx0 := hx.faN hc0
  obtain ⟨g1, hx1⟩ := Rel.split (us1 := [.int .u16 n]) (us2 := [.slice ao L c]) hx0 rfl
  have g2 := hx1
  obtain ⟨e1, k1⟩ : ([Value.int .u16 n] = [Value.int .u16 (x.1)]) ∧ InK .u16 (x.1) := g1
  have N1 : Hid (n = x.1 ∧ InK .u16 n) := by
    injection e1 with e1
    injection e1 with _ e1
    exact ⟨e1, by rw [e1]; exact k1⟩
  have F2_0 : Hid (Rel (.byt) (Fa r v0 w0) w0 [.slice ao L c] (x.2)) := g2
  clear h hx hl hc0 hw0 hx0 hx1 g2 e1 k1
  have y0 : w0.cell? ⟨w.heap.size, 0, none⟩ = some (.int .u16 n) := B0.out.cell rfl
  have hp1 := wnumber_any r n v0 n0 xs w0 HM.out N1.out.2 (by have := HX.out; omega)
  go_enter Try.func181, Try.ntmps181
  go_wp2_with fail
  rw [← HW0.out]
  refine (calls_wo hp1).mono ?_
  rintro e w1 ⟨rfl, v1, n1, ys1, h1⟩
  have H1 : Hid (WQ (wNum 2) 2 r v0 w0 w1 v1 n0 n1 xs ys1 (x.1)) := by rw [← N1.out.1]; exact h1
  have B1 : Hid (Bk w1 r v1 w.heap.size (.cells #[.int .u16 n, .slice ao L c] 87)) := B0.out.wp h1.wp
  clear h1 hp1 y0
  have F2_1 : Hid (Rel (.byt) (Fa r v1 w1) w1 [.slice ao L c] (x.2)) := F2_0.out.fa H1.out.wp
  have y1 : w1.cell? ⟨w.heap.size, 1, none⟩ = some (.slice ao L c) := B1.out.cell rfl
  have hfr2 := fun u => filled_any 2 u
  have hpb2 := fun u (hu : Chg Non w1 u) => putB_any r 2 1 16777216 2 1 16777216 rfl rfl rfl (by decide) (by decide) (.slice ao L c) (x.2) v1 n1 (xs ++ ys1) u (H1.out.wp.wm.non hu) (F2_1.out.faN hu).ofByt (by simp only [List.length_append]; have := H1.out.len; have := HX.out; omega)
  have HSS2 : Hid (∀ u, Chg Non w1 u → u.cell? ⟨w.heap.size, 1, none⟩ = some (.slice ao L c)) := fun u hu => (B1.out.non hu).cell rfl
  have HSP2 : Hid (∀ u u6 v6 n6 zs, Chg Non w1 u → WP r v1 u u6 v6 n6 zs → u6.cell? ⟨w.heap.size, 1, none⟩ = some (.slice ao L c)) := fun u u6 v6 n6 zs hu hp => ((B1.out.non hu).wp hp).cell rfl
  go_wp2_with fail
  go_region_held3 (fun q => q.cell? ⟨w.heap.size, 1, none⟩ = some (.slice ao L c)) (first | exact HSS2.out _ (Chg.refl _ _).drew | exact hS6 | exact HSS2.out _ hu5) (first | (go_at_call 185; refine (hfr2 _).mono ?_; first | (rintro e u rfl hcu) | (rintro e u ⟨rfl, hcu⟩); have hu5 : Chg Non w1 u := ((Chg.refl Non w1).drew).two hcu; clear hcu) | (go_at_call 193; refine (calls_wo (hpb2 _ hu5)).mono ?_; rintro e w2 ⟨rfl, v2, n2, ys2, h2⟩; have hS6 := HSP2.out _ _ _ _ _ hu5 h2.wp))
  have H2 : Hid (WQ (wBytes 2 1 16777216) 16777301 r v1 w1 w2 v2 n1 n2 (xs ++ ys1) ys2 (x.2)) := (h2.weak (by decide)).ahead hu5
  have B2 : Hid (Bk w2 r v2 w.heap.size (.cells #[.int .u16 n, .slice ao L c] 87)) := B1.out.wp H2.out.wp
  clear h2 hfr2 hpb2 hS6 hu5 y1
  go_wp2
  go_end0
  exact ⟨v2, n2, _, rfl, (WQ.seq (f := Prod.fst) (g := Prod.snd) (x := x) H1.out H2.out).ahead C0.out⟩

set_option maxHeartbeats 3200000 in
theorem wverified_any (r : Nat) (n : Int) (ao : Option Addr) (L c : Nat) (x : (tExt).Dat) (v0 : Value) (n0 : Bool) (xs : List Int) (w : World) (h : WM w r v0 n0 xs) (hx : Rel (tExt) (Fa r v0 w) w [.int .u16 n, .slice ao L c] x) (hl : xs.length ≤ 998000000000) :
    Calls Try.prog 135 #[.pointer (some ⟨r, 0, none⟩), .agg #[.int .u16 n, .slice ao L c]] w fun e w' => ∃ v' no' ys, e = .returned (.tuple #[]) ∧ WQ (wVer) 16777303 r v0 w w' v' n0 no' xs ys x := by
  obtain ⟨w0, hw0⟩ : ∃ w0, w0 = w.alloc (.cells #[.int .u16 n, .slice ao L c] 49) := ⟨_, rfl⟩
  have hc0 : Chg Non w w0 := by rw [hw0]; exact (Chg.refl _ _).alloc _
  have C0 : Hid (Chg Non w w0) := hc0
  have B0 : Hid (Bk w0 r v0 w.heap.size (.cells #[.int .u16 n, .slice ao L c] 49)) := by show Bk _ _ _ _ _; rw [hw0]; exact Bk.new h _
  have HW0 : Hid (w0 = w.alloc (.cells #[.int .u16 n, .slice ao L c] 49)) := hw0
  have HM : Hid (WM w0 r v0 n0 xs) := h.non hc0
  have HX : Hid (xs.length ≤ 998000000000) := hl
  have hx0 := hx.faN hc0
  obtain ⟨g1, hx1⟩ := Rel.split (us1 := [.int .u16 n]) (us2 := [.slice ao L c]) hx0 rfl
  have g2 := hx1
  obtain ⟨e1, k1⟩ : ([Value.int .u16 n] = [Value.int .u16 (x.1)]) ∧ InK .u16 (x.1) := g1
  have N1 : Hid (n = x.1 ∧ InK .u16 n) := by
    injection e1 with e1
    injection e1 with _ e1
    exact ⟨e1, by rw [e1]; exact k1⟩
  have F2_0 : Hid (Rel (.byt) (Fa r v0 w0) w0 [.slice ao L c] (x.2)) := g2
  clear h hx hl hc0 hw0 hx0 hx1 g2 e1 k1
  have y0 : w0.cell? ⟨w.heap.size, 0, none⟩ = some (.int .u16 n) := B0.out.cell rfl
  have hp1 := wnumber_any r n v0 n0 xs w0 HM.out N1.out.2 (by have := HX.out; omega)
  go_enter Try.func135, Try.ntmps135
  go_wp2_with fail
  rw [← HW0.out]
  refine (calls_wo hp1).mono ?_
  rintro e w1 ⟨rfl, v1, n1, ys1, h1⟩
  have H1 : Hid (WQ (wNum 2) 2 r v0 w0 w1 v1 n0 n1 xs ys1 (x.1)) := by rw [← N1.out.1]; exact h1
  have B1 : Hid (Bk w1 r v1 w.heap.size (.cells #[.int .u16 n, .slice ao L c] 49)) := B0.out.wp h1.wp
  clear h1 hp1 y0
  have F2_1 : Hid (Rel (.byt) (Fa r v1 w1) w1 [.slice ao L c] (x.2)) := F2_0.out.fa H1.out.wp
  have y1 : w1.cell? ⟨w.heap.size, 1, none⟩ = some (.slice ao L c) := B1.out.cell rfl
  have hfr2 := fun u => free_any 2 u
  have hpb2 := fun u (hu : Chg Non w1 u) => putB_any r 2 0 16777216 2 0 16777216 rfl rfl rfl (by decide) (by decide) (.slice ao L c) (x.2) v1 n1 (xs ++ ys1) u (H1.out.wp.wm.non hu) (F2_1.out.faN hu).ofByt (by simp only [List.length_append]; have := H1.out.len; have := HX.out; omega)
  have HSS2 : Hid (∀ u, Chg Non w1 u → u.cell? ⟨w.heap.size, 1, none⟩ = some (.slice ao L c)) := fun u hu => (B1.out.non hu).cell rfl
  have HSP2 : Hid (∀ u u6 v6 n6 zs, Chg Non w1 u → WP r v1 u u6 v6 n6 zs → u6.cell? ⟨w.heap.size, 1, none⟩ = some (.slice ao L c)) := fun u u6 v6 n6 zs hu hp => ((B1.out.non hu).wp hp).cell rfl
  go_wp2_with fail
  go_region_held3 (fun q => q.cell? ⟨w.heap.size, 1, none⟩ = some (.slice ao L c)) (first | exact HSS2.out _ (Chg.refl _ _).drew | exact hS6 | exact HSS2.out _ hu5) (first | (go_at_call 197; refine (hfr2 _).mono ?_; first | (rintro e u rfl hcu) | (rintro e u ⟨rfl, hcu⟩); have hu5 : Chg Non w1 u := ((Chg.refl Non w1).drew).two hcu; clear hcu) | (go_at_call 193; refine (calls_wo (hpb2 _ hu5)).mono ?_; rintro e w2 ⟨rfl, v2, n2, ys2, h2⟩; have hS6 := HSP2.out _ _ _ _ _ hu5 h2.wp))
  have H2 : Hid (WQ (wBytes 2 0 16777216) 16777301 r v1 w1 w2 v2 n1 n2 (xs ++ ys1) ys2 (x.2)) := (h2.weak (by decide)).ahead hu5
  have B2 : Hid (Bk w2 r v2 w.heap.size (.cells #[.int .u16 n, .slice ao L c] 49)) := B1.out.wp H2.out.wp
  clear h2 hfr2 hpb2 hS6 hu5 y1
  go_wp2
  go_end0
  exact ⟨v2, n2, _, rfl, (WQ.seq (f := Prod.fst) (g := Prod.snd) (x := x) H1.out H2.out).ahead C0.out⟩
end Go.Proofs.Ytdhckndehijemaa
namespace Go.Proofs.Ytdhckndehijemaa
open Go.RowKit
set_option linter.unusedVariables false
set_option maxRecDepth 100000

set_option maxHeartbeats 6400000 in
theorem putE_any (r size least most : Nat) (a b c : Int) (ha : a = size) (hb : b = least) (hc : c = most) (hs : 0 < size) (hs3 : size ≤ 3) (vl : Value) (l : List (tExt).Dat) (v : Value) (no : Bool) (xs : List Int) (w : World) (h : WM w r v no xs)
    (hl : Rel (.lst (tExt)) (Fa r v w) w [vl] l) (hx : xs.length ≤ 997000000000) :
    Calls Try.prog 208 #[.pointer (some ⟨r, 0, none⟩), .agg #[.int .i64 a, .int .i64 b, .int .i64 c], vl, .func (.func 209) #[] #[]] w fun e w' => ∃ v' no' ys, e = .returned (.tuple #[]) ∧ WQ (wList size least most (wExt)) (16777300 + 16777303) r v w w' v' no no' xs ys l := by
  subst ha hb hc
  obtain ⟨w1, hw1⟩ : ∃ w1, w1 = w.alloc (.cells #[.int .i64 size, .int .i64 least, .int .i64 most] 231) := ⟨_, rfl⟩
  have c1 : Chg Non w w1 := by rw [hw1]; exact (Chg.refl _ _).alloc _
  have hB : w1.heap[w.heap.size]? = some (.cells #[.int .i64 size, .int .i64 least, .int .i64 most] 231) := by rw [hw1]; exact heap_alloc_last w _
  have HB : Hid (w1.heap[w.heap.size]? = some (.cells #[.int .i64 size, .int .i64 least, .int .i64 most] 231) ∧ r < w.heap.size ∧ Chg Non w w1 ∧ ∀ k, v.ownBlock = some k → k < w.heap.size) := ⟨hB, h.lt, c1, fun k e => h.own.lt k e⟩
  have HW1 : Hid (w1 = w.alloc (.cells #[.int .i64 size, .int .i64 least, .int .i64 most] 231)) := hw1
  have HS : Hid (0 < size ∧ size ≤ 3 ∧ 256 ^ size ≤ 16777216) := ⟨hs, hs3, pow_le3 hs3⟩
  have HX : Hid (xs.length ≤ 997000000000) := hx
  obtain ⟨y0, y1, y2⟩ := cell3 hB
  obtain ⟨aol, N, cl, hvl, hN⟩ : ∃ ao n c, vl = .slice ao n c ∧ n = l.length := by
    obtain ⟨ao, n, c, e, h1, -⟩ := hl
    injection e with e
    exact ⟨ao, n, c, e, h1⟩
  subst hvl
  have HL : Hid (Rel (.lst (tExt)) (Fa r v w) w [.slice aol N cl] l ∧ N = l.length) := ⟨hl, hN⟩
  have HM : Hid (WM w1 r v no xs) := h.non c1
  obtain ⟨D, hD⟩ : ∃ D, D = decide ((least ≤ N) ∧ (N ≤ most)) := ⟨_, rfl⟩
  have HD : Hid (D = decide ((least ≤ N) ∧ (N ≤ most))) := hD
  have hfit := fits_any size least most (N : Int) w1
  have hDe : decide (((least : Int) ≤ (N : Int)) ∧ ((N : Int) ≤ (most : Int))) = D := by rw [hD]; simp
  rw [hDe] at hfit
  clear h hl hx hs hs3 c1 hB hN hD hDe hw1
  go_enter Try.func208, Try.ntmps208
  go_wp2_with fail
  rw [← HW1.out]
  refine hfit.mono ?_
  rintro e w2 ⟨rfl, hc2⟩
  have hun := unless_any r D v no xs w2 (HM.out.non hc2)
  have C2 : Hid (Chg Non w1 w2) := hc2
  have hB2 : w2.heap[w.heap.size]? = some (.cells #[.int .i64 size, .int .i64 least, .int .i64 most] 231) := by rw [hc2.block _ (lt_somW HB.out.1) (fun q => q)]; exact HB.out.1
  clear hc2 hfit y0 y1 y2
  go_wp2_with (go_at_call 195; refine hun.mono ?_)
  rintro e w3 ⟨rfl, hp3⟩
  have hB3 : w3.heap[w.heap.size]? = some (.cells #[.int .i64 size, .int .i64 least, .int .i64 most] 231) := by
    rw [hp3.chg.block _ (lt_somW hB2) (fun q => by rcases q with q | q; have := HB.out.2.1; omega; have := HB.out.2.2.2 _ q; omega)]; exact hB2
  obtain ⟨y0, y1, y2⟩ := cell3 hB3
  have hdg := wdigits_any r size 0 (by have := HS.out.2.1; omega) (by decide) (by decide) v (no || !D) xs w3 hp3.wm (by have := HX.out; omega)
  have P3 : Hid (WP r v w w3 v (no || !D) xs ∧ w3.heap[w.heap.size]? = some (.cells #[.int .i64 size, .int .i64 least, .int .i64 most] 231)) := ⟨(hp3.ahead C2.out).ahead HB.out.2.2.1, hB3⟩
  clear hp3 hun hB2 hB3
  go_wp2_with (go_at_call 227; refine hdg.mono ?_)
  rintro e w4 ⟨v4, rfl, hp4⟩
  have hn4 := hp4.wm.own.rd.shape
  obtain ⟨ao4, n4, c4, rfl, hn4, -, -⟩ := hn4
  have P4 : Hid (WP r v w w4 (.slice ao4 n4 c4) (no || !D) (xs ++ putD size 0) ∧ n4 = xs.length + size ∧ w4.heap[w.heap.size]? = some (.cells #[.int .i64 size, .int .i64 least, .int .i64 most] 231)) := by
    refine ⟨P3.out.1.trans hp4, by rw [hn4, List.length_append, putD_len], ?_⟩
    rw [hp4.chg.block _ (lt_somW P3.out.2) (fun q => by rcases q with q | q; have := HB.out.2.1; omega; have := HB.out.2.2.2 _ q; omega)]
    exact P3.out.2
  obtain ⟨z0, z1, f0, f1⟩ := hp4.wm.facts
  obtain ⟨nk0, hnk0⟩ : ∃ nk0, nk0 = (no || !D) := ⟨_, rfl⟩
  rw [← hnk0] at z1
  have HN0 : Hid (nk0 = (no || !D)) := hnk0
  have hn4b : (n4 : Int) ≤ 997000000003 := by have := P4.out.2.1; have := HX.out; have := HS.out.2.1; omega
  clear hp4 hdg y0 y1 y2 hn4 hnk0
  go_wp2_with fail
  clear z0 z1 f0 f1
  go_loopw [30] (fun i wr => ∃ (k : Nat) (vr : Value) (nk : Bool) (body : List Int), k ≤ N ∧ i = .int .i64 k ∧ Hid (WP r v w wr vr nk (xs ++ putD size 0 ++ body) ∧ LW (wExt) 16777303 size least most no l k nk body ∧ wr.heap[w.heap.size]? = some (.cells #[.int .i64 size, .int .i64 least, .int .i64 most] 231) ∧ (∀ k, vr.ownBlock = some k → k ≠ w.heap.size)))
    (fun i _ => N - (intOf i).toNat)
  case atStart => exact ⟨0, .slice ao4 n4 c4, nk0, [], Nat.zero_le _, rfl, by
    show _ ∧ _
    refine ⟨by rw [HN0.out, List.append_nil]; exact P4.out.1, ?_, P4.out.2.2, fun k e q => ?_⟩
    · rw [HN0.out]; exact LW.start D (by rw [HD.out, HL.out.2]; rfl)
    · subst q
      have := P4.out.1.wm.own
      rcases P4.out.1.wm.own with ⟨e', -⟩ | ⟨g, off, n, cap, e', ho⟩
      · rw [e'] at e; cases e
      · obtain ⟨cur, hcu, -⟩ := ho.blk
        rw [e'] at e
        injection e with e
        have e2 : g = w.heap.size := e
        rw [e2, P4.out.2.2] at hcu
        injection hcu with hcu
        injection hcu with _ hcu
        cases hcu⟩
  case round =>
    obtain ⟨k, vr, nk, body, hk, rfl, hI⟩ := hrel
    obtain ⟨aor, nr, cr, rfl, hnr, -, -⟩ := hI.out.1.wm.own.rd.shape
    obtain ⟨z0, z1, f0, f1⟩ := hI.out.1.wm.facts
    have HNR : Hid (nr = xs.length + size + body.length) := by show _ = _; rw [hnr, List.length_append, List.length_append, putD_len]
    have hN4 : Hid (n4 = xs.length + size) := P4.out.2.1
    clear hnr
    by_cases hlt : k < N
    · obtain ⟨x, hx⟩ : ∃ x, l[k]? = some x := ⟨l[k]'(by rw [← HL.out.2]; exact hlt), List.getElem?_eq_getElem _⟩
      obtain ⟨b', o', c', e', q1, q2, -, q3⟩ := (HL.out.1.fa hI.out.1).at HL.out.2 (by omega) (by decide)
      injection e' with e1 e2 e3
      subst e1; subst e3
      obtain ⟨us, q4, q5⟩ := q3 k x hx
      have q6 := q4
      obtain ⟨tb, tl, tc, e6, k6, -⟩ := q4.ext
      obtain ⟨tn, ht⟩ : ∃ tn : Int, tn = x.1 := ⟨_, rfl⟩
      rw [← ht] at e6
      subst e6
      clear ht k6
      have g0 : wr.cell? ⟨b', o' + k * 2, none⟩ = some (.int .u16 tn) := by have := q5 0 _ rfl; exact this
      have g1 : wr.cell? ⟨b', o' + k * 2 + 1, none⟩ = some (.slice tb tl tc) := by have := q5 1 _ rfl; exact this
      obtain ⟨W1, hW1⟩ : ∃ W1, W1 = wr.alloc (.cells #[.int .u16 tn, .slice tb tl tc] 135) := ⟨_, rfl⟩
      have cW : Chg Non wr W1 := by rw [hW1]; exact (Chg.refl _ _).alloc _
      have CW : Hid (Chg Non wr W1) := cW
      have HW1e : Hid (W1 = wr.alloc (.cells #[.int .u16 tn, .slice tb tl tc] 135)) := hW1
      have z1e : (wr.alloc (.cells #[.int .u16 tn, .slice tb tl tc] 135)).cell? ⟨r, 1, none⟩ = some (.bool nk) := (hI.out.1.wm.non ((Chg.refl Non wr).alloc _)).facts.2.1
      have HXK : Hid (l[k]? = some x) := hx
      clear q3 q4 q5 e2 hx hW1
      cases nk with
      | true =>
        clear q6 cW
        go_wp2
        refine bodyPost_ret (results_none rfl _ _ _) rfl ?_
        refine ⟨_, true, putD size 0 ++ body, rfl, ⟨by rw [← List.append_assoc]; first | exact hI.out.1.after CW.out | (have := hI.out.1.after CW.out; rw [HW1e.out] at this; exact this), fun _ => rfl, fun e => ?_, ?_⟩⟩
        · rcases hI.out.2.1.no rfl with h | h
          · rw [e] at h; cases h
          · exact .inl ⟨h, rfl⟩
        · have h1 := hI.out.2.1.len
          have h2 := HS.out.2.2
          have h3 := HS.out.2.1
          rw [List.length_append, putD_len]
          omega
      | false =>
        have hbl := (hI.out.2.1.ok rfl).2.2.2
        have hp := wext_any r tn tb tl tc x (.slice aor nr cr) false (xs ++ putD size 0 ++ body) W1 (hI.out.1.wm.non cW) (q6.faN cW) (by rw [List.length_append, List.length_append, putD_len]; have := HX.out; have := HS.out.2.1; have := HS.out.2.2; omega)
        clear q6 hbl cW
        rw [HW1e.out] at hp
        go_wp2_with (go_at_call 209; refine hp.mono ?_)
        rintro e w5 ⟨v5, n5, ys, rfl, hq'⟩
        rw [← HW1e.out] at hq'
        have hq := hq'.ahead CW.out
        clear hq' z1e
        obtain ⟨ao5, m5, c5, rfl, hm5, -, -⟩ := hq.wp.wm.own.rd.shape
        have HQ : Hid (WQ (wExt) 16777303 r (.slice aor nr cr) wr w5 (.slice ao5 m5 c5) false n5 (xs ++ putD size 0 ++ body) ys x) := hq
        have hm5' : m5 = n4 + (body ++ ys).length := by rw [hm5, hN4.out]; simp [putD_len]; omega
        have hB5 : w5.heap[w.heap.size]? = some (.cells #[.int .i64 size, .int .i64 least, .int .i64 most] 231) := by
          rw [hq.wp.chg.block _ (lt_somW hI.out.2.2.1) (fun q => by rcases q with q | q; have := HB.out.2.1; omega; exact hI.out.2.2.2 _ q rfl)]; exact hI.out.2.2.1
        obtain ⟨Lb, hLb⟩ : ∃ Lb, Lb = (body ++ ys).length := ⟨_, rfl⟩
        rw [← hLb] at hm5'
        obtain ⟨DD, hDD⟩ : ∃ DD, DD = decide (Lb ≤ 256 ^ size - 1) := ⟨_, rfl⟩
        have HF : Hid (∀ u, Chg Non w5 u → WM u r (.slice ao5 m5 c5) n5 (xs ++ putD size 0 ++ body ++ ys) ∧ u.heap[w.heap.size]? = some (.cells #[.int .i64 size, .int .i64 least, .int .i64 most] 231)) := fun u hu => ⟨hq.wp.wm.non hu, by rw [hu.block _ (lt_somW hB5) (fun q => q)]; exact hB5⟩
        have HLB : Hid (Lb = (body ++ ys).length ∧ DD = decide (Lb ≤ 256 ^ size - 1)) := ⟨hLb, hDD⟩
        have hmx := fun u => maxLen_any size HS.out.1 HS.out.2.1 least most u
        obtain ⟨MX, hMX⟩ : ∃ MX, MX = 256 ^ size - 1 := ⟨_, rfl⟩
        rw [← hMX] at hmx hDD
        obtain ⟨z0', z1', f0', f1'⟩ := hq.wp.wm.facts
        obtain ⟨y0, y1, y2⟩ := cell3 hB5
        have hlen5 : (m5 : Int) - (n4 : Int) = (Lb : Int) := by omega
        have hwL : IntKind.i64.wrap (Lb : Int) = (Lb : Int) := by
          have h1 := hI.out.2.1.len
          have h2 := hq.len
          have h3 := HS.out.2.2
          rw [IntKind.wrap_i64, hLb, List.length_append]
          omega
        have hdd : decide (Lb ≤ MX) = DD := hDD.symm
        have hun := fun u hu => unless_any r DD (.slice ao5 m5 c5) n5 (xs ++ putD size 0 ++ body ++ ys) u (HF.out u hu).1
        clear hq hm5 hm5' hB5 hLb hDD hMX z0 z1 f0 f1 hp
        have HSS : Hid (∀ u, Chg Non w5 u → u.cell? ⟨r, 0, none⟩ = some (.slice ao5 m5 c5) ∧ u.cell? ⟨w.heap.size, 0, none⟩ = some (.int .i64 size) ∧ u.cell? ⟨w.heap.size, 1, none⟩ = some (.int .i64 least) ∧ u.cell? ⟨w.heap.size, 2, none⟩ = some (.int .i64 most)) := fun u hu => ⟨(HF.out u hu).1.facts.1, cell3 (HF.out u hu).2⟩
        have hne5 : Hid (∀ i, (Value.slice ao5 m5 c5).ownBlock = some i → i ≠ w.heap.size) := fun i e q => by
          rcases HQ.out.wp.gr with g | ⟨g, g1, g2⟩
          · rw [g] at e; exact hI.out.2.2.2 i e q
          · rw [g1] at e; injection e with e; have := lt_somW hI.out.2.2.1; omega
        have HSP : Hid (∀ u u6 n6 zs, Chg Non w5 u → WP r (.slice ao5 m5 c5) u u6 (.slice ao5 m5 c5) n6 zs → u6.cell? ⟨r, 0, none⟩ = some (.slice ao5 m5 c5) ∧ u6.cell? ⟨w.heap.size, 0, none⟩ = some (.int .i64 size) ∧ u6.cell? ⟨w.heap.size, 1, none⟩ = some (.int .i64 least) ∧ u6.cell? ⟨w.heap.size, 2, none⟩ = some (.int .i64 most)) := fun u u6 n6 zs hu hp => ⟨hp.wm.facts.1, cell3 (by rw [hp.chg.block _ (lt_somW (HF.out u hu).2) (fun q => by rcases q with q | q; have := HB.out.2.1; omega; exact hne5.out _ q rfl)]; exact (HF.out u hu).2)⟩
        go_wp2_with fail
        go_region_held3 (fun q => q.cell? ⟨r, 0, none⟩ = some (.slice ao5 m5 c5) ∧ q.cell? ⟨w.heap.size, 0, none⟩ = some (.int .i64 size) ∧ q.cell? ⟨w.heap.size, 1, none⟩ = some (.int .i64 least) ∧ q.cell? ⟨w.heap.size, 2, none⟩ = some (.int .i64 most)) (first | exact HSS.out _ (Chg.refl _ _).drew | exact hS6 | exact HSS.out _ hu5) (first | (go_at_call 232; refine (hmx _).mono ?_; rintro e u ⟨rfl, hcu⟩; have hu5 : Chg Non w5 u := ((Chg.refl Non w5).drew).two hcu; clear hcu) | (go_at_call 195; refine (hun _ hu5).mono ?_; rintro e w6 ⟨rfl, hp6⟩; have hS6 := HSP.out _ _ _ _ hu5 hp6))
        all_goals
          have HP6 : Hid (WP r v w w6 (.slice ao5 m5 c5) (n5 || !DD) (xs ++ putD size 0 ++ (body ++ ys))) := by
            rw [← List.append_assoc]
            exact (hI.out.1.trans HQ.out.wp).trans (hp6.ahead hu5)
          have hp6K : Hid (Chg (Wr r (.slice ao5 m5 c5)) w5 w6 ∧ w5.heap[w.heap.size]? = some (.cells #[.int .i64 size, .int .i64 least, .int .i64 most] 231)) := ⟨(hp6.ahead hu5).chg, (HF.out w5 (Chg.refl _ _)).2⟩
          clear hp6 hu5 hS6 y0 y1 y2 z0' z1' f0' f1'
          go_wp2
          go_roundw
          case rel =>
            refine ⟨k + 1, .slice ao5 m5 c5, n5 || !DD, body ++ ys, by omega, by go_num, ?_⟩
            show _ ∧ _
            refine ⟨HP6.out, ?_, ?_, fun i e q => ?_⟩
            · have := LW.step hI.out.2.1 HXK.out (HQ.out.out rfl) HQ.out.len
              rw [HLB.out.2, HLB.out.1]
              exact this
            · rw [hp6K.out.1.block _ (lt_somW hp6K.out.2) (fun q => by rcases q with q | q; have := HB.out.2.1; omega; exact hne5.out _ q rfl)]
              exact hp6K.out.2
            · exact hne5.out i e q
          case measure => simp [intOf]; omega
    · have hkN : k = N := by omega
      have hBr : wr.heap[w.heap.size]? = some (.cells #[.int .i64 size, .int .i64 least, .int .i64 most] 231) := hI.out.2.2.1
      obtain ⟨y0, y1, y2⟩ := cell3 hBr
      obtain ⟨Bd, hBd⟩ : ∃ Bd, Bd = body.length := ⟨_, rfl⟩
      have HBd : Hid (Bd = body.length ∧ k = N) := ⟨hBd, hkN⟩
      have hnB : (nr : Int) - (n4 : Int) = (Bd : Int) := by have := HNR.out; have := hN4.out; omega
      have hBdl : Bd ≤ 33554519 := by have h1 := hI.out.2.1.len; have h2 := HS.out.2.2; omega
      have hsz : 0 < size := HS.out.1
      have hsz3 : size ≤ 3 := HS.out.2.1
      obtain ⟨g, off, n', c', e', hn', -, -, -, -⟩ := hI.out.1.wm.cells (by rw [List.length_append, List.length_append, putD_len]; omega)
      injection e' with e1 e2 e3
      subst e1; subst e2; subst e3
      clear hBr hkN hBd hn'
      go_wp2_with fail
      clear y0 y1 y2 z0 z1 f0 f1
      obtain ⟨wo, hwo⟩ : ∃ wo, wo = wr := ⟨_, rfl⟩
      subst hwo
      go_loopw [64] (fun i wq => ∃ (m : Nat), m ≤ size ∧ i = .int .i64 m ∧ Hid (WP r v w wq (.slice (some ⟨g, off, none⟩) nr cr) nk (xs ++ num1 size m (Bd : Int) ++ body)))
        (fun i _ => size - (intOf i).toNat)
      case atStart => exact ⟨0, Nat.zero_le _, rfl, by show WP _ _ _ _ _ _ _; rw [num1_zero]; exact hI.out.1⟩
      case round =>
        obtain ⟨m, hm, rfl, hP⟩ := hrel
        by_cases hlm : m < size
        · obtain ⟨z0, z1, f0, f1⟩ := hP.out.wm.facts
          obtain ⟨g', off', n', c', e', hn', hcc, hcm, hfz, hce⟩ := hP.out.wm.cells (by rw [List.length_append, List.length_append, num1_len _ _ _ hm]; omega)
          injection e' with e1 e2 e3
          injection e1 with e1
          injection e1 with e1 e4
          subst e1; subst e2; subst e3; subst e4
          obtain ⟨q, hq⟩ : ∃ q, q = xs.length + (size - 1 - m) := ⟨_, rfl⟩
          have hqn : q < nr := by have := HNR.out; omega
          have hqi : (n4 : Int) - 1 - (m : Int) = (q : Int) := by have := hN4.out; omega
          have hqlt : q < (xs ++ num1 size m (Bd : Int) ++ body).length := by rw [List.length_append, List.length_append, num1_len _ _ _ hm]; omega
          have hold := hce q _ (List.getElem?_eq_getElem hqlt)
          obtain ⟨u0, hu0⟩ : ∃ u0, u0 = (xs ++ num1 size m (Bd : Int) ++ body)[q] := ⟨_, rfl⟩
          rw [← hu0] at hold
          have hfq := hfz (off + q)
          obtain ⟨B, hB⟩ : ∃ B, B = (Bd : Int) / 256 ^ m % 256 := ⟨_, rfl⟩
          have hB0 : 0 ≤ B := by rw [hB]; exact Int.emod_nonneg _ (by decide)
          have hB1 : B < 256 := by rw [hB]; exact Int.emod_lt_of_pos _ (by decide)
          have hset := hP.out.wm.set q B hqn hB0 hB1
          rw [hq, hB, num_set xs body size m (Bd : Int) hlm, ← hB, ← hq] at hset
          have HSET : Hid (WP r v w (wr.setCell ⟨g, off + q, none⟩ (.int .u8 B)) (.slice (some ⟨g, off, none⟩) nr cr) nk (xs ++ num1 size (m + 1) (Bd : Int) ++ body)) := hP.out.trans hset
          have HQ : Hid (q = xs.length + (size - 1 - m)) := hq
          have hqb : (q : Int) < (nr : Int) := by omega
          have hq0 : (0 : Int) ≤ (q : Int) := by omega
          clear hset hq hu0 hce hfz hqlt hn'
          have hwq : IntKind.i64.wrap (q : Int) = (q : Int) := by rw [IntKind.wrap_i64]; omega
          have hm3 : m = 0 ∨ m = 1 ∨ m = 2 := by omega
          rcases hm3 with rfl | rfl | rfl
          · have w8 : IntKind.i64.wrap 0 = 0 := by decide
            have hp1 : (n4 : Int) - 1 = (q : Int) := by omega
            have hw : IntKind.u8.wrap (Bd : Int) = B := by rw [IntKind.wrap_u8, hB]; simp
            clear hB hqi
            go_wp2_with fail
            go_region_with (fail)
            clear hp1 hw
            go_wp2
            go_roundw
            case rel => exact ⟨1, by omega, by go_num, WP.drew HSET.out⟩
            case measure => simp [intOf]; omega
          · have w8 : IntKind.i64.wrap 8 = 8 := by decide
            obtain ⟨P1, hP1⟩ : ∃ P1 : Nat, P1 = q + 1 := ⟨_, rfl⟩
            have hp1 : (n4 : Int) - 1 = (P1 : Int) := by omega
            have hp2 : (P1 : Int) - 1 = (q : Int) := by omega
            have hw : IntKind.u8.wrap ((Bd : Int) / 256) = B := by rw [IntKind.wrap_u8, hB]; rfl
            have hwP : IntKind.i64.wrap (P1 : Int) = (P1 : Int) := by rw [IntKind.wrap_i64]; omega
            clear hB hqi hP1
            go_wp2_with fail
            go_region_with (fail)
            clear hp1 hw
            go_wp2
            go_roundw
            case rel => exact ⟨2, by omega, by go_num, WP.drew HSET.out⟩
            case measure => simp [intOf]; omega
          · have w8 : IntKind.i64.wrap 16 = 16 := by decide
            obtain ⟨P1, hP1⟩ : ∃ P1 : Nat, P1 = q + 2 := ⟨_, rfl⟩
            have hp1 : (n4 : Int) - 1 = (P1 : Int) := by omega
            have hp2 : (P1 : Int) - 2 = (q : Int) := by omega
            have hw : IntKind.u8.wrap ((Bd : Int) / 65536) = B := by rw [IntKind.wrap_u8, hB]; rfl
            have hwP : IntKind.i64.wrap (P1 : Int) = (P1 : Int) := by rw [IntKind.wrap_i64]; omega
            clear hB hqi hP1
            go_wp2_with fail
            go_region_with (fail)
            clear hp1 hw
            go_wp2
            go_roundw
            case rel => exact ⟨3, by omega, by go_num, WP.drew HSET.out⟩
            case measure => simp [intOf]; omega
        · have hms : m = size := by omega
          have HMS : Hid (m = size) := hms
          clear hms
          go_wp2
          go_end0
          have hp := hP.out
          rw [HMS.out, num1_all] at hp
          refine ⟨_, nk, putD size (Bd : Int) ++ body, rfl, ⟨by rw [← List.append_assoc]; exact hp, fun e => ?_, fun e => ?_, ?_⟩⟩
          · cases nk with
            | true => rfl
            | false => have := (hI.out.2.1.ok rfl).1; rw [e] at this; cases this
          · have hI2 := hI.out.2.1
            rw [HBd.out.2, HL.out.2] at hI2
            have := LW.fin hI2 e
            rw [HBd.out.1]
            rcases this with ⟨q1, q2⟩ | ⟨q1, q2⟩
            · exact .inl ⟨q1, q2⟩
            · exact .inr ⟨q1, q2⟩
          · have h1 := hI.out.2.1.len
            have h2 := HS.out.2.2
            have h3 := HS.out.2.1
            rw [List.length_append, putD_len]
            omega
end Go.Proofs.Ytdhckndehijemaa
namespace Go.Proofs.Ytdhckndehijemaa
open Go.RowKit
set_option linter.unusedVariables false
set_option maxRecDepth 100000

set_option maxHeartbeats 1600000 in
theorem wexts_any (r : Nat) (ao : Option Addr) (L c : Nat) (l : List Ext) (v0 : Value) (n0 : Bool) (xs : List Int) (w : World) (h : WM w r v0 n0 xs) (hx : Rel (.lst tExt) (Fa r v0 w) w [.slice ao L c] l) (hl : xs.length ≤ 997000000000) :
    Calls Try.prog 139 #[.pointer (some ⟨r, 0, none⟩), .slice ao L c] w fun e w' => ∃ v' no' ys, e = .returned (.tuple #[]) ∧ WQ wExts 33554603 r v0 w w' v' n0 no' xs ys l := by
  have ht := twice_any _ _ l w hx
  obtain ⟨D, hD⟩ : ∃ D, D = dup (tys l) := ⟨_, rfl⟩
  rw [← hD] at ht
  have HD : Hid (D = dup (tys l)) := hD
  have HM : Hid (WM w r v0 n0 xs) := h
  have HR : Hid (Rel (.lst tExt) (Fa r v0 w) w [.slice ao L c] l) := hx
  have HX : Hid (xs.length ≤ 997000000000) := hl
  clear h hx hl hD
  go_enter Try.func139, Try.ntmps139
  go_wp2_with (go_at_call 199; refine ht.mono ?_)
  rintro e w1 ⟨rfl, hc1⟩
  have hun := unless_any r (!D) v0 n0 xs w1 (HM.out.non hc1)
  have C1 : Hid (Chg Non w w1) := hc1
  clear hc1 ht
  go_wp2_with (go_at_call 195; refine hun.mono ?_)
  rintro e w2 ⟨rfl, hp2⟩
  have P2 : Hid (WP r v0 w w2 v0 (n0 || !!D) xs) := hp2.ahead C1.out
  clear hp2 hun
  obtain ⟨n2, hn2⟩ : ∃ n2, n2 = (n0 || !!D) := ⟨_, rfl⟩
  have HN : Hid (n2 = (n0 || !!D)) := hn2
  have P2' : Hid (WP r v0 w w2 v0 n2 xs) := by show WP _ _ _ _ _ _ _; rw [hn2]; exact P2.out
  clear hn2
  go_wp2_with (go_at_call 197; refine (free_any 2 w2).mono ?_)
  first | (rintro e w3 rfl hc) | (rintro e w3 ⟨rfl, hc⟩)
  have C3 : Hid (Chg Non w2 w3) := hc
  have hp := putE_any r 2 0 16777216 2 0 16777216 rfl rfl rfl (by decide) (by decide) (.slice ao L c) l v0 n2 xs w3 (P2'.out.wm.non hc) ((HR.out.fa P2'.out).faN hc) HX.out
  clear hc
  go_wp2_with (go_at_call 208; refine (calls_wo hp).mono ?_)
  rintro e w4 ⟨rfl, v4, n4, ys, h4⟩
  have H4 : Hid (WQ (wList 2 0 16777216 wExt) (16777300 + 16777303) r v0 w2 w4 v4 n2 n4 xs ys l) := h4.ahead C3.out
  clear h4 hp
  go_wp2
  go_end0
  have h5 : WQ (wList 2 0 16777216 wExt) 33554603 r v0 w2 w4 v4 (n0 || !(fun l => !dup (tys l)) l) n4 xs ys l := by
    have := H4.out
    rw [HN.out, HD.out] at this
    exact this
  have h6 : WP r v0 w w2 v0 (n0 || !(fun l => !dup (tys l)) l) xs := by
    have := P2'.out
    rw [HN.out, HD.out] at this
    exact this
  exact ⟨v4, n4, ys, rfl, WQ.wif (fun l => !dup (tys l)) h6 h5⟩

theorem Rel.entry {F : Nat → Prop} {w : World} {us : List Value} {x : List Int × List Ext} (h : Rel tEntry F w us x) : ∃ a1 l1 c1 a2 l2 c2, us = [.slice a1 l1 c1, .slice a2 l2 c2] := by
  obtain ⟨us1, us2, rfl, h1, h2⟩ := h
  obtain ⟨v, rfl, h3, -⟩ := h1
  obtain ⟨ao, n, c, rfl, -⟩ := h3.shape
  obtain ⟨a2, l2, c2, rfl, -⟩ := h2
  exact ⟨ao, n, c, a2, l2, c2, rfl⟩


set_option maxHeartbeats 3200000 in
theorem wentry_any (r : Nat) (a1 : Option Addr) (l1 c1 : Nat) (a2 : Option Addr) (l2 c2 : Nat) (x : (tEntry).Dat) (v0 : Value) (n0 : Bool) (xs : List Int) (w : World) (h : WM w r v0 n0 xs) (hx : Rel (tEntry) (Fa r v0 w) w [.slice a1 l1 c1, .slice a2 l2 c2] x) (hl : xs.length ≤ 996000000000) :
    Calls Try.prog 206 #[.pointer (some ⟨r, 0, none⟩), .agg #[.slice a1 l1 c1, .slice a2 l2 c2]] w fun e w' => ∃ v' no' ys, e = .returned (.tuple #[]) ∧ WQ (wEntry) 50331904 r v0 w w' v' n0 no' xs ys x := by
  obtain ⟨w0, hw0⟩ : ∃ w0, w0 = w.alloc (.cells #[.slice a1 l1 c1, .slice a2 l2 c2] 146) := ⟨_, rfl⟩
  have hc0 : Chg Non w w0 := by rw [hw0]; exact (Chg.refl _ _).alloc _
  have C0 : Hid (Chg Non w w0) := hc0
  have B0 : Hid (Bk w0 r v0 w.heap.size (.cells #[.slice a1 l1 c1, .slice a2 l2 c2] 146)) := by show Bk _ _ _ _ _; rw [hw0]; exact Bk.new h _
  have HW0 : Hid (w0 = w.alloc (.cells #[.slice a1 l1 c1, .slice a2 l2 c2] 146)) := hw0
  have HM : Hid (WM w0 r v0 n0 xs) := h.non hc0
  have HX : Hid (xs.length ≤ 996000000000) := hl
  have hx0 := hx.faN hc0
  obtain ⟨g1, hx1⟩ := Rel.split (us1 := [.slice a1 l1 c1]) (us2 := [.slice a2 l2 c2]) hx0 rfl
  have g2 := hx1
  have F1_0 : Hid (Rel (.byt) (Fa r v0 w0) w0 [.slice a1 l1 c1] (x.1)) := g1
  have F2_0 : Hid (Rel (.lst tExt) (Fa r v0 w0) w0 [.slice a2 l2 c2] (x.2)) := g2
  clear h hx hl hc0 hw0 hx0 hx1 g1 g2
  have y0 : w0.cell? ⟨w.heap.size, 0, none⟩ = some (.slice a1 l1 c1) := B0.out.cell rfl
  have hfr1 := fun u => filled_any 3 u
  have hpb1 := fun u (hu : Chg Non w0 u) => putB_any r 3 1 16777216 3 1 16777216 rfl rfl rfl (by decide) (by decide) (.slice a1 l1 c1) (x.1) v0 n0 xs u (HM.out.non hu) (F1_0.out.faN hu).ofByt (by have := HX.out; omega)
  have HSS1 : Hid (∀ u, Chg Non w0 u → u.cell? ⟨w.heap.size, 0, none⟩ = some (.slice a1 l1 c1)) := fun u hu => (B0.out.non hu).cell rfl
  have HSP1 : Hid (∀ u u6 v6 n6 zs, Chg Non w0 u → WP r v0 u u6 v6 n6 zs → u6.cell? ⟨w.heap.size, 0, none⟩ = some (.slice a1 l1 c1)) := fun u u6 v6 n6 zs hu hp => ((B0.out.non hu).wp hp).cell rfl
  go_enter Try.func206, Try.ntmps206
  go_wp2_with fail
  rw [← HW0.out]
  go_region_held3 (fun q => q.cell? ⟨w.heap.size, 0, none⟩ = some (.slice a1 l1 c1)) (first | exact HSS1.out _ (Chg.refl _ _).drew | exact hS6 | exact HSS1.out _ hu5) (first | (go_at_call 185; refine (hfr1 _).mono ?_; first | (rintro e u rfl hcu) | (rintro e u ⟨rfl, hcu⟩); have hu5 : Chg Non w0 u := ((Chg.refl Non w0).drew).two hcu; clear hcu) | (go_at_call 193; refine (calls_wo (hpb1 _ hu5)).mono ?_; rintro e w1 ⟨rfl, v1, n1, ys1, h1⟩; have hS6 := HSP1.out _ _ _ _ _ hu5 h1.wp))
  have H1 : Hid (WQ (wBytes 3 1 16777216) 16777301 r v0 w0 w1 v1 n0 n1 xs ys1 (x.1)) := (h1.weak (by decide)).ahead hu5
  have B1 : Hid (Bk w1 r v1 w.heap.size (.cells #[.slice a1 l1 c1, .slice a2 l2 c2] 146)) := B0.out.wp H1.out.wp
  clear h1 hfr1 hpb1 hS6 hu5 y0
  have F2_1 : Hid (Rel (.lst tExt) (Fa r v1 w1) w1 [.slice a2 l2 c2] (x.2)) := F2_0.out.fa H1.out.wp
  have y1 : w1.cell? ⟨w.heap.size, 1, none⟩ = some (.slice a2 l2 c2) := B1.out.cell rfl
  have hp2 := wexts_any r a2 l2 c2 (x.2) v1 n1 (xs ++ ys1) w1 H1.out.wp.wm F2_1.out (by simp only [List.length_append]; have := H1.out.len; have := HX.out; omega)
  go_wp2_with (go_at_call 139; refine (calls_wo hp2).mono ?_)
  rintro e w2 ⟨rfl, v2, n2, ys2, h2⟩
  have H2 : Hid (WQ (wExts) 33554603 r v1 w1 w2 v2 n1 n2 (xs ++ ys1) ys2 (x.2)) := h2
  have B2 : Hid (Bk w2 r v2 w.heap.size (.cells #[.slice a1 l1 c1, .slice a2 l2 c2] 146)) := B1.out.wp h2.wp
  clear h2 hp2 y1
  go_wp2
  go_end0
  exact ⟨v2, n2, _, rfl, (WQ.seq (f := Prod.fst) (g := Prod.snd) (x := x) H1.out H2.out).ahead C0.out⟩
end Go.Proofs.Ytdhckndehijemaa
namespace Go.Proofs.Ytdhckndehijemaa
open Go.RowKit
set_option linter.unusedVariables false
set_option maxRecDepth 100000

theorem Rel.num_eq {k : IntKind} {F G : Nat → Prop} {w : World} {n m : Int} {x : Int} (h : Rel (.num k) F w [.int k n] (show (Ty.num k).Dat from x)) (g : Rel (.num k) G w [.int k m] (show (Ty.num k).Dat from x)) : n = m := by
  obtain ⟨h1, -⟩ : ([Value.int k n] = [Value.int k x]) ∧ InK k x := h
  obtain ⟨g1, -⟩ : ([Value.int k m] = [Value.int k x]) ∧ InK k x := g
  injection h1 with h1
  injection h1 with _ h1
  injection g1 with g1
  injection g1 with _ g1
  rw [h1, g1]
theorem Rel.conv {F : Nat → Prop} {w u : World} {v : Value} {x : List Int} (h : Rel .byt F w [v] x) (c : Chg Non w u) : (convert 23 9 v).run Try.prog u = .ok (.string (strOfNums x)) u := by
  obtain ⟨v', e, m, -⟩ := h.oldN c
  injection e with e
  subst e
  exact run_str u _ _ m

set_option maxHeartbeats 3200000 in
theorem sameTicket_any (F G : Nat → Prop) (nA nB mA mB : Int) (a3 : Option Addr) (l3 c3 : Nat) (a4 : Option Addr) (l4 c4 : Nat) (a5 : Option Addr) (l5 c5 : Nat) (b3 : Option Addr) (p3 d3 : Nat) (b4 : Option Addr) (p4 d4 : Nat) (b5 : Option Addr) (p5 d5 : Nat) (x : tTick.Dat) (w : World)
    (h : Rel tTick F w [.int .u32 nA, .int .u32 nB, .slice a3 l3 c3, .slice a4 l4 c4, .slice a5 l5 c5] x) (g : Rel tTick G w [.int .u32 mA, .int .u32 mB, .slice b3 p3 d3, .slice b4 p4 d4, .slice b5 p5 d5] x) :
    Calls Try.prog 38 #[.agg #[.int .u32 nA, .int .u32 nB, .slice a3 l3 c3, .slice a4 l4 c4, .slice a5 l5 c5], .agg #[.int .u32 mA, .int .u32 mB, .slice b3 p3 d3, .slice b4 p4 d4, .slice b5 p5 d5]] w fun e w' => e = .returned (.bool true) ∧ Chg Non w w' := by
  obtain ⟨h1, h'⟩ := Rel.split (us1 := [.int .u32 nA]) (us2 := [.int .u32 nB, .slice a3 l3 c3, .slice a4 l4 c4, .slice a5 l5 c5]) h rfl
  obtain ⟨h2, h'⟩ := Rel.split (us1 := [.int .u32 nB]) (us2 := [.slice a3 l3 c3, .slice a4 l4 c4, .slice a5 l5 c5]) h' rfl
  obtain ⟨h3, h'⟩ := Rel.split (us1 := [.slice a3 l3 c3]) (us2 := [.slice a4 l4 c4, .slice a5 l5 c5]) h' rfl
  obtain ⟨h4, h5⟩ := Rel.split (us1 := [.slice a4 l4 c4]) (us2 := [.slice a5 l5 c5]) h' rfl
  obtain ⟨g1, g'⟩ := Rel.split (us1 := [.int .u32 mA]) (us2 := [.int .u32 mB, .slice b3 p3 d3, .slice b4 p4 d4, .slice b5 p5 d5]) g rfl
  obtain ⟨g2, g'⟩ := Rel.split (us1 := [.int .u32 mB]) (us2 := [.slice b3 p3 d3, .slice b4 p4 d4, .slice b5 p5 d5]) g' rfl
  obtain ⟨g3, g'⟩ := Rel.split (us1 := [.slice b3 p3 d3]) (us2 := [.slice b4 p4 d4, .slice b5 p5 d5]) g' rfl
  obtain ⟨g4, g5⟩ := Rel.split (us1 := [.slice b4 p4 d4]) (us2 := [.slice b5 p5 d5]) g' rfl
  obtain rfl : nA = mA := h1.num_eq g1
  obtain rfl : nB = mB := h2.num_eq g2
  obtain ⟨W, hW⟩ : ∃ W, W = (w.alloc (.cells #[.int .u32 nA, .int .u32 nB, .slice a3 l3 c3, .slice a4 l4 c4, .slice a5 l5 c5] 47)).alloc (.cells #[.int .u32 nA, .int .u32 nB, .slice b3 p3 d3, .slice b4 p4 d4, .slice b5 p5 d5] 47) := ⟨_, rfl⟩
  have cW : Chg Non w W := by rw [hW]; exact ((Chg.refl _ _).alloc _).alloc _
  have CW : Hid (Chg Non w W) := cW
  have v1 := h3.conv cW
  have v2 := g3.conv cW
  have v3 := h4.conv cW
  have v4 := g4.conv cW
  have hs := sameExts_any F G _ _ _ W (h5.oldN cW) (g5.oldN cW)
  have HW : Hid (W = (w.alloc (.cells #[.int .u32 nA, .int .u32 nB, .slice a3 l3 c3, .slice a4 l4 c4, .slice a5 l5 c5] 47)).alloc (.cells #[.int .u32 nA, .int .u32 nB, .slice b3 p3 d3, .slice b4 p4 d4, .slice b5 p5 d5] 47)) := hW
  obtain ⟨S3, hS3⟩ : ∃ S, S = strOfNums x.2.2.1 := ⟨_, rfl⟩
  obtain ⟨S4, hS4⟩ : ∃ S, S = strOfNums x.2.2.2.1 := ⟨_, rfl⟩
  rw [← hS3] at v1 v2
  rw [← hS4] at v3 v4
  rw [hW] at v1 v2 v3 v4 hs
  clear h g h1 h2 h3 h4 h5 h' g1 g2 g3 g4 g5 g' hS3 hS4 hW cW
  go_enter Try.func38, Try.ntmps38
  go_wp2_with (go_at_call 28; refine hs.mono ?_)
  rintro e w2 ⟨rfl, hc⟩
  rw [← HW.out] at hc
  have HC : Hid (Chg Non W w2) := hc
  clear hc hs v1 v2 v3 v4
  go_wp2
  go_ret
  exact ⟨rfl, CW.out.two HC.out⟩

set_option maxHeartbeats 3200000 in
theorem sameCert_any (F G : Nat → Prop) (a1 : Option Addr) (l1 c1 : Nat) (a2 : Option Addr) (l2 c2 : Nat) (b1 : Option Addr) (p1 d1 : Nat) (b2 : Option Addr) (p2 d2 : Nat) (x : tCert.Dat) (w : World)
    (h : Rel tCert F w [.slice a1 l1 c1, .slice a2 l2 c2] x) (g : Rel tCert G w [.slice b1 p1 d1, .slice b2 p2 d2] x) :
    Calls Try.prog 31 #[.agg #[.slice a1 l1 c1, .slice a2 l2 c2], .agg #[.slice b1 p1 d1, .slice b2 p2 d2]] w fun e w' => e = .returned (.bool true) ∧ Chg Non w w' := by
  obtain ⟨h1, h2⟩ := Rel.split (us1 := [.slice a1 l1 c1]) (us2 := [.slice a2 l2 c2]) h rfl
  obtain ⟨g1, g2⟩ := Rel.split (us1 := [.slice b1 p1 d1]) (us2 := [.slice b2 p2 d2]) g rfl
  obtain ⟨l, hl⟩ : ∃ l : List (List Int × List Ext), l = x.2 := ⟨_, rfl⟩
  have h2' : Rel (.lst tEntry) F w [.slice a2 l2 c2] l := by rw [hl]; exact h2
  have g2' : Rel (.lst tEntry) G w [.slice b2 p2 d2] l := by rw [hl]; exact g2
  obtain ⟨ao, N, c, e, m1⟩ := h2'.lies (by decide)
  injection e with e1 e2 e3
  subst e1; subst e2; subst e3
  obtain ⟨bo, N', d, e, m2⟩ := g2'.lies (by decide)
  injection e with e1 e2 e3
  subst e1; subst e2; subst e3
  obtain rfl : l2 = p2 := m1.len.trans m2.len.symm
  have HN : Hid (l2 = l.length ∧ l2 ≤ 9223372036854775807) := ⟨m1.len, m1.max⟩
  have HA : Hid (∀ (j : Nat) (a : List Int × List Ext), l[j]? = some a → ∃ b o us', a2 = some ⟨b, o, none⟩ ∧ Rel tEntry F w us' a ∧ ∀ i u, us'[i]? = some u → w.cell? ⟨b, o + j * 2 + i, none⟩ = some u) := m1.els
  have HB : Hid (∀ (j : Nat) (a : List Int × List Ext), l[j]? = some a → ∃ b o us', b2 = some ⟨b, o, none⟩ ∧ Rel tEntry G w us' a ∧ ∀ i u, us'[i]? = some u → w.cell? ⟨b, o + j * 2 + i, none⟩ = some u) := m2.els
  obtain ⟨W, hW⟩ : ∃ W, W = (w.alloc (.cells #[.slice a1 l1 c1, .slice a2 l2 c2] 44)).alloc (.cells #[.slice b1 p1 d1, .slice b2 l2 d2] 44) := ⟨_, rfl⟩
  have cW : Chg Non w W := by rw [hW]; exact ((Chg.refl _ _).alloc _).alloc _
  have CW : Hid (Chg Non w W) := cW
  have HBX : Hid (∀ u, Chg Non W u → u.cell? ⟨w.heap.size, 1, none⟩ = some (.slice a2 l2 c2) ∧ u.cell? ⟨w.heap.size + 1, 1, none⟩ = some (.slice b2 l2 d2)) := fun u hu => by
    have q1 : W.cell? ⟨w.heap.size, 1, none⟩ = some (.slice a2 l2 c2) := by rw [hW]; simp [go_sem]
    have q2 : W.cell? ⟨w.heap.size + 1, 1, none⟩ = some (.slice b2 l2 d2) := by rw [hW]; simp [go_sem]
    exact ⟨cell_kept q1 hu, cell_kept q2 hu⟩
  have v1 := h1.conv cW
  have v2 := g1.conv cW
  have HW : Hid (W = (w.alloc (.cells #[.slice a1 l1 c1, .slice a2 l2 c2] 44)).alloc (.cells #[.slice b1 p1 d1, .slice b2 l2 d2] 44)) := hW
  obtain ⟨S1, hS1⟩ : ∃ S, S = strOfNums x.1 := ⟨_, rfl⟩
  rw [← hS1] at v1 v2
  rw [hW] at v1 v2
  clear h g h1 h2 g1 g2 h2' g2' hS1 hW cW m1 m2 hl
  go_enter Try.func31, Try.ntmps31
  go_wp2_with fail
  rw [← HW.out]
  clear v1 v2
  go_loopw [5] (fun i wr => ∃ k : Nat, k ≤ l2 ∧ i = .int .i64 k ∧ Hid (Chg Non W wr)) (fun i _ => l2 - (intOf i).toNat)
  case atStart => exact ⟨0, Nat.zero_le _, rfl, Chg.refl _ _⟩
  case round =>
    obtain ⟨k, hk, rfl, hc⟩ := hrel
    obtain ⟨x1, x2⟩ := HBX.out wr hc.out
    by_cases hlt : k < l2
    · obtain ⟨y, hy⟩ : ∃ y, l[k]? = some y := ⟨l[k]'(by rw [← HN.out.1]; exact hlt), List.getElem?_eq_getElem _⟩
      obtain ⟨q1, o1, us1, rfl, r1, r2⟩ := HA.out k y hy
      obtain ⟨q2, o2, us2, rfl, s1, s2⟩ := HB.out k y hy
      obtain ⟨ta, tl, tc, ua, ul, uc, rfl⟩ := r1.entry
      obtain ⟨ra, rl, rc, sa, sl, sc, rfl⟩ := s1.entry
      obtain ⟨t1, t2⟩ := Rel.split (us1 := [.slice ta tl tc]) (us2 := [.slice ua ul uc]) r1 rfl
      obtain ⟨t3, t4⟩ := Rel.split (us1 := [.slice ra rl rc]) (us2 := [.slice sa sl sc]) s1 rfl
      have cc : Chg Non w wr := CW.out.two hc.out
      have hse := fun u (hu : Chg Non wr u) => sameExts_any F G (.slice ua ul uc) (.slice sa sl sc) y.2 u (t2.oldN (cc.two hu)) (t4.oldN (cc.two hu))
      have y1 : w.cell? ⟨q1, o1 + k * 2, none⟩ = some (.slice ta tl tc) := r2 0 _ rfl
      have y2 : w.cell? ⟨q2, o2 + k * 2, none⟩ = some (.slice ra rl rc) := s2 0 _ rfl
      have y3 : w.cell? ⟨q1, o1 + k * 2 + 1, none⟩ = some (.slice ua ul uc) := r2 1 _ rfl
      have y4 : w.cell? ⟨q2, o2 + k * 2 + 1, none⟩ = some (.slice sa sl sc) := s2 1 _ rfl
      have HV : Hid (∀ u, Chg Non wr u → (convert 23 9 (.slice ta tl tc)).run Try.prog u = .ok (.string (strOfNums y.1)) u ∧ (convert 23 9 (.slice ra rl rc)).run Try.prog u = .ok (.string (strOfNums y.1)) u) := fun u hu => ⟨t1.conv (cc.two hu), t3.conv (cc.two hu)⟩
      obtain ⟨S, hS⟩ : ∃ S, S = strOfNums y.1 := ⟨_, rfl⟩
      rw [← hS] at HV
      have HS6 : Hid (∀ u, Chg Non wr u → u.cell? ⟨w.heap.size, 1, none⟩ = some (.slice (some ⟨q1, o1, none⟩) l2 c2) ∧ u.cell? ⟨w.heap.size + 1, 1, none⟩ = some (.slice (some ⟨q2, o2, none⟩) l2 d2) ∧ u.cell? ⟨q1, o1 + k * 2 + 1, none⟩ = some (.slice ua ul uc) ∧ u.cell? ⟨q2, o2 + k * 2 + 1, none⟩ = some (.slice sa sl sc)) := fun u hu => ⟨(HBX.out u (hc.out.two hu)).1, (HBX.out u (hc.out.two hu)).2, cell_kept y3 (cc.two hu), cell_kept y4 (cc.two hu)⟩
      have HS7 : Hid (∀ u, Chg Non wr u → u.cell? ⟨w.heap.size, 1, none⟩ = some (.slice (some ⟨q1, o1, none⟩) l2 c2) ∧ u.cell? ⟨w.heap.size + 1, 1, none⟩ = some (.slice (some ⟨q2, o2, none⟩) l2 d2) ∧ u.cell? ⟨q1, o1 + k * 2, none⟩ = some (.slice ta tl tc) ∧ u.cell? ⟨q2, o2 + k * 2, none⟩ = some (.slice ra rl rc) ∧ (convert 23 9 (.slice ta tl tc)).run Try.prog u = .ok (.string S) u ∧ (convert 23 9 (.slice ra rl rc)).run Try.prog u = .ok (.string S) u) := fun u hu => ⟨(HBX.out u (hc.out.two hu)).1, (HBX.out u (hc.out.two hu)).2, cell_kept y1 (cc.two hu), cell_kept y2 (cc.two hu), (HV.out u hu).1, (HV.out u hu).2⟩
      have HL : Hid (k + 1 ≤ l2) := hlt
      have hk1 : k + 1 ≤ 9223372036854775807 := by have := HN.out.2; omega
      clear y1 y2 y3 y4 r1 r2 s1 s2 t1 t2 t3 t4 hS hy cc
      go_wp2_with fail
      go_region_held3 (fun u => u.cell? ⟨w.heap.size, 1, none⟩ = some (.slice (some ⟨q1, o1, none⟩) l2 c2) ∧ u.cell? ⟨w.heap.size + 1, 1, none⟩ = some (.slice (some ⟨q2, o2, none⟩) l2 d2) ∧ u.cell? ⟨q1, o1 + k * 2 + 1, none⟩ = some (.slice ua ul uc) ∧ u.cell? ⟨q2, o2 + k * 2 + 1, none⟩ = some (.slice sa sl sc)) (first | exact HS6.out _ (Chg.refl _ _).drew | exact hS6) ((go_at_call 28; refine (hse _ ((Chg.refl Non wr).drew)).mono ?_; rintro e w6 ⟨rfl, hc6⟩; have hu6 : Chg Non wr w6 := ((Chg.refl Non wr).drew).two hc6; have hS6 := HS6.out _ hu6))
      have HU : Hid (Chg Non wr w6) := hu6
      clear hse hc6 hS6 hu6 x1 x2
      go_wp2_with fail
      go_region_held3 (fun u => u.cell? ⟨w.heap.size, 1, none⟩ = some (.slice (some ⟨q1, o1, none⟩) l2 c2) ∧ u.cell? ⟨w.heap.size + 1, 1, none⟩ = some (.slice (some ⟨q2, o2, none⟩) l2 d2) ∧ u.cell? ⟨q1, o1 + k * 2, none⟩ = some (.slice ta tl tc) ∧ u.cell? ⟨q2, o2 + k * 2, none⟩ = some (.slice ra rl rc) ∧ (convert 23 9 (.slice ta tl tc)).run Try.prog u = .ok (.string S) u ∧ (convert 23 9 (.slice ra rl rc)).run Try.prog u = .ok (.string S) u) (exact HS7.out _ (HU.out.drew)) (fail)
      go_wp2
      go_roundw
      case rel => exact ⟨k + 1, HL.out, by go_num, (hc.out.two HU.out).drewN _⟩
      case measure => simp [intOf]; omega
    · go_wp2
      go_ret
      exact ⟨rfl, CW.out.two hc.out⟩
end Go.Proofs.Ytdhckndehijemaa
namespace Go.Proofs.Ytdhckndehijemaa
open Go.RowKit
set_option linter.unusedVariables false
set_option maxRecDepth 100000

theorem Rel.psk {F : Nat → Prop} {w : World} {us : List Value} {x : List Int × Int × List Int} (h : Rel tPSK F w us x) : ∃ a1 l1 c1 n a2 l2 c2, us = [.slice a1 l1 c1, .int .u32 n, .slice a2 l2 c2] := by
  obtain ⟨us1, us2, rfl, h1, us3, us4, rfl, h2, h3⟩ := h
  obtain ⟨v, rfl, k1, -⟩ := h1
  obtain ⟨a1, l1, c1, rfl, -⟩ := k1.shape
  obtain ⟨v2, rfl, k2, -⟩ := h3
  obtain ⟨a2, l2, c2, rfl, -⟩ := k2.shape
  obtain ⟨rfl, -⟩ := h2
  exact ⟨a1, l1, c1, _, a2, l2, c2, rfl⟩

set_option maxHeartbeats 3200000 in
theorem sameNumbers_any (F G : Nat → Prop) (va vb : Value) (l : List Int) (w : World) (h : Rel (.lst (.num .u16)) F w [va] l) (g : Rel (.lst (.num .u16)) G w [vb] l) : Calls Try.prog 53 #[va, vb] w fun e w' => e = .returned (.bool true) ∧ Chg Non w w' := by
  obtain ⟨ao, N, c, rfl, h1⟩ := h.lies (by decide)
  obtain ⟨bo, N', d, rfl, g1⟩ := g.lies (by decide)
  obtain rfl : N = N' := h1.len.trans g1.len.symm
  have HN : Hid (N = l.length ∧ N ≤ 9223372036854775807) := ⟨h1.len, h1.max⟩
  have H1 := h1.els
  have G1 := g1.els
  have HA : Hid (∀ (j : Nat) (a : Int), l[j]? = some a → ∃ b o us', ao = some ⟨b, o, none⟩ ∧ Rel (.num .u16) F w us' a ∧ ∀ i u, us'[i]? = some u → w.cell? ⟨b, o + j * 1 + i, none⟩ = some u) := H1
  have HB : Hid (∀ (j : Nat) (a : Int), l[j]? = some a → ∃ b o us', bo = some ⟨b, o, none⟩ ∧ Rel (.num .u16) G w us' a ∧ ∀ i u, us'[i]? = some u → w.cell? ⟨b, o + j * 1 + i, none⟩ = some u) := G1
  clear h g h1 g1 H1 G1
  go_enter Try.func53, Try.ntmps53
  go_wp2
  go_loopw [5] (fun i wr => ∃ k : Nat, k ≤ N ∧ i = .int .i64 k ∧ Hid (Chg Non w wr)) (fun i _ => N - (intOf i).toNat)
  case atStart => exact ⟨0, Nat.zero_le _, rfl, Chg.refl _ _⟩
  case round =>
    obtain ⟨k, hk, rfl, hc⟩ := hrel
    by_cases hlt : k < N
    · obtain ⟨x, hx⟩ : ∃ x, l[k]? = some x := ⟨l[k]'(by rw [← HN.out.1]; exact hlt), List.getElem?_eq_getElem _⟩
      obtain ⟨b1, o1, us1, rfl, r1, r2⟩ := HA.out k x hx
      obtain ⟨b2, o2, us2, rfl, s1, s2⟩ := HB.out k x hx
      obtain ⟨rfl, -⟩ := r1
      obtain ⟨rfl, -⟩ := s1
      obtain ⟨S, hS⟩ : ∃ S : Int, S = x := ⟨_, rfl⟩
      rw [← hS] at r2 s2
      have y1 : wr.cell? ⟨b1, o1 + k, none⟩ = some (.int .u16 S) := by simpa using cell_kept (r2 0 _ rfl) hc.out
      have y2 : wr.cell? ⟨b2, o2 + k, none⟩ = some (.int .u16 S) := by simpa using cell_kept (s2 0 _ rfl) hc.out
      have HL : Hid (k + 1 ≤ N) := hlt
      have hk1 : k + 1 ≤ 9223372036854775807 := by have := HN.out.2; omega
      clear hS r2 s2 hx
      go_wp2_with fail
      go_quiet (fail)
      go_wp2
      go_roundw
      case rel => exact ⟨k + 1, HL.out, by go_num, hc.out.drewN _⟩
      case measure => simp [intOf]; omega
    · go_wp2
      go_ret
      exact ⟨rfl, hc.out⟩

set_option maxHeartbeats 3200000 in
theorem samePSKs_any (F G : Nat → Prop) (va vb : Value) (l : List (List Int × Int × List Int)) (w : World) (h : Rel (.lst tPSK) F w [va] l) (g : Rel (.lst tPSK) G w [vb] l) : Calls Try.prog 70 #[va, vb] w fun e w' => e = .returned (.bool true) ∧ Chg Non w w' := by
  obtain ⟨ao, N, c, rfl, h1⟩ := h.lies (by decide)
  obtain ⟨bo, N', d, rfl, g1⟩ := g.lies (by decide)
  obtain rfl : N = N' := h1.len.trans g1.len.symm
  have HN : Hid (N = l.length ∧ N ≤ 9223372036854775807) := ⟨h1.len, h1.max⟩
  have HA : Hid (∀ (j : Nat) (a : List Int × Int × List Int), l[j]? = some a → ∃ b o us', ao = some ⟨b, o, none⟩ ∧ Rel tPSK F w us' a ∧ ∀ i u, us'[i]? = some u → w.cell? ⟨b, o + j * 3 + i, none⟩ = some u) := h1.els
  have HB : Hid (∀ (j : Nat) (a : List Int × Int × List Int), l[j]? = some a → ∃ b o us', bo = some ⟨b, o, none⟩ ∧ Rel tPSK G w us' a ∧ ∀ i u, us'[i]? = some u → w.cell? ⟨b, o + j * 3 + i, none⟩ = some u) := g1.els
  clear h g h1 g1
  go_enter Try.func70, Try.ntmps70
  go_wp2
  go_loopw [5] (fun i wr => ∃ k : Nat, k ≤ N ∧ i = .int .i64 k ∧ Hid (Chg Non w wr)) (fun i _ => N - (intOf i).toNat)
  case atStart => exact ⟨0, Nat.zero_le _, rfl, Chg.refl _ _⟩
  case round =>
    obtain ⟨k, hk, rfl, hc⟩ := hrel
    by_cases hlt : k < N
    · obtain ⟨x, hx⟩ : ∃ x, l[k]? = some x := ⟨l[k]'(by rw [← HN.out.1]; exact hlt), List.getElem?_eq_getElem _⟩
      obtain ⟨b1, o1, us1, rfl, r1, r2⟩ := HA.out k x hx
      obtain ⟨b2, o2, us2, rfl, s1, s2⟩ := HB.out k x hx
      obtain ⟨p1, p2, p3, p, p4, p5, p6, rfl⟩ := r1.psk
      obtain ⟨q1, q2, q3, q, q4, q5, q6, rfl⟩ := s1.psk
      obtain ⟨d1, d3⟩ := Rel.split (us1 := [.slice p1 p2 p3]) (us2 := [.int .u32 p, .slice p4 p5 p6]) r1 rfl
      obtain ⟨d2, d4⟩ := Rel.split (us1 := [.int .u32 p]) (us2 := [.slice p4 p5 p6]) d3 rfl
      obtain ⟨e1, e3⟩ := Rel.split (us1 := [.slice q1 q2 q3]) (us2 := [.int .u32 q, .slice q4 q5 q6]) s1 rfl
      obtain ⟨e2, e4⟩ := Rel.split (us1 := [.int .u32 q]) (us2 := [.slice q4 q5 q6]) e3 rfl
      obtain rfl : p = q := d2.num_eq e2
      obtain ⟨t, ht⟩ : ∃ t : Int, t = p := ⟨_, rfl⟩
      rw [← ht] at r2 s2
      have y1 : wr.cell? ⟨b1, o1 + k * 3, none⟩ = some (.slice p1 p2 p3) := cell_kept (r2 0 _ rfl) hc.out
      have y2 : wr.cell? ⟨b2, o2 + k * 3, none⟩ = some (.slice q1 q2 q3) := cell_kept (s2 0 _ rfl) hc.out
      have y3 : wr.cell? ⟨b1, o1 + k * 3 + 1, none⟩ = some (.int .u32 t) := cell_kept (r2 1 _ rfl) hc.out
      have y4 : wr.cell? ⟨b2, o2 + k * 3 + 1, none⟩ = some (.int .u32 t) := cell_kept (s2 1 _ rfl) hc.out
      have y5 : wr.cell? ⟨b1, o1 + k * 3 + 2, none⟩ = some (.slice p4 p5 p6) := cell_kept (r2 2 _ rfl) hc.out
      have y6 : wr.cell? ⟨b2, o2 + k * 3 + 2, none⟩ = some (.slice q4 q5 q6) := cell_kept (s2 2 _ rfl) hc.out
      obtain ⟨S, hS⟩ : ∃ S, S = strOfNums x.1 := ⟨_, rfl⟩
      obtain ⟨T, hT⟩ : ∃ T, T = strOfNums x.2.2 := ⟨_, rfl⟩
      have HSS : Hid (∀ u, Chg Non wr u → (convert 23 9 (.slice p1 p2 p3)).run Try.prog u = .ok (.string S) u ∧ (convert 23 9 (.slice q1 q2 q3)).run Try.prog u = .ok (.string S) u ∧ (convert 23 9 (.slice p4 p5 p6)).run Try.prog u = .ok (.string T) u ∧ (convert 23 9 (.slice q4 q5 q6)).run Try.prog u = .ok (.string T) u ∧ u.cell? ⟨b1, o1 + k * 3, none⟩ = some (.slice p1 p2 p3) ∧ u.cell? ⟨b2, o2 + k * 3, none⟩ = some (.slice q1 q2 q3) ∧ u.cell? ⟨b1, o1 + k * 3 + 1, none⟩ = some (.int .u32 t) ∧ u.cell? ⟨b2, o2 + k * 3 + 1, none⟩ = some (.int .u32 t) ∧ u.cell? ⟨b1, o1 + k * 3 + 2, none⟩ = some (.slice p4 p5 p6) ∧ u.cell? ⟨b2, o2 + k * 3 + 2, none⟩ = some (.slice q4 q5 q6)) := fun u hu => by
        rw [hS, hT]
        exact ⟨d1.conv (hc.out.two hu), e1.conv (hc.out.two hu), d4.conv (hc.out.two hu), e4.conv (hc.out.two hu), cell_kept y1 hu, cell_kept y2 hu, cell_kept y3 hu, cell_kept y4 hu, cell_kept y5 hu, cell_kept y6 hu⟩
      have HL : Hid (k + 1 ≤ N) := hlt
      have hk1 : k + 1 ≤ 9223372036854775807 := by have := HN.out.2; omega
      clear hS hT ht r1 r2 s1 s2 hx d1 d2 d3 d4 e1 e2 e3 e4
      go_wp2_with fail
      go_region_held3 (fun u => (convert 23 9 (.slice p1 p2 p3)).run Try.prog u = .ok (.string S) u ∧ (convert 23 9 (.slice q1 q2 q3)).run Try.prog u = .ok (.string S) u ∧ (convert 23 9 (.slice p4 p5 p6)).run Try.prog u = .ok (.string T) u ∧ (convert 23 9 (.slice q4 q5 q6)).run Try.prog u = .ok (.string T) u ∧ u.cell? ⟨b1, o1 + k * 3, none⟩ = some (.slice p1 p2 p3) ∧ u.cell? ⟨b2, o2 + k * 3, none⟩ = some (.slice q1 q2 q3) ∧ u.cell? ⟨b1, o1 + k * 3 + 1, none⟩ = some (.int .u32 t) ∧ u.cell? ⟨b2, o2 + k * 3 + 1, none⟩ = some (.int .u32 t) ∧ u.cell? ⟨b1, o1 + k * 3 + 2, none⟩ = some (.slice p4 p5 p6) ∧ u.cell? ⟨b2, o2 + k * 3 + 2, none⟩ = some (.slice q4 q5 q6)) (exact HSS.out _ (Chg.refl _ _).drew) (fail)
      go_wp2
      go_roundw
      case rel => exact ⟨k + 1, HL.out, by go_num, hc.out.drewN _⟩
      case measure => simp [intOf]; omega
    · go_wp2
      go_ret
      exact ⟨rfl, hc.out⟩

end Go.Proofs.Ytdhckndehijemaa
