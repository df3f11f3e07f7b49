/-
  The document's writer: parts.
-/
import Derived.Test.YtdhckndehijemaaVq
import Derived.Test.YtdhckndehijemaaSx
import Derived.Test.YtdhckndehijemaaMj23
namespace Go.Proofs.Ytdhckndehijemaa
open Go.RowKit
set_option linter.unusedVariables false
set_option maxRecDepth 100000

theorem VQ.like2 {α β : Type} {p : Pw α} {q : Pw β} {G : Nat} {r : Nat} {v v' : Value} {a b : World} {no no' : Bool} {xs ys : List Int} {x : α} {y : β} (h : VQ p G r v a b v' no no' xs ys x) (k : p x = q y) : VQ q G r v a b v' no no' xs ys y := ⟨h.wp, h.bad, by rw [← k]; exact h.out, h.len⟩
theorem VM.flag {w : World} {r : Nat} {v : Value} {no : Bool} {xs : List Int} (b : Bool) (h : VM w r v no xs) : VP r v w (w.setCell ⟨r, 1, none⟩ (.bool b)) v b xs := by
  have c := chg_rest w r 1 (.bool b)
  exact ⟨⟨set_two1 _ h.blk, h.own.keep (fun k e => c.block k (h.own.lt k e) (fun s => by have s' : k = r := s; have := h.new k e; omega)), h.new, h.byt⟩, c.mono (fun _ _ q => .inl q), .inl rfl⟩
theorem VM.begin (w : World) : VM (w.alloc (.cells #[.slice none 0 0, .bool false] 115)) w.heap.size (.slice none 0 0) false [] :=
  ⟨heap_alloc_last w _, .inl ⟨rfl, rfl⟩, (fun k e => by cases e), Byt.nil⟩

set_option maxHeartbeats 400000 in
theorem vdone_any (r : Nat) (v : Value) (no : Bool) (xs : List Int) (w : World) (h : VM w r v no xs) : Calls Try.prog 101 #[.pointer (some ⟨r, 0, none⟩)] w fun e w' => e = .returned (if no then .slice none 0 0 else v) ∧ w' = w := by
  obtain ⟨z0, z1, f0, f1⟩ := h.facts
  obtain ⟨ao, n, c, rfl, -, -, -⟩ := h.own.rd.shape
  clear h
  cases no with
  | true =>
    go_enter Try.func101, Try.ntmps101
    go_wp2
    go_ret
    exact ⟨rfl, rfl⟩
  | false =>
    go_enter Try.func101, Try.ntmps101
    go_wp2
    go_ret
    exact ⟨rfl, rfl⟩

/-- What a part comes to. -/
def wPart (pn : Bool) (n least : Nat) : Pw (List Int) := fun b => if pn then none else wRaw n least 16777215 b

set_option maxHeartbeats 3200000 in
theorem vpart_any (r P n least : Nat) (a b : Int) (ha : a = n) (hb : b = least) (hn : n = 1 ∨ n = 2 ∨ n = 3) (u : Value) (pn : Bool) (body : List Int) (v : Value) (no : Bool) (xs : List Int) (w : World) (h : VM w r v no xs) (g : VM w P u pn body) (hrP : r ≠ P) (hvP : ¬ v.ownBlock = some P) (hd : ∀ k, u.ownBlock = some k → k ≠ r ∧ ¬ v.ownBlock = some k) (hl : xs.length ≤ 69000000000000) :
    Calls Try.prog 111 #[.pointer (some ⟨r, 0, none⟩), .int .i64 a, .int .i64 b, .pointer (some ⟨P, 0, none⟩)] w fun e w' => VOq (wPart pn n least) (n + 16777215) r v w w' no xs body e := by
  subst ha hb
  obtain ⟨N1, hN1⟩ : ∃ N1, N1 = (no || pn) := ⟨_, rfl⟩
  obtain ⟨w1, hw1⟩ : ∃ w1, w1 = w.setCell ⟨r, 1, none⟩ (.bool N1) := ⟨_, rfl⟩
  have p1 : VP r v w w1 v N1 xs := by rw [hw1]; exact h.flag N1
  have hbv : Rel .byt (Fa r v w) w [u] body := ⟨u, rfl, g.own.rd, g.byt, fun k e _ => ⟨(hd k e).1, (hd k e).2, g.own.lt k e⟩⟩
  have hbv1 : Rel .byt (Fa r v w1) w1 [u] body := hbv.va p1
  have g1 : VM w1 P u pn body := g.keep p1.chg (fun s => by rcases s with s | s; exact hrP s.symm; exact hvP s) (fun k e s => by rcases s with s | s; exact (hd k e).1 s; exact (hd k e).2 s)
  have hp := vlist_any r n least 16777215 n least 16777215 rfl rfl rfl hn (Nat.le_refl _) u body v N1 xs w1 p1.wm hbv1 hl
  obtain ⟨z0, z1, f0, f1⟩ := h.facts
  obtain ⟨y0, y1, i0, i1⟩ := g.facts
  obtain ⟨ao, nn, cc, rfl, -, -, -⟩ := g.own.rd.shape
  obtain ⟨y0', y1', i0', i1'⟩ := g1.facts
  have H1 : Hid (VP r v w w1 v N1 xs ∧ N1 = (no || pn)) := ⟨p1, hN1⟩
  have HW1 : Hid (w1 = w.setCell ⟨r, 1, none⟩ (.bool N1)) := hw1
  have HN : Hid (N1 = (no || pn)) := hN1
  clear h g hd hl hbv hbv1 g1 p1 hw1 hN1 hn hvP
  have fin : ∀ w2, (VOq (wRaw n least 16777215) (n + 16777215) r v w1 w2 N1 xs body (.returned (.tuple #[]))) → VOq (wPart pn n least) (n + 16777215) r v w w2 no xs body (.returned (.tuple #[])) := by
    rintro w2 ⟨-, v2, n2, ys, hq⟩
    refine VQ.vo (v' := v2) (no' := n2) (ys := ys) ⟨H1.out.1.trans hq.wp, fun e => hq.bad (by rw [HN.out, e]; rfl), fun e => ?_, hq.len⟩
    unfold wPart
    cases pn with
    | true => exact .inl ⟨rfl, hq.bad (by rw [HN.out, e]; rfl)⟩
    | false => exact hq.out (by rw [HN.out, e]; rfl)
  have FIN : Hid (∀ w2, (VOq (wRaw n least 16777215) (n + 16777215) r v w1 w2 N1 xs body (.returned (.tuple #[]))) → VOq (wPart pn n least) (n + 16777215) r v w w2 no xs body (.returned (.tuple #[]))) := fin
  clear fin
  cases no with
  | true =>
    cases pn with
    | true =>
      have hN : N1 = true := HN.out
      subst hN
      go_enter Try.func111, Try.ntmps111
      go_wp2_with fail
      rw [← HW1.out]
      refine hp.mono ?_
      rintro e w2 hq
      obtain rfl := hq.ret
      have HQ : Hid (VOq (wRaw n least 16777215) (n + 16777215) r v w1 w2 true xs body (.returned (.tuple #[]))) := hq
      clear hq hp
      go_wp2
      go_end0
      exact FIN.out _ HQ.out
    | false =>
      have hN : N1 = true := HN.out
      subst hN
      go_enter Try.func111, Try.ntmps111
      go_wp2_with fail
      rw [← HW1.out]
      refine hp.mono ?_
      rintro e w2 hq
      obtain rfl := hq.ret
      have HQ : Hid (VOq (wRaw n least 16777215) (n + 16777215) r v w1 w2 true xs body (.returned (.tuple #[]))) := hq
      clear hq hp
      go_wp2
      go_end0
      exact FIN.out _ HQ.out
  | false =>
    cases pn with
    | true =>
      have hN : N1 = true := HN.out
      subst hN
      go_enter Try.func111, Try.ntmps111
      go_wp2_with fail
      rw [← HW1.out]
      refine hp.mono ?_
      rintro e w2 hq
      obtain rfl := hq.ret
      have HQ : Hid (VOq (wRaw n least 16777215) (n + 16777215) r v w1 w2 true xs body (.returned (.tuple #[]))) := hq
      clear hq hp
      go_wp2
      go_end0
      exact FIN.out _ HQ.out
    | false =>
      have hN : N1 = false := HN.out
      subst hN
      go_enter Try.func111, Try.ntmps111
      go_wp2_with fail
      rw [← HW1.out]
      refine hp.mono ?_
      rintro e w2 hq
      obtain rfl := hq.ret
      have HQ : Hid (VOq (wRaw n least 16777215) (n + 16777215) r v w1 w2 false xs body (.returned (.tuple #[]))) := hq
      clear hq hp
      go_wp2
      go_end0
      exact FIN.out _ HQ.out

end Go.Proofs.Ytdhckndehijemaa
namespace Go.Proofs.Ytdhckndehijemaa
open Go.RowKit
set_option linter.unusedVariables false
set_option maxRecDepth 100000


set_option maxHeartbeats 3200000 in
theorem wext_any (r : Nat) (n : Int) (ao : Option Addr) (L c : Nat) (x : (tExt).Dat) (v0 : Value) (n0 : Bool) (xs : List Int) (w : World) (h : WM w r v0 n0 xs) (hx : Rel (tExt) (Fa r v0 w) w [.int .u16 n, .slice ao L c] x) (hl : xs.length ≤ 998000000000) :
    Calls Try.prog 209 #[.pointer (some ⟨r, 0, none⟩), .agg #[.int .u16 n, .slice ao L c]] w fun e w' => ∃ v' no' ys, e = .returned (.tuple #[]) ∧ WQ (wExt) 16777303 r v0 w w' v' n0 no' xs ys x := by
  obtain ⟨w0, hw0⟩ : ∃ w0, w0 = w.alloc (.cells #[.int .u16 n, .slice ao L c] 135) := ⟨_, rfl⟩
  have hc0 : Chg Non w w0 := by rw [hw0]; exact (Chg.refl _ _).alloc _
  have C0 : Hid (Chg Non w w0) := hc0
  have B0 : Hid (Bk w0 r v0 w.heap.size (.cells #[.int .u16 n, .slice ao L c] 135)) := by show Bk _ _ _ _ _; rw [hw0]; exact Bk.new h _
  have HW0 : Hid (w0 = w.alloc (.cells #[.int .u16 n, .slice ao L c] 135)) := hw0
  have HM : Hid (WM w0 r v0 n0 xs) := h.non hc0
  have HX : Hid (xs.length ≤ 998000000000) := hl
  have hx0 := hx.faN hc0
  obtain ⟨g1, hx1⟩ := Rel.split (us1 := [.int .u16 n]) (us2 := [.slice ao L c]) hx0 rfl
  have g2 := hx1
  obtain ⟨e1, k1⟩ : ([Value.int .u16 n] = [Value.int .u16 (x.1)]) ∧ InK .u16 (x.1) := g1
  have N1 : Hid (n = x.1 ∧ InK .u16 n) := by
    injection e1 with e1
    injection e1 with _ e1
    exact ⟨e1, by rw [e1]; exact k1⟩
  have F2_0 : Hid (Rel (.byt) (Fa r v0 w0) w0 [.slice ao L c] (x.2)) := g2
  clear h hx hl hc0 hw0 hx0 hx1 g2 e1 k1
  have y0 : w0.cell? ⟨w.heap.size, 0, none⟩ = some (.int .u16 n) := B0.out.cell rfl
  have hp1 := wnumber_any r n v0 n0 xs w0 HM.out N1.out.2 (by have := HX.out; omega)
  go_enter Try.func209, Try.ntmps209
  go_wp2_with fail
  rw [← HW0.out]
  refine (calls_wo hp1).mono ?_
  rintro e w1 ⟨rfl, v1, n1, ys1, h1⟩
  have H1 : Hid (WQ (wNum 2) 2 r v0 w0 w1 v1 n0 n1 xs ys1 (x.1)) := by rw [← N1.out.1]; exact h1
  have B1 : Hid (Bk w1 r v1 w.heap.size (.cells #[.int .u16 n, .slice ao L c] 135)) := B0.out.wp h1.wp
  clear h1 hp1 y0
  have F2_1 : Hid (Rel (.byt) (Fa r v1 w1) w1 [.slice ao L c] (x.2)) := F2_0.out.fa H1.out.wp
  have y1 : w1.cell? ⟨w.heap.size, 1, none⟩ = some (.slice ao L c) := B1.out.cell rfl
  have hfr2 := fun u => free_any 2 u
  have hpb2 := fun u (hu : Chg Non w1 u) => putB_any r 2 0 16777216 2 0 16777216 rfl rfl rfl (by decide) (by decide) (.slice ao L c) (x.2) v1 n1 (xs ++ ys1) u (H1.out.wp.wm.non hu) (F2_1.out.faN hu).ofByt (by simp only [List.length_append]; have := H1.out.len; have := HX.out; omega)
  have HSS2 : Hid (∀ u, Chg Non w1 u → u.cell? ⟨w.heap.size, 1, none⟩ = some (.slice ao L c)) := fun u hu => (B1.out.non hu).cell rfl
  have HSP2 : Hid (∀ u u6 v6 n6 zs, Chg Non w1 u → WP r v1 u u6 v6 n6 zs → u6.cell? ⟨w.heap.size, 1, none⟩ = some (.slice ao L c)) := fun u u6 v6 n6 zs hu hp => ((B1.out.non hu).wp hp).cell rfl
  go_wp2_with fail
  go_region_held3 (fun q => q.cell? ⟨w.heap.size, 1, none⟩ = some (.slice ao L c)) (first | exact HSS2.out _ (Chg.refl _ _).drew | exact hS6 | exact HSS2.out _ hu5) (first | (go_at_call 197; refine (hfr2 _).mono ?_; first | (rintro e u rfl hcu) | (rintro e u ⟨rfl, hcu⟩); have hu5 : Chg Non w1 u := ((Chg.refl Non w1).drew).two hcu; clear hcu) | (go_at_call 193; refine (calls_wo (hpb2 _ hu5)).mono ?_; rintro e w2 ⟨rfl, v2, n2, ys2, h2⟩; have hS6 := HSP2.out _ _ _ _ _ hu5 h2.wp))
  have H2 : Hid (WQ (wBytes 2 0 16777216) 16777301 r v1 w1 w2 v2 n1 n2 (xs ++ ys1) ys2 (x.2)) := (h2.weak (by decide)).ahead hu5
  have B2 : Hid (Bk w2 r v2 w.heap.size (.cells #[.int .u16 n, .slice ao L c] 135)) := B1.out.wp H2.out.wp
  clear h2 hfr2 hpb2 hS6 hu5 y1
  go_wp2
  go_end0
  exact ⟨v2, n2, _, rfl, (WQ.seq (f := Prod.fst) (g := Prod.snd) (x := x) H1.out H2.out).ahead C0.out⟩

set_option maxHeartbeats 3200000 in
theorem wshare_any (r : Nat) (n : Int) (ao : Option Addr) (L c : Nat) (x : (tExt).Dat) (v0 : Value) (n0 : Bool) (xs : List Int) (w : World) (h : WM w r v0 n0 xs) (hx : Rel (tExt) (Fa r v0 w) w [.int .u16 n, .slice ao L c] x) (hl : xs.length ≤ 998000000000) :
    Calls Try.prog 181 #[.pointer (some ⟨r, 0, none⟩), .agg #[.int .u16 n, .slice ao L c]] w fun e w' => ∃ v' no' ys, e = .returned (.tuple #[]) ∧ WQ (wShare) 16777303 r v0 w w' v' n0 no' xs ys x := by
  obtain ⟨w0, hw0⟩ : ∃ w0, w0 = w.alloc (.cells #[.int .u16 n, .slice ao L c] 87) := ⟨_, rfl⟩
  have hc0 : Chg Non w w0 := by rw [hw0]; exact (Chg.refl _ _).alloc _
  have C0 : Hid (Chg Non w w0) := hc0
  have B0 : Hid (Bk w0 r v0 w.heap.size (.cells #[.int .u16 n, .slice ao L c] 87)) := by show Bk _ _ _ _ _; rw [hw0]; exact Bk.new h _
  have HW0 : Hid (w0 = w.alloc (.cells #[.int .u16 n, .slice ao L c] 87)) := hw0
  have HM : Hid (WM w0 r v0 n0 xs) := h.non hc0
  have HX : Hid (xs.length ≤ 998000000000) := hl
  have hx0 := hx.faN hc0
  obtain ⟨g1, hx1⟩ := Rel.split (us1 := [.int .u16 n]) (us2 := [.slice ao L c]) hx0 rfl
  have g2 := hx1
  obtain ⟨e1, k1⟩ : ([Value.int .u16 n] = [Value.int .u16 (x.1)]) ∧ InK .u16 (x.1) := g1
  have N1 : Hid (n = x.1 ∧ InK .u16 n) := by
    injection e1 with e1
    injection e1 with _ e1
    exact ⟨e1, by rw [e1]; exact k1⟩
  have F2_0 : Hid (Rel (.byt) (Fa r v0 w0) w0 [.slice ao L c] (x.2)) := g2
  clear h hx hl hc0 hw0 hx0 hx1 g2 e1 k1
  have y0 : w0.cell? ⟨w.heap.size, 0, none⟩ = some (.int .u16 n) := B0.out.cell rfl
  have hp1 := wnumber_any r n v0 n0 xs w0 HM.out N1.out.2 (by have := HX.out; omega)
  go_enter Try.func181, Try.ntmps181
  go_wp2_with fail
  rw [← HW0.out]
  refine (calls_wo hp1).mono ?_
  rintro e w1 ⟨rfl, v1, n1, ys1, h1⟩
  have H1 : Hid (WQ (wNum 2) 2 r v0 w0 w1 v1 n0 n1 xs ys1 (x.1)) := by rw [← N1.out.1]; exact h1
  have B1 : Hid (Bk w1 r v1 w.heap.size (.cells #[.int .u16 n, .slice ao L c] 87)) := B0.out.wp h1.wp
  clear h1 hp1 y0
  have F2_1 : Hid (Rel (.byt) (Fa r v1 w1) w1 [.slice ao L c] (x.2)) := F2_0.out.fa H1.out.wp
  have y1 : w1.cell? ⟨w.heap.size, 1, none⟩ = some (.slice ao L c) := B1.out.cell rfl
  have hfr2 := fun u => filled_any 2 u
  have hpb2 := fun u (hu : Chg Non w1 u) => putB_any r 2 1 16777216 2 1 16777216 rfl rfl rfl (by decide) (by decide) (.slice ao L c) (x.2) v1 n1 (xs ++ ys1) u (H1.out.wp.wm.non hu) (F2_1.out.faN hu).ofByt (by simp only [List.length_append]; have := H1.out.len; have := HX.out; omega)
  have HSS2 : Hid (∀ u, Chg Non w1 u → u.cell? ⟨w.heap.size, 1, none⟩ = some (.slice ao L c)) := fun u hu => (B1.out.non hu).cell rfl
  have HSP2 : Hid (∀ u u6 v6 n6 zs, Chg Non w1 u → WP r v1 u u6 v6 n6 zs → u6.cell? ⟨w.heap.size, 1, none⟩ = some (.slice ao L c)) := fun u u6 v6 n6 zs hu hp => ((B1.out.non hu).wp hp).cell rfl
  go_wp2_with fail
  go_region_held3 (fun q => q.cell? ⟨w.heap.size, 1, none⟩ = some (.slice ao L c)) (first | exact HSS2.out _ (Chg.refl _ _).drew | exact hS6 | exact HSS2.out _ hu5) (first | (go_at_call 185; refine (hfr2 _).mono ?_; first | (rintro e u rfl hcu) | (rintro e u ⟨rfl, hcu⟩); have hu5 : Chg Non w1 u := ((Chg.refl Non w1).drew).two hcu; clear hcu) | (go_at_call 193; refine (calls_wo (hpb2 _ hu5)).mono ?_; rintro e w2 ⟨rfl, v2, n2, ys2, h2⟩; have hS6 := HSP2.out _ _ _ _ _ hu5 h2.wp))
  have H2 : Hid (WQ (wBytes 2 1 16777216) 16777301 r v1 w1 w2 v2 n1 n2 (xs ++ ys1) ys2 (x.2)) := (h2.weak (by decide)).ahead hu5
  have B2 : Hid (Bk w2 r v2 w.heap.size (.cells #[.int .u16 n, .slice ao L c] 87)) := B1.out.wp H2.out.wp
  clear h2 hfr2 hpb2 hS6 hu5 y1
  go_wp2
  go_end0
  exact ⟨v2, n2, _, rfl, (WQ.seq (f := Prod.fst) (g := Prod.snd) (x := x) H1.out H2.out).ahead C0.out⟩

set_option maxHeartbeats 3200000 in
theorem wverified_any (r : Nat) (n : Int) (ao : Option Addr) (L c : Nat) (x : (tExt).Dat) (v0 : Value) (n0 : Bool) (xs : List Int) (w : World) (h : WM w r v0 n0 xs) (hx : Rel (tExt) (Fa r v0 w) w [.int .u16 n, .slice ao L c] x) (hl : xs.length ≤ 998000000000) :
    Calls Try.prog 135 #[.pointer (some ⟨r, 0, none⟩), .agg #[.int .u16 n, .slice ao L c]] w fun e w' => ∃ v' no' ys, e = .returned (.tuple #[]) ∧ WQ (wVer) 16777303 r v0 w w' v' n0 no' xs ys x := by
  obtain ⟨w0, hw0⟩ : ∃ w0, w0 = w.alloc (.cells #[.int .u16 n, .slice ao L c] 49) := ⟨_, rfl⟩
  have hc0 : Chg Non w w0 := by rw [hw0]; exact (Chg.refl _ _).alloc _
  have C0 : Hid (Chg Non w w0) := hc0
  have B0 : Hid (Bk w0 r v0 w.heap.size (.cells #[.int .u16 n, .slice ao L c] 49)) := by show Bk _ _ _ _ _; rw [hw0]; exact Bk.new h _
  have HW0 : Hid (w0 = w.alloc (.cells #[.int .u16 n, .slice ao L c] 49)) := hw0
  have HM : Hid (WM w0 r v0 n0 xs) := h.non hc0
  have HX : Hid (xs.length ≤ 998000000000) := hl
  have hx0 := hx.faN hc0
  obtain ⟨g1, hx1⟩ := Rel.split (us1 := [.int .u16 n]) (us2 := [.slice ao L c]) hx0 rfl
  have g2 := hx1
  obtain ⟨e1, k1⟩ : ([Value.int .u16 n] = [Value.int .u16 (x.1)]) ∧ InK .u16 (x.1) := g1
  have N1 : Hid (n = x.1 ∧ InK .u16 n) := by
    injection e1 with e1
    injection e1 with _ e1
    exact ⟨e1, by rw [e1]; exact k1⟩
  have F2_0 : Hid (Rel (.byt) (Fa r v0 w0) w0 [.slice ao L c] (x.2)) := g2
  clear h hx hl hc0 hw0 hx0 hx1 g2 e1 k1
  have y0 : w0.cell? ⟨w.heap.size, 0, none⟩ = some (.int .u16 n) := B0.out.cell rfl
  have hp1 := wnumber_any r n v0 n0 xs w0 HM.out N1.out.2 (by have := HX.out; omega)
  go_enter Try.func135, Try.ntmps135
  go_wp2_with fail
  rw [← HW0.out]
  refine (calls_wo hp1).mono ?_
  rintro e w1 ⟨rfl, v1, n1, ys1, h1⟩
  have H1 : Hid (WQ (wNum 2) 2 r v0 w0 w1 v1 n0 n1 xs ys1 (x.1)) := by rw [← N1.out.1]; exact h1
  have B1 : Hid (Bk w1 r v1 w.heap.size (.cells #[.int .u16 n, .slice ao L c] 49)) := B0.out.wp h1.wp
  clear h1 hp1 y0
  have F2_1 : Hid (Rel (.byt) (Fa r v1 w1) w1 [.slice ao L c] (x.2)) := F2_0.out.fa H1.out.wp
  have y1 : w1.cell? ⟨w.heap.size, 1, none⟩ = some (.slice ao L c) := B1.out.cell rfl
  have hfr2 := fun u => free_any 2 u
  have hpb2 := fun u (hu : Chg Non w1 u) => putB_any r 2 0 16777216 2 0 16777216 rfl rfl rfl (by decide) (by decide) (.slice ao L c) (x.2) v1 n1 (xs ++ ys1) u (H1.out.wp.wm.non hu) (F2_1.out.faN hu).ofByt (by simp only [List.length_append]; have := H1.out.len; have := HX.out; omega)
  have HSS2 : Hid (∀ u, Chg Non w1 u → u.cell? ⟨w.heap.size, 1, none⟩ = some (.slice ao L c)) := fun u hu => (B1.out.non hu).cell rfl
  have HSP2 : Hid (∀ u u6 v6 n6 zs, Chg Non w1 u → WP r v1 u u6 v6 n6 zs → u6.cell? ⟨w.heap.size, 1, none⟩ = some (.slice ao L c)) := fun u u6 v6 n6 zs hu hp => ((B1.out.non hu).wp hp).cell rfl
  go_wp2_with fail
  go_region_held3 (fun q => q.cell? ⟨w.heap.size, 1, none⟩ = some (.slice ao L c)) (first | exact HSS2.out _ (Chg.refl _ _).drew | exact hS6 | exact HSS2.out _ hu5) (first | (go_at_call 197; refine (hfr2 _).mono ?_; first | (rintro e u rfl hcu) | (rintro e u ⟨rfl, hcu⟩); have hu5 : Chg Non w1 u := ((Chg.refl Non w1).drew).two hcu; clear hcu) | (go_at_call 193; refine (calls_wo (hpb2 _ hu5)).mono ?_; rintro e w2 ⟨rfl, v2, n2, ys2, h2⟩; have hS6 := HSP2.out _ _ _ _ _ hu5 h2.wp))
  have H2 : Hid (WQ (wBytes 2 0 16777216) 16777301 r v1 w1 w2 v2 n1 n2 (xs ++ ys1) ys2 (x.2)) := (h2.weak (by decide)).ahead hu5
  have B2 : Hid (Bk w2 r v2 w.heap.size (.cells #[.int .u16 n, .slice ao L c] 49)) := B1.out.wp H2.out.wp
  clear h2 hfr2 hpb2 hS6 hu5 y1
  go_wp2
  go_end0
  exact ⟨v2, n2, _, rfl, (WQ.seq (f := Prod.fst) (g := Prod.snd) (x := x) H1.out H2.out).ahead C0.out⟩
end Go.Proofs.Ytdhckndehijemaa
