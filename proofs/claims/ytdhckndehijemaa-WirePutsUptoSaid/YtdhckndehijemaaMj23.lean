/-
  get of numbers.
-/
import Derived.Test.YtdhckndehijemaaMj20
import Derived.Test.YtdhckndehijemaaMt
import Derived.Test.YtdhckndehijemaaSx
namespace Go.Proofs.Ytdhckndehijemaa
open Go.RowKit
set_option linter.unusedVariables false
set_option maxRecDepth 100000


set_option maxHeartbeats 3200000 in
theorem getN_any (v : Value) (xs : List Int) (w : World) (h : Bt (Bel w.heap.size) w v xs) : Calls Try.prog 142 #[v, .func (.func 143) #[] #[]] w fun e w' => ∃ ao L c al, e = .returned (.tuple #[.slice ao L c, .int .i64 al]) ∧ GP (.lst (.num .u16)) (pList 2 1 16777216 (pDig 2)) [] w w' xs [.slice ao L c] al := by
  obtain ⟨w1, hw1⟩ : ∃ w1, w1 = w.alloc (.cells #[v, .int .i64 0] 227) := ⟨_, rfl⟩
  have R1 : RS w1 w.heap.size (some (xs, false)) := by rw [hw1]; exact RS.begin h
  have C1 : Hid (Chg Non w w1) := by rw [hw1]; exact (Chg.refl _ _).alloc _
  have HW1 : Hid (w1 = w.alloc (.cells #[v, .int .i64 0] 227)) := hw1
  obtain ⟨ao0, N0, c0, rfl⟩ : ∃ ao n c, v = .slice ao n c := by
    obtain ⟨h1, -⟩ := h
    obtain ⟨ao, n, c, e, -⟩ := h1.shape
    exact ⟨ao, n, c, e⟩
  have HP := numbers_any w.heap.size (some (xs, false)) w1 R1
  clear h R1 hw1
  go_enter Try.func142, Try.ntmps142
  go_wp2_with fail
  rw [← HW1.out]
  refine HP.mono ?_
  rintro e w2 ⟨ao, L, c, x, rfl, hx⟩
  obtain ⟨s', q1, q2⟩ := hx.ps.st
  obtain ⟨vr, al, ys, m1, m2⟩ := q1
  obtain ⟨ao9, N, c9, rfl, hN, -, -⟩ := m1.rd.shape
  obtain ⟨z0, z1, f0, f1⟩ := m1.facts
  have HX : Hid (RP (.lst (.num .u16)) (pList 2 1 16777216 (pDig 2)) w1 w2 w.heap.size (some (xs, false)) [.slice ao L c] x ∧ Res (pList 2 1 16777216 (pDig 2)) (some (xs, false)) x s' ∧ AB s' ys al ∧ N = ys.length) := ⟨hx, q2, m2, hN⟩
  have HR := refuse_any w.heap.size 50 _ al ys w2 m1
  rw [tell50] at HR
  clear hx q2 m2 hN m1 HP
  by_cases hz : N = 0
  · subst hz
    have HE : Hid (ys = []) := List.eq_nil_of_length_eq_zero HX.out.2.2.2.symm
    by_cases ha : al = 0
    · subst ha
      clear HR
      go_wp2_with fail
      go_ret2
      have hk := HX.out.2.2.1
      rw [HE.out] at hk
      exact ⟨ao, L, c, 0, rfl, GP.ok HX.out.1 HX.out.2.1 hk C1.out (Chg.refl _ _)⟩
    · have d1 : (al != 0) = true := by simpa using ha
      have HA : Hid (al ≠ 0) := ha
      clear HR ha
      go_wp2_with fail
      go_quiet (fail)
      go_wp2_with fail
      go_ret2
      exact ⟨none, 0, 0, al, rfl, GP.bad HX.out.1 HX.out.2.1 HX.out.2.2.1 C1.out ((Chg.refl _ _).drewN _) (.inr ⟨HE.out, HA.out, rfl⟩) (Rel.nil _ _ _)⟩
  · have d0 : decide (0 < N) = true := by simp; omega
    have HE : Hid (ys ≠ []) := by intro e; have := HX.out.2.2.2; rw [e] at this; exact hz this
    clear hz
    go_wp2_with (go_at_call 182; refine HR.mono ?_)
    rintro e w3 ⟨rfl, k1, k2⟩
    have HK : Hid (Chg (One w.heap.size) w2 w3) := k2
    clear z0 z1 f0 f1 HR k2
    obtain ⟨z0, z1, f0, f1⟩ := k1.facts
    clear k1
    go_wp2_with fail
    go_quiet (fail)
    go_wp2_with fail
    go_ret2
    exact ⟨none, 0, 0, 50, rfl, GP.bad HX.out.1 HX.out.2.1 HX.out.2.2.1 C1.out (HK.out.drewN _) (.inl ⟨HE.out, rfl⟩) (Rel.nil _ _ _)⟩
end Go.Proofs.Ytdhckndehijemaa
namespace Go.Proofs.Ytdhckndehijemaa
open Go.RowKit
set_option linter.unusedVariables false
set_option maxRecDepth 100000

theorem Rel.split {a b : Ty} {F : Nat → Prop} {w : World} {us1 us2 : List Value} {x : a.Dat × b.Dat} (h : Rel (.pair a b) F w (us1 ++ us2) x) (hl : us1.length = a.sz) : Rel a F w us1 x.1 ∧ Rel b F w us2 x.2 := by
  obtain ⟨vs1, vs2, e, h1, h2⟩ := h
  obtain ⟨e1, e2⟩ := List.append_inj e (by rw [hl, h1.len])
  subst e1; subst e2
  exact ⟨h1, h2⟩

/-- A block beside a writer. -/
structure Bk (w : World) (r : Nat) (v : Value) (B : Nat) (o : Obj) : Prop where
  blk : w.heap[B]? = some o
  ne : B ≠ r
  nv : ¬ v.ownBlock = some B
theorem Bk.wp {w w' : World} {r : Nat} {v v' : Value} {B : Nat} {o : Obj} {no : Bool} {xs : List Int} (h : Bk w r v B o) (k : WP r v w w' v' no xs) : Bk w' r v' B o := by
  have hl := lt_somW h.blk
  refine ⟨by rw [k.chg.block B hl (fun s => by rcases s with s | s; exact h.ne s; exact h.nv s)]; exact h.blk, h.ne, fun e => ?_⟩
  rcases k.gr with g | ⟨g, g1, g2⟩
  · rw [g] at e; exact h.nv e
  · rw [g1] at e; injection e with e; omega
theorem Bk.non {w w' : World} {r : Nat} {v : Value} {B : Nat} {o : Obj} (h : Bk w r v B o) (c : Chg Non w w') : Bk w' r v B o :=
  ⟨by rw [c.block B (lt_somW h.blk) (fun s => s)]; exact h.blk, h.ne, h.nv⟩
theorem Bk.new {w : World} {r : Nat} {v : Value} {no : Bool} {xs : List Int} (h : WM w r v no xs) (o : Obj) : Bk (w.alloc o) r v w.heap.size o :=
  ⟨heap_alloc_last w _, fun e => by have := h.lt; omega, fun e => by have := h.own.lt _ e; omega⟩
theorem Bk.cell {w : World} {r : Nat} {v : Value} {B : Nat} {c : Array Value} {T : TypeId} (h : Bk w r v B (.cells c T)) {i : Nat} {u : Value} (hu : c[i]? = some u) : w.cell? ⟨B, i, none⟩ = some u := by
  rw [cell_of_row w B i c T (0, 0) h.blk]; exact hu

/-- Written only where this is so: 'unless' ahead. -/
theorem WQ.wif {α : Type} {p : Pw α} {G r : Nat} {v v1 v2 : Value} {a b c : World} {no no2 : Bool} {xs ys : List Int} {x : α} (cd : α → Bool) (h : WP r v a b v1 (no || !cd x) xs) (k : WQ p G r v1 b c v2 (no || !cd x) no2 xs ys x) : WQ (wIf cd p) G r v a c v2 no no2 xs ys x := by
  refine ⟨h.trans k.wp, fun e => k.bad (by rw [e]; rfl), fun e => ?_, k.len⟩
  unfold wIf
  cases hc : cd x with
  | true =>
    rw [if_pos rfl]
    exact k.out (by rw [e, hc]; rfl)
  | false =>
    rw [if_neg (by decide)]
    exact .inl ⟨rfl, k.bad (by rw [e, hc]; rfl)⟩
end Go.Proofs.Ytdhckndehijemaa
namespace Go.Proofs.Ytdhckndehijemaa
open Go.RowKit
set_option linter.unusedVariables false
set_option maxRecDepth 100000

theorem GP.outR {t : Ty} {p : Pr t.Dat} {z : t.Dat} {w wr w3 w4 : World} {xs : List Int} {us : List Value} {al : Int} (h : GP t p z wr w3 xs us al) (k : Chg Non w wr) (k0 : w.heap.size < wr.heap.size) (c : Chg (One w.heap.size) w3 w4) : GP t p z w w4 xs us al := by
  refine ⟨(k.two h.chg).trans c (fun i hi e => by have e' : i = w.heap.size := e; omega), ?_⟩
  obtain ⟨x, q1, q2⟩ := h.out
  exact ⟨x, q1, (q2.chg c (fun i e => by have e' : i = w.heap.size := e; omega)).btw (by omega) c.size⟩


set_option maxHeartbeats 3200000 in
theorem getCm_any (v : Value) (xs : List Int) (w : World) (h : Bt (Bel w.heap.size) w v xs) : Calls Try.prog 117 #[v, .func (.func 118) #[] #[]] w fun e w' => ∃ a1 l1 c1 a2 l2 c2 al, e = .returned (.tuple #[.agg #[.slice a1 l1 c1, .slice a2 l2 c2], .int .i64 al]) ∧ GP (tCert) (pCert) ([], []) w w' xs [.slice a1 l1 c1, .slice a2 l2 c2] al := by
  obtain ⟨w0, hw0⟩ : ∃ w0, w0 = w.alloc (.cells #[.slice none 0 0, .slice none 0 0] 44) := ⟨_, rfl⟩
  have kc0 : Chg Non w w0 := by rw [hw0]; exact (Chg.refl _ _).alloc _
  have hs0 : w0.heap.size = w.heap.size + 1 := by rw [hw0]; simp
  have hB0 : w0.heap[w.heap.size]? = some (.cells #[.slice none 0 0, .slice none 0 0] 44) := by rw [hw0]; exact heap_alloc_last w _
  obtain ⟨w1, hw1⟩ : ∃ w1, w1 = w0.alloc (.cells #[v, .int .i64 0] 227) := ⟨_, rfl⟩
  have R1 : RS w1 w0.heap.size (some (xs, false)) := by rw [hw1]; exact RS.begin ((h.oldN kc0).bel2 kc0.size)
  have kc1 : Chg Non w0 w1 := by rw [hw1]; exact (Chg.refl _ _).alloc _
  have HW : Hid (w1 = (w.alloc (.cells #[.slice none 0 0, .slice none 0 0] 44)).alloc (.cells #[v, .int .i64 0] 227)) := by show _ = _; rw [hw1, hw0]
  have H0 : Hid (w0.heap.size = w.heap.size + 1 ∧ Chg Non w w0 ∧ Chg Non w0 w1 ∧ w1.heap[w.heap.size]? = some (.cells #[.slice none 0 0, .slice none 0 0] 44)) := ⟨hs0, kc0, kc1, by rw [kc1.block _ (by omega) (fun s => s)]; exact hB0⟩
  obtain ⟨ao0, N0, c0, rfl⟩ : ∃ ao n c, v = .slice ao n c := by
    obtain ⟨h1, -⟩ := h
    obtain ⟨ao, n, c, e, -⟩ := h1.shape
    exact ⟨ao, n, c, e⟩
  have HP := certMsg_any w0.heap.size (some (xs, false)) w1 R1
  rw [hs0] at HP
  clear h R1 hw1 hw0 kc0 kc1 hs0 hB0
  go_enter Try.func117, Try.ntmps117
  go_wp2_with fail
  rw [← HW.out]
  refine HP.mono ?_
  rintro e w2 ⟨a1, l1, c1, a2, l2, c2, x, rfl, hx0⟩
  have hx : RP (tCert) (pCert) w1 w2 w0.heap.size (some (xs, false)) [.slice a1 l1 c1, .slice a2 l2 c2] x := by rw [H0.out.1]; exact hx0
  obtain ⟨s', q1, q2⟩ := hx.ps.st
  obtain ⟨vr, al, ys, m1, m2⟩ := q1
  obtain ⟨ao9, N, c9, rfl, hN, -, -⟩ := m1.rd.shape
  have HX : Hid (RP (tCert) (pCert) w1 w2 w0.heap.size (some (xs, false)) [.slice a1 l1 c1, .slice a2 l2 c2] x ∧ Res (pCert) (some (xs, false)) x s' ∧ AB s' ys al ∧ N = ys.length) := ⟨hx, q2, m2, hN⟩
  have hB2 : w2.heap[w.heap.size]? = some (.cells #[.slice none 0 0, .slice none 0 0] 44) := by
    rw [hx.ps.chg.block _ (lt_somW H0.out.2.2.2) (fun e => by have e' : w.heap.size = w0.heap.size := e; have := H0.out.1; omega)]; exact H0.out.2.2.2
  have HF : Hid (∀ u, Chg (One w0.heap.size) w2 u → u.cell? ⟨w.heap.size, 0, none⟩ = some (.slice none 0 0) ∧ u.frozen? ⟨w.heap.size, 0, none⟩ = false ∧ u.cell? ⟨w.heap.size, 1, none⟩ = some (.slice none 0 0) ∧ u.frozen? ⟨w.heap.size, 1, none⟩ = false) := fun u hu => by
    have hb : u.heap[w.heap.size]? = some (.cells #[.slice none 0 0, .slice none 0 0] 44) := by rw [hu.block _ (lt_somW hB2) (fun e => by have e' : w.heap.size = w0.heap.size := e; have := H0.out.1; omega)]; exact hB2
    exact ⟨by rw [cell_of_row u w.heap.size 0 _ 44 (0, 0) hb]; rfl, frozen_of_row u w.heap.size 0 _ _ hb, by rw [cell_of_row u w.heap.size 1 _ 44 (0, 0) hb]; rfl, frozen_of_row u w.heap.size 1 _ _ hb⟩
  have HM : Hid (RM w2 w0.heap.size (.slice ao9 N c9) al ys) := m1
  have HR := fun u (hu : Chg Non w2 u) => refuse_any w0.heap.size 50 _ al ys u (HM.out.non hu)
  rw [tell50] at HR
  have hm3 := (HM.out.non ((Chg.refl Non w2).alloc (.cells #[.slice a1 l1 c1, .slice a2 l2 c2] 44))).facts
  rw [H0.out.1] at hm3 HR
  obtain ⟨z0, z1, f0, f1⟩ := hm3
  obtain ⟨y0, g0, y1, g1⟩ := HF.out _ (((Chg.refl Non w2).alloc (.cells #[.slice a1 l1 c1, .slice a2 l2 c2] 44)).non _)
  have C3 : Hid (Chg Non w2 (w2.alloc (.cells #[.slice a1 l1 c1, .slice a2 l2 c2] 44))) := (Chg.refl Non w2).alloc _
  clear hx hx0 q2 m2 hN m1 HP hB2
  by_cases hz : N = 0
  · subst hz
    have HE : Hid (ys = []) := List.eq_nil_of_length_eq_zero HX.out.2.2.2.symm
    by_cases ha : al = 0
    · subst ha
      clear HR
      go_wp2_with fail
      have hk := HX.out.2.2.1
      rw [HE.out] at hk
      refine bodyPost_ret (v := .tuple #[.agg #[.slice a1 l1 c1, .slice a2 l2 c2], .int .i64 0]) ?_ rfl ⟨a1, l1, c1, a2, l2, c2, 0, rfl, (GP.ok HX.out.1 HX.out.2.1 hk H0.out.2.2.1 C3.out).outR H0.out.2.1 (by rw [H0.out.1]; omega) ((chg_rest _ _ 0 _).one (chg_rest _ _ 1 _))⟩
      simp [results, Try.results117, go_sem, y0, y1]
    · have d1 : (al != 0) = true := by simpa using ha
      have HA : Hid (al ≠ 0) := ha
      have hm4 := (HM.out.non (((Chg.refl Non w2).alloc (.cells #[.slice a1 l1 c1, .slice a2 l2 c2] 44)).alloc (.cells #[.slice none 0 0, .slice none 0 0] 44))).facts
      rw [H0.out.1] at hm4
      obtain ⟨z0', z1', f0', f1'⟩ := hm4
      obtain ⟨y0', g0', y1', g1'⟩ := HF.out _ ((((Chg.refl Non w2).alloc (.cells #[.slice a1 l1 c1, .slice a2 l2 c2] 44)).alloc (.cells #[.slice none 0 0, .slice none 0 0] 44)).non _)
      have C4 : Hid (Chg Non w2 ((w2.alloc (.cells #[.slice a1 l1 c1, .slice a2 l2 c2] 44)).alloc (.cells #[.slice none 0 0, .slice none 0 0] 44))) := ((Chg.refl Non w2).alloc _).alloc _
      clear HR ha
      go_wp2_with fail
      go_region_with (fail)
      all_goals
        go_wp2_with fail
        refine bodyPost_ret (v := .tuple #[.agg #[.slice none 0 0, .slice none 0 0], .int .i64 al]) ?_ rfl ⟨none, 0, 0, none, 0, 0, al, rfl, (GP.bad HX.out.1 HX.out.2.1 HX.out.2.2.1 H0.out.2.2.1 (C4.out.non _) (.inr ⟨HE.out, HA.out, rfl⟩) (⟨[_], [_], rfl, Rel.nilB _ _, Rel.nil _ _ _⟩)).outR H0.out.2.1 (by rw [H0.out.1]; omega) ((chg_rest _ _ 0 _).one (chg_rest _ _ 1 _)).drew⟩
        simp [results, Try.results117, go_sem, y0', y1']
  · have d0 : decide (0 < N) = true := by simp; omega
    have HE : Hid (ys ≠ []) := by intro e; have := HX.out.2.2.2; rw [e] at this; exact hz this
    have hr := HR _ C3.out
    clear hz HR
    go_wp2_with (go_at_call 182; refine hr.mono ?_)
    rintro e w3 ⟨rfl, k1, k2⟩
    have HK : Hid (Chg (One w0.heap.size) w2 w3) := (C3.out.non _).trans (by rw [H0.out.1]; exact k2) (fun _ _ q => q)
    have hm4 := (k1.non ((Chg.refl Non w3).alloc (.cells #[.slice none 0 0, .slice none 0 0] 44))).facts
    obtain ⟨z0', z1', f0', f1'⟩ := hm4
    clear z0 z1 f0 f1 hr k2 y0 g0 y1 g1
    obtain ⟨z0, z1, f0, f1⟩ := k1.facts
    clear k1
    obtain ⟨y0', g0', y1', g1'⟩ := HF.out _ (HK.out.trans (((Chg.refl Non w3).alloc (.cells #[.slice none 0 0, .slice none 0 0] 44)).non _) (fun _ _ q => q))
    have C4 : Hid (Chg (One w0.heap.size) w2 (w3.alloc (.cells #[.slice none 0 0, .slice none 0 0] 44))) := HK.out.trans (((Chg.refl Non w3).alloc (.cells #[.slice none 0 0, .slice none 0 0] 44)).non _) (fun _ _ q => q)
    go_wp2_with fail
    go_region_with (fail)
    all_goals
      go_wp2_with fail
      refine bodyPost_ret (v := .tuple #[.agg #[.slice none 0 0, .slice none 0 0], .int .i64 50]) ?_ rfl ⟨none, 0, 0, none, 0, 0, 50, rfl, (GP.bad HX.out.1 HX.out.2.1 HX.out.2.2.1 H0.out.2.2.1 C4.out (.inl ⟨HE.out, rfl⟩) (⟨[_], [_], rfl, Rel.nilB _ _, Rel.nil _ _ _⟩)).outR H0.out.2.1 (by rw [H0.out.1]; omega) ((chg_rest _ _ 0 _).one (chg_rest _ _ 1 _)).drew⟩
      simp [results, Try.results117, go_sem, y0', y1']

set_option maxHeartbeats 1600000 in
theorem getCert_any (v : Value) (xs : List Int) (w : World) (h : Bt (Bel w.heap.size) w v xs) : Calls Try.prog 29 #[v] w fun e w' => ∃ a1 l1 c1 a2 l2 c2 al, e = .returned (.tuple #[.agg #[.slice a1 l1 c1, .slice a2 l2 c2], .int .i64 al]) ∧ GP (tCert) (pCert) ([], []) w w' xs [.slice a1 l1 c1, .slice a2 l2 c2] al := by
  obtain ⟨w0, hw0⟩ : ∃ w0, w0 = w.alloc (.cells #[.slice none 0 0, .slice none 0 0] 44) := ⟨_, rfl⟩
  have kc0 : Chg Non w w0 := by rw [hw0]; exact (Chg.refl _ _).alloc _
  have hs0 : w0.heap.size = w.heap.size + 1 := by rw [hw0]; simp
  have hB0 : w0.heap[w.heap.size]? = some (.cells #[.slice none 0 0, .slice none 0 0] 44) := by rw [hw0]; exact heap_alloc_last w _
  have hp := getCm_any v xs w0 ((h.oldN kc0).bel2 kc0.size)
  have HW : Hid (w0 = w.alloc (.cells #[.slice none 0 0, .slice none 0 0] 44)) := hw0
  have H0 : Hid (w.heap.size < w0.heap.size ∧ Chg Non w w0 ∧ w0.heap[w.heap.size]? = some (.cells #[.slice none 0 0, .slice none 0 0] 44)) := ⟨by omega, kc0, hB0⟩
  clear h kc0 hs0 hB0 hw0
  go_enter Try.func29, Try.ntmps29
  go_wp2_with fail
  rw [← HW.out]
  refine hp.mono ?_
  rintro e w2 ⟨a1, l1, c1, a2, l2, c2, al, rfl, hq⟩
  have hB2 : w2.heap[w.heap.size]? = some (.cells #[.slice none 0 0, .slice none 0 0] 44) := by rw [hq.chg.block _ H0.out.1 (fun s => s)]; exact H0.out.2.2
  have y0 : w2.cell? ⟨w.heap.size, 0, none⟩ = some (.slice none 0 0) := by rw [cell_of_row w2 w.heap.size 0 _ 44 (0, 0) hB2]; rfl
  have g0 := frozen_of_row w2 w.heap.size 0 _ _ hB2
  have y1 : w2.cell? ⟨w.heap.size, 1, none⟩ = some (.slice none 0 0) := by rw [cell_of_row w2 w.heap.size 1 _ 44 (0, 0) hB2]; rfl
  have g1 := frozen_of_row w2 w.heap.size 1 _ _ hB2
  have HQ : Hid (GP (tCert) (pCert) ([], []) w0 w2 xs [.slice a1 l1 c1, .slice a2 l2 c2] al) := hq
  clear hq hp hB2
  go_wp2_with fail
  refine bodyPost_ret (v := .tuple #[.agg #[.slice a1 l1 c1, .slice a2 l2 c2], .int .i64 al]) ?_ rfl ⟨a1, l1, c1, a2, l2, c2, al, rfl, HQ.out.outR H0.out.2.1 H0.out.1 ((chg_rest _ _ 0 _).one (chg_rest _ _ 1 _))⟩
  simp [results, Try.results29, go_sem, y0, y1]
end Go.Proofs.Ytdhckndehijemaa
