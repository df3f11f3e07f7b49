/-
  The document's readers of messages.
-/
import Derived.Test.YtdhckndehijemaaEx
import Derived.Test.YtdhckndehijemaaMs
import Derived.Test.YtdhckndehijemaaMj23
namespace Go.Proofs.Ytdhckndehijemaa
open Go.RowKit
set_option linter.unusedVariables false
set_option maxRecDepth 100000

theorem set_cells {W : World} {B : Nat} {t : TypeId} {vs : Array Value} (i : Nat) (u : Value) (h : W.heap[B]? = some (.cells vs t)) : (W.setCell ⟨B, i, none⟩ u).heap[B]? = some (.cells (vs.set! i u) t) := by
  obtain ⟨hlt, hk⟩ := Array.getElem?_eq_some_iff.1 h
  show (W.heap.modify B _)[B]? = _
  rw [Array.getElem?_eq_getElem (by rw [Array.size_modify]; exact hlt), Array.getElem_modify_self, hk]
  rfl
theorem cell_at {W : World} {B : Nat} {t : TypeId} {vs : Array Value} {v : Value} (i : Nat) (h : W.heap[B]? = some (.cells vs t)) (hv : vs[i]? = some v) : W.cell? ⟨B, i, none⟩ = some v := by
  rw [cell_of_row W B i _ t (0, 0) h]
  exact hv
theorem Rel.chg2 {t : Ty} {a b : Nat} {S : Nat → Prop} {w w' : World} {us : List Value} {x : t.Dat} (h : Rel t (Btw a b) w us x) (c : Chg S w w') (hS : ∀ k, S k → k < a ∨ b ≤ k) : Rel t (Btw a b) w' us x :=
  h.keep (fun _ q => q) (fun k q hk => c.block k hk (fun s => by have := hS k s; have h1 := q.1; have h2 := q.2; omega))
theorem Res.pair {α β : Type} {p : Pr α} {q : Pr β} {s s1 s2 : St} {x : α} {y : β} (h : Res p s x s1) (k : Res q s1 y s2) : Res (pPair p q) s (x, y) s2 := h.bind (k.bind (Res.ret _ _))
theorem Chg.wide {S T : Nat → Prop} {a b : World} (h : Chg S a b) (k : ∀ i, S i → T i) : Chg T a b := (Chg.refl T a).trans h (fun i _ s => k i s)


set_option maxHeartbeats 3200000 in
theorem dgetexts_any (v : Value) (xs : List Int) (w : World) (h : Bt (Bel w.heap.size) w v xs) : Calls Try.prog 27 #[v] w fun e w' => ∃ ao L c al, e = .returned (.tuple #[.slice ao L c, .int .i64 al]) ∧ GP (.lst tExt) (pExts) [] w w' xs [.slice ao L c] al := by
  obtain ⟨w1, hw1⟩ : ∃ w1, w1 = w.alloc (.cells #[v, .bool false, .bool false] 124) := ⟨_, rfl⟩
  have R1 : DS w1 w.heap.size (some (xs, false)) := by rw [hw1]; exact DS.begin h
  have C1 : Hid (Chg Non w w1) := by rw [hw1]; exact (Chg.refl _ _).alloc _
  have HW1 : Hid (w1 = w.alloc (.cells #[v, .bool false, .bool false] 124)) := hw1
  have HLT : Hid (w.heap.size < w1.heap.size) := by show _ < _; rw [hw1]; simp
  obtain ⟨ao0, N0, c0, rfl⟩ : ∃ ao n c, v = .slice ao n c := by
    obtain ⟨h1, -⟩ := h
    obtain ⟨ao, n, c, e, -⟩ := h1.shape
    exact ⟨ao, n, c, e⟩
  clear h hw1
  have hp := dexts_any w.heap.size _ w1 R1
  clear R1
  go_enter Try.func27, Try.ntmps27
  go_wp2_with fail
  rw [← HW1.out]
  refine hp.mono ?_
  rintro e w2 ⟨ao, L, c, x, rfl, hx⟩
  clear hp
  obtain ⟨s9, q1, q2⟩ := hx.ps.st
  have he := dend_any w.heap.size s9 w2 q1
  obtain ⟨A, hA⟩ : ∃ A, A = endA s9 := ⟨_, rfl⟩
  rw [← hA] at he
  have HQ : Hid (DP (.lst tExt) (pExts) w1 w2 w.heap.size (some (xs, false)) [.slice ao L c] x ∧ Res (pExts) (some (xs, false)) x s9 ∧ A = endA s9) := ⟨hx, q2, hA⟩
  clear hx q1 q2 hA
  go_wp2_with (go_at_call 106; refine he.mono ?_)
  rintro e w9 ⟨rfl, rfl⟩
  clear he
  by_cases hz : A = 0
  · subst hz
    go_wp2_with fail
    go_ret2
    exact ⟨ao, L, c, 0, rfl, GP.dok HQ.out.1 HQ.out.2.1 HQ.out.2.2.symm C1.out (Chg.refl _ _)⟩
  · have d1 : (A != 0) = true := by simpa using hz
    have HZ : Hid (A ≠ 0) := hz
    clear hz
    go_wp2_with fail
    go_ret2
    exact ⟨none, 0, 0, A, rfl, GP.dbad HQ.out.1 HQ.out.2.1 HQ.out.2.2 HZ.out C1.out (Chg.refl _ _) (Rel.nil _ _ _)⟩

set_option maxHeartbeats 6400000 in
theorem dgetver2_any (v : Value) (xs : List Int) (w : World) (h : Bt (Bel w.heap.size) w v xs) : Calls Try.prog 35 #[v] w fun e w' => ∃ n1 a2 l2 c2 al, e = .returned (.tuple #[.agg #[.int .u16 n1, .slice a2 l2 c2], .int .i64 al]) ∧ GP (tExt) (pVer) ((0 : Int), []) w w' xs [.int .u16 n1, .slice a2 l2 c2] al := by
  obtain ⟨w0, hw0⟩ : ∃ w0, w0 = w.alloc (.cells #[.int .u16 0, .slice none 0 0] 49) := ⟨_, rfl⟩
  have kc0 : Chg Non w w0 := by rw [hw0]; exact (Chg.refl _ _).alloc _
  have hs0 : w0.heap.size = w.heap.size + 1 := by rw [hw0]; simp
  have hB0 : w0.heap[w.heap.size]? = some (.cells #[.int .u16 0, .slice none 0 0] 49) := by rw [hw0]; exact heap_alloc_last w _
  obtain ⟨w1, hw1⟩ : ∃ w1, w1 = w0.alloc (.cells #[v, .bool false, .bool false] 124) := ⟨_, rfl⟩
  have R1 : DS w1 w0.heap.size (some (xs, false)) := by rw [hw1]; exact DS.begin ((h.oldN kc0).bel2 kc0.size)
  have kc1 : Chg Non w0 w1 := by rw [hw1]; exact (Chg.refl _ _).alloc _
  have HW : Hid (w1 = (w.alloc (.cells #[.int .u16 0, .slice none 0 0] 49)).alloc (.cells #[v, .bool false, .bool false] 124)) := by show _ = _; rw [hw1, hw0]
  have H0 : Hid (w0.heap.size = w.heap.size + 1 ∧ Chg Non w w0 ∧ Chg Non w0 w1 ∧ w1.heap[w.heap.size]? = some (.cells #[.int .u16 0, .slice none 0 0] 49) ∧ w.heap.size + 1 < w1.heap.size) := ⟨hs0, kc0, kc1, by rw [kc1.block _ (by omega) (fun s => s)]; exact hB0, by rw [← hs0]; exact R1.lt⟩
  obtain ⟨ao0, N0, c0, rfl⟩ : ∃ ao n c, v = .slice ao n c := by
    obtain ⟨h1, -⟩ := h
    obtain ⟨ao, n, c, e, -⟩ := h1.shape
    exact ⟨ao, n, c, e⟩
  rw [hs0] at R1
  have HP := dnumber_any (w.heap.size + 1) 2 (by decide) _ w1 R1
  clear h R1 hw1 hw0 kc0 kc1 hs0 hB0
  go_enter Try.func35, Try.ntmps35
  go_wp2_with fail
  rw [← HW.out]
  refine HP.mono ?_
  rintro e b1 ⟨n1, rfl, hk⟩
  have D1 : DP (.num .u16) (pDig 2) w1 b1 (w.heap.size + 1) (some (xs, false)) [.int .u16 n1] n1 := hk.rp2
  have hw1 := hk.w16
  obtain ⟨s1, q1, q2⟩ := D1.ps.st
  have E1 : Hid (DP (.num .u16) (pDig 2) w1 b1 (w.heap.size + 1) (some (xs, false)) [.int .u16 n1] n1 ∧ Res (pDig 2) (some (xs, false)) n1 s1) := ⟨D1, q2⟩
  obtain ⟨B, hBe⟩ : ∃ B, B = b1.heap.size := ⟨_, rfl⟩
  have HB : Hid (B = b1.heap.size ∧ w.heap.size + 1 < B ∧ w1.heap.size ≤ B) := ⟨hBe, by have h1 := D1.ps.chg.size; have h2 := H0.out.2.2.2.2; omega, by rw [hBe]; exact D1.ps.chg.size⟩
  obtain ⟨w2, hw2⟩ : ∃ w2, w2 = b1.alloc (.cells #[.int .u16 n1, .slice none 0 0] 49) := ⟨_, rfl⟩
  have c2 : Chg Non b1 w2 := by rw [hw2]; exact (Chg.refl _ _).alloc _
  have G2 : Hid (w2.heap[B]? = some (.cells #[.int .u16 n1, .slice none 0 0] 49) ∧ Chg Non b1 w2) := ⟨by rw [hw2, hBe]; exact heap_alloc_last b1 _, c2⟩
  have HW2 : Hid (w2 = b1.alloc (.cells #[.int .u16 n1, .slice none 0 0] 49)) := hw2
  have HP := dlist_any (w.heap.size + 1) 2 0 65535 16777216 (by decide) 2 0 65535 rfl rfl rfl (lim2 (by decide)) _ w2 (q1.non c2)
  clear hk D1 q1 q2 hw2 c2
  go_wp2_with fail
  rw [← HW2.out]
  refine HP.mono ?_
  rintro e b2 ⟨a2, l2, c2, x2, rfl, hk, -, -⟩
  have D2 : DP (.byt) (pBytes 2 0 16777216) w2 b2 (w.heap.size + 1) s1 [.slice a2 l2 c2] x2 := hk.dp
  obtain ⟨s2, q1, q2⟩ := D2.ps.st
  have E2 : Hid (DP (.byt) (pBytes 2 0 16777216) w2 b2 (w.heap.size + 1) s1 [.slice a2 l2 c2] x2 ∧ Res (pBytes 2 0 16777216) s1 x2 s2) := ⟨D2, q2⟩
  have hB2 : b2.heap[B]? = some (.cells #[.int .u16 n1, .slice none 0 0] 49) := by
    rw [D2.ps.chg.block _ (lt_somW G2.out.1) (fun e => by have e' : B = (w.heap.size + 1) := e; have := HB.out.2.1; omega)]; exact G2.out.1
  have y0 := cell_at 0 hB2 rfl
  have g0 := frozen_of_row b2 B 0 _ _ hB2
  have y1 := cell_at 1 hB2 rfl
  have g1 := frozen_of_row b2 B 1 _ _ hB2
  obtain ⟨w3, hw3⟩ : ∃ w3, w3 = b2.setCell ⟨B, 1, none⟩ (.slice a2 l2 c2) := ⟨_, rfl⟩
  have c3 : Chg (One B) b2 w3 := by rw [hw3]; exact chg_rest _ _ _ _
  have G3 : Hid (w3.heap[B]? = some (.cells #[.int .u16 n1, .slice a2 l2 c2] 49) ∧ Chg (One B) b2 w3) := ⟨by rw [hw3]; exact set_cells 1 _ hB2, c3⟩
  have HW3 : Hid (w3 = b2.setCell ⟨B, 1, none⟩ (.slice a2 l2 c2)) := hw3
  have k3 : DS w3 (w.heap.size + 1) s2 := q1.keep c3 (fun k e => by have e' : k = B := e; have := HB.out.2.1; omega)
  have he := dend_any (w.heap.size + 1) s2 w3 k3
  rw [← hBe]
  clear hBe
  obtain ⟨A, hA⟩ : ∃ A, A = endA s2 := ⟨_, rfl⟩
  rw [← hA] at he
  have HA : Hid (A = endA s2) := hA
  have HST : Hid (DS w3 (w.heap.size + 1) s2) := k3
  clear hk D2 q1 q2 hw3 c3 hB2 k3 hA
  go_wp2_with fail
  rw [← HW3.out]
  clear y0 g0 y1 g1
  have t2 : Chg (fun k => k = (w.heap.size + 1) ∨ k = B) b2 w3 := G3.out.2.wide (fun i e => .inr e)
  have t1 : Chg (fun k => k = (w.heap.size + 1) ∨ k = B) b1 w3 := ((G2.out.2.wide (fun i e => e.elim)).trans (E2.out.1.ps.chg) (fun _ _ e => .inl e)).trans t2 (fun _ _ e => e)
  have z1 : Rel (.num .u16) (Btw w1.heap.size w3.heap.size) w3 [.int .u16 n1] n1 := (E1.out.1.rel.chg2 t1 (fun k e => by
    have h1 := H0.out.2.2.2.2
    have h2 := HB.out
    have h3 := G2.out.2.size
    have h4 := lt_somW G2.out.1
    rcases e with e | e
    · exact .inl (by omega)
    · exact .inr (by omega))).btw (by
    have h2 := E1.out.1.ps.chg.size
    have h3 := G2.out.2.size
    omega) (by have := t1.size; omega)
  have z2 : Rel (.byt) (Btw w1.heap.size w3.heap.size) w3 [.slice a2 l2 c2] x2 := (E2.out.1.rel.chg2 t2 (fun k e => by
    have h1 := H0.out.2.2.2.2
    have h2 := HB.out
    have h3 := G2.out.2.size
    have h4 := lt_somW G2.out.1
    rcases e with e | e
    · exact .inl (by omega)
    · exact .inl (by omega))).btw (by
    have h2 := E1.out.1.ps.chg.size
    have h3 := G2.out.2.size
    omega) (by have := t2.size; omega)
  have HX : Hid (DP (tExt) (pVer) w1 w3 w0.heap.size (some (xs, false)) [.int .u16 n1, .slice a2 l2 c2] (n1, x2) ∧ Res (pVer) (some (xs, false)) (n1, x2) s2 ∧ A = endA s2) := by
    have hr := (E1.out.2).pair (E2.out.2)
    refine ⟨?_, hr, HA.out⟩
    rw [H0.out.1]
    exact ⟨⟨[.int .u16 n1], [.slice a2 l2 c2], rfl, z1, z2⟩, (((E1.out.1.ps.chg.trans G2.out.2 (fun _ _ q => q.elim)).one E2.out.1.ps.chg).trans G3.out.2 (fun i hi e => by have e' : i = B := e; have := HB.out.2.2; omega)), _, HST.out, hr⟩
  have hBr : w3.heap[w.heap.size]? = some (.cells #[.int .u16 0, .slice none 0 0] 49) := by
    rw [HX.out.1.ps.chg.block _ (lt_somW H0.out.2.2.2.1) (fun e => by have e' : w.heap.size = w0.heap.size := e; have := H0.out.1; omega)]; exact H0.out.2.2.2.1
  have hBm := G3.out.1
  have y0 := cell_at 0 hBr rfl
  have g0 := frozen_of_row _ w.heap.size 0 _ _ hBr
  have m0 := cell_at 0 hBm rfl
  have y1 := cell_at 1 hBr rfl
  have g1 := frozen_of_row _ w.heap.size 1 _ _ hBr
  have m1 := cell_at 1 hBm rfl
  clear hBr hBm t1 t2 z1 z2
  refine he.mono ?_
  rintro e w9 ⟨rfl, rfl⟩
  clear he
  by_cases hz : A = 0
  · subst hz
    go_wp2_with fail
    refine bodyPost_ret (v := .tuple #[.agg #[.int .u16 n1, .slice a2 l2 c2], .int .i64 0]) ?_ rfl ⟨n1, a2, l2, c2, 0, rfl, (GP.dok HX.out.1 HX.out.2.1 HX.out.2.2.symm H0.out.2.2.1 (Chg.refl _ _)).outR H0.out.2.1 (by rw [H0.out.1]; omega) (((chg_rest _ _ 0 _).one (chg_rest _ _ 1 _)))⟩
    simp [results, Try.results35, go_sem, y0, y1]
  · have d1 : (A != 0) = true := by simpa using hz
    have HZ : Hid (A ≠ 0) := hz
    clear hz
    go_wp2_with fail
    refine bodyPost_ret (v := .tuple #[.agg #[.int .u16 0, .slice none 0 0], .int .i64 A]) ?_ rfl ⟨0, none, 0, 0, A, rfl, (GP.dbad HX.out.1 HX.out.2.1 HX.out.2.2 HZ.out H0.out.2.2.1 (Chg.refl _ _) (⟨[.int .u16 0], [.slice none 0 0], rfl, Rel.zero _ _ _, Rel.nilB _ _⟩)).outR H0.out.2.1 (by rw [H0.out.1]; omega) (((chg_rest _ _ 0 _).one (chg_rest _ _ 1 _)))⟩
    simp [results, Try.results35, go_sem, y0, y1]

set_option maxHeartbeats 6400000 in
theorem dgetreq_any (v : Value) (xs : List Int) (w : World) (h : Bt (Bel w.heap.size) w v xs) : Calls Try.prog 33 #[v] w fun e w' => ∃ a1 l1 c1 a2 l2 c2 al, e = .returned (.tuple #[.agg #[.slice a1 l1 c1, .slice a2 l2 c2], .int .i64 al]) ∧ GP (tReq) (pReq) ([], []) w w' xs [.slice a1 l1 c1, .slice a2 l2 c2] al := by
  obtain ⟨w0, hw0⟩ : ∃ w0, w0 = w.alloc (.cells #[.slice none 0 0, .slice none 0 0] 57) := ⟨_, rfl⟩
  have kc0 : Chg Non w w0 := by rw [hw0]; exact (Chg.refl _ _).alloc _
  have hs0 : w0.heap.size = w.heap.size + 1 := by rw [hw0]; simp
  have hB0 : w0.heap[w.heap.size]? = some (.cells #[.slice none 0 0, .slice none 0 0] 57) := by rw [hw0]; exact heap_alloc_last w _
  obtain ⟨w1, hw1⟩ : ∃ w1, w1 = w0.alloc (.cells #[v, .bool false, .bool false] 124) := ⟨_, rfl⟩
  have R1 : DS w1 w0.heap.size (some (xs, false)) := by rw [hw1]; exact DS.begin ((h.oldN kc0).bel2 kc0.size)
  have kc1 : Chg Non w0 w1 := by rw [hw1]; exact (Chg.refl _ _).alloc _
  have HW : Hid (w1 = (w.alloc (.cells #[.slice none 0 0, .slice none 0 0] 57)).alloc (.cells #[v, .bool false, .bool false] 124)) := by show _ = _; rw [hw1, hw0]
  have H0 : Hid (w0.heap.size = w.heap.size + 1 ∧ Chg Non w w0 ∧ Chg Non w0 w1 ∧ w1.heap[w.heap.size]? = some (.cells #[.slice none 0 0, .slice none 0 0] 57) ∧ w.heap.size + 1 < w1.heap.size) := ⟨hs0, kc0, kc1, by rw [kc1.block _ (by omega) (fun s => s)]; exact hB0, by rw [← hs0]; exact R1.lt⟩
  obtain ⟨ao0, N0, c0, rfl⟩ : ∃ ao n c, v = .slice ao n c := by
    obtain ⟨h1, -⟩ := h
    obtain ⟨ao, n, c, e, -⟩ := h1.shape
    exact ⟨ao, n, c, e⟩
  rw [hs0] at R1
  have HP := dlist_any (w.heap.size + 1) 1 0 255 16777216 (by decide) 1 0 255 rfl rfl rfl (lim1 (by decide)) _ w1 R1
  clear h R1 hw1 hw0 kc0 kc1 hs0 hB0
  go_enter Try.func33, Try.ntmps33
  go_wp2_with fail
  rw [← HW.out]
  refine HP.mono ?_
  rintro e b1 ⟨a1, l1, c1, x1, rfl, hk, -, -⟩
  have D1 : DP (.byt) (pBytes 1 0 16777216) w1 b1 (w.heap.size + 1) (some (xs, false)) [.slice a1 l1 c1] x1 := hk.dp
  obtain ⟨s1, q1, q2⟩ := D1.ps.st
  have E1 : Hid (DP (.byt) (pBytes 1 0 16777216) w1 b1 (w.heap.size + 1) (some (xs, false)) [.slice a1 l1 c1] x1 ∧ Res (pBytes 1 0 16777216) (some (xs, false)) x1 s1) := ⟨D1, q2⟩
  obtain ⟨B, hBe⟩ : ∃ B, B = b1.heap.size := ⟨_, rfl⟩
  have HB : Hid (B = b1.heap.size ∧ w.heap.size + 1 < B ∧ w1.heap.size ≤ B) := ⟨hBe, by have h1 := D1.ps.chg.size; have h2 := H0.out.2.2.2.2; omega, by rw [hBe]; exact D1.ps.chg.size⟩
  obtain ⟨w2, hw2⟩ : ∃ w2, w2 = b1.alloc (.cells #[.slice a1 l1 c1, .slice none 0 0] 57) := ⟨_, rfl⟩
  have c2 : Chg Non b1 w2 := by rw [hw2]; exact (Chg.refl _ _).alloc _
  have G2 : Hid (w2.heap[B]? = some (.cells #[.slice a1 l1 c1, .slice none 0 0] 57) ∧ Chg Non b1 w2) := ⟨by rw [hw2, hBe]; exact heap_alloc_last b1 _, c2⟩
  have HW2 : Hid (w2 = b1.alloc (.cells #[.slice a1 l1 c1, .slice none 0 0] 57)) := hw2
  have HP := dexts_any (w.heap.size + 1) _ w2 (q1.non c2)
  clear hk D1 q1 q2 hw2 c2
  go_wp2_with fail
  rw [← HW2.out]
  refine HP.mono ?_
  rintro e b2 ⟨a2, l2, c2, x2, rfl, hk⟩
  have D2 : DP (.lst tExt) (pExts) w2 b2 (w.heap.size + 1) s1 [.slice a2 l2 c2] x2 := hk
  obtain ⟨s2, q1, q2⟩ := D2.ps.st
  have E2 : Hid (DP (.lst tExt) (pExts) w2 b2 (w.heap.size + 1) s1 [.slice a2 l2 c2] x2 ∧ Res (pExts) s1 x2 s2) := ⟨D2, q2⟩
  have hB2 : b2.heap[B]? = some (.cells #[.slice a1 l1 c1, .slice none 0 0] 57) := by
    rw [D2.ps.chg.block _ (lt_somW G2.out.1) (fun e => by have e' : B = (w.heap.size + 1) := e; have := HB.out.2.1; omega)]; exact G2.out.1
  have y0 := cell_at 0 hB2 rfl
  have g0 := frozen_of_row b2 B 0 _ _ hB2
  have y1 := cell_at 1 hB2 rfl
  have g1 := frozen_of_row b2 B 1 _ _ hB2
  obtain ⟨w3, hw3⟩ : ∃ w3, w3 = b2.setCell ⟨B, 1, none⟩ (.slice a2 l2 c2) := ⟨_, rfl⟩
  have c3 : Chg (One B) b2 w3 := by rw [hw3]; exact chg_rest _ _ _ _
  have G3 : Hid (w3.heap[B]? = some (.cells #[.slice a1 l1 c1, .slice a2 l2 c2] 57) ∧ Chg (One B) b2 w3) := ⟨by rw [hw3]; exact set_cells 1 _ hB2, c3⟩
  have HW3 : Hid (w3 = b2.setCell ⟨B, 1, none⟩ (.slice a2 l2 c2)) := hw3
  have k3 : DS w3 (w.heap.size + 1) s2 := q1.keep c3 (fun k e => by have e' : k = B := e; have := HB.out.2.1; omega)
  have he := dend_any (w.heap.size + 1) s2 w3 k3
  rw [← hBe]
  clear hBe
  obtain ⟨A, hA⟩ : ∃ A, A = endA s2 := ⟨_, rfl⟩
  rw [← hA] at he
  have HA : Hid (A = endA s2) := hA
  have HST : Hid (DS w3 (w.heap.size + 1) s2) := k3
  clear hk D2 q1 q2 hw3 c3 hB2 k3 hA
  go_wp2_with fail
  rw [← HW3.out]
  clear y0 g0 y1 g1
  have t2 : Chg (fun k => k = (w.heap.size + 1) ∨ k = B) b2 w3 := G3.out.2.wide (fun i e => .inr e)
  have t1 : Chg (fun k => k = (w.heap.size + 1) ∨ k = B) b1 w3 := ((G2.out.2.wide (fun i e => e.elim)).trans (E2.out.1.ps.chg) (fun _ _ e => .inl e)).trans t2 (fun _ _ e => e)
  have z1 : Rel (.byt) (Btw w1.heap.size w3.heap.size) w3 [.slice a1 l1 c1] x1 := (E1.out.1.rel.chg2 t1 (fun k e => by
    have h1 := H0.out.2.2.2.2
    have h2 := HB.out
    have h3 := G2.out.2.size
    have h4 := lt_somW G2.out.1
    rcases e with e | e
    · exact .inl (by omega)
    · exact .inr (by omega))).btw (by
    have h2 := E1.out.1.ps.chg.size
    have h3 := G2.out.2.size
    omega) (by have := t1.size; omega)
  have z2 : Rel (.lst tExt) (Btw w1.heap.size w3.heap.size) w3 [.slice a2 l2 c2] x2 := (E2.out.1.rel.chg2 t2 (fun k e => by
    have h1 := H0.out.2.2.2.2
    have h2 := HB.out
    have h3 := G2.out.2.size
    have h4 := lt_somW G2.out.1
    rcases e with e | e
    · exact .inl (by omega)
    · exact .inl (by omega))).btw (by
    have h2 := E1.out.1.ps.chg.size
    have h3 := G2.out.2.size
    omega) (by have := t2.size; omega)
  have HX : Hid (DP (tReq) (pReq) w1 w3 w0.heap.size (some (xs, false)) [.slice a1 l1 c1, .slice a2 l2 c2] (x1, x2) ∧ Res (pReq) (some (xs, false)) (x1, x2) s2 ∧ A = endA s2) := by
    have hr := (E1.out.2).pair (E2.out.2)
    refine ⟨?_, hr, HA.out⟩
    rw [H0.out.1]
    exact ⟨⟨[.slice a1 l1 c1], [.slice a2 l2 c2], rfl, z1, z2⟩, (((E1.out.1.ps.chg.trans G2.out.2 (fun _ _ q => q.elim)).one E2.out.1.ps.chg).trans G3.out.2 (fun i hi e => by have e' : i = B := e; have := HB.out.2.2; omega)), _, HST.out, hr⟩
  have hBr : w3.heap[w.heap.size]? = some (.cells #[.slice none 0 0, .slice none 0 0] 57) := by
    rw [HX.out.1.ps.chg.block _ (lt_somW H0.out.2.2.2.1) (fun e => by have e' : w.heap.size = w0.heap.size := e; have := H0.out.1; omega)]; exact H0.out.2.2.2.1
  have hBm := G3.out.1
  have y0 := cell_at 0 hBr rfl
  have g0 := frozen_of_row _ w.heap.size 0 _ _ hBr
  have m0 := cell_at 0 hBm rfl
  have y1 := cell_at 1 hBr rfl
  have g1 := frozen_of_row _ w.heap.size 1 _ _ hBr
  have m1 := cell_at 1 hBm rfl
  clear hBr hBm t1 t2 z1 z2
  refine he.mono ?_
  rintro e w9 ⟨rfl, rfl⟩
  clear he
  by_cases hz : A = 0
  · subst hz
    go_wp2_with fail
    refine bodyPost_ret (v := .tuple #[.agg #[.slice a1 l1 c1, .slice a2 l2 c2], .int .i64 0]) ?_ rfl ⟨a1, l1, c1, a2, l2, c2, 0, rfl, (GP.dok HX.out.1 HX.out.2.1 HX.out.2.2.symm H0.out.2.2.1 (Chg.refl _ _)).outR H0.out.2.1 (by rw [H0.out.1]; omega) (((chg_rest _ _ 0 _).one (chg_rest _ _ 1 _)))⟩
    simp [results, Try.results33, go_sem, y0, y1]
  · have d1 : (A != 0) = true := by simpa using hz
    have HZ : Hid (A ≠ 0) := hz
    clear hz
    go_wp2_with fail
    refine bodyPost_ret (v := .tuple #[.agg #[.slice none 0 0, .slice none 0 0], .int .i64 A]) ?_ rfl ⟨none, 0, 0, none, 0, 0, A, rfl, (GP.dbad HX.out.1 HX.out.2.1 HX.out.2.2 HZ.out H0.out.2.2.1 (Chg.refl _ _) (⟨[.slice none 0 0], [.slice none 0 0], rfl, Rel.nilB _ _, Rel.nil _ _ _⟩)).outR H0.out.2.1 (by rw [H0.out.1]; omega) (((chg_rest _ _ 0 _).one (chg_rest _ _ 1 _)))⟩
    simp [results, Try.results33, go_sem, y0, y1]

set_option maxHeartbeats 6400000 in
theorem dgettick_any (v : Value) (xs : List Int) (w : World) (h : Bt (Bel w.heap.size) w v xs) : Calls Try.prog 37 #[v] w fun e w' => ∃ n1 n2 a3 l3 c3 a4 l4 c4 a5 l5 c5 al, e = .returned (.tuple #[.agg #[.int .u32 n1, .int .u32 n2, .slice a3 l3 c3, .slice a4 l4 c4, .slice a5 l5 c5], .int .i64 al]) ∧ GP (tTick) (pTick) ((0 : Int), (0 : Int), [], [], []) w w' xs [.int .u32 n1, .int .u32 n2, .slice a3 l3 c3, .slice a4 l4 c4, .slice a5 l5 c5] al := by
  obtain ⟨w0, hw0⟩ : ∃ w0, w0 = w.alloc (.cells #[.int .u32 0, .int .u32 0, .slice none 0 0, .slice none 0 0, .slice none 0 0] 47) := ⟨_, rfl⟩
  have kc0 : Chg Non w w0 := by rw [hw0]; exact (Chg.refl _ _).alloc _
  have hs0 : w0.heap.size = w.heap.size + 1 := by rw [hw0]; simp
  have hB0 : w0.heap[w.heap.size]? = some (.cells #[.int .u32 0, .int .u32 0, .slice none 0 0, .slice none 0 0, .slice none 0 0] 47) := by rw [hw0]; exact heap_alloc_last w _
  obtain ⟨w1, hw1⟩ : ∃ w1, w1 = w0.alloc (.cells #[v, .bool false, .bool false] 124) := ⟨_, rfl⟩
  have R1 : DS w1 w0.heap.size (some (xs, false)) := by rw [hw1]; exact DS.begin ((h.oldN kc0).bel2 kc0.size)
  have kc1 : Chg Non w0 w1 := by rw [hw1]; exact (Chg.refl _ _).alloc _
  have HW : Hid (w1 = (w.alloc (.cells #[.int .u32 0, .int .u32 0, .slice none 0 0, .slice none 0 0, .slice none 0 0] 47)).alloc (.cells #[v, .bool false, .bool false] 124)) := by show _ = _; rw [hw1, hw0]
  have H0 : Hid (w0.heap.size = w.heap.size + 1 ∧ Chg Non w w0 ∧ Chg Non w0 w1 ∧ w1.heap[w.heap.size]? = some (.cells #[.int .u32 0, .int .u32 0, .slice none 0 0, .slice none 0 0, .slice none 0 0] 47) ∧ w.heap.size + 1 < w1.heap.size) := ⟨hs0, kc0, kc1, by rw [kc1.block _ (by omega) (fun s => s)]; exact hB0, by rw [← hs0]; exact R1.lt⟩
  obtain ⟨ao0, N0, c0, rfl⟩ : ∃ ao n c, v = .slice ao n c := by
    obtain ⟨h1, -⟩ := h
    obtain ⟨ao, n, c, e, -⟩ := h1.shape
    exact ⟨ao, n, c, e⟩
  rw [hs0] at R1
  have HP := dnumber_any (w.heap.size + 1) 4 (by decide) _ w1 R1
  clear h R1 hw1 hw0 kc0 kc1 hs0 hB0
  go_enter Try.func37, Try.ntmps37
  go_wp2_with fail
  rw [← HW.out]
  refine HP.mono ?_
  rintro e b1 ⟨n1, rfl, hk⟩
  have D1 : DP (.num .u32) (pDig 4) w1 b1 (w.heap.size + 1) (some (xs, false)) [.int .u32 n1] n1 := hk.rp4
  have hw1 := hk.w32
  obtain ⟨s1, q1, q2⟩ := D1.ps.st
  have E1 : Hid (DP (.num .u32) (pDig 4) w1 b1 (w.heap.size + 1) (some (xs, false)) [.int .u32 n1] n1 ∧ Res (pDig 4) (some (xs, false)) n1 s1) := ⟨D1, q2⟩
  obtain ⟨B, hBe⟩ : ∃ B, B = b1.heap.size := ⟨_, rfl⟩
  have HB : Hid (B = b1.heap.size ∧ w.heap.size + 1 < B ∧ w1.heap.size ≤ B) := ⟨hBe, by have h1 := D1.ps.chg.size; have h2 := H0.out.2.2.2.2; omega, by rw [hBe]; exact D1.ps.chg.size⟩
  obtain ⟨w2, hw2⟩ : ∃ w2, w2 = b1.alloc (.cells #[.int .u32 n1, .int .u32 0, .slice none 0 0, .slice none 0 0, .slice none 0 0] 47) := ⟨_, rfl⟩
  have c2 : Chg Non b1 w2 := by rw [hw2]; exact (Chg.refl _ _).alloc _
  have G2 : Hid (w2.heap[B]? = some (.cells #[.int .u32 n1, .int .u32 0, .slice none 0 0, .slice none 0 0, .slice none 0 0] 47) ∧ Chg Non b1 w2) := ⟨by rw [hw2, hBe]; exact heap_alloc_last b1 _, c2⟩
  have HW2 : Hid (w2 = b1.alloc (.cells #[.int .u32 n1, .int .u32 0, .slice none 0 0, .slice none 0 0, .slice none 0 0] 47)) := hw2
  have HP := dnumber_any (w.heap.size + 1) 4 (by decide) _ w2 (q1.non c2)
  clear hk D1 q1 q2 hw2 c2
  go_wp2_with fail
  rw [← HW2.out]
  refine HP.mono ?_
  rintro e b2 ⟨n2, rfl, hk⟩
  have D2 : DP (.num .u32) (pDig 4) w2 b2 (w.heap.size + 1) s1 [.int .u32 n2] n2 := hk.rp4
  have hw2 := hk.w32
  obtain ⟨s2, q1, q2⟩ := D2.ps.st
  have E2 : Hid (DP (.num .u32) (pDig 4) w2 b2 (w.heap.size + 1) s1 [.int .u32 n2] n2 ∧ Res (pDig 4) s1 n2 s2) := ⟨D2, q2⟩
  have hB2 : b2.heap[B]? = some (.cells #[.int .u32 n1, .int .u32 0, .slice none 0 0, .slice none 0 0, .slice none 0 0] 47) := by
    rw [D2.ps.chg.block _ (lt_somW G2.out.1) (fun e => by have e' : B = (w.heap.size + 1) := e; have := HB.out.2.1; omega)]; exact G2.out.1
  have y0 := cell_at 0 hB2 rfl
  have g0 := frozen_of_row b2 B 0 _ _ hB2
  have y1 := cell_at 1 hB2 rfl
  have g1 := frozen_of_row b2 B 1 _ _ hB2
  have y2 := cell_at 2 hB2 rfl
  have g2 := frozen_of_row b2 B 2 _ _ hB2
  have y3 := cell_at 3 hB2 rfl
  have g3 := frozen_of_row b2 B 3 _ _ hB2
  have y4 := cell_at 4 hB2 rfl
  have g4 := frozen_of_row b2 B 4 _ _ hB2
  obtain ⟨w3, hw3⟩ : ∃ w3, w3 = b2.setCell ⟨B, 1, none⟩ (.int .u32 n2) := ⟨_, rfl⟩
  have c3 : Chg (One B) b2 w3 := by rw [hw3]; exact chg_rest _ _ _ _
  have G3 : Hid (w3.heap[B]? = some (.cells #[.int .u32 n1, .int .u32 n2, .slice none 0 0, .slice none 0 0, .slice none 0 0] 47) ∧ Chg (One B) b2 w3) := ⟨by rw [hw3]; exact set_cells 1 _ hB2, c3⟩
  have HW3 : Hid (w3 = b2.setCell ⟨B, 1, none⟩ (.int .u32 n2)) := hw3
  have k3 : DS w3 (w.heap.size + 1) s2 := q1.keep c3 (fun k e => by have e' : k = B := e; have := HB.out.2.1; omega)
  have HP := dlist_any (w.heap.size + 1) 1 0 255 16777216 (by decide) 1 0 255 rfl rfl rfl (lim1 (by decide)) _ w3 k3
  rw [← hBe]
  clear hBe
  clear hk D2 q1 q2 hw3 c3 hB2 k3
  go_wp2_with fail
  rw [← HW3.out]
  clear y0 g0 y1 g1 y2 g2 y3 g3 y4 g4
  refine HP.mono ?_
  rintro e b3 ⟨a3, l3, c3, x3, rfl, hk, -, -⟩
  have D3 : DP (.byt) (pBytes 1 0 16777216) w3 b3 (w.heap.size + 1) s2 [.slice a3 l3 c3] x3 := hk.dp
  obtain ⟨s3, q1, q2⟩ := D3.ps.st
  have E3 : Hid (DP (.byt) (pBytes 1 0 16777216) w3 b3 (w.heap.size + 1) s2 [.slice a3 l3 c3] x3 ∧ Res (pBytes 1 0 16777216) s2 x3 s3) := ⟨D3, q2⟩
  have hB3 : b3.heap[B]? = some (.cells #[.int .u32 n1, .int .u32 n2, .slice none 0 0, .slice none 0 0, .slice none 0 0] 47) := by
    rw [D3.ps.chg.block _ (lt_somW G3.out.1) (fun e => by have e' : B = (w.heap.size + 1) := e; have := HB.out.2.1; omega)]; exact G3.out.1
  have y0 := cell_at 0 hB3 rfl
  have g0 := frozen_of_row b3 B 0 _ _ hB3
  have y1 := cell_at 1 hB3 rfl
  have g1 := frozen_of_row b3 B 1 _ _ hB3
  have y2 := cell_at 2 hB3 rfl
  have g2 := frozen_of_row b3 B 2 _ _ hB3
  have y3 := cell_at 3 hB3 rfl
  have g3 := frozen_of_row b3 B 3 _ _ hB3
  have y4 := cell_at 4 hB3 rfl
  have g4 := frozen_of_row b3 B 4 _ _ hB3
  obtain ⟨w4, hw4⟩ : ∃ w4, w4 = b3.setCell ⟨B, 2, none⟩ (.slice a3 l3 c3) := ⟨_, rfl⟩
  have c4 : Chg (One B) b3 w4 := by rw [hw4]; exact chg_rest _ _ _ _
  have G4 : Hid (w4.heap[B]? = some (.cells #[.int .u32 n1, .int .u32 n2, .slice a3 l3 c3, .slice none 0 0, .slice none 0 0] 47) ∧ Chg (One B) b3 w4) := ⟨by rw [hw4]; exact set_cells 2 _ hB3, c4⟩
  have HW4 : Hid (w4 = b3.setCell ⟨B, 2, none⟩ (.slice a3 l3 c3)) := hw4
  have k4 : DS w4 (w.heap.size + 1) s3 := q1.keep c4 (fun k e => by have e' : k = B := e; have := HB.out.2.1; omega)
  have HP := dlist_any (w.heap.size + 1) 2 1 65535 16777216 (by decide) 2 1 65535 rfl rfl rfl (lim2 (by decide)) _ w4 k4


  clear hk D3 q1 q2 hw4 c4 hB3 k4
  go_wp2_with fail
  rw [← HW4.out]
  clear y0 g0 y1 g1 y2 g2 y3 g3 y4 g4
  refine HP.mono ?_
  rintro e b4 ⟨a4, l4, c4, x4, rfl, hk, -, -⟩
  have D4 : DP (.byt) (pBytes 2 1 16777216) w4 b4 (w.heap.size + 1) s3 [.slice a4 l4 c4] x4 := hk.dp
  obtain ⟨s4, q1, q2⟩ := D4.ps.st
  have E4 : Hid (DP (.byt) (pBytes 2 1 16777216) w4 b4 (w.heap.size + 1) s3 [.slice a4 l4 c4] x4 ∧ Res (pBytes 2 1 16777216) s3 x4 s4) := ⟨D4, q2⟩
  have hB4 : b4.heap[B]? = some (.cells #[.int .u32 n1, .int .u32 n2, .slice a3 l3 c3, .slice none 0 0, .slice none 0 0] 47) := by
    rw [D4.ps.chg.block _ (lt_somW G4.out.1) (fun e => by have e' : B = (w.heap.size + 1) := e; have := HB.out.2.1; omega)]; exact G4.out.1
  have y0 := cell_at 0 hB4 rfl
  have g0 := frozen_of_row b4 B 0 _ _ hB4
  have y1 := cell_at 1 hB4 rfl
  have g1 := frozen_of_row b4 B 1 _ _ hB4
  have y2 := cell_at 2 hB4 rfl
  have g2 := frozen_of_row b4 B 2 _ _ hB4
  have y3 := cell_at 3 hB4 rfl
  have g3 := frozen_of_row b4 B 3 _ _ hB4
  have y4 := cell_at 4 hB4 rfl
  have g4 := frozen_of_row b4 B 4 _ _ hB4
  obtain ⟨w5, hw5⟩ : ∃ w5, w5 = b4.setCell ⟨B, 3, none⟩ (.slice a4 l4 c4) := ⟨_, rfl⟩
  have c5 : Chg (One B) b4 w5 := by rw [hw5]; exact chg_rest _ _ _ _
  have G5 : Hid (w5.heap[B]? = some (.cells #[.int .u32 n1, .int .u32 n2, .slice a3 l3 c3, .slice a4 l4 c4, .slice none 0 0] 47) ∧ Chg (One B) b4 w5) := ⟨by rw [hw5]; exact set_cells 3 _ hB4, c5⟩
  have HW5 : Hid (w5 = b4.setCell ⟨B, 3, none⟩ (.slice a4 l4 c4)) := hw5
  have k5 : DS w5 (w.heap.size + 1) s4 := q1.keep c5 (fun k e => by have e' : k = B := e; have := HB.out.2.1; omega)
  have HP := dexts_any (w.heap.size + 1) _ w5 k5


  clear hk D4 q1 q2 hw5 c5 hB4 k5
  go_wp2_with fail
  rw [← HW5.out]
  clear y0 g0 y1 g1 y2 g2 y3 g3 y4 g4
  refine HP.mono ?_
  rintro e b5 ⟨a5, l5, c5, x5, rfl, hk⟩
  have D5 : DP (.lst tExt) (pExts) w5 b5 (w.heap.size + 1) s4 [.slice a5 l5 c5] x5 := hk
  obtain ⟨s5, q1, q2⟩ := D5.ps.st
  have E5 : Hid (DP (.lst tExt) (pExts) w5 b5 (w.heap.size + 1) s4 [.slice a5 l5 c5] x5 ∧ Res (pExts) s4 x5 s5) := ⟨D5, q2⟩
  have hB5 : b5.heap[B]? = some (.cells #[.int .u32 n1, .int .u32 n2, .slice a3 l3 c3, .slice a4 l4 c4, .slice none 0 0] 47) := by
    rw [D5.ps.chg.block _ (lt_somW G5.out.1) (fun e => by have e' : B = (w.heap.size + 1) := e; have := HB.out.2.1; omega)]; exact G5.out.1
  have y0 := cell_at 0 hB5 rfl
  have g0 := frozen_of_row b5 B 0 _ _ hB5
  have y1 := cell_at 1 hB5 rfl
  have g1 := frozen_of_row b5 B 1 _ _ hB5
  have y2 := cell_at 2 hB5 rfl
  have g2 := frozen_of_row b5 B 2 _ _ hB5
  have y3 := cell_at 3 hB5 rfl
  have g3 := frozen_of_row b5 B 3 _ _ hB5
  have y4 := cell_at 4 hB5 rfl
  have g4 := frozen_of_row b5 B 4 _ _ hB5
  obtain ⟨w6, hw6⟩ : ∃ w6, w6 = b5.setCell ⟨B, 4, none⟩ (.slice a5 l5 c5) := ⟨_, rfl⟩
  have c6 : Chg (One B) b5 w6 := by rw [hw6]; exact chg_rest _ _ _ _
  have G6 : Hid (w6.heap[B]? = some (.cells #[.int .u32 n1, .int .u32 n2, .slice a3 l3 c3, .slice a4 l4 c4, .slice a5 l5 c5] 47) ∧ Chg (One B) b5 w6) := ⟨by rw [hw6]; exact set_cells 4 _ hB5, c6⟩
  have HW6 : Hid (w6 = b5.setCell ⟨B, 4, none⟩ (.slice a5 l5 c5)) := hw6
  have k6 : DS w6 (w.heap.size + 1) s5 := q1.keep c6 (fun k e => by have e' : k = B := e; have := HB.out.2.1; omega)
  have he := dend_any (w.heap.size + 1) s5 w6 k6


  obtain ⟨A, hA⟩ : ∃ A, A = endA s5 := ⟨_, rfl⟩
  rw [← hA] at he
  have HA : Hid (A = endA s5) := hA
  have HST : Hid (DS w6 (w.heap.size + 1) s5) := k6
  clear hk D5 q1 q2 hw6 c6 hB5 k6 hA
  go_wp2_with fail
  rw [← HW6.out]
  clear y0 g0 y1 g1 y2 g2 y3 g3 y4 g4
  have t5 : Chg (fun k => k = (w.heap.size + 1) ∨ k = B) b5 w6 := G6.out.2.wide (fun i e => .inr e)
  have t4 : Chg (fun k => k = (w.heap.size + 1) ∨ k = B) b4 w6 := ((G5.out.2.wide (fun i e => .inr e)).trans (E5.out.1.ps.chg) (fun _ _ e => .inl e)).trans t5 (fun _ _ e => e)
  have t3 : Chg (fun k => k = (w.heap.size + 1) ∨ k = B) b3 w6 := ((G4.out.2.wide (fun i e => .inr e)).trans (E4.out.1.ps.chg) (fun _ _ e => .inl e)).trans t4 (fun _ _ e => e)
  have t2 : Chg (fun k => k = (w.heap.size + 1) ∨ k = B) b2 w6 := ((G3.out.2.wide (fun i e => .inr e)).trans (E3.out.1.ps.chg) (fun _ _ e => .inl e)).trans t3 (fun _ _ e => e)
  have t1 : Chg (fun k => k = (w.heap.size + 1) ∨ k = B) b1 w6 := ((G2.out.2.wide (fun i e => e.elim)).trans (E2.out.1.ps.chg) (fun _ _ e => .inl e)).trans t2 (fun _ _ e => e)
  have z1 : Rel (.num .u32) (Btw w1.heap.size w6.heap.size) w6 [.int .u32 n1] n1 := (E1.out.1.rel.chg2 t1 (fun k e => by
    have h1 := H0.out.2.2.2.2
    have h2 := HB.out
    have h3 := G2.out.2.size
    have h4 := lt_somW G2.out.1
    rcases e with e | e
    · exact .inl (by omega)
    · exact .inr (by omega))).btw (by
    have h2 := E1.out.1.ps.chg.size
    have h3 := G2.out.2.size
    omega) (by have := t1.size; omega)
  have z2 : Rel (.num .u32) (Btw w1.heap.size w6.heap.size) w6 [.int .u32 n2] n2 := (E2.out.1.rel.chg2 t2 (fun k e => by
    have h1 := H0.out.2.2.2.2
    have h2 := HB.out
    have h3 := G2.out.2.size
    have h4 := lt_somW G2.out.1
    rcases e with e | e
    · exact .inl (by omega)
    · exact .inl (by omega))).btw (by
    have h2 := E1.out.1.ps.chg.size
    have h3 := G2.out.2.size
    omega) (by have := t2.size; omega)
  have z3 : Rel (.byt) (Btw w1.heap.size w6.heap.size) w6 [.slice a3 l3 c3] x3 := (E3.out.1.rel.chg2 t3 (fun k e => by
    have h1 := H0.out.2.2.2.2
    have h2 := HB.out
    have h3 := G2.out.2.size
    have h4 := lt_somW G2.out.1
    have u2 := E2.out.1.ps.chg.size
    have v2 := G3.out.2.size
    rcases e with e | e
    · exact .inl (by omega)
    · exact .inl (by omega))).btw (by
    have h2 := E1.out.1.ps.chg.size
    have h3 := G2.out.2.size
    have u2 := E2.out.1.ps.chg.size
    have v2 := G3.out.2.size
    omega) (by have := t3.size; omega)
  have z4 : Rel (.byt) (Btw w1.heap.size w6.heap.size) w6 [.slice a4 l4 c4] x4 := (E4.out.1.rel.chg2 t4 (fun k e => by
    have h1 := H0.out.2.2.2.2
    have h2 := HB.out
    have h3 := G2.out.2.size
    have h4 := lt_somW G2.out.1
    have u2 := E2.out.1.ps.chg.size
    have v2 := G3.out.2.size
    have u3 := E3.out.1.ps.chg.size
    have v3 := G4.out.2.size
    rcases e with e | e
    · exact .inl (by omega)
    · exact .inl (by omega))).btw (by
    have h2 := E1.out.1.ps.chg.size
    have h3 := G2.out.2.size
    have u2 := E2.out.1.ps.chg.size
    have v2 := G3.out.2.size
    have u3 := E3.out.1.ps.chg.size
    have v3 := G4.out.2.size
    omega) (by have := t4.size; omega)
  have z5 : Rel (.lst tExt) (Btw w1.heap.size w6.heap.size) w6 [.slice a5 l5 c5] x5 := (E5.out.1.rel.chg2 t5 (fun k e => by
    have h1 := H0.out.2.2.2.2
    have h2 := HB.out
    have h3 := G2.out.2.size
    have h4 := lt_somW G2.out.1
    have u2 := E2.out.1.ps.chg.size
    have v2 := G3.out.2.size
    have u3 := E3.out.1.ps.chg.size
    have v3 := G4.out.2.size
    have u4 := E4.out.1.ps.chg.size
    have v4 := G5.out.2.size
    rcases e with e | e
    · exact .inl (by omega)
    · exact .inl (by omega))).btw (by
    have h2 := E1.out.1.ps.chg.size
    have h3 := G2.out.2.size
    have u2 := E2.out.1.ps.chg.size
    have v2 := G3.out.2.size
    have u3 := E3.out.1.ps.chg.size
    have v3 := G4.out.2.size
    have u4 := E4.out.1.ps.chg.size
    have v4 := G5.out.2.size
    omega) (by have := t5.size; omega)
  have HX : Hid (DP (tTick) (pTick) w1 w6 w0.heap.size (some (xs, false)) [.int .u32 n1, .int .u32 n2, .slice a3 l3 c3, .slice a4 l4 c4, .slice a5 l5 c5] (n1, n2, x3, x4, x5) ∧ Res (pTick) (some (xs, false)) (n1, n2, x3, x4, x5) s5 ∧ A = endA s5) := by
    have hr := (E1.out.2).pair ((E2.out.2).pair ((E3.out.2).pair ((E4.out.2).pair (E5.out.2))))
    refine ⟨?_, hr, HA.out⟩
    rw [H0.out.1]
    exact ⟨⟨[.int .u32 n1], [.int .u32 n2, .slice a3 l3 c3, .slice a4 l4 c4, .slice a5 l5 c5], rfl, z1, ⟨[.int .u32 n2], [.slice a3 l3 c3, .slice a4 l4 c4, .slice a5 l5 c5], rfl, z2, ⟨[.slice a3 l3 c3], [.slice a4 l4 c4, .slice a5 l5 c5], rfl, z3, ⟨[.slice a4 l4 c4], [.slice a5 l5 c5], rfl, z4, z5⟩⟩⟩⟩, (((((((((E1.out.1.ps.chg.trans G2.out.2 (fun _ _ q => q.elim)).one E2.out.1.ps.chg).trans G3.out.2 (fun i hi e => by have e' : i = B := e; have := HB.out.2.2; omega)).one E3.out.1.ps.chg).trans G4.out.2 (fun i hi e => by have e' : i = B := e; have := HB.out.2.2; omega)).one E4.out.1.ps.chg).trans G5.out.2 (fun i hi e => by have e' : i = B := e; have := HB.out.2.2; omega)).one E5.out.1.ps.chg).trans G6.out.2 (fun i hi e => by have e' : i = B := e; have := HB.out.2.2; omega)), _, HST.out, hr⟩
  have hBr : w6.heap[w.heap.size]? = some (.cells #[.int .u32 0, .int .u32 0, .slice none 0 0, .slice none 0 0, .slice none 0 0] 47) := by
    rw [HX.out.1.ps.chg.block _ (lt_somW H0.out.2.2.2.1) (fun e => by have e' : w.heap.size = w0.heap.size := e; have := H0.out.1; omega)]; exact H0.out.2.2.2.1
  have hBm := G6.out.1
  have y0 := cell_at 0 hBr rfl
  have g0 := frozen_of_row _ w.heap.size 0 _ _ hBr
  have m0 := cell_at 0 hBm rfl
  have y1 := cell_at 1 hBr rfl
  have g1 := frozen_of_row _ w.heap.size 1 _ _ hBr
  have m1 := cell_at 1 hBm rfl
  have y2 := cell_at 2 hBr rfl
  have g2 := frozen_of_row _ w.heap.size 2 _ _ hBr
  have m2 := cell_at 2 hBm rfl
  have y3 := cell_at 3 hBr rfl
  have g3 := frozen_of_row _ w.heap.size 3 _ _ hBr
  have m3 := cell_at 3 hBm rfl
  have y4 := cell_at 4 hBr rfl
  have g4 := frozen_of_row _ w.heap.size 4 _ _ hBr
  have m4 := cell_at 4 hBm rfl
  clear hBr hBm t1 t2 t3 t4 t5 z1 z2 z3 z4 z5
  refine he.mono ?_
  rintro e w9 ⟨rfl, rfl⟩
  clear he
  by_cases hz : A = 0
  · subst hz
    go_wp2_with fail
    refine bodyPost_ret (v := .tuple #[.agg #[.int .u32 n1, .int .u32 n2, .slice a3 l3 c3, .slice a4 l4 c4, .slice a5 l5 c5], .int .i64 0]) ?_ rfl ⟨n1, n2, a3, l3, c3, a4, l4, c4, a5, l5, c5, 0, rfl, (GP.dok HX.out.1 HX.out.2.1 HX.out.2.2.symm H0.out.2.2.1 (Chg.refl _ _)).outR H0.out.2.1 (by rw [H0.out.1]; omega) ((((((chg_rest _ _ 0 _).one (chg_rest _ _ 1 _)).one (chg_rest _ _ 2 _)).one (chg_rest _ _ 3 _)).one (chg_rest _ _ 4 _)))⟩
    simp [results, Try.results37, go_sem, y0, y1, y2, y3, y4]
  · have d1 : (A != 0) = true := by simpa using hz
    have HZ : Hid (A ≠ 0) := hz
    clear hz
    go_wp2_with fail
    refine bodyPost_ret (v := .tuple #[.agg #[.int .u32 0, .int .u32 0, .slice none 0 0, .slice none 0 0, .slice none 0 0], .int .i64 A]) ?_ rfl ⟨0, 0, none, 0, 0, none, 0, 0, none, 0, 0, A, rfl, (GP.dbad HX.out.1 HX.out.2.1 HX.out.2.2 HZ.out H0.out.2.2.1 (Chg.refl _ _) (⟨[.int .u32 0], [.int .u32 0, .slice none 0 0, .slice none 0 0, .slice none 0 0], rfl, Rel.zero _ _ _, ⟨[.int .u32 0], [.slice none 0 0, .slice none 0 0, .slice none 0 0], rfl, Rel.zero _ _ _, ⟨[.slice none 0 0], [.slice none 0 0, .slice none 0 0], rfl, Rel.nilB _ _, ⟨[.slice none 0 0], [.slice none 0 0], rfl, Rel.nilB _ _, Rel.nil _ _ _⟩⟩⟩⟩)).outR H0.out.2.1 (by rw [H0.out.1]; omega) ((((((chg_rest _ _ 0 _).one (chg_rest _ _ 1 _)).one (chg_rest _ _ 2 _)).one (chg_rest _ _ 3 _)).one (chg_rest _ _ 4 _)))⟩
    simp [results, Try.results37, go_sem, y0, y1, y2, y3, y4]
end Go.Proofs.Ytdhckndehijemaa
