/-
  Transcripts: what Add, Retry, Sum and With do, of both.
-/
import Derived.Test.YtijpdhjlafihkaaDoorTj34
import Derived.Test.YtijpdhjlafihkaaDoorTj47
namespace Go.Proofs.YtijpdhjlafihkaaDoor
open Go.RowKit
set_option linter.unusedVariables false
set_option maxRecDepth 100000

theorem own_four (w : World) (a b c d : Int) : Ap.OwnV (w.alloc (.cells #[.int .u8 a, .int .u8 b, .int .u8 c, .int .u8 d] 5)) (.slice (some ⟨w.heap.size, 0, none⟩) 4 4) [a, b, c, d] :=
  .inr ⟨w.heap.size, 0, 4, 4, rfl, rfl, Nat.le_refl _, by decide, #[.int .u8 a, .int .u8 b, .int .u8 c, .int .u8 d], heap_alloc_last w _, by simp, by simp⟩
/-- The sum of parts, of any hash or none. -/
theorem of_both (q : Int) (v : Value) (xss : List (List Int)) (w : World) (ht : Tabs w) (hp : Pt w v xss) : Calls Tryd.prog 21 #[.int .i64 q, v] w fun e w' => RL (sumL q xss.flatten) w w' e := by
  by_cases hv : Valid q
  · refine (of_any q v xss w hv ht hp).mono ?_
    rintro r w' ⟨b, rfl, _, k2, k3⟩
    exact ⟨_, _, _, rfl, k2, Rd.ofArr k3 (Nat.le_trans (size_le q) (by omega))⟩
  · refine (of_none q v xss w hv ht hp).mono ?_
    rintro r w' ⟨rfl, k2⟩
    refine ⟨_, _, _, rfl, k2, ?_⟩
    rw [sumL_none hv]
    exact Ap.Rd.nil _
theorem refOf_both (q : Int) (v : Value) (xs : List Int) (w : World) (hr : Ap.Rd w v xs) (hx : ∀ x ∈ xs, 0 ≤ x ∧ x < 256) (hl : xs.length ≤ 140737488353280) : Calls Tryd.prog 35 #[.int .i64 q, v] w fun e w' => RL (sumL q xs) w w' e := by
  by_cases hv : Valid q
  · refine (refOf_any q v xs w hv hr hx hl).mono ?_
    rintro r w' ⟨v', rfl, k2, k3, _⟩
    obtain ⟨o, m, c, rfl, -⟩ := k3.shape
    exact ⟨_, _, _, rfl, k2, k3⟩
  · refine (refOf_none q v w hv).mono ?_
    rintro r w' ⟨rfl, rfl⟩
    refine ⟨_, _, _, rfl, Chg.refl _, ?_⟩
    rw [sumL_none hv]
    exact Ap.Rd.nil _

/-- A transcript's cell. -/
def TC (w : World) (P : Nat) (ty : TypeId) (v : Value) : Prop := w.heap[P]? = some (.cells #[v] ty (0, 0))
theorem TC.cell {w : World} {P : Nat} {ty : TypeId} {v : Value} (h : TC w P ty v) : w.cell? ⟨P, 0, none⟩ = some v := by rw [Lib.cell_of_heap h]; rfl
theorem TC.frozen {w : World} {P : Nat} {ty : TypeId} {v : Value} (h : TC w P ty v) : w.frozen? ⟨P, 0, none⟩ = false := Lib.frozen_of_heap h 0
theorem TC.set {w : World} {P : Nat} {ty : TypeId} {v : Value} (h : TC w P ty v) (u : Value) : TC (w.setCell ⟨P, 0, none⟩ u) P ty u := by
  unfold TC at *
  simp [World.setCell, Array.getElem?_modify, h]

set_option maxHeartbeats 2000000 in
theorem tsum_any (q : Int) (P : Nat) (v : Value) (xs : List Int) (w : World) (ht : Tabs w) (h : TC w P 54 v) (hr : Ap.Rd w v xs) (hl : xs.length < 4611686018427387904) :
    Calls Tryd.prog 18 #[.pointer (some ⟨P, 0, none⟩), .int .i64 q] w fun e w' => RL (sumL q xs) w w' e := by
  obtain ⟨o, m, c, rfl, -⟩ := hr.shape
  have c0 := h.cell
  have q1 : Chg w (w.alloc (.cells #[.slice o m c] 23)) := (Chg.refl w).alloc _
  have hp := of_both q (.slice (some ⟨w.heap.size, 0, none⟩) 1 1) [xs] (w.alloc (.cells #[.slice o m c] 23)) (ht.chg q1) (Pt.made1 (Chg.refl w) (Rd.slA hr hl) 23)
  rw [show [xs].flatten = xs by simp] at hp
  have Q : Hid (Chg w (w.alloc (.cells #[.slice o m c] 23))) := q1
  clear ht h hr hl q1
  go_enter Tryd.func18, Tryd.ntmps18
  go_wp2_with (go_at_call 21; refine hp.mono ?_)
  rintro e w2 ⟨o2, m2, c2, rfl, hc2, hr2⟩
  have H : Hid (Chg w w2 ∧ Ap.Rd w2 (.slice o2 m2 c2) (sumL q xs)) := ⟨Q.out.trans hc2, hr2⟩
  clear hp hc2 hr2
  go_wp2
  go_ret
  exact ⟨_, _, _, rfl, H.out⟩

set_option maxHeartbeats 2000000 in
theorem twith_any (q : Int) (P : Nat) (v : Value) (xs : List Int) (vp : Value) (ys : List Int) (w : World) (ht : Tabs w) (h : TC w P 54 v) (hr : Ap.Rd w v xs) (hl : xs.length < 4611686018427387904) (hp : Ap.Rd w vp ys) (hpl : ys.length < 4611686018427387904) :
    Calls Tryd.prog 16 #[.pointer (some ⟨P, 0, none⟩), .int .i64 q, vp] w fun e w' => RL (sumL q (xs ++ ys)) w w' e := by
  obtain ⟨o, m, c, rfl, -⟩ := hr.shape
  obtain ⟨o1, m1, c1, rfl, -⟩ := hp.shape
  have c0 := h.cell
  have q1 : Chg w (w.alloc (.cells #[.slice o m c, .slice o1 m1 c1] 23)) := (Chg.refl w).alloc _
  have hq := of_both q (.slice (some ⟨w.heap.size, 0, none⟩) 2 2) [xs, ys] (w.alloc (.cells #[.slice o m c, .slice o1 m1 c1] 23)) (ht.chg q1) (Pt.made2 (Chg.refl w) (Rd.slA hr hl) (Rd.slA hp hpl) 23)
  rw [show [xs, ys].flatten = xs ++ ys by simp] at hq
  have Q : Hid (Chg w (w.alloc (.cells #[.slice o m c, .slice o1 m1 c1] 23))) := q1
  clear ht h hr hl q1 hp hpl
  go_enter Tryd.func16, Tryd.ntmps16
  go_wp2_with (go_at_call 21; refine hq.mono ?_)
  rintro e w2 ⟨o2, m2, c2, rfl, hc2, hr2⟩
  have H : Hid (Chg w w2 ∧ Ap.Rd w2 (.slice o2 m2 c2) (sumL q (xs ++ ys))) := ⟨Q.out.trans hc2, hr2⟩
  clear hq hc2 hr2
  go_wp2
  go_ret
  exact ⟨_, _, _, rfl, H.out⟩

set_option maxHeartbeats 2000000 in
theorem dsum_any (q : Int) (P : Nat) (v : Value) (xs : List Int) (w : World) (h : TC w P 35 v) (hr : Ap.Rd w v xs) (hx : ∀ x ∈ xs, 0 ≤ x ∧ x < 256) (hl : xs.length ≤ 140737488353280) :
    Calls Tryd.prog 19 #[.pointer (some ⟨P, 0, none⟩), .int .i64 q] w fun e w' => RL (sumL q xs) w w' e := by
  obtain ⟨o, m, c, rfl, -⟩ := hr.shape
  have c0 := h.cell
  have hp := refOf_both q (.slice o m c) xs w hr hx hl
  clear h hr hx hl
  go_enter Tryd.func19, Tryd.ntmps19
  go_wp2_with (go_at_call 35; refine hp.mono ?_)
  rintro e w2 ⟨o2, m2, c2, rfl, hc2, hr2⟩
  have H : Hid (Chg w w2 ∧ Ap.Rd w2 (.slice o2 m2 c2) (sumL q xs)) := ⟨hc2, hr2⟩
  clear hp hc2 hr2
  go_wp2
  go_ret
  exact ⟨_, _, _, rfl, H.out⟩

set_option maxHeartbeats 4000000 in
theorem dwith_any (q : Int) (P : Nat) (v : Value) (xs : List Int) (vp : Value) (ys : List Int) (w : World) (h : TC w P 35 v) (hr : Ap.Rd w v xs) (hx : ∀ x ∈ xs, 0 ≤ x ∧ x < 256) (hp : Ap.Rd w vp ys) (hy : ∀ x ∈ ys, 0 ≤ x ∧ x < 256) (hl : xs.length + ys.length ≤ 140737488353280) :
    Calls Tryd.prog 17 #[.pointer (some ⟨P, 0, none⟩), .int .i64 q, vp] w fun e w' => RL (sumL q (xs ++ ys)) w w' e := by
  obtain ⟨o, m, c, rfl, -⟩ := hr.shape
  obtain ⟨o1, m1, c1, rfl, -⟩ := hp.shape
  have q1 : Chg w (w.alloc (.cells #[] 5)) := (Chg.refl w).alloc _
  have c1' := cell_at q1 h.cell
  have HX : Hid (Ap.Rd w (.slice o m c) xs ∧ Ap.Rd w (.slice o1 m1 c1) ys ∧ (∀ x ∈ xs ++ ys, 0 ≤ x ∧ x < 256) ∧ xs.length + ys.length ≤ 140737488353280) := ⟨hr, hp, fun x hxy => by
    rcases List.mem_append.1 hxy with e | e
    · exact hx x e
    · exact hy x e, hl⟩
  have Q : Hid (Chg w (w.alloc (.cells #[] 5))) := q1
  clear h hr hx hp hy hl q1
  go_enter Tryd.func17, Tryd.ntmps17
  go_wp2_with (at_builtin; refine Ap.wpList_app _ rfl _ _ rfl (.slice (some ⟨w.heap.size, 0, none⟩) 0 0) (.slice o m c) [] xs rfl rfl (OwnV.empty w) (Rd.chg HX.out.1 Q.out) (by have := HX.out.2.2.2; simp only [List.length_nil]; omega) ?_)
  intro v1 w1 r1 r2 r3
  obtain ⟨o2, m2, c2, rfl, -⟩ := r1.rd.shape
  have H1 : Hid (Chg w w1 ∧ Ap.OwnV w1 (.slice o2 m2 c2) ([] ++ xs) ∧ ∀ k, (Value.slice o2 m2 c2).ownBlock = some k → w.heap.size ≤ k) := ⟨Chg.app (Chg.refl w) r2, r1, fun k e => by
    rcases r3 with q | q
    · rw [q] at e
      simp [Value.ownBlock] at e
      omega
    · rw [q] at e
      injection e with e
      have : (w.alloc (.cells #[] 5)).heap.size = w.heap.size + 1 := by simp
      omega⟩
  clear r1 r2 r3
  go_wp2_with (at_builtin; refine Ap.wpList_app _ rfl _ _ rfl (.slice o2 m2 c2) (.slice o1 m1 c1) ([] ++ xs) ys rfl rfl H1.out.2.1 (Rd.chg HX.out.2.1 H1.out.1) (by have := HX.out.2.2.2; simp only [List.nil_append]; omega) ?_)
  intro v3 w3 r1 r2 r3
  obtain ⟨o3, m3, c3, rfl, -⟩ := r1.rd.shape
  have H3 : Hid (Chg w w3 ∧ Ap.Rd w3 (.slice o3 m3 c3) (xs ++ ys)) := ⟨Chg.ap H1.out.1 r2 (fun i e => H1.out.2.2 i e), r1.rd⟩
  clear r1 r2 r3
  have hq := refOf_both q (.slice o3 m3 c3) (xs ++ ys) w3 H3.out.2 HX.out.2.2.1 (by have := HX.out.2.2.2; rw [List.length_append]; omega)
  go_wp2_with (go_at_call 35; refine hq.mono ?_)
  rintro e w4 ⟨o4, m4, c4, rfl, hc4, hr4⟩
  have H : Hid (Chg w w4 ∧ Ap.Rd w4 (.slice o4 m4 c4) (sumL q (xs ++ ys))) := ⟨H3.out.1.trans hc4, hr4⟩
  clear hq hc4 hr4
  go_wp2
  go_ret
  exact ⟨_, _, _, rfl, H.out⟩
end Go.Proofs.YtijpdhjlafihkaaDoor
