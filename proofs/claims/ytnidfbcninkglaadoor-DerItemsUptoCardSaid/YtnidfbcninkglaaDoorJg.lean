/-
  The document's Same, of lists that are alike.
-/
import Derived.Test.YtnidfbcninkglaaDoorJf
import Derived.Deep.RegionHeld3
namespace Go.Proofs.YtnidfbcninkglaaDoor
open Go.RowKit
set_option linter.unusedVariables false
set_option maxRecDepth 100000

/-- Items in a row of memory, their bodies readable. -/
def RowR (w : World) (v : Value) (p : List (PI × Value)) : Prop :=
  ∃ ao n c, v = .slice ao n c ∧ n = p.length ∧ n ≤ c ∧ c ≤ 9223372036854775807 ∧ (p ≠ [] → ∃ g, ao = some ⟨g, 0, none⟩ ∧ ∀ j q, p[j]? = some q →
    w.cell? ⟨g, j * 4, none⟩ = some (.int .u8 q.1.t) ∧ w.cell? ⟨g, j * 4 + 1, none⟩ = some q.2 ∧ w.cell? ⟨g, j * 4 + 2, none⟩ = some (.int .i64 q.1.k) ∧ w.cell? ⟨g, j * 4 + 3, none⟩ = some (.int .i64 q.1.l) ∧ Rd w q.2 q.1.ys)

theorem rowsI_get : ∀ (p : List (PI × Value)) (j : Nat) (q : PI × Value), p[j]? = some q → (rowsI p)[j * 4]? = some (.int .u8 q.1.t) ∧ (rowsI p)[j * 4 + 1]? = some q.2 ∧ (rowsI p)[j * 4 + 2]? = some (.int .i64 q.1.k) ∧ (rowsI p)[j * 4 + 3]? = some (.int .i64 q.1.l)
  | [], j, q, h => by simp at h
  | a :: p, 0, q, h => by
    simp at h
    subst h
    simp [rowsI, cellsI]
  | a :: p, j + 1, q, h => by
    have ih := rowsI_get p j q (by simpa using h)
    have e : rowsI (a :: p) = .int .u8 a.1.t :: a.2 :: .int .i64 a.1.k :: .int .i64 a.1.l :: rowsI p := by simp [rowsI, cellsI]
    rw [e, show (j + 1) * 4 = j * 4 + 1 + 1 + 1 + 1 by omega]
    simpa using ih

theorem RowR.of_row {w : World} {base : Nat} {v : Value} {p : List (PI × Value)} (h : w.ownsRow base 25 4 v p.length (rowsI p)) (hb : ∀ q ∈ p, Rd w q.2 q.1.ys) : RowR w v p := by
  rcases h.2 with ⟨rfl, h0⟩ | ⟨g, cap, cur, rfl, -, hg, hn, hm, hs, ht⟩
  · refine ⟨none, 0, 0, rfl, h0.symm, Nat.le_refl _, by decide, fun hp => absurd (List.eq_nil_of_length_eq_zero h0) hp⟩
  · refine ⟨_, _, _, rfl, rfl, hn, by simpa [maxLen] using hm, fun _ => ⟨g, rfl, fun j q hj => ?_⟩⟩
    have hlt := (List.getElem?_eq_some_iff.1 hj).1
    have c : ∀ i u, (rowsI p)[i]? = some u → w.cell? ⟨g, i, none⟩ = some u := fun i u hi => by
      have hil := (List.getElem?_eq_some_iff.1 hi).1
      rw [rowsI_len] at hil
      rw [cell_of_row w g i cur 25 (0, 0) hg]
      rw [← ht, List.getElem?_take, if_pos hil] at hi
      simpa using hi
    obtain ⟨a1, a2, a3, a4⟩ := rowsI_get p j q hj
    exact ⟨c _ _ a1, c _ _ a2, c _ _ a3, c _ _ a4, hb q (List.mem_of_getElem? hj)⟩

theorem RowR.chg {w w' : World} {v : Value} {p : List (PI × Value)} (h : RowR w v p) (k : Chg Non w w') : RowR w' v p := by
  obtain ⟨ao, n, c, rfl, h1, h2, h3, h4⟩ := h
  refine ⟨ao, n, c, rfl, h1, h2, h3, fun hn => ?_⟩
  obtain ⟨g, e, h5⟩ := h4 hn
  refine ⟨g, e, fun j q hj => ?_⟩
  obtain ⟨g1, g2, g3, g4, g5⟩ := h5 j q hj
  have c : ∀ {i u}, w.cell? ⟨g, i, none⟩ = some u → w'.cell? ⟨g, i, none⟩ = some u := fun {i u} hi => by rw [← hi]; exact World.cell?_of_block (k.block g (World.block_lt_of_cell? w _ hi) (fun x => x))
  exact ⟨c g1, c g2, c g3, c g4, g5.chg k⟩

set_option maxHeartbeats 16000000 in
theorem same_any (v1 v2 : Value) (p1 p2 : List (PI × Value)) (hp : p1.map (·.1) = p2.map (·.1)) (w : World) (h1 : RowR w v1 p1) (h2 : RowR w v2 p2) :
    Calls Tryd.prog 12 #[v1, v2] w fun e w' => e = .returned (.bool true) ∧ Chg Non w w' := by
  have H1 : Hid (RowR w v1 p1) := h1
  have H2 : Hid (RowR w v2 p2) := h2
  have HP : Hid (p1.map (·.1) = p2.map (·.1)) := hp
  obtain ⟨a1, n, c1, rfl, e1, e2, e3, -⟩ := h1
  obtain ⟨a2, n', c2, rfl, e1', e2', e3', -⟩ := h2
  obtain rfl : n = n' := by have := congrArg List.length hp; simp at this; omega
  have HN : Hid (n = p1.length ∧ n = p2.length) := ⟨e1, e1'⟩
  clear hp e1 e1'
  go_enter Tryd.func12, Tryd.ntmps12
  go_wp2
  go_loopw [5] (fun i wr => ∃ k : Nat, i = .int .i64 k ∧ k ≤ n ∧ Hid (Chg Non w wr)) (fun i _ => n - (intOf i).toNat)
  case atStart => exact ⟨0, rfl, Nat.zero_le _, Chg.refl _ _⟩
  case round =>
    obtain ⟨k, rfl, hk, hC⟩ := hrel
    by_cases hlt : k < n
    · obtain ⟨q1, hq1⟩ : ∃ q, p1[k]? = some q := ⟨p1[k]'(by have := HN.out; omega), List.getElem?_eq_getElem _⟩
      obtain ⟨q2, hq2⟩ : ∃ q, p2[k]? = some q := ⟨p2[k]'(by have := HN.out; omega), List.getElem?_eq_getElem _⟩
      have hqq : q1.1 = q2.1 := by
        have := congrArg (fun l => l[k]?) HP.out
        simp [hq1, hq2] at this
        exact this
      obtain ⟨ao1, n1, d1, x1, -, -, -, y1⟩ := H1.out.chg hC.out
      obtain ⟨ao2, n2, d2, x2, -, -, -, y2⟩ := H2.out.chg hC.out
      injection x1 with x1 _ _
      injection x2 with x2 _ _
      obtain ⟨g1, z1, f1⟩ := y1 (by intro e; rw [e] at hq1; simp at hq1)
      obtain ⟨g2, z2, f2⟩ := y2 (by intro e; rw [e] at hq2; simp at hq2)
      obtain ⟨s1, s2, s3, s4, s5⟩ := f1 k q1 hq1
      obtain ⟨r1, r2, r3, r4, r5⟩ := f2 k q2 hq2
      rw [← hqq] at r1 r3 r4 r5
      obtain rfl := x1.trans z1
      obtain rfl := x2.trans z2
      obtain ⟨⟨qt, qy, qk, ql⟩, qv⟩ := q1
      obtain ⟨q2x, qw⟩ := q2
      dsimp only at s1 s2 s3 s4 s5 r1 r2 r3 r4 r5
      have S5 := run_str wr qv qy s5
      have R5 := run_str wr qw qy r5
      have S5d := run_str wr.drew qv qy s5.drew
      have R5d := run_str wr.drew qw qy r5.drew
      obtain ⟨sy, hsy⟩ : ∃ sy, sy = strOfNums qy := ⟨_, rfl⟩
      rw [← hsy] at S5 R5 S5d R5d
      obtain ⟨vo, vn, vc, rfl, -, -, -⟩ := s5.shape
      obtain ⟨uo, un, uc, rfl, -, -, -⟩ := r5.shape
      have HS : Hid (∀ u, Chg Non wr u → (u.cell? ⟨g1, k * 4, none⟩ = some (.int .u8 qt) ∧ u.cell? ⟨g1, k * 4 + 1, none⟩ = some (.slice vo vn vc) ∧ u.cell? ⟨g1, k * 4 + 2, none⟩ = some (.int .i64 qk) ∧ u.cell? ⟨g1, k * 4 + 3, none⟩ = some (.int .i64 ql)) ∧
          (u.cell? ⟨g2, k * 4, none⟩ = some (.int .u8 qt) ∧ u.cell? ⟨g2, k * 4 + 1, none⟩ = some (.slice uo un uc) ∧ u.cell? ⟨g2, k * 4 + 2, none⟩ = some (.int .i64 qk) ∧ u.cell? ⟨g2, k * 4 + 3, none⟩ = some (.int .i64 ql)) ∧
          (convert 22 9 (.slice vo vn vc)).run Tryd.prog u = .ok (.string sy) u ∧ (convert 22 9 (.slice uo un uc)).run Tryd.prog u = .ok (.string sy) u) := fun u hu => by
        have c : ∀ {b i q}, wr.cell? ⟨b, i, none⟩ = some q → u.cell? ⟨b, i, none⟩ = some q := fun {b i q} hi => by rw [← hi]; exact World.cell?_of_block (hu.block b (World.block_lt_of_cell? wr _ hi) (fun x => x))
        refine ⟨⟨c s1, c s2, c s3, c s4⟩, ⟨c r1, c r2, c r3, c r4⟩, ?_, ?_⟩
        · rw [hsy]; exact run_str u _ qy (s5.chg hu)
        · rw [hsy]; exact run_str u _ qy (r5.chg hu)
      clear hsy s5 r5 f1 f2 y1 y2 x1 x2 z1 z2 hqq hq1 hq2 S5d R5d
      go_wp2_with fail
      refine wp_region_noPanic ?_
      go_region_held3 (fun u => (u.cell? ⟨g1, k * 4, none⟩ = some (.int .u8 qt) ∧ u.cell? ⟨g1, k * 4 + 1, none⟩ = some (.slice vo vn vc) ∧ u.cell? ⟨g1, k * 4 + 2, none⟩ = some (.int .i64 qk) ∧ u.cell? ⟨g1, k * 4 + 3, none⟩ = some (.int .i64 ql)) ∧
          (u.cell? ⟨g2, k * 4, none⟩ = some (.int .u8 qt) ∧ u.cell? ⟨g2, k * 4 + 1, none⟩ = some (.slice uo un uc) ∧ u.cell? ⟨g2, k * 4 + 2, none⟩ = some (.int .i64 qk) ∧ u.cell? ⟨g2, k * 4 + 3, none⟩ = some (.int .i64 ql)) ∧
          (convert 22 9 (.slice vo vn vc)).run Tryd.prog u = .ok (.string sy) u ∧ (convert 22 9 (.slice uo un uc)).run Tryd.prog u = .ok (.string sy) u)
        (exact HS.out _ (Chg.refl _ _).drew) (fail)
      refine NoPanic.normal ?_
      go_wp2
      go_roundw
      case rel => exact ⟨k + 1, by go_num, by omega, hC.out.drew⟩
      case measure => simp [intOf]; omega
    · go_wp2
      go_ret
      exact ⟨rfl, hC.out⟩
end Go.Proofs.YtnidfbcninkglaaDoor
