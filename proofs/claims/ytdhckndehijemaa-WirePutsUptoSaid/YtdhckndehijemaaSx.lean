/-
  The document's comparisons: two lists that hold the same are told to be the same.
-/
import Derived.Test.YtdhckndehijemaaMs
import Derived.Test.YtdhckndehijemaaMj20
namespace Go.Proofs.Ytdhckndehijemaa
open Go.RowKit
set_option linter.unusedVariables false
set_option maxRecDepth 100000

theorem cell_kept {w w' : World} {a : Addr} {u : Value} (h : w.cell? a = some u) (c : Chg Non w w') : w'.cell? a = some u := by
  rw [← h]
  exact World.cell?_of_block (c.block _ (World.block_lt_of_cell? w _ h) (fun s => s))

/-- Where a list's parts lie, be there any or not. -/
structure Lies (e : Ty) (F : Nat → Prop) (w : World) (ao : Option Addr) (N : Nat) (l : List e.Dat) : Prop where
  len : N = l.length
  max : N ≤ 9223372036854775807
  els : ∀ (j : Nat) (a : e.Dat), l[j]? = some a → ∃ b o us', ao = some ⟨b, o, none⟩ ∧ Rel e F w us' a ∧ ∀ i u, us'[i]? = some u → w.cell? ⟨b, o + j * e.sz + i, none⟩ = some u

theorem Rel.lies {e : Ty} {F : Nat → Prop} {w : World} {v : Value} {l : List e.Dat} (h : Rel (.lst e) F w [v] l) (hs : 0 < e.sz) : ∃ ao N c, v = .slice ao N c ∧ Lies e F w ao N l := by
  cases l with
  | nil =>
    obtain ⟨ao, c, rfl⟩ := h.lstNil
    exact ⟨ao, 0, c, rfl, rfl, by decide, fun j a ha => by cases ha⟩
  | cons x l =>
    obtain ⟨b, o, c, rfl, h1, h2, -, h3⟩ := h.at (N := (x :: l).length) rfl (by simp) hs
    refine ⟨_, _, c, rfl, rfl, Nat.le_trans h1 h2, fun j a ha => ?_⟩
    obtain ⟨us', q1, q2⟩ := h3 j a ha
    exact ⟨b, o, us', rfl, q1, q2⟩

set_option maxHeartbeats 3200000 in
theorem sameTexts_any (F G : Nat → Prop) (va vb : Value) (l : List (List Int)) (w : World) (h : Rel (.lst .str) F w [va] l) (g : Rel (.lst .str) G w [vb] l) : Calls Try.prog 58 #[va, vb] w fun e w' => e = .returned (.bool true) ∧ Chg Non w w' := by
  obtain ⟨ao, N, c, rfl, h1⟩ := h.lies (by decide)
  obtain ⟨bo, N', d, rfl, g1⟩ := g.lies (by decide)
  obtain rfl : N = N' := h1.len.trans g1.len.symm
  have HN : Hid (N = l.length ∧ N ≤ 9223372036854775807) := ⟨h1.len, h1.max⟩
  have H1 := h1.els
  have G1 := g1.els
  have HA : Hid (∀ (j : Nat) (a : List Int), l[j]? = some a → ∃ b o us', ao = some ⟨b, o, none⟩ ∧ Rel .str F w us' a ∧ ∀ i u, us'[i]? = some u → w.cell? ⟨b, o + j * 1 + i, none⟩ = some u) := H1
  have HB : Hid (∀ (j : Nat) (a : List Int), l[j]? = some a → ∃ b o us', bo = some ⟨b, o, none⟩ ∧ Rel .str G w us' a ∧ ∀ i u, us'[i]? = some u → w.cell? ⟨b, o + j * 1 + i, none⟩ = some u) := G1
  clear h g h1 g1 H1 G1
  go_enter Try.func58, Try.ntmps58
  go_wp2
  go_loopw [5] (fun i wr => ∃ k : Nat, k ≤ N ∧ i = .int .i64 k ∧ Hid (Chg Non w wr)) (fun i _ => N - (intOf i).toNat)
  case atStart => exact ⟨0, Nat.zero_le _, rfl, Chg.refl _ _⟩
  case round =>
    obtain ⟨k, hk, rfl, hc⟩ := hrel
    by_cases hlt : k < N
    · obtain ⟨x, hx⟩ : ∃ x, l[k]? = some x := ⟨l[k]'(by rw [← HN.out.1]; exact hlt), List.getElem?_eq_getElem _⟩
      obtain ⟨b1, o1, us1, rfl, r1, r2⟩ := HA.out k x hx
      obtain ⟨b2, o2, us2, rfl, s1, s2⟩ := HB.out k x hx
      obtain ⟨rfl, -⟩ := r1
      obtain ⟨rfl, -⟩ := s1
      obtain ⟨S, hS⟩ : ∃ S, S = strOfNums x := ⟨_, rfl⟩
      rw [← hS] at r2 s2
      have y1 : wr.cell? ⟨b1, o1 + k, none⟩ = some (.string S) := by simpa using cell_kept (r2 0 _ rfl) hc.out
      have y2 : wr.cell? ⟨b2, o2 + k, none⟩ = some (.string S) := by simpa using cell_kept (s2 0 _ rfl) hc.out
      have HL : Hid (k + 1 ≤ N) := hlt
      have hk1 : k + 1 ≤ 9223372036854775807 := by have := HN.out.2; omega
      clear hS r2 s2 hx
      go_wp2_with fail
      go_quiet (fail)
      go_wp2
      go_roundw
      case rel => exact ⟨k + 1, HL.out, by go_num, hc.out.drewN _⟩
      case measure => simp [intOf]; omega
    · go_wp2
      go_ret
      exact ⟨rfl, hc.out⟩

set_option maxHeartbeats 3200000 in
theorem sameExts_any (F G : Nat → Prop) (va vb : Value) (l : List Ext) (w : World) (h : Rel (.lst tExt) F w [va] l) (g : Rel (.lst tExt) G w [vb] l) : Calls Try.prog 28 #[va, vb] w fun e w' => e = .returned (.bool true) ∧ Chg Non w w' := by
  obtain ⟨ao, N, c, rfl, h1⟩ := h.lies (by decide)
  obtain ⟨bo, N', d, rfl, g1⟩ := g.lies (by decide)
  obtain rfl : N = N' := h1.len.trans g1.len.symm
  have HN : Hid (N = l.length ∧ N ≤ 9223372036854775807) := ⟨h1.len, h1.max⟩
  have HA : Hid (∀ (j : Nat) (a : Ext), l[j]? = some a → ∃ b o us', ao = some ⟨b, o, none⟩ ∧ Rel tExt F w us' a ∧ ∀ i u, us'[i]? = some u → w.cell? ⟨b, o + j * 2 + i, none⟩ = some u) := h1.els
  have HB : Hid (∀ (j : Nat) (a : Ext), l[j]? = some a → ∃ b o us', bo = some ⟨b, o, none⟩ ∧ Rel tExt G w us' a ∧ ∀ i u, us'[i]? = some u → w.cell? ⟨b, o + j * 2 + i, none⟩ = some u) := g1.els
  clear h g h1 g1
  go_enter Try.func28, Try.ntmps28
  go_wp2
  go_loopw [5] (fun i wr => ∃ k : Nat, k ≤ N ∧ i = .int .i64 k ∧ Hid (Chg Non w wr)) (fun i _ => N - (intOf i).toNat)
  case atStart => exact ⟨0, Nat.zero_le _, rfl, Chg.refl _ _⟩
  case round =>
    obtain ⟨k, hk, rfl, hc⟩ := hrel
    by_cases hlt : k < N
    · obtain ⟨x, hx⟩ : ∃ x, l[k]? = some x := ⟨l[k]'(by rw [← HN.out.1]; exact hlt), List.getElem?_eq_getElem _⟩
      obtain ⟨b1, o1, us1, rfl, r1, r2⟩ := HA.out k x hx
      obtain ⟨b2, o2, us2, rfl, s1, s2⟩ := HB.out k x hx
      obtain ⟨p1, p2, p3, rfl, -, d1⟩ := r1.ext
      obtain ⟨q1, q2, q3, rfl, -, d2⟩ := s1.ext
      obtain ⟨t, ht⟩ : ∃ t, t = x.1 := ⟨_, rfl⟩
      rw [← ht] at r2 s2
      have y1 : wr.cell? ⟨b1, o1 + k * 2, none⟩ = some (.int .u16 t) := by simpa using cell_kept (r2 0 _ rfl) hc.out
      have y2 : wr.cell? ⟨b2, o2 + k * 2, none⟩ = some (.int .u16 t) := by simpa using cell_kept (s2 0 _ rfl) hc.out
      have y3 : wr.cell? ⟨b1, o1 + k * 2 + 1, none⟩ = some (.slice p1 p2 p3) := cell_kept (r2 1 _ rfl) hc.out
      have y4 : wr.cell? ⟨b2, o2 + k * 2 + 1, none⟩ = some (.slice q1 q2 q3) := cell_kept (s2 1 _ rfl) hc.out
      have v1 : ∀ u, Chg Non wr u → (convert 23 9 (.slice p1 p2 p3)).run Try.prog u = .ok (.string (strOfNums x.2)) u := fun u hu => by
        obtain ⟨v', e, m, -⟩ := (d1.oldN hc.out).oldN hu
        injection e with e
        subst e
        exact run_str u _ _ m
      have v2 : ∀ u, Chg Non wr u → (convert 23 9 (.slice q1 q2 q3)).run Try.prog u = .ok (.string (strOfNums x.2)) u := fun u hu => by
        obtain ⟨v', e, m, -⟩ := (d2.oldN hc.out).oldN hu
        injection e with e
        subst e
        exact run_str u _ _ m
      obtain ⟨S, hS⟩ : ∃ S, S = strOfNums x.2 := ⟨_, rfl⟩
      rw [← hS] at v1 v2
      have HSS : Hid (∀ u, Chg Non wr u → (convert 23 9 (.slice p1 p2 p3)).run Try.prog u = .ok (.string S) u ∧ (convert 23 9 (.slice q1 q2 q3)).run Try.prog u = .ok (.string S) u ∧ u.cell? ⟨b1, o1 + k * 2, none⟩ = some (.int .u16 t) ∧ u.cell? ⟨b2, o2 + k * 2, none⟩ = some (.int .u16 t) ∧ u.cell? ⟨b1, o1 + k * 2 + 1, none⟩ = some (.slice p1 p2 p3) ∧ u.cell? ⟨b2, o2 + k * 2 + 1, none⟩ = some (.slice q1 q2 q3)) := fun u hu => ⟨v1 u hu, v2 u hu, cell_kept y1 hu, cell_kept y2 hu, cell_kept y3 hu, cell_kept y4 hu⟩
      have HL : Hid (k + 1 ≤ N) := hlt
      have hk1 : k + 1 ≤ 9223372036854775807 := by have := HN.out.2; omega
      clear hS ht r1 r2 s1 s2 hx d1 d2 v1 v2
      go_wp2_with fail
      go_region_held3 (fun u => (convert 23 9 (.slice p1 p2 p3)).run Try.prog u = .ok (.string S) u ∧ (convert 23 9 (.slice q1 q2 q3)).run Try.prog u = .ok (.string S) u ∧ u.cell? ⟨b1, o1 + k * 2, none⟩ = some (.int .u16 t) ∧ u.cell? ⟨b2, o2 + k * 2, none⟩ = some (.int .u16 t) ∧ u.cell? ⟨b1, o1 + k * 2 + 1, none⟩ = some (.slice p1 p2 p3) ∧ u.cell? ⟨b2, o2 + k * 2 + 1, none⟩ = some (.slice q1 q2 q3)) (exact HSS.out _ (Chg.refl _ _).drew) (fail)
      go_wp2
      go_roundw
      case rel => exact ⟨k + 1, HL.out, by go_num, hc.out.drewN _⟩
      case measure => simp [intOf]; omega
    · go_wp2
      go_ret
      exact ⟨rfl, hc.out⟩

set_option maxHeartbeats 3200000 in
theorem sameShares_any (F G : Nat → Prop) (va vb : Value) (l : List Ext) (w : World) (h : Rel (.lst tExt) F w [va] l) (g : Rel (.lst tExt) G w [vb] l) : Calls Try.prog 63 #[va, vb] w fun e w' => e = .returned (.bool true) ∧ Chg Non w w' := by
  obtain ⟨ao, N, c, rfl, h1⟩ := h.lies (by decide)
  obtain ⟨bo, N', d, rfl, g1⟩ := g.lies (by decide)
  obtain rfl : N = N' := h1.len.trans g1.len.symm
  have HN : Hid (N = l.length ∧ N ≤ 9223372036854775807) := ⟨h1.len, h1.max⟩
  have HA : Hid (∀ (j : Nat) (a : Ext), l[j]? = some a → ∃ b o us', ao = some ⟨b, o, none⟩ ∧ Rel tExt F w us' a ∧ ∀ i u, us'[i]? = some u → w.cell? ⟨b, o + j * 2 + i, none⟩ = some u) := h1.els
  have HB : Hid (∀ (j : Nat) (a : Ext), l[j]? = some a → ∃ b o us', bo = some ⟨b, o, none⟩ ∧ Rel tExt G w us' a ∧ ∀ i u, us'[i]? = some u → w.cell? ⟨b, o + j * 2 + i, none⟩ = some u) := g1.els
  clear h g h1 g1
  go_enter Try.func63, Try.ntmps63
  go_wp2
  go_loopw [5] (fun i wr => ∃ k : Nat, k ≤ N ∧ i = .int .i64 k ∧ Hid (Chg Non w wr)) (fun i _ => N - (intOf i).toNat)
  case atStart => exact ⟨0, Nat.zero_le _, rfl, Chg.refl _ _⟩
  case round =>
    obtain ⟨k, hk, rfl, hc⟩ := hrel
    by_cases hlt : k < N
    · obtain ⟨x, hx⟩ : ∃ x, l[k]? = some x := ⟨l[k]'(by rw [← HN.out.1]; exact hlt), List.getElem?_eq_getElem _⟩
      obtain ⟨b1, o1, us1, rfl, r1, r2⟩ := HA.out k x hx
      obtain ⟨b2, o2, us2, rfl, s1, s2⟩ := HB.out k x hx
      obtain ⟨p1, p2, p3, rfl, -, d1⟩ := r1.ext
      obtain ⟨q1, q2, q3, rfl, -, d2⟩ := s1.ext
      obtain ⟨t, ht⟩ : ∃ t, t = x.1 := ⟨_, rfl⟩
      rw [← ht] at r2 s2
      have y1 : wr.cell? ⟨b1, o1 + k * 2, none⟩ = some (.int .u16 t) := by simpa using cell_kept (r2 0 _ rfl) hc.out
      have y2 : wr.cell? ⟨b2, o2 + k * 2, none⟩ = some (.int .u16 t) := by simpa using cell_kept (s2 0 _ rfl) hc.out
      have y3 : wr.cell? ⟨b1, o1 + k * 2 + 1, none⟩ = some (.slice p1 p2 p3) := cell_kept (r2 1 _ rfl) hc.out
      have y4 : wr.cell? ⟨b2, o2 + k * 2 + 1, none⟩ = some (.slice q1 q2 q3) := cell_kept (s2 1 _ rfl) hc.out
      have v1 : ∀ u, Chg Non wr u → (convert 23 9 (.slice p1 p2 p3)).run Try.prog u = .ok (.string (strOfNums x.2)) u := fun u hu => by
        obtain ⟨v', e, m, -⟩ := (d1.oldN hc.out).oldN hu
        injection e with e
        subst e
        exact run_str u _ _ m
      have v2 : ∀ u, Chg Non wr u → (convert 23 9 (.slice q1 q2 q3)).run Try.prog u = .ok (.string (strOfNums x.2)) u := fun u hu => by
        obtain ⟨v', e, m, -⟩ := (d2.oldN hc.out).oldN hu
        injection e with e
        subst e
        exact run_str u _ _ m
      obtain ⟨S, hS⟩ : ∃ S, S = strOfNums x.2 := ⟨_, rfl⟩
      rw [← hS] at v1 v2
      have HSS : Hid (∀ u, Chg Non wr u → (convert 23 9 (.slice p1 p2 p3)).run Try.prog u = .ok (.string S) u ∧ (convert 23 9 (.slice q1 q2 q3)).run Try.prog u = .ok (.string S) u ∧ u.cell? ⟨b1, o1 + k * 2, none⟩ = some (.int .u16 t) ∧ u.cell? ⟨b2, o2 + k * 2, none⟩ = some (.int .u16 t) ∧ u.cell? ⟨b1, o1 + k * 2 + 1, none⟩ = some (.slice p1 p2 p3) ∧ u.cell? ⟨b2, o2 + k * 2 + 1, none⟩ = some (.slice q1 q2 q3)) := fun u hu => ⟨v1 u hu, v2 u hu, cell_kept y1 hu, cell_kept y2 hu, cell_kept y3 hu, cell_kept y4 hu⟩
      have HL : Hid (k + 1 ≤ N) := hlt
      have hk1 : k + 1 ≤ 9223372036854775807 := by have := HN.out.2; omega
      clear hS ht r1 r2 s1 s2 hx d1 d2 v1 v2
      go_wp2_with fail
      go_region_held3 (fun u => (convert 23 9 (.slice p1 p2 p3)).run Try.prog u = .ok (.string S) u ∧ (convert 23 9 (.slice q1 q2 q3)).run Try.prog u = .ok (.string S) u ∧ u.cell? ⟨b1, o1 + k * 2, none⟩ = some (.int .u16 t) ∧ u.cell? ⟨b2, o2 + k * 2, none⟩ = some (.int .u16 t) ∧ u.cell? ⟨b1, o1 + k * 2 + 1, none⟩ = some (.slice p1 p2 p3) ∧ u.cell? ⟨b2, o2 + k * 2 + 1, none⟩ = some (.slice q1 q2 q3)) (exact HSS.out _ (Chg.refl _ _).drew) (fail)
      go_wp2
      go_roundw
      case rel => exact ⟨k + 1, HL.out, by go_num, hc.out.drewN _⟩
      case measure => simp [intOf]; omega
    · go_wp2
      go_ret
      exact ⟨rfl, hc.out⟩
end Go.Proofs.Ytdhckndehijemaa
