/-
  The document's store: Remove.
-/
import Derived.Test.YtpabijfamnghjaaRef4
namespace Go.Proofs.Ytpabijfamnghjaa
open Go.RowKit
set_option linter.unusedVariables false

structure RRemove (w w' : World) (q : Nat) (sv : Value) (nm : List UInt8) (R : List Ent) : Prop where
  st : ∃ sv', RSt w' q sv' (delL nm R) ∧ ∀ k, sv'.ownBlock = some k → sv.ownBlock = some k ∨ w.heap.size ≤ k
  chg : Chg (QS q sv) w w'

theorem row_cell' {w : World} {q g c rn : Nat} {R : List Ent} (h : RSt w q (.slice (some ⟨g, 0, none⟩) rn c) R) {j : Nat} {u : Value} (hj : (rowE R)[j]? = some u) : w.cell? ⟨g, j, none⟩ = some u := by
  have := row_cell h hj
  rwa [Nat.zero_add] at this

theorem remove_end {w w1 w4 : World} {q : Nat} {sv v : Value} {nm : List UInt8} {R : List Ent} (hc1 : Chg Non w w1) (h4 : RSt w4 q sv R) (hc4 : Chg Non w1 w4) (ho : w4.ownsRow w1.heap.size 37 5 v (delL nm R).length (rowE (delL nm R))) (hne : v.ownBlock ≠ some q) :
    RRemove w (w4.setCell ⟨q, 0, none⟩ v) q sv nm R := by
  refine ⟨⟨v, h4.stored ⟨ho.1, ?_⟩ hne (fun e he => h4.ent e (mem_del.1 he).1) (Nat.le_trans (len_del_le nm R) h4.len) (rising_del h4.ris), fun k e => .inr (Nat.le_trans hc1.size (ho.lt k e).1)⟩, ?_⟩
  · rcases ho.2 with h1 | ⟨g, cap, cur, e, hb, h1⟩
    · exact .inl h1
    · exact .inr ⟨g, cap, cur, e, Nat.zero_le _, h1⟩
  · exact Chg.setCell (S := QS q sv) ((hc1.trans hc4 (fun _ _ x => x)).non _) (p := ⟨q, 0, none⟩) (fun _ => .inl rfl) _

set_option maxRecDepth 100000 in
set_option maxHeartbeats 4000000 in
theorem rremove_any (q : Nat) (sv : Value) (R : List Ent) (s : ByteArray) (w : World) (h : RSt w q sv R) :
    Calls Try.prog 22 #[.pointer (some ⟨q, 0, none⟩), .string s] w fun r w' => r = .returned (.int .i64 (removeC s.data.toList R)) ∧ RRemove w w' q sv s.data.toList R := by
  have H : Hid (RSt w q sv R) := h
  clear h
  cases hf : findL s.data.toList R with
  | none =>
    go_enter Try.func22, Try.ntmps22
    go_wp2_with fail
    refine (at_any q _ R s _ H.out).mono ?_
    rintro e w1 ⟨i, n, rfl, rfl, hat⟩
    rw [hf]
    have HF : Hid (findL s.data.toList R = none) := hf
    clear hat hf
    go_wp2
    go_ret
    have e1 : removeC s.data.toList R = 22 := by unfold removeC; rw [HF.out]
    have e2 : delL s.data.toList R = R := by
      unfold delL
      rw [List.filter_eq_self]
      intro x hx
      have := List.find?_eq_none.1 HF.out x hx
      simpa using this
    exact ⟨ret_int e1.symm, ⟨sv, by rw [e2]; exact H.out.drewN n, fun k e => .inl e⟩, (drewN_chg w n).non _⟩
  | some f =>
    go_enter Try.func22, Try.ntmps22
    go_wp2_with fail
    refine (at_any q _ R s _ H.out).mono ?_
    rintro e w1 ⟨i, n, rfl, rfl, hat⟩
    rw [hf]
    obtain ⟨h1, hdel, -⟩ := hat.some H.out.ris hf
    have hrc : removeC s.data.toList R = 0 := by unfold removeC; rw [hf]
    have hl64 := H.out.len
    obtain ⟨w1, hw1⟩ : ∃ w1, w1 = w.drewN n := ⟨_, rfl⟩
    have hst1 : RSt w1 q sv R := by rw [hw1]; exact H.out.drewN n
    have hc1 : Chg Non w w1 := by rw [hw1]; exact drewN_chg w n
    rw [← hw1]
    obtain ⟨g, c, ao, an, ac, fo, fn, fc, rfl, -, -, -, -, -, -, -, -, -, hlt, hle⟩ := hst1.five h1
    have hcm : c ≤ 9223372036854775807 := by
      obtain ⟨_, _, e9, _, h9, _⟩ := hst1.shape
      cases e9
      exact h9
    have c1 := hst1.cell
    have HW : Hid (RSt w1 q (.slice (some ⟨g, 0, none⟩) R.length c) R ∧ Chg Non w w1) := ⟨hst1, hc1⟩
    have HA : Hid (delL s.data.toList R = R.take i ++ R.drop (i + 1) ∧ removeC s.data.toList R = 0) := ⟨hdel, hrc⟩
    obtain ⟨rn, hrn⟩ : ∃ rn, rn = R.length := ⟨_, rfl⟩
    rw [← hrn] at c1 hlt hle hl64
    have HN : Hid (rn = R.length) := hrn
    clear hrn hst1 hc1 h1 hdel hrc hat hf hw1 H
    have hic : i ≤ c := by omega
    have hic1 : (i : Int) + 1 ≤ c := by omega
    by_cases hicc : i + 1 < c
    · skip
      have c2 : (w1.alloc (.cells #[] 37)).cell? ⟨q, 0, none⟩ = some (.slice (some ⟨g, 0, none⟩) rn c) := by rw [World.cell?_of_block (Below.heap_alloc _ _ _ HW.out.1.lt)]; exact c1
      clear c1
      go_wp2_with (at_builtin; refine wpList_appF _ rfl _ _ rfl w1.heap.size _ 0 [] rfl ?ho _ i (rowE (R.take i)) rfl ?hsrc ?h1 ?hb ?hbase ?hK)
      case ho => exact World.ownsRow_made w1 #[] 0 (Nat.le_refl _) (by decide) rfl
      case hsrc => exact .inr ⟨_, _, rfl, by rw [rowE_len, List.length_take]; have := HN.out; omega, fun j u hj => by rw [Addr.add_lit]; exact row_cell (HW.out.1.non ((Chg.refl _ _).alloc _)) (by rw [← rowE_take] at hj; rw [List.getElem?_take] at hj; split at hj; exact (by simpa using hj); cases hj)⟩
      case h1 => exact rowE_one (fun e he => HW.out.1.ent e (List.mem_of_mem_take he))
      case hb => omega
      case hbase => simp
      case hK =>
      intro l1 w2 ho2 hg2 hk2
      have hc2 : Chg Non w1 w2 := ((Chg.refl Non w1).alloc (.cells #[] 37)).trans (Chg.of_grown hg2) (fun k hk e => by simp [Value.ownBlock] at e; omega)
      have ho2' : w2.ownsRow w1.heap.size 37 5 l1 i (rowE (R.take i)) := by simpa using ho2
      have H2 : Hid (Chg Non w1 w2 ∧ w2.ownsRow w1.heap.size 37 5 l1 i (rowE (R.take i))) := ⟨hc2, ho2'⟩
      have c3 : w2.cell? ⟨q, 0, none⟩ = some (.slice (some ⟨g, 0, none⟩) rn c) := by have := (HW.out.1.non hc2).cell; rwa [← HN.out] at this
      clear c2 ho2 hg2 hk2 hc2 ho2'
      go_wp2_with (at_builtin; refine wpList_appF _ rfl _ _ rfl w1.heap.size l1 i (rowE (R.take i)) rfl ?ho _ (rn - (i + 1)) (rowE (R.drop (i + 1))) rfl ?hsrc ?h1 ?hb ?hbase ?hK)
      case ho => exact H2.out.2
      case hsrc => exact .inr ⟨_, _, rfl, by rw [rowE_len, List.length_drop, HN.out], fun j u hj => by rw [Addr.add_lit]; exact row_cell' (HW.out.1.non H2.out.1) (by rw [← rowE_drop, List.getElem?_drop] at hj; exact hj)⟩
      case h1 => exact rowE_one (fun e he => HW.out.1.ent e (List.mem_of_mem_drop he))
      case hb => omega
      case hbase => exact H2.out.1.size
      case hK =>
      intro l3 w4 ho4 hg4 hk4
      have hc4 : Chg Non w1 w4 := H2.out.1.trans (Chg.of_grown hg4) (fun k hk e => by have := (H2.out.2.lt k e).1; omega)
      have hrow : rowE (R.take i) ++ rowE (R.drop (i + 1)) = rowE (delL s.data.toList R) := by
        rw [← rowE_app, HA.out.1]
      have hlen4 : i + (rn - (i + 1)) = (delL s.data.toList R).length := by rw [HA.out.1]; simp; have := HN.out; omega
      have ho5 : w4.ownsRow w1.heap.size 37 5 l3 (delL s.data.toList R).length (rowE (delL s.data.toList R)) := by rw [← hrow, ← hlen4]; simpa using ho4
      clear ho4
      have hst4 := HW.out.1.non hc4
      have hoff : l3.ownBlock ≠ some q := fun e => by have := (ho5.lt q e).1; have := HW.out.1.lt; omega
      have c4 := hst4.cell
      have f4 : w4.frozen? ⟨q, 0, none⟩ = false := by simp [World.frozen?, hst4.blk]
      have hsh : ∃ lo ln lc, l3 = .slice lo ln lc := by
        rcases ho5.2 with ⟨e, _⟩ | ⟨g5, c5, cur5, e, _⟩
        · exact ⟨_, _, _, e⟩
        · exact ⟨_, _, _, e⟩
      obtain ⟨lo, ln, lc, rfl⟩ := hsh
      have H4 : Hid (RSt w4 q (.slice (some ⟨g, 0, none⟩) R.length c) R ∧ Chg Non w1 w4 ∧ w4.ownsRow w1.heap.size 37 5 (.slice lo ln lc) (delL s.data.toList R).length (rowE (delL s.data.toList R)) ∧ (Value.slice lo ln lc).ownBlock ≠ some q) := ⟨hst4, hc4, ho5, hoff⟩
      clear hst4 hc4 ho5 hoff hrow hlen4 hg4 hk4 H2 c3
      rw [← HN.out] at c4
      go_wp2
      go_ret
      exact ⟨ret_int HA.out.2.symm, remove_end HW.out.2 H4.out.1 H4.out.2.1 H4.out.2.2.1 H4.out.2.2.2⟩
    · have hci : c = i + 1 := by omega
      have hri : rn = i + 1 := by omega
      subst hci
      subst hri
      have c2 : (w1.alloc (.cells #[] 37)).cell? ⟨q, 0, none⟩ = some (.slice (some ⟨g, 0, none⟩) (i + 1) (i + 1)) := by rw [World.cell?_of_block (Below.heap_alloc _ _ _ HW.out.1.lt)]; exact c1
      clear c1
      go_wp2_with (at_builtin; refine wpList_appF _ rfl _ _ rfl w1.heap.size _ 0 [] rfl ?ho _ i (rowE (R.take i)) rfl ?hsrc ?h1 ?hb ?hbase ?hK)
      case ho => exact World.ownsRow_made w1 #[] 0 (Nat.le_refl _) (by decide) rfl
      case hsrc => exact .inr ⟨_, _, rfl, by rw [rowE_len, List.length_take]; have := HN.out; omega, fun j u hj => by rw [Addr.add_lit]; exact row_cell (HW.out.1.non ((Chg.refl _ _).alloc _)) (by rw [← rowE_take] at hj; rw [List.getElem?_take] at hj; split at hj; exact (by simpa using hj); cases hj)⟩
      case h1 => exact rowE_one (fun e he => HW.out.1.ent e (List.mem_of_mem_take he))
      case hb => omega
      case hbase => simp
      case hK =>
      intro l1 w2 ho2 hg2 hk2
      have hc2 : Chg Non w1 w2 := ((Chg.refl Non w1).alloc (.cells #[] 37)).trans (Chg.of_grown hg2) (fun k hk e => by simp [Value.ownBlock] at e; omega)
      have ho2' : w2.ownsRow w1.heap.size 37 5 l1 i (rowE (R.take i)) := by simpa using ho2
      have H2 : Hid (Chg Non w1 w2 ∧ w2.ownsRow w1.heap.size 37 5 l1 i (rowE (R.take i))) := ⟨hc2, ho2'⟩
      have c3 : w2.cell? ⟨q, 0, none⟩ = some (.slice (some ⟨g, 0, none⟩) (i + 1) (i + 1)) := by have := (HW.out.1.non hc2).cell; rwa [← HN.out] at this
      clear c2 ho2 hg2 hk2 hc2 ho2'
      go_wp2_with (at_builtin; refine wpList_appF _ rfl _ _ rfl w1.heap.size l1 i (rowE (R.take i)) rfl ?ho _ 0 (rowE (R.drop (i + 1))) rfl ?hsrc ?h1 ?hb ?hbase ?hK)
      case ho => exact H2.out.2
      case hsrc => exact .inr ⟨_, _, rfl, by rw [rowE_len, List.length_drop]; have := HN.out; omega, fun j u hj => by exfalso; rw [List.drop_eq_nil_of_le (by have := HN.out; omega)] at hj; simp [rowE] at hj⟩
      case h1 => exact rowE_one (fun e he => HW.out.1.ent e (List.mem_of_mem_drop he))
      case hb => omega
      case hbase => exact H2.out.1.size
      case hK =>
      intro l3 w4 ho4 hg4 hk4
      have hc4 : Chg Non w1 w4 := H2.out.1.trans (Chg.of_grown hg4) (fun k hk e => by have := (H2.out.2.lt k e).1; omega)
      have hrow : rowE (R.take i) ++ rowE (R.drop (i + 1)) = rowE (delL s.data.toList R) := by
        rw [← rowE_app, HA.out.1]
      have hlen4 : i + 0 = (delL s.data.toList R).length := by rw [HA.out.1]; simp; have := HN.out; omega
      have ho5 : w4.ownsRow w1.heap.size 37 5 l3 (delL s.data.toList R).length (rowE (delL s.data.toList R)) := by rw [← hrow, ← hlen4]; simpa using ho4
      clear ho4
      have hst4 := HW.out.1.non hc4
      have hoff : l3.ownBlock ≠ some q := fun e => by have := (ho5.lt q e).1; have := HW.out.1.lt; omega
      have c4 := hst4.cell
      have f4 : w4.frozen? ⟨q, 0, none⟩ = false := by simp [World.frozen?, hst4.blk]
      have hsh : ∃ lo ln lc, l3 = .slice lo ln lc := by
        rcases ho5.2 with ⟨e, _⟩ | ⟨g5, c5, cur5, e, _⟩
        · exact ⟨_, _, _, e⟩
        · exact ⟨_, _, _, e⟩
      obtain ⟨lo, ln, lc, rfl⟩ := hsh
      have H4 : Hid (RSt w4 q (.slice (some ⟨g, 0, none⟩) R.length (i + 1)) R ∧ Chg Non w1 w4 ∧ w4.ownsRow w1.heap.size 37 5 (.slice lo ln lc) (delL s.data.toList R).length (rowE (delL s.data.toList R)) ∧ (Value.slice lo ln lc).ownBlock ≠ some q) := ⟨hst4, hc4, ho5, hoff⟩
      clear hst4 hc4 ho5 hoff hrow hlen4 hg4 hk4 H2 c3
      rw [← HN.out] at c4
      go_wp2
      go_ret
      exact ⟨ret_int HA.out.2.symm, remove_end HW.out.2 H4.out.1 H4.out.2.1 H4.out.2.2.1 H4.out.2.2.2⟩
end Go.Proofs.Ytpabijfamnghjaa
