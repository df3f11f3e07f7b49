/-
  A log's Lines: a new list of those that are kept, in order.
-/
import Derived.Test.YtlhcadfcgibkdaaDoorLog
import Derived.Deep.CutBlock
import Derived.Deep.RegionWith
import Derived.BigCall
import Derived.Deep.RegionLaw
namespace Go.Proofs.YtlhcadfcgibkdaaDoor
open Go.RowKit
set_option linter.unusedVariables false
set_option maxRecDepth 100000

theorem step_appS {ops : Array Oper} {o : Oper} {a : Act} {w : World} {K : Act → World → Prop} {Q : Exit → Act → World → Prop} {E : Prop}
    (hg : o.guard = none) (s x : Operand) (hop : o.op = Op.call { callee := Callee.builtin Builtin.append, args := #[s, x], argTypes := #[43, 43] })
    (v sv : Value) (xs ys : List ByteArray) (hs : a.eval s = v) (hx : a.eval x = sv) (hv : OwnVS w v xs) (hr : RdS w sv ys) (hb : (xs.length + ys.length) * 16 ≤ 140737488355328)
    (hK : ∀ v' w', OwnVS w' v' (xs ++ ys) → Chg (fun k => v.ownBlock = some k) w w' → (v'.ownBlock = v.ownBlock ∨ v'.ownBlock = some w.heap.size) → K (a.put o.dst v') w') :
    if Region.wanted o (yielded ops a.tmps) = true then Oper.wp Tryd.prog o a w K Q else E := by
  have hw : Region.wanted o (yielded ops a.tmps) = true := by simp [Region.wanted, hg]
  rw [if_pos hw]
  obtain ⟨v', w', hrun, r1, r2, r3⟩ := run_appS o.type w v sv xs ys hv hr hb
  unfold Oper.wp
  simp [execOp, hop, resolve, invoke, builtin, hs, hx, hrun, Result.andThen]
  exact hK v' w' r1 r2 r3

theorem OwnS.of_row {w : World} {v : Value} {n : Nat} {xs : List ByteArray} {B : Nat} (h : w.ownsRow B 9 1 v n (xs.map Value.string)) (hn : v ≠ .slice none 0 0 ∨ True) : OwnVS w v xs := by
  obtain ⟨h1, h2⟩ := h
  rcases h2 with ⟨rfl, rfl⟩ | ⟨g', cap', cur, e, hb, hh, hn, hm, hs, ht⟩
  · left
    simp at h1
    exact ⟨rfl, h1⟩
  · right
    exact ⟨g', 0, n, cap', e, by simpa using h1, hn, hm, cur, hh, by omega, by simpa using ht⟩

/-- A list of texts of our own, nothing else changed. -/
structure MineS (w w' : World) (v : Value) (xs : List ByteArray) : Prop where
  own : OwnVS w' v xs
  chg : Chg Non w w'
  new : ∀ k, v.ownBlock = some k → w.heap.size ≤ k

theorem Chg.undrew' {S : Nat → Prop} {a b : World} (h : Chg S a.drew b) : Chg S a b := ⟨h.os, h.tape, h.output, h.size, h.block⟩

theorem MineS.app {w w1 w2 : World} {v v2 : Value} {xs ys : List ByteArray} (h : MineS w w1 v xs) (ho : OwnVS w2 v2 ys) (hc : Chg (fun k => v.ownBlock = some k) w1 w2) (hk : v2.ownBlock = v.ownBlock ∨ ∃ n, v2.ownBlock = some n ∧ w1.heap.size ≤ n) : MineS w w2 v2 ys := by
  refine ⟨ho, h.chg.trans hc (fun i hi e => ?_), fun k e => ?_⟩
  · have := h.new i e
    show False
    omega
  · rcases hk with x | ⟨n, x, hn⟩
    · exact h.new k (x ▸ e)
    · rw [x] at e
      cases e
      have := h.chg.size
      omega

theorem MineS.log {w w1 w2 : World} {v v2 : Value} {xs ys : List ByteArray} {p most : Nat} {lv : Value} {first lost : Nat} {mv : Value} {L : List ByteArray} (h : MineS w w1 v xs) (hl : LogSt w1 p most lv first lost mv L) (ho : OwnVS w2 v2 ys) (hc : Chg (fun k => v.ownBlock = some k) w1 w2) (hk : v2.ownBlock = v.ownBlock ∨ ∃ n, v2.ownBlock = some n ∧ w1.heap.size ≤ n) (h0 : LogSt w p most lv first lost mv L) :
    MineS w w2 v2 ys ∧ LogSt w2 p most lv first lost mv L := by
  refine ⟨h.app ho hc hk, hl.keep hc (fun k e x => ?_)⟩
  have h1 := h.new k x
  rcases e with e | e
  · have := h0.lt; omega
  · have := h0.own.lt k e; omega

theorem OwnVS.own {w : World} {g off n cap : Nat} {xs : List ByteArray} (h : OwnVS w (.slice (some ⟨g, off, none⟩) n cap) xs) : OwnS w g off n cap xs := by
  rcases h with ⟨e, _⟩ | ⟨g', off', n', cap', e, ho⟩
  · cases e
  · cases e; exact ho

theorem OwnVS.drew {w : World} {v : Value} {xs : List ByteArray} (h : OwnVS w v xs) : OwnVS w.drew v xs := h.keep (fun _ _ => rfl)
theorem RdS.drew' {w : World} {v : Value} {xs : List ByteArray} (h : RdS w v xs) : RdS w.drew v xs := h.keep (fun _ _ _ => rfl)

theorem rd_dropS {w : World} {g off n cap : Nat} {xs : List ByteArray} (h : OwnS w g off n cap xs) {k : Nat} (hk : k ≤ n) : RdS w (.slice (some ⟨g, off + k, none⟩) (n - k) (cap - k)) (xs.drop k) := by
  have hl := h.len
  have hle := h.le
  have hm := h.mx
  refine ⟨_, _, _, rfl, by simp; omega, by omega, by omega, fun e => by (cases e), fun x e j u hj => ?_⟩
  cases e
  rw [List.getElem?_drop] at hj
  rw [Addr.add_lit, show off + k + j = off + (k + j) by omega]
  exact h.cell _ _ hj

theorem rd_takeS {w : World} {g off n cap : Nat} {xs : List ByteArray} (h : OwnS w g off n cap xs) {k : Nat} (hk : k ≤ n) : RdS w (.slice (some ⟨g, off, none⟩) k cap) (xs.take k) := by
  have hl := h.len
  have hle := h.le
  refine ⟨_, _, _, rfl, by simp; omega, by omega, h.mx, fun e => by (cases e), fun x e j u hj => ?_⟩
  cases e
  rw [List.getElem?_take] at hj
  split at hj
  · rw [Addr.add_lit]; exact h.cell _ _ hj
  · cases hj

theorem shapeS {w : World} {v : Value} {xs : List ByteArray} (h : OwnVS w v xs) : ∃ ao n c, v = .slice ao n c := by
  obtain ⟨ao, c, e, _⟩ := h.shape
  exact ⟨_, _, _, e⟩

set_option maxHeartbeats 1000000 in
theorem lines_row (p most g off n cap : Nat) (first lost : Nat) (mv : Value) (L : List ByteArray) (w : World) (h : LogSt w p most (.slice (some ⟨g, off, none⟩) n cap) first lost mv L) :
    Calls Tryd.prog 16 #[.pointer (some ⟨p, 0, none⟩)] w fun e w' => ∃ v, e = .returned v ∧ MineS w w' v (kept L first) := by
  obtain ⟨i0, hi, hz0, hz1, hz2⟩ := info_parts Tryd.info9s
  have hn : n = L.length := by obtain ⟨ao, c, e, _⟩ := h.own.shape; cases e; rfl
  have hcap : cap ≤ 9223372036854775807 := by obtain ⟨ao, c, e, _, hm, _⟩ := h.own.shape; cases e; exact hm
  have hnc : n ≤ cap := by obtain ⟨ao, c, e, h1, _⟩ := h.own.shape; cases e; omega
  have hn4 : n ≤ 4096 := by have := h.le; have := h.m2; omega
  have hL0 : L ≠ [] := fun e => by have := h.nn e; cases this
  have hL1 : 0 < L.length := List.length_pos_iff.2 hL0
  have hf1 : first < n := by
    by_cases hlt : L.length < most
    · have := h.f0 hlt; omega
    · have := h.fm; have := h.le; omega
  have hf : first ≤ n := by omega
  have hne : ¬ cap = first := by omega
  clear hL0 hL1 hf1
  have H : Hid (LogSt w p most (.slice (some ⟨g, off, none⟩) n cap) first lost mv L ∧ n = L.length) := ⟨h, hn⟩
  obtain ⟨c0, c1, c2, -, -⟩ := h.cells
  clear h hn
  have hfI : (first : Int) ≤ n := by omega
  have hfC : (first : Int) ≤ cap := by omega
  go_enter Tryd.func16, Tryd.ntmps16
  go_wp2_with (at_make; refine wpList_make_own _ rfl _ _ 43 rfl w.heap.size 9 i0 (.string ⟨#[]⟩) 1 Tryd.underlying43 hi hz0 hz1 _ _ _ n rfl rfl rfl (by rw [hz2]; omega) (by unfold maxLen; omega) (Nat.le_refl _) ?_; intro w1 hrow1 hg1)
  have hc1 := Chg.of_none hg1
  have H1 : Hid (MineS w w1 (.slice (some ⟨w.heap.size, 0, none⟩) 0 n) [] ∧ LogSt w1 p most (.slice (some ⟨g, off, none⟩) n cap) first lost mv L) := ⟨⟨OwnS.of_row (n := 0) (xs := []) (by simpa using hrow1) (.inr trivial), hc1, fun k e => by simp [Value.ownBlock] at e; omega⟩, H.out.1.non hc1⟩
  obtain ⟨d0, d1, d2, -, -⟩ := H1.out.2.cells
  clear hrow1 hg1 hc1 c0 c1 c2
  go_wp2_with fail
  go_cut [3] from 10 to 20 (fun v wc => ∃ ao m c, v = .slice ao m c ∧ MineS w wc v (L.drop first) ∧ LogSt wc p most (.slice (some ⟨g, off, none⟩) n cap) first lost mv L)
  case first =>
    go_region_law (refine step_appS rfl (.tmp 10) (.tmp 19) rfl (.slice (some ⟨w.heap.size, 0, none⟩) 0 n) _ [] (L.drop first) rfl rfl ?_ ?_ ?_ ?_; exact H1.out.1.own.drew; exact (rd_dropS H1.out.2.own.own hf).drew'; (have := H.out.2; simp; omega); intro v2 w2 ho2 hc2 hk2; obtain ⟨ao2, n2, c2, rfl⟩ := shapeS ho2)
    all_goals
      have H2 : Hid (MineS w w2 (.slice ao2 n2 c2) (L.drop first) ∧ LogSt w2 p most (.slice (some ⟨g, off, none⟩) n cap) first lost mv L) := H1.out.1.log H1.out.2 (by simpa using ho2) hc2.undrew' (hk2.imp id (fun x => ⟨_, x, Nat.le_refl _⟩)) H.out.1
      clear ho2 hc2 hk2 d0 d1 d2
      go_wp2_with fail
      go_meet
      case rel => exact ⟨_, _, _, rfl, H2.out⟩
  case rest =>
    obtain ⟨ao, m, c, rfl, hm, hl⟩ := hcut
    obtain ⟨w2, hw2⟩ : ∃ w2, w2 = wc := ⟨_, rfl⟩
    subst hw2
    have H2 : Hid (MineS w w2 (.slice ao m c) (L.drop first) ∧ LogSt w2 p most (.slice (some ⟨g, off, none⟩) n cap) first lost mv L) := ⟨hm, hl⟩
    clear d0 d1 d2
    obtain ⟨d0, d1, d2, -, -⟩ := hl.cells
    clear hm hl
    go_wp2_with fail
    go_region_law (refine step_appS rfl (.tmp 21) (.tmp 30) rfl (.slice ao m c) _ (L.drop first) (L.take first) rfl rfl ?_ ?_ ?_ ?_; exact H2.out.1.own.drew; exact (rd_takeS H2.out.2.own.own hf).drew'; (have := H.out.2; simp; omega); intro v3 w3 ho3 hc3 hk3; obtain ⟨ao3, n3, c3, rfl⟩ := shapeS ho3)
    all_goals
      have H3 : Hid (MineS w w3 (.slice ao3 n3 c3) (kept L first)) := H2.out.1.app ho3 hc3.undrew' (hk3.imp id (fun x => ⟨_, x, Nat.le_refl _⟩))
      clear ho3 hc3 hk3 d0 d1 d2
      go_wp2
      go_ret
      exact ⟨_, rfl, H3.out⟩

set_option maxHeartbeats 1000000 in
theorem lines_nil (p most first lost : Nat) (mv : Value) (L : List ByteArray) (w : World) (h : LogSt w p most (.slice none 0 0) first lost mv L) :
    Calls Tryd.prog 16 #[.pointer (some ⟨p, 0, none⟩)] w fun e w' => ∃ v, e = .returned v ∧ MineS w w' v (kept L first) := by
  obtain ⟨i0, hi, hz0, hz1, hz2⟩ := info_parts Tryd.info9s
  have hL : L = [] := by
    rcases h.own with ⟨_, e⟩ | ⟨g, off, n, cap, e, _⟩
    · exact e
    · cases e
  subst hL
  have hf : first = 0 := h.f0 (by have := h.m1; simp; omega)
  subst hf
  have H : Hid (LogSt w p most (.slice none 0 0) 0 lost mv []) := h
  obtain ⟨c0, c1, c2, -, -⟩ := h.cells
  clear h
  go_enter Tryd.func16, Tryd.ntmps16
  go_wp2_with (at_make; refine wpList_make_own _ rfl _ _ 43 rfl w.heap.size 9 i0 (.string ⟨#[]⟩) 1 Tryd.underlying43 hi hz0 hz1 _ _ _ 0 rfl rfl rfl (by rw [hz2]; omega) (by unfold maxLen; omega) (Nat.le_refl _) ?_; intro w1 hrow1 hg1)
  have hc1 := Chg.of_none hg1
  have H1 : Hid (MineS w w1 (.slice (some ⟨w.heap.size, 0, none⟩) 0 0) [] ∧ LogSt w1 p most (.slice none 0 0) 0 lost mv []) := ⟨⟨OwnS.of_row (n := 0) (xs := []) (by simpa using hrow1) (.inr trivial), hc1, fun k e => by simp [Value.ownBlock] at e; omega⟩, H.out.non hc1⟩
  obtain ⟨d0, d1, d2, -, -⟩ := H1.out.2.cells
  clear hrow1 hg1 hc1 c0 c1 c2
  go_wp2_with fail
  go_cut [3] from 10 to 20 (fun v wc => ∃ ao m c, v = .slice ao m c ∧ MineS w wc v [] ∧ LogSt wc p most (.slice none 0 0) 0 lost mv [])
  case first =>
    go_region_law (refine step_appS rfl (.tmp 10) (.tmp 19) rfl (.slice (some ⟨w.heap.size, 0, none⟩) 0 0) (.slice none 0 0) [] [] rfl rfl ?_ ?_ ?_ ?_; exact H1.out.1.own.drew; exact RdS.nil _; (simp); intro v2 w2 ho2 hc2 hk2; obtain ⟨ao2, n2, c2, rfl⟩ := shapeS ho2)
    all_goals
      have H2 : Hid (MineS w w2 (.slice ao2 n2 c2) [] ∧ LogSt w2 p most (.slice none 0 0) 0 lost mv []) := H1.out.1.log H1.out.2 (by simpa using ho2) hc2.undrew' (hk2.imp id (fun x => ⟨_, x, Nat.le_refl _⟩)) H.out
      clear ho2 hc2 hk2 d0 d1 d2
      go_wp2_with fail
      go_meet
      case rel => exact ⟨_, _, _, rfl, H2.out⟩
  case rest =>
    obtain ⟨ao, m, c, rfl, hm, hl⟩ := hcut
    obtain ⟨w2, hw2⟩ : ∃ w2, w2 = wc := ⟨_, rfl⟩
    subst hw2
    have H2 : Hid (MineS w w2 (.slice ao m c) [] ∧ LogSt w2 p most (.slice none 0 0) 0 lost mv []) := ⟨hm, hl⟩
    clear d0 d1 d2
    obtain ⟨d0, d1, d2, -, -⟩ := hl.cells
    clear hm hl
    go_wp2_with fail
    go_region_law (refine step_appS rfl (.tmp 21) (.tmp 30) rfl (.slice ao m c) (.slice none 0 0) [] [] rfl rfl ?_ ?_ ?_ ?_; exact H2.out.1.own.drew; exact RdS.nil _; (simp); intro v3 w3 ho3 hc3 hk3; obtain ⟨ao3, n3, c3, rfl⟩ := shapeS ho3)
    all_goals
      have H3 : Hid (MineS w w3 (.slice ao3 n3 c3) (kept [] 0)) := H2.out.1.app (by simpa [kept] using ho3) hc3.undrew' (hk3.imp id (fun x => ⟨_, x, Nat.le_refl _⟩))
      clear ho3 hc3 hk3 d0 d1 d2
      go_wp2
      go_ret
      exact ⟨_, rfl, H3.out⟩

theorem lines_any (p most : Nat) (lv : Value) (first lost : Nat) (mv : Value) (L : List ByteArray) (w : World) (h : LogSt w p most lv first lost mv L) :
    Calls Tryd.prog 16 #[.pointer (some ⟨p, 0, none⟩)] w fun e w' => ∃ v, e = .returned v ∧ MineS w w' v (kept L first) := by
  have h2 := h.own
  rcases h2 with ⟨rfl, _⟩ | ⟨g, off, n, cap, rfl, _⟩
  · exact lines_nil p most first lost mv L w h
  · exact lines_row p most g off n cap first lost mv L w h
end Go.Proofs.YtlhcadfcgibkdaaDoor
