/-
  The document's Same; the walk of LogsParse.
-/
import Derived.Test.YtlhcadfcgibkdaaDoorQsG
import Derived.Test.YtlhcadfcgibkdaaDoorHead
namespace Go.Proofs.YtlhcadfcgibkdaaDoor
open Go.RowKit
set_option linter.unusedVariables false
set_option maxRecDepth 100000

set_option maxHeartbeats 1000000 in
theorem same_any (t : Nat) (ev : ByteArray) (va vb : Value) (ps : List PairD) (w : World) (ha : PRd w va ps) (hb : PRd w vb ps) :
    Calls Tryd.prog 13 #[.agg #[.int .u64 t, .string ev, va], .agg #[.int .u64 t, .string ev, vb]] w fun e w' => e = .returned (.bool true) ∧ Chg Non w w' := by
  have H : Hid (PRd w va ps ∧ PRd w vb ps) := ⟨ha, hb⟩
  obtain ⟨ao, n, c, rfl, hn, hc, hm, -⟩ := ha
  obtain ⟨bo, n', c', rfl, hn', hc', hm', -⟩ := hb
  have hnn : n' = n := by omega
  subst hnn
  have hn64 : n' ≤ 9223372036854775807 := by unfold maxLen at hm; omega
  have HN : Hid (n' = ps.length) := hn'
  clear hn hn' hm hm'
  go_enter Tryd.func13, Tryd.ntmps13
  go_wp2_with fail
  go_loopw [5] (fun i wr => ∃ k : Nat, i = .int .i64 k ∧ k ≤ n' ∧ Chg Non w wr ∧ wr.heap[w.heap.size]? = some (.cells #[.int .u64 t, .string ev, .slice ao n' c] 25 (0, 0)) ∧ wr.heap[w.heap.size + 1]? = some (.cells #[.int .u64 t, .string ev, .slice bo n' c'] 25 (0, 0))) (fun i _ => n' - (intOf i).toNat)
  case atStart =>
    refine ⟨0, rfl, by omega, ((Chg.refl _ _).alloc _).alloc _, ?_, new2 w _ _⟩
    rw [Below.heap_alloc _ _ _ (by simp)]
    exact heap_alloc_new w _
  case round =>
    obtain ⟨k, rfl, hk, hcw, hx1, hx2⟩ := hrel
    have HP : Hid (Chg Non w wr ∧ wr.heap[w.heap.size]? = some (.cells #[.int .u64 t, .string ev, .slice ao n' c] 25 (0, 0)) ∧ wr.heap[w.heap.size + 1]? = some (.cells #[.int .u64 t, .string ev, .slice bo n' c'] 25 (0, 0))) := ⟨hcw, hx1, hx2⟩
    have y1 : wr.cell? ⟨w.heap.size, 2, none⟩ = some (.slice ao n' c) := by rw [Lib.cell_of_heap hx1]; rfl
    have y2 : wr.cell? ⟨w.heap.size + 1, 2, none⟩ = some (.slice bo n' c') := by rw [Lib.cell_of_heap hx2]; rfl
    clear hx1 hx2
    by_cases hp : k < n'
    · have hpl : k < ps.length := by have := HN.out; omega
      have hat : ps[k]? = some (ps[k]'hpl) := by simp
      obtain ⟨p, hpd⟩ : ∃ p, p = ps[k]'hpl := ⟨_, rfl⟩
      rw [← hpd] at hat
      obtain ⟨_, _, _, e', -, -, -, hx⟩ := H.out.1.non hcw
      cases e'
      obtain ⟨ok, g2, off, rfl, hg, d0, d1, d2, d3⟩ := hx k p hat
      obtain ⟨_, _, _, e', -, -, -, hx2⟩ := H.out.2.non hcw
      cases e'
      obtain ⟨-, g3, off3, rfl, -, o0, o1, o2, o3⟩ := hx2 k p hat
      obtain ⟨key, isNum, num, text⟩ := p
      simp only at d0 d1 d2 d3 o0 o1 o2 o3
      clear hpd hat hx ok hcw hg hx2
      have hkI : (k : Int) < n' := by omega
      go_wp2_with fail
      go_quiet (fail)
      have H7 : Hid (Chg Non w (wr.drewN nq) ∧ (wr.drewN nq).heap[w.heap.size]? = some (.cells #[.int .u64 t, .string ev, .slice (some ⟨g2, off, none⟩) n' c] 25 (0, 0)) ∧ (wr.drewN nq).heap[w.heap.size + 1]? = some (.cells #[.int .u64 t, .string ev, .slice (some ⟨g3, off3, none⟩) n' c'] 25 (0, 0))) := ⟨HP.out.1.trans (drewN_non wr _) (fun _ _ x => x), HP.out.2.1, HP.out.2.2⟩
      clear d0 d1 d2 d3 o0 o1 o2 o3 y1 y2 HP
      go_wp2
      go_roundw
      case rel => exact ⟨k + 1, by go_num, by omega, H7.out⟩
      case measure => simp [intOf]; omega
    · clear hcw
      go_wp2
      go_ret
      exact ⟨rfl, HP.out.1⟩

set_option maxHeartbeats 1000000 in
theorem parse_walk (s : ByteArray) (w : World) (ht : Tab w) (hs : s.size ≤ 9223372036854775807) :
    Calls Tryd.prog 4 #[.string s] w fun e w' => e = .returned (.bool true) ∧ Below w.heap.size w w' := by
  have h2 := ht.size
  have H : Hid (Tab w) := ht
  clear ht
  go_enter Tryd.func4, Tryd.ntmps4
  go_wp2_with fail
  refine (head_any _ H.out).mono ?_
  rintro e w1 ⟨rfl, hc1⟩
  have hz1 := hc1.size
  go_wp2_with fail
  refine (parse_any s _ (by omega) hs).mono ?_
  rintro e w2 ⟨lv, rfl, hp2, hc2⟩
  obtain ⟨lo, ln, lc, hlv, -⟩ := id hp2
  subst hlv
  have H2 : Hid (PRd w2 (.slice lo ln lc) (pPs s) ∧ Chg Non w w2) := ⟨hp2, hc1.trans hc2 (fun _ _ x => x)⟩
  clear hp2 hc1 hc2 hz1
  obtain ⟨t, hT⟩ : ∃ t, t = pTime s := ⟨_, rfl⟩
  obtain ⟨ev, hE⟩ : ∃ ev, ev = pEv s := ⟨_, rfl⟩
  obtain ⟨pa, hA⟩ : ∃ pa, pa = pAt s := ⟨_, rfl⟩
  obtain ⟨pe, hR⟩ : ∃ pe, pe = pErr s := ⟨_, rfl⟩
  rw [← hT, ← hE, ← hA, ← hR]
  have HV : Hid (t = pTime s ∧ ev = pEv s ∧ pa = pAt s ∧ pe = pErr s) := ⟨hT, hE, hA, hR⟩
  clear hT hE hA hR
  go_wp2_with fail
  refine (rparse_any s _ hs).mono ?_
  rintro e w3 ⟨mv, rfl, hp3, hc3⟩
  rw [← HV.out.1, ← HV.out.2.1, ← HV.out.2.2.1, ← HV.out.2.2.2]
  obtain ⟨mo, mn, mc, hmv, -⟩ := id hp3
  subst hmv
  have hbx : w3.heap[w2.heap.size]? = some (.cells #[.int .u64 t, .string ev, .slice lo ln lc] 25 (0, 0)) := by
    rw [hc3.block _ (by simp) (fun x => x)]
    exact heap_alloc_new w2 _
  have hsz : w2.heap.size < w3.heap.size := (Array.getElem?_eq_some_iff.1 hbx).1
  have H3 : Hid (PRd w3 (.slice lo ln lc) (pPs s) ∧ PRd w3 (.slice mo mn mc) (pPs s) ∧ Chg Non w w3) := ⟨(H2.out.1.non ((Chg.refl _ _).alloc _)).non hc3, hp3, (H2.out.2.alloc _).trans hc3 (fun _ _ x => x)⟩
  have y0 : w3.cell? ⟨w2.heap.size, 0, none⟩ = some (.int .u64 t) := by rw [Lib.cell_of_heap hbx]; rfl
  have y1 : w3.cell? ⟨w2.heap.size, 1, none⟩ = some (.string ev) := by rw [Lib.cell_of_heap hbx]; rfl
  have y2 : w3.cell? ⟨w2.heap.size, 2, none⟩ = some (.slice lo ln lc) := by rw [Lib.cell_of_heap hbx]; rfl
  clear hp3 hc3 hbx
  go_wp2_with fail
  refine (same_any t ev _ _ (pPs s) _ (H3.out.1.non ((Chg.refl _ _).alloc _)) (H3.out.2.1.non ((Chg.refl _ _).alloc _))).mono ?_
  rintro e w4 ⟨rfl, hc4⟩
  have H4 : Hid (Chg Non w w4) := (H3.out.2.2.alloc _).trans hc4 (fun _ _ x => x)
  clear hc4 y0 y1 y2
  go_wp2
  go_ret
  exact ⟨rfl, H4.out.below (Nat.le_refl _) (fun k x => x.elim)⟩
end Go.Proofs.YtlhcadfcgibkdaaDoor
