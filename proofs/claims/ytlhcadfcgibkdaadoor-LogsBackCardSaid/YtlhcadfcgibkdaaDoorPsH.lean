/-
  The program's Parse.
-/
import Derived.Test.YtlhcadfcgibkdaaDoorPsG
import Derived.RegionTactic
namespace Go.Proofs.YtlhcadfcgibkdaaDoor
open Go.RowKit
set_option linter.unusedVariables false
set_option maxRecDepth 100000

theorem pErr_long {s : ByteArray} (h : ¬ s.size ≤ 1024) : pTime s = 0 ∧ pEv s = ⟨#[]⟩ ∧ pPs s = [] ∧ pAt s = 0 ∧ pErr s = 32 := by
  have hok : okS s = false := by unfold okS; simp [h]
  refine ⟨by unfold pTime; rw [hok]; rfl, by unfold pEv; rw [hok]; rfl, by unfold pPs; rw [hok]; rfl, by unfold pAt; rw [if_neg h], by unfold pErr; rw [if_neg h]⟩
theorem pErr_bad {s : ByteArray} (h : s.size ≤ 1024) (hb : (allR s.data.toList).1.bad = true) : pTime s = 0 ∧ pEv s = ⟨#[]⟩ ∧ pPs s = [] ∧ pAt s = (allR s.data.toList).1.pos ∧ pErr s = 33 := by
  have hok : okS s = false := by unfold okS; simp [hb]
  refine ⟨by unfold pTime; rw [hok]; rfl, by unfold pEv; rw [hok]; rfl, by unfold pPs; rw [hok]; rfl, by unfold pAt; rw [if_pos h, if_pos hb], by unfold pErr; rw [if_pos h, if_pos hb]⟩
theorem pErr_good {s : ByteArray} (h : s.size ≤ 1024) (hb : (allR s.data.toList).1.bad = false) : pTime s = (timeR s.data.toList).2 ∧ pEv s = evT s.data.toList ∧ pPs s = (allR s.data.toList).2 ∧ pAt s = 0 ∧ pErr s = 0 := by
  have hok : okS s = true := by unfold okS; simp [h, hb]
  have hb' : ¬ (allR s.data.toList).1.bad = true := by rw [hb]; simp
  refine ⟨by unfold pTime; rw [if_pos hok], by unfold pEv; rw [if_pos hok], by unfold pPs; rw [if_pos hok], by unfold pAt; rw [if_pos h, if_neg hb'], by unfold pErr; rw [if_pos h, if_neg hb']⟩

theorem PRd.nil (w : World) : PRd w (.slice none 0 0) [] := ⟨none, 0, 0, rfl, rfl, Nat.le_refl _, by decide, fun i p hp => by simp at hp⟩

set_option maxHeartbeats 1000000 in
theorem parse_any (s : ByteArray) (w : World) (h2 : 2 ≤ w.heap.size) (hs : s.size ≤ 9223372036854775807) :
    Calls Tryd.prog 11 #[.string s] w fun e w' => ∃ lv, e = .returned (.tuple #[.agg #[.int .u64 (pTime s), .string (pEv s), lv], .int .i64 (pAt s), .int .i64 (pErr s)]) ∧ PRd w' lv (pPs s) ∧ Chg Non w w' := by
  by_cases hl : s.size ≤ 1024
  · have hl' : ¬ ((1024 : Int) < s.size) := by omega
    go_enter Tryd.func11, Tryd.ntmps11
    go_wp2_with fail
    have hN : ((w.alloc (.cells #[.int .u64 0, .string ⟨#[]⟩, .slice none 0 0] 25)).alloc (.cells #[.string s, .int .i64 0, .bool false] 73)).heap[w.heap.size + 1]? = some (.cells #[.string s, .int .i64 0, .bool false] 73 (0, 0)) := new2 w _ _
    have hN0 : ((w.alloc (.cells #[.int .u64 0, .string ⟨#[]⟩, .slice none 0 0] 25)).alloc (.cells #[.string s, .int .i64 0, .bool false] 73)).heap[w.heap.size]? = some (.cells #[.int .u64 0, .string ⟨#[]⟩, .slice none 0 0] 25 (0, 0)) := by
      rw [Below.heap_alloc _ _ _ (by simp)]
      exact heap_alloc_new w _
    refine (line_rd (w.heap.size + 1) s _ ⟨hN, Nat.zero_le _⟩ hl (by simp)).mono ?_
    rintro e w1 ⟨t, ev, lv, ps, rfl, h1, hc1, ho, hok, hnew, heq⟩
    have hsz := hc1.size
    simp only [World.size_alloc] at hsz hnew
    have H1 : Hid (PR w1 (w.heap.size + 1) s (allR s.data.toList).1 ∧ Chg Non w w1 ∧ POwn w1 lv ps ∧ (∀ q ∈ ps, q.Ok) ∧ (∀ k, lv.ownBlock = some k → w.heap.size + 2 ≤ k) ∧ ((allR s.data.toList).1.bad = false → t = (timeR s.data.toList).2 ∧ ev = evT s.data.toList ∧ ps = (allR s.data.toList).2) ∧
        w1.heap[w.heap.size]? = some (.cells #[.int .u64 0, .string ⟨#[]⟩, .slice none 0 0] 25 (0, 0))) := by
      refine ⟨h1, ?_, ho, hok, fun k e => by have := hnew k e; omega, heq, ?_⟩
      · exact (((Chg.refl Non w).alloc _).alloc _).trans hc1 (fun i hi e => by cases e; omega)
      · rw [hc1.block _ (by simp; omega) (fun e => by unfold One at e; omega)]
        exact hN0
    obtain ⟨ao, c, rfl, -⟩ := ho.shape
    clear h1 hc1 ho hok hnew heq hN hN0
    obtain ⟨c0, c1, c2, -, -⟩ := H1.out.1.cells
    have a0 : w1.cell? ⟨w.heap.size, 0, none⟩ = some (.int .u64 0) := by rw [Lib.cell_of_heap H1.out.2.2.2.2.2.2]; rfl
    have a1 : w1.cell? ⟨w.heap.size, 1, none⟩ = some (.string ⟨#[]⟩) := by rw [Lib.cell_of_heap H1.out.2.2.2.2.2.2]; rfl
    have a2 : w1.cell? ⟨w.heap.size, 2, none⟩ = some (.slice none 0 0) := by rw [Lib.cell_of_heap H1.out.2.2.2.2.2.2]; rfl
    have f0 : w1.frozen? ⟨w.heap.size, 0, none⟩ = false := Lib.frozen_of_heap H1.out.2.2.2.2.2.2 0
    have f1 : w1.frozen? ⟨w.heap.size, 1, none⟩ = false := Lib.frozen_of_heap H1.out.2.2.2.2.2.2 1
    have f2 : w1.frozen? ⟨w.heap.size, 2, none⟩ = false := Lib.frozen_of_heap H1.out.2.2.2.2.2.2 2
    have hs1 : w.heap.size + 1 < w1.heap.size := by omega
    have hs0 : w.heap.size < w1.heap.size := by omega
    clear hsz
    cases hb : (allR s.data.toList).1.bad
    · rw [hb] at c2
      have HE : Hid ((t = pTime s ∧ ev = pEv s ∧ ps = pPs s) ∧ pAt s = 0 ∧ pErr s = 0) := by
        obtain ⟨e1, e2, e3, e4, e5⟩ := pErr_good hl hb
        obtain ⟨g1, g2, g3⟩ := H1.out.2.2.2.2.2.1 hb
        exact ⟨⟨by rw [g1, e1], by rw [g2, e2], by rw [g3, e3]⟩, e4, e5⟩
      go_wp2_with fail
      refine bodyPost_ret (v := .tuple #[.agg #[.int .u64 t, .string ev, .slice ao ps.length c], .int .i64 0, .int .i64 0]) (by simp [results, Tryd.results11, go_sem, a0, a1, a2, hs0]) rfl ?_
      have hc : Chg (One w.heap.size) w1 ((((w1.setCell ⟨w.heap.size, 0, none⟩ (.int .u64 t)).setCell ⟨w.heap.size, 1, none⟩ (.string ev)).setCell ⟨w.heap.size, 2, none⟩ (.slice ao ps.length c)).alloc (.cells #[.int .u64 t, .string ev, .slice ao ps.length c] 25)) :=
        (((chg_to 0 _).trans (chg_to 1 _) (fun _ _ x => x)).trans (chg_to 2 _) (fun _ _ x => x)).alloc _
      refine ⟨.slice ao ps.length c, ?_, ?_, H1.out.2.1.trans hc (fun i hi e => by unfold One at e; omega)⟩
      · rw [HE.out.2.1, HE.out.2.2, ← HE.out.1.1, ← HE.out.1.2.1]; rfl
      · rw [← HE.out.1.2.2]
        exact (H1.out.2.2.1.keep (fun k e => hc.block k (H1.out.2.2.1.lt k e) (fun x => by have := H1.out.2.2.2.2.1 k e; unfold One at x; omega))).prd H1.out.2.2.2.1
    · rw [hb] at c2
      have HE : Hid (pTime s = 0 ∧ pEv s = ⟨#[]⟩ ∧ pPs s = [] ∧ pAt s = (allR s.data.toList).1.pos ∧ pErr s = 33) := pErr_bad hl hb
      go_wp2_with fail
      go_region
      all_goals
        go_wp2_with fail
        refine bodyPost_ret (v := .tuple #[.agg #[.int .u64 0, .string ⟨#[]⟩, .slice none 0 0], .int .i64 (allR s.data.toList).1.pos, .int .i64 33]) (by simp [results, Tryd.results11, go_sem, a0, a1, a2, hs0]) rfl ?_
        have hc : Chg (One w.heap.size) w1 ((((w1.setCell ⟨w.heap.size, 0, none⟩ (.int .u64 0)).setCell ⟨w.heap.size, 1, none⟩ (.string ⟨#[]⟩)).setCell ⟨w.heap.size, 2, none⟩ (.slice none 0 0)).alloc (.cells #[.int .u64 t, .string ev, .slice ao ps.length c] 25)).drew :=
          ((((chg_to 0 _).trans (chg_to 1 _) (fun _ _ x => x)).trans (chg_to 2 _) (fun _ _ x => x)).alloc _).drew
        rw [HE.out.1, HE.out.2.1, HE.out.2.2.1, HE.out.2.2.2.1, HE.out.2.2.2.2]
        exact ⟨_, rfl, PRd.nil _, H1.out.2.1.trans hc (fun i hi e => by unfold One at e; omega)⟩
  · obtain ⟨e1, e2, e3, e4, e5⟩ := pErr_long hl
    rw [e1, e2, e3, e4, e5]
    have hl' : ((1024 : Int) < s.size) := by omega
    clear e1 e2 e3 e4 e5
    go_enter Tryd.func11, Tryd.ntmps11
    go_wp2_with fail
    refine bodyPost_ret (v := .tuple #[.agg #[.int .u64 0, .string ⟨#[]⟩, .slice none 0 0], .int .i64 0, .int .i64 32]) (by simp [results, Tryd.results11, go_sem]) rfl ?_
    exact ⟨_, rfl, PRd.nil _, (Chg.refl _ _).alloc _⟩
end Go.Proofs.YtlhcadfcgibkdaaDoor
