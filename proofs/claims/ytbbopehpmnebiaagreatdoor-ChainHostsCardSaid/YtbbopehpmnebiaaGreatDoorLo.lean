/-
  How many labels a host has: the program's.
-/
import Derived.Test.YtbbopehpmnebiaaGreatDoorRa
namespace Go.Proofs.YtbbopehpmnebiaaGreatDoor
open Go.RowKit Go.Shelf
set_option linter.unusedVariables false
set_option maxRecDepth 100000
attribute [local go_sem] Oper.semAt_some

theorem spl_le : ∀ l : List UInt8, (spl l).length ≤ l.length + 1 := by
  intro l
  induction l with
  | nil => simp [spl]
  | cons b r ih =>
    unfold spl
    split
    · simp; omega
    · simp; omega

structure LI (w : World) (l : List UInt8) (d : List (List UInt8)) (W : World) : Prop where
  chg : Chg Non w W
  b0 : W.heap[w.heap.size]? = some (.cells #[.int .i64 0] 3)
  b1 : W.heap[w.heap.size + 1]? = some (.cells #[.int .i64 d.length] 3)
  b2 : W.heap[w.heap.size + 2]? = some (.cells #[.string ⟨l.toArray⟩] 9)
  ok : d.all isLab = true
structure LX (w : World) (l : List UInt8) (W : World) : Prop where
  chg : Chg Non w W
  b0 : W.heap[w.heap.size]? = some (.cells #[.int .i64 0] 3)
  no : cnt l = 0
theorem LI.non {w W W' : World} {l : List UInt8} {d : List (List UInt8)} (h : LI w l d W) (c : Chg Non W W') : LI w l d W' :=
  ⟨h.chg.trans c (fun _ _ x => x), (c.block _ (lt_some h.b0) (fun x => x)).trans h.b0, (c.block _ (lt_some h.b1) (fun x => x)).trans h.b1, (c.block _ (lt_some h.b2) (fun x => x)).trans h.b2, h.ok⟩
theorem LI.one {w W W' : World} {l : List UInt8} {d : List (List UInt8)} {r : Nat} (h : LI w l d W) (hr : w.heap.size + 3 ≤ r) (c : Chg (One r) W W') : LI w l d W' := by
  have q : ∀ b, b < w.heap.size + 3 → ¬ One r b := fun b hb e => by have e' : b = r := e; omega
  exact ⟨h.chg.trans c (fun i hi e => by have e' : i = r := e; omega), (c.block _ (lt_some h.b0) (q _ (by omega))).trans h.b0, (c.block _ (lt_some h.b1) (q _ (by omega))).trans h.b1, (c.block _ (lt_some h.b2) (q _ (by omega))).trans h.b2, h.ok⟩
theorem LX.one {w W W' : World} {l : List UInt8} {r : Nat} (h : LX w l W) (hr : w.heap.size + 3 ≤ r) (c : Chg (One r) W W') : LX w l W' :=
  ⟨h.chg.trans c (fun i hi e => by have e' : i = r := e; omega), (c.block _ (lt_some h.b0) (fun e => by have e' : w.heap.size = r := e; omega)).trans h.b0, h.no⟩
theorem LI.more {w W : World} {l : List UInt8} {d : List (List UInt8)} {p : List UInt8} (h : LI w l d W) (hp : isLab p = true) : LI w l (d ++ [p]) (W.setCell ⟨w.heap.size + 1, 0, none⟩ (.int .i64 ((d.length : Int) + 1))) := by
  refine ⟨h.chg.setCell (p := ⟨w.heap.size + 1, 0, none⟩) (fun q => absurd q (by simp)) _, ?_, ?_, ?_, by rw [List.all_append, h.ok]; simp [hp]⟩
  · rw [Below.heap_setCell _ _ _ _ (by dsimp only; omega)]; exact h.b0
  · simp [World.setCell, Array.getElem?_modify, h.b1]
  · rw [Below.heap_setCell _ _ _ _ (by dsimp only; omega)]; exact h.b2

set_option maxHeartbeats 8000000 in
theorem labelsOf_any (l : List UInt8) (w : World) :
    Calls Tryz.prog 10 #[.string ⟨l.toArray⟩] w fun e w' => e = .returned (.int .i64 (cnt l)) ∧ Chg Non w w' := by
  obtain ⟨S0, hS0⟩ : ∃ S0 : ByteArray, S0 = ⟨l.toArray⟩ := ⟨_, rfl⟩
  rw [← hS0]
  have HS0 : Hid (S0 = ⟨l.toArray⟩) := hS0
  have hsz : S0.size = l.length := by rw [hS0, Lib.size_eq]
  obtain ⟨C, hC⟩ : ∃ C, C = cnt l := ⟨_, rfl⟩
  rw [← hC]
  have HC : Hid (C = cnt l) := hC
  clear hS0 hC
  by_cases hbig : 253 < S0.size
  · have HZ : Hid (C = 0) := by
      show _ = _
      rw [HC.out]
      unfold cnt
      rw [if_neg (fun h => by omega)]
    clear hsz
    go_enter Tryz.func10, Tryz.ntmps10
    go_wp2
    refine bodyPost_ret (v := .int .i64 0) (by simp [results, Tryz.results10, go_sem]) rfl ?_
    exact ⟨by rw [HZ.out]; rfl, (Chg.refl _ _).alloc _⟩
  · have hl : l.length ≤ 253 := by omega
    have HL : Hid (l.length ≤ 253) := hl
    have hsm : S0.size ≤ 253 := by omega
    clear hsz hl hbig
    apply (callsIn_wide (n := 9)).1
    refine callsIn_of_wp_marks Tryz.func10 rfl trivial ?_ rfl
    simp only [Tryz.ntmps10, List.size_toArray, List.length_cons, List.length_nil, Nat.reduceAdd, Nat.reduceSub, Array.replicate_succ, Array.replicate_zero, List.push_toArray, List.append_toArray, List.nil_append, List.cons_append]
    gi_wp2
    obtain ⟨w2, hw2⟩ : ∃ w2, w2 = (w.alloc (.cells #[.int .i64 0] 3)).alloc (.cells #[.int .i64 0] 3) := ⟨_, rfl⟩
    rw [← hw2]
    refine ⟨trivial, (callsIn_wide.2 (labels_any S0 w2)).mono ?_⟩
    rintro e w5 ⟨rfl, hw5⟩
    have S2 : w2.heap.size = w.heap.size + 2 := by rw [hw2]; simp
    have S5 : w5.heap.size = w.heap.size + 3 := by rw [hw5]; simp [S2]
    have HI5 : Hid (LI w l [] w5) := by
      have q : ∀ b, b < w2.heap.size → w5.heap[b]? = w2.heap[b]? := fun b hb => by rw [hw5]; exact Below.heap_alloc _ _ _ hb
      refine ⟨by rw [hw5, hw2]; exact ((((Chg.refl _ _).alloc _).alloc _).alloc _), ?_, ?_, ?_, rfl⟩
      · rw [q _ (by omega), hw2, Below.heap_alloc _ _ _ (by simp)]; exact heap_alloc_new w _
      · rw [q _ (by omega), hw2]; have := heap_alloc_new (w.alloc (.cells #[.int .i64 0] 3)) (.cells #[.int .i64 0] 3); rwa [World.size_alloc] at this
      · rw [hw5, ← S2, ← HS0.out]; exact heap_alloc_new w2 _
    rw [S2]
    clear hw2 hw5 S2
    gi_wp2
    refine range_labels (n := 7) w5 (w.heap.size + 2) l HL.out rfl (fun d W => LI w l d W) (fun W => LX w l W) (fun d W W' h c => h.non c)
      (fun d W r o o' h hr ho hn => h.one (by omega) (chg_put ho)) (fun W r o o' h hr ho hn => h.one (by omega) (chg_put ho)) (fun d W h => by rw [cell_of_row W (w.heap.size + 2) 0 _ 9 (0, 0) h.b2]; rfl) HI5.out ?ok ?er ?done ?stop
    case ok =>
      rintro d p t W hi hsp hlb ⟨rr, hrr⟩ hdd
      obtain ⟨PB, hPB⟩ : ∃ PB : ByteArray, PB = ⟨p.toArray⟩ := ⟨_, rfl⟩
      rw [← hPB]
      have HLB : Hid (isLab PB.data.toList = true ∧ isLab p = true) := ⟨by rw [hPB]; exact hlb, hlb⟩
      clear hlb hPB
      gi_wp2
      refine ⟨Chg.refl _ _, ?_⟩
      intro w2 hs2 hc2 hnc
      have hi2 := hi.one (r := w5.heap.size + 1) (by omega) hc2
      have HI2 : Hid (LI w l d w2) := hi2
      have HKB : Hid (w2.heap.size = W.heap.size) := hs2
      gi_wp2
      refine ⟨trivial, (CallsIn.inRound _ (callsIn_wide.2 (isLabel_any _ _))).mono ?_⟩
      rintro e w3 ⟨rfl, rfl⟩
      rw [HLB.out.1]
      have c1 : w3.cell? ⟨w.heap.size + 1, 0, none⟩ = some (.int .i64 d.length) := by rw [cell_of_row w3 (w.heap.size + 1) 0 _ 3 (0, 0) HI2.out.b1]; rfl
      have f1 : w3.frozen? ⟨w.heap.size + 1, 0, none⟩ = false := by simp [World.frozen?, HI2.out.b1]
      have hdl : d.length ≤ 254 := by
        have h1 := congrArg List.length hsp
        have h2 := spl_le l
        have h3 := HL.out
        simp at h1
        omega
      clear hi hi2 hc2 hnc
      gi_wp2
      exact ⟨HI2.out.more HLB.out.2, Below.heap_setCell _ _ _ _ (by dsimp only; omega), Below.heap_setCell _ _ _ _ (by dsimp only; omega)⟩
    case er =>
      rintro d p t W hi hsp hlb ⟨rr, hrr⟩ hdd
      obtain ⟨PB, hPB⟩ : ∃ PB : ByteArray, PB = ⟨p.toArray⟩ := ⟨_, rfl⟩
      rw [← hPB]
      have HLB : Hid (isLab PB.data.toList = false ∧ isLab p = false) := ⟨by rw [hPB]; exact hlb, hlb⟩
      have HNO : Hid (cnt l = 0) := by
        show _ = _
        unfold cnt
        rw [if_neg]
        rintro ⟨-, q⟩
        rw [hsp, List.all_append, List.all_cons, hlb] at q
        simp at q
      clear hlb hPB
      gi_wp2
      refine ⟨Chg.refl _ _, ?_⟩
      intro w2 hs2 hc2 hnc
      have hi2 := hi.one (r := w5.heap.size + 1) (by omega) hc2
      have HI2 : Hid (LI w l d w2) := hi2
      gi_wp2
      refine ⟨trivial, (CallsIn.inRound _ (callsIn_wide.2 (isLabel_any _ _))).mono ?_⟩
      rintro e w3 ⟨rfl, rfl⟩
      rw [HLB.out.1]
      have c0 : w3.cell? ⟨w.heap.size, 0, none⟩ = some (.int .i64 0) := by rw [cell_of_row w3 w.heap.size 0 _ 3 (0, 0) HI2.out.b0]; rfl
      have f0 : w3.frozen? ⟨w.heap.size, 0, none⟩ = false := by simp [World.frozen?, HI2.out.b0]
      clear hi hi2 hc2 hnc
      gi_wp2
      refine ⟨⟨HI2.out.chg.setCell (p := ⟨w.heap.size, 0, none⟩) (fun q => absurd q (Nat.lt_irrefl _)) _, ?_, HNO.out⟩, Below.heap_setCell _ _ _ _ (by dsimp only; omega), Below.heap_setCell _ _ _ _ (by dsimp only; omega)⟩
      simp [World.setCell, Array.getElem?_modify, HI2.out.b0]
    case done =>
      rintro W hi hd
      have HI : Hid (LI w l (spl l) W) := hi
      obtain ⟨N, hN⟩ : ∃ N : Nat, N = (spl l).length := ⟨_, rfl⟩
      have c1 : W.cell? ⟨w.heap.size + 1, 0, none⟩ = some (.int .i64 N) := by rw [cell_of_row W (w.heap.size + 1) 0 _ 3 (0, 0) hi.b1, hN]; rfl
      have c0 : W.cell? ⟨w.heap.size, 0, none⟩ = some (.int .i64 0) := by rw [cell_of_row W w.heap.size 0 _ 3 (0, 0) hi.b0]; rfl
      have f0 : W.frozen? ⟨w.heap.size, 0, none⟩ = false := by simp [World.frozen?, hi.b0]
      have HCN : Hid (C = N) := by
        show _ = _
        rw [HC.out, hN]
        unfold cnt
        rw [if_pos ⟨HL.out, hi.ok⟩]
      have HD : Hid (W.heap[w5.heap.size]? = some (.deferred (some []))) := hd
      clear hi hd hN
      gi_wp2
      have hd3 : (W.setCell ⟨w.heap.size, 0, none⟩ (.int .i64 N)).heap[w5.heap.size]? = some (.deferred (some [])) := (Below.heap_setCell _ _ _ _ (by dsimp only; omega)).trans HD.out
      have hb3 : (W.setCell ⟨w.heap.size, 0, none⟩ (.int .i64 N)).heap[w.heap.size]? = some (.cells #[.int .i64 N] 3) := by simp [World.setCell, Array.getElem?_modify, HI.out.b0]
      have x0 : ((W.setCell ⟨w.heap.size, 0, none⟩ (.int .i64 N)).putObj w5.heap.size (.deferred none)).cell? ⟨w.heap.size, 0, none⟩ = some (.int .i64 N) := by
        rw [cell_of_row _ w.heap.size 0 #[.int .i64 N] 3 (0, 0) ((World.putObj_heap_other (by omega)).trans hb3)]; rfl
      refine ⟨by simp, .inl ⟨_, _, rfl, run_takeDeferred hd3, ?_⟩⟩
      refine ⟨.int .i64 N, ?_, by rw [HCN.out], (HI.out.chg.setCell (p := ⟨w.heap.size, 0, none⟩) (fun q => absurd q (Nat.lt_irrefl _)) _).trans (S' := One w5.heap.size) (chg_put hd3) (fun i hi q => by have q' : i = w5.heap.size := q; omega)⟩
      simp [results, Tryz.results10, go_sem, x0]
    case stop =>
      rintro W hi hd
      have HZ : Hid (C = 0) := by show _ = _; rw [HC.out]; exact hi.no
      gi_wp2
      have x0 : (W.putObj w5.heap.size (.deferred none)).cell? ⟨w.heap.size, 0, none⟩ = some (.int .i64 0) := by
        rw [cell_of_row _ w.heap.size 0 #[.int .i64 0] 3 (0, 0) ((World.putObj_heap_other (by omega)).trans hi.b0)]; rfl
      refine ⟨by simp, .inl ⟨_, _, rfl, run_takeDeferred hd, ?_⟩⟩
      refine ⟨.int .i64 0, ?_, by rw [HZ.out]; rfl, hi.chg.trans (S' := One w5.heap.size) (chg_put hd) (fun i hi q => by have q' : i = w5.heap.size := q; omega)⟩
      simp [results, Tryz.results10, go_sem, x0]
end Go.Proofs.YtbbopehpmnebiaaGreatDoor
