/-
  The document's reader: pair.
-/
import Derived.Test.YtlhcadfcgibkdaaDoorQsE
import Derived.Test.YtlhcadfcgibkdaaDoorQsB
import Derived.Test.YtlhcadfcgibkdaaDoorPsG
namespace Go.Proofs.YtlhcadfcgibkdaaDoor
open Go.RowKit
set_option linter.unusedVariables false
set_option maxRecDepth 100000

/-- The boxes of pair: what it answers, what it reads into. -/
structure PI (w wr : World) (p g : Nat) (s : ByteArray) (r : RS) (d : PairD) : Prop where
  rd : QR wr p s r
  chg : Chg (One p) w wr
  res : PairBox wr w.heap.size ⟨⟨#[]⟩, false, 0, ⟨#[]⟩⟩
  box : PairBox wr g d
  glt : w.heap.size < g
  plt : p < w.heap.size

theorem PI.read {w wr w1 : World} {p g : Nat} {s : ByteArray} {r r1 : RS} {d : PairD} (h : PI w wr p g s r d) (h1 : QR w1 p s r1) (hc : Chg (One p) wr w1) : PI w w1 p g s r1 d := by
  have := h.plt
  have := h.glt
  exact ⟨h1, h.chg.trans hc (fun _ _ x => x), h.res.ks hc (by omega), h.box.ks hc (by omega), h.glt, h.plt⟩
theorem PI.set {w wr w1 : World} {p g : Nat} {s : ByteArray} {r : RS} {d d' : PairD} (h : PI w wr p g s r d) (hd : PairBox w1 g d') (hc : Chg (One g) wr w1) : PI w w1 p g s r d' := by
  have := h.plt
  have := h.glt
  exact ⟨h.rd.keep hc (fun e => by unfold One at e; omega), h.chg.trans hc (fun i hi x => by unfold One at x; omega), h.res.ks hc (by omega), hd, h.glt, h.plt⟩
theorem PairBox.set1 {w : World} {k : Nat} {d : PairD} (h : PairBox w k d) : PairBox (w.setCell ⟨k, 1, none⟩ (.bool true)) k ⟨d.key, true, d.num, d.text⟩ := by
  unfold PairBox at *
  simp [World.setCell, Array.getElem?_modify, h]
theorem PairBox.set2 {w : World} {k : Nat} {d : PairD} (h : PairBox w k d) (n : Nat) : PairBox (w.setCell ⟨k, 2, none⟩ (.int .u64 n)) k ⟨d.key, d.isNum, n, d.text⟩ := by
  unfold PairBox at *
  simp [World.setCell, Array.getElem?_modify, h]

/-- What pair answers. -/
def PairP (p : Nat) (s : ByteArray) (ps : List PairD) (r : RS) (w : World) (e : Ending) (w' : World) : Prop :=
  ∃ d : PairD, e = .returned (.agg #[.string d.key, .bool d.isNum, .int .u64 d.num, .string d.text]) ∧ d.Ok ∧ ((pairR s.data.toList ps r).1.bad = false → d = (pairR s.data.toList ps r).2) ∧ QR w' p s (pairR s.data.toList ps r).1 ∧ Chg (One p) w w'

set_option maxHeartbeats 2000000 in
theorem pair_rd (p : Nat) (s : ByteArray) (r : RS) (ao : Option Addr) (n c : Nat) (ps : List PairD) (w : World) (h : QR w p s r) (hs : s.size ≤ 1024) (hps : PRd w (.slice ao n c) ps) (hl : ps.length ≤ 16) (hap : ps ≠ [] → ∀ k, (Value.slice ao n c).ownBlock = some k → k ≠ p) :
    Calls Tryd.prog 35 #[.pointer (some ⟨p, 0, none⟩), .slice ao n c] w (PairP p s ps r w) := by
  have hle := h.le
  have hn : n = ps.length := by obtain ⟨_, _, _, e, h1, _⟩ := hps; cases e; exact h1
  have hn16 : n ≤ 16 := by omega
  obtain ⟨c0, c1, c2, -, -⟩ := h.cells
  have hplt := h.lt
  have H : Hid (QR w p s r ∧ n = ps.length ∧ (∀ w', Chg (One p) w w' → PRd w' (.slice ao n c) ps)) := ⟨h, hn, fun w' hc => hps.keep hc.size (fun hne k e hk => hc.block k hk (hap hne k e))⟩
  clear h hps hn hap hl
  obtain ⟨b, bad⟩ := r
  simp only at c1 c2 hle
  unfold PairP
  go_enter Tryd.func35, Tryd.ntmps35
  go_wp2_with fail
  refine (rword_rd p s ⟨b, bad⟩ _ (H.out.1.non ((Chg.refl _ _).alloc _)) hs).mono ?_
  rintro e w2 ⟨T, rfl, hT, hTw, h2, hc2⟩
  have hbx : PairBox w2 w.heap.size ⟨⟨#[]⟩, false, 0, ⟨#[]⟩⟩ := by
    unfold PairBox
    rw [hc2.block _ (by simp) (fun e => by unfold One at e; omega)]
    exact heap_alloc_new w _
  have hsz : w.heap.size < w2.heap.size := by have := hc2.size; simp at this; omega
  have HI : Hid (PI w (w2.alloc (.cells #[.string T, .bool false, .int .u64 0, .string ⟨#[]⟩] 28)) p w2.heap.size s (wdR s.data.toList ⟨b, bad⟩) ⟨T, false, 0, ⟨#[]⟩⟩ ∧ ((wdR s.data.toList ⟨b, bad⟩).bad = false → T = ⟨(wdT s.data.toList b).toArray⟩)) :=
    ⟨⟨h2.non ((Chg.refl _ _).alloc _), ((((Chg.refl _ _).alloc _).trans hc2 (fun _ _ x => x))).alloc _, hbx.keep ((Chg.refl _ _).alloc _), heap_alloc_new w2 _, hsz, hplt⟩, hTw⟩
  clear h2 hc2 hTw hbx c0 c1 c2
  go_wp2_with fail
  refine (mayKey_any T _ ps _ (by omega) (H.out.2.2 _ HI.out.1.chg)).mono ?_
  rintro e w3 ⟨rfl, hc3⟩
  obtain ⟨g, hg⟩ : ∃ g, g = w2.heap.size := ⟨_, rfl⟩
  have H3 : Hid (PI w w3 p g s (wdR s.data.toList ⟨b, bad⟩) ⟨T, false, 0, ⟨#[]⟩⟩) := by
    rw [hg]
    exact HI.out.1.read (HI.out.1.rd.non hc3) (hc3.non _)
  rw [← hg]
  clear hc3 hg
  obtain ⟨c0, c1, c2, f1, f2⟩ := H3.out.rd.cells
  have hgs : w.heap.size < g := H3.out.glt
  have k0 : w3.cell? ⟨g, 0, none⟩ = some (.string T) := H3.out.box.cell 0
  cases hb1 : (wdR s.data.toList ⟨b, bad⟩).bad
  · have hbad : bad = false := by
      cases bad
      · rfl
      · rw [wdR_bad rfl] at hb1; cases hb1
    subst hbad
    have hTe := HI.out.2 hb1
    obtain ⟨e1, hw, hr1⟩ := wdR_inv hb1
    obtain ⟨kp, hkp⟩ : ∃ kp, kp = b + (wdT s.data.toList b).length := ⟨_, rfl⟩
    have hr2 : wdR s.data.toList ⟨b, false⟩ = ⟨kp, false⟩ := by rw [hr1, hkp]
    rw [hr2] at H3
    rw [hr2] at c1 c2
    have HW : Hid (T = ⟨(wdT s.data.toList b).toArray⟩ ∧ wdR s.data.toList ⟨b, false⟩ = ⟨kp, false⟩) := ⟨hTe, hr2⟩
    simp only at c1 c2
    clear hTe e1 hw hr1 hkp hr2 hb1 HI
    cases hmay : keyOk T ps
    · have HK : Hid (keyR s.data.toList ps ⟨b, false⟩ = ⟨b, true⟩) := by
        show _ = _
        unfold keyR
        rw [if_neg (by simp), if_neg]
        rintro ⟨_, x⟩
        simp only at x
        rw [← HW.out.1, hmay] at x
        cases x
      have HPR : Hid ((pairR s.data.toList ps ⟨b, false⟩).1 = (nmR s.data.toList ⟨b, true⟩).1 ∧ (pairR s.data.toList ps ⟨b, false⟩).1.bad = true) := by
        have e1 : (pairR s.data.toList ps ⟨b, false⟩).1 = ⟨b, true⟩ := by
          unfold pairR
          rw [valR_bad (by rw [HK.out]), HK.out]
        rw [e1, nmR_bad rfl]
        exact ⟨rfl, rfl⟩
      have HPRE0 : Hid (PI w ((w3.setCell ⟨p, 2, none⟩ (.bool true)).setCell ⟨p, 1, none⟩ (.int .i64 b)) p g s ⟨b, true⟩ ⟨T, false, 0, ⟨#[]⟩⟩) := H3.out.read (H3.out.rd.fail hle) ((chg_to 2 _).trans (chg_to 1 _) (fun _ _ x => x))
      have HPRE := HPRE0.out
      go_wp2_with fail
      refine (take_rd p s ⟨b, true⟩ 61 _ HPRE.rd hs).mono ?_
      rintro e w5 ⟨rfl, h5, hc5⟩
      have H5 : Hid (PI w w5 p g s ⟨b, true⟩ ⟨T, false, 0, ⟨#[]⟩⟩) := by
        rw [tk_bad rfl] at h5
        exact HPRE.read h5 hc5
      clear h5 hc5
      clear c0 c1 c2 f1 f2 k0 HPRE
      obtain ⟨c0, c1, c2, f1, f2⟩ := H5.out.rd.cells
      have q0 : w5.cell? ⟨g, 0, none⟩ = some (.string T) := H5.out.box.cell 0
      have q1 : w5.cell? ⟨g, 1, none⟩ = some (.bool false) := H5.out.box.cell 1
      have q2 : w5.cell? ⟨g, 2, none⟩ = some (.int .u64 0) := H5.out.box.cell 2
      have q3 : w5.cell? ⟨g, 3, none⟩ = some (.string ⟨#[]⟩) := H5.out.box.cell 3
      have g1 : w5.frozen? ⟨g, 1, none⟩ = false := Lib.frozen_of_heap H5.out.box 1
      have g2 : w5.frozen? ⟨g, 2, none⟩ = false := Lib.frozen_of_heap H5.out.box 2
      have g3 : w5.frozen? ⟨g, 3, none⟩ = false := Lib.frozen_of_heap H5.out.box 3
      go_wp2_with fail
      go_quiet (fail)
      go_wp2_with fail
      have H5b := fun k => PI.set (w1 := (w5.drewN k).setCell ⟨g, 1, none⟩ (.bool true)) (H5.out.read (H5.out.rd.drewN k) (drewN_non w5 k |>.non _)) ((H5.out.box.keep (drewN_non w5 k)).set1) (chg_to 1 _)
      refine (rnumber_rd p s _ _ (H5b _).rd hs).mono ?_
      rintro e w6 ⟨rfl, h6, hc6⟩
      obtain ⟨N, hN⟩ : ∃ N, N = (nmR s.data.toList ⟨b, true⟩).2 := ⟨_, rfl⟩
      have hNl : N < 18446744073709551616 := by rw [hN]; exact nmR_lt _ _
      have H6 : Hid (PI w w6 p g s (nmR s.data.toList ⟨b, true⟩).1 ⟨T, true, 0, ⟨#[]⟩⟩) := (H5b _).read h6 hc6
      have HNN : Hid (N = (nmR s.data.toList ⟨b, true⟩).2) := hN
      rw [← hN]
      clear h6 hc6 H5b hN q0 q1 q2 q3 g1 g2 g3 c0 c1 c2 f1 f2
      have q0 : w6.cell? ⟨g, 0, none⟩ = some (.string T) := H6.out.box.cell 0
      have q1 : w6.cell? ⟨g, 1, none⟩ = some (.bool true) := H6.out.box.cell 1
      have q2 : w6.cell? ⟨g, 2, none⟩ = some (.int .u64 0) := H6.out.box.cell 2
      have q3 : w6.cell? ⟨g, 3, none⟩ = some (.string ⟨#[]⟩) := H6.out.box.cell 3
      have g1 : w6.frozen? ⟨g, 1, none⟩ = false := Lib.frozen_of_heap H6.out.box 1
      have g2 : w6.frozen? ⟨g, 2, none⟩ = false := Lib.frozen_of_heap H6.out.box 2
      have g3 : w6.frozen? ⟨g, 3, none⟩ = false := Lib.frozen_of_heap H6.out.box 3
      have a0 : w6.cell? ⟨w.heap.size, 0, none⟩ = some (.string ⟨#[]⟩) := H6.out.res.cell 0
      have a1 : w6.cell? ⟨w.heap.size, 1, none⟩ = some (.bool false) := H6.out.res.cell 1
      have a2 : w6.cell? ⟨w.heap.size, 2, none⟩ = some (.int .u64 0) := H6.out.res.cell 2
      have a3 : w6.cell? ⟨w.heap.size, 3, none⟩ = some (.string ⟨#[]⟩) := H6.out.res.cell 3
      have b0 : w6.frozen? ⟨w.heap.size, 0, none⟩ = false := Lib.frozen_of_heap H6.out.res 0
      have b1 : w6.frozen? ⟨w.heap.size, 1, none⟩ = false := Lib.frozen_of_heap H6.out.res 1
      have b2 : w6.frozen? ⟨w.heap.size, 2, none⟩ = false := Lib.frozen_of_heap H6.out.res 2
      have b3 : w6.frozen? ⟨w.heap.size, 3, none⟩ = false := Lib.frozen_of_heap H6.out.res 3
      have H7 : Hid (PI w (w6.setCell ⟨g, 2, none⟩ (.int .u64 N)) p g s (nmR s.data.toList ⟨b, true⟩).1 ⟨T, true, N, ⟨#[]⟩⟩) := H6.out.set (H6.out.box.set2 N) (chg_to 2 _)
      go_wp2_with fail
      refine bodyPost_ret (v := .agg #[.string T, .bool true, .int .u64 N, .string ⟨#[]⟩]) (by simp [results, Tryd.results35, go_sem, a0, a1, a2, a3]) rfl ?_
      have hcf : Chg (One w.heap.size) (w6.setCell ⟨g, 2, none⟩ (.int .u64 N)) _ := chg_fresh (.string T) (.bool true) (.int .u64 N) (.string ⟨#[]⟩)
      refine ⟨⟨T, true, N, ⟨#[]⟩⟩, rfl, ⟨hNl, by show T.size ≤ _; omega, by show ByteArray.size ⟨#[]⟩ ≤ _; decide⟩, ?_, ?_, ?_⟩
      · intro hgood
        rw [HPR.out.2] at hgood; cases hgood
      · rw [HPR.out.1]
        exact H7.out.rd.keep hcf (fun e => by unfold One at e; omega)
      · exact H7.out.chg.trans hcf (fun i hi e => by unfold One at e; omega)
    · by_cases h16 : n = 16
      · have hge : ((16 : Int) ≤ (n : Int)) := by omega
        have HK : Hid (keyR s.data.toList ps ⟨b, false⟩ = ⟨b, true⟩) := by
          exact keyR_full (by have := H.out.2.1; omega)
        have HPR : Hid ((pairR s.data.toList ps ⟨b, false⟩).1 = (nmR s.data.toList ⟨b, true⟩).1 ∧ (pairR s.data.toList ps ⟨b, false⟩).1.bad = true) := by
          have e1 : (pairR s.data.toList ps ⟨b, false⟩).1 = ⟨b, true⟩ := by
            unfold pairR
            rw [valR_bad (by rw [HK.out]), HK.out]
          rw [e1, nmR_bad rfl]
          exact ⟨rfl, rfl⟩
        have HPRE0 : Hid (PI w ((w3.setCell ⟨p, 2, none⟩ (.bool true)).setCell ⟨p, 1, none⟩ (.int .i64 b)) p g s ⟨b, true⟩ ⟨T, false, 0, ⟨#[]⟩⟩) := H3.out.read (H3.out.rd.fail hle) ((chg_to 2 _).trans (chg_to 1 _) (fun _ _ x => x))
        have HPRE := HPRE0.out
        go_wp2_with fail
        refine (take_rd p s ⟨b, true⟩ 61 _ HPRE.rd hs).mono ?_
        rintro e w5 ⟨rfl, h5, hc5⟩
        have H5 : Hid (PI w w5 p g s ⟨b, true⟩ ⟨T, false, 0, ⟨#[]⟩⟩) := by
          rw [tk_bad rfl] at h5
          exact HPRE.read h5 hc5
        clear h5 hc5
        clear c0 c1 c2 f1 f2 k0 HPRE
        obtain ⟨c0, c1, c2, f1, f2⟩ := H5.out.rd.cells
        have q0 : w5.cell? ⟨g, 0, none⟩ = some (.string T) := H5.out.box.cell 0
        have q1 : w5.cell? ⟨g, 1, none⟩ = some (.bool false) := H5.out.box.cell 1
        have q2 : w5.cell? ⟨g, 2, none⟩ = some (.int .u64 0) := H5.out.box.cell 2
        have q3 : w5.cell? ⟨g, 3, none⟩ = some (.string ⟨#[]⟩) := H5.out.box.cell 3
        have g1 : w5.frozen? ⟨g, 1, none⟩ = false := Lib.frozen_of_heap H5.out.box 1
        have g2 : w5.frozen? ⟨g, 2, none⟩ = false := Lib.frozen_of_heap H5.out.box 2
        have g3 : w5.frozen? ⟨g, 3, none⟩ = false := Lib.frozen_of_heap H5.out.box 3
        go_wp2_with fail
        go_quiet (fail)
        go_wp2_with fail
        have H5b := fun k => PI.set (w1 := (w5.drewN k).setCell ⟨g, 1, none⟩ (.bool true)) (H5.out.read (H5.out.rd.drewN k) (drewN_non w5 k |>.non _)) ((H5.out.box.keep (drewN_non w5 k)).set1) (chg_to 1 _)
        refine (rnumber_rd p s _ _ (H5b _).rd hs).mono ?_
        rintro e w6 ⟨rfl, h6, hc6⟩
        obtain ⟨N, hN⟩ : ∃ N, N = (nmR s.data.toList ⟨b, true⟩).2 := ⟨_, rfl⟩
        have hNl : N < 18446744073709551616 := by rw [hN]; exact nmR_lt _ _
        have H6 : Hid (PI w w6 p g s (nmR s.data.toList ⟨b, true⟩).1 ⟨T, true, 0, ⟨#[]⟩⟩) := (H5b _).read h6 hc6
        have HNN : Hid (N = (nmR s.data.toList ⟨b, true⟩).2) := hN
        rw [← hN]
        clear h6 hc6 H5b hN q0 q1 q2 q3 g1 g2 g3 c0 c1 c2 f1 f2
        have q0 : w6.cell? ⟨g, 0, none⟩ = some (.string T) := H6.out.box.cell 0
        have q1 : w6.cell? ⟨g, 1, none⟩ = some (.bool true) := H6.out.box.cell 1
        have q2 : w6.cell? ⟨g, 2, none⟩ = some (.int .u64 0) := H6.out.box.cell 2
        have q3 : w6.cell? ⟨g, 3, none⟩ = some (.string ⟨#[]⟩) := H6.out.box.cell 3
        have g1 : w6.frozen? ⟨g, 1, none⟩ = false := Lib.frozen_of_heap H6.out.box 1
        have g2 : w6.frozen? ⟨g, 2, none⟩ = false := Lib.frozen_of_heap H6.out.box 2
        have g3 : w6.frozen? ⟨g, 3, none⟩ = false := Lib.frozen_of_heap H6.out.box 3
        have a0 : w6.cell? ⟨w.heap.size, 0, none⟩ = some (.string ⟨#[]⟩) := H6.out.res.cell 0
        have a1 : w6.cell? ⟨w.heap.size, 1, none⟩ = some (.bool false) := H6.out.res.cell 1
        have a2 : w6.cell? ⟨w.heap.size, 2, none⟩ = some (.int .u64 0) := H6.out.res.cell 2
        have a3 : w6.cell? ⟨w.heap.size, 3, none⟩ = some (.string ⟨#[]⟩) := H6.out.res.cell 3
        have b0 : w6.frozen? ⟨w.heap.size, 0, none⟩ = false := Lib.frozen_of_heap H6.out.res 0
        have b1 : w6.frozen? ⟨w.heap.size, 1, none⟩ = false := Lib.frozen_of_heap H6.out.res 1
        have b2 : w6.frozen? ⟨w.heap.size, 2, none⟩ = false := Lib.frozen_of_heap H6.out.res 2
        have b3 : w6.frozen? ⟨w.heap.size, 3, none⟩ = false := Lib.frozen_of_heap H6.out.res 3
        have H7 : Hid (PI w (w6.setCell ⟨g, 2, none⟩ (.int .u64 N)) p g s (nmR s.data.toList ⟨b, true⟩).1 ⟨T, true, N, ⟨#[]⟩⟩) := H6.out.set (H6.out.box.set2 N) (chg_to 2 _)
        go_wp2_with fail
        refine bodyPost_ret (v := .agg #[.string T, .bool true, .int .u64 N, .string ⟨#[]⟩]) (by simp [results, Tryd.results35, go_sem, a0, a1, a2, a3]) rfl ?_
        have hcf : Chg (One w.heap.size) (w6.setCell ⟨g, 2, none⟩ (.int .u64 N)) _ := chg_fresh (.string T) (.bool true) (.int .u64 N) (.string ⟨#[]⟩)
        refine ⟨⟨T, true, N, ⟨#[]⟩⟩, rfl, ⟨hNl, by show T.size ≤ _; omega, by show ByteArray.size ⟨#[]⟩ ≤ _; decide⟩, ?_, ?_, ?_⟩
        · intro hgood
          rw [HPR.out.2] at hgood; cases hgood
        · rw [HPR.out.1]
          exact H7.out.rd.keep hcf (fun e => by unfold One at e; omega)
        · exact H7.out.chg.trans hcf (fun i hi e => by unfold One at e; omega)
      · have hge : ¬ ((16 : Int) ≤ (n : Int)) := by omega
        have HK : Hid (keyR s.data.toList ps ⟨b, false⟩ = tk s.data.toList 61 ⟨kp, false⟩) := by
          show _ = _
          rw [keyR_word (by have := H.out.2.1; omega), ← HW.out.1, hmay, if_pos rfl, HW.out.2]
        have HPRE := H3.out
        cases hbk : (tk s.data.toList 61 ⟨kp, false⟩).bad
        · obtain ⟨_, hd1, hk1⟩ := tk_inv hbk
          simp only at hk1 hd1
          obtain ⟨kq, hkq⟩ : ∃ kq, kq = kp + 1 := ⟨_, rfl⟩
          rw [← hkq] at hk1
          go_wp2_with fail
          refine (take_rd p s ⟨kp, false⟩ 61 _ HPRE.rd hs).mono ?_
          rintro e w5 ⟨rfl, h5, hc5⟩
          have H5 : Hid (PI w w5 p g s ⟨kq, false⟩ ⟨T, false, 0, ⟨#[]⟩⟩) := by
            rw [hk1] at h5
            exact HPRE.read h5 hc5
          clear h5 hc5
          have hkl : kq ≤ s.size := H5.out.rd.le
          have HK2 : Hid (keyR s.data.toList ps ⟨b, false⟩ = ⟨kq, false⟩) := by rw [HK.out, hk1]; rfl
          clear c0 c1 c2 f1 f2 k0 HPRE hd1 hk1 hbk hkq
          by_cases hpl : kq < s.size
          · have hpl' : ((kq : Int) < (s.size : Int)) := by omega
            obtain ⟨cb, hcb⟩ : ∃ cb, cb = s[kq]'hpl := ⟨_, rfl⟩
            obtain ⟨ci, hci⟩ : ∃ ci : Int, ci = (cb.toNat : Int) := ⟨_, rfl⟩
            have hix := run_at s (kq) hpl ci (by rw [hci, hcb])
            by_cases h34 : s[kq]'hpl = 34
            · have e34 : ci = 34 := by rw [hci, hcb, h34]; rfl
              have HPR : Hid (pairR s.data.toList ps ⟨b, false⟩ = (⟨(txtP s.data.toList (s.data.toList.length + 1) (kq + 1)).1, (txtP s.data.toList (s.data.toList.length + 1) (kq + 1)).2.2⟩, ⟨T, false, 0, ⟨(txtP s.data.toList (s.data.toList.length + 1) (kq + 1)).2.1.toArray⟩⟩)) := by
                show _ = _
                unfold pairR
                rw [HK2.out]
                unfold valR
                rw [if_neg (by simp), if_pos (by simp only; rw [get_ba hpl, h34])]
                simp only
                rw [← HW.out.1]
              subst e34
              clear hcb hci
              obtain ⟨c0, c1, c2, f1, f2⟩ := H5.out.rd.cells
              have q0 : w5.cell? ⟨g, 0, none⟩ = some (.string T) := H5.out.box.cell 0
              have q1 : w5.cell? ⟨g, 1, none⟩ = some (.bool false) := H5.out.box.cell 1
              have q2 : w5.cell? ⟨g, 2, none⟩ = some (.int .u64 0) := H5.out.box.cell 2
              have q3 : w5.cell? ⟨g, 3, none⟩ = some (.string ⟨#[]⟩) := H5.out.box.cell 3
              have g1 : w5.frozen? ⟨g, 1, none⟩ = false := Lib.frozen_of_heap H5.out.box 1
              have g2 : w5.frozen? ⟨g, 2, none⟩ = false := Lib.frozen_of_heap H5.out.box 2
              have g3 : w5.frozen? ⟨g, 3, none⟩ = false := Lib.frozen_of_heap H5.out.box 3
              go_wp2_with fail
              go_quiet (fail)
              go_wp2_with fail
              have H5b := fun k => H5.out.read (H5.out.rd.drewN k) (drewN_non w5 k |>.non _)
              refine (rtext_rd p s (kq) _ (H5b _).rd hs hpl h34).mono ?_
              rintro e w6 ⟨X, rfl, hX, hXt, h6, hc6⟩
              have H6 : Hid (PI w w6 p g s ⟨(txtP s.data.toList (s.data.toList.length + 1) (kq + 1)).1, (txtP s.data.toList (s.data.toList.length + 1) (kq + 1)).2.2⟩ ⟨T, false, 0, ⟨#[]⟩⟩ ∧ ((txtP s.data.toList (s.data.toList.length + 1) (kq + 1)).2.2 = false → X = ⟨(txtP s.data.toList (s.data.toList.length + 1) (kq + 1)).2.1.toArray⟩)) := ⟨(H5b _).read h6 hc6, hXt⟩
              clear h6 hc6 H5b hXt q0 q1 q2 q3 g1 g2 g3 c0 c1 c2 f1 f2
              have q0 : w6.cell? ⟨g, 0, none⟩ = some (.string T) := H6.out.1.box.cell 0
              have q1 : w6.cell? ⟨g, 1, none⟩ = some (.bool false) := H6.out.1.box.cell 1
              have q2 : w6.cell? ⟨g, 2, none⟩ = some (.int .u64 0) := H6.out.1.box.cell 2
              have q3 : w6.cell? ⟨g, 3, none⟩ = some (.string ⟨#[]⟩) := H6.out.1.box.cell 3
              have g1 : w6.frozen? ⟨g, 1, none⟩ = false := Lib.frozen_of_heap H6.out.1.box 1
              have g2 : w6.frozen? ⟨g, 2, none⟩ = false := Lib.frozen_of_heap H6.out.1.box 2
              have g3 : w6.frozen? ⟨g, 3, none⟩ = false := Lib.frozen_of_heap H6.out.1.box 3
              have a0 : w6.cell? ⟨w.heap.size, 0, none⟩ = some (.string ⟨#[]⟩) := H6.out.1.res.cell 0
              have a1 : w6.cell? ⟨w.heap.size, 1, none⟩ = some (.bool false) := H6.out.1.res.cell 1
              have a2 : w6.cell? ⟨w.heap.size, 2, none⟩ = some (.int .u64 0) := H6.out.1.res.cell 2
              have a3 : w6.cell? ⟨w.heap.size, 3, none⟩ = some (.string ⟨#[]⟩) := H6.out.1.res.cell 3
              have b0 : w6.frozen? ⟨w.heap.size, 0, none⟩ = false := Lib.frozen_of_heap H6.out.1.res 0
              have b1 : w6.frozen? ⟨w.heap.size, 1, none⟩ = false := Lib.frozen_of_heap H6.out.1.res 1
              have b2 : w6.frozen? ⟨w.heap.size, 2, none⟩ = false := Lib.frozen_of_heap H6.out.1.res 2
              have b3 : w6.frozen? ⟨w.heap.size, 3, none⟩ = false := Lib.frozen_of_heap H6.out.1.res 3
              have H7 : Hid (PI w (w6.setCell ⟨g, 3, none⟩ (.string X)) p g s ⟨(txtP s.data.toList (s.data.toList.length + 1) (kq + 1)).1, (txtP s.data.toList (s.data.toList.length + 1) (kq + 1)).2.2⟩ ⟨T, false, 0, X⟩) := H6.out.1.set (H6.out.1.box.set3 X) (chg_to 3 _)
              go_wp2_with fail
              refine bodyPost_ret (v := .agg #[.string T, .bool false, .int .u64 0, .string X]) (by simp [results, Tryd.results35, go_sem, a0, a1, a2, a3]) rfl ?_
              have hcf : Chg (One w.heap.size) (w6.setCell ⟨g, 3, none⟩ (.string X)) _ := chg_fresh (.string T) (.bool false) (.int .u64 0) (.string X)
              refine ⟨⟨T, false, 0, X⟩, rfl, ⟨by show 0 < _; decide, by show T.size ≤ _; omega, by show X.size ≤ _; omega⟩, ?_, ?_, ?_⟩
              · intro hgood
                rw [HPR.out] at hgood ⊢
                rw [H6.out.2 hgood]
              · rw [HPR.out]
                exact H7.out.rd.keep hcf (fun e => by unfold One at e; omega)
              · exact H7.out.chg.trans hcf (fun i hi e => by unfold One at e; omega)
            · have n34 : (ci == 34) = false := by
                rw [hci, beq_eq_false_iff_ne]
                intro e
                exact h34 (by rw [← hcb]; exact UInt8.toNat_inj.1 (by show _ = 34; omega))
              have HPR : Hid ((pairR s.data.toList ps ⟨b, false⟩).1 = (nmR s.data.toList ⟨kq, false⟩).1 ∧ True ∧ (pairR s.data.toList ps ⟨b, false⟩).2 = ⟨T, true, (nmR s.data.toList ⟨kq, false⟩).2, ⟨#[]⟩⟩) := by
                have e1 : pairR s.data.toList ps ⟨b, false⟩ = ((nmR s.data.toList ⟨kq, false⟩).1, ⟨T, true, (nmR s.data.toList ⟨kq, false⟩).2, ⟨#[]⟩⟩) := by
                  unfold pairR
                  rw [HK2.out]
                  unfold valR
                  rw [if_neg (by simp), if_neg (by simp only; rw [get_ba hpl]; simpa using h34)]
                  simp only
                  rw [← HW.out.1]
                rw [e1]
                exact ⟨rfl, trivial, rfl⟩
              clear hcb hci h34
              obtain ⟨c0, c1, c2, f1, f2⟩ := H5.out.rd.cells
              have q0 : w5.cell? ⟨g, 0, none⟩ = some (.string T) := H5.out.box.cell 0
              have q1 : w5.cell? ⟨g, 1, none⟩ = some (.bool false) := H5.out.box.cell 1
              have q2 : w5.cell? ⟨g, 2, none⟩ = some (.int .u64 0) := H5.out.box.cell 2
              have q3 : w5.cell? ⟨g, 3, none⟩ = some (.string ⟨#[]⟩) := H5.out.box.cell 3
              have g1 : w5.frozen? ⟨g, 1, none⟩ = false := Lib.frozen_of_heap H5.out.box 1
              have g2 : w5.frozen? ⟨g, 2, none⟩ = false := Lib.frozen_of_heap H5.out.box 2
              have g3 : w5.frozen? ⟨g, 3, none⟩ = false := Lib.frozen_of_heap H5.out.box 3
              go_wp2_with fail
              go_quiet (fail)
              go_wp2_with fail
              have H5b := fun k => PI.set (w1 := (w5.drewN k).setCell ⟨g, 1, none⟩ (.bool true)) (H5.out.read (H5.out.rd.drewN k) (drewN_non w5 k |>.non _)) ((H5.out.box.keep (drewN_non w5 k)).set1) (chg_to 1 _)
              refine (rnumber_rd p s _ _ (H5b _).rd hs).mono ?_
              rintro e w6 ⟨rfl, h6, hc6⟩
              obtain ⟨N, hN⟩ : ∃ N, N = (nmR s.data.toList ⟨kq, false⟩).2 := ⟨_, rfl⟩
              have hNl : N < 18446744073709551616 := by rw [hN]; exact nmR_lt _ _
              have H6 : Hid (PI w w6 p g s (nmR s.data.toList ⟨kq, false⟩).1 ⟨T, true, 0, ⟨#[]⟩⟩) := (H5b _).read h6 hc6
              have HNN : Hid (N = (nmR s.data.toList ⟨kq, false⟩).2) := hN
              rw [← hN]
              clear h6 hc6 H5b hN q0 q1 q2 q3 g1 g2 g3 c0 c1 c2 f1 f2
              have q0 : w6.cell? ⟨g, 0, none⟩ = some (.string T) := H6.out.box.cell 0
              have q1 : w6.cell? ⟨g, 1, none⟩ = some (.bool true) := H6.out.box.cell 1
              have q2 : w6.cell? ⟨g, 2, none⟩ = some (.int .u64 0) := H6.out.box.cell 2
              have q3 : w6.cell? ⟨g, 3, none⟩ = some (.string ⟨#[]⟩) := H6.out.box.cell 3
              have g1 : w6.frozen? ⟨g, 1, none⟩ = false := Lib.frozen_of_heap H6.out.box 1
              have g2 : w6.frozen? ⟨g, 2, none⟩ = false := Lib.frozen_of_heap H6.out.box 2
              have g3 : w6.frozen? ⟨g, 3, none⟩ = false := Lib.frozen_of_heap H6.out.box 3
              have a0 : w6.cell? ⟨w.heap.size, 0, none⟩ = some (.string ⟨#[]⟩) := H6.out.res.cell 0
              have a1 : w6.cell? ⟨w.heap.size, 1, none⟩ = some (.bool false) := H6.out.res.cell 1
              have a2 : w6.cell? ⟨w.heap.size, 2, none⟩ = some (.int .u64 0) := H6.out.res.cell 2
              have a3 : w6.cell? ⟨w.heap.size, 3, none⟩ = some (.string ⟨#[]⟩) := H6.out.res.cell 3
              have b0 : w6.frozen? ⟨w.heap.size, 0, none⟩ = false := Lib.frozen_of_heap H6.out.res 0
              have b1 : w6.frozen? ⟨w.heap.size, 1, none⟩ = false := Lib.frozen_of_heap H6.out.res 1
              have b2 : w6.frozen? ⟨w.heap.size, 2, none⟩ = false := Lib.frozen_of_heap H6.out.res 2
              have b3 : w6.frozen? ⟨w.heap.size, 3, none⟩ = false := Lib.frozen_of_heap H6.out.res 3
              have H7 : Hid (PI w (w6.setCell ⟨g, 2, none⟩ (.int .u64 N)) p g s (nmR s.data.toList ⟨kq, false⟩).1 ⟨T, true, N, ⟨#[]⟩⟩) := H6.out.set (H6.out.box.set2 N) (chg_to 2 _)
              go_wp2_with fail
              refine bodyPost_ret (v := .agg #[.string T, .bool true, .int .u64 N, .string ⟨#[]⟩]) (by simp [results, Tryd.results35, go_sem, a0, a1, a2, a3]) rfl ?_
              have hcf : Chg (One w.heap.size) (w6.setCell ⟨g, 2, none⟩ (.int .u64 N)) _ := chg_fresh (.string T) (.bool true) (.int .u64 N) (.string ⟨#[]⟩)
              refine ⟨⟨T, true, N, ⟨#[]⟩⟩, rfl, ⟨hNl, by show T.size ≤ _; omega, by show ByteArray.size ⟨#[]⟩ ≤ _; decide⟩, ?_, ?_, ?_⟩
              · intro hgood
                rw [HPR.out.2.2, HNN.out]
              · rw [HPR.out.1]
                exact H7.out.rd.keep hcf (fun e => by unfold One at e; omega)
              · exact H7.out.chg.trans hcf (fun i hi e => by unfold One at e; omega)
          · have hpl' : decide (kq < s.size) = false := by simp; omega
            have HPR : Hid ((pairR s.data.toList ps ⟨b, false⟩).1 = (nmR s.data.toList ⟨kq, false⟩).1 ∧ True ∧ (pairR s.data.toList ps ⟨b, false⟩).2 = ⟨T, true, (nmR s.data.toList ⟨kq, false⟩).2, ⟨#[]⟩⟩) := by
              have e1 : pairR s.data.toList ps ⟨b, false⟩ = ((nmR s.data.toList ⟨kq, false⟩).1, ⟨T, true, (nmR s.data.toList ⟨kq, false⟩).2, ⟨#[]⟩⟩) := by
                unfold pairR
                rw [HK2.out]
                unfold valR
                rw [if_neg (by simp), if_neg (by simp only; rw [List.getElem?_eq_none (by simp; omega)]; simp)]
                simp only
                rw [← HW.out.1]
              rw [e1]
              exact ⟨rfl, trivial, rfl⟩
            obtain ⟨c0, c1, c2, f1, f2⟩ := H5.out.rd.cells
            have q0 : w5.cell? ⟨g, 0, none⟩ = some (.string T) := H5.out.box.cell 0
            have q1 : w5.cell? ⟨g, 1, none⟩ = some (.bool false) := H5.out.box.cell 1
            have q2 : w5.cell? ⟨g, 2, none⟩ = some (.int .u64 0) := H5.out.box.cell 2
            have q3 : w5.cell? ⟨g, 3, none⟩ = some (.string ⟨#[]⟩) := H5.out.box.cell 3
            have g1 : w5.frozen? ⟨g, 1, none⟩ = false := Lib.frozen_of_heap H5.out.box 1
            have g2 : w5.frozen? ⟨g, 2, none⟩ = false := Lib.frozen_of_heap H5.out.box 2
            have g3 : w5.frozen? ⟨g, 3, none⟩ = false := Lib.frozen_of_heap H5.out.box 3
            go_wp2_with fail
            go_quiet (fail)
            go_wp2_with fail
            have H5b := fun k => PI.set (w1 := (w5.drewN k).setCell ⟨g, 1, none⟩ (.bool true)) (H5.out.read (H5.out.rd.drewN k) (drewN_non w5 k |>.non _)) ((H5.out.box.keep (drewN_non w5 k)).set1) (chg_to 1 _)
            refine (rnumber_rd p s _ _ (H5b _).rd hs).mono ?_
            rintro e w6 ⟨rfl, h6, hc6⟩
            obtain ⟨N, hN⟩ : ∃ N, N = (nmR s.data.toList ⟨kq, false⟩).2 := ⟨_, rfl⟩
            have hNl : N < 18446744073709551616 := by rw [hN]; exact nmR_lt _ _
            have H6 : Hid (PI w w6 p g s (nmR s.data.toList ⟨kq, false⟩).1 ⟨T, true, 0, ⟨#[]⟩⟩) := (H5b _).read h6 hc6
            have HNN : Hid (N = (nmR s.data.toList ⟨kq, false⟩).2) := hN
            rw [← hN]
            clear h6 hc6 H5b hN q0 q1 q2 q3 g1 g2 g3 c0 c1 c2 f1 f2
            have q0 : w6.cell? ⟨g, 0, none⟩ = some (.string T) := H6.out.box.cell 0
            have q1 : w6.cell? ⟨g, 1, none⟩ = some (.bool true) := H6.out.box.cell 1
            have q2 : w6.cell? ⟨g, 2, none⟩ = some (.int .u64 0) := H6.out.box.cell 2
            have q3 : w6.cell? ⟨g, 3, none⟩ = some (.string ⟨#[]⟩) := H6.out.box.cell 3
            have g1 : w6.frozen? ⟨g, 1, none⟩ = false := Lib.frozen_of_heap H6.out.box 1
            have g2 : w6.frozen? ⟨g, 2, none⟩ = false := Lib.frozen_of_heap H6.out.box 2
            have g3 : w6.frozen? ⟨g, 3, none⟩ = false := Lib.frozen_of_heap H6.out.box 3
            have a0 : w6.cell? ⟨w.heap.size, 0, none⟩ = some (.string ⟨#[]⟩) := H6.out.res.cell 0
            have a1 : w6.cell? ⟨w.heap.size, 1, none⟩ = some (.bool false) := H6.out.res.cell 1
            have a2 : w6.cell? ⟨w.heap.size, 2, none⟩ = some (.int .u64 0) := H6.out.res.cell 2
            have a3 : w6.cell? ⟨w.heap.size, 3, none⟩ = some (.string ⟨#[]⟩) := H6.out.res.cell 3
            have b0 : w6.frozen? ⟨w.heap.size, 0, none⟩ = false := Lib.frozen_of_heap H6.out.res 0
            have b1 : w6.frozen? ⟨w.heap.size, 1, none⟩ = false := Lib.frozen_of_heap H6.out.res 1
            have b2 : w6.frozen? ⟨w.heap.size, 2, none⟩ = false := Lib.frozen_of_heap H6.out.res 2
            have b3 : w6.frozen? ⟨w.heap.size, 3, none⟩ = false := Lib.frozen_of_heap H6.out.res 3
            have H7 : Hid (PI w (w6.setCell ⟨g, 2, none⟩ (.int .u64 N)) p g s (nmR s.data.toList ⟨kq, false⟩).1 ⟨T, true, N, ⟨#[]⟩⟩) := H6.out.set (H6.out.box.set2 N) (chg_to 2 _)
            go_wp2_with fail
            refine bodyPost_ret (v := .agg #[.string T, .bool true, .int .u64 N, .string ⟨#[]⟩]) (by simp [results, Tryd.results35, go_sem, a0, a1, a2, a3]) rfl ?_
            have hcf : Chg (One w.heap.size) (w6.setCell ⟨g, 2, none⟩ (.int .u64 N)) _ := chg_fresh (.string T) (.bool true) (.int .u64 N) (.string ⟨#[]⟩)
            refine ⟨⟨T, true, N, ⟨#[]⟩⟩, rfl, ⟨hNl, by show T.size ≤ _; omega, by show ByteArray.size ⟨#[]⟩ ≤ _; decide⟩, ?_, ?_, ?_⟩
            · intro hgood
              rw [HPR.out.2.2, HNN.out]
            · rw [HPR.out.1]
              exact H7.out.rd.keep hcf (fun e => by unfold One at e; omega)
            · exact H7.out.chg.trans hcf (fun i hi e => by unfold One at e; omega)
        · have hk1 : tk s.data.toList 61 ⟨kp, false⟩ = ⟨kp, true⟩ := by
            unfold tk at hbk ⊢
            rw [if_neg (by simp)] at hbk ⊢
            split at hbk
            · cases hbk
            · rename_i e; rw [if_neg e]
          have HPR : Hid ((pairR s.data.toList ps ⟨b, false⟩).1 = (nmR s.data.toList ⟨kp, true⟩).1 ∧ (pairR s.data.toList ps ⟨b, false⟩).1.bad = true) := by
            have e1 : (pairR s.data.toList ps ⟨b, false⟩).1 = ⟨kp, true⟩ := by
              unfold pairR
              rw [valR_bad (by rw [HK.out]; exact hbk), HK.out, hk1]
            rw [e1, nmR_bad rfl]
            exact ⟨rfl, rfl⟩
          go_wp2_with fail
          refine (take_rd p s ⟨kp, false⟩ 61 _ HPRE.rd hs).mono ?_
          rintro e w5 ⟨rfl, h5, hc5⟩
          have H5 : Hid (PI w w5 p g s ⟨kp, true⟩ ⟨T, false, 0, ⟨#[]⟩⟩) := by
            rw [hk1] at h5
            exact HPRE.read h5 hc5
          clear h5 hc5
          clear c0 c1 c2 f1 f2 k0 HPRE hk1 hbk
          obtain ⟨c0, c1, c2, f1, f2⟩ := H5.out.rd.cells
          have q0 : w5.cell? ⟨g, 0, none⟩ = some (.string T) := H5.out.box.cell 0
          have q1 : w5.cell? ⟨g, 1, none⟩ = some (.bool false) := H5.out.box.cell 1
          have q2 : w5.cell? ⟨g, 2, none⟩ = some (.int .u64 0) := H5.out.box.cell 2
          have q3 : w5.cell? ⟨g, 3, none⟩ = some (.string ⟨#[]⟩) := H5.out.box.cell 3
          have g1 : w5.frozen? ⟨g, 1, none⟩ = false := Lib.frozen_of_heap H5.out.box 1
          have g2 : w5.frozen? ⟨g, 2, none⟩ = false := Lib.frozen_of_heap H5.out.box 2
          have g3 : w5.frozen? ⟨g, 3, none⟩ = false := Lib.frozen_of_heap H5.out.box 3
          go_wp2_with fail
          go_quiet (fail)
          go_wp2_with fail
          have H5b := fun k => PI.set (w1 := (w5.drewN k).setCell ⟨g, 1, none⟩ (.bool true)) (H5.out.read (H5.out.rd.drewN k) (drewN_non w5 k |>.non _)) ((H5.out.box.keep (drewN_non w5 k)).set1) (chg_to 1 _)
          refine (rnumber_rd p s _ _ (H5b _).rd hs).mono ?_
          rintro e w6 ⟨rfl, h6, hc6⟩
          obtain ⟨N, hN⟩ : ∃ N, N = (nmR s.data.toList ⟨kp, true⟩).2 := ⟨_, rfl⟩
          have hNl : N < 18446744073709551616 := by rw [hN]; exact nmR_lt _ _
          have H6 : Hid (PI w w6 p g s (nmR s.data.toList ⟨kp, true⟩).1 ⟨T, true, 0, ⟨#[]⟩⟩) := (H5b _).read h6 hc6
          have HNN : Hid (N = (nmR s.data.toList ⟨kp, true⟩).2) := hN
          rw [← hN]
          clear h6 hc6 H5b hN q0 q1 q2 q3 g1 g2 g3 c0 c1 c2 f1 f2
          have q0 : w6.cell? ⟨g, 0, none⟩ = some (.string T) := H6.out.box.cell 0
          have q1 : w6.cell? ⟨g, 1, none⟩ = some (.bool true) := H6.out.box.cell 1
          have q2 : w6.cell? ⟨g, 2, none⟩ = some (.int .u64 0) := H6.out.box.cell 2
          have q3 : w6.cell? ⟨g, 3, none⟩ = some (.string ⟨#[]⟩) := H6.out.box.cell 3
          have g1 : w6.frozen? ⟨g, 1, none⟩ = false := Lib.frozen_of_heap H6.out.box 1
          have g2 : w6.frozen? ⟨g, 2, none⟩ = false := Lib.frozen_of_heap H6.out.box 2
          have g3 : w6.frozen? ⟨g, 3, none⟩ = false := Lib.frozen_of_heap H6.out.box 3
          have a0 : w6.cell? ⟨w.heap.size, 0, none⟩ = some (.string ⟨#[]⟩) := H6.out.res.cell 0
          have a1 : w6.cell? ⟨w.heap.size, 1, none⟩ = some (.bool false) := H6.out.res.cell 1
          have a2 : w6.cell? ⟨w.heap.size, 2, none⟩ = some (.int .u64 0) := H6.out.res.cell 2
          have a3 : w6.cell? ⟨w.heap.size, 3, none⟩ = some (.string ⟨#[]⟩) := H6.out.res.cell 3
          have b0 : w6.frozen? ⟨w.heap.size, 0, none⟩ = false := Lib.frozen_of_heap H6.out.res 0
          have b1 : w6.frozen? ⟨w.heap.size, 1, none⟩ = false := Lib.frozen_of_heap H6.out.res 1
          have b2 : w6.frozen? ⟨w.heap.size, 2, none⟩ = false := Lib.frozen_of_heap H6.out.res 2
          have b3 : w6.frozen? ⟨w.heap.size, 3, none⟩ = false := Lib.frozen_of_heap H6.out.res 3
          have H7 : Hid (PI w (w6.setCell ⟨g, 2, none⟩ (.int .u64 N)) p g s (nmR s.data.toList ⟨kp, true⟩).1 ⟨T, true, N, ⟨#[]⟩⟩) := H6.out.set (H6.out.box.set2 N) (chg_to 2 _)
          go_wp2_with fail
          refine bodyPost_ret (v := .agg #[.string T, .bool true, .int .u64 N, .string ⟨#[]⟩]) (by simp [results, Tryd.results35, go_sem, a0, a1, a2, a3]) rfl ?_
          have hcf : Chg (One w.heap.size) (w6.setCell ⟨g, 2, none⟩ (.int .u64 N)) _ := chg_fresh (.string T) (.bool true) (.int .u64 N) (.string ⟨#[]⟩)
          refine ⟨⟨T, true, N, ⟨#[]⟩⟩, rfl, ⟨hNl, by show T.size ≤ _; omega, by show ByteArray.size ⟨#[]⟩ ≤ _; decide⟩, ?_, ?_, ?_⟩
          · intro hgood
            rw [HPR.out.2] at hgood; cases hgood
          · rw [HPR.out.1]
            exact H7.out.rd.keep hcf (fun e => by unfold One at e; omega)
          · exact H7.out.chg.trans hcf (fun i hi e => by unfold One at e; omega)
  · obtain ⟨kb, hkb⟩ : ∃ kb, wdR s.data.toList ⟨b, bad⟩ = ⟨kb, true⟩ := ⟨(wdR s.data.toList ⟨b, bad⟩).pos, by rw [← hb1]⟩
    have HK : Hid (keyR s.data.toList ps ⟨b, bad⟩ = ⟨kb, true⟩ ∧ wdR s.data.toList ⟨b, bad⟩ = ⟨kb, true⟩) := by
      refine ⟨?_, hkb⟩
      cases bad
      · have hnw : ¬ isWd (wdT s.data.toList b) = true := by
          intro hw
          unfold wdR at hkb
          rw [if_neg (by simp), if_pos hw] at hkb
          cases hkb
        have hkb2 : wdR s.data.toList ⟨b, false⟩ = ⟨b, true⟩ := by unfold wdR; rw [if_neg (by simp), if_neg hnw]
        rw [← hkb, hkb2]
        unfold keyR
        rw [if_neg (by simp), if_neg]
        rintro ⟨_, x⟩
        exact hnw (by unfold keyOk at x; simp only [Bool.and_eq_true] at x; exact x.1.1.1)
      · rw [keyR_bad rfl, ← hkb, wdR_bad rfl]
    have HPR : Hid ((pairR s.data.toList ps ⟨b, bad⟩).1 = (nmR s.data.toList ⟨kb, true⟩).1 ∧ (pairR s.data.toList ps ⟨b, bad⟩).1.bad = true) := by
      have e1 : (pairR s.data.toList ps ⟨b, bad⟩).1 = ⟨kb, true⟩ := by
        unfold pairR
        rw [valR_bad (by rw [HK.out.1]), HK.out.1]
      rw [e1, nmR_bad rfl]
      exact ⟨rfl, rfl⟩
    have HPRE0 : Hid (PI w w3 p g s ⟨kb, true⟩ ⟨T, false, 0, ⟨#[]⟩⟩) := by rw [← hkb]; exact H3.out
    rw [hkb] at c1 c2
    clear hkb hb1
    simp only at c1 c2
    have HPRE := HPRE0.out
    go_wp2_with fail
    refine (take_rd p s ⟨kb, true⟩ 61 _ HPRE.rd hs).mono ?_
    rintro e w5 ⟨rfl, h5, hc5⟩
    have H5 : Hid (PI w w5 p g s ⟨kb, true⟩ ⟨T, false, 0, ⟨#[]⟩⟩) := by
      rw [tk_bad rfl] at h5
      exact HPRE.read h5 hc5
    clear h5 hc5
    clear c0 c1 c2 f1 f2 k0 HPRE
    obtain ⟨c0, c1, c2, f1, f2⟩ := H5.out.rd.cells
    have q0 : w5.cell? ⟨g, 0, none⟩ = some (.string T) := H5.out.box.cell 0
    have q1 : w5.cell? ⟨g, 1, none⟩ = some (.bool false) := H5.out.box.cell 1
    have q2 : w5.cell? ⟨g, 2, none⟩ = some (.int .u64 0) := H5.out.box.cell 2
    have q3 : w5.cell? ⟨g, 3, none⟩ = some (.string ⟨#[]⟩) := H5.out.box.cell 3
    have g1 : w5.frozen? ⟨g, 1, none⟩ = false := Lib.frozen_of_heap H5.out.box 1
    have g2 : w5.frozen? ⟨g, 2, none⟩ = false := Lib.frozen_of_heap H5.out.box 2
    have g3 : w5.frozen? ⟨g, 3, none⟩ = false := Lib.frozen_of_heap H5.out.box 3
    go_wp2_with fail
    go_quiet (fail)
    go_wp2_with fail
    have H5b := fun k => PI.set (w1 := (w5.drewN k).setCell ⟨g, 1, none⟩ (.bool true)) (H5.out.read (H5.out.rd.drewN k) (drewN_non w5 k |>.non _)) ((H5.out.box.keep (drewN_non w5 k)).set1) (chg_to 1 _)
    refine (rnumber_rd p s _ _ (H5b _).rd hs).mono ?_
    rintro e w6 ⟨rfl, h6, hc6⟩
    obtain ⟨N, hN⟩ : ∃ N, N = (nmR s.data.toList ⟨kb, true⟩).2 := ⟨_, rfl⟩
    have hNl : N < 18446744073709551616 := by rw [hN]; exact nmR_lt _ _
    have H6 : Hid (PI w w6 p g s (nmR s.data.toList ⟨kb, true⟩).1 ⟨T, true, 0, ⟨#[]⟩⟩) := (H5b _).read h6 hc6
    have HNN : Hid (N = (nmR s.data.toList ⟨kb, true⟩).2) := hN
    rw [← hN]
    clear h6 hc6 H5b hN q0 q1 q2 q3 g1 g2 g3 c0 c1 c2 f1 f2
    have q0 : w6.cell? ⟨g, 0, none⟩ = some (.string T) := H6.out.box.cell 0
    have q1 : w6.cell? ⟨g, 1, none⟩ = some (.bool true) := H6.out.box.cell 1
    have q2 : w6.cell? ⟨g, 2, none⟩ = some (.int .u64 0) := H6.out.box.cell 2
    have q3 : w6.cell? ⟨g, 3, none⟩ = some (.string ⟨#[]⟩) := H6.out.box.cell 3
    have g1 : w6.frozen? ⟨g, 1, none⟩ = false := Lib.frozen_of_heap H6.out.box 1
    have g2 : w6.frozen? ⟨g, 2, none⟩ = false := Lib.frozen_of_heap H6.out.box 2
    have g3 : w6.frozen? ⟨g, 3, none⟩ = false := Lib.frozen_of_heap H6.out.box 3
    have a0 : w6.cell? ⟨w.heap.size, 0, none⟩ = some (.string ⟨#[]⟩) := H6.out.res.cell 0
    have a1 : w6.cell? ⟨w.heap.size, 1, none⟩ = some (.bool false) := H6.out.res.cell 1
    have a2 : w6.cell? ⟨w.heap.size, 2, none⟩ = some (.int .u64 0) := H6.out.res.cell 2
    have a3 : w6.cell? ⟨w.heap.size, 3, none⟩ = some (.string ⟨#[]⟩) := H6.out.res.cell 3
    have b0 : w6.frozen? ⟨w.heap.size, 0, none⟩ = false := Lib.frozen_of_heap H6.out.res 0
    have b1 : w6.frozen? ⟨w.heap.size, 1, none⟩ = false := Lib.frozen_of_heap H6.out.res 1
    have b2 : w6.frozen? ⟨w.heap.size, 2, none⟩ = false := Lib.frozen_of_heap H6.out.res 2
    have b3 : w6.frozen? ⟨w.heap.size, 3, none⟩ = false := Lib.frozen_of_heap H6.out.res 3
    have H7 : Hid (PI w (w6.setCell ⟨g, 2, none⟩ (.int .u64 N)) p g s (nmR s.data.toList ⟨kb, true⟩).1 ⟨T, true, N, ⟨#[]⟩⟩) := H6.out.set (H6.out.box.set2 N) (chg_to 2 _)
    go_wp2_with fail
    refine bodyPost_ret (v := .agg #[.string T, .bool true, .int .u64 N, .string ⟨#[]⟩]) (by simp [results, Tryd.results35, go_sem, a0, a1, a2, a3]) rfl ?_
    have hcf : Chg (One w.heap.size) (w6.setCell ⟨g, 2, none⟩ (.int .u64 N)) _ := chg_fresh (.string T) (.bool true) (.int .u64 N) (.string ⟨#[]⟩)
    refine ⟨⟨T, true, N, ⟨#[]⟩⟩, rfl, ⟨hNl, by show T.size ≤ _; omega, by show ByteArray.size ⟨#[]⟩ ≤ _; decide⟩, ?_, ?_, ?_⟩
    · intro hgood
      rw [HPR.out.2] at hgood; cases hgood
    · rw [HPR.out.1]
      exact H7.out.rd.keep hcf (fun e => by unfold One at e; omega)
    · exact H7.out.chg.trans hcf (fun i hi e => by unfold One at e; omega)
end Go.Proofs.YtlhcadfcgibkdaaDoor
