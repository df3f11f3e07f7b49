/-
  WireThere, walked.
-/
import Derived.Test.YtdhckndehijemaaSc
import Derived.Test.YtdhckndehijemaaXp
import Derived.Test.YtdhckndehijemaaGb
import Derived.Test.YtdhckndehijemaaGt
import Derived.Test.YtdhckndehijemaaGs
import Derived.Test.YtdhckndehijemaaHd
import Derived.Deep.CutBlock
import Derived.Deep.CutRange
namespace Go.Proofs.Ytdhckndehijemaa
open Go.RowKit
set_option linter.unusedVariables false
set_option maxRecDepth 100000

theorem GP.back {t : Ty} {p : Pw t.Dat} {q : Pr t.Dat} {z x : t.Dat} {w w' : World} {us : List Value} {al : Int} (h : TB t p q) (hx : Dk t x) (ne : ((p x).getD []).length ≠ 0) (g : GP t q z w w' ((p x).getD []) us al) : al = 0 ∧ Rel t (Btw w.heap.size w'.heap.size) w' us x := by
  cases e : p x with
  | none => rw [e] at ne; exact absurd rfl ne
  | some xs =>
    obtain ⟨y, q1, q2⟩ := g.out
    rw [e] at q1
    have q3 := outc_back (z := z) h hx e
    have q4 : (y, al) = (x, 0) := q1.symm.trans q3
    injection q4 with e1 e2
    subst e1
    exact ⟨e2, q2⟩
theorem PO.len {α : Type} {p : Pw α} {w w' : World} {ao : Option Addr} {n c : Nat} {a : α} (h : PO p w w' (.slice ao n c) a) : n = ((p a).getD []).length := by
  obtain ⟨ao', n', c', e, hn, -⟩ := h.own.rd.shape
  injection e with _ e
  rw [e]; exact hn
theorem Rel.host {F : Nat → Prop} {w : World} {S : ByteArray} {x : List Int} (h : Rel .str F w [.string S] x) : S = strOfNums x := by
  obtain ⟨h1, -⟩ := h
  injection h1 with h1
  injection h1
abbrev tData : Ty := .pair .str (.pair (.lst (.num .u16)) (.pair (.lst .str) (.pair .byt (.pair (.lst tExt) (.pair (.lst tPSK) (.pair (.lst tExt) (.num .u16)))))))


set_option maxHeartbeats 12800000 in
theorem there_any (ma1 : Option Addr) (ml1 mc1 : Nat) (ma2 : Option Addr) (ml2 mc2 : Nat) (tA tB : Int) (ta3 : Option Addr) (tl3 tc3 : Nat) (ta4 : Option Addr) (tl4 tc4 : Nat) (ta5 : Option Addr) (tl5 tc5 : Nat) (vn : Int) (va2 : Option Addr) (vl2 vc2 : Nat) (hS : ByteArray) (da1 : Option Addr) (dl1 dc1 : Nat) (da2 : Option Addr) (dl2 dc2 : Nat) (da3 : Option Addr) (dl3 dc3 : Nat) (da4 : Option Addr) (dl4 dc4 : Nat) (da5 : Option Addr) (dl5 dc5 : Nat) (da6 : Option Addr) (dl6 dc6 : Nat) (dn : Int) (m : tCert.Dat) (t : tTick.Dat) (v : tExt.Dat) (d : tData.Dat) (w : World)
    (hm : Rel tCert (Bel w.heap.size) w [.slice ma1 ml1 mc1, .slice ma2 ml2 mc2] m) (ht : Rel tTick (Bel w.heap.size) w [.int .u32 tA, .int .u32 tB, .slice ta3 tl3 tc3, .slice ta4 tl4 tc4, .slice ta5 tl5 tc5] t) (hv : Rel tExt (Bel w.heap.size) w [.int .u16 vn, .slice va2 vl2 vc2] v) (hd : Rel tData (Bel w.heap.size) w [.string hS, .slice da1 dl1 dc1, .slice da2 dl2 dc2, .slice da3 dl3 dc3, .slice da4 dl4 dc4, .slice da5 dl5 dc5, .slice da6 dl6 dc6, .int .u16 dn] d)
    (lh : List.length (α := Int) d.1 ≤ 140737488355328) (lt : ∀ a ∈ (show List (List Int) from d.2.2.1), List.length (α := Int) a ≤ 140737488355328) :
    Calls Try.prog 9 #[.agg #[.slice ma1 ml1 mc1, .slice ma2 ml2 mc2], .agg #[.int .u32 tA, .int .u32 tB, .slice ta3 tl3 tc3, .slice ta4 tl4 tc4, .slice ta5 tl5 tc5], .agg #[.int .u16 vn, .slice va2 vl2 vc2], .agg #[.string hS, .slice da1 dl1 dc1, .slice da2 dl2 dc2, .slice da3 dl3 dc3, .slice da4 dl4 dc4, .slice da5 dl5 dc5, .slice da6 dl6 dc6, .int .u16 dn]] w fun e w' => e = .returned (.bool true) ∧ Chg Non w w' := by
  obtain ⟨hd0, hd⟩ := Rel.split (us1 := [.string hS]) (us2 := [.slice da1 dl1 dc1, .slice da2 dl2 dc2, .slice da3 dl3 dc3, .slice da4 dl4 dc4, .slice da5 dl5 dc5, .slice da6 dl6 dc6, .int .u16 dn]) hd rfl
  obtain ⟨hd1, hd⟩ := Rel.split (us1 := [.slice da1 dl1 dc1]) (us2 := [.slice da2 dl2 dc2, .slice da3 dl3 dc3, .slice da4 dl4 dc4, .slice da5 dl5 dc5, .slice da6 dl6 dc6, .int .u16 dn]) hd rfl
  obtain ⟨hd2, hd⟩ := Rel.split (us1 := [.slice da2 dl2 dc2]) (us2 := [.slice da3 dl3 dc3, .slice da4 dl4 dc4, .slice da5 dl5 dc5, .slice da6 dl6 dc6, .int .u16 dn]) hd rfl
  obtain ⟨hd3, hd⟩ := Rel.split (us1 := [.slice da3 dl3 dc3]) (us2 := [.slice da4 dl4 dc4, .slice da5 dl5 dc5, .slice da6 dl6 dc6, .int .u16 dn]) hd rfl
  obtain ⟨hd4, hd⟩ := Rel.split (us1 := [.slice da4 dl4 dc4]) (us2 := [.slice da5 dl5 dc5, .slice da6 dl6 dc6, .int .u16 dn]) hd rfl
  obtain ⟨W0, hW0⟩ : ∃ W0, W0 = (((w.alloc (.cells #[.slice ma1 ml1 mc1, .slice ma2 ml2 mc2] 44)).alloc (.cells #[.int .u32 tA, .int .u32 tB, .slice ta3 tl3 tc3, .slice ta4 tl4 tc4, .slice ta5 tl5 tc5] 47)).alloc (.cells #[.int .u16 vn, .slice va2 vl2 vc2] 49)).alloc (.cells #[.string hS, .slice da1 dl1 dc1, .slice da2 dl2 dc2, .slice da3 dl3 dc3, .slice da4 dl4 dc4, .slice da5 dl5 dc5, .slice da6 dl6 dc6, .int .u16 dn] 98) := ⟨_, rfl⟩
  have c0 : Chg Non w W0 := by rw [hW0]; exact ((((Chg.refl _ _).alloc _).alloc _).alloc _).alloc _
  have hb : W0.heap[w.heap.size]? = some (.cells #[.slice ma1 ml1 mc1, .slice ma2 ml2 mc2] 44) ∧ W0.heap[w.heap.size + 1]? = some (.cells #[.int .u32 tA, .int .u32 tB, .slice ta3 tl3 tc3, .slice ta4 tl4 tc4, .slice ta5 tl5 tc5] 47) ∧ W0.heap[w.heap.size + 2]? = some (.cells #[.int .u16 vn, .slice va2 vl2 vc2] 49) ∧ W0.heap[w.heap.size + 3]? = some (.cells #[.string hS, .slice da1 dl1 dc1, .slice da2 dl2 dc2, .slice da3 dl3 dc3, .slice da4 dl4 dc4, .slice da5 dl5 dc5, .slice da6 dl6 dc6, .int .u16 dn] 98) := by
    have s1 : (w.alloc (.cells #[.slice ma1 ml1 mc1, .slice ma2 ml2 mc2] 44)).heap.size = w.heap.size + 1 := by simp
    have s2 : ((w.alloc (.cells #[.slice ma1 ml1 mc1, .slice ma2 ml2 mc2] 44)).alloc (.cells #[.int .u32 tA, .int .u32 tB, .slice ta3 tl3 tc3, .slice ta4 tl4 tc4, .slice ta5 tl5 tc5] 47)).heap.size = w.heap.size + 2 := by simp
    have s3 : (((w.alloc (.cells #[.slice ma1 ml1 mc1, .slice ma2 ml2 mc2] 44)).alloc (.cells #[.int .u32 tA, .int .u32 tB, .slice ta3 tl3 tc3, .slice ta4 tl4 tc4, .slice ta5 tl5 tc5] 47)).alloc (.cells #[.int .u16 vn, .slice va2 vl2 vc2] 49)).heap.size = w.heap.size + 3 := by simp
    rw [hW0]
    refine ⟨?_, ?_, ?_, ?_⟩
    · rw [(((Chg.refl Non _).alloc (.cells #[.string hS, .slice da1 dl1 dc1, .slice da2 dl2 dc2, .slice da3 dl3 dc3, .slice da4 dl4 dc4, .slice da5 dl5 dc5, .slice da6 dl6 dc6, .int .u16 dn] 98))).block _ (by omega) (fun s => s), (((Chg.refl Non _).alloc (.cells #[.int .u16 vn, .slice va2 vl2 vc2] 49))).block _ (by omega) (fun s => s), (((Chg.refl Non _).alloc (.cells #[.int .u32 tA, .int .u32 tB, .slice ta3 tl3 tc3, .slice ta4 tl4 tc4, .slice ta5 tl5 tc5] 47))).block _ (by omega) (fun s => s)]; exact heap_alloc_last w _
    · rw [(((Chg.refl Non _).alloc (.cells #[.string hS, .slice da1 dl1 dc1, .slice da2 dl2 dc2, .slice da3 dl3 dc3, .slice da4 dl4 dc4, .slice da5 dl5 dc5, .slice da6 dl6 dc6, .int .u16 dn] 98))).block _ (by omega) (fun s => s), (((Chg.refl Non _).alloc (.cells #[.int .u16 vn, .slice va2 vl2 vc2] 49))).block _ (by omega) (fun s => s), ← s1]; exact heap_alloc_last _ _
    · rw [(((Chg.refl Non _).alloc (.cells #[.string hS, .slice da1 dl1 dc1, .slice da2 dl2 dc2, .slice da3 dl3 dc3, .slice da4 dl4 dc4, .slice da5 dl5 dc5, .slice da6 dl6 dc6, .int .u16 dn] 98))).block _ (by omega) (fun s => s), ← s2]; exact heap_alloc_last _ _
    · rw [← s3]; exact heap_alloc_last _ _
  have HBX : Hid (∀ u, Chg Non W0 u → u.heap[w.heap.size]? = some (.cells #[.slice ma1 ml1 mc1, .slice ma2 ml2 mc2] 44) ∧ u.heap[w.heap.size + 1]? = some (.cells #[.int .u32 tA, .int .u32 tB, .slice ta3 tl3 tc3, .slice ta4 tl4 tc4, .slice ta5 tl5 tc5] 47) ∧ u.heap[w.heap.size + 2]? = some (.cells #[.int .u16 vn, .slice va2 vl2 vc2] 49) ∧ u.heap[w.heap.size + 3]? = some (.cells #[.string hS, .slice da1 dl1 dc1, .slice da2 dl2 dc2, .slice da3 dl3 dc3, .slice da4 dl4 dc4, .slice da5 dl5 dc5, .slice da6 dl6 dc6, .int .u16 dn] 98)) := fun u hu => ⟨by rw [hu.block _ (lt_somW hb.1) (fun s => s)]; exact hb.1, by rw [hu.block _ (lt_somW hb.2.1) (fun s => s)]; exact hb.2.1, by rw [hu.block _ (lt_somW hb.2.2.1) (fun s => s)]; exact hb.2.2.1, by rw [hu.block _ (lt_somW hb.2.2.2) (fun s => s)]; exact hb.2.2.2⟩
  have HW0 : Hid (W0 = (((w.alloc (.cells #[.slice ma1 ml1 mc1, .slice ma2 ml2 mc2] 44)).alloc (.cells #[.int .u32 tA, .int .u32 tB, .slice ta3 tl3 tc3, .slice ta4 tl4 tc4, .slice ta5 tl5 tc5] 47)).alloc (.cells #[.int .u16 vn, .slice va2 vl2 vc2] 49)).alloc (.cells #[.string hS, .slice da1 dl1 dc1, .slice da2 dl2 dc2, .slice da3 dl3 dc3, .slice da4 dl4 dc4, .slice da5 dl5 dc5, .slice da6 dl6 dc6, .int .u16 dn] 98)) := hW0
  have C0 : Hid (Chg Non w W0) := c0
  have old : ∀ {t : Ty} {us : List Value} {x : t.Dat} {u : World}, Rel t (Bel w.heap.size) w us x → Chg Non W0 u → Rel t (Bel u.heap.size) u us x := fun h c => (h.oldN (c0.two c)).bel2 (c0.two c).size
  have HM : Hid (∀ u, Chg Non W0 u → Rel tCert (Bel u.heap.size) u [.slice ma1 ml1 mc1, .slice ma2 ml2 mc2] m) := fun u hu => old hm hu
  have HT : Hid (∀ u, Chg Non W0 u → Rel tTick (Bel u.heap.size) u [.int .u32 tA, .int .u32 tB, .slice ta3 tl3 tc3, .slice ta4 tl4 tc4, .slice ta5 tl5 tc5] t) := fun u hu => old ht hu
  have HV : Hid (∀ u, Chg Non W0 u → Rel tExt (Bel u.heap.size) u [.int .u16 vn, .slice va2 vl2 vc2] v) := fun u hu => old hv hu
  have HD0 : Hid (∀ u, Chg Non W0 u → Rel .str (Bel u.heap.size) u [.string hS] d.1) := fun u hu => old hd0 hu
  have HD2 : Hid (∀ u, Chg Non W0 u → Rel (.lst .str) (Bel u.heap.size) u [.slice da2 dl2 dc2] d.2.2.1) := fun u hu => old hd2 hu
  have HD4 : Hid (∀ u, Chg Non W0 u → Rel (.lst tExt) (Bel u.heap.size) u [.slice da4 dl4 dc4] d.2.2.2.2.1) := fun u hu => old hd4 hu
  have HK : Hid (Dk tCert m ∧ Dk tTick t ∧ Dk tExt v ∧ Dk .str d.1 ∧ Dk (.lst .str) d.2.2.1 ∧ Dk (.lst tExt) d.2.2.2.2.1) := ⟨hm.dk, ht.dk, hv.dk, hd0.dk, hd2.dk, hd4.dk⟩
  have HL : Hid (List.length (α := Int) d.1 ≤ 140737488355328 ∧ ∀ a ∈ (show List (List Int) from d.2.2.1), List.length (α := Int) a ≤ 140737488355328) := ⟨lh, lt⟩
  have hh := head_any W0
  clear hm ht hv hd hd0 hd1 hd2 hd3 hd4 lh lt old hW0 c0 hb
  go_enter Try.func9, Try.ntmps9
  go_wp2_with fail
  rw [← HW0.out]
  refine hh.mono ?_
  rintro e w1 ⟨rfl, hc⟩
  have K1 : Hid (Chg Non W0 w1) := hc
  clear hc hh
  have y0 : (w1).cell? ⟨w.heap.size, 0, none⟩ = some (.slice ma1 ml1 mc1) := by rw [cell_of_row _ (w.heap.size) 0 _ 44 (0, 0) (HBX.out _ K1.out).1]; rfl
  have y1 : (w1).cell? ⟨w.heap.size, 1, none⟩ = some (.slice ma2 ml2 mc2) := by rw [cell_of_row _ (w.heap.size) 1 _ 44 (0, 0) (HBX.out _ K1.out).1]; rfl
  have hp := putCert_any ma1 ml1 mc1 ma2 ml2 mc2 m w1 (HM.out _ K1.out)
  go_wp2_with (go_at_call 39; refine hp.mono ?_)
  rintro e u1 ⟨b, rfl, ho⟩
  obtain ⟨bo, bn, bc, rfl⟩ := ho.shape
  have HO : Hid (PO wCert w1 u1 (.slice bo bn bc) m ∧ bn = ((wCert m).getD []).length ∧ Chg Non W0 u1) := ⟨ho, ho.len, K1.out.two ho.chg⟩
  clear ho hp y0 y1
  go_upto_if 32 with fail
  go_cut [] from 10 to 46 (fun wc => Chg Non W0 wc)
  case first =>
    by_cases hz : bn = 0
    · subst hz
      go_wp2_with fail
      go_meet
      case rel => exact HO.out.2.2
    · have d1 : 0 < bn := by omega
      have HN : Hid (((wCert m).getD []).length ≠ 0) := by intro e; apply hz; rw [HO.out.2.1]; exact e
      have hg := getCert_any (.slice bo bn bc) _ u1 HO.out.1.bt
      clear hz
      go_wp2_with (go_at_call 29; refine hg.mono ?_)
      rintro e z1 ⟨p1, q1, r1, p2, q2, r2, al, rfl, hq⟩
      obtain ⟨rfl, hr⟩ := GP.back tb_cert HK.out.1 HN.out hq
      have HQ : Hid (Chg Non W0 z1) := HO.out.2.2.two hq.chg
      clear hg hq
      have hs := sameCert_any _ _ p1 q1 r1 p2 q2 r2 ma1 ml1 mc1 ma2 ml2 mc2 m (z1.alloc (.cells #[.slice p1 q1 r1, .slice p2 q2 r2] 44)) (hr.oldN ((Chg.refl _ _).alloc _)) (HM.out _ (HQ.out.alloc _))
      have y0 : (z1.alloc (.cells #[.slice p1 q1 r1, .slice p2 q2 r2] 44)).cell? ⟨w.heap.size, 0, none⟩ = some (.slice ma1 ml1 mc1) := by rw [cell_of_row _ (w.heap.size) 0 _ 44 (0, 0) (HBX.out _ (HQ.out.alloc _)).1]; rfl
      have y1 : (z1.alloc (.cells #[.slice p1 q1 r1, .slice p2 q2 r2] 44)).cell? ⟨w.heap.size, 1, none⟩ = some (.slice ma2 ml2 mc2) := by rw [cell_of_row _ (w.heap.size) 1 _ 44 (0, 0) (HBX.out _ (HQ.out.alloc _)).1]; rfl
      have HZ : Hid (Chg Non W0 (z1.alloc (.cells #[.slice p1 q1 r1, .slice p2 q2 r2] 44))) := HQ.out.alloc _
      clear hr
      go_wp2_with (go_at_call 31; refine hs.mono ?_)
      rintro e x1 ⟨rfl, hc⟩
      have HC : Hid (Chg Non W0 x1) := HZ.out.two hc
      clear hc hs y0 y1
      go_wp2_with fail
      go_meet
      case rel => exact HC.out
  case rest =>
  obtain ⟨w2, hw2⟩ : ∃ zz, zz = wc := ⟨_, rfl⟩
  subst hw2
  have K2 : Hid (Chg Non W0 w2) := hcut
  clear hcut HO
  have y0 : (w2).cell? ⟨w.heap.size + 1, 0, none⟩ = some (.int .u32 tA) := by rw [cell_of_row _ (w.heap.size + 1) 0 _ 47 (0, 0) (HBX.out _ K2.out).2.1]; rfl
  have y1 : (w2).cell? ⟨w.heap.size + 1, 1, none⟩ = some (.int .u32 tB) := by rw [cell_of_row _ (w.heap.size + 1) 1 _ 47 (0, 0) (HBX.out _ K2.out).2.1]; rfl
  have y2 : (w2).cell? ⟨w.heap.size + 1, 2, none⟩ = some (.slice ta3 tl3 tc3) := by rw [cell_of_row _ (w.heap.size + 1) 2 _ 47 (0, 0) (HBX.out _ K2.out).2.1]; rfl
  have y3 : (w2).cell? ⟨w.heap.size + 1, 3, none⟩ = some (.slice ta4 tl4 tc4) := by rw [cell_of_row _ (w.heap.size + 1) 3 _ 47 (0, 0) (HBX.out _ K2.out).2.1]; rfl
  have y4 : (w2).cell? ⟨w.heap.size + 1, 4, none⟩ = some (.slice ta5 tl5 tc5) := by rw [cell_of_row _ (w.heap.size + 1) 4 _ 47 (0, 0) (HBX.out _ K2.out).2.1]; rfl
  have hp := putTicket_any tA tB ta3 tl3 tc3 ta4 tl4 tc4 ta5 tl5 tc5 t w2 (HT.out _ K2.out)
  go_wp2_with (go_at_call 41; refine hp.mono ?_)
  rintro e u2 ⟨b, rfl, ho⟩
  obtain ⟨bo, bn, bc, rfl⟩ := ho.shape
  have HO : Hid (PO wTick w2 u2 (.slice bo bn bc) t ∧ bn = ((wTick t).getD []).length ∧ Chg Non W0 u2) := ⟨ho, ho.len, K2.out.two ho.chg⟩
  clear ho hp y0 y1 y2 y3 y4
  go_upto_if 51 with fail
  go_cut [] from 10 to 65 (fun wc => Chg Non W0 wc)
  case first =>
    by_cases hz : bn = 0
    · subst hz
      go_wp2_with fail
      go_meet
      case rel => exact HO.out.2.2
    · have d1 : 0 < bn := by omega
      have HN : Hid (((wTick t).getD []).length ≠ 0) := by intro e; apply hz; rw [HO.out.2.1]; exact e
      have hg := getTicket_any (.slice bo bn bc) _ u2 HO.out.1.bt
      clear hz
      go_wp2_with (go_at_call 36; refine hg.mono ?_)
      rintro e z2 ⟨nA, nB, p3, q3, r3, p4, q4, r4, p5, q5, r5, al, rfl, hq⟩
      obtain ⟨rfl, hr⟩ := GP.back tb_tick HK.out.2.1 HN.out hq
      have HQ : Hid (Chg Non W0 z2) := HO.out.2.2.two hq.chg
      clear hg hq
      have hs := sameTicket_any _ _ nA nB tA tB p3 q3 r3 p4 q4 r4 p5 q5 r5 ta3 tl3 tc3 ta4 tl4 tc4 ta5 tl5 tc5 t (z2.alloc (.cells #[.int .u32 nA, .int .u32 nB, .slice p3 q3 r3, .slice p4 q4 r4, .slice p5 q5 r5] 47)) (hr.oldN ((Chg.refl _ _).alloc _)) (HT.out _ (HQ.out.alloc _))
      have y0 : (z2.alloc (.cells #[.int .u32 nA, .int .u32 nB, .slice p3 q3 r3, .slice p4 q4 r4, .slice p5 q5 r5] 47)).cell? ⟨w.heap.size + 1, 0, none⟩ = some (.int .u32 tA) := by rw [cell_of_row _ (w.heap.size + 1) 0 _ 47 (0, 0) (HBX.out _ (HQ.out.alloc _)).2.1]; rfl
      have y1 : (z2.alloc (.cells #[.int .u32 nA, .int .u32 nB, .slice p3 q3 r3, .slice p4 q4 r4, .slice p5 q5 r5] 47)).cell? ⟨w.heap.size + 1, 1, none⟩ = some (.int .u32 tB) := by rw [cell_of_row _ (w.heap.size + 1) 1 _ 47 (0, 0) (HBX.out _ (HQ.out.alloc _)).2.1]; rfl
      have y2 : (z2.alloc (.cells #[.int .u32 nA, .int .u32 nB, .slice p3 q3 r3, .slice p4 q4 r4, .slice p5 q5 r5] 47)).cell? ⟨w.heap.size + 1, 2, none⟩ = some (.slice ta3 tl3 tc3) := by rw [cell_of_row _ (w.heap.size + 1) 2 _ 47 (0, 0) (HBX.out _ (HQ.out.alloc _)).2.1]; rfl
      have y3 : (z2.alloc (.cells #[.int .u32 nA, .int .u32 nB, .slice p3 q3 r3, .slice p4 q4 r4, .slice p5 q5 r5] 47)).cell? ⟨w.heap.size + 1, 3, none⟩ = some (.slice ta4 tl4 tc4) := by rw [cell_of_row _ (w.heap.size + 1) 3 _ 47 (0, 0) (HBX.out _ (HQ.out.alloc _)).2.1]; rfl
      have y4 : (z2.alloc (.cells #[.int .u32 nA, .int .u32 nB, .slice p3 q3 r3, .slice p4 q4 r4, .slice p5 q5 r5] 47)).cell? ⟨w.heap.size + 1, 4, none⟩ = some (.slice ta5 tl5 tc5) := by rw [cell_of_row _ (w.heap.size + 1) 4 _ 47 (0, 0) (HBX.out _ (HQ.out.alloc _)).2.1]; rfl
      have HZ : Hid (Chg Non W0 (z2.alloc (.cells #[.int .u32 nA, .int .u32 nB, .slice p3 q3 r3, .slice p4 q4 r4, .slice p5 q5 r5] 47))) := HQ.out.alloc _
      clear hr
      go_wp2_with (go_at_call 38; refine hs.mono ?_)
      rintro e x1 ⟨rfl, hc⟩
      have HC : Hid (Chg Non W0 x1) := HZ.out.two hc
      clear hc hs y0 y1 y2 y3 y4
      go_wp2_with fail
      go_meet
      case rel => exact HC.out
  case rest =>
  obtain ⟨w3, hw3⟩ : ∃ zz, zz = wc := ⟨_, rfl⟩
  subst hw3
  have K3 : Hid (Chg Non W0 w3) := hcut
  clear hcut HO
  have y0 : (w3).cell? ⟨w.heap.size + 2, 0, none⟩ = some (.int .u16 vn) := by rw [cell_of_row _ (w.heap.size + 2) 0 _ 49 (0, 0) (HBX.out _ K3.out).2.2.1]; rfl
  have y1 : (w3).cell? ⟨w.heap.size + 2, 1, none⟩ = some (.slice va2 vl2 vc2) := by rw [cell_of_row _ (w.heap.size + 2) 1 _ 49 (0, 0) (HBX.out _ K3.out).2.2.1]; rfl
  have hp := putVerify_any vn va2 vl2 vc2 v w3 (HV.out _ K3.out)
  go_wp2_with (go_at_call 43; refine hp.mono ?_)
  rintro e u3 ⟨b, rfl, ho⟩
  obtain ⟨bo, bn, bc, rfl⟩ := ho.shape
  have HO : Hid (PO wVer w3 u3 (.slice bo bn bc) v ∧ bn = ((wVer v).getD []).length ∧ Chg Non W0 u3) := ⟨ho, ho.len, K3.out.two ho.chg⟩
  clear ho hp y0 y1
  go_upto_if 70 with fail
  go_cut [] from 10 to 93 (fun wc => Chg Non W0 wc)
  case first =>
    by_cases hz : bn = 0
    · subst hz
      go_wp2_with fail
      go_meet
      case rel => exact HO.out.2.2
    · have d1 : 0 < bn := by omega
      have HN : Hid (((wVer v).getD []).length ≠ 0) := by intro e; apply hz; rw [HO.out.2.1]; exact e
      have hg := getVerify_any (.slice bo bn bc) _ u3 HO.out.1.bt
      clear hz
      go_wp2_with (go_at_call 34; refine hg.mono ?_)
      rintro e z3 ⟨n, p2, q2, r2, al, rfl, hq⟩
      obtain ⟨rfl, hr⟩ := GP.back tb_ver HK.out.2.2.1 HN.out hq
      have HQ : Hid (Chg Non W0 z3) := HO.out.2.2.two hq.chg
      clear hg hq
      obtain ⟨g1, g2⟩ := Rel.split (us1 := [.int .u16 n]) (us2 := [.slice p2 q2 r2]) hr rfl
      obtain ⟨f1, f2⟩ := Rel.split (us1 := [.int .u16 vn]) (us2 := [.slice va2 vl2 vc2]) (HV.out _ HQ.out) rfl
      obtain rfl : n = vn := g1.num_eq f1
      have s1 := g2.conv ((Chg.refl Non z3).alloc (.cells #[.int .u16 n, .slice p2 q2 r2] 49))
      have s2 := f2.conv ((Chg.refl Non z3).alloc (.cells #[.int .u16 n, .slice p2 q2 r2] 49))
      obtain ⟨SS, hSS⟩ : ∃ SS, SS = strOfNums v.2 := ⟨_, rfl⟩
      rw [← hSS] at s1 s2
      have y0 : (z3.alloc (.cells #[.int .u16 n, .slice p2 q2 r2] 49)).cell? ⟨w.heap.size + 2, 0, none⟩ = some (.int .u16 n) := by rw [cell_of_row _ (w.heap.size + 2) 0 _ 49 (0, 0) (HBX.out _ (HQ.out.alloc _)).2.2.1]; rfl
      have y1 : (z3.alloc (.cells #[.int .u16 n, .slice p2 q2 r2] 49)).cell? ⟨w.heap.size + 2, 1, none⟩ = some (.slice va2 vl2 vc2) := by rw [cell_of_row _ (w.heap.size + 2) 1 _ 49 (0, 0) (HBX.out _ (HQ.out.alloc _)).2.2.1]; rfl
      have HZ : Hid (Chg Non W0 (z3.alloc (.cells #[.int .u16 n, .slice p2 q2 r2] 49))) := HQ.out.alloc _
      clear hr g1 g2 f1 f2 hSS
      go_wp2_with fail
      go_meet
      case rel => exact HZ.out
  case rest =>
  obtain ⟨w4, hw4⟩ : ∃ zz, zz = wc := ⟨_, rfl⟩
  subst hw4
  have K4 : Hid (Chg Non W0 w4) := hcut
  clear hcut HO
  have y2 : (w4).cell? ⟨w.heap.size + 3, 2, none⟩ = some (.slice da2 dl2 dc2) := by rw [cell_of_row _ (w.heap.size + 3) 2 _ 98 (0, 0) (HBX.out _ K4.out).2.2.2]; rfl
  have hp := putALPN_any da2 dl2 dc2 d.2.2.1 w4 (HD2.out _ K4.out) HL.out.2
  go_wp2_with (go_at_call 81; refine hp.mono ?_)
  rintro e u4 ⟨b, rfl, ho⟩
  obtain ⟨bo, bn, bc, rfl⟩ := ho.shape
  have HO : Hid (PO wTexts w4 u4 (.slice bo bn bc) d.2.2.1 ∧ bn = ((wTexts d.2.2.1).getD []).length ∧ Chg Non W0 u4) := ⟨ho, ho.len, K4.out.two ho.chg⟩
  clear ho hp y2
  go_upto_if 99 with fail
  go_cut [] from 10 to 114 (fun wc => Chg Non W0 wc)
  case first =>
    by_cases hz : bn = 0
    · subst hz
      go_wp2_with fail
      go_meet
      case rel => exact HO.out.2.2
    · have d1 : 0 < bn := by omega
      have HN : Hid (((wTexts d.2.2.1).getD []).length ≠ 0) := by intro e; apply hz; rw [HO.out.2.1]; exact e
      have hg := getALPN_any (.slice bo bn bc) _ u4 HO.out.1.bt
      clear hz
      go_wp2_with (go_at_call 56; refine hg.mono ?_)
      rintro e z4 ⟨p1, q1, r1, al, rfl, hq⟩
      obtain ⟨rfl, hr⟩ := GP.back tb_texts HK.out.2.2.2.2.1 HN.out hq
      have HQ : Hid (Chg Non W0 z4) := HO.out.2.2.two hq.chg
      clear hg hq
      have hs := sameTexts_any _ _ (.slice p1 q1 r1) (.slice da2 dl2 dc2) _ z4 hr (HD2.out _ HQ.out)
      have y2 : (z4).cell? ⟨w.heap.size + 3, 2, none⟩ = some (.slice da2 dl2 dc2) := by rw [cell_of_row _ (w.heap.size + 3) 2 _ 98 (0, 0) (HBX.out _ HQ.out).2.2.2]; rfl
      clear hr
      go_wp2_with (go_at_call 58; refine hs.mono ?_)
      rintro e x1 ⟨rfl, hc⟩
      have HC : Hid (Chg Non W0 x1) := HQ.out.two hc
      clear hc hs y2
      go_wp2_with fail
      go_meet
      case rel => exact HC.out
  case rest =>
  obtain ⟨w5, hw5⟩ : ∃ zz, zz = wc := ⟨_, rfl⟩
  subst hw5
  have K5 : Hid (Chg Non W0 w5) := hcut
  clear hcut HO
  have y4 : (w5).cell? ⟨w.heap.size + 3, 4, none⟩ = some (.slice da4 dl4 dc4) := by rw [cell_of_row _ (w.heap.size + 3) 4 _ 98 (0, 0) (HBX.out _ K5.out).2.2.2]; rfl
  have hp := putShares_any da4 dl4 dc4 d.2.2.2.2.1 w5 (HD4.out _ K5.out)
  go_wp2_with (go_at_call 85; refine hp.mono ?_)
  rintro e u5 ⟨b, rfl, ho⟩
  obtain ⟨bo, bn, bc, rfl⟩ := ho.shape
  have HO : Hid (PO wShares w5 u5 (.slice bo bn bc) d.2.2.2.2.1 ∧ bn = ((wShares d.2.2.2.2.1).getD []).length ∧ Chg Non W0 u5) := ⟨ho, ho.len, K5.out.two ho.chg⟩
  clear ho hp y4
  go_upto_if 120 with fail
  go_cut [] from 10 to 135 (fun wc => Chg Non W0 wc)
  case first =>
    by_cases hz : bn = 0
    · subst hz
      go_wp2_with fail
      go_meet
      case rel => exact HO.out.2.2
    · have d1 : 0 < bn := by omega
      have HN : Hid (((wShares d.2.2.2.2.1).getD []).length ≠ 0) := by intro e; apply hz; rw [HO.out.2.1]; exact e
      have hg := getShares_any (.slice bo bn bc) _ u5 HO.out.1.bt
      clear hz
      go_wp2_with (go_at_call 61; refine hg.mono ?_)
      rintro e z5 ⟨p1, q1, r1, al, rfl, hq⟩
      obtain ⟨rfl, hr⟩ := GP.back tb_shares HK.out.2.2.2.2.2 HN.out hq
      have HQ : Hid (Chg Non W0 z5) := HO.out.2.2.two hq.chg
      clear hg hq
      have hs := sameShares_any _ _ (.slice p1 q1 r1) (.slice da4 dl4 dc4) _ z5 hr (HD4.out _ HQ.out)
      have y4 : (z5).cell? ⟨w.heap.size + 3, 4, none⟩ = some (.slice da4 dl4 dc4) := by rw [cell_of_row _ (w.heap.size + 3) 4 _ 98 (0, 0) (HBX.out _ HQ.out).2.2.2]; rfl
      clear hr
      go_wp2_with (go_at_call 63; refine hs.mono ?_)
      rintro e x1 ⟨rfl, hc⟩
      have HC : Hid (Chg Non W0 x1) := HQ.out.two hc
      clear hc hs y4
      go_wp2_with fail
      go_meet
      case rel => exact HC.out
  case rest =>
  obtain ⟨w6, hw6⟩ : ∃ zz, zz = wc := ⟨_, rfl⟩
  subst hw6
  have K6 : Hid (Chg Non W0 w6) := hcut
  clear hcut HO
  have y0 : (w6).cell? ⟨w.heap.size + 3, 0, none⟩ = some (.string hS) := by rw [cell_of_row _ (w.heap.size + 3) 0 _ 98 (0, 0) (HBX.out _ K6.out).2.2.2]; rfl
  have hp := putName_any hS d.1 w6 (HD0.out _ K6.out) HL.out.1
  go_wp2_with (go_at_call 75; refine hp.mono ?_)
  rintro e u6 ⟨b, rfl, ho⟩
  obtain ⟨bo, bn, bc, rfl⟩ := ho.shape
  have HO : Hid (PO wName w6 u6 (.slice bo bn bc) d.1 ∧ bn = ((wName d.1).getD []).length ∧ Chg Non W0 u6) := ⟨ho, ho.len, K6.out.two ho.chg⟩
  have hg := getName_any (.slice bo bn bc) _ u6 ho.bt
  clear ho hp y0
  go_wp2_with (go_at_call 49; refine hg.mono ?_)
  rintro e z6 ⟨S', al, rfl, hq⟩
  have HQ : Hid (Chg Non W0 z6) := HO.out.2.2.two hq.chg
  clear hg
  have y0 : (z6).cell? ⟨w.heap.size + 3, 0, none⟩ = some (.string hS) := by rw [cell_of_row _ (w.heap.size + 3) 0 _ 98 (0, 0) (HBX.out _ HQ.out).2.2.2]; rfl
  by_cases hz : bn = 0
  · subst hz
    clear hq
    go_wp2
    go_ret
    exact ⟨rfl, C0.out.two HQ.out⟩
  · obtain ⟨rfl, hr⟩ := GP.back tb_name HK.out.2.2.2.1 (by intro e; apply hz; rw [HO.out.2.1]; exact e) hq
    have e1 := hr.host
    have e2 := (HD0.out _ HQ.out).host
    obtain rfl : S' = hS := by rw [e1, e2]
    have d0 : ((bn : Int) == 0) = false := by simpa using hz
    have d1 : ¬ (bn : Int) = 0 := by omega
    clear hq hr hz e1 e2
    go_wp2
    go_ret
    exact ⟨rfl, C0.out.two HQ.out⟩
end Go.Proofs.Ytdhckndehijemaa
