/-
  WireMessages, walked.
-/
import Derived.Test.YtdhckndehijemaaGq
import Derived.Test.YtdhckndehijemaaGb
import Derived.Test.YtdhckndehijemaaGt
import Derived.Test.YtdhckndehijemaaDm
import Derived.Test.YtdhckndehijemaaMj51
import Derived.Test.YtdhckndehijemaaMj38
import Derived.Test.YtdhckndehijemaaSc
import Derived.Deep.CutBlock
import Derived.Deep.CutRange
import Derived.Deep.RegionHeld3
namespace Go.Proofs.Ytdhckndehijemaa
open Go.RowKit
set_option linter.unusedVariables false
set_option maxRecDepth 100000

theorem GP.same {t : Ty} {p : Pr t.Dat} {z : t.Dat} {w1 w2 w3 w4 : World} {xs : List Int} {us us' : List Value} {al al' : Int} (h : GP t p z w1 w2 xs us al) (k : GP t p z w3 w4 xs us' al') : al' = al ∧ ∃ x, Rel t (Btw w1.heap.size w2.heap.size) w2 us x ∧ Rel t (Btw w3.heap.size w4.heap.size) w4 us' x := by
  obtain ⟨x, e1, r1⟩ := h.out
  obtain ⟨y, e2, r2⟩ := k.out
  have e3 : (x, al) = (y, al') := e1.symm.trans e2
  injection e3 with e4 e5
  subst e4
  exact ⟨e5.symm, x, r1, r2⟩
theorem Rel.num_eq2 {k : IntKind} {F G : Nat → Prop} {w u : World} {n m : Int} {x : Int} (h : Rel (.num k) F w [.int k n] x) (g : Rel (.num k) G u [.int k m] x) : n = m := by
  obtain ⟨h1, -⟩ := h
  obtain ⟨g1, -⟩ := g
  injection h1 with h1
  injection h1 with _ h1
  injection g1 with g1
  injection g1 with _ g1
  rw [h1, g1]
theorem wpAnyH_imp {P : Program} {ops : Array Oper} {Q : Exit → Act → World → Prop} {md : Region.Mode} {S S' : World → Prop} (hi : ∀ w, S' w → S w) : ∀ (fuel : Nat) (listed : Array Bool) (a : Act) (w : World), wpAnyH P md ops Q S' fuel listed a w → wpAnyH P md ops Q S fuel listed a w
  | 0, _, _, _, h => h
  | fuel + 1, _, _, _, h => ⟨h.1, fun i hr => wpOp_mono (fun a' w' h' => ⟨hi _ h'.1, wpAnyH_imp hi fuel _ a' w' h'.2⟩) (h.2 i hr)⟩
/-- What a put answers, as a text. -/
structure PC (S : ByteArray) (u w' : World) (e : Ending) : Prop where
  out : ∃ zo zn zc, e = .returned (.slice zo zn zc) ∧ (∀ q, Chg Non w' q → (convert 23 9 (.slice zo zn zc)).run Try.prog q = .ok (.string S) q) ∧ Chg Non u w'
theorem PO.pc {α : Type} {p : Pw α} {f : Nat} {ar : Array Value} {u : World} {x : α} {S : ByteArray} (hS : S = strOfNums ((p x).getD [])) (h : Calls Try.prog f ar u fun e w' => ∃ v, e = .returned v ∧ PO p u w' v x) : Calls Try.prog f ar u fun e w' => PC S u w' e := by
  refine h.mono ?_
  rintro e w' ⟨v, rfl, ho⟩
  obtain ⟨zo, zn, zc, rfl⟩ := ho.shape
  exact ⟨zo, zn, zc, rfl, fun q hq => by rw [hS]; exact run_str q _ _ (ho.own.chg hq).rd, ho.chg⟩


set_option maxHeartbeats 12800000 in
theorem msgs_law (ao : Option Addr) (L c : Nat) (ma1 : Option Addr) (ml1 mc1 : Nat) (ma2 : Option Addr) (ml2 mc2 : Nat) (tA tB : Int) (ta3 : Option Addr) (tl3 tc3 : Nat) (ta4 : Option Addr) (tl4 tc4 : Nat) (ta5 : Option Addr) (tl5 tc5 : Nat) (vn : Int) (va2 : Option Addr) (vl2 vc2 : Nat)
    (xs : List Int) (m : List Int × List Entry) (t : Int × Int × List Int × List Int × List Ext) (x : Int × List Int) (w : World) (h : Bt (Bel w.heap.size) w (.slice ao L c) xs) (hm : Rel tCert (Bel w.heap.size) w [.slice ma1 ml1 mc1, .slice ma2 ml2 mc2] m) (ht : Rel tTick (Bel w.heap.size) w [.int .u32 tA, .int .u32 tB, .slice ta3 tl3 tc3, .slice ta4 tl4 tc4, .slice ta5 tl5 tc5] t) (hv : Rel tExt (Bel w.heap.size) w [.int .u16 vn, .slice va2 vl2 vc2] x)
    (b1 : List.length (α := Entry) m.2 ≤ 1048576) (b2 : ∀ (j : Nat) (z : Entry), m.2[j]? = some z → List.length (α := Ext) z.2 ≤ 1048576) (b3 : List.length (α := Ext) t.2.2.2.2 ≤ 1048576) : Calls Try.prog 5 #[.slice ao L c, .agg #[.slice ma1 ml1 mc1, .slice ma2 ml2 mc2], .agg #[.int .u32 tA, .int .u32 tB, .slice ta3 tl3 tc3, .slice ta4 tl4 tc4, .slice ta5 tl5 tc5], .agg #[.int .u16 vn, .slice va2 vl2 vc2]] w fun e w' => e = .returned (.bool true) ∧ Chg Non w w' := by
  obtain ⟨W0, hW⟩ : ∃ W0, W0 = ((w.alloc (.cells #[.slice ma1 ml1 mc1, .slice ma2 ml2 mc2] 44)).alloc (.cells #[.int .u32 tA, .int .u32 tB, .slice ta3 tl3 tc3, .slice ta4 tl4 tc4, .slice ta5 tl5 tc5] 47)).alloc (.cells #[.int .u16 vn, .slice va2 vl2 vc2] 49) := ⟨_, rfl⟩
  have cW : Chg Non w W0 := by rw [hW]; exact ((((Chg.refl Non w).alloc _).alloc _).alloc _)
  have HBX : Hid (∀ u, Chg Non W0 u → u.heap[w.heap.size]? = some (.cells #[.slice ma1 ml1 mc1, .slice ma2 ml2 mc2] 44) ∧ u.heap[w.heap.size + 1]? = some (.cells #[.int .u32 tA, .int .u32 tB, .slice ta3 tl3 tc3, .slice ta4 tl4 tc4, .slice ta5 tl5 tc5] 47) ∧ u.heap[w.heap.size + 1 + 1]? = some (.cells #[.int .u16 vn, .slice va2 vl2 vc2] 49)) := fun u hu => by
    have e1 : (w.alloc (.cells #[.slice ma1 ml1 mc1, .slice ma2 ml2 mc2] 44)).heap.size = w.heap.size + 1 := by simp
    have e2 : ((w.alloc (.cells #[.slice ma1 ml1 mc1, .slice ma2 ml2 mc2] 44)).alloc (.cells #[.int .u32 tA, .int .u32 tB, .slice ta3 tl3 tc3, .slice ta4 tl4 tc4, .slice ta5 tl5 tc5] 47)).heap.size = w.heap.size + 1 + 1 := by simp
    have k0 : (w.alloc (.cells #[.slice ma1 ml1 mc1, .slice ma2 ml2 mc2] 44)).heap[w.heap.size]? = some (.cells #[.slice ma1 ml1 mc1, .slice ma2 ml2 mc2] 44) := heap_alloc_last w _
    have k1 : ((w.alloc (.cells #[.slice ma1 ml1 mc1, .slice ma2 ml2 mc2] 44)).alloc (.cells #[.int .u32 tA, .int .u32 tB, .slice ta3 tl3 tc3, .slice ta4 tl4 tc4, .slice ta5 tl5 tc5] 47)).heap[w.heap.size + 1]? = some (.cells #[.int .u32 tA, .int .u32 tB, .slice ta3 tl3 tc3, .slice ta4 tl4 tc4, .slice ta5 tl5 tc5] 47) := by rw [← e1]; exact heap_alloc_last _ _
    have k2 : W0.heap[w.heap.size + 1 + 1]? = some (.cells #[.int .u16 vn, .slice va2 vl2 vc2] 49) := by rw [hW, ← e2]; exact heap_alloc_last _ _
    have c1 : Chg Non (w.alloc (.cells #[.slice ma1 ml1 mc1, .slice ma2 ml2 mc2] 44)) W0 := by rw [hW]; exact (((Chg.refl Non _).alloc _).alloc _)
    have c2 : Chg Non ((w.alloc (.cells #[.slice ma1 ml1 mc1, .slice ma2 ml2 mc2] 44)).alloc (.cells #[.int .u32 tA, .int .u32 tB, .slice ta3 tl3 tc3, .slice ta4 tl4 tc4, .slice ta5 tl5 tc5] 47)) W0 := by rw [hW]; exact ((Chg.refl Non _).alloc _)
    refine ⟨?_, ?_, ?_⟩
    · rw [(c1.two hu).block _ (lt_somW k0) (fun s => s)]; exact k0
    · rw [(c2.two hu).block _ (lt_somW k1) (fun s => s)]; exact k1
    · rw [hu.block _ (lt_somW k2) (fun s => s)]; exact k2
  have CW : Hid (Chg Non w W0) := cW
  have HV : Hid (∀ u, Chg Non W0 u → Bt (Bel u.heap.size) u (.slice ao L c) xs) := fun u hu => (h.oldN (cW.two hu)).bel2 (cW.two hu).size
  have HM : Hid (∀ u, Chg Non W0 u → Rel tCert (Bel u.heap.size) u [.slice ma1 ml1 mc1, .slice ma2 ml2 mc2] m) := fun u hu => (hm.oldN (cW.two hu)).bel2 (cW.two hu).size
  have HT : Hid (∀ u, Chg Non W0 u → Rel tTick (Bel u.heap.size) u [.int .u32 tA, .int .u32 tB, .slice ta3 tl3 tc3, .slice ta4 tl4 tc4, .slice ta5 tl5 tc5] t) := fun u hu => (ht.oldN (cW.two hu)).bel2 (cW.two hu).size
  have HVV : Hid (∀ u, Chg Non W0 u → Rel tExt (Bel u.heap.size) u [.int .u16 vn, .slice va2 vl2 vc2] x) := fun u hu => (hv.oldN (cW.two hu)).bel2 (cW.two hu).size
  have HBN : Hid (List.length (α := Entry) m.2 ≤ 1048576 ∧ (∀ (j : Nat) (z : Entry), m.2[j]? = some z → List.length (α := Ext) z.2 ≤ 1048576) ∧ List.length (α := Ext) t.2.2.2.2 ≤ 1048576) := ⟨b1, b2, b3⟩
  have HW0 : Hid (W0 = ((w.alloc (.cells #[.slice ma1 ml1 mc1, .slice ma2 ml2 mc2] 44)).alloc (.cells #[.int .u32 tA, .int .u32 tB, .slice ta3 tl3 tc3, .slice ta4 tl4 tc4, .slice ta5 tl5 tc5] 47)).alloc (.cells #[.int .u16 vn, .slice va2 vl2 vc2] 49)) := hW
  have hh := head_any W0
  clear h hm ht hv b1 b2 b3 hW cW
  go_enter Try.func5, Try.ntmps5
  go_wp2_with fail
  rw [← HW0.out]
  refine hh.mono ?_
  rintro e w0 ⟨rfl, hc⟩
  have K0 : Hid (Chg Non W0 w0) := hc
  clear hc hh
  have hp := getExts_any (.slice ao L c) xs w0 (HV.out _ K0.out)
  go_wp2_with (go_at_call 26; refine hp.mono ?_)
  rintro e w1a ⟨p1a0, q1a0, r1a0, al1, rfl, q⟩
  have Q1a : Hid (GP (.lst tExt) pExts [] w0 w1a xs [.slice p1a0 q1a0 r1a0] al1) := q
  have C2 : Hid (Chg Non w0 w1a) := q.chg
  have K2 : Hid (Chg Non W0 w1a) := K0.out.two q.chg
  clear q hp
  have hp := dgetexts_any (.slice ao L c) xs w1a (HV.out _ K2.out)
  go_wp2_with (go_at_call 27; refine hp.mono ?_)
  rintro e w1b ⟨p1b0, q1b0, r1b0, bl1, rfl, q⟩
  have Q1b : Hid (GP (.lst tExt) pExts [] w1a w1b xs [.slice p1b0 q1b0 r1b0] bl1) := q
  have C3 : Hid (Chg Non w1a w1b) := q.chg
  have K3 : Hid (Chg Non W0 w1b) := K2.out.two q.chg
  clear q hp
  obtain ⟨rfl, x1, r1, r2⟩ := GP.same Q1a.out Q1b.out
  have hs := sameExts_any _ _ (.slice p1a0 q1a0 r1a0) (.slice p1b0 q1b0 r1b0) x1 w1b (r1.oldN C3.out) (r2)
  go_wp2_with (go_at_call 28; refine hs.mono ?_)
  rintro e v4 ⟨rfl, hc⟩
  have C4 : Hid (Chg Non w1b v4) := hc
  have K4 : Hid (Chg Non W0 v4) := K3.out.two hc
  clear hc hs
  clear r1 r2
  have hp := getCert_any (.slice ao L c) xs v4 (HV.out _ K4.out)
  go_wp2_with (go_at_call 29; refine hp.mono ?_)
  rintro e w5a ⟨p5a0, q5a0, r5a0, p5a1, q5a1, r5a1, al5, rfl, q⟩
  have Q5a : Hid (GP tCert pCert ([], []) v4 w5a xs [.slice p5a0 q5a0 r5a0, .slice p5a1 q5a1 r5a1] al5) := q
  have C6 : Hid (Chg Non v4 w5a) := q.chg
  have K6 : Hid (Chg Non W0 w5a) := K4.out.two q.chg
  clear q hp
  obtain ⟨y7, hy7⟩ : ∃ y, y = w5a.alloc (.cells #[.slice p5a0 q5a0 r5a0, .slice p5a1 q5a1 r5a1] 44) := ⟨_, rfl⟩
  have D7 : Hid (Chg Non w5a y7) := by rw [hy7]; exact (Chg.refl _ _).alloc _
  have E7 : Hid (y7.heap[w5a.heap.size]? = some (.cells #[.slice p5a0 q5a0 r5a0, .slice p5a1 q5a1 r5a1] 44)) := by rw [hy7]; exact heap_alloc_last _ _
  have HY7 : Hid (y7 = w5a.alloc (.cells #[.slice p5a0 q5a0 r5a0, .slice p5a1 q5a1 r5a1] 44)) := hy7
  have K7 : Hid (Chg Non W0 y7) := K6.out.two D7.out
  clear hy7
  have hp := dgetcert_any (.slice ao L c) xs y7 (HV.out _ K7.out)
  go_wp2_with fail
  rw [← HY7.out]
  refine hp.mono ?_
  rintro e w5b ⟨p5b0, q5b0, r5b0, p5b1, q5b1, r5b1, bl5, rfl, q⟩
  have Q5b : Hid (GP tCert pCert ([], []) y7 w5b xs [.slice p5b0 q5b0 r5b0, .slice p5b1 q5b1 r5b1] bl5) := q
  have C8 : Hid (Chg Non y7 w5b) := q.chg
  have K8 : Hid (Chg Non W0 w5b) := K7.out.two q.chg
  clear q hp
  obtain ⟨y9, hy9⟩ : ∃ y, y = w5b.alloc (.cells #[.slice p5b0 q5b0 r5b0, .slice p5b1 q5b1 r5b1] 44) := ⟨_, rfl⟩
  have D9 : Hid (Chg Non w5b y9) := by rw [hy9]; exact (Chg.refl _ _).alloc _
  have E9 : Hid (y9.heap[w5b.heap.size]? = some (.cells #[.slice p5b0 q5b0 r5b0, .slice p5b1 q5b1 r5b1] 44)) := by rw [hy9]; exact heap_alloc_last _ _
  have HY9 : Hid (y9 = w5b.alloc (.cells #[.slice p5b0 q5b0 r5b0, .slice p5b1 q5b1 r5b1] 44)) := hy9
  have K9 : Hid (Chg Non W0 y9) := K8.out.two D9.out
  clear hy9
  obtain ⟨rfl, x5, r1, r2⟩ := GP.same Q5a.out Q5b.out
  have t1 := r1.oldN ((D7.out.two C8.out).two D9.out)
  have t2 := r2.oldN D9.out
  have hE : y9.heap[w5a.heap.size]? = some (.cells #[.slice p5a0 q5a0 r5a0, .slice p5a1 q5a1 r5a1] 44) := by
    rw [(C8.out.two D9.out).block _ (lt_somW E7.out) (fun s => s)]; exact E7.out
  have s0 := cell_at 0 hE rfl
  have s1 := cell_at 1 hE rfl
  rw [HY9.out] at s0 s1
  clear r1 r2
  have hs := sameCert_any _ _ p5a0 q5a0 r5a0 p5a1 q5a1 r5a1 p5b0 q5b0 r5b0 p5b1 q5b1 r5b1 x5 y9 (t1) (t2)
  go_wp2_with fail
  rw [← HY9.out]
  refine hs.mono ?_
  rintro e v10 ⟨rfl, hc⟩
  have C10 : Hid (Chg Non y9 v10) := hc
  have K10 : Hid (Chg Non W0 v10) := K9.out.two hc
  clear hc hs
  clear t1 t2 hE s0 s1
  have hp := getRequest_any (.slice ao L c) xs v10 (HV.out _ K10.out)
  go_wp2_with (go_at_call 32; refine hp.mono ?_)
  rintro e w11a ⟨p11a0, q11a0, r11a0, p11a1, q11a1, r11a1, al11, rfl, q⟩
  have Q11a : Hid (GP tReq pReq ([], []) v10 w11a xs [.slice p11a0 q11a0 r11a0, .slice p11a1 q11a1 r11a1] al11) := q
  have C12 : Hid (Chg Non v10 w11a) := q.chg
  have K12 : Hid (Chg Non W0 w11a) := K10.out.two q.chg
  clear q hp
  obtain ⟨y13, hy13⟩ : ∃ y, y = w11a.alloc (.cells #[.slice p11a0 q11a0 r11a0, .slice p11a1 q11a1 r11a1] 57) := ⟨_, rfl⟩
  have D13 : Hid (Chg Non w11a y13) := by rw [hy13]; exact (Chg.refl _ _).alloc _
  have E13 : Hid (y13.heap[w11a.heap.size]? = some (.cells #[.slice p11a0 q11a0 r11a0, .slice p11a1 q11a1 r11a1] 57)) := by rw [hy13]; exact heap_alloc_last _ _
  have HY13 : Hid (y13 = w11a.alloc (.cells #[.slice p11a0 q11a0 r11a0, .slice p11a1 q11a1 r11a1] 57)) := hy13
  have K13 : Hid (Chg Non W0 y13) := K12.out.two D13.out
  clear hy13
  have hp := dgetreq_any (.slice ao L c) xs y13 (HV.out _ K13.out)
  go_wp2_with fail
  rw [← HY13.out]
  refine hp.mono ?_
  rintro e w11b ⟨p11b0, q11b0, r11b0, p11b1, q11b1, r11b1, bl11, rfl, q⟩
  have Q11b : Hid (GP tReq pReq ([], []) y13 w11b xs [.slice p11b0 q11b0 r11b0, .slice p11b1 q11b1 r11b1] bl11) := q
  have C14 : Hid (Chg Non y13 w11b) := q.chg
  have K14 : Hid (Chg Non W0 w11b) := K13.out.two q.chg
  clear q hp
  obtain ⟨y15, hy15⟩ : ∃ y, y = w11b.alloc (.cells #[.slice p11b0 q11b0 r11b0, .slice p11b1 q11b1 r11b1] 57) := ⟨_, rfl⟩
  have D15 : Hid (Chg Non w11b y15) := by rw [hy15]; exact (Chg.refl _ _).alloc _
  have E15 : Hid (y15.heap[w11b.heap.size]? = some (.cells #[.slice p11b0 q11b0 r11b0, .slice p11b1 q11b1 r11b1] 57)) := by rw [hy15]; exact heap_alloc_last _ _
  have HY15 : Hid (y15 = w11b.alloc (.cells #[.slice p11b0 q11b0 r11b0, .slice p11b1 q11b1 r11b1] 57)) := hy15
  have K15 : Hid (Chg Non W0 y15) := K14.out.two D15.out
  clear hy15
  obtain ⟨rfl, x11, r1, r2⟩ := GP.same Q11a.out Q11b.out
  have t1 := r1.oldN ((D13.out.two C14.out).two D15.out)
  have t2 := r2.oldN D15.out
  have hE : y15.heap[w11a.heap.size]? = some (.cells #[.slice p11a0 q11a0 r11a0, .slice p11a1 q11a1 r11a1] 57) := by
    rw [(C14.out.two D15.out).block _ (lt_somW E13.out) (fun s => s)]; exact E13.out
  have s0 := cell_at 0 hE rfl
  have s1 := cell_at 1 hE rfl
  rw [HY15.out] at s0 s1
  clear r1 r2
  obtain ⟨g1, g2⟩ := Rel.split (us1 := [.slice p11a0 q11a0 r11a0]) (us2 := [.slice p11a1 q11a1 r11a1]) t1 rfl
  obtain ⟨f1, f2⟩ := Rel.split (us1 := [.slice p11b0 q11b0 r11b0]) (us2 := [.slice p11b1 q11b1 r11b1]) t2 rfl
  have HRA : Hid (y15.heap[w11a.heap.size]? = some (.cells #[.slice p11a0 q11a0 r11a0, .slice p11a1 q11a1 r11a1] 57) ∧ y15.heap[w11b.heap.size]? = some (.cells #[.slice p11b0 q11b0 r11b0, .slice p11b1 q11b1 r11b1] 57)) := ⟨hE, E15.out⟩
  obtain ⟨T, hT⟩ : ∃ T, T = strOfNums x11.1 := ⟨_, rfl⟩
  have HRC : Hid (∀ u, Chg Non y15 u → (convert 23 9 (.slice p11a0 q11a0 r11a0)).run Try.prog u = .ok (.string T) u ∧ (convert 23 9 (.slice p11b0 q11b0 r11b0)).run Try.prog u = .ok (.string T) u) := fun u hu => by rw [hT]; exact ⟨g1.conv hu, f1.conv hu⟩
  clear hT
  have hs := sameExts_any _ _ (.slice p11a1 q11a1 r11a1) (.slice p11b1 q11b1 r11b1) x11.2 y15 (g2) (f2)
  go_wp2_with fail
  rw [← HY15.out]
  refine hs.mono ?_
  rintro e v16 ⟨rfl, hc⟩
  have C16 : Hid (Chg Non y15 v16) := hc
  have K16 : Hid (Chg Non W0 v16) := K15.out.two hc
  clear hc hs
  clear t1 t2 hE s0 s1
  clear g1 g2 f1 f2
  have hp := getVerify_any (.slice ao L c) xs v16 (HV.out _ K16.out)
  go_wp2_with (go_at_call 34; refine hp.mono ?_)
  rintro e w17a ⟨n17a0, p17a1, q17a1, r17a1, al17, rfl, q⟩
  have Q17a : Hid (GP tExt pVer ((0 : Int), []) v16 w17a xs [.int .u16 n17a0, .slice p17a1 q17a1 r17a1] al17) := q
  have C18 : Hid (Chg Non v16 w17a) := q.chg
  have K18 : Hid (Chg Non W0 w17a) := K16.out.two q.chg
  clear q hp
  obtain ⟨y19, hy19⟩ : ∃ y, y = w17a.alloc (.cells #[.int .u16 n17a0, .slice p17a1 q17a1 r17a1] 49) := ⟨_, rfl⟩
  have D19 : Hid (Chg Non w17a y19) := by rw [hy19]; exact (Chg.refl _ _).alloc _
  have E19 : Hid (y19.heap[w17a.heap.size]? = some (.cells #[.int .u16 n17a0, .slice p17a1 q17a1 r17a1] 49)) := by rw [hy19]; exact heap_alloc_last _ _
  have HY19 : Hid (y19 = w17a.alloc (.cells #[.int .u16 n17a0, .slice p17a1 q17a1 r17a1] 49)) := hy19
  have K19 : Hid (Chg Non W0 y19) := K18.out.two D19.out
  clear hy19
  have hp := dgetver2_any (.slice ao L c) xs y19 (HV.out _ K19.out)
  go_wp2_with fail
  rw [← HY19.out]
  refine hp.mono ?_
  rintro e w17b ⟨n17b0, p17b1, q17b1, r17b1, bl17, rfl, q⟩
  have Q17b : Hid (GP tExt pVer ((0 : Int), []) y19 w17b xs [.int .u16 n17b0, .slice p17b1 q17b1 r17b1] bl17) := q
  have C20 : Hid (Chg Non y19 w17b) := q.chg
  have K20 : Hid (Chg Non W0 w17b) := K19.out.two q.chg
  clear q hp
  obtain ⟨y21, hy21⟩ : ∃ y, y = w17b.alloc (.cells #[.int .u16 n17b0, .slice p17b1 q17b1 r17b1] 49) := ⟨_, rfl⟩
  have D21 : Hid (Chg Non w17b y21) := by rw [hy21]; exact (Chg.refl _ _).alloc _
  have E21 : Hid (y21.heap[w17b.heap.size]? = some (.cells #[.int .u16 n17b0, .slice p17b1 q17b1 r17b1] 49)) := by rw [hy21]; exact heap_alloc_last _ _
  have HY21 : Hid (y21 = w17b.alloc (.cells #[.int .u16 n17b0, .slice p17b1 q17b1 r17b1] 49)) := hy21
  have K21 : Hid (Chg Non W0 y21) := K20.out.two D21.out
  clear hy21
  obtain ⟨rfl, x17, r1, r2⟩ := GP.same Q17a.out Q17b.out
  have t1 := r1.oldN ((D19.out.two C20.out).two D21.out)
  have t2 := r2.oldN D21.out
  have hE : y21.heap[w17a.heap.size]? = some (.cells #[.int .u16 n17a0, .slice p17a1 q17a1 r17a1] 49) := by
    rw [(C20.out.two D21.out).block _ (lt_somW E19.out) (fun s => s)]; exact E19.out
  have s0 := cell_at 0 hE rfl
  have s1 := cell_at 1 hE rfl
  rw [HY21.out] at s0 s1
  clear r1 r2
  obtain ⟨g1, g2⟩ := Rel.split (us1 := [.int .u16 n17a0]) (us2 := [.slice p17a1 q17a1 r17a1]) t1 rfl
  obtain ⟨f1, f2⟩ := Rel.split (us1 := [.int .u16 n17b0]) (us2 := [.slice p17b1 q17b1 r17b1]) t2 rfl
  obtain rfl : n17a0 = n17b0 := Rel.num_eq2 g1 f1
  have j1 := g2.conv (Chg.refl Non y21)
  have j2 := f2.conv (Chg.refl Non y21)
  obtain ⟨T17, hT17⟩ : ∃ T, T = strOfNums x17.2 := ⟨_, rfl⟩
  rw [← hT17] at j1 j2
  rw [HY21.out] at j1 j2
  clear hT17 t1 t2 hE g1 g2 f1 f2
  have hp := getTicket_any (.slice ao L c) xs y21 (HV.out _ K21.out)
  go_wp2_with fail
  rw [← HY21.out]
  refine hp.mono ?_
  rintro e w22a ⟨n22a0, n22a1, p22a2, q22a2, r22a2, p22a3, q22a3, r22a3, p22a4, q22a4, r22a4, al22, rfl, q⟩
  have Q22a : Hid (GP tTick pTick ((0 : Int), (0 : Int), [], [], []) y21 w22a xs [.int .u32 n22a0, .int .u32 n22a1, .slice p22a2 q22a2 r22a2, .slice p22a3 q22a3 r22a3, .slice p22a4 q22a4 r22a4] al22) := q
  have C23 : Hid (Chg Non y21 w22a) := q.chg
  have K23 : Hid (Chg Non W0 w22a) := K21.out.two q.chg
  clear q hp
  obtain ⟨y24, hy24⟩ : ∃ y, y = w22a.alloc (.cells #[.int .u32 n22a0, .int .u32 n22a1, .slice p22a2 q22a2 r22a2, .slice p22a3 q22a3 r22a3, .slice p22a4 q22a4 r22a4] 47) := ⟨_, rfl⟩
  have D24 : Hid (Chg Non w22a y24) := by rw [hy24]; exact (Chg.refl _ _).alloc _
  have E24 : Hid (y24.heap[w22a.heap.size]? = some (.cells #[.int .u32 n22a0, .int .u32 n22a1, .slice p22a2 q22a2 r22a2, .slice p22a3 q22a3 r22a3, .slice p22a4 q22a4 r22a4] 47)) := by rw [hy24]; exact heap_alloc_last _ _
  have HY24 : Hid (y24 = w22a.alloc (.cells #[.int .u32 n22a0, .int .u32 n22a1, .slice p22a2 q22a2 r22a2, .slice p22a3 q22a3 r22a3, .slice p22a4 q22a4 r22a4] 47)) := hy24
  have K24 : Hid (Chg Non W0 y24) := K23.out.two D24.out
  clear hy24
  have hp := dgettick_any (.slice ao L c) xs y24 (HV.out _ K24.out)
  go_wp2_with fail
  rw [← HY24.out]
  refine hp.mono ?_
  rintro e w22b ⟨n22b0, n22b1, p22b2, q22b2, r22b2, p22b3, q22b3, r22b3, p22b4, q22b4, r22b4, bl22, rfl, q⟩
  have Q22b : Hid (GP tTick pTick ((0 : Int), (0 : Int), [], [], []) y24 w22b xs [.int .u32 n22b0, .int .u32 n22b1, .slice p22b2 q22b2 r22b2, .slice p22b3 q22b3 r22b3, .slice p22b4 q22b4 r22b4] bl22) := q
  have C25 : Hid (Chg Non y24 w22b) := q.chg
  have K25 : Hid (Chg Non W0 w22b) := K24.out.two q.chg
  clear q hp
  obtain ⟨y26, hy26⟩ : ∃ y, y = w22b.alloc (.cells #[.int .u32 n22b0, .int .u32 n22b1, .slice p22b2 q22b2 r22b2, .slice p22b3 q22b3 r22b3, .slice p22b4 q22b4 r22b4] 47) := ⟨_, rfl⟩
  have D26 : Hid (Chg Non w22b y26) := by rw [hy26]; exact (Chg.refl _ _).alloc _
  have E26 : Hid (y26.heap[w22b.heap.size]? = some (.cells #[.int .u32 n22b0, .int .u32 n22b1, .slice p22b2 q22b2 r22b2, .slice p22b3 q22b3 r22b3, .slice p22b4 q22b4 r22b4] 47)) := by rw [hy26]; exact heap_alloc_last _ _
  have HY26 : Hid (y26 = w22b.alloc (.cells #[.int .u32 n22b0, .int .u32 n22b1, .slice p22b2 q22b2 r22b2, .slice p22b3 q22b3 r22b3, .slice p22b4 q22b4 r22b4] 47)) := hy26
  have K26 : Hid (Chg Non W0 y26) := K25.out.two D26.out
  clear hy26
  obtain ⟨rfl, x22, r1, r2⟩ := GP.same Q22a.out Q22b.out
  have t1 := r1.oldN ((D24.out.two C25.out).two D26.out)
  have t2 := r2.oldN D26.out
  have hE : y26.heap[w22a.heap.size]? = some (.cells #[.int .u32 n22a0, .int .u32 n22a1, .slice p22a2 q22a2 r22a2, .slice p22a3 q22a3 r22a3, .slice p22a4 q22a4 r22a4] 47) := by
    rw [(C25.out.two D26.out).block _ (lt_somW E24.out) (fun s => s)]; exact E24.out
  have s0 := cell_at 0 hE rfl
  have s1 := cell_at 1 hE rfl
  have s2 := cell_at 2 hE rfl
  have s3 := cell_at 3 hE rfl
  have s4 := cell_at 4 hE rfl
  rw [HY26.out] at s0 s1 s2 s3 s4
  clear r1 r2
  have hs := sameTicket_any _ _ n22a0 n22a1 n22b0 n22b1 p22a2 q22a2 r22a2 p22a3 q22a3 r22a3 p22a4 q22a4 r22a4 p22b2 q22b2 r22b2 p22b3 q22b3 r22b3 p22b4 q22b4 r22b4 x22 y26 (t1) (t2)
  go_wp2_with fail
  rw [← HY26.out]
  refine hs.mono ?_
  rintro e v27 ⟨rfl, hc⟩
  have C27 : Hid (Chg Non y26 v27) := hc
  have K27 : Hid (Chg Non W0 v27) := K26.out.two hc
  clear hc hs
  clear t1 t2 hE s0 s1 s2 s3 s4
  obtain ⟨S1, hS1⟩ : ∃ T, T = strOfNums ((wCert m).getD []) := ⟨_, rfl⟩
  obtain ⟨S2, hS2⟩ : ∃ T, T = strOfNums ((wTick t).getD []) := ⟨_, rfl⟩
  obtain ⟨S3, hS3⟩ : ∃ T, T = strOfNums ((wVer x).getD []) := ⟨_, rfl⟩
  obtain ⟨S4, hS4⟩ : ∃ T, T = strOfNums ((wReq (m.1, t.2.2.2.2)).getD []) := ⟨_, rfl⟩
  obtain ⟨S5, hS5⟩ : ∃ T, T = strOfNums ((wExts t.2.2.2.2).getD []) := ⟨_, rfl⟩
  have HRQ : Hid (∀ u, Chg Non W0 u → Rel tReq (Bel u.heap.size) u [.slice ma1 ml1 mc1, .slice ta5 tl5 tc5] (m.1, t.2.2.2.2) ∧ Rel (.lst tExt) (Bel u.heap.size) u [.slice ta5 tl5 tc5] t.2.2.2.2) := fun u hu => by
    obtain ⟨g1, g2⟩ := Rel.split (us1 := [.slice ma1 ml1 mc1]) (us2 := [.slice ma2 ml2 mc2]) (HM.out u hu) rfl
    obtain ⟨f1, f2⟩ := Rel.split (us1 := [.int .u32 tA]) (us2 := [.int .u32 tB, .slice ta3 tl3 tc3, .slice ta4 tl4 tc4, .slice ta5 tl5 tc5]) (HT.out u hu) rfl
    obtain ⟨f3, f4⟩ := Rel.split (us1 := [.int .u32 tB]) (us2 := [.slice ta3 tl3 tc3, .slice ta4 tl4 tc4, .slice ta5 tl5 tc5]) f2 rfl
    obtain ⟨f5, f6⟩ := Rel.split (us1 := [.slice ta3 tl3 tc3]) (us2 := [.slice ta4 tl4 tc4, .slice ta5 tl5 tc5]) f4 rfl
    obtain ⟨f7, f8⟩ := Rel.split (us1 := [.slice ta4 tl4 tc4]) (us2 := [.slice ta5 tl5 tc5]) f6 rfl
    exact ⟨⟨[_], [_], rfl, g1, f8⟩, f8⟩
  have H39 : Hid (∀ u, Chg Non W0 u → Calls Try.prog 39 #[.agg #[.slice ma1 ml1 mc1, .slice ma2 ml2 mc2]] u fun e w' => PC S1 u w' e) := fun u hu => PO.pc hS1 (putCert_any ma1 ml1 mc1 ma2 ml2 mc2 m u (HM.out u hu))
  have H40 : Hid (∀ u, Chg Non W0 u → Calls Try.prog 40 #[.agg #[.slice ma1 ml1 mc1, .slice ma2 ml2 mc2]] u fun e w' => PC S1 u w' e) := fun u hu => PO.pc hS1 (dputCert_any ma1 ml1 mc1 ma2 ml2 mc2 m u (HM.out u hu) HBN.out.1 HBN.out.2.1)
  have H41 : Hid (∀ u, Chg Non W0 u → Calls Try.prog 41 #[.agg #[.int .u32 tA, .int .u32 tB, .slice ta3 tl3 tc3, .slice ta4 tl4 tc4, .slice ta5 tl5 tc5]] u fun e w' => PC S2 u w' e) := fun u hu => PO.pc hS2 (putTicket_any tA tB ta3 tl3 tc3 ta4 tl4 tc4 ta5 tl5 tc5 t u (HT.out u hu))
  have H42 : Hid (∀ u, Chg Non W0 u → Calls Try.prog 42 #[.agg #[.int .u32 tA, .int .u32 tB, .slice ta3 tl3 tc3, .slice ta4 tl4 tc4, .slice ta5 tl5 tc5]] u fun e w' => PC S2 u w' e) := fun u hu => PO.pc hS2 (dputTick_any tA tB ta3 tl3 tc3 ta4 tl4 tc4 ta5 tl5 tc5 t u (HT.out u hu) HBN.out.2.2)
  have H43 : Hid (∀ u, Chg Non W0 u → Calls Try.prog 43 #[.agg #[.int .u16 vn, .slice va2 vl2 vc2]] u fun e w' => PC S3 u w' e) := fun u hu => PO.pc hS3 (putVerify_any vn va2 vl2 vc2 x u (HVV.out u hu))
  have H44 : Hid (∀ u, Chg Non W0 u → Calls Try.prog 44 #[.agg #[.int .u16 vn, .slice va2 vl2 vc2]] u fun e w' => PC S3 u w' e) := fun u hu => PO.pc hS3 (dputVer_any vn va2 vl2 vc2 x u (HVV.out u hu))
  have H45 : Hid (∀ u, Chg Non W0 u → Calls Try.prog 45 #[.agg #[.slice ma1 ml1 mc1, .slice ta5 tl5 tc5]] u fun e w' => PC S4 u w' e) := fun u hu => PO.pc hS4 (putRequest_any ma1 ml1 mc1 ta5 tl5 tc5 (m.1, t.2.2.2.2) u (HRQ.out u hu).1)
  have H46 : Hid (∀ u, Chg Non W0 u → Calls Try.prog 46 #[.agg #[.slice ma1 ml1 mc1, .slice ta5 tl5 tc5]] u fun e w' => PC S4 u w' e) := fun u hu => PO.pc hS4 (dputReq_any ma1 ml1 mc1 ta5 tl5 tc5 (m.1, t.2.2.2.2) u (HRQ.out u hu).1 HBN.out.2.2)
  have H47 : Hid (∀ u, Chg Non W0 u → Calls Try.prog 47 #[.slice ta5 tl5 tc5] u fun e w' => PC S5 u w' e) := fun u hu => PO.pc hS5 (putExts_any ta5 tl5 tc5 t.2.2.2.2 u (HRQ.out u hu).2)
  have H48 : Hid (∀ u, Chg Non W0 u → Calls Try.prog 48 #[.slice ta5 tl5 tc5] u fun e w' => PC S5 u w' e) := fun u hu => PO.pc hS5 (dputExts_any ta5 tl5 tc5 t.2.2.2.2 u (HRQ.out u hu).2 HBN.out.2.2)
  clear hS1 hS2 hS3 hS4 hS5
  have HSC : Hid (∀ u, Chg Non W0 u → u.cell? ⟨w.heap.size, 0, none⟩ = some (.slice ma1 ml1 mc1) ∧ u.cell? ⟨w.heap.size, 1, none⟩ = some (.slice ma2 ml2 mc2) ∧ u.cell? ⟨w.heap.size + 1, 0, none⟩ = some (.int .u32 tA) ∧ u.cell? ⟨w.heap.size + 1, 1, none⟩ = some (.int .u32 tB) ∧ u.cell? ⟨w.heap.size + 1, 2, none⟩ = some (.slice ta3 tl3 tc3) ∧ u.cell? ⟨w.heap.size + 1, 3, none⟩ = some (.slice ta4 tl4 tc4) ∧ u.cell? ⟨w.heap.size + 1, 4, none⟩ = some (.slice ta5 tl5 tc5) ∧ u.cell? ⟨w.heap.size + 1 + 1, 0, none⟩ = some (.int .u16 vn) ∧ u.cell? ⟨w.heap.size + 1 + 1, 1, none⟩ = some (.slice va2 vl2 vc2)) := fun u hu => ⟨cell_at 0 (HBX.out u hu).1 rfl, cell_at 1 (HBX.out u hu).1 rfl, cell_at 0 (HBX.out u hu).2.1 rfl, cell_at 1 (HBX.out u hu).2.1 rfl, cell_at 2 (HBX.out u hu).2.1 rfl, cell_at 3 (HBX.out u hu).2.1 rfl, cell_at 4 (HBX.out u hu).2.1 rfl, cell_at 0 (HBX.out u hu).2.2 rfl, cell_at 1 (HBX.out u hu).2.2 rfl⟩
  go_upto_region 17 with fail
  go_cut [35] from 116 to 140 (fun u35 wc => u35 = .bool true ∧ Hid (Chg Non v27 wc))
  case first =>
    have hSS : Chg Non v27 v27.drew := (Chg.refl Non _).drew
    have kS : Chg Non v27 v27 := Chg.refl Non _
    refine wp_region_held_drew (S := fun u => Chg Non v27 u) (by kernel_rfl) hSS (fun _ => ?_)
    refine wpAnyH_take (i := 0) (oi := { dst := some 116, op := Go.Op.load 44 (Go.Operand.tmp 5), type := 44, pos := "law.go:63", after := #[], guard := none }) (v := ?_) rfl (by kernel_rfl) (by kernel_rfl) (by kernel_rfl) (fun _ _ _ h => h) (Or.inl ⟨by rfl, ?_⟩) hSS ?_
    rotate_left
    · intro u hu
      have hu : Chg Non _ u := hu
      have hc := HSC.out u (K27.out.two (kS.two hu))
      go_split_ands
      go_simp
      try with_reducible rfl
    try simp only [Act.put, List.setIfInBounds_toArray, List.set_cons_zero, List.set_cons_succ]
    refine wpAnyH_take (i := 3) (oi := { dst := some 119, op := Go.Op.load 44 (Go.Operand.tmp 5), type := 44, pos := "law.go:63", after := #[], guard := none }) (v := ?_) rfl (by kernel_rfl) (by kernel_rfl) (by kernel_rfl) (fun _ _ _ h => h) (Or.inl ⟨by rfl, ?_⟩) hSS ?_
    rotate_left
    · intro u hu
      have hu : Chg Non _ u := hu
      have hc := HSC.out u (K27.out.two (kS.two hu))
      go_split_ands
      go_simp
      try with_reducible rfl
    try simp only [Act.put, List.setIfInBounds_toArray, List.set_cons_zero, List.set_cons_succ]
    refine wpAnyH_ready (rs := [1]) (by kernel_rfl) (by simp) ?_
    refine AllReadyH.cons (o := { dst := some 117, op := Go.Op.call { callee := Go.Callee.value (Go.Operand.func 39), args := #[Go.Operand.tmp 116], argTypes := #[44] }, type := 23, pos := "law.go:63", after := #[{ on := 0, ground := Go.Ground.data }], guard := none }) rfl (fun K hK => ?_) AllReadyH.nil
    go_simp
    go_at_call 39
    refine (H39.out _ (K27.out.two (kS.two hSS))).mono ?_
    rintro e x39 ⟨zo39, zn39, zc39, rfl, cF39, o39⟩
    have c39 : Chg Non v27 x39 := hSS.two o39
    have e39 : ∀ q, Chg Non x39 q → (convert 23 9 (.slice zo39 zn39 zc39)).run Try.prog q = .ok (.string S1) q := cF39
    refine hK.out _ _ c39 (fun _ => wpAnyH_imp (S' := fun u => Chg Non x39 u) (fun u hu => c39.two hu) _ _ _ _ ?_)
    clear hK K hSS
    have kT : Chg Non v27 x39 := kS.two c39
    clear kS o39 cF39 c39
    have kS := kT
    clear kT
    have hSS : Chg Non x39 x39 := Chg.refl Non _
    try simp only [Act.put, List.setIfInBounds_toArray, List.set_cons_zero, List.set_cons_succ]
    refine wpAnyH_take (i := 2) (oi := { dst := some 118, op := Go.Op.convert 23 9 (Go.Operand.tmp 117), type := 9, pos := "law.go:63", after := #[{ on := 1, ground := Go.Ground.data }], guard := none }) (v := ?_) rfl (by kernel_rfl) (by kernel_rfl) (by kernel_rfl) (fun _ _ _ h => h) (Or.inl ⟨by rfl, ?_⟩) hSS ?_
    rotate_left
    · intro u hu
      have hu : Chg Non _ u := hu
      have hc := e39 u hu
      go_simp
      try with_reducible rfl
    try simp only [Act.put, List.setIfInBounds_toArray, List.set_cons_zero, List.set_cons_succ]
    refine wpAnyH_ready (rs := [4]) (by kernel_rfl) (by simp) ?_
    refine AllReadyH.cons (o := { dst := some 120, op := Go.Op.call { callee := Go.Callee.value (Go.Operand.func 40), args := #[Go.Operand.tmp 119], argTypes := #[44] }, type := 23, pos := "law.go:63", after := #[{ on := 3, ground := Go.Ground.data }, { on := 1, ground := Go.Ground.chain }], guard := none }) rfl (fun K hK => ?_) AllReadyH.nil
    go_simp
    go_at_call 40
    refine (H40.out _ (K27.out.two (kS.two hSS))).mono ?_
    rintro e x40 ⟨zo40, zn40, zc40, rfl, cF40, o40⟩
    have c40 : Chg Non x39 x40 := hSS.two o40
    have e40 : ∀ q, Chg Non x40 q → (convert 23 9 (.slice zo40 zn40 zc40)).run Try.prog q = .ok (.string S1) q := cF40
    refine hK.out _ _ c40 (fun _ => wpAnyH_imp (S' := fun u => Chg Non x40 u) (fun u hu => c40.two hu) _ _ _ _ ?_)
    clear hK K hSS
    have kT : Chg Non v27 x40 := kS.two c40
    clear kS o40 cF40 c40
    have kS := kT
    clear kT
    have hSS : Chg Non x40 x40 := Chg.refl Non _
    try simp only [Act.put, List.setIfInBounds_toArray, List.set_cons_zero, List.set_cons_succ]
    refine wpAnyH_take (i := 5) (oi := { dst := some 121, op := Go.Op.convert 23 9 (Go.Operand.tmp 120), type := 9, pos := "law.go:63", after := #[{ on := 4, ground := Go.Ground.data }], guard := none }) (v := ?_) rfl (by kernel_rfl) (by kernel_rfl) (by kernel_rfl) (fun _ _ _ h => h) (Or.inl ⟨by rfl, ?_⟩) hSS ?_
    rotate_left
    · intro u hu
      have hu : Chg Non _ u := hu
      have hc := e40 u hu
      go_simp
      try with_reducible rfl
    try simp only [Act.put, List.setIfInBounds_toArray, List.set_cons_zero, List.set_cons_succ]
    refine wpAnyH_take (i := 6) (oi := { dst := some 122, op := Go.Op.binOp Go.BinOp.eql 9 (Go.Operand.tmp 118) (Go.Operand.tmp 121) 9, type := 4, pos := "law.go:63", after := #[{ on := 2, ground := Go.Ground.data }, { on := 5, ground := Go.Ground.data }], guard := none }) (v := ?_) rfl (by kernel_rfl) (by kernel_rfl) (by kernel_rfl) (fun _ _ _ h => h) (Or.inl ⟨by rfl, ?_⟩) hSS ?_
    rotate_left
    · intro u hu
      have hu : Chg Non _ u := hu
      go_simp
      try with_reducible rfl
    try simp only [Act.put, List.setIfInBounds_toArray, List.set_cons_zero, List.set_cons_succ]
    refine wpAnyH_take (i := 7) (oi := { dst := some 123, op := Go.Op.move (Go.Operand.tmp 122), type := 4, pos := "law.go:63", after := #[{ on := 6, ground := Go.Ground.data }, { on := 4, ground := Go.Ground.chain }], guard := none }) (v := ?_) rfl (by kernel_rfl) (by kernel_rfl) (by kernel_rfl) (fun _ _ _ h => h) (Or.inl ⟨by rfl, ?_⟩) hSS ?_
    rotate_left
    · intro u hu
      have hu : Chg Non _ u := hu
      go_simp
      try with_reducible rfl
    try simp only [Act.put, List.setIfInBounds_toArray, List.set_cons_zero, List.set_cons_succ]
    refine wpAnyH_take (i := 8) (oi := { dst := some 124, op := Go.Op.load 47 (Go.Operand.tmp 6), type := 47, pos := "law.go:63", after := #[{ on := 7, ground := Go.Ground.guard }], guard := some (7, true) }) (v := ?_) rfl (by kernel_rfl) (by kernel_rfl) (by kernel_rfl) (fun _ _ _ h => h) (Or.inl ⟨by rfl, ?_⟩) hSS ?_
    rotate_left
    · intro u hu
      have hu : Chg Non _ u := hu
      have hc := HSC.out u (K27.out.two (kS.two hu))
      go_split_ands
      go_simp
      try with_reducible rfl
    try simp only [Act.put, List.setIfInBounds_toArray, List.set_cons_zero, List.set_cons_succ]
    refine wpAnyH_take (i := 11) (oi := { dst := some 127, op := Go.Op.load 47 (Go.Operand.tmp 6), type := 47, pos := "law.go:63", after := #[{ on := 7, ground := Go.Ground.guard }], guard := some (7, true) }) (v := ?_) rfl (by kernel_rfl) (by kernel_rfl) (by kernel_rfl) (fun _ _ _ h => h) (Or.inl ⟨by rfl, ?_⟩) hSS ?_
    rotate_left
    · intro u hu
      have hu : Chg Non _ u := hu
      have hc := HSC.out u (K27.out.two (kS.two hu))
      go_split_ands
      go_simp
      try with_reducible rfl
    try simp only [Act.put, List.setIfInBounds_toArray, List.set_cons_zero, List.set_cons_succ]
    refine wpAnyH_ready (rs := [9]) (by kernel_rfl) (by simp) ?_
    refine AllReadyH.cons (o := { dst := some 125, op := Go.Op.call { callee := Go.Callee.value (Go.Operand.func 41), args := #[Go.Operand.tmp 124], argTypes := #[47] }, type := 23, pos := "law.go:63", after := #[{ on := 8, ground := Go.Ground.data }, { on := 7, ground := Go.Ground.chain }, { on := 7, ground := Go.Ground.guard }], guard := some (7, true) }) rfl (fun K hK => ?_) AllReadyH.nil
    go_simp
    go_at_call 41
    refine (H41.out _ (K27.out.two (kS.two hSS))).mono ?_
    rintro e x41 ⟨zo41, zn41, zc41, rfl, cF41, o41⟩
    have c41 : Chg Non x40 x41 := hSS.two o41
    have e41 : ∀ q, Chg Non x41 q → (convert 23 9 (.slice zo41 zn41 zc41)).run Try.prog q = .ok (.string S2) q := cF41
    refine hK.out _ _ c41 (fun _ => wpAnyH_imp (S' := fun u => Chg Non x41 u) (fun u hu => c41.two hu) _ _ _ _ ?_)
    clear hK K hSS
    have kT : Chg Non v27 x41 := kS.two c41
    clear kS o41 cF41 c41
    have kS := kT
    clear kT
    have hSS : Chg Non x41 x41 := Chg.refl Non _
    try simp only [Act.put, List.setIfInBounds_toArray, List.set_cons_zero, List.set_cons_succ]
    refine wpAnyH_take (i := 10) (oi := { dst := some 126, op := Go.Op.convert 23 9 (Go.Operand.tmp 125), type := 9, pos := "law.go:63", after := #[{ on := 9, ground := Go.Ground.data }, { on := 7, ground := Go.Ground.guard }], guard := some (7, true) }) (v := ?_) rfl (by kernel_rfl) (by kernel_rfl) (by kernel_rfl) (fun _ _ _ h => h) (Or.inl ⟨by rfl, ?_⟩) hSS ?_
    rotate_left
    · intro u hu
      have hu : Chg Non _ u := hu
      have hc := e41 u hu
      go_simp
      try with_reducible rfl
    try simp only [Act.put, List.setIfInBounds_toArray, List.set_cons_zero, List.set_cons_succ]
    refine wpAnyH_ready (rs := [12]) (by kernel_rfl) (by simp) ?_
    refine AllReadyH.cons (o := { dst := some 128, op := Go.Op.call { callee := Go.Callee.value (Go.Operand.func 42), args := #[Go.Operand.tmp 127], argTypes := #[47] }, type := 23, pos := "law.go:63", after := #[{ on := 11, ground := Go.Ground.data }, { on := 9, ground := Go.Ground.chain }, { on := 7, ground := Go.Ground.guard }], guard := some (7, true) }) rfl (fun K hK => ?_) AllReadyH.nil
    go_simp
    go_at_call 42
    refine (H42.out _ (K27.out.two (kS.two hSS))).mono ?_
    rintro e x42 ⟨zo42, zn42, zc42, rfl, cF42, o42⟩
    have c42 : Chg Non x41 x42 := hSS.two o42
    have e42 : ∀ q, Chg Non x42 q → (convert 23 9 (.slice zo42 zn42 zc42)).run Try.prog q = .ok (.string S2) q := cF42
    refine hK.out _ _ c42 (fun _ => wpAnyH_imp (S' := fun u => Chg Non x42 u) (fun u hu => c42.two hu) _ _ _ _ ?_)
    clear hK K hSS
    have kT : Chg Non v27 x42 := kS.two c42
    clear kS o42 cF42 c42
    have kS := kT
    clear kT
    have hSS : Chg Non x42 x42 := Chg.refl Non _
    try simp only [Act.put, List.setIfInBounds_toArray, List.set_cons_zero, List.set_cons_succ]
    refine wpAnyH_take (i := 13) (oi := { dst := some 129, op := Go.Op.convert 23 9 (Go.Operand.tmp 128), type := 9, pos := "law.go:63", after := #[{ on := 12, ground := Go.Ground.data }, { on := 7, ground := Go.Ground.guard }], guard := some (7, true) }) (v := ?_) rfl (by kernel_rfl) (by kernel_rfl) (by kernel_rfl) (fun _ _ _ h => h) (Or.inl ⟨by rfl, ?_⟩) hSS ?_
    rotate_left
    · intro u hu
      have hu : Chg Non _ u := hu
      have hc := e42 u hu
      go_simp
      try with_reducible rfl
    try simp only [Act.put, List.setIfInBounds_toArray, List.set_cons_zero, List.set_cons_succ]
    refine wpAnyH_take (i := 14) (oi := { dst := some 130, op := Go.Op.binOp Go.BinOp.eql 9 (Go.Operand.tmp 126) (Go.Operand.tmp 129) 9, type := 4, pos := "law.go:63", after := #[{ on := 10, ground := Go.Ground.data }, { on := 13, ground := Go.Ground.data }, { on := 7, ground := Go.Ground.guard }], guard := some (7, true) }) (v := ?_) rfl (by kernel_rfl) (by kernel_rfl) (by kernel_rfl) (fun _ _ _ h => h) (Or.inl ⟨by rfl, ?_⟩) hSS ?_
    rotate_left
    · intro u hu
      have hu : Chg Non _ u := hu
      go_simp
      try with_reducible rfl
    try simp only [Act.put, List.setIfInBounds_toArray, List.set_cons_zero, List.set_cons_succ]
    refine wpAnyH_take (i := 15) (oi := { dst := some 131, op := Go.Op.pick (Go.Operand.tmp 123) (Go.Operand.tmp 130) (Go.Operand.const (Go.Value.bool false)), type := 4, pos := "law.go:63", after := #[{ on := 7, ground := Go.Ground.data }, { on := 14, ground := Go.Ground.data }], guard := none }) (v := ?_) rfl (by kernel_rfl) (by kernel_rfl) (by kernel_rfl) (fun _ _ _ h => h) (Or.inl ⟨by rfl, ?_⟩) hSS ?_
    rotate_left
    · intro u hu
      have hu : Chg Non _ u := hu
      go_simp
      try with_reducible rfl
    try simp only [Act.put, List.setIfInBounds_toArray, List.set_cons_zero, List.set_cons_succ]
    refine wpAnyH_take (i := 16) (oi := { dst := some 132, op := Go.Op.move (Go.Operand.tmp 131), type := 4, pos := "law.go:63", after := #[{ on := 15, ground := Go.Ground.data }, { on := 12, ground := Go.Ground.chain }], guard := none }) (v := ?_) rfl (by kernel_rfl) (by kernel_rfl) (by kernel_rfl) (fun _ _ _ h => h) (Or.inl ⟨by rfl, ?_⟩) hSS ?_
    rotate_left
    · intro u hu
      have hu : Chg Non _ u := hu
      go_simp
      try with_reducible rfl
    try simp only [Act.put, List.setIfInBounds_toArray, List.set_cons_zero, List.set_cons_succ]
    refine wpAnyH_take (i := 17) (oi := { dst := some 133, op := Go.Op.load 49 (Go.Operand.tmp 7), type := 49, pos := "law.go:63", after := #[{ on := 16, ground := Go.Ground.guard }], guard := some (16, true) }) (v := ?_) rfl (by kernel_rfl) (by kernel_rfl) (by kernel_rfl) (fun _ _ _ h => h) (Or.inl ⟨by rfl, ?_⟩) hSS ?_
    rotate_left
    · intro u hu
      have hu : Chg Non _ u := hu
      have hc := HSC.out u (K27.out.two (kS.two hu))
      go_split_ands
      go_simp
      try with_reducible rfl
    try simp only [Act.put, List.setIfInBounds_toArray, List.set_cons_zero, List.set_cons_succ]
    refine wpAnyH_take (i := 20) (oi := { dst := some 136, op := Go.Op.load 49 (Go.Operand.tmp 7), type := 49, pos := "law.go:63", after := #[{ on := 16, ground := Go.Ground.guard }], guard := some (16, true) }) (v := ?_) rfl (by kernel_rfl) (by kernel_rfl) (by kernel_rfl) (fun _ _ _ h => h) (Or.inl ⟨by rfl, ?_⟩) hSS ?_
    rotate_left
    · intro u hu
      have hu : Chg Non _ u := hu
      have hc := HSC.out u (K27.out.two (kS.two hu))
      go_split_ands
      go_simp
      try with_reducible rfl
    try simp only [Act.put, List.setIfInBounds_toArray, List.set_cons_zero, List.set_cons_succ]
    refine wpAnyH_ready (rs := [18]) (by kernel_rfl) (by simp) ?_
    refine AllReadyH.cons (o := { dst := some 134, op := Go.Op.call { callee := Go.Callee.value (Go.Operand.func 43), args := #[Go.Operand.tmp 133], argTypes := #[49] }, type := 23, pos := "law.go:63", after := #[{ on := 17, ground := Go.Ground.data }, { on := 16, ground := Go.Ground.chain }, { on := 16, ground := Go.Ground.guard }], guard := some (16, true) }) rfl (fun K hK => ?_) AllReadyH.nil
    go_simp
    go_at_call 43
    refine (H43.out _ (K27.out.two (kS.two hSS))).mono ?_
    rintro e x43 ⟨zo43, zn43, zc43, rfl, cF43, o43⟩
    have c43 : Chg Non x42 x43 := hSS.two o43
    have e43 : ∀ q, Chg Non x43 q → (convert 23 9 (.slice zo43 zn43 zc43)).run Try.prog q = .ok (.string S3) q := cF43
    refine hK.out _ _ c43 (fun _ => wpAnyH_imp (S' := fun u => Chg Non x43 u) (fun u hu => c43.two hu) _ _ _ _ ?_)
    clear hK K hSS
    have kT : Chg Non v27 x43 := kS.two c43
    clear kS o43 cF43 c43
    have kS := kT
    clear kT
    have hSS : Chg Non x43 x43 := Chg.refl Non _
    try simp only [Act.put, List.setIfInBounds_toArray, List.set_cons_zero, List.set_cons_succ]
    refine wpAnyH_take (i := 19) (oi := { dst := some 135, op := Go.Op.convert 23 9 (Go.Operand.tmp 134), type := 9, pos := "law.go:63", after := #[{ on := 18, ground := Go.Ground.data }, { on := 16, ground := Go.Ground.guard }], guard := some (16, true) }) (v := ?_) rfl (by kernel_rfl) (by kernel_rfl) (by kernel_rfl) (fun _ _ _ h => h) (Or.inl ⟨by rfl, ?_⟩) hSS ?_
    rotate_left
    · intro u hu
      have hu : Chg Non _ u := hu
      have hc := e43 u hu
      go_simp
      try with_reducible rfl
    try simp only [Act.put, List.setIfInBounds_toArray, List.set_cons_zero, List.set_cons_succ]
    refine wpAnyH_ready (rs := [21]) (by kernel_rfl) (by simp) ?_
    refine AllReadyH.cons (o := { dst := some 137, op := Go.Op.call { callee := Go.Callee.value (Go.Operand.func 44), args := #[Go.Operand.tmp 136], argTypes := #[49] }, type := 23, pos := "law.go:63", after := #[{ on := 20, ground := Go.Ground.data }, { on := 18, ground := Go.Ground.chain }, { on := 16, ground := Go.Ground.guard }], guard := some (16, true) }) rfl (fun K hK => ?_) AllReadyH.nil
    go_simp
    go_at_call 44
    refine (H44.out _ (K27.out.two (kS.two hSS))).mono ?_
    rintro e x44 ⟨zo44, zn44, zc44, rfl, cF44, o44⟩
    have c44 : Chg Non x43 x44 := hSS.two o44
    have e44 : ∀ q, Chg Non x44 q → (convert 23 9 (.slice zo44 zn44 zc44)).run Try.prog q = .ok (.string S3) q := cF44
    refine hK.out _ _ c44 (fun _ => wpAnyH_imp (S' := fun u => Chg Non x44 u) (fun u hu => c44.two hu) _ _ _ _ ?_)
    clear hK K hSS
    have kT : Chg Non v27 x44 := kS.two c44
    clear kS o44 cF44 c44
    have kS := kT
    clear kT
    have hSS : Chg Non x44 x44 := Chg.refl Non _
    try simp only [Act.put, List.setIfInBounds_toArray, List.set_cons_zero, List.set_cons_succ]
    refine wpAnyH_take (i := 22) (oi := { dst := some 138, op := Go.Op.convert 23 9 (Go.Operand.tmp 137), type := 9, pos := "law.go:63", after := #[{ on := 21, ground := Go.Ground.data }, { on := 16, ground := Go.Ground.guard }], guard := some (16, true) }) (v := ?_) rfl (by kernel_rfl) (by kernel_rfl) (by kernel_rfl) (fun _ _ _ h => h) (Or.inl ⟨by rfl, ?_⟩) hSS ?_
    rotate_left
    · intro u hu
      have hu : Chg Non _ u := hu
      have hc := e44 u hu
      go_simp
      try with_reducible rfl
    try simp only [Act.put, List.setIfInBounds_toArray, List.set_cons_zero, List.set_cons_succ]
    refine wpAnyH_take (i := 23) (oi := { dst := some 139, op := Go.Op.binOp Go.BinOp.eql 9 (Go.Operand.tmp 135) (Go.Operand.tmp 138) 9, type := 4, pos := "law.go:63", after := #[{ on := 19, ground := Go.Ground.data }, { on := 22, ground := Go.Ground.data }, { on := 16, ground := Go.Ground.guard }], guard := some (16, true) }) (v := ?_) rfl (by kernel_rfl) (by kernel_rfl) (by kernel_rfl) (fun _ _ _ h => h) (Or.inl ⟨by rfl, ?_⟩) hSS ?_
    rotate_left
    · intro u hu
      have hu : Chg Non _ u := hu
      go_simp
      try with_reducible rfl
    try simp only [Act.put, List.setIfInBounds_toArray, List.set_cons_zero, List.set_cons_succ]
    refine wpAnyH_take (i := 24) (oi := { dst := some 140, op := Go.Op.pick (Go.Operand.tmp 132) (Go.Operand.tmp 139) (Go.Operand.const (Go.Value.bool false)), type := 4, pos := "law.go:63", after := #[{ on := 16, ground := Go.Ground.data }, { on := 23, ground := Go.Ground.data }], guard := none }) (v := ?_) rfl (by kernel_rfl) (by kernel_rfl) (by kernel_rfl) (fun _ _ _ h => h) (Or.inl ⟨by rfl, ?_⟩) hSS ?_
    rotate_left
    · intro u hu
      have hu : Chg Non _ u := hu
      go_simp
      try with_reducible rfl
    try simp only [Act.put, List.setIfInBounds_toArray, List.set_cons_zero, List.set_cons_succ]
    refine wpAnyH_take (i := 25) (oi := { dst := some 35, op := Go.Op.assign (Go.Operand.tmp 140), type := 4, pos := "law.go:63", after := #[{ on := 24, ground := Go.Ground.data }, { on := 21, ground := Go.Ground.chain }, { on := 0, ground := Go.Ground.phase }, { on := 1, ground := Go.Ground.phase }, { on := 2, ground := Go.Ground.phase }, { on := 3, ground := Go.Ground.phase }, { on := 4, ground := Go.Ground.phase }, { on := 5, ground := Go.Ground.phase }, { on := 6, ground := Go.Ground.phase }, { on := 7, ground := Go.Ground.phase }, { on := 8, ground := Go.Ground.phase }, { on := 9, ground := Go.Ground.phase }, { on := 10, ground := Go.Ground.phase }, { on := 11, ground := Go.Ground.phase }, { on := 12, ground := Go.Ground.phase }, { on := 13, ground := Go.Ground.phase }, { on := 14, ground := Go.Ground.phase }, { on := 15, ground := Go.Ground.phase }, { on := 16, ground := Go.Ground.phase }, { on := 17, ground := Go.Ground.phase }, { on := 18, ground := Go.Ground.phase }, { on := 19, ground := Go.Ground.phase }, { on := 20, ground := Go.Ground.phase }, { on := 21, ground := Go.Ground.phase }, { on := 22, ground := Go.Ground.phase }, { on := 23, ground := Go.Ground.phase }, { on := 24, ground := Go.Ground.phase }], guard := none }) (v := ?_) rfl (by kernel_rfl) (by kernel_rfl) (by kernel_rfl) (fun _ _ _ h => h) (Or.inl ⟨by rfl, ?_⟩) hSS ?_
    rotate_left
    · intro u hu
      have hu : Chg Non _ u := hu
      go_simp
      try with_reducible rfl
    try simp only [Act.put, List.setIfInBounds_toArray, List.set_cons_zero, List.set_cons_succ]
    refine wpAnyH_done (by kernel_rfl) ?_ _
    go_wp2_with fail
    go_meet
    case rel => exact ⟨rfl, kS⟩
  case rest =>
  obtain ⟨rfl, hcc⟩ := hcut
  obtain ⟨yq, hyq⟩ : ∃ y, y = wc.alloc (.cells #[.slice ma1 ml1 mc1, .slice ta5 tl5 tc5] 57) := ⟨_, rfl⟩
  have DQ : Hid (Chg Non wc yq) := by rw [hyq]; exact (Chg.refl _ _).alloc _
  have EQ : Hid (yq.heap[wc.heap.size]? = some (.cells #[.slice ma1 ml1 mc1, .slice ta5 tl5 tc5] 57)) := by rw [hyq]; exact heap_alloc_last _ _
  have HYQ : Hid (yq = wc.alloc (.cells #[.slice ma1 ml1 mc1, .slice ta5 tl5 tc5] 57)) := hyq
  have KC : Hid (Chg Non W0 wc) := K27.out.two hcc.out
  have KQ : Hid (Chg Non W0 yq) := KC.out.two DQ.out
  clear hyq
  have HSQ : Hid (∀ u, Chg Non yq u → (u.cell? ⟨wc.heap.size, 0, none⟩ = some (.slice ma1 ml1 mc1) ∧ u.cell? ⟨wc.heap.size, 1, none⟩ = some (.slice ta5 tl5 tc5)) ∧ u.cell? ⟨w.heap.size + 1, 4, none⟩ = some (.slice ta5 tl5 tc5)) := fun u hu => by
    have hE : u.heap[wc.heap.size]? = some (.cells #[.slice ma1 ml1 mc1, .slice ta5 tl5 tc5] 57) := by rw [hu.block _ (lt_somW EQ.out) (fun s => s)]; exact EQ.out
    exact ⟨⟨cell_at 0 hE rfl, cell_at 1 hE rfl⟩, cell_at 4 (HBX.out u (KQ.out.two hu)).2.1 rfl⟩
  have hs := HSC.out wc KC.out
  go_split_ands
  go_upto_region 19 with fail
  rw [← HYQ.out]
  go_cut [35] from 146 to 166 (fun u35 wd => u35 = .bool true ∧ Hid (Chg Non yq wd))
  case first =>
    have hSS : Chg Non yq yq.drew := (Chg.refl Non _).drew
    have kS : Chg Non yq yq := Chg.refl Non _
    refine wp_region_held_drew (S := fun u => Chg Non yq u) (by kernel_rfl) hSS (fun _ => ?_)
    refine wpAnyH_take (i := 0) (oi := { dst := some 146, op := Go.Op.move (Go.Operand.tmp 35), type := 4, pos := "law.go:65", after := #[], guard := none }) (v := ?_) rfl (by kernel_rfl) (by kernel_rfl) (by kernel_rfl) (fun _ _ _ h => h) (Or.inl ⟨by rfl, ?_⟩) hSS ?_
    rotate_left
    · intro u hu
      have hu : Chg Non _ u := hu
      go_simp
      try with_reducible rfl
    try simp only [Act.put, List.setIfInBounds_toArray, List.set_cons_zero, List.set_cons_succ]
    refine wpAnyH_take (i := 1) (oi := { dst := some 147, op := Go.Op.move (Go.Operand.tmp 146), type := 4, pos := "law.go:65", after := #[{ on := 0, ground := Go.Ground.data }], guard := none }) (v := ?_) rfl (by kernel_rfl) (by kernel_rfl) (by kernel_rfl) (fun _ _ _ h => h) (Or.inl ⟨by rfl, ?_⟩) hSS ?_
    rotate_left
    · intro u hu
      have hu : Chg Non _ u := hu
      go_simp
      try with_reducible rfl
    try simp only [Act.put, List.setIfInBounds_toArray, List.set_cons_zero, List.set_cons_succ]
    refine wpAnyH_take (i := 2) (oi := { dst := some 148, op := Go.Op.load 57 (Go.Operand.tmp 36), type := 57, pos := "law.go:65", after := #[{ on := 1, ground := Go.Ground.guard }], guard := some (1, true) }) (v := ?_) rfl (by kernel_rfl) (by kernel_rfl) (by kernel_rfl) (fun _ _ _ h => h) (Or.inl ⟨by rfl, ?_⟩) hSS ?_
    rotate_left
    · intro u hu
      have hu : Chg Non _ u := hu
      have hc := HSQ.out u (kS.two hu)
      go_split_ands
      go_simp
      try with_reducible rfl
    try simp only [Act.put, List.setIfInBounds_toArray, List.set_cons_zero, List.set_cons_succ]
    refine wpAnyH_take (i := 5) (oi := { dst := some 151, op := Go.Op.load 57 (Go.Operand.tmp 36), type := 57, pos := "law.go:65", after := #[{ on := 1, ground := Go.Ground.guard }], guard := some (1, true) }) (v := ?_) rfl (by kernel_rfl) (by kernel_rfl) (by kernel_rfl) (fun _ _ _ h => h) (Or.inl ⟨by rfl, ?_⟩) hSS ?_
    rotate_left
    · intro u hu
      have hu : Chg Non _ u := hu
      have hc := HSQ.out u (kS.two hu)
      go_split_ands
      go_simp
      try with_reducible rfl
    try simp only [Act.put, List.setIfInBounds_toArray, List.set_cons_zero, List.set_cons_succ]
    refine wpAnyH_ready (rs := [3]) (by kernel_rfl) (by simp) ?_
    refine AllReadyH.cons (o := { dst := some 149, op := Go.Op.call { callee := Go.Callee.value (Go.Operand.func 45), args := #[Go.Operand.tmp 148], argTypes := #[57] }, type := 23, pos := "law.go:65", after := #[{ on := 2, ground := Go.Ground.data }, { on := 1, ground := Go.Ground.chain }, { on := 1, ground := Go.Ground.guard }], guard := some (1, true) }) rfl (fun K hK => ?_) AllReadyH.nil
    go_simp
    go_at_call 45
    refine (H45.out _ (KQ.out.two (kS.two hSS))).mono ?_
    rintro e x45 ⟨zo45, zn45, zc45, rfl, cF45, o45⟩
    have c45 : Chg Non yq x45 := hSS.two o45
    have e45 : ∀ q, Chg Non x45 q → (convert 23 9 (.slice zo45 zn45 zc45)).run Try.prog q = .ok (.string S4) q := cF45
    refine hK.out _ _ c45 (fun _ => wpAnyH_imp (S' := fun u => Chg Non x45 u) (fun u hu => c45.two hu) _ _ _ _ ?_)
    clear hK K hSS
    have kT : Chg Non yq x45 := kS.two c45
    clear kS o45 cF45 c45
    have kS := kT
    clear kT
    have hSS : Chg Non x45 x45 := Chg.refl Non _
    try simp only [Act.put, List.setIfInBounds_toArray, List.set_cons_zero, List.set_cons_succ]
    refine wpAnyH_take (i := 4) (oi := { dst := some 150, op := Go.Op.convert 23 9 (Go.Operand.tmp 149), type := 9, pos := "law.go:65", after := #[{ on := 3, ground := Go.Ground.data }, { on := 1, ground := Go.Ground.guard }], guard := some (1, true) }) (v := ?_) rfl (by kernel_rfl) (by kernel_rfl) (by kernel_rfl) (fun _ _ _ h => h) (Or.inl ⟨by rfl, ?_⟩) hSS ?_
    rotate_left
    · intro u hu
      have hu : Chg Non _ u := hu
      have hc := e45 u hu
      go_simp
      try with_reducible rfl
    try simp only [Act.put, List.setIfInBounds_toArray, List.set_cons_zero, List.set_cons_succ]
    refine wpAnyH_ready (rs := [6]) (by kernel_rfl) (by simp) ?_
    refine AllReadyH.cons (o := { dst := some 152, op := Go.Op.call { callee := Go.Callee.value (Go.Operand.func 46), args := #[Go.Operand.tmp 151], argTypes := #[57] }, type := 23, pos := "law.go:65", after := #[{ on := 5, ground := Go.Ground.data }, { on := 3, ground := Go.Ground.chain }, { on := 1, ground := Go.Ground.guard }], guard := some (1, true) }) rfl (fun K hK => ?_) AllReadyH.nil
    go_simp
    go_at_call 46
    refine (H46.out _ (KQ.out.two (kS.two hSS))).mono ?_
    rintro e x46 ⟨zo46, zn46, zc46, rfl, cF46, o46⟩
    have c46 : Chg Non x45 x46 := hSS.two o46
    have e46 : ∀ q, Chg Non x46 q → (convert 23 9 (.slice zo46 zn46 zc46)).run Try.prog q = .ok (.string S4) q := cF46
    refine hK.out _ _ c46 (fun _ => wpAnyH_imp (S' := fun u => Chg Non x46 u) (fun u hu => c46.two hu) _ _ _ _ ?_)
    clear hK K hSS
    have kT : Chg Non yq x46 := kS.two c46
    clear kS o46 cF46 c46
    have kS := kT
    clear kT
    have hSS : Chg Non x46 x46 := Chg.refl Non _
    try simp only [Act.put, List.setIfInBounds_toArray, List.set_cons_zero, List.set_cons_succ]
    refine wpAnyH_take (i := 7) (oi := { dst := some 153, op := Go.Op.convert 23 9 (Go.Operand.tmp 152), type := 9, pos := "law.go:65", after := #[{ on := 6, ground := Go.Ground.data }, { on := 1, ground := Go.Ground.guard }], guard := some (1, true) }) (v := ?_) rfl (by kernel_rfl) (by kernel_rfl) (by kernel_rfl) (fun _ _ _ h => h) (Or.inl ⟨by rfl, ?_⟩) hSS ?_
    rotate_left
    · intro u hu
      have hu : Chg Non _ u := hu
      have hc := e46 u hu
      go_simp
      try with_reducible rfl
    try simp only [Act.put, List.setIfInBounds_toArray, List.set_cons_zero, List.set_cons_succ]
    refine wpAnyH_take (i := 8) (oi := { dst := some 154, op := Go.Op.binOp Go.BinOp.eql 9 (Go.Operand.tmp 150) (Go.Operand.tmp 153) 9, type := 4, pos := "law.go:65", after := #[{ on := 4, ground := Go.Ground.data }, { on := 7, ground := Go.Ground.data }, { on := 1, ground := Go.Ground.guard }], guard := some (1, true) }) (v := ?_) rfl (by kernel_rfl) (by kernel_rfl) (by kernel_rfl) (fun _ _ _ h => h) (Or.inl ⟨by rfl, ?_⟩) hSS ?_
    rotate_left
    · intro u hu
      have hu : Chg Non _ u := hu
      go_simp
      try with_reducible rfl
    try simp only [Act.put, List.setIfInBounds_toArray, List.set_cons_zero, List.set_cons_succ]
    refine wpAnyH_take (i := 9) (oi := { dst := some 155, op := Go.Op.pick (Go.Operand.tmp 147) (Go.Operand.tmp 154) (Go.Operand.const (Go.Value.bool false)), type := 4, pos := "law.go:65", after := #[{ on := 1, ground := Go.Ground.data }, { on := 8, ground := Go.Ground.data }], guard := none }) (v := ?_) rfl (by kernel_rfl) (by kernel_rfl) (by kernel_rfl) (fun _ _ _ h => h) (Or.inl ⟨by rfl, ?_⟩) hSS ?_
    rotate_left
    · intro u hu
      have hu : Chg Non _ u := hu
      go_simp
      try with_reducible rfl
    try simp only [Act.put, List.setIfInBounds_toArray, List.set_cons_zero, List.set_cons_succ]
    refine wpAnyH_take (i := 10) (oi := { dst := some 156, op := Go.Op.move (Go.Operand.tmp 155), type := 4, pos := "law.go:65", after := #[{ on := 9, ground := Go.Ground.data }, { on := 6, ground := Go.Ground.chain }], guard := none }) (v := ?_) rfl (by kernel_rfl) (by kernel_rfl) (by kernel_rfl) (fun _ _ _ h => h) (Or.inl ⟨by rfl, ?_⟩) hSS ?_
    rotate_left
    · intro u hu
      have hu : Chg Non _ u := hu
      go_simp
      try with_reducible rfl
    try simp only [Act.put, List.setIfInBounds_toArray, List.set_cons_zero, List.set_cons_succ]
    refine wpAnyH_take (i := 11) (oi := { dst := some 157, op := Go.Op.fieldAddr 47 (Go.Operand.tmp 6) 4, type := 0, pos := "law.go:65", after := #[{ on := 10, ground := Go.Ground.guard }], guard := some (10, true) }) (v := ?_) rfl (by kernel_rfl) (by kernel_rfl) (by kernel_rfl) (fun _ _ _ h => h) (Or.inl ⟨by rfl, ?_⟩) hSS ?_
    rotate_left
    · intro u hu
      have hu : Chg Non _ u := hu
      go_simp
      try with_reducible rfl
    try simp only [Act.put, List.setIfInBounds_toArray, List.set_cons_zero, List.set_cons_succ]
    refine wpAnyH_take (i := 12) (oi := { dst := some 158, op := Go.Op.load 34 (Go.Operand.tmp 157), type := 34, pos := "law.go:65", after := #[{ on := 11, ground := Go.Ground.data }, { on := 10, ground := Go.Ground.guard }], guard := some (10, true) }) (v := ?_) rfl (by kernel_rfl) (by kernel_rfl) (by kernel_rfl) (fun _ _ _ h => h) (Or.inl ⟨by rfl, ?_⟩) hSS ?_
    rotate_left
    · intro u hu
      have hu : Chg Non _ u := hu
      have hc := HSQ.out u (kS.two hu)
      go_split_ands
      go_simp
      try with_reducible rfl
    try simp only [Act.put, List.setIfInBounds_toArray, List.set_cons_zero, List.set_cons_succ]
    refine wpAnyH_take (i := 15) (oi := { dst := some 161, op := Go.Op.fieldAddr 47 (Go.Operand.tmp 6) 4, type := 0, pos := "law.go:65", after := #[{ on := 10, ground := Go.Ground.guard }], guard := some (10, true) }) (v := ?_) rfl (by kernel_rfl) (by kernel_rfl) (by kernel_rfl) (fun _ _ _ h => h) (Or.inl ⟨by rfl, ?_⟩) hSS ?_
    rotate_left
    · intro u hu
      have hu : Chg Non _ u := hu
      go_simp
      try with_reducible rfl
    try simp only [Act.put, List.setIfInBounds_toArray, List.set_cons_zero, List.set_cons_succ]
    refine wpAnyH_take (i := 16) (oi := { dst := some 162, op := Go.Op.load 34 (Go.Operand.tmp 161), type := 34, pos := "law.go:65", after := #[{ on := 15, ground := Go.Ground.data }, { on := 10, ground := Go.Ground.guard }], guard := some (10, true) }) (v := ?_) rfl (by kernel_rfl) (by kernel_rfl) (by kernel_rfl) (fun _ _ _ h => h) (Or.inl ⟨by rfl, ?_⟩) hSS ?_
    rotate_left
    · intro u hu
      have hu : Chg Non _ u := hu
      have hc := HSQ.out u (kS.two hu)
      go_split_ands
      go_simp
      try with_reducible rfl
    try simp only [Act.put, List.setIfInBounds_toArray, List.set_cons_zero, List.set_cons_succ]
    refine wpAnyH_ready (rs := [13]) (by kernel_rfl) (by simp) ?_
    refine AllReadyH.cons (o := { dst := some 159, op := Go.Op.call { callee := Go.Callee.value (Go.Operand.func 47), args := #[Go.Operand.tmp 158], argTypes := #[34] }, type := 23, pos := "law.go:65", after := #[{ on := 12, ground := Go.Ground.data }, { on := 10, ground := Go.Ground.chain }, { on := 10, ground := Go.Ground.guard }], guard := some (10, true) }) rfl (fun K hK => ?_) AllReadyH.nil
    go_simp
    go_at_call 47
    refine (H47.out _ (KQ.out.two (kS.two hSS))).mono ?_
    rintro e x47 ⟨zo47, zn47, zc47, rfl, cF47, o47⟩
    have c47 : Chg Non x46 x47 := hSS.two o47
    have e47 : ∀ q, Chg Non x47 q → (convert 23 9 (.slice zo47 zn47 zc47)).run Try.prog q = .ok (.string S5) q := cF47
    refine hK.out _ _ c47 (fun _ => wpAnyH_imp (S' := fun u => Chg Non x47 u) (fun u hu => c47.two hu) _ _ _ _ ?_)
    clear hK K hSS
    have kT : Chg Non yq x47 := kS.two c47
    clear kS o47 cF47 c47
    have kS := kT
    clear kT
    have hSS : Chg Non x47 x47 := Chg.refl Non _
    try simp only [Act.put, List.setIfInBounds_toArray, List.set_cons_zero, List.set_cons_succ]
    refine wpAnyH_take (i := 14) (oi := { dst := some 160, op := Go.Op.convert 23 9 (Go.Operand.tmp 159), type := 9, pos := "law.go:65", after := #[{ on := 13, ground := Go.Ground.data }, { on := 10, ground := Go.Ground.guard }], guard := some (10, true) }) (v := ?_) rfl (by kernel_rfl) (by kernel_rfl) (by kernel_rfl) (fun _ _ _ h => h) (Or.inl ⟨by rfl, ?_⟩) hSS ?_
    rotate_left
    · intro u hu
      have hu : Chg Non _ u := hu
      have hc := e47 u hu
      go_simp
      try with_reducible rfl
    try simp only [Act.put, List.setIfInBounds_toArray, List.set_cons_zero, List.set_cons_succ]
    refine wpAnyH_ready (rs := [17]) (by kernel_rfl) (by simp) ?_
    refine AllReadyH.cons (o := { dst := some 163, op := Go.Op.call { callee := Go.Callee.value (Go.Operand.func 48), args := #[Go.Operand.tmp 162], argTypes := #[34] }, type := 23, pos := "law.go:65", after := #[{ on := 16, ground := Go.Ground.data }, { on := 13, ground := Go.Ground.chain }, { on := 10, ground := Go.Ground.guard }], guard := some (10, true) }) rfl (fun K hK => ?_) AllReadyH.nil
    go_simp
    go_at_call 48
    refine (H48.out _ (KQ.out.two (kS.two hSS))).mono ?_
    rintro e x48 ⟨zo48, zn48, zc48, rfl, cF48, o48⟩
    have c48 : Chg Non x47 x48 := hSS.two o48
    have e48 : ∀ q, Chg Non x48 q → (convert 23 9 (.slice zo48 zn48 zc48)).run Try.prog q = .ok (.string S5) q := cF48
    refine hK.out _ _ c48 (fun _ => wpAnyH_imp (S' := fun u => Chg Non x48 u) (fun u hu => c48.two hu) _ _ _ _ ?_)
    clear hK K hSS
    have kT : Chg Non yq x48 := kS.two c48
    clear kS o48 cF48 c48
    have kS := kT
    clear kT
    have hSS : Chg Non x48 x48 := Chg.refl Non _
    try simp only [Act.put, List.setIfInBounds_toArray, List.set_cons_zero, List.set_cons_succ]
    refine wpAnyH_take (i := 18) (oi := { dst := some 164, op := Go.Op.convert 23 9 (Go.Operand.tmp 163), type := 9, pos := "law.go:65", after := #[{ on := 17, ground := Go.Ground.data }, { on := 10, ground := Go.Ground.guard }], guard := some (10, true) }) (v := ?_) rfl (by kernel_rfl) (by kernel_rfl) (by kernel_rfl) (fun _ _ _ h => h) (Or.inl ⟨by rfl, ?_⟩) hSS ?_
    rotate_left
    · intro u hu
      have hu : Chg Non _ u := hu
      have hc := e48 u hu
      go_simp
      try with_reducible rfl
    try simp only [Act.put, List.setIfInBounds_toArray, List.set_cons_zero, List.set_cons_succ]
    refine wpAnyH_take (i := 19) (oi := { dst := some 165, op := Go.Op.binOp Go.BinOp.eql 9 (Go.Operand.tmp 160) (Go.Operand.tmp 164) 9, type := 4, pos := "law.go:65", after := #[{ on := 14, ground := Go.Ground.data }, { on := 18, ground := Go.Ground.data }, { on := 10, ground := Go.Ground.guard }], guard := some (10, true) }) (v := ?_) rfl (by kernel_rfl) (by kernel_rfl) (by kernel_rfl) (fun _ _ _ h => h) (Or.inl ⟨by rfl, ?_⟩) hSS ?_
    rotate_left
    · intro u hu
      have hu : Chg Non _ u := hu
      go_simp
      try with_reducible rfl
    try simp only [Act.put, List.setIfInBounds_toArray, List.set_cons_zero, List.set_cons_succ]
    refine wpAnyH_take (i := 20) (oi := { dst := some 166, op := Go.Op.pick (Go.Operand.tmp 156) (Go.Operand.tmp 165) (Go.Operand.const (Go.Value.bool false)), type := 4, pos := "law.go:65", after := #[{ on := 10, ground := Go.Ground.data }, { on := 19, ground := Go.Ground.data }], guard := none }) (v := ?_) rfl (by kernel_rfl) (by kernel_rfl) (by kernel_rfl) (fun _ _ _ h => h) (Or.inl ⟨by rfl, ?_⟩) hSS ?_
    rotate_left
    · intro u hu
      have hu : Chg Non _ u := hu
      go_simp
      try with_reducible rfl
    try simp only [Act.put, List.setIfInBounds_toArray, List.set_cons_zero, List.set_cons_succ]
    refine wpAnyH_take (i := 21) (oi := { dst := some 35, op := Go.Op.assign (Go.Operand.tmp 166), type := 4, pos := "law.go:65", after := #[{ on := 20, ground := Go.Ground.data }, { on := 17, ground := Go.Ground.chain }, { on := 0, ground := Go.Ground.phase }, { on := 1, ground := Go.Ground.phase }, { on := 2, ground := Go.Ground.phase }, { on := 3, ground := Go.Ground.phase }, { on := 4, ground := Go.Ground.phase }, { on := 5, ground := Go.Ground.phase }, { on := 6, ground := Go.Ground.phase }, { on := 7, ground := Go.Ground.phase }, { on := 8, ground := Go.Ground.phase }, { on := 9, ground := Go.Ground.phase }, { on := 10, ground := Go.Ground.phase }, { on := 11, ground := Go.Ground.phase }, { on := 12, ground := Go.Ground.phase }, { on := 13, ground := Go.Ground.phase }, { on := 14, ground := Go.Ground.phase }, { on := 15, ground := Go.Ground.phase }, { on := 16, ground := Go.Ground.phase }, { on := 17, ground := Go.Ground.phase }, { on := 18, ground := Go.Ground.phase }, { on := 19, ground := Go.Ground.phase }, { on := 20, ground := Go.Ground.phase }], guard := none }) (v := ?_) rfl (by kernel_rfl) (by kernel_rfl) (by kernel_rfl) (fun _ _ _ h => h) (Or.inl ⟨by rfl, ?_⟩) hSS ?_
    rotate_left
    · intro u hu
      have hu : Chg Non _ u := hu
      go_simp
      try with_reducible rfl
    try simp only [Act.put, List.setIfInBounds_toArray, List.set_cons_zero, List.set_cons_succ]
    refine wpAnyH_done (by kernel_rfl) ?_ _
    go_wp2_with fail
    go_meet
    case rel => exact ⟨rfl, kS⟩
  case rest =>
  obtain ⟨rfl, hcd⟩ := hcut
  have KD : Hid (Chg Non y15 wc) := (((((((((((C16.out.two C18.out).two D19.out).two C20.out).two D21.out).two C23.out).two D24.out).two C25.out).two D26.out).two C27.out).two hcc.out).two DQ.out).two hcd.out
  have hE1 : wc.heap[w11a.heap.size]? = some (.cells #[.slice p11a0 q11a0 r11a0, .slice p11a1 q11a1 r11a1] 57) := by rw [KD.out.block _ (lt_somW HRA.out.1) (fun s => s)]; exact HRA.out.1
  have hE2 : wc.heap[w11b.heap.size]? = some (.cells #[.slice p11b0 q11b0 r11b0, .slice p11b1 q11b1 r11b1] 57) := by rw [KD.out.block _ (lt_somW HRA.out.2) (fun s => s)]; exact HRA.out.2
  have s1 := cell_at 0 hE1 rfl
  have s2 := cell_at 0 hE2 rfl
  obtain ⟨j1, j2⟩ := HRC.out wc KD.out
  clear hE1 hE2
  go_wp2_with fail
  go_ret
  exact ⟨rfl, (CW.out.two KQ.out).two hcd.out⟩
end Go.Proofs.Ytdhckndehijemaa
