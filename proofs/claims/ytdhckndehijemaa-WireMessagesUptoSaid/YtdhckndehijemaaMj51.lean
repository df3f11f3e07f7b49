/-
  The document's put of a certificate message.
-/
import Derived.Test.YtdhckndehijemaaVt
import Derived.Test.YtdhckndehijemaaSc
import Derived.Test.YtdhckndehijemaaXp
namespace Go.Proofs.Ytdhckndehijemaa
open Go.RowKit
set_option linter.unusedVariables false
set_option maxRecDepth 100000

abbrev Entry : Type := List Int × List Ext
theorem takeE {l : List Entry} {k : Nat} {z : Entry} (h : l[k]? = some z) : l.take (k + 1) = l.take k ++ [z] := by
  rw [List.take_add_one, h]
  rfl
/-- What the loop over a certificate message's entries keeps. -/
structure EC (P : Nat) (w0 : World) (l : List Entry) (i : Nat) (wr : World) (vr : Value) (nr : Bool) (body : List Int) : Prop where
  vp : VP P (.slice none 0 0) w0 wr vr nr body
  ok : nr = false → conc wEntry (l.take i) = some body
  no : nr = true → conc wEntry (l.take i) = none
  len : body.length ≤ i * 33554435
theorem EC.step {P : Nat} {w0 wr w2 : World} {l : List Entry} {i : Nat} {v2 : Value} {nr n2 : Bool} {body ys : List Int} {z : Entry} {vr : Value} (h : EC P w0 l i wr vr nr body) (hz : l[i]? = some z)
    (hq : VQ wEntry 33554435 P vr wr w2 v2 nr n2 body ys z) : EC P w0 l (i + 1) w2 v2 n2 (body ++ ys) := by
  have ht : l.take (i + 1) = l.take i ++ [z] := takeE hz
  refine ⟨h.vp.trans hq.wp, fun e => ?_, fun e => ?_, ?_⟩
  · cases hb : nr with
    | true => have := hq.bad hb; rw [this] at e; cases e
    | false =>
      rcases hq.out hb with ⟨-, q2⟩ | ⟨-, q2⟩
      · rw [q2] at e; cases e
      · rw [ht, conc_snoc, h.ok hb, q2]
        rfl
  · cases hb : nr with
    | true => rw [ht, conc_snoc, h.no hb]
    | false =>
      rcases hq.out hb with ⟨q1, -⟩ | ⟨q1, -⟩
      · rw [ht, conc_snoc, h.ok hb, q1]
        rfl
      · rw [q1] at e; cases e
  · have h1 := h.len
    have h2 := hq.len
    rw [List.length_append, Nat.succ_mul]
    omega
theorem EC.fin {P : Nat} {w0 wr : World} {l : List Entry} {vr : Value} {nr : Bool} {body : List Int} (h : EC P w0 l l.length wr vr nr body) (hn : l.length ≤ 16777216) : wPart nr 3 0 body = wList 3 0 16777216 wEntry l := by
  have ht : l.take l.length = l := List.take_of_length_le (Nat.le_refl _)
  have e1 : (256 : Nat) ^ 3 = 16777216 := rfl
  unfold wPart wList wRaw
  cases hh : nr with
  | true =>
    have k := h.no hh
    rw [ht] at k
    rw [if_pos rfl, if_pos ⟨Nat.zero_le _, hn⟩, k]
  | false =>
    have k1 := h.ok hh
    rw [ht] at k1
    by_cases hl : body.length < 256 ^ 3
    · rw [if_neg (by decide), if_pos ⟨Nat.zero_le _, by omega, hl⟩, if_pos ⟨Nat.zero_le _, hn⟩, k1]
      dsimp only
      rw [if_pos hl]
    · rw [if_neg (by decide), if_neg (fun e => hl e.2.2), if_pos ⟨Nat.zero_le _, hn⟩, k1]
      dsimp only
      rw [if_neg hl]


set_option maxHeartbeats 12800000 in
theorem dputCert_any (a1 : Option Addr) (l1 c1 : Nat) (a2 : Option Addr) (l2 c2 : Nat) (x : List Int × List Entry) (w : World) (h : Rel tCert (Bel w.heap.size) w [.slice a1 l1 c1, .slice a2 l2 c2] x) (hn : List.length (α := Entry) x.2 ≤ 1048576) (hn2 : ∀ (j : Nat) (z : Entry), x.2[j]? = some z → List.length (α := Ext) z.2 ≤ 1048576) : Calls Try.prog 40 #[.agg #[.slice a1 l1 c1, .slice a2 l2 c2]] w fun e w' => ∃ v, e = .returned v ∧ PO wCert w w' v x := by
  obtain ⟨w0, hw0⟩ : ∃ w0, w0 = w.alloc (.cells #[.slice a1 l1 c1, .slice a2 l2 c2] 44) := ⟨_, rfl⟩
  have kc0 : Chg Non w w0 := by rw [hw0]; exact (Chg.refl _ _).alloc _
  have hs0 : w0.heap.size = w.heap.size + 1 := by rw [hw0]; simp
  have hb0 : w0.heap[w.heap.size]? = some (.cells #[.slice a1 l1 c1, .slice a2 l2 c2] 44) := by rw [hw0]; exact heap_alloc_last w _
  obtain ⟨w1, hw1⟩ : ∃ w1, w1 = w0.alloc (.cells #[.slice none 0 0, .bool false] 115) := ⟨_, rfl⟩
  have kc1 : Chg Non w0 w1 := by rw [hw1]; exact (Chg.refl _ _).alloc _
  have hm : VM w1 w0.heap.size (.slice none 0 0) false [] := by rw [hw1]; exact VM.begin w0
  rw [hs0] at hm
  have HW : Hid (w1 = (w.alloc (.cells #[.slice a1 l1 c1, .slice a2 l2 c2] 44)).alloc (.cells #[.slice none 0 0, .bool false] 115)) := by show _ = _; rw [hw1, hw0]
  have H0 : Hid (w0.heap.size = w.heap.size + 1 ∧ Chg Non w w0 ∧ Chg Non w0 w1 ∧ w.heap.size < w1.heap.size) := ⟨hs0, kc0, kc1, by have := hm.lt; omega⟩
  have HB : Hid (∀ wi, Chg (fun k => w.heap.size + 1 ≤ k) w1 wi → wi.heap[w.heap.size]? = some (.cells #[.slice a1 l1 c1, .slice a2 l2 c2] 44)) := fun wi k => by
    rw [k.block _ (by have := kc1.size; omega) (fun e => by omega), kc1.block _ (by omega) (fun e => e)]
    exact hb0
  obtain ⟨r1, t1⟩ := Rel.split (us1 := [.slice a1 l1 c1]) (us2 := [.slice a2 l2 c2]) h rfl
  have HR : Hid (Rel .byt (Bel w.heap.size) w [.slice a1 l1 c1] x.1 ∧ Rel (.lst tEntry) (Bel w.heap.size) w [.slice a2 l2 c2] x.2) := ⟨r1, t1⟩
  have HX : Hid (List.length (α := Entry) x.2 ≤ 1048576 ∧ ∀ (j : Nat) (z : Entry), x.2[j]? = some z → List.length (α := Ext) z.2 ≤ 1048576) := ⟨hn, hn2⟩
  have hL2 : l2 = List.length (α := Entry) x.2 := by
    obtain ⟨ao, n, c, e, e2, -⟩ := id t1
    injection e with e
    injection e with _ e _
    exact e.trans e2
  have HL2 : Hid (l2 = List.length (α := Entry) x.2 ∧ l2 ≤ 1048576) := ⟨hL2, by rw [hL2]; exact hn⟩
  have V0 : Hid (VP (w.heap.size + 1) (.slice none 0 0) w1 w1 (.slice none 0 0) false []) := VP.refl hm
  have HCN : Hid (Chg Non w w1) := kc0.two kc1
  have HWH : Hid (w.heap.size ≤ (w.heap.size + 1)) := by show _ ≤ _; omega
  have hp := vlist_any (w.heap.size + 1) 1 0 255 1 0 255 rfl rfl rfl (by decide) (by decide) (.slice a1 l1 c1) x.1 (.slice none 0 0) false [] w1 V0.out.wm (HR.out.1.inV HCN.out HWH.out V0.out) (by simp)
  clear h hw0 hw1 hm kc0 kc1 hs0 hb0 r1 t1 hn hn2 hL2
  go_enter Try.func40, Try.ntmps40
  go_wp2_with fail
  rw [← HW.out]
  refine hp.mono ?_
  rintro e w2 hq
  obtain rfl := hq.ret
  obtain ⟨v1, m1, ys1, hq⟩ := hq.q
  have Q1 : Hid (VQ (wBytes 1 0 16777216) 256 (w.heap.size + 1) (.slice none 0 0) w1 w2 v1 false m1 [] ys1 x.1) := hq.like (raw_wbytes (by obtain ⟨_, _, _, k, _⟩ := HR.out.1; exact k) (by decide) (by decide))
  clear hq hp
  obtain ⟨P, hP⟩ : ∃ P, P = w2.heap.size := ⟨_, rfl⟩
  obtain ⟨w3, hw3⟩ : ∃ w3, w3 = w2.alloc (.cells #[.slice none 0 0, .bool false] 115) := ⟨_, rfl⟩
  have hv3 : VM w3 P (.slice none 0 0) false [] := by rw [hw3, hP]; exact VM.begin w2
  have c3 : Chg Non w2 w3 := by rw [hw3]; exact (Chg.refl _ _).alloc _
  have cR : Chg (fun k => w.heap.size + 1 ≤ k) w1 w3 := ((Chg.refl _ _).trans Q1.out.wp.chg (fun i hi e => by
    rcases e with e | e
    · omega
    · cases e)).trans c3 (fun _ _ e => e.elim)
  have cW : Chg Non w w3 := (HCN.out.trans Q1.out.wp.chg (fun i hi e => by
    rcases e with e | e
    · omega
    · cases e)).two c3
  have H3 : Hid (P = w2.heap.size ∧ Chg Non w2 w3 ∧ VM w3 P (.slice none 0 0) false [] ∧ Chg (fun k => w.heap.size + 1 ≤ k) w1 w3 ∧ Chg Non w w3 ∧ w.heap.size + 1 < P) := ⟨hP, c3, hv3, cR, cW, by rw [hP]; have h1 := Q1.out.wp.wm.lt; omega⟩
  have HW3 : Hid (w3 = w2.alloc (.cells #[.slice none 0 0, .bool false] 115)) := hw3
  have HC : Hid (∀ wi vr nr body, VP P (.slice none 0 0) w3 wi vr nr body → Chg Non w wi ∧ wi.heap[w.heap.size]? = some (.cells #[.slice a1 l1 c1, .slice a2 l2 c2] 44)) := fun wi vr nr body k => ⟨cW.trans k.chg (fun i hi e => by
    rcases e with e | e
    · have := H3.out.2.2.2.2.2; omega
    · cases e), HB.out wi (cR.trans k.chg (fun i hi e => by
    rcases e with e | e
    · have := H3.out.2.2.2.2.2; omega
    · cases e))⟩
  have hNm : l2 ≤ 1048576 := HL2.out.2
  obtain ⟨y0, y1⟩ := cell2 (HC.out _ _ _ _ (VP.refl hv3)).2
  clear hw3 hv3 c3 cR cW
  go_wp2_with fail
  rw [← HW3.out, ← hP]
  clear hP y0 y1
  go_loopg [5] l2 (fun m iv wr => ∃ i : Nat, i + m = l2 ∧ iv = .int .i64 i ∧ ∃ vr nr body, Hid (EC P w3 x.2 i wr vr nr body))
  case atStart => exact ⟨0, by omega, rfl, .slice none 0 0, false, [], ⟨VP.refl H3.out.2.2.1, fun _ => rfl, (fun e => by cases e), Nat.zero_le _⟩⟩
  case round =>
    obtain ⟨i, him, rfl, vr, nr, body, hE⟩ := hrel
    obtain ⟨y0, y1⟩ := cell2 (HC.out _ _ _ _ hE.out.vp).2
    by_cases hlt : i < l2
    · obtain ⟨z, hz⟩ : ∃ z : Entry, x.2[i]? = some z := ⟨x.2[i]'(by rw [← HL2.out.1]; exact hlt), List.getElem?_eq_getElem _⟩
      obtain ⟨b, ob, cb, e, hb1, hb2, -, hb3⟩ := HR.out.2.at HL2.out.1 (by omega) (by decide)
      injection e with e1 e2 e3
      subst e1
      obtain ⟨us, hr, hcel⟩ := hb3 i z hz
      obtain ⟨ta, tl, tc, ua, ul, uc, rfl⟩ := hr.entry
      obtain ⟨r1, r2⟩ := Rel.split (us1 := [.slice ta tl tc]) (us2 := [.slice ua ul uc]) hr rfl
      have q0 : w.cell? ⟨b, ob + i * 2, none⟩ = some (.slice ta tl tc) := hcel 0 _ rfl
      have q1 : w.cell? ⟨b, ob + i * 2 + 1, none⟩ = some (.slice ua ul uc) := hcel 1 _ rfl
      have HI : Hid (w.cell? ⟨b, ob + i * 2, none⟩ = some (.slice ta tl tc) ∧ w.cell? ⟨b, ob + i * 2 + 1, none⟩ = some (.slice ua ul uc) ∧ Rel .byt (Bel w.heap.size) w [.slice ta tl tc] z.1 ∧ Rel (.lst tExt) (Bel w.heap.size) w [.slice ua ul uc] z.2 ∧ x.2[i]? = some z) := ⟨q0, q1, r1, r2, hz⟩
      have hcN : l2 ≤ cb := hb1
      have hcm : cb ≤ 9223372036854775807 := hb2
      have x0 := cell_kept q0 (HC.out _ _ _ _ hE.out.vp).1
      have HPW : Hid (w.heap.size ≤ P) := by have := H3.out.2.2.2.2.2; show _ ≤ _; omega
      have hbl : body.length ≤ 36000000000000 := by have h1 := hE.out.len; have h2 := HL2.out.2; have : i * 33554435 ≤ 1048576 * 33554435 := Nat.mul_le_mul_right _ (by omega); omega
      have hp := vlist_any P 3 1 16777215 3 1 16777215 rfl rfl rfl (by decide) (by decide) (.slice ta tl tc) z.1 vr nr body wr hE.out.vp.wm (HI.out.2.2.1.inV H3.out.2.2.2.2.1 HPW.out hE.out.vp) (by omega)
      have HBL : Hid (body.length ≤ 36000000000000 ∧ 0 < gk ∧ i + 1 ≤ l2 ∧ i + gk = l2) := ⟨hbl, by omega, hlt, him⟩
      clear hb3 hcel hr r1 r2 hz q0 q1 hb1 hb2 e2 e3 hbl him
      go_wp2_with (go_at_call 100; refine hp.mono ?_)
      rintro e wA hq
      obtain rfl := hq.ret
      obtain ⟨vA, nA, ysA, hq⟩ := hq.q
      have QA : Hid (VQ (wBytes 3 1 16777216) 16777218 P vr wr wA vA nr nA body ysA z.1) := hq.like (raw_wbytes (by obtain ⟨_, _, _, k, _⟩ := HI.out.2.2.1; exact k) (by decide) (by decide))
      have VA : Hid (VP P (.slice none 0 0) w3 wA vA nA (body ++ ysA)) := hE.out.vp.trans QA.out.wp
      clear hq hp x0 y0 y1
      obtain ⟨y0, y1⟩ := cell2 (HC.out _ _ _ _ VA.out).2
      have x1 := cell_kept HI.out.2.1 (HC.out _ _ _ _ VA.out).1
      have hp := vexts_any P (.slice ua ul uc) z.2 vA nA (body ++ ysA) wA VA.out.wm (HI.out.2.2.2.1.inV H3.out.2.2.2.2.1 HPW.out VA.out) (by have h1 := HBL.out.1; have h2 := QA.out.len; rw [List.length_append]; omega) (HX.out.2 i z HI.out.2.2.2.2)
      go_wp2_with (go_at_call 112; refine hp.mono ?_)
      rintro e wB hq
      obtain rfl := hq.ret
      obtain ⟨vB, nB, ysB, hq⟩ := hq.q
      have HE2 : Hid (EC P w3 x.2 (i + 1) wB vB nB (body ++ (ysA ++ ysB))) := hE.out.step HI.out.2.2.2.2 (VQ.seq (f := fun x : List Int × List Ext => x.1) (g := fun x : List Int × List Ext => x.2) QA.out hq)
      clear hq hp x1 y0 y1
      go_wp2
      go_roundg (gk - 1)
      case measure => have := HBL.out; omega
      case rel => exact ⟨i + 1, by have := HBL.out; omega, by go_num, vB, nB, _, HE2.out⟩
    · have hiN : i = l2 := by omega
      subst hiN
      have hvp := hE.out.vp
      have cc : Chg Non w2 wr := H3.out.2.1.trans hvp.chg (fun i hi e => by
        rcases e with e | e
        · have := H3.out.1; omega
        · cases e)
      have hvm : VM wr (w.heap.size + 1) v1 m1 ([] ++ ys1) := Q1.out.wp.wm.non cc
      have hown : ∀ k, vr.ownBlock = some k → w3.heap.size ≤ k := fun k e => by
        rcases hvp.gr with g | ⟨g, g1, g2⟩
        · rw [g] at e; cases e
        · rw [g1] at e; injection e with e; omega
      have hsz : w2.heap.size < w3.heap.size := by have := H3.out.2.2.1.lt; have := H3.out.1; omega
      have hpa := vpart_any (w.heap.size + 1) P 3 0 3 0 rfl rfl (.inr (.inr rfl)) vr nr body v1 m1 ([] ++ ys1) wr hvm hvp.wm (by have := H3.out.2.2.2.2.2; omega) (fun e => by have := Q1.out.wp.wm.own.lt P e; have := H3.out.1; omega) (fun k e => ⟨fun q => by have := hown k e; have := Q1.out.wp.wm.lt; omega, fun q => by have h1 := hown k e; have h2 := Q1.out.wp.wm.own.lt k q; omega⟩) (by have := Q1.out.len; simp only [List.nil_append]; omega)
      have HF1 : Hid (Chg Non w2 wr ∧ wPart nr 3 0 body = wList 3 0 16777216 wEntry x.2) := ⟨cc, by
        have h1 := hE.out
        rw [HL2.out.1] at h1
        exact h1.fin (by have h2 := HX.out.1; omega)⟩
      clear hvp cc hvm hown hsz
      go_wp2_with (go_at_call 111; refine hpa.mono ?_)
      rintro e w5 hq
      obtain rfl := hq.ret
      obtain ⟨v2, m2, ys2, hq⟩ := hq.q
      have Q2 : Hid (VQ (wList 3 0 16777216 wEntry) 16777218 (w.heap.size + 1) v1 w2 w5 v2 m1 m2 ([] ++ ys1) ys2 x.2) := (hq.like2 HF1.out.2).ahead HF1.out.1
      clear hq hpa y0 y1
      have V2 : Hid (VP (w.heap.size + 1) (.slice none 0 0) w1 w5 v2 m2 (([] ++ ys1) ++ ys2)) := (V0.out.trans Q1.out.wp).trans Q2.out.wp
      have hd := vdone_any (w.heap.size + 1) v2 m2 _ w5 V2.out.wm
      have HF : ∃ G ys, VQ wCert G w0.heap.size (.slice none 0 0) w1 w5 v2 false m2 [] ys x := by
        rw [H0.out.1]
        exact ⟨_, _, VQ.seq (f := fun x : List Int × List (List Int × List Ext) => x.1) (g := fun x : List Int × List (List Int × List Ext) => x.2) Q1.out Q2.out⟩
      have HFF : Hid (∃ G ys, VQ wCert G w0.heap.size (.slice none 0 0) w1 w5 v2 false m2 [] ys x) := HF
      clear HF
      cases m2 with
      | true =>
        rw [if_pos rfl] at hd
        go_wp2_with (go_at_call 101; refine hd.mono ?_)
        rintro e w9 ⟨rfl, rfl⟩
        clear hd
        go_wp2
        go_ret
        obtain ⟨G, ys, hq⟩ := HFF.out
        exact ⟨_, rfl, (vo_none hq H0.out.2.2.1).ahead H0.out.2.1⟩
      | false =>
        rw [if_neg (by decide)] at hd
        go_wp2_with (go_at_call 101; refine hd.mono ?_)
        rintro e w9 ⟨rfl, rfl⟩
        clear hd
        go_wp2
        go_ret
        obtain ⟨G, ys, hq⟩ := HFF.out
        exact ⟨_, rfl, (vo_some hq H0.out.2.2.1).ahead H0.out.2.1⟩
end Go.Proofs.Ytdhckndehijemaa
namespace Go.Proofs.Ytdhckndehijemaa
open Go.RowKit
set_option linter.unusedVariables false
set_option maxRecDepth 100000


set_option maxHeartbeats 1600000 in
theorem putEs_any (ao : Option Addr) (L c : Nat) (x : (Ty.lst tExt).Dat) (w : World) (h : Rel (.lst tExt) (Bel w.heap.size) w [.slice ao L c] x) : Calls Try.prog 138 #[.slice ao L c, .func (.func 139) #[] #[]] w fun e w' => ∃ v, e = .returned v ∧ PO (wExts) w w' v x := by
  obtain ⟨w1, hw1⟩ : ∃ w1, w1 = w.alloc (.cells #[.slice none 0 0, .bool false] 242) := ⟨_, rfl⟩
  have hm : WM w1 w.heap.size (.slice none 0 0) false [] := by rw [hw1]; exact WM.begin w
  have c1 : Chg Non w w1 := by rw [hw1]; exact (Chg.refl _ _).alloc _
  have hp := wexts_any w.heap.size ao L c x (.slice none 0 0) false [] w1 hm (h.begin c1) (by simp)
  have HW1 : Hid (w1 = w.alloc (.cells #[.slice none 0 0, .bool false] 242)) := hw1
  have C1 : Hid (Chg Non w w1) := c1
  clear h hw1 hm c1
  go_enter Try.func138, Try.ntmps138
  go_wp2_with fail
  rw [← HW1.out]
  refine (calls_wo hp).mono ?_
  rintro e w2 ⟨rfl, v2, no2, ys, hq⟩
  obtain ⟨ao, n, c, rfl, -, -, -⟩ := hq.wp.wm.own.rd.shape
  obtain ⟨z0, z1, f0, f1⟩ := hq.wp.wm.facts
  have HQ : Hid (WQ (wExts) 33554603 w.heap.size (.slice none 0 0) w1 w2 (.slice ao n c) false no2 [] ys x) := hq
  clear hq hp
  cases no2 with
  | true =>
    go_wp2
    go_ret
    exact ⟨_, rfl, po_none HQ.out C1.out⟩
  | false =>
    go_wp2
    go_ret
    exact ⟨_, rfl, po_some HQ.out C1.out⟩

set_option maxHeartbeats 800000 in
theorem putExts_any (ao : Option Addr) (L c : Nat) (x : (Ty.lst tExt).Dat) (w : World) (h : Rel (.lst tExt) (Bel w.heap.size) w [.slice ao L c] x) : Calls Try.prog 47 #[.slice ao L c] w fun e w' => ∃ v, e = .returned v ∧ PO (wExts) w w' v x := by
  have hp := putEs_any ao L c x w h
  clear h
  go_enter Try.func47, Try.ntmps47
  go_wp2_with (go_at_call 138; refine hp.mono ?_)
  rintro e w2 ⟨v, rfl, hq⟩
  obtain ⟨ao, n, c, rfl⟩ := hq.shape
  have HQ : Hid (PO (wExts) w w2 (.slice ao n c) x) := hq
  clear hq hp
  go_wp2
  go_ret
  exact ⟨_, rfl, HQ.out⟩
end Go.Proofs.Ytdhckndehijemaa
