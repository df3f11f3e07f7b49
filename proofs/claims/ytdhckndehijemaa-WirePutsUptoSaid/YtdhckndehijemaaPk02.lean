/-
  The document's puts of modes and of a cookie.
-/
import Derived.Test.YtdhckndehijemaaVt
import Derived.Test.YtdhckndehijemaaPk01
namespace Go.Proofs.Ytdhckndehijemaa
open Go.RowKit
set_option linter.unusedVariables false
set_option maxRecDepth 100000


set_option maxHeartbeats 3200000 in
theorem dputModes_any (a1 : Option Addr) (l1 c1 : Nat) (x : List Int) (w : World) (h : Rel (.byt) (Bel w.heap.size) w [.slice a1 l1 c1] x) : Calls Try.prog 84 #[.slice a1 l1 c1] w fun e w' => ∃ v, e = .returned v ∧ PO (wBytes 1 1 16777216) w w' v x := by
  obtain ⟨w0, hw0⟩ : ∃ w0, w0 = w := ⟨_, rfl⟩
  have kc0 : Chg Non w w0 := by rw [hw0]; exact Chg.refl _ _
  have hs0 : w0.heap.size = w.heap.size := by rw [hw0]
  obtain ⟨w1, hw1⟩ : ∃ w1, w1 = w0.alloc (.cells #[.slice none 0 0, .bool false] 115) := ⟨_, rfl⟩
  have kc1 : Chg Non w0 w1 := by rw [hw1]; exact (Chg.refl _ _).alloc _
  have hm : VM w1 w0.heap.size (.slice none 0 0) false [] := by rw [hw1]; exact VM.begin w0
  rw [hs0] at hm
  have HW : Hid (w1 = w.alloc (.cells #[.slice none 0 0, .bool false] 115)) := by show _ = _; rw [hw1, hw0]
  have H0 : Hid (w0.heap.size = w.heap.size ∧ Chg Non w w0 ∧ Chg Non w0 w1 ∧ w.heap.size < w1.heap.size) := ⟨hs0, kc0, kc1, by have := hm.lt; omega⟩
  have HR : Hid (Rel (.byt) (Bel w.heap.size) w [.slice a1 l1 c1] x) := h
  have V0 : Hid (VP w.heap.size (.slice none 0 0) w1 w1 (.slice none 0 0) false []) := VP.refl hm
  have HWH : Hid (w.heap.size ≤ w.heap.size) := by show _ ≤ _; omega
  have HCN : Hid (Chg Non w w1) := kc0.two kc1
  have hp := vlist_any w.heap.size 1 1 255 1 1 255 rfl rfl rfl (by decide) (by decide) (.slice a1 l1 c1) (x) (.slice none 0 0) false [] w1 V0.out.wm (HR.out.inV HCN.out HWH.out V0.out) (by simp)
  clear h hw0 hw1 hm kc0 kc1 hs0
  go_enter Try.func84, Try.ntmps84
  go_wp2_with fail
  rw [← HW.out]
  refine hp.mono ?_
  rintro e w2 hq
  obtain rfl := hq.ret
  obtain ⟨v1, m1, ys1, hq⟩ := hq.q
  have Q1 : Hid (VQ (wBytes 1 1 16777216) 256 w.heap.size (.slice none 0 0) w1 w2 v1 false m1 [] ys1 (x)) := hq.like (raw_wbytes (by obtain ⟨_, _, _, k, _⟩ := HR.out; exact k) (by decide) (by decide))
  have V1 : Hid (VP w.heap.size (.slice none 0 0) w1 w2 v1 m1 ([] ++ ys1)) := V0.out.trans Q1.out.wp
  clear hq hp
  have hd := vdone_any w.heap.size v1 m1 _ w2 V1.out.wm
  have HF : ∃ G ys, VQ (wBytes 1 1 16777216) G w0.heap.size (.slice none 0 0) w1 w2 v1 false m1 [] ys x := by
    rw [H0.out.1]
    exact ⟨_, _, Q1.out⟩
  have HFF : Hid (∃ G ys, VQ (wBytes 1 1 16777216) G w0.heap.size (.slice none 0 0) w1 w2 v1 false m1 [] ys x) := HF
  clear HF
  cases m1 with
  | true =>
    rw [if_pos rfl] at hd
    go_wp2_with (go_at_call 101; refine hd.mono ?_)
    rintro e w9 ⟨rfl, rfl⟩
    clear hd
    go_wp2
    go_ret
    obtain ⟨G, ys, hq⟩ := HFF.out
    exact ⟨_, rfl, (vo_none hq H0.out.2.2.1).ahead H0.out.2.1⟩
  | false =>
    rw [if_neg (by decide)] at hd
    go_wp2_with (go_at_call 101; refine hd.mono ?_)
    rintro e w9 ⟨rfl, rfl⟩
    clear hd
    go_wp2
    go_ret
    obtain ⟨G, ys, hq⟩ := HFF.out
    exact ⟨_, rfl, (vo_some hq H0.out.2.2.1).ahead H0.out.2.1⟩

set_option maxHeartbeats 3200000 in
theorem dputCookie_any (a1 : Option Addr) (l1 c1 : Nat) (x : List Int) (w : World) (h : Rel (.byt) (Bel w.heap.size) w [.slice a1 l1 c1] x) : Calls Try.prog 90 #[.slice a1 l1 c1] w fun e w' => ∃ v, e = .returned v ∧ PO (wBytes 2 1 16777216) w w' v x := by
  obtain ⟨w0, hw0⟩ : ∃ w0, w0 = w := ⟨_, rfl⟩
  have kc0 : Chg Non w w0 := by rw [hw0]; exact Chg.refl _ _
  have hs0 : w0.heap.size = w.heap.size := by rw [hw0]
  obtain ⟨w1, hw1⟩ : ∃ w1, w1 = w0.alloc (.cells #[.slice none 0 0, .bool false] 115) := ⟨_, rfl⟩
  have kc1 : Chg Non w0 w1 := by rw [hw1]; exact (Chg.refl _ _).alloc _
  have hm : VM w1 w0.heap.size (.slice none 0 0) false [] := by rw [hw1]; exact VM.begin w0
  rw [hs0] at hm
  have HW : Hid (w1 = w.alloc (.cells #[.slice none 0 0, .bool false] 115)) := by show _ = _; rw [hw1, hw0]
  have H0 : Hid (w0.heap.size = w.heap.size ∧ Chg Non w w0 ∧ Chg Non w0 w1 ∧ w.heap.size < w1.heap.size) := ⟨hs0, kc0, kc1, by have := hm.lt; omega⟩
  have HR : Hid (Rel (.byt) (Bel w.heap.size) w [.slice a1 l1 c1] x) := h
  have V0 : Hid (VP w.heap.size (.slice none 0 0) w1 w1 (.slice none 0 0) false []) := VP.refl hm
  have HWH : Hid (w.heap.size ≤ w.heap.size) := by show _ ≤ _; omega
  have HCN : Hid (Chg Non w w1) := kc0.two kc1
  have hp := vlist_any w.heap.size 2 1 65535 2 1 65535 rfl rfl rfl (by decide) (by decide) (.slice a1 l1 c1) (x) (.slice none 0 0) false [] w1 V0.out.wm (HR.out.inV HCN.out HWH.out V0.out) (by simp)
  clear h hw0 hw1 hm kc0 kc1 hs0
  go_enter Try.func90, Try.ntmps90
  go_wp2_with fail
  rw [← HW.out]
  refine hp.mono ?_
  rintro e w2 hq
  obtain rfl := hq.ret
  obtain ⟨v1, m1, ys1, hq⟩ := hq.q
  have Q1 : Hid (VQ (wBytes 2 1 16777216) 65537 w.heap.size (.slice none 0 0) w1 w2 v1 false m1 [] ys1 (x)) := hq.like (raw_wbytes (by obtain ⟨_, _, _, k, _⟩ := HR.out; exact k) (by decide) (by decide))
  have V1 : Hid (VP w.heap.size (.slice none 0 0) w1 w2 v1 m1 ([] ++ ys1)) := V0.out.trans Q1.out.wp
  clear hq hp
  have hd := vdone_any w.heap.size v1 m1 _ w2 V1.out.wm
  have HF : ∃ G ys, VQ (wBytes 2 1 16777216) G w0.heap.size (.slice none 0 0) w1 w2 v1 false m1 [] ys x := by
    rw [H0.out.1]
    exact ⟨_, _, Q1.out⟩
  have HFF : Hid (∃ G ys, VQ (wBytes 2 1 16777216) G w0.heap.size (.slice none 0 0) w1 w2 v1 false m1 [] ys x) := HF
  clear HF
  cases m1 with
  | true =>
    rw [if_pos rfl] at hd
    go_wp2_with (go_at_call 101; refine hd.mono ?_)
    rintro e w9 ⟨rfl, rfl⟩
    clear hd
    go_wp2
    go_ret
    obtain ⟨G, ys, hq⟩ := HFF.out
    exact ⟨_, rfl, (vo_none hq H0.out.2.2.1).ahead H0.out.2.1⟩
  | false =>
    rw [if_neg (by decide)] at hd
    go_wp2_with (go_at_call 101; refine hd.mono ?_)
    rintro e w9 ⟨rfl, rfl⟩
    clear hd
    go_wp2
    go_ret
    obtain ⟨G, ys, hq⟩ := HFF.out
    exact ⟨_, rfl, (vo_some hq H0.out.2.2.1).ahead H0.out.2.1⟩
end Go.Proofs.Ytdhckndehijemaa

namespace Go.Proofs.Ytdhckndehijemaa
open Go.RowKit
set_option linter.unusedVariables false
set_option maxRecDepth 100000

set_option maxHeartbeats 3200000 in
theorem vshare_any (r : Nat) (n : Int) (ao : Option Addr) (L c : Nat) (x : Ext) (v : Value) (no : Bool) (xs : List Int) (w : World) (h : VM w r v no xs) (hx : Rel tExt (Fa r v w) w [.int .u16 n, .slice ao L c] x) (hl : xs.length ≤ 60000000000000) :
    Calls Try.prog 173 #[.pointer (some ⟨r, 0, none⟩), .agg #[.int .u16 n, .slice ao L c]] w fun e w' => VOq wShare 65539 r v w w' no xs x e := by
  obtain ⟨w0, hw0⟩ : ∃ w0, w0 = w.alloc (.cells #[.int .u16 n, .slice ao L c] 87) := ⟨_, rfl⟩
  have c0 : Chg Non w w0 := by rw [hw0]; exact (Chg.refl _ _).alloc _
  have hb0 : w0.heap[w.heap.size]? = some (.cells #[.int .u16 n, .slice ao L c] 87) := by rw [hw0]; exact heap_alloc_last w _
  obtain ⟨r1, r2⟩ := Rel.split (us1 := [.int .u16 n]) (us2 := [.slice ao L c]) hx rfl
  obtain ⟨e1, k1⟩ := r1
  injection e1 with e1
  injection e1 with _ e1
  have k1' : InK .u16 n := by rw [e1]; exact k1
  have hn0 : 0 ≤ n := k1'.1
  have hn1 : n < 65536 := k1'.2
  have hwr := wrap_u16 k1'
  have HX : Hid (VM w0 r v no xs ∧ Rel .byt (Fa r v w0) w0 [.slice ao L c] x.2 ∧ n = x.1 ∧ xs.length ≤ 60000000000000 ∧ Chg Non w w0) := ⟨h.non c0, Rel.faN (t := .byt) r2 c0, e1, hl, c0⟩
  have HB : Hid (∀ wi vi ni X, VP r v w0 wi vi ni X → wi.heap[w.heap.size]? = some (.cells #[.int .u16 n, .slice ao L c] 87)) := fun wi vi ni X k => by
    rw [k.chg.block _ (lt_somW hb0) (fun e => by
      rcases e with e | e
      · have := h.lt; omega
      · have := h.own.lt _ e; omega)]
    exact hb0
  have HW : Hid (w0 = w.alloc (.cells #[.int .u16 n, .slice ao L c] 87)) := hw0
  have hp := vnumber_any r 2 n (by decide) hn0 (by omega) v no xs w0 HX.out.1 (by omega)
  clear h hx hl hw0 c0 hb0 r2 e1 k1 k1' hn0 hn1
  go_enter Try.func173, Try.ntmps173
  go_wp2_with fail
  rw [← HW.out]
  refine (calls_vo hp).mono ?_
  rintro e w1 ⟨rfl, v1, hA⟩
  have HA : Hid (VQ (wNum 2) 2 r v w0 w1 v1 no no xs (putD 2 n) x.1 ∧ VP r v w0 w1 v1 no (xs ++ putD 2 n)) := ⟨by rw [← HX.out.2.2.1]; exact VQ.num hA, hA⟩
  have y1 := cell_at 1 (HB.out _ _ _ _ HA.out.2) rfl
  have hli := vlist_any r 2 1 65535 2 1 65535 rfl rfl rfl (.inr (.inl rfl)) (by decide) (.slice ao L c) x.2 v1 no (xs ++ putD 2 n) w1 HA.out.2.wm (Rel.va (t := .byt) HX.out.2.1 HA.out.2) (by rw [List.length_append, putD_len]; have := HX.out.2.2.2.1; omega)
  clear hA hp
  go_wp2_with (go_at_call 100; refine hli.mono ?_)
  rintro e w2 hq
  obtain rfl := hq.ret
  obtain ⟨v2, n2, ys, hq⟩ := hq.q
  have HQ : Hid (VQ (wBytes 2 1 16777216) 65537 r v1 w1 w2 v2 no n2 (xs ++ putD 2 n) ys x.2) := hq.like (raw_wbytes (by obtain ⟨_, _, _, k, _⟩ := HX.out.2.1; exact k) (by decide) (by decide))
  clear hq hli y1
  go_wp2
  go_end0
  exact ((VQ.seq (f := fun x : Ext => x.1) (g := fun x : Ext => x.2) HA.out.1 HQ.out).ahead HX.out.2.2.2.2).vo

set_option maxHeartbeats 3200000 in
theorem dputShare_any (n : Int) (ao : Option Addr) (L c : Nat) (x : Ext) (w : World) (h : Rel tExt (Bel w.heap.size) w [.int .u16 n, .slice ao L c] x) : Calls Try.prog 96 #[.agg #[.int .u16 n, .slice ao L c]] w fun e w' => ∃ v, e = .returned v ∧ PO wShare w w' v x := by
  obtain ⟨w0, hw0⟩ : ∃ w0, w0 = w.alloc (.cells #[.int .u16 n, .slice ao L c] 87) := ⟨_, rfl⟩
  have kc0 : Chg Non w w0 := by rw [hw0]; exact (Chg.refl _ _).alloc _
  have hs0 : w0.heap.size = w.heap.size + 1 := by rw [hw0]; simp
  have hb0 : w0.heap[w.heap.size]? = some (.cells #[.int .u16 n, .slice ao L c] 87) := by rw [hw0]; exact heap_alloc_last w _
  obtain ⟨w1, hw1⟩ : ∃ w1, w1 = w0.alloc (.cells #[.slice none 0 0, .bool false] 115) := ⟨_, rfl⟩
  have kc1 : Chg Non w0 w1 := by rw [hw1]; exact (Chg.refl _ _).alloc _
  have hm : VM w1 w0.heap.size (.slice none 0 0) false [] := by rw [hw1]; exact VM.begin w0
  have hb1 : w1.heap[w.heap.size]? = some (.cells #[.int .u16 n, .slice ao L c] 87) := by rw [kc1.block _ (by omega) (fun e => e)]; exact hb0
  have y0 := cell_at 0 hb1 rfl
  have y1 := cell_at 1 hb1 rfl
  have hr := h.inV (kc0.two kc1) (show w.heap.size ≤ w0.heap.size by omega) (VP.refl hm)
  have hp := vshare_any w0.heap.size n ao L c x (.slice none 0 0) false [] w1 hm hr (by simp)
  have HW : Hid (w1 = (w.alloc (.cells #[.int .u16 n, .slice ao L c] 87)).alloc (.cells #[.slice none 0 0, .bool false] 115)) := by show _ = _; rw [hw1, hw0]
  have H0 : Hid (w0.heap.size = w.heap.size + 1 ∧ Chg Non w w0 ∧ Chg Non w0 w1) := ⟨hs0, kc0, kc1⟩
  rw [hs0] at hp
  rw [HW.out] at y0 y1
  clear h hw0 hw1 hm kc0 kc1 hs0 hb0 hb1 hr
  go_enter Try.func96, Try.ntmps96
  go_wp2_with fail
  rw [← HW.out]
  refine hp.mono ?_
  rintro e w2 hq
  obtain rfl := hq.ret
  obtain ⟨v2, m2, ys, hq⟩ := hq.q
  have HQ : Hid (VQ wShare 65539 (w.heap.size + 1) (.slice none 0 0) w1 w2 v2 false m2 [] ys x) := hq
  have HF : Hid (VQ wShare 65539 w0.heap.size (.slice none 0 0) w1 w2 v2 false m2 [] ys x) := by show VQ _ _ _ _ _ _ _ _ _ _ _ _; rw [H0.out.1]; exact hq
  have hd := vdone_any (w.heap.size + 1) v2 m2 _ w2 HQ.out.wp.wm
  clear hq hp y0 y1
  cases m2 with
  | true =>
    rw [if_pos rfl] at hd
    go_wp2_with (go_at_call 101; refine hd.mono ?_)
    rintro e w9 ⟨rfl, rfl⟩
    clear hd
    go_wp2
    go_ret
    exact ⟨_, rfl, (vo_none HF.out H0.out.2.2).ahead H0.out.2.1⟩
  | false =>
    rw [if_neg (by decide)] at hd
    go_wp2_with (go_at_call 101; refine hd.mono ?_)
    rintro e w9 ⟨rfl, rfl⟩
    clear hd
    go_wp2
    go_ret
    exact ⟨_, rfl, (vo_some HF.out H0.out.2.2).ahead H0.out.2.1⟩

theorem vm_one (w : World) (k : Int) (hk : 0 ≤ k ∧ k < 256) : VM ((w.alloc (.cells #[.int .u8 k] 5)).alloc (.cells #[.slice (some ⟨w.heap.size, 0, none⟩) 1 1, .bool false] 115)) (w.heap.size + 1) (.slice (some ⟨w.heap.size, 0, none⟩) 1 1) false [k] := by
  have e1 : (w.alloc (.cells #[.int .u8 k] 5)).heap.size = w.heap.size + 1 := by simp
  refine ⟨?_, ?_, fun j e => ?_, fun y hy => ?_⟩
  · have := heap_alloc_last (w.alloc (.cells #[.int .u8 k] 5)) (.cells #[.slice (some ⟨w.heap.size, 0, none⟩) 1 1, .bool false] 115)
    rw [e1] at this
    exact this
  · have ho : OwnV (w.alloc (.cells #[.int .u8 k] 5)) (.slice (some ⟨w.heap.size, 0, none⟩) 1 1) [k] :=
      .inr ⟨w.heap.size, 0, 1, 1, rfl, rfl, Nat.le_refl _, by decide, #[.int .u8 k], heap_alloc_last w _, by simp, by simp⟩
    exact ho.keep (fun j e => Below.heap_alloc _ _ _ (ho.lt j e))
  · simp [Value.ownBlock] at e
    omega
  · simp at hy
    subst hy
    exact hk
/-- What a put answers that began with a byte. -/
theorem vo_one {p : Pw (List Int)} {G : Nat} {w w1 w2 : World} {v : Value} {no : Bool} {ys : List Int} {a : List Int} {k : Int} {r : Nat} (hk : putD 1 k = [k]) (h : VQ p G r (.slice (some ⟨w.heap.size, 0, none⟩) 1 1) w1 w2 v false no [k] ys a) (hr : w.heap.size ≤ r) (c : Chg Non w w1) :
    PO (wSeq (fun _ : List Int => k) (fun x => x) (wNum 1) p) w w2 (if no then .slice none 0 0 else v) a := by
  have hc : Chg Non w w2 := c.trans h.wp.chg (fun i hi q => by
    rcases q with q | q
    · omega
    · simp [Value.ownBlock] at q; omega)
  have hs : wSeq (fun _ : List Int => k) (fun x => x) (wNum 1) p a = (p a).map ([k] ++ ·) := by
    unfold wSeq wNum
    rw [hk]
  rcases h.out rfl with ⟨h1, h2⟩ | ⟨h2, h1⟩
  · subst h2
    refine ⟨hc, ?_, ?_, fun j e => by cases e⟩
    · rw [hs, h1]; exact .inl ⟨rfl, rfl⟩
    · rw [hs, h1]; exact Byt.nil
  · subst h2
    have ho := h.wp.wm
    refine ⟨hc, ?_, ?_, fun j e => ?_⟩
    · rw [hs, h1]; exact ho.own
    · rw [hs, h1]; exact ho.byt
    · have e' : v.ownBlock = some j := e
      rcases h.wp.gr with g | ⟨g, g1, g2⟩
      · rw [g] at e'
        simp [Value.ownBlock] at e'
        omega
      · rw [g1] at e'
        injection e' with e'
        have := c.size
        omega

set_option maxHeartbeats 3200000 in
theorem dputStatus_any (ao : Option Addr) (L c : Nat) (x : List Int) (w : World) (h : Rel .byt (Bel w.heap.size) w [.slice ao L c] x) : Calls Try.prog 92 #[.slice ao L c] w fun e w' => ∃ v, e = .returned v ∧ PO wStap w w' v x := by
  obtain ⟨w1, hw1⟩ : ∃ w1, w1 = (w.alloc (.cells #[.int .u8 1] 5)).alloc (.cells #[.slice (some ⟨w.heap.size, 0, none⟩) 1 1, .bool false] 115) := ⟨_, rfl⟩
  have kc1 : Chg Non w w1 := by rw [hw1]; exact ((Chg.refl _ _).alloc _).alloc _
  have hm : VM w1 (w.heap.size + 1) (.slice (some ⟨w.heap.size, 0, none⟩) 1 1) false [1] := by rw [hw1]; exact vm_one w 1 (by decide)
  have hb : Byt (show List Int from x) := by obtain ⟨_, _, _, k, _⟩ := h; exact k
  have hr : Rel .byt (Fa (w.heap.size + 1) (.slice (some ⟨w.heap.size, 0, none⟩) 1 1) w1) w1 [.slice ao L c] x := by
    refine Rel.keep (t := .byt) h (fun q hq => ?_) (fun q hq hk => kc1.block q hk (fun s => s))
    have hq' : q < w.heap.size := hq
    exact ⟨by omega, fun e => by simp [Value.ownBlock] at e; omega, Nat.lt_of_lt_of_le hq kc1.size⟩
  have hp := vlist_any (w.heap.size + 1) 3 1 16777215 3 1 16777215 rfl rfl rfl (by decide) (by decide) (.slice ao L c) x (.slice (some ⟨w.heap.size, 0, none⟩) 1 1) false [1] w1 hm hr (by simp)
  have HW : Hid (w1 = (w.alloc (.cells #[.int .u8 1] 5)).alloc (.cells #[.slice (some ⟨w.heap.size, 0, none⟩) 1 1, .bool false] 115)) := hw1
  have H0 : Hid (Chg Non w w1 ∧ Byt (show List Int from x)) := ⟨kc1, hb⟩
  clear h hw1 hm kc1 hr hb
  go_enter Try.func92, Try.ntmps92
  go_wp2_with fail
  rw [← HW.out]
  refine hp.mono ?_
  rintro e w2 hq
  obtain rfl := hq.ret
  obtain ⟨v2, m2, ys, hq⟩ := hq.q
  have HQ : Hid (VQ (wBytes 3 1 16777216) 16777218 (w.heap.size + 1) (.slice (some ⟨w.heap.size, 0, none⟩) 1 1) w1 w2 v2 false m2 [1] ys x) := hq.like (raw_wbytes H0.out.2 (by decide) (by decide))
  have hd := vdone_any (w.heap.size + 1) v2 m2 _ w2 HQ.out.wp.wm
  clear hq hp
  have HP : Hid (PO wStap w w2 (if m2 then .slice none 0 0 else v2) x) := vo_one (by decide) HQ.out (by omega) H0.out.1
  obtain ⟨z, hz⟩ : ∃ z, z = (if m2 then Value.slice none 0 0 else v2) := ⟨_, rfl⟩
  rw [← hz] at hd HP
  clear hz
  go_wp2_with (go_at_call 101; refine hd.mono ?_)
  rintro e w9 ⟨rfl, rfl⟩
  obtain ⟨zo, zn, zc, rfl⟩ := HP.out.shape
  clear hd
  go_wp2
  go_ret
  exact ⟨_, rfl, HP.out⟩

set_option maxHeartbeats 1600000 in
theorem dputNumber_any (n : Int) (w : World) (hn : InK .u16 n) : Calls Try.prog 94 #[.int .u16 n] w fun e w' => ∃ v, e = .returned v ∧ PO (wNum 2) w w' v n := by
  obtain ⟨k, rfl⟩ : ∃ k : Nat, n = k := ⟨n.toNat, by have := hn.1; omega⟩
  have hk : k < 65536 := by have : (k : Int) < 65536 := hn.2; omega
  have H : Hid (k < 65536) := hk
  have ho : OwnV (w.alloc (.cells #[.int .u8 ((k : Int) / 256), .int .u8 ((k : Int) % 256)] 5)) (.slice (some ⟨w.heap.size, 0, none⟩) 2 2) [(k : Int) / 256, (k : Int) % 256] :=
    .inr ⟨w.heap.size, 0, 2, 2, rfl, rfl, Nat.le_refl _, by decide, #[.int .u8 ((k : Int) / 256), .int .u8 ((k : Int) % 256)], heap_alloc_last w _, by simp, by simp⟩
  have HO : Hid _ := ho
  clear hn ho
  go_enter Try.func94, Try.ntmps94
  go_wp2
  go_ret
  have e : ((wNum 2 (k : Int)).getD []) = [(k : Int) / 256, (k : Int) % 256] := by
    have hk := H.out
    simp [wNum, putD]
    omega
  refine ⟨_, rfl, (Chg.refl _ _).alloc _, by rw [e]; exact HO.out, by rw [e]; intro y hy; have hk := H.out; simp at hy; omega, fun j q => ?_⟩
  have q' : (Value.slice (some ⟨w.heap.size, 0, none⟩) 2 2).ownBlock = some j := q
  simp [Value.ownBlock] at q'
  omega
end Go.Proofs.Ytdhckndehijemaa

namespace Go.Proofs.Ytdhckndehijemaa
open Go.RowKit
set_option linter.unusedVariables false
set_option maxRecDepth 100000

theorem takeA {α : Type} {l : List α} {k : Nat} {z : α} (h : l[k]? = some z) : l.take (k + 1) = l.take k ++ [z] := by
  rw [List.take_add_one, h]
  rfl
/-- What a loop over a list's elements keeps. -/
structure EL {α : Type} (p : Pw α) (B P : Nat) (w0 : World) (l : List α) (i : Nat) (wr : World) (vr : Value) (nr : Bool) (body : List Int) : Prop where
  vp : VP P (.slice none 0 0) w0 wr vr nr body
  ok : nr = false → conc p (l.take i) = some body
  no : nr = true → conc p (l.take i) = none
  len : body.length ≤ i * B
theorem EL.step {α : Type} {p : Pw α} {B P : Nat} {w0 wr w2 : World} {l : List α} {i : Nat} {v2 : Value} {nr n2 : Bool} {body ys : List Int} {z : α} {vr : Value} (h : EL p B P w0 l i wr vr nr body) (hz : l[i]? = some z)
    (hq : VQ p B P vr wr w2 v2 nr n2 body ys z) : EL p B P w0 l (i + 1) w2 v2 n2 (body ++ ys) := by
  have ht : l.take (i + 1) = l.take i ++ [z] := takeA hz
  refine ⟨h.vp.trans hq.wp, fun e => ?_, fun e => ?_, ?_⟩
  · cases hb : nr with
    | true => have := hq.bad hb; rw [this] at e; cases e
    | false =>
      rcases hq.out hb with ⟨-, q2⟩ | ⟨-, q2⟩
      · rw [q2] at e; cases e
      · rw [ht, conc_snoc, h.ok hb, q2]
        rfl
  · cases hb : nr with
    | true => rw [ht, conc_snoc, h.no hb]
    | false =>
      rcases hq.out hb with ⟨q1, -⟩ | ⟨q1, -⟩
      · rw [ht, conc_snoc, h.ok hb, q1]
        rfl
      · rw [q1] at e; cases e
  · have h1 := h.len
    have h2 := hq.len
    rw [List.length_append, Nat.succ_mul]
    omega
theorem conc_min {α : Type} {p : Pw α} {m : Nat} (hp : ∀ a b, p a = some b → m ≤ b.length) : ∀ (l : List α) (body : List Int), conc p l = some body → m * l.length ≤ body.length := by
  intro l
  induction l with
  | nil => intro body _; simp
  | cons a l ih =>
    intro body h
    cases h1 : p a with
    | none =>
      unfold conc at h
      rw [h1] at h
      cases h
    | some x =>
      unfold conc at h
      rw [h1] at h
      cases h2 : conc p l with
      | none =>
        rw [h2] at h
        cases h
      | some y =>
        rw [h2] at h
        injection h with h
        have k1 := hp a x h1
        have k2 := ih y h2
        rw [← h, List.length_append, List.length_cons, Nat.mul_succ]
        omega
theorem EL.fin {α : Type} {p : Pw α} {B P : Nat} {w0 wr : World} {l : List α} {vr : Value} {nr : Bool} {body : List Int} {n least m : Nat} (h : EL p B P w0 l l.length wr vr nr body) (hn : l.length ≤ 16777216) (h3 : 256 ^ n ≤ 16777216) (hm : 0 < m) (hp : ∀ a b, p a = some b → m ≤ b.length) (hl1 : least ≤ 1) (hemp : l = [] → body = []) :
    wPart nr n (m * least) body = wList n least 16777216 p l := by
  have ht : l.take l.length = l := List.take_of_length_le (Nat.le_refl _)
  unfold wPart wList wRaw
  cases hh : nr with
  | true =>
    have k := h.no hh
    rw [ht] at k
    rw [if_pos rfl, k]
    simp
  | false =>
    have k1 := h.ok hh
    rw [ht] at k1
    have k2 := conc_min hp l body k1
    have hle : m * least ≤ body.length ↔ least ≤ l.length := by
      rcases Nat.lt_or_ge 0 l.length with g | g
      · have : m * 1 ≤ m * l.length := Nat.mul_le_mul_left m g
        have h5 : m * least ≤ m * 1 := Nat.mul_le_mul_left m hl1
        exact ⟨fun _ => by omega, fun _ => by omega⟩
      · have hl0 : l = [] := List.length_eq_zero_iff.1 (by omega)
        rw [hemp hl0, hl0]
        simp only [List.length_nil, Nat.le_zero_eq]
        constructor
        · intro e
          rcases Nat.mul_eq_zero.1 e with e | e <;> omega
        · intro e
          rw [e]; simp
    by_cases hl : body.length < 256 ^ n
    · by_cases hle' : least ≤ l.length
      · rw [if_neg (by decide), if_pos ⟨hle.2 hle', by omega, hl⟩, if_pos ⟨hle', hn⟩, k1]
        dsimp only
        rw [if_pos hl]
      · rw [if_neg (by decide), if_neg (fun e => hle' (hle.1 e.1)), if_neg (fun e => hle' e.1)]
    · by_cases hle' : least ≤ l.length
      · rw [if_neg (by decide), if_neg (fun e => hl e.2.2), if_pos ⟨hle', hn⟩, k1]
        dsimp only
        rw [if_neg hl]
      · rw [if_neg (by decide), if_neg (fun e => hl e.2.2), if_neg (fun e => hle' e.1)]

end Go.Proofs.Ytdhckndehijemaa
