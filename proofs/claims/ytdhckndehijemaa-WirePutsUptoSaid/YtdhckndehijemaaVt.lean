/-
  The document's puts.
-/
import Derived.Test.YtdhckndehijemaaVw
import Derived.Test.YtdhckndehijemaaXp
import Derived.Test.YtdhckndehijemaaDl
namespace Go.Proofs.Ytdhckndehijemaa
open Go.RowKit
set_option linter.unusedVariables false
set_option maxRecDepth 100000

theorem Rel.inV {t : Ty} {r : Nat} {w w1 wi : World} {vi : Value} {n : Bool} {X : List Int} {us : List Value} {a : t.Dat} (h : Rel t (Bel w.heap.size) w us a) (c : Chg Non w w1) (hr : w.heap.size ≤ r) (k : VP r (.slice none 0 0) w1 wi vi n X) : Rel t (Fa r vi wi) wi us a := by
  have cc : Chg Non w wi := c.trans k.chg (fun i hi e => by
    rcases e with e | e
    · omega
    · cases e)
  refine h.keep (fun q hq => ⟨by have : q < w.heap.size := hq; omega, fun e => ?_, Nat.lt_of_lt_of_le hq cc.size⟩) (fun q hq hk => cc.block q hk (fun s => s))
  have hq' : q < w.heap.size := hq
  have := c.size
  rcases k.gr with g | ⟨g, g1, g2⟩
  · rw [g] at e; cases e
  · rw [g1] at e; injection e with e; omega
theorem vq_chg {α : Type} {p : Pw α} {G : Nat} {w w1 w2 : World} {v : Value} {no : Bool} {xs ys : List Int} {a : α} (h : VQ p G w.heap.size (.slice none 0 0) w1 w2 v false no xs ys a) (c : Chg Non w w1) : Chg Non w w2 :=
  c.trans h.wp.chg (fun i hi q => by rcases q with q | q; omega; cases q)
theorem vo_none {α : Type} {p : Pw α} {G : Nat} {w w1 w2 : World} {v : Value} {ys : List Int} {a : α} (h : VQ p G w.heap.size (.slice none 0 0) w1 w2 v false true [] ys a) (c : Chg Non w w1) : PO p w w2 (.slice none 0 0) a := by
  rcases h.out rfl with ⟨h1, -⟩ | ⟨h1, -⟩
  · refine ⟨vq_chg h c, ?_, ?_, fun k e => by cases e⟩
    · rw [h1]; exact .inl ⟨rfl, rfl⟩
    · rw [h1]; exact Byt.nil
  · cases h1
theorem vo_some {α : Type} {p : Pw α} {G : Nat} {w w1 w2 : World} {v : Value} {ys : List Int} {a : α} (h : VQ p G w.heap.size (.slice none 0 0) w1 w2 v false false [] ys a) (c : Chg Non w w1) : PO p w w2 v a := by
  rcases h.out rfl with ⟨-, h1⟩ | ⟨-, h1⟩
  · cases h1
  · have ho := h.wp.wm
    refine ⟨vq_chg h c, ?_, ?_, fun k e => ?_⟩
    · rw [h1]; exact ho.own
    · rw [h1]; exact ho.byt
    · rcases h.wp.gr with g | ⟨g, g1, g2⟩
      · rw [g] at e; cases e
      · rw [g1] at e; injection e with e; have := c.size; omega
theorem wrap_u16 {n : Int} (h : InK .u16 n) : IntKind.i64.wrap n = n := by
  obtain ⟨k1, k2⟩ := h
  have : n < 65536 := k2
  rw [IntKind.wrap_i64]
  omega
theorem wrap_u32 {n : Int} (h : InK .u32 n) : IntKind.i64.wrap n = n := by
  obtain ⟨k1, k2⟩ := h
  have : n < 4294967296 := k2
  rw [IntKind.wrap_i64]
  omega


set_option maxHeartbeats 3200000 in
theorem dputExts_any (a1 : Option Addr) (l1 c1 : Nat) (x : List Ext) (w : World) (h : Rel (.lst tExt) (Bel w.heap.size) w [.slice a1 l1 c1] x) (hn : List.length (α := Ext) x ≤ 1048576) : Calls Try.prog 48 #[.slice a1 l1 c1] w fun e w' => ∃ v, e = .returned v ∧ PO wExts w w' v x := by
  obtain ⟨w0, hw0⟩ : ∃ w0, w0 = w := ⟨_, rfl⟩
  have kc0 : Chg Non w w0 := by rw [hw0]; exact Chg.refl _ _
  have hs0 : w0.heap.size = w.heap.size := by rw [hw0]
  obtain ⟨w1, hw1⟩ : ∃ w1, w1 = w0.alloc (.cells #[.slice none 0 0, .bool false] 115) := ⟨_, rfl⟩
  have kc1 : Chg Non w0 w1 := by rw [hw1]; exact (Chg.refl _ _).alloc _
  have hm : VM w1 w0.heap.size (.slice none 0 0) false [] := by rw [hw1]; exact VM.begin w0
  rw [hs0] at hm
  have HW : Hid (w1 = w.alloc (.cells #[.slice none 0 0, .bool false] 115)) := by show _ = _; rw [hw1, hw0]
  have H0 : Hid (w0.heap.size = w.heap.size ∧ Chg Non w w0 ∧ Chg Non w0 w1 ∧ w.heap.size < w1.heap.size) := ⟨hs0, kc0, kc1, by have := hm.lt; omega⟩
  have HR : Hid (Rel (.lst tExt) (Bel w.heap.size) w [.slice a1 l1 c1] x) := h
  have V0 : Hid (VP w.heap.size (.slice none 0 0) w1 w1 (.slice none 0 0) false []) := VP.refl hm
  have HWH : Hid (w.heap.size ≤ w.heap.size) := by show _ ≤ _; omega
  have HCN : Hid (Chg Non w w1) := kc0.two kc1
  have HNE : Hid (List.length (α := Ext) x ≤ 1048576) := hn
  clear hn
  have hp := vexts_any w.heap.size (.slice a1 l1 c1) (x) (.slice none 0 0) false [] w1 V0.out.wm (HR.out.inV HCN.out HWH.out V0.out) (by simp) HNE.out
  clear h hw0 hw1 hm kc0 kc1 hs0
  go_enter Try.func48, Try.ntmps48
  go_wp2_with fail
  rw [← HW.out]
  refine hp.mono ?_
  rintro e w2 hq
  obtain rfl := hq.ret
  obtain ⟨v1, m1, ys1, hq⟩ := hq.q
  have Q1 : Hid (VQ wExts 16777217 w.heap.size (.slice none 0 0) w1 w2 v1 false m1 [] ys1 (x)) := hq
  have V1 : Hid (VP w.heap.size (.slice none 0 0) w1 w2 v1 m1 ([] ++ ys1)) := V0.out.trans Q1.out.wp
  clear hq hp
  have hd := vdone_any w.heap.size v1 m1 _ w2 V1.out.wm
  have HF : ∃ G ys, VQ wExts G w0.heap.size (.slice none 0 0) w1 w2 v1 false m1 [] ys x := by
    rw [H0.out.1]
    exact ⟨_, _, Q1.out⟩
  have HFF : Hid (∃ G ys, VQ wExts G w0.heap.size (.slice none 0 0) w1 w2 v1 false m1 [] ys x) := HF
  clear HF
  cases m1 with
  | true =>
    rw [if_pos rfl] at hd
    go_wp2_with (go_at_call 101; refine hd.mono ?_)
    rintro e w9 ⟨rfl, rfl⟩
    clear hd
    go_wp2
    go_ret
    obtain ⟨G, ys, hq⟩ := HFF.out
    exact ⟨_, rfl, (vo_none hq H0.out.2.2.1).ahead H0.out.2.1⟩
  | false =>
    rw [if_neg (by decide)] at hd
    go_wp2_with (go_at_call 101; refine hd.mono ?_)
    rintro e w9 ⟨rfl, rfl⟩
    clear hd
    go_wp2
    go_ret
    obtain ⟨G, ys, hq⟩ := HFF.out
    exact ⟨_, rfl, (vo_some hq H0.out.2.2.1).ahead H0.out.2.1⟩

set_option maxHeartbeats 3200000 in
theorem dputVer_any (n1 : Int) (a2 : Option Addr) (l2 c2 : Nat) (x : Int × List Int) (w : World) (h : Rel (tExt) (Bel w.heap.size) w [.int .u16 n1, .slice a2 l2 c2] x) : Calls Try.prog 44 #[.agg #[.int .u16 n1, .slice a2 l2 c2]] w fun e w' => ∃ v, e = .returned v ∧ PO wVer w w' v x := by
  obtain ⟨w0, hw0⟩ : ∃ w0, w0 = w.alloc (.cells #[.int .u16 n1, .slice a2 l2 c2] 49) := ⟨_, rfl⟩
  have kc0 : Chg Non w w0 := by rw [hw0]; exact (Chg.refl _ _).alloc _
  have hs0 : w0.heap.size = w.heap.size + 1 := by rw [hw0]; simp
  have hb0 : w0.heap[w.heap.size]? = some (.cells #[.int .u16 n1, .slice a2 l2 c2] 49) := by rw [hw0]; exact heap_alloc_last w _
  obtain ⟨w1, hw1⟩ : ∃ w1, w1 = w0.alloc (.cells #[.slice none 0 0, .bool false] 115) := ⟨_, rfl⟩
  have kc1 : Chg Non w0 w1 := by rw [hw1]; exact (Chg.refl _ _).alloc _
  have hm : VM w1 w0.heap.size (.slice none 0 0) false [] := by rw [hw1]; exact VM.begin w0
  rw [hs0] at hm
  have HW : Hid (w1 = (w.alloc (.cells #[.int .u16 n1, .slice a2 l2 c2] 49)).alloc (.cells #[.slice none 0 0, .bool false] 115)) := by show _ = _; rw [hw1, hw0]
  have H0 : Hid (w0.heap.size = w.heap.size + 1 ∧ Chg Non w w0 ∧ Chg Non w0 w1 ∧ w.heap.size < w1.heap.size) := ⟨hs0, kc0, kc1, by have := hm.lt; omega⟩
  have HB : Hid (∀ wi vi n X, VP (w.heap.size + 1) (.slice none 0 0) w1 wi vi n X → wi.heap[w.heap.size]? = some (.cells #[.int .u16 n1, .slice a2 l2 c2] 49)) := fun wi vi n X k => by
    rw [k.chg.block _ (by have := kc1.size; omega) (fun e => by
      rcases e with e | e
      · omega
      · cases e), kc1.block _ (by omega) (fun e => e)]
    exact hb0
  obtain ⟨r1, t1⟩ := Rel.split (us1 := [.int .u16 n1]) (us2 := [.slice a2 l2 c2]) h rfl
  have r2 := t1
  have HR : Hid (Rel (.num .u16) (Bel w.heap.size) w [.int .u16 n1] x.1 ∧ Rel (.byt) (Bel w.heap.size) w [.slice a2 l2 c2] x.2) := ⟨r1, r2⟩
  have V0 : Hid (VP (w.heap.size + 1) (.slice none 0 0) w1 w1 (.slice none 0 0) false []) := VP.refl hm
  have HWH : Hid (w.heap.size ≤ (w.heap.size + 1)) := by show _ ≤ _; omega
  have HCN : Hid (Chg Non w w1) := kc0.two kc1
  have hwr1 := wrap_u16 (show InK .u16 n1 from by
    obtain ⟨e, k⟩ := HR.out.1
    injection e with e
    injection e with _ e
    rw [e]; exact k)
  obtain ⟨e1, k1⟩ := HR.out.1
  injection e1 with e1
  injection e1 with _ e1
  have HE1 : Hid (n1 = x.1 ∧ InK .u16 n1) := ⟨e1, by rw [e1]; exact k1⟩
  clear e1 k1
  have hp := vnumber_any (w.heap.size + 1) 2 n1 (by decide) HE1.out.2.1 (by have : n1 < 65536 := HE1.out.2.2; omega) (.slice none 0 0) false [] w1 V0.out.wm (by simp)
  clear h hw0 hw1 hm kc0 kc1 hs0 hb0 r1 t1
  go_enter Try.func44, Try.ntmps44
  go_wp2_with fail
  rw [← HW.out]
  refine (calls_vo hp).mono ?_
  rintro e w2 ⟨rfl, v1, hq⟩
  have Q1 : Hid (VQ (wNum 2) 2 (w.heap.size + 1) (.slice none 0 0) w1 w2 v1 false false [] (putD 2 n1) (x.1)) := by show VQ _ _ _ _ _ _ _ _ _ _ _ _; rw [← HE1.out.1]; exact VQ.num hq
  have V1 : Hid (VP (w.heap.size + 1) (.slice none 0 0) w1 w2 v1 false ([] ++ (putD 2 n1))) := V0.out.trans Q1.out.wp
  clear hq hp
  have y0 := cell_at 0 (HB.out _ _ _ _ V1.out) rfl
  have y1 := cell_at 1 (HB.out _ _ _ _ V1.out) rfl
  have hp := vlist_any (w.heap.size + 1) 2 0 65535 2 0 65535 rfl rfl rfl (by decide) (by decide) (.slice a2 l2 c2) (x.2) v1 false ([] ++ (putD 2 n1)) w2 V1.out.wm (HR.out.2.inV HCN.out HWH.out V1.out) (by simp only [List.length_append, List.length_nil]; have := Q1.out.len; omega)
  go_wp2_with (go_at_call 100; refine hp.mono ?_)
  rintro e w3 hq
  obtain rfl := hq.ret
  obtain ⟨v2, m2, ys2, hq⟩ := hq.q
  have Q2 : Hid (VQ (wBytes 2 0 16777216) 65537 (w.heap.size + 1) v1 w2 w3 v2 false m2 ([] ++ (putD 2 n1)) ys2 (x.2)) := hq.like (raw_wbytes (by obtain ⟨_, _, _, k, _⟩ := HR.out.2; exact k) (by decide) (by decide))
  have V2 : Hid (VP (w.heap.size + 1) (.slice none 0 0) w1 w3 v2 m2 (([] ++ (putD 2 n1)) ++ ys2)) := V1.out.trans Q2.out.wp
  clear hq hp
  clear y0 y1
  have hd := vdone_any (w.heap.size + 1) v2 m2 _ w3 V2.out.wm
  have HF : ∃ G ys, VQ wVer G w0.heap.size (.slice none 0 0) w1 w3 v2 false m2 [] ys x := by
    rw [H0.out.1]
    exact ⟨_, _, (VQ.seq (f := fun x : Ext => x.1) (g := fun x : Ext => x.2) Q1.out Q2.out)⟩
  have HFF : Hid (∃ G ys, VQ wVer G w0.heap.size (.slice none 0 0) w1 w3 v2 false m2 [] ys x) := HF
  clear HF
  cases m2 with
  | true =>
    rw [if_pos rfl] at hd
    go_wp2_with (go_at_call 101; refine hd.mono ?_)
    rintro e w9 ⟨rfl, rfl⟩
    clear hd
    go_wp2
    go_ret
    obtain ⟨G, ys, hq⟩ := HFF.out
    exact ⟨_, rfl, (vo_none hq H0.out.2.2.1).ahead H0.out.2.1⟩
  | false =>
    rw [if_neg (by decide)] at hd
    go_wp2_with (go_at_call 101; refine hd.mono ?_)
    rintro e w9 ⟨rfl, rfl⟩
    clear hd
    go_wp2
    go_ret
    obtain ⟨G, ys, hq⟩ := HFF.out
    exact ⟨_, rfl, (vo_some hq H0.out.2.2.1).ahead H0.out.2.1⟩

set_option maxHeartbeats 3200000 in
theorem dputReq_any (a1 : Option Addr) (l1 c1 : Nat) (a2 : Option Addr) (l2 c2 : Nat) (x : List Int × List Ext) (w : World) (h : Rel (tReq) (Bel w.heap.size) w [.slice a1 l1 c1, .slice a2 l2 c2] x) (hn : List.length (α := Ext) x.2 ≤ 1048576) : Calls Try.prog 46 #[.agg #[.slice a1 l1 c1, .slice a2 l2 c2]] w fun e w' => ∃ v, e = .returned v ∧ PO wReq w w' v x := by
  obtain ⟨w0, hw0⟩ : ∃ w0, w0 = w.alloc (.cells #[.slice a1 l1 c1, .slice a2 l2 c2] 57) := ⟨_, rfl⟩
  have kc0 : Chg Non w w0 := by rw [hw0]; exact (Chg.refl _ _).alloc _
  have hs0 : w0.heap.size = w.heap.size + 1 := by rw [hw0]; simp
  have hb0 : w0.heap[w.heap.size]? = some (.cells #[.slice a1 l1 c1, .slice a2 l2 c2] 57) := by rw [hw0]; exact heap_alloc_last w _
  obtain ⟨w1, hw1⟩ : ∃ w1, w1 = w0.alloc (.cells #[.slice none 0 0, .bool false] 115) := ⟨_, rfl⟩
  have kc1 : Chg Non w0 w1 := by rw [hw1]; exact (Chg.refl _ _).alloc _
  have hm : VM w1 w0.heap.size (.slice none 0 0) false [] := by rw [hw1]; exact VM.begin w0
  rw [hs0] at hm
  have HW : Hid (w1 = (w.alloc (.cells #[.slice a1 l1 c1, .slice a2 l2 c2] 57)).alloc (.cells #[.slice none 0 0, .bool false] 115)) := by show _ = _; rw [hw1, hw0]
  have H0 : Hid (w0.heap.size = w.heap.size + 1 ∧ Chg Non w w0 ∧ Chg Non w0 w1 ∧ w.heap.size < w1.heap.size) := ⟨hs0, kc0, kc1, by have := hm.lt; omega⟩
  have HB : Hid (∀ wi vi n X, VP (w.heap.size + 1) (.slice none 0 0) w1 wi vi n X → wi.heap[w.heap.size]? = some (.cells #[.slice a1 l1 c1, .slice a2 l2 c2] 57)) := fun wi vi n X k => by
    rw [k.chg.block _ (by have := kc1.size; omega) (fun e => by
      rcases e with e | e
      · omega
      · cases e), kc1.block _ (by omega) (fun e => e)]
    exact hb0
  obtain ⟨r1, t1⟩ := Rel.split (us1 := [.slice a1 l1 c1]) (us2 := [.slice a2 l2 c2]) h rfl
  have r2 := t1
  have HR : Hid (Rel (.byt) (Bel w.heap.size) w [.slice a1 l1 c1] x.1 ∧ Rel (.lst tExt) (Bel w.heap.size) w [.slice a2 l2 c2] x.2) := ⟨r1, r2⟩
  have V0 : Hid (VP (w.heap.size + 1) (.slice none 0 0) w1 w1 (.slice none 0 0) false []) := VP.refl hm
  have HWH : Hid (w.heap.size ≤ (w.heap.size + 1)) := by show _ ≤ _; omega
  have HCN : Hid (Chg Non w w1) := kc0.two kc1
  have HNE : Hid (List.length (α := Ext) x.2 ≤ 1048576) := hn
  clear hn
  have hp := vlist_any (w.heap.size + 1) 1 0 255 1 0 255 rfl rfl rfl (by decide) (by decide) (.slice a1 l1 c1) (x.1) (.slice none 0 0) false [] w1 V0.out.wm (HR.out.1.inV HCN.out HWH.out V0.out) (by simp)
  clear h hw0 hw1 hm kc0 kc1 hs0 hb0 r1 t1
  go_enter Try.func46, Try.ntmps46
  go_wp2_with fail
  rw [← HW.out]
  refine hp.mono ?_
  rintro e w2 hq
  obtain rfl := hq.ret
  obtain ⟨v1, m1, ys1, hq⟩ := hq.q
  have Q1 : Hid (VQ (wBytes 1 0 16777216) 256 (w.heap.size + 1) (.slice none 0 0) w1 w2 v1 false m1 [] ys1 (x.1)) := hq.like (raw_wbytes (by obtain ⟨_, _, _, k, _⟩ := HR.out.1; exact k) (by decide) (by decide))
  have V1 : Hid (VP (w.heap.size + 1) (.slice none 0 0) w1 w2 v1 m1 ([] ++ ys1)) := V0.out.trans Q1.out.wp
  clear hq hp
  have y0 := cell_at 0 (HB.out _ _ _ _ V1.out) rfl
  have y1 := cell_at 1 (HB.out _ _ _ _ V1.out) rfl
  have hp := vexts_any (w.heap.size + 1) (.slice a2 l2 c2) (x.2) v1 m1 ([] ++ ys1) w2 V1.out.wm (HR.out.2.inV HCN.out HWH.out V1.out) (by simp only [List.length_append, List.length_nil]; have := Q1.out.len; omega) HNE.out
  go_wp2_with (go_at_call 112; refine hp.mono ?_)
  rintro e w3 hq
  obtain rfl := hq.ret
  obtain ⟨v2, m2, ys2, hq⟩ := hq.q
  have Q2 : Hid (VQ wExts 16777217 (w.heap.size + 1) v1 w2 w3 v2 m1 m2 ([] ++ ys1) ys2 (x.2)) := hq
  have V2 : Hid (VP (w.heap.size + 1) (.slice none 0 0) w1 w3 v2 m2 (([] ++ ys1) ++ ys2)) := V1.out.trans Q2.out.wp
  clear hq hp
  clear y0 y1
  have hd := vdone_any (w.heap.size + 1) v2 m2 _ w3 V2.out.wm
  have HF : ∃ G ys, VQ wReq G w0.heap.size (.slice none 0 0) w1 w3 v2 false m2 [] ys x := by
    rw [H0.out.1]
    exact ⟨_, _, (VQ.seq (f := fun x : List Int × List Ext => x.1) (g := fun x : List Int × List Ext => x.2) Q1.out Q2.out)⟩
  have HFF : Hid (∃ G ys, VQ wReq G w0.heap.size (.slice none 0 0) w1 w3 v2 false m2 [] ys x) := HF
  clear HF
  cases m2 with
  | true =>
    rw [if_pos rfl] at hd
    go_wp2_with (go_at_call 101; refine hd.mono ?_)
    rintro e w9 ⟨rfl, rfl⟩
    clear hd
    go_wp2
    go_ret
    obtain ⟨G, ys, hq⟩ := HFF.out
    exact ⟨_, rfl, (vo_none hq H0.out.2.2.1).ahead H0.out.2.1⟩
  | false =>
    rw [if_neg (by decide)] at hd
    go_wp2_with (go_at_call 101; refine hd.mono ?_)
    rintro e w9 ⟨rfl, rfl⟩
    clear hd
    go_wp2
    go_ret
    obtain ⟨G, ys, hq⟩ := HFF.out
    exact ⟨_, rfl, (vo_some hq H0.out.2.2.1).ahead H0.out.2.1⟩

set_option maxHeartbeats 3200000 in
theorem dputTick_any (n1 : Int) (n2 : Int) (a3 : Option Addr) (l3 c3 : Nat) (a4 : Option Addr) (l4 c4 : Nat) (a5 : Option Addr) (l5 c5 : Nat) (x : Int × Int × List Int × List Int × List Ext) (w : World) (h : Rel (tTick) (Bel w.heap.size) w [.int .u32 n1, .int .u32 n2, .slice a3 l3 c3, .slice a4 l4 c4, .slice a5 l5 c5] x) (hn : List.length (α := Ext) x.2.2.2.2 ≤ 1048576) : Calls Try.prog 42 #[.agg #[.int .u32 n1, .int .u32 n2, .slice a3 l3 c3, .slice a4 l4 c4, .slice a5 l5 c5]] w fun e w' => ∃ v, e = .returned v ∧ PO wTick w w' v x := by
  obtain ⟨w0, hw0⟩ : ∃ w0, w0 = w.alloc (.cells #[.int .u32 n1, .int .u32 n2, .slice a3 l3 c3, .slice a4 l4 c4, .slice a5 l5 c5] 47) := ⟨_, rfl⟩
  have kc0 : Chg Non w w0 := by rw [hw0]; exact (Chg.refl _ _).alloc _
  have hs0 : w0.heap.size = w.heap.size + 1 := by rw [hw0]; simp
  have hb0 : w0.heap[w.heap.size]? = some (.cells #[.int .u32 n1, .int .u32 n2, .slice a3 l3 c3, .slice a4 l4 c4, .slice a5 l5 c5] 47) := by rw [hw0]; exact heap_alloc_last w _
  obtain ⟨w1, hw1⟩ : ∃ w1, w1 = w0.alloc (.cells #[.slice none 0 0, .bool false] 115) := ⟨_, rfl⟩
  have kc1 : Chg Non w0 w1 := by rw [hw1]; exact (Chg.refl _ _).alloc _
  have hm : VM w1 w0.heap.size (.slice none 0 0) false [] := by rw [hw1]; exact VM.begin w0
  rw [hs0] at hm
  have HW : Hid (w1 = (w.alloc (.cells #[.int .u32 n1, .int .u32 n2, .slice a3 l3 c3, .slice a4 l4 c4, .slice a5 l5 c5] 47)).alloc (.cells #[.slice none 0 0, .bool false] 115)) := by show _ = _; rw [hw1, hw0]
  have H0 : Hid (w0.heap.size = w.heap.size + 1 ∧ Chg Non w w0 ∧ Chg Non w0 w1 ∧ w.heap.size < w1.heap.size) := ⟨hs0, kc0, kc1, by have := hm.lt; omega⟩
  have HB : Hid (∀ wi vi n X, VP (w.heap.size + 1) (.slice none 0 0) w1 wi vi n X → wi.heap[w.heap.size]? = some (.cells #[.int .u32 n1, .int .u32 n2, .slice a3 l3 c3, .slice a4 l4 c4, .slice a5 l5 c5] 47)) := fun wi vi n X k => by
    rw [k.chg.block _ (by have := kc1.size; omega) (fun e => by
      rcases e with e | e
      · omega
      · cases e), kc1.block _ (by omega) (fun e => e)]
    exact hb0
  obtain ⟨r1, t1⟩ := Rel.split (us1 := [.int .u32 n1]) (us2 := [.int .u32 n2, .slice a3 l3 c3, .slice a4 l4 c4, .slice a5 l5 c5]) h rfl
  obtain ⟨r2, t2⟩ := Rel.split (us1 := [.int .u32 n2]) (us2 := [.slice a3 l3 c3, .slice a4 l4 c4, .slice a5 l5 c5]) t1 rfl
  obtain ⟨r3, t3⟩ := Rel.split (us1 := [.slice a3 l3 c3]) (us2 := [.slice a4 l4 c4, .slice a5 l5 c5]) t2 rfl
  obtain ⟨r4, t4⟩ := Rel.split (us1 := [.slice a4 l4 c4]) (us2 := [.slice a5 l5 c5]) t3 rfl
  have r5 := t4
  have HR : Hid (Rel (.num .u32) (Bel w.heap.size) w [.int .u32 n1] x.1 ∧ Rel (.num .u32) (Bel w.heap.size) w [.int .u32 n2] x.2.1 ∧ Rel (.byt) (Bel w.heap.size) w [.slice a3 l3 c3] x.2.2.1 ∧ Rel (.byt) (Bel w.heap.size) w [.slice a4 l4 c4] x.2.2.2.1 ∧ Rel (.lst tExt) (Bel w.heap.size) w [.slice a5 l5 c5] x.2.2.2.2) := ⟨r1, r2, r3, r4, r5⟩
  have V0 : Hid (VP (w.heap.size + 1) (.slice none 0 0) w1 w1 (.slice none 0 0) false []) := VP.refl hm
  have HWH : Hid (w.heap.size ≤ (w.heap.size + 1)) := by show _ ≤ _; omega
  have HCN : Hid (Chg Non w w1) := kc0.two kc1
  have hwr1 := wrap_u32 (show InK .u32 n1 from by
    obtain ⟨e, k⟩ := HR.out.1
    injection e with e
    injection e with _ e
    rw [e]; exact k)
  obtain ⟨e1, k1⟩ := HR.out.1
  injection e1 with e1
  injection e1 with _ e1
  have HE1 : Hid (n1 = x.1 ∧ InK .u32 n1) := ⟨e1, by rw [e1]; exact k1⟩
  clear e1 k1
  have hwr2 := wrap_u32 (show InK .u32 n2 from by
    obtain ⟨e, k⟩ := HR.out.2.1
    injection e with e
    injection e with _ e
    rw [e]; exact k)
  obtain ⟨e2, k2⟩ := HR.out.2.1
  injection e2 with e2
  injection e2 with _ e2
  have HE2 : Hid (n2 = x.2.1 ∧ InK .u32 n2) := ⟨e2, by rw [e2]; exact k2⟩
  clear e2 k2
  have HNE : Hid (List.length (α := Ext) x.2.2.2.2 ≤ 1048576) := hn
  clear hn
  have hp := vnumber_any (w.heap.size + 1) 4 n1 (by decide) HE1.out.2.1 (by have : n1 < 4294967296 := HE1.out.2.2; omega) (.slice none 0 0) false [] w1 V0.out.wm (by simp)
  clear h hw0 hw1 hm kc0 kc1 hs0 hb0 r1 r2 r3 r4 t1 t2 t3 t4
  go_enter Try.func42, Try.ntmps42
  go_wp2_with fail
  rw [← HW.out]
  refine (calls_vo hp).mono ?_
  rintro e w2 ⟨rfl, v1, hq⟩
  have Q1 : Hid (VQ (wNum 4) 4 (w.heap.size + 1) (.slice none 0 0) w1 w2 v1 false false [] (putD 4 n1) (x.1)) := by show VQ _ _ _ _ _ _ _ _ _ _ _ _; rw [← HE1.out.1]; exact VQ.num hq
  have V1 : Hid (VP (w.heap.size + 1) (.slice none 0 0) w1 w2 v1 false ([] ++ (putD 4 n1))) := V0.out.trans Q1.out.wp
  clear hq hp
  have y0 := cell_at 0 (HB.out _ _ _ _ V1.out) rfl
  have y1 := cell_at 1 (HB.out _ _ _ _ V1.out) rfl
  have y2 := cell_at 2 (HB.out _ _ _ _ V1.out) rfl
  have y3 := cell_at 3 (HB.out _ _ _ _ V1.out) rfl
  have y4 := cell_at 4 (HB.out _ _ _ _ V1.out) rfl
  have hp := vnumber_any (w.heap.size + 1) 4 n2 (by decide) HE2.out.2.1 (by have : n2 < 4294967296 := HE2.out.2.2; omega) v1 false ([] ++ (putD 4 n1)) w2 V1.out.wm (by simp only [List.length_append, List.length_nil]; have := Q1.out.len; omega)
  go_wp2_with (go_at_call 110; refine (calls_vo hp).mono ?_)
  rintro e w3 ⟨rfl, v2, hq⟩
  have Q2 : Hid (VQ (wNum 4) 4 (w.heap.size + 1) v1 w2 w3 v2 false false ([] ++ (putD 4 n1)) (putD 4 n2) (x.2.1)) := by show VQ _ _ _ _ _ _ _ _ _ _ _ _; rw [← HE2.out.1]; exact VQ.num hq
  have V2 : Hid (VP (w.heap.size + 1) (.slice none 0 0) w1 w3 v2 false (([] ++ (putD 4 n1)) ++ (putD 4 n2))) := V1.out.trans Q2.out.wp
  clear hq hp
  clear y0 y1 y2 y3 y4
  have y0 := cell_at 0 (HB.out _ _ _ _ V2.out) rfl
  have y1 := cell_at 1 (HB.out _ _ _ _ V2.out) rfl
  have y2 := cell_at 2 (HB.out _ _ _ _ V2.out) rfl
  have y3 := cell_at 3 (HB.out _ _ _ _ V2.out) rfl
  have y4 := cell_at 4 (HB.out _ _ _ _ V2.out) rfl
  have hp := vlist_any (w.heap.size + 1) 1 0 255 1 0 255 rfl rfl rfl (by decide) (by decide) (.slice a3 l3 c3) (x.2.2.1) v2 false (([] ++ (putD 4 n1)) ++ (putD 4 n2)) w3 V2.out.wm (HR.out.2.2.1.inV HCN.out HWH.out V2.out) (by simp only [List.length_append, List.length_nil]; have := Q1.out.len; have := Q2.out.len; omega)
  go_wp2_with (go_at_call 100; refine hp.mono ?_)
  rintro e w4 hq
  obtain rfl := hq.ret
  obtain ⟨v3, m3, ys3, hq⟩ := hq.q
  have Q3 : Hid (VQ (wBytes 1 0 16777216) 256 (w.heap.size + 1) v2 w3 w4 v3 false m3 (([] ++ (putD 4 n1)) ++ (putD 4 n2)) ys3 (x.2.2.1)) := hq.like (raw_wbytes (by obtain ⟨_, _, _, k, _⟩ := HR.out.2.2.1; exact k) (by decide) (by decide))
  have V3 : Hid (VP (w.heap.size + 1) (.slice none 0 0) w1 w4 v3 m3 ((([] ++ (putD 4 n1)) ++ (putD 4 n2)) ++ ys3)) := V2.out.trans Q3.out.wp
  clear hq hp
  clear y0 y1 y2 y3 y4
  have y0 := cell_at 0 (HB.out _ _ _ _ V3.out) rfl
  have y1 := cell_at 1 (HB.out _ _ _ _ V3.out) rfl
  have y2 := cell_at 2 (HB.out _ _ _ _ V3.out) rfl
  have y3 := cell_at 3 (HB.out _ _ _ _ V3.out) rfl
  have y4 := cell_at 4 (HB.out _ _ _ _ V3.out) rfl
  have hp := vlist_any (w.heap.size + 1) 2 1 65535 2 1 65535 rfl rfl rfl (by decide) (by decide) (.slice a4 l4 c4) (x.2.2.2.1) v3 m3 ((([] ++ (putD 4 n1)) ++ (putD 4 n2)) ++ ys3) w4 V3.out.wm (HR.out.2.2.2.1.inV HCN.out HWH.out V3.out) (by simp only [List.length_append, List.length_nil]; have := Q1.out.len; have := Q2.out.len; have := Q3.out.len; omega)
  go_wp2_with (go_at_call 100; refine hp.mono ?_)
  rintro e w5 hq
  obtain rfl := hq.ret
  obtain ⟨v4, m4, ys4, hq⟩ := hq.q
  have Q4 : Hid (VQ (wBytes 2 1 16777216) 65537 (w.heap.size + 1) v3 w4 w5 v4 m3 m4 ((([] ++ (putD 4 n1)) ++ (putD 4 n2)) ++ ys3) ys4 (x.2.2.2.1)) := hq.like (raw_wbytes (by obtain ⟨_, _, _, k, _⟩ := HR.out.2.2.2.1; exact k) (by decide) (by decide))
  have V4 : Hid (VP (w.heap.size + 1) (.slice none 0 0) w1 w5 v4 m4 (((([] ++ (putD 4 n1)) ++ (putD 4 n2)) ++ ys3) ++ ys4)) := V3.out.trans Q4.out.wp
  clear hq hp
  clear y0 y1 y2 y3 y4
  have y0 := cell_at 0 (HB.out _ _ _ _ V4.out) rfl
  have y1 := cell_at 1 (HB.out _ _ _ _ V4.out) rfl
  have y2 := cell_at 2 (HB.out _ _ _ _ V4.out) rfl
  have y3 := cell_at 3 (HB.out _ _ _ _ V4.out) rfl
  have y4 := cell_at 4 (HB.out _ _ _ _ V4.out) rfl
  have hp := vexts_any (w.heap.size + 1) (.slice a5 l5 c5) (x.2.2.2.2) v4 m4 (((([] ++ (putD 4 n1)) ++ (putD 4 n2)) ++ ys3) ++ ys4) w5 V4.out.wm (HR.out.2.2.2.2.inV HCN.out HWH.out V4.out) (by simp only [List.length_append, List.length_nil]; have := Q1.out.len; have := Q2.out.len; have := Q3.out.len; have := Q4.out.len; omega) HNE.out
  go_wp2_with (go_at_call 112; refine hp.mono ?_)
  rintro e w6 hq
  obtain rfl := hq.ret
  obtain ⟨v5, m5, ys5, hq⟩ := hq.q
  have Q5 : Hid (VQ wExts 16777217 (w.heap.size + 1) v4 w5 w6 v5 m4 m5 (((([] ++ (putD 4 n1)) ++ (putD 4 n2)) ++ ys3) ++ ys4) ys5 (x.2.2.2.2)) := hq
  have V5 : Hid (VP (w.heap.size + 1) (.slice none 0 0) w1 w6 v5 m5 ((((([] ++ (putD 4 n1)) ++ (putD 4 n2)) ++ ys3) ++ ys4) ++ ys5)) := V4.out.trans Q5.out.wp
  clear hq hp
  clear y0 y1 y2 y3 y4
  have hd := vdone_any (w.heap.size + 1) v5 m5 _ w6 V5.out.wm
  have HF : ∃ G ys, VQ wTick G w0.heap.size (.slice none 0 0) w1 w6 v5 false m5 [] ys x := by
    rw [H0.out.1]
    exact ⟨_, _, (VQ.seq (f := fun x : Int × Int × List Int × List Int × List Ext => x.1) (g := fun x : Int × Int × List Int × List Int × List Ext => x.2) Q1.out (VQ.seq (f := fun x : Int × List Int × List Int × List Ext => x.1) (g := fun x : Int × List Int × List Int × List Ext => x.2) Q2.out (VQ.seq (f := fun x : List Int × List Int × List Ext => x.1) (g := fun x : List Int × List Int × List Ext => x.2) Q3.out (VQ.seq (f := fun x : List Int × List Ext => x.1) (g := fun x : List Int × List Ext => x.2) Q4.out Q5.out))))⟩
  have HFF : Hid (∃ G ys, VQ wTick G w0.heap.size (.slice none 0 0) w1 w6 v5 false m5 [] ys x) := HF
  clear HF
  cases m5 with
  | true =>
    rw [if_pos rfl] at hd
    go_wp2_with (go_at_call 101; refine hd.mono ?_)
    rintro e w9 ⟨rfl, rfl⟩
    clear hd
    go_wp2
    go_ret
    obtain ⟨G, ys, hq⟩ := HFF.out
    exact ⟨_, rfl, (vo_none hq H0.out.2.2.1).ahead H0.out.2.1⟩
  | false =>
    rw [if_neg (by decide)] at hd
    go_wp2_with (go_at_call 101; refine hd.mono ?_)
    rintro e w9 ⟨rfl, rfl⟩
    clear hd
    go_wp2
    go_ret
    obtain ⟨G, ys, hq⟩ := HFF.out
    exact ⟨_, rfl, (vo_some hq H0.out.2.2.1).ahead H0.out.2.1⟩
end Go.Proofs.Ytdhckndehijemaa
