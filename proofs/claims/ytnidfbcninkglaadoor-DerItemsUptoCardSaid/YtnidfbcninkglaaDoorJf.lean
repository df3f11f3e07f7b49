/-
  The document's Items.
-/
import Derived.Test.YtnidfbcninkglaaDoorJe
import Derived.Test.YtnidfbcninkglaaDoorIe
import Derived.Maps.AppendAt
namespace Go.Proofs.YtnidfbcninkglaaDoor
open Go.RowKit
set_option linter.unusedVariables false
set_option maxRecDepth 100000

structure RI (w : World) (xs : List Int) (pre : List (PI × Value)) (k : Nat) (v : Value) (W : World) : Prop where
  chg : Chg Non w W
  row : W.ownsRow w.heap.size 25 4 v pre.length (rowsI pre)
  its : Its xs 0 (pre.map (·.1)) k
  bod : ∀ p ∈ pre, OwnV W p.2 p.1.ys ∧ ∀ i, p.2.ownBlock = some i → w.heap.size ≤ i

theorem RI.non {w W W' : World} {xs : List Int} {pre : List (PI × Value)} {k : Nat} {v : Value} (h : RI w xs pre k v W) (c : Chg Non W W') : RI w xs pre k v W' :=
  ⟨h.chg.two c, row_keep h.row (chg_cells c), h.its, fun p hp => ⟨own_keep (h.bod p hp).1 (chg_cells c), (h.bod p hp).2⟩⟩

theorem RI.more {w W W3 : World} {xs : List Int} {pre : List (PI × Value)} {k : Nat} {x : PI} {v' va va' : Value} {o : Obj} (h : RI w xs pre k va W)
    (hx : nxI xs k = some x) (hov : OwnV W v' x.ys) (hn : ∀ i, v'.ownBlock = some i → w.heap.size ≤ i)
    (hr : W3.ownsRow w.heap.size 25 4 va' (pre.length + 1) (rowsI pre ++ [.int .u8 x.t, v', .int .i64 x.k, .int .i64 x.l])) (hg : (W.alloc o).grownBy W3 va.ownBlock) :
    RI w xs (pre ++ [(x, v')]) (k + x.l) va' W3 ∧ Chg (fun b => va.ownBlock = some b) W W3 := by
  have c1 : Chg (fun b => va.ownBlock = some b) W W3 := ((Chg.refl _ W).alloc o).trans ⟨hg.os, hg.tape, hg.output, hg.size, fun b hb hnn => hg.block b hb (fun e => hnn e.symm)⟩ (fun _ _ q => q)
  have keep : ∀ {u : Value} {ys : List Int}, OwnV W u ys → OwnV W3 u ys := fun {u ys} ho => ho.keep (fun b e => by
    obtain ⟨cur, q⟩ := ho.kind e
    refine c1.block b (lt_some q) (fun e2 => ?_)
    obtain ⟨-, -, cur', e'⟩ := row_kind h.row e2
    rw [q] at e'
    injection e' with e'
    injection e' with _ e'
    cases e')
  refine ⟨⟨h.chg.trans c1 (fun i hi q => ?_), ?_, ?_, fun p hp => ?_⟩, c1⟩
  · have := (row_kind h.row q).1
    omega
  · rw [List.length_append, rowsI_snoc]
    exact hr
  · rw [List.map_append]
    exact h.its.snoc hx
  · rcases List.mem_append.1 hp with hp | hp
    · exact ⟨keep (h.bod p hp).1, (h.bod p hp).2⟩
    · obtain rfl := List.mem_singleton.1 hp
      exact ⟨keep hov, hn⟩

set_option maxHeartbeats 16000000 in
theorem ritems_any (v : Value) (xs : List Int) (hb : Byt xs) (hl : xs.length ≤ 1000000000000) (w : World) (hv : Rd w v xs) :
    Calls Tryd.prog 14 #[v] w fun e w' => ∃ v' p E, e = .returned (.tuple #[v', .int .i64 p, .int .i64 E]) ∧ ItP w w' xs v' p E := by
  obtain ⟨ao, N, c, rfl, hN, -, -⟩ := hv.shape
  have HN : Hid (N = xs.length) := hN
  have HV : Hid (Rd w (.slice ao N c) xs) := hv
  have HB : Hid (Byt xs) := hb
  have HL : Hid (xs.length ≤ 1000000000000) := hl
  have hN' : N ≤ 1000000000000 := by omega
  clear hv hb hl hN
  go_enter Tryd.func14, Tryd.ntmps14
  go_wp2
  go_loopw [5, 6] (fun out at' wr => ∃ (pre : List (PI × Value)) (k : Nat), at' = .int .i64 k ∧ k ≤ N ∧ Hid (RI w xs pre k out wr)) (fun _ a _ => N - (intOf a).toNat)
  case atStart => exact ⟨[], 0, rfl, Nat.zero_le _, ⟨Chg.refl _ _, ⟨rfl, .inl ⟨rfl, rfl⟩⟩, rfl, fun p hp => by cases hp⟩⟩
  case round =>
    obtain ⟨pre, k, rfl, hk, hI⟩ := hrel
    by_cases hlt : k < N
    · by_cases he : nxE xs k = 0
      · obtain ⟨x, hx⟩ := nxI_of (by have := HN.out; omega) he
        obtain ⟨q1, q2, q3, -⟩ := nxI_len HB.out hx
        have hlen := hI.out.its.len HB.out (Nat.zero_le _)
        rw [List.length_map] at hlen
        have hrg := rnext_ok (.slice ao N c) xs HB.out k x wr (HV.out.chg hI.out.chg) hx (by have := HL.out; omega)
        unfold itemV at hrg
        obtain ⟨xt, hxt⟩ : ∃ xt, xt = x.t := ⟨_, rfl⟩
        obtain ⟨xk, hxk⟩ : ∃ xk, xk = x.k := ⟨_, rfl⟩
        obtain ⟨xl, hxl⟩ : ∃ xl, xl = x.l := ⟨_, rfl⟩
        rw [← hxt, ← hxk, ← hxl] at hrg
        have HRG : Hid (Calls Tryd.prog 11 #[.slice ao N c, .int .i64 k] wr fun e w' => ∃ v', e = .returned (.tuple #[.agg #[.int .u8 xt, v', .int .i64 xk, .int .i64 xl], .int .i64 0]) ∧ ReadP wr w' v' x.ys) := hrg
        have HX : Hid (nxI xs k = some x ∧ xt = x.t ∧ xk = x.k ∧ xl = x.l) := ⟨hx, hxt, hxk, hxl⟩
        have m1 : k + xl ≤ N := by rw [hxl]; have := HN.out; omega
        have m2 : 2 ≤ xl := by rw [hxl]; exact q2
        have HLN : Hid (2 * pre.length ≤ 1000000000000) := by show _ ≤ _; have := HL.out; omega
        clear hrg hx he hxt hxk hxl q1 q2 q3 hlen
        go_wp2_with (go_at_call 11; refine HRG.out.mono ?_)
        rintro e w3 ⟨v', rfl, hP⟩
        obtain ⟨bo, bn, bc, rfl, -, -, -⟩ := hP.own.rd.shape
        obtain ⟨w4, hw4⟩ : ∃ w4, w4 = w3.alloc (.cells #[.int .u8 xt, .slice bo bn bc, .int .i64 xk, .int .i64 xl] 25) := ⟨_, rfl⟩
        have c4 : Chg Non wr w4 := by rw [hw4]; exact hP.own.chg.alloc _
        have hb4 : w4.heap[w3.heap.size]? = some (.cells #[.int .u8 xt, .slice bo bn bc, .int .i64 xk, .int .i64 xl] 25) := by rw [hw4]; exact heap_alloc_last w3 _
        have HI4 : Hid (RI w xs pre k u5 w4) := hI.out.non c4
        have HOV : Hid (OwnV w4 (.slice bo bn bc) x.ys ∧ ∀ i, (Value.slice bo bn bc).ownBlock = some i → w.heap.size ≤ i) := ⟨by rw [hw4]; exact hP.own.own.chg ((Chg.refl _ _).alloc _), fun i e => Nat.le_trans hI.out.chg.size (hP.own.new i e)⟩
        have H34 : Hid (w3.heap.size < w4.heap.size ∧ wr.heap.size ≤ w3.heap.size) := ⟨by rw [hw4]; simp, hP.own.chg.size⟩
        have HB4 : Hid (w4.heap[w3.heap.size]? = some (.cells #[.int .u8 xt, .slice bo bn bc, .int .i64 xk, .int .i64 xl] 25)) := hb4
        have HROW : Hid (∀ b, u5.ownBlock = some b → b < wr.heap.size) := fun b e => (row_kind hI.out.row e).2.1
        obtain ⟨y0, y1, y2, y3, -⟩ := cells4 hb4
        have HW4 : Hid (w4 = w3.alloc (.cells #[.int .u8 xt, .slice bo bn bc, .int .i64 xk, .int .i64 xl] 25)) := hw4
        obtain ⟨i0, p1, p2, p3, p4⟩ := info_parts info25
        have HNEW : Hid (∀ j u, ([.int .u8 xt, .slice bo bn bc, .int .i64 xk, .int .i64 xl] : List Value)[j]? = some u → (w4.alloc (.cells #[.int .u8 xt, .slice bo bn bc, .int .i64 xk, .int .i64 xl] 25)).cell? ((⟨w4.heap.size, 0, none⟩ : Addr).add j) = some u) := fun j u hj => by
          rw [Addr.add_lit, cell_of_row _ w4.heap.size (0 + j) _ 25 (0, 0) (heap_alloc_last w4 _)]
          simpa using hj
        have HONE : Hid (∀ u ∈ ([.int .u8 xt, .slice bo bn bc, .int .i64 xk, .int .i64 xl] : List Value), u.oneCell' = true) := by
          intro u hu
          simp at hu
          rcases hu with rfl | rfl | rfl | rfl <;> rfl
        have HRO' : Hid ((w4.alloc (.cells #[.int .u8 xt, .slice bo bn bc, .int .i64 xk, .int .i64 xl] 25)).ownsRow w.heap.size 25 4 u5 pre.length (rowsI pre)) := row_keep HI4.out.row (chg_cells ((Chg.refl _ _).alloc _))
        have HBB : Hid (pre.length + 1 ≤ maxLen ∧ (pre.length + 1) * 48 ≤ 140737488355328 ∧ w.heap.size ≤ (w4.alloc (.cells #[.int .u8 xt, .slice bo bn bc, .int .i64 xk, .int .i64 xl] 25)).heap.size) := ⟨by unfold maxLen; have := HLN.out; omega, by have := HLN.out; omega, by have := HI4.out.chg.size; simp; omega⟩
        obtain ⟨k', hk'⟩ : ∃ k', k' = k + xl := ⟨_, rfl⟩
        have hwk : IntKind.i64.wrap ((k : Int) + (xl : Int)) = (k' : Int) := by rw [IntKind.wrap_i64]; omega
        have HK' : Hid (k' = k + xl) := hk'
        have m3 : k < k' := by omega
        have m4 : k' ≤ N := by omega
        clear hP hb4 hw4 c4 hk' m1 m2 hI
        go_upto_region 5 with fail
        rw [← HW4.out]
        go_wp2_with (at_builtin; refine wpList_append_own_at _ rfl _ _ 30 rfl w.heap.size 25 i0 _ 4 48 Tryd.underlying30 p1 p2 p3 p4 rfl (by decide) u5 pre.length (rowsI pre) rfl HRO'.out ⟨w4.heap.size, 0, none⟩ 1 1 [.int .u8 xt, .slice bo bn bc, .int .i64 xk, .int .i64 xl] rfl rfl HNEW.out HONE.out HBB.out.1 HBB.out.2.1 HBB.out.2.2 ?_)
        intro va' w8 hrow8 hgrow8 _ hblk8
        rw [HX.out.2.1, HX.out.2.2.1, HX.out.2.2.2] at hrow8
        obtain ⟨n1, n2⟩ := RI.more HI4.out HX.out.1 HOV.out.1 HOV.out.2 hrow8 hgrow8
        have hb8 : w8.heap[w3.heap.size]? = some (.cells #[.int .u8 xt, .slice bo bn bc, .int .i64 xk, .int .i64 xl] 25) := (n2.block _ H34.out.1 (fun e => by have := HROW.out _ e; have := H34.out.2; omega)).trans HB4.out
        obtain ⟨z0, z1, z2, z3, -⟩ := cells4 hb8
        have N1 : Hid (RI w xs (pre ++ [(x, .slice bo bn bc)]) (k + x.l) va' w8) := n1
        obtain ⟨g8, cap8, rfl⟩ := ownsRow_succ hrow8
        clear hrow8 hgrow8 hblk8 n1 n2 hb8 HNEW HONE HRO' HBB p1 p2 p3 p4 y0 y1 y2 y3
        go_wp2
        go_roundw
        case rel => exact ⟨pre ++ [(x, .slice bo bn bc)], k', rfl, m4, by rw [HK'.out, HX.out.2.2.2]; exact N1.out⟩
        case measure => simp [intOf]; omega
      · have hrb := rnext_err (.slice ao N c) xs HB.out k wr (HV.out.chg hI.out.chg) (by have := HL.out; omega) he
        obtain ⟨E, hE⟩ : ∃ E, E = nxE xs k := ⟨_, rfl⟩
        rw [← hE] at hrb
        unfold itemV at hrb
        have HRB : Hid (Calls Tryd.prog 11 #[.slice ao N c, .int .i64 k] wr fun e w' => e = .returned (.tuple #[.agg #[.int .u8 0, .slice none 0 0, .int .i64 0, .int .i64 0], .int .i64 E]) ∧ Chg Non wr w') := hrb
        have HEE : Hid (E = nxE xs k ∧ ¬ nxE xs k = 0) := ⟨hE, he⟩
        have dE : (E != 0) = true := by rw [hE]; simpa using he
        clear hrb hE he
        go_wp2_with (go_at_call 11; refine HRB.out.mono ?_)
        rintro e w3 ⟨rfl, hc3⟩
        have HC3 : Hid (Chg Non w w3) := hI.out.chg.two hc3
        clear hc3
        go_wp2
        refine bp3 Tryd.results14 rfl ?_
        exact ⟨_, _, _, rfl, ⟨HC3.out.alloc _, .inr ⟨_, k, hI.out.its, by have := HN.out; omega, HEE.out.2, rfl, HEE.out.1, rfl⟩⟩⟩
    · go_wp2
      refine bp3 Tryd.results14 rfl ?_
      exact ⟨_, _, _, rfl, ⟨hI.out.chg, .inl ⟨pre, k, hI.out.its, by have := HN.out; omega, rfl, rfl, hI.out.row, hI.out.bod⟩⟩⟩
end Go.Proofs.YtnidfbcninkglaaDoor
