/-
  The document's offer.
-/
import Derived.Test.YtdhckndehijemaaQg
import Derived.Test.YtdhckndehijemaaDj
import Derived.Test.YtdhckndehijemaaOf
import Derived.Deep.CutBlock
import Derived.Deep.CutRange
namespace Go.Proofs.Ytdhckndehijemaa
open Go.RowKit
set_option linter.unusedVariables false
set_option maxRecDepth 100000

theorem DP.nought {w : World} {r : Nat} {s : St} (h : DS w r s) : DP .byt (pRet []) w w r s [.slice none 0 0] [] :=
  ⟨⟨_, rfl, Rd.nil w, Byt.nil, fun k e => by cases e⟩, Chg.refl _ _, s, h, Res.ret _ _⟩


set_option maxHeartbeats 3200000 in
theorem dpsks_any (v : Value) (xs : List Int) (w : World) (h : Bt (Bel w.heap.size) w v xs) : Calls Try.prog 69 #[v] w fun e w' => ∃ a l c n al, e = .returned (.tuple #[.slice a l c, .int .i64 n, .int .i64 al]) ∧ GP (tOffer) (pOffer) ([], (0 : Int)) w w' xs [.slice a l c, .int .i64 n] al := by
  obtain ⟨w1, hw1⟩ : ∃ w1, w1 = w.alloc (.cells #[v, .bool false, .bool false] 124) := ⟨_, rfl⟩
  have R1 : DS w1 w.heap.size (some (xs, false)) := by rw [hw1]; exact DS.begin h
  have C1 : Hid (Chg Non w w1) := by rw [hw1]; exact (Chg.refl _ _).alloc _
  have HW1 : Hid (w1 = w.alloc (.cells #[v, .bool false, .bool false] 124)) := hw1
  have HLT : Hid (w.heap.size < w1.heap.size) := by show _ < _; rw [hw1]; simp
  obtain ⟨ao0, N0, c0, rfl⟩ : ∃ ao n c, v = .slice ao n c := by
    obtain ⟨h1, -⟩ := h
    obtain ⟨ao, n, c, e, -⟩ := h1.shape
    exact ⟨ao, n, c, e⟩
  clear h hw1
  have HB : Hid (∀ zs o, (some (xs, false) : St) = some (zs, o) → Byt zs) := fun zs o e => DB.byt R1 e
  have hp := dpart_any w.heap.size 2 1 65535 16777216 (by decide) 2 1 65535 rfl rfl rfl (lim2 (by decide)) _ w1 R1
  clear R1
  go_enter Try.func69, Try.ntmps69
  go_wp2_with fail
  rw [← HW1.out]
  refine hp.mono ?_
  rintro e w4 ⟨P, s1, body, rfl, hpt⟩
  have HPT : Hid (PT 2 1 16777216 w1 w4 w.heap.size P (some (xs, false)) s1 body) := hpt
  have HL : Hid (DI tPSK 200 pTicket w4 P (prt s1) body [] (.slice none 0 0) w4 (inn (prt s1) body)) := di_start hpt
  have HP4 : Hid (P < w4.heap.size ∧ w.heap.size < P) := ⟨hpt.part.lt, Nat.lt_of_lt_of_le HLT.out hpt.new⟩
  have HST : Hid (∀ zs o, inn (prt s1) body = some (zs, o) → zs.length ≤ body.length) := fun zs o e => by have := HL.out.lt zs o e; simpa using this
  clear hpt hp
  go_wp2_with fail
  go_loopg [7] body.length (fun m va wr => ∃ pre sc, Hid (DI tPSK 200 pTicket w4 P (prt s1) body pre va wr sc) ∧ Hid (∀ zs o, sc = some (zs, o) → zs.length ≤ m))
  case atStart => exact ⟨[], inn (prt s1) body, HL.out, HST.out⟩
  case round =>
    obtain ⟨pre, sc, hI, hm⟩ := hrel
    obtain ⟨cs, hcs⟩ := hI.out.row
    have hmo := dmore_any P sc wr hI.out.st
    obtain ⟨M, hM⟩ : ∃ M, M = mor sc := ⟨_, rfl⟩
    rw [← hM] at hmo
    have HMo : Hid (M = mor sc) := hM
    have HCS : Hid (LR tPSK 200 w4.heap.size wr u7 cs pre) := hcs
    clear hM hcs
    go_wp2_with (go_at_call 121; refine hmo.mono ?_)
    rintro e w5 ⟨rfl, rfl⟩
    clear hmo
    cases M with
    | true =>
      have HNE : Hid (∃ zs' o, sc = some (zs', o) ∧ zs' ≠ []) := mor_more HMo.out.symm
      have HP := dlist_any P 2 1 65535 16777216 (by decide) 2 1 65535 rfl rfl rfl (lim2 (by decide)) sc w5 hI.out.st
      obtain ⟨i0, p1, p2, p3, p4⟩ := info_parts info200
      go_wp2_with (go_at_call 119; refine HP.mono ?_)
      rintro e wA ⟨ya, yl, yc, tb, rfl, hk, -, -⟩
      obtain ⟨sA, qA1, qA2⟩ := hk.ps.st
      have HA1 : Hid (DP .byt (pBytes 2 1 16777216) w5 wA P sc [.slice ya yl yc] tb ∧ Res (pBytes 2 1 16777216) sc tb sA ∧ P < w5.heap.size) := ⟨hk.dp, qA2, hI.out.st.lt⟩
      obtain ⟨wB, hwB⟩ : ∃ wB, wB = wA.alloc (.cells #[.slice ya yl yc, .int .u32 0, .slice none 0 0] 200) := ⟨_, rfl⟩
      have cB : Chg Non wA wB := by rw [hwB]; exact (Chg.refl _ _).alloc _
      have hn := dnumber_any P 4 (by decide) sA wB (qA1.non cB)
      have HB1 : Hid (Chg Non wA wB ∧ wA.heap.size < wB.heap.size ∧ wB.heap[wA.heap.size]? = some (.cells #[.slice ya yl yc, .int .u32 0, .slice none 0 0] 200) ∧ w5.heap.size ≤ wA.heap.size) := ⟨cB, by rw [hwB]; simp, by rw [hwB]; exact heap_alloc_last wA _, hk.ps.chg.size⟩
      have HWB : Hid (wB = wA.alloc (.cells #[.slice ya yl yc, .int .u32 0, .slice none 0 0] 200)) := hwB
      clear hk qA1 qA2 HP hwB cB
      go_wp2_with fail
      rw [← HWB.out]
      refine hn.mono ?_
      rintro e wC ⟨y, rfl, hy⟩
      have hw32 := hy.w32
      obtain ⟨sC, qC1, qC2⟩ := hy.ps.st
      have hBC : wC.heap[wA.heap.size]? = some (.cells #[.slice ya yl yc, .int .u32 0, .slice none 0 0] 200) := by
        rw [hy.ps.chg.block _ (lt_somW HB1.out.2.2.1) (fun e => by have e' : wA.heap.size = P := e; have := HA1.out.2.2; have := HB1.out.2.2.2; omega)]; exact HB1.out.2.2.1
      have HY : Hid (DP (.num .u32) (pDig 4) wB wC P sA [.int .u32 y] y ∧ Res (pDig 4) sA y sC ∧ DS wC P sC) := ⟨hy.rp4, qC2, qC1⟩
      obtain ⟨BB, hBBe⟩ : ∃ BB, BB = wA.heap.size := ⟨_, rfl⟩
      have HBB2 : Hid (BB = wA.heap.size) := hBBe
      rw [← hBBe] at hBC ⊢
      obtain ⟨y0, y1, y2⟩ := cell3 hBC
      have g0 := frozen_of_row wC BB 0 _ _ hBC
      have g1 := frozen_of_row wC BB 1 _ _ hBC
      have g2 := frozen_of_row wC BB 2 _ _ hBC
      obtain ⟨w6, hw6⟩ : ∃ w6, w6 = wC.setCell ⟨BB, 1, none⟩ (.int .u32 y) := ⟨_, rfl⟩
      have h63 : w6.heap[BB]? = some (.cells #[.slice ya yl yc, .int .u32 y, .slice none 0 0] 200) := by rw [hw6]; exact set_three 1 (by decide) _ hBC
      have c6 : Chg (One BB) wC w6 := by rw [hw6]; exact chg_rest _ _ _ _
      have HW6 : Hid (w6 = wC.setCell ⟨BB, 1, none⟩ (.int .u32 y)) := hw6
      have H63 : Hid (w6.heap[BB]? = some (.cells #[.slice ya yl yc, .int .u32 y, .slice none 0 0] 200)) := h63
      obtain ⟨x, hxe⟩ : ∃ x : PSK, x = (tb, y, []) := ⟨_, rfl⟩
      have hx' : DP tPSK pTicket w5 w6 P sc [.slice ya yl yc, .int .u32 y, .slice none 0 0] x := by
        subst hxe
        have hPA : P < wA.heap.size := by have := HA1.out.2.2; have := HB1.out.2.2.2; omega
        have q1 : DP (.num .u32) (pDig 4) wA w6 P sA [.int .u32 y] y := HY.out.1.past HB1.out.1 c6 (by rw [HBB2.out]; exact Nat.le_refl _) (by rw [HBB2.out]; exact HB1.out.2.1) hPA
        have q2 : DS w6 P sC := HY.out.2.2.keep c6 (fun i e => by have e' : i = BB := e; have := HBB2.out; omega)
        exact HA1.out.1.pair HA1.out.2.1 (q1.pair HY.out.2.1 (DP.nought q2) hPA) HA1.out.2.2
      clear hy qC1 qC2 hBC hBBe hw6 h63 c6 hn
      go_upto_region 7 with fail
      rw [← HW6.out]
      clear y0 y1 y2 g0 g1 g2
      obtain ⟨y0, y1, y2⟩ := cell3 H63.out
      have HX : Hid (DP tPSK pTicket w5 w6 P sc [.slice ya yl yc, .int .u32 y, .slice none 0 0] x) := hx'
      have HRO := DI.row2 (.cells #[.slice ya yl yc, .int .u32 y, .slice none 0 0] 200) hI.out hx' HCS.out HP4.out.1
      have HRO' : Hid ((w6.alloc (.cells #[.slice ya yl yc, .int .u32 y, .slice none 0 0] 200)).ownsRow w4.heap.size 200 3 u7 pre.length cs.flatten ∧ w4.heap.size ≤ (w6.alloc (.cells #[.slice ya yl yc, .int .u32 y, .slice none 0 0] 200)).heap.size) := HRO
      have HBB : Hid (pre.length + 1 ≤ maxLen ∧ (pre.length + 1) * 56 ≤ 140737488355328) := by
        have h1 := hI.out.le
        have h2 := HPT.out.len
        exact ⟨by unfold maxLen; omega, by omega⟩
      have HONE : Hid (∀ u ∈ ([.slice ya yl yc, .int .u32 y, .slice none 0 0] : List Value), u.oneCell' = true) := by
        intro u hu
        simp at hu
        rcases hu with rfl | rfl | rfl <;> rfl
      have HNEW : Hid (∀ j u, ([.slice ya yl yc, .int .u32 y, .slice none 0 0] : List Value)[j]? = some u → (w6.alloc (.cells #[.slice ya yl yc, .int .u32 y, .slice none 0 0] 200)).cell? ((⟨w6.heap.size, 0, none⟩ : Addr).add j) = some u) := fun j u hj => by
        rw [Addr.add_lit, cell_of_row _ w6.heap.size (0 + j) _ 200 (0, 0) (heap_alloc_last w6 _)]
        simpa using hj
      clear hx' HRO hxe
      go_wp2_with (at_builtin; refine wpList_append_own_at _ rfl _ _ 92 rfl w4.heap.size 200 i0 _ 3 56 Try.underlying92 p1 p2 p3 p4 rfl (by decide) u7 pre.length cs.flatten rfl HRO'.out.1 ⟨w6.heap.size, 0, none⟩ 1 1 [.slice ya yl yc, .int .u32 y, .slice none 0 0] rfl rfl HNEW.out HONE.out HBB.out.1 HBB.out.2 HRO'.out.2 ?_)
      intro va' w8 hrow8 hgrow8 _ hblk8
      obtain ⟨sc', n1, n2⟩ := DI.more pTicket_shr hI.out HNE.out HX.out HCS.out hrow8 hgrow8 hblk8 HP4.out.1
      have N1 : Hid (DI tPSK 200 pTicket w4 P (prt s1) body (snocD (t := tPSK) pre x) va' w8 sc') := n1
      have HG : Hid (0 < gk ∧ ∀ zs o, sc' = some (zs, o) → zs.length ≤ gk - 1) := by
        obtain ⟨zs1, o1, hs1, hn1⟩ := HNE.out
        have h1 := hm.out zs1 o1 hs1
        have h2 : 0 < zs1.length := List.length_pos_iff.2 hn1
        refine ⟨by omega, fun zs2 o2 e => ?_⟩
        rcases n2 with n2 | ⟨zs3, o3, e3, n2⟩
        · rw [n2] at e; cases e
        · rw [e3] at e
          injection e with e
          injection e with e _
          subst e
          have := n2 zs1 o1 hs1
          omega
      obtain ⟨g8, cap8, rfl⟩ := ownsRow_succ hrow8
      clear hrow8 hgrow8 hblk8 n1 n2 HRO' HNEW HX HBB p1 p2 p3 p4 y0 y1 y2
      go_wp2
      go_roundg (gk - 1)
      case measure => have := HG.out.1; omega
      case rel => exact ⟨snocD (t := tPSK) pre x, sc', N1.out, HG.out.2⟩
    | false =>
      obtain ⟨ts, hts⟩ : ∃ ts : List PSK, ts = pre := ⟨_, rfl⟩
      subst hts
      obtain ⟨ao, T, c, rfl⟩ : ∃ ao n c, u7 = .slice ao n c := by
        obtain ⟨a, b, e⟩ := ownsRow_any HCS.out.row
        exact ⟨a, _, b, e⟩
      have hT : Hid (T = List.length ts) := by
        show T = _
        obtain ⟨a, b, e⟩ := ownsRow_any HCS.out.row
        injection e
      have hwi := dwith_any w.heap.size P (by have := HP4.out.2; omega) s1 sc w5 (HPT.out.st.keep hI.out.chg (fun k e => by have e' : k = P := e; have := HP4.out.2; omega)) hI.out.st
      go_wp2_with (go_at_call 122; refine hwi.mono ?_)
      rintro e w6 ⟨rfl, c6, h6⟩
      obtain ⟨s2, hs2⟩ : ∃ s2, s2 = wth s1 sc := ⟨_, rfl⟩
      rw [← hs2] at h6
      have hx : DP (.lst tPSK) (pList 2 1 16777216 pTicket) w1 w6 w.heap.size (some (xs, false)) [.slice ao T c] ts := di_fin pTicket_shr (by decide) HB.out HLT.out HPT.out hI.out HMo.out.symm c6 (by rw [← hs2]; exact h6) (many_pos pTicket_shr (by decide) (shr_min pTicket_shr))
      have hres : Res (pList 2 1 16777216 pTicket) (some (xs, false)) ts s2 := by
        rw [hs2]
        exact res_part pTicket_shr (by decide) HB.out HPT.out.res (by have := hI.out.lop; rwa [inn_prt] at this) (mor_end HMo.out.symm) (many_pos pTicket_shr (by decide) (shr_min pTicket_shr))
      have hlr6 : LR tPSK 200 w4.heap.size w6 (.slice ao T c) cs ts := HCS.out.keep c6 (fun k e => by have e' : k = w.heap.size := e; have := HP4.out; omega)
      have H6 : Hid (DP (.lst tPSK) (pList 2 1 16777216 pTicket) w1 w6 w.heap.size (some (xs, false)) [.slice ao T c] ts ∧ Res (pList 2 1 16777216 pTicket) (some (xs, false)) ts s2 ∧ LR tPSK 200 w4.heap.size w6 (.slice ao T c) cs ts ∧ T = List.length ts ∧ w.heap.size < w4.heap.size ∧ w4.heap.size ≤ w6.heap.size) := ⟨hx, hres, hlr6, hT.out, Nat.lt_trans HP4.out.2 HP4.out.1, Nat.le_trans hI.out.chg.size c6.size⟩
      have HS6 : Hid (DS w6 w.heap.size s2) := h6
      obtain ⟨v2, sh, od, zs, m6, kb⟩ := h6
      obtain ⟨ao9, N, c9, rfl, hN, hNc, hcm⟩ := m6.rd.shape
      obtain ⟨z0, z1, z2, f0, f1, f2⟩ := m6.facts
      have HNN : Hid ((∀ ys o, s2 = some (ys, o) → N = ys.length) ∧ N ≤ 9223372036854775807) := ⟨fun ys o e => by
        rcases kb with ⟨k1, -⟩ | ⟨k1, -⟩
        · rw [k1] at e; cases e
        · rw [k1] at e
          injection e with e
          injection e with e _
          rw [← e]; exact hN, by unfold maxLen at hcm; omega⟩
      have hp2 := dpartS_any w.heap.size 2 1 65535 16777216 (by decide) 2 1 65535 rfl rfl rfl (lim2 (by decide)) s2 w6 HS6.out
      have HSB : Hid (∀ ys o, s2 = some (ys, o) → Byt ys) := fun ys o e => DB.byt HS6.out e
      have hTm : T ≤ 9223372036854775807 := by have h1 := hI.out.le; have h2 := HPT.out.len; rw [hT.out]; exact Nat.le_trans h1 (Nat.le_trans h2 (by decide))
      clear hwi c6 hx hres hlr6 hT m6 kb hN hNc hcm hs2
      go_wp2_with (go_at_call 120; refine hp2.mono ?_)
      rintro e w7 ⟨Q, s3, body2, rfl, hqt, hqo⟩
      have HQT : Hid (PT 2 1 16777216 w6 w7 w.heap.size Q s2 s3 body2) := hqt
      have hown : ¬ (Value.slice ao T c).ownBlock = some Q := fun e => by have h1 := (H6.out.2.2.1.blk Q e).2; have h2 := hqt.new; omega
      have HOWN : Hid (¬ (Value.slice ao T c).ownBlock = some Q) := hown
      have hlr7 : LG w4.heap.size Q w7 (.slice ao T c) cs ts := by
        have h1 := LG.of H6.out.2.2.1 hqt.new
        exact h1.keep hqt.chg (fun k e => .inl (by have e' : k = w.heap.size := e; have := H6.out.2.2.2.2.1; omega)) hown
      have HQI : Hid (QI w4.heap.size Q w7 s3 body2 ts (.slice ao T c) [] w7 (inn (prt s3) body2)) := QI.start (by rw [inn_prt]; exact hqt.part) hlr7 (fun v sh od hv k e q => by have h1 := hqo v sh od hv k e; have h2 := (H6.out.2.2.1.blk k q).2; omega)
      have HQ7 : Hid (Q < w7.heap.size ∧ w.heap.size < Q ∧ w4.heap.size ≤ w7.heap.size ∧ w6.heap.size ≤ Q) := ⟨hqt.part.lt, by have h1 := H6.out.1.ps.chg.size; have h2 := hqt.new; have := HLT.out; omega, Nat.le_trans H6.out.2.2.2.2.2 hqt.chg.size, hqt.new⟩
      have HST2 : Hid (∀ zs o, inn (prt s3) body2 = some (zs, o) → zs.length ≤ body2.length) := fun zs o e => by have := HQI.out.lt zs o e; simpa using this
      clear hqt hp2 hown hlr7 hqo z0 z1 z2 f0 f1 f2
      go_wp2_with fail
      go_loopg [11] body2.length (fun m kv wr => ∃ pre sc, kv = .int .i64 (List.length pre : Nat) ∧ Hid (QI w4.heap.size Q w7 s3 body2 ts (.slice ao T c) pre wr sc) ∧ Hid (∀ zs o, sc = some (zs, o) → zs.length ≤ m))
      case atStart => exact ⟨[], inn (prt s3) body2, rfl, HQI.out, HST2.out⟩
      case round =>
        obtain ⟨pb, sq, rfl, hI2, hm2⟩ := hrel
        obtain ⟨kk, hkk⟩ : ∃ kk : Nat, kk = List.length pb := ⟨_, rfl⟩
        rw [← hkk]
        have HKK : Hid (kk = List.length pb) := hkk
        have hmo2 := dmore_any Q sq wr hI2.out.st
        obtain ⟨M, hM⟩ : ∃ M, M = mor sq := ⟨_, rfl⟩
        rw [← hM] at hmo2
        have HMo2 : Hid (M = mor sq) := hM
        have hkm : kk + 1 ≤ 9223372036854775807 := by have h1 := hI2.out.le; have h2 := HQT.out.len; omega
        clear hM hkk
        go_wp2_with (go_at_call 121; refine hmo2.mono ?_)
        rintro e wx ⟨rfl, rfl⟩
        clear hmo2
        cases M with
        | true =>
          have HP2 := dlistS_any Q 1 32 255 16777216 (by decide) 1 32 255 rfl rfl rfl (lim1 (by decide)) sq wx hI2.out.st
          go_wp2_with (go_at_call 119; refine HP2.mono ?_)
          rintro e wA ⟨ba, bl, bc, xb, rfl, hk, -, -, hsb⟩
          obtain ⟨sq', r1, r2, r3, ⟨cs2, r4⟩, r5, r6, r7, r8, r9⟩ := hI2.out.read (mor_more HMo2.out.symm) hk HOWN.out (Nat.le_trans HQ7.out.2.2.1 hI2.out.chg.size) HQ7.out.1 hsb
          have HG : Hid (0 < gk ∧ ∀ zs o, sq' = some (zs, o) → zs.length ≤ gk - 1) := by
            obtain ⟨zs1, o1, hs1, hn1⟩ := mor_more HMo2.out.symm
            have h1 := hm2.out zs1 o1 hs1
            have h2 : 0 < zs1.length := List.length_pos_iff.2 hn1
            refine ⟨by omega, fun zs2 o2 e => ?_⟩
            rcases r8 with n2 | ⟨zs3, o3, e3, n2⟩
            · rw [n2] at e; cases e
            · rw [e3] at e
              injection e with e
              injection e with e _
              subst e
              have := n2 zs1 o1 hs1
              omega
          have HLEN : Hid ((List.length (pb ++ [xb]) : Nat) = kk + 1) := by show _ = _; rw [List.length_append, HKK.out]; rfl
          have HR : Hid (Lop (pBytes 1 32 16777216) (inn (prt s3) body2) (pb ++ [xb]) sq' ∧ (pb ++ [xb]).length ≤ body2.length ∧ (∀ zs o, sq' = some (zs, o) → (pb ++ [xb]).length + zs.length ≤ body2.length)) := ⟨r3, r5, r6⟩
          by_cases hkT : kk < T
          · obtain ⟨x, hxk⟩ : ∃ x : PSK, ts[kk]? = some x := ⟨ts[kk]'(by have := H6.out.2.2.2.1; exact (by omega : kk < List.length ts)), List.getElem?_eq_getElem _⟩
            have hxz : (zipB ts pb)[kk]? = some x := by rw [zipB_get ts _ kk (by rw [HKK.out]; exact Nat.le_refl _)]; exact hxk
            have hpos : 0 < (zipB ts pb).length := by rw [zipB_len]; have := H6.out.2.2.2.1; exact (by omega : 0 < List.length ts)
            obtain ⟨g, rfl, hg0, hg1, hgc, hgm⟩ := r4.lr.ptr hpos
            obtain ⟨⟨cs3, hlr2⟩, hfz, ⟨old, hold⟩, hcg⟩ := r4.setB hxz (r7.keep (fun i q => ⟨q.1, q.2.1, q.2.2.1, fun e => q.2.2.2 (by rw [e]; rfl)⟩) (fun _ _ _ => rfl))
            have HN : Hid (QI w4.heap.size Q w7 s3 body2 ts (.slice (some ⟨g, 0, none⟩) T c) (pb ++ [xb]) (wA.setCell ⟨g, kk * 3 + 2, none⟩ (.slice ba bl bc)) sq') := by
              have hQg : Q ≠ g := fun e => HOWN.out (by rw [e]; rfl)
              refine ⟨r1.trans hcg (fun i hi e => .inr (by have e' : i = g := e; rw [e']; rfl)), r2.keepG hcg hQg (fun v sh od hv k e q => r9 v sh od hv k e (by rw [q]; rfl)), HR.out.1, ⟨cs3, ?_⟩, HR.out.2.1, HR.out.2.2, fun v sh od hv k e => ?_⟩
              · rw [zipB_snoc ts pb x xb (by rw [← HKK.out]; exact hxk), ← HKK.out]
                exact hlr2
              · rw [hcg.block Q r2.lt hQg] at hv
                exact r9 v sh od hv k e
            have hTb : (kk : Int) < (T : Int) := by omega
            have dk : decide (kk < T) = true := by simp; omega
            have hTc : T ≤ 9223372036854775807 := hTm
            clear r1 r2 r3 r4 r5 r6 r7 r8 r9 hk HP2 hsb hxk hxz hpos hlr2 hcg hg0 hg1
            go_wp2
            go_roundg (gk - 1)
            case measure => have := HG.out.1; omega
            case rel => exact ⟨pb ++ [xb], sq', by rw [HLEN.out]; go_num, HN.out, HG.out.2⟩
          · have dk : decide (kk < T) = false := by simp; omega
            have HN : Hid (QI w4.heap.size Q w7 s3 body2 ts (.slice ao T c) (pb ++ [xb]) wA sq') := by
              refine ⟨r1, r2, HR.out.1, ⟨cs2, ?_⟩, HR.out.2.1, HR.out.2.2, r9⟩
              rw [zipB_over ts pb [xb] (by have h1 := H6.out.2.2.2.1; have h2 := HKK.out; omega)]
              exact r4
            clear r1 r2 r3 r4 r5 r6 r7 r8 r9 hk HP2 hsb
            go_wp2
            go_roundg (gk - 1)
            case measure => have := HG.out.1; omega
            case rel => exact ⟨pb ++ [xb], sq', by rw [HLEN.out]; go_num, HN.out, HG.out.2⟩
        | false =>
          have hRq : DS wx w.heap.size s3 := HQT.out.st.keep hI2.out.chg (fun k e => by
            rcases e with e | e
            · have e' : k = Q := e; have := HQ7.out.2.1; omega
            · have h1 := (H6.out.2.2.1.blk k e).1; have := H6.out.2.2.2.2.1; omega)
          have HRQ : Hid (DS wx w.heap.size s3) := hRq
          obtain ⟨cs4, hlg4⟩ := hI2.out.row
          have HLG : Hid (LG w4.heap.size Q wx (.slice ao T c) cs4 (zipB ts pb)) := hlg4
          have hfin := res_exact (q := pBytes 1 32 16777216) (n := 2) (T := T) (s := s2) (pBytes_shr (by decide)) (by decide) (list_pos H6.out.2.1 |> fun z => by rw [H6.out.2.2.2.1]; exact z) HSB.out HQT.out.res (by have := hI2.out.lop; rwa [inn_prt] at this) (mor_end HMo2.out.symm)
          have HFIN : Hid (Res (pList 2 T T (pBytes 1 32 16777216)) s2 pb (wth s3 (if pb.length = T then sq else none))) := hfin
          clear hRq hlg4 hfin
          by_cases hkT : kk = T
          · have dk : ((kk : Int) != (T : Int)) = false := by simp; omega
            have hwi := dwith_any w.heap.size Q (by have := HQ7.out.2.1; omega) s3 sq wx HRQ.out hI2.out.st
            have HKT : Hid (pb.length = T) := by show _ = _; rw [← HKK.out]; exact hkT
            clear hkT
            go_wp2_with (go_at_call 122; refine hwi.mono ?_)
            rintro e wz ⟨rfl, cz, hz⟩
            have hr := HFIN.out
            rw [if_pos HKT.out] at hr
            have c7 : Chg (One w.heap.size) w1 wx := ((H6.out.1.ps.chg).one HQT.out.chg).trans hI2.out.chg (fun i hi e => by
              rcases e with e | e
              · have e' : i = Q := e; have := HQ7.out.2.2.2; have := H6.out.1.ps.chg.size; omega
              · have h1 := (H6.out.2.2.1.blk i e).1; have := HPT.out.chg.size; omega)
            obtain ⟨a, ha⟩ : ∃ a, a = ao := ⟨_, rfl⟩
            obtain ⟨l, hl⟩ : ∃ l, l = T := ⟨_, rfl⟩
            obtain ⟨n, hnn⟩ : ∃ n : Int, n = (N : Int) := ⟨_, rfl⟩
            obtain ⟨x, hxe⟩ : ∃ x : List PSK × Int, x = (zipB ts pb, (N : Int)) := ⟨_, rfl⟩
            have hlgz : LG w4.heap.size Q wz (.slice ao T c) cs4 (zipB ts pb) := HLG.out.keep cz (fun k e => .inl (by have e' : k = w.heap.size := e; have := H6.out.2.2.2.2.1; omega)) HOWN.out
            have hx : DP tOffer pOffer w1 wz w.heap.size (some (xs, false)) [.slice a l c, .int .i64 n] x := by
              rw [ha, hl, hnn, hxe]
              refine ⟨⟨[.slice ao T c], [.int .i64 N], rfl, hlgz.lr.rel.btw HPT.out.chg.size (Nat.le_refl _), rfl, by omega, by show (N : Int) < 9223372036854775808; have := HNN.out.2; omega⟩, c7.one cz, _, hz, ?_⟩
              refine H6.out.2.1.bind ((Res.len (n := (N : Int)) (fun ys o e => by rw [HNN.out.1 ys o e])).bind ?_)
              have h1 := hr
              rw [H6.out.2.2.2.1] at h1
              exact h1.bind (Res.ret _ _)
            rw [← ha, ← hl, ← hnn]
            clear hwi hr c7 hlgz ha hl hnn hxe cz hz
            obtain ⟨s9, q1, q2⟩ := hx.ps.st
            have he := dend_any w.heap.size s9 wz q1
            obtain ⟨A, hA⟩ : ∃ A, A = endA s9 := ⟨_, rfl⟩
            rw [← hA] at he
            have HQ : Hid (DP (tOffer) (pOffer) w1 wz w.heap.size (some (xs, false)) [.slice a l c, .int .i64 n] x ∧ Res (pOffer) (some (xs, false)) x s9 ∧ A = endA s9) := ⟨hx, q2, hA⟩
            clear hx q1 q2 hA
            go_wp2_with (go_at_call 106; refine he.mono ?_)
            rintro e w9 ⟨rfl, rfl⟩
            clear he
            by_cases hz : A = 0
            · subst hz
              go_wp2_with fail
              go_ret3
              exact ⟨a, l, c, n, 0, rfl, GP.dok HQ.out.1 HQ.out.2.1 HQ.out.2.2.symm C1.out (Chg.refl _ _)⟩
            · have d1 : (A != 0) = true := by simpa using hz
              have HZ : Hid (A ≠ 0) := hz
              clear hz
              go_wp2_with fail
              go_ret3
              exact ⟨none, 0, 0, 0, A, rfl, GP.dbad HQ.out.1 HQ.out.2.1 HQ.out.2.2 HZ.out C1.out (Chg.refl _ _) (⟨[_], [_], rfl, Rel.nil _ _ _, Rel.zero _ _ _⟩)⟩
          · have dk : ((kk : Int) != (T : Int)) = true := by simp; omega
            obtain ⟨v2, sh, od, zs, m, kb⟩ := hI2.out.st
            obtain ⟨z0, z1, z2, f0, f1, f2⟩ := m.facts
            obtain ⟨wy, hwy⟩ : ∃ wy, wy = wx.setCell ⟨Q, 1, none⟩ (.bool true) := ⟨_, rfl⟩
            have my := m.short true
            rw [← hwy] at my
            have cy : Chg (One Q) wx wy := by rw [hwy]; exact chg_rest _ _ _ _
            have hwi := dwith_any w.heap.size Q (by have := HQ7.out.2.1; omega) s3 none wy (HRQ.out.keep cy (fun k e => by have e' : k = Q := e; have := HQ7.out.2.1; omega)) (DS.of my (.inl ⟨rfl, rfl⟩))
            have HKT : Hid (¬ pb.length = T) := by show ¬ _; rw [← HKK.out]; exact hkT
            have HCY : Hid (Chg (One Q) wx wy) := cy
            have HWY : Hid (wy = wx.setCell ⟨Q, 1, none⟩ (.bool true)) := hwy
            clear hkT m kb my cy hwy
            go_wp2_with fail
            rw [← HWY.out]
            refine hwi.mono ?_
            rintro e wz ⟨rfl, cz, hz⟩
            clear z0 z1 z2 f0 f1 f2
            have hr := HFIN.out
            rw [if_neg HKT.out] at hr
            have c7 : Chg (One w.heap.size) w1 wy := (((H6.out.1.ps.chg).one HQT.out.chg).trans hI2.out.chg (fun i hi e => by
              rcases e with e | e
              · have e' : i = Q := e; have := HQ7.out.2.2.2; have := H6.out.1.ps.chg.size; omega
              · have h1 := (H6.out.2.2.1.blk i e).1; have := HPT.out.chg.size; omega)).trans HCY.out (fun i hi e => by have e' : i = Q := e; have := HQ7.out.2.2.2; have := H6.out.1.ps.chg.size; omega)
            obtain ⟨a, ha⟩ : ∃ a, a = ao := ⟨_, rfl⟩
            obtain ⟨l, hl⟩ : ∃ l, l = T := ⟨_, rfl⟩
            obtain ⟨n, hnn⟩ : ∃ n : Int, n = (N : Int) := ⟨_, rfl⟩
            obtain ⟨x, hxe⟩ : ∃ x : List PSK × Int, x = (zipB ts pb, (N : Int)) := ⟨_, rfl⟩
            have hlgz : LG w4.heap.size Q wz (.slice ao T c) cs4 (zipB ts pb) := (HLG.out.keep HCY.out (fun k e => .inr e) HOWN.out).keep cz (fun k e => .inl (by have e' : k = w.heap.size := e; have := H6.out.2.2.2.2.1; omega)) HOWN.out
            have hx : DP tOffer pOffer w1 wz w.heap.size (some (xs, false)) [.slice a l c, .int .i64 n] x := by
              rw [ha, hl, hnn, hxe]
              refine ⟨⟨[.slice ao T c], [.int .i64 N], rfl, hlgz.lr.rel.btw HPT.out.chg.size (Nat.le_refl _), rfl, by omega, by show (N : Int) < 9223372036854775808; have := HNN.out.2; omega⟩, c7.one cz, _, hz, ?_⟩
              refine H6.out.2.1.bind ((Res.len (n := (N : Int)) (fun ys o e => by rw [HNN.out.1 ys o e])).bind ?_)
              have h1 := hr
              rw [H6.out.2.2.2.1] at h1
              exact h1.bind (Res.ret _ _)
            rw [← ha, ← hl, ← hnn]
            clear hwi hr c7 hlgz ha hl hnn hxe cz hz
            obtain ⟨s9, q1, q2⟩ := hx.ps.st
            have he := dend_any w.heap.size s9 wz q1
            obtain ⟨A, hA⟩ : ∃ A, A = endA s9 := ⟨_, rfl⟩
            rw [← hA] at he
            have HQ : Hid (DP (tOffer) (pOffer) w1 wz w.heap.size (some (xs, false)) [.slice a l c, .int .i64 n] x ∧ Res (pOffer) (some (xs, false)) x s9 ∧ A = endA s9) := ⟨hx, q2, hA⟩
            clear hx q1 q2 hA
            go_wp2_with (go_at_call 106; refine he.mono ?_)
            rintro e w9 ⟨rfl, rfl⟩
            clear he
            by_cases hz : A = 0
            · subst hz
              go_wp2_with fail
              go_ret3
              exact ⟨a, l, c, n, 0, rfl, GP.dok HQ.out.1 HQ.out.2.1 HQ.out.2.2.symm C1.out (Chg.refl _ _)⟩
            · have d1 : (A != 0) = true := by simpa using hz
              have HZ : Hid (A ≠ 0) := hz
              clear hz
              go_wp2_with fail
              go_ret3
              exact ⟨none, 0, 0, 0, A, rfl, GP.dbad HQ.out.1 HQ.out.2.1 HQ.out.2.2 HZ.out C1.out (Chg.refl _ _) (⟨[_], [_], rfl, Rel.nil _ _ _, Rel.zero _ _ _⟩)⟩
end Go.Proofs.Ytdhckndehijemaa
