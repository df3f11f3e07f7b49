/-
  DerItems, walked.
-/
import Derived.Test.YtnidfbcninkglaaDoorJh
namespace Go.Proofs.YtnidfbcninkglaaDoor
open Go.RowKit
set_option linter.unusedVariables false
set_option maxRecDepth 100000

theorem RowR.one {w : World} {p : PI} {vb : Value} (h : Rd w vb p.ys) : RowR (w.alloc (.cells #[.int .u8 p.t, vb, .int .i64 p.k, .int .i64 p.l] 25)) (.slice (some ⟨w.heap.size, 0, none⟩) 1 1) [(p, vb)] := by
  refine ⟨_, 1, 1, rfl, rfl, Nat.le_refl _, by decide, fun _ => ⟨_, rfl, fun j q hj => ?_⟩⟩
  match j, hj with
  | 0, hj =>
    simp at hj
    subst hj
    obtain ⟨c0, c1, c2, c3, -⟩ := cells4 (heap_alloc_last w (.cells #[.int .u8 p.t, vb, .int .i64 p.k, .int .i64 p.l] 25))
    exact ⟨c0, c1, c2, c3, h.chg ((Chg.refl _ _).alloc _)⟩

theorem row_base {w : World} {B B' size k : Nat} {t : TypeId} {v : Value} {xs : List Value} (h : w.ownsRow B t size v k xs) (hb : B' ≤ B) : w.ownsRow B' t size v k xs := by
  refine ⟨h.1, ?_⟩
  rcases h.2 with q | ⟨g, cap, cur, e, h1, h2⟩
  · exact .inl q
  · exact .inr ⟨g, cap, cur, e, Nat.le_trans hb h1, h2⟩
theorem row_shape {w : World} {B size k : Nat} {t : TypeId} {v : Value} {xs : List Value} (h : w.ownsRow B t size v k xs) : ∃ ao c, v = .slice ao k c := by
  rcases h.2 with ⟨rfl, rfl⟩ | ⟨g, cap, cur, rfl, -⟩
  · exact ⟨_, _, rfl⟩
  · exact ⟨_, _, rfl⟩

theorem LS.cell {w3 W : World} {B7 : Nat} {t k l : Int} {vb : Value} {nb L : Nat} {lo : Option Addr} {lc : Nat} {ts : List (PI × Value)} (h : LS w3 B7 t k l vb (.slice lo L lc) nb ts W) {j : Nat} {q : PI × Value} (hj : ts[j]? = some q) : ∃ g, lo = some ⟨g, 0, none⟩ ∧ L ≤ lc ∧ lc ≤ 9223372036854775807 ∧ W.cell? ⟨g, j * 4 + 1, none⟩ = some q.2 := by
  rcases h.row.2 with ⟨e, h0⟩ | ⟨g, cap, cur, e, -, hg, hn, hm, hs, ht⟩
  · have := (List.getElem?_eq_some_iff.1 hj).1
    omega
  · injection e with e1 e2 e3
    subst e2 e3
    refine ⟨g, e1, hn, by simpa [maxLen] using hm, ?_⟩
    obtain ⟨-, a2, -⟩ := rowsI_get ts j q hj
    have hil := (List.getElem?_eq_some_iff.1 a2).1
    rw [rowsI_len] at hil
    rw [cell_of_row W g (j * 4 + 1) cur 25 (0, 0) hg]
    rw [← ht, List.getElem?_take, if_pos hil] at a2
    simpa using a2

set_option maxHeartbeats 16000000 in
theorem items_walk (v : Value) (xs : List Int) (hb : Byt xs) (hl : xs.length ≤ 1000000000000) (a : Int) (w : World) (ht : Tab w) (hg : ErrT w) (hv : Rd w v xs) :
    Calls Tryd.prog 3 #[v, .int .i64 a] w fun e w' => e = .returned (.bool true) ∧ Chg Non w w' := by
  obtain ⟨vo, vn, vc, rfl, -, -, -⟩ := hv.shape
  obtain ⟨p, E, hp1, hp2⟩ := next_both xs hb (by omega) a
  unfold itemV at hp1 hp2
  obtain ⟨pt, hpt⟩ : ∃ pt, pt = p.t := ⟨_, rfl⟩
  obtain ⟨pk, hpk⟩ : ∃ pk : Int, pk = p.k := ⟨_, rfl⟩
  obtain ⟨pl, hpl⟩ : ∃ pl : Int, pl = p.l := ⟨_, rfl⟩
  rw [← hpt, ← hpk, ← hpl] at hp1 hp2
  have HPT : Hid (pt = p.t ∧ pk = p.k ∧ pl = p.l) := ⟨hpt, hpk, hpl⟩
  have HT : Hid (Tab w) := ht
  have HG : Hid (ErrT w) := hg
  have HV : Hid (Rd w (.slice vo vn vc) xs) := hv
  have HB : Hid (Byt xs) := hb
  have HL : Hid (xs.length ≤ 1000000000000) := hl
  have HP1 : Hid (∀ w v, ErrT w → Rd w v xs → Calls Tryd.prog 10 #[v, .int .i64 a] w fun e w' => ∃ v', e = .returned (.tuple #[.agg #[.int .u8 pt, v', .int .i64 pk, .int .i64 pl], .int .i64 E]) ∧ ReadP w w' v' p.ys) := hp1
  have HP2 : Hid (∀ w v, Rd w v xs → Calls Tryd.prog 11 #[v, .int .i64 a] w fun e w' => ∃ v', e = .returned (.tuple #[.agg #[.int .u8 pt, v', .int .i64 pk, .int .i64 pl], .int .i64 E]) ∧ ReadP w w' v' p.ys) := hp2
  clear ht hg hv hb hl hp1 hp2 hpt hpk hpl
  go_enter Tryd.func3, Tryd.ntmps3
  go_wp2_with (go_at_call 9; refine (head_any _ HT.out).mono ?_)
  rintro e w1 ⟨rfl, hc1⟩
  have C1 : Hid (Chg Non w w1) := hc1
  clear hc1
  go_wp2_with (at_builtin; refine wpList_app _ rfl (.tmp 23) (.tmp 24) rfl _ _ [] xs rfl rfl (OwnV.empty w1) (HV.out.chg (C1.out.alloc _)) (by have := HL.out; simp; omega) ?_)
  intro vw w3 g1 g2 g3
  have hown : OwnN w1 w3 vw xs := (OwnN.start w1 w1 (Chg.refl _ _)).more g1 g2 (by rw [World.size_alloc]; exact g3)
  obtain ⟨oo, on, oc, rfl, -, -, -⟩ := hown.rd.shape
  have HO : Hid (OwnN w1 w3 (.slice oo on oc) xs) := hown
  have C3 : Hid (Chg Non w w3) := C1.out.two hown.chg
  have N1 : Hid (Calls Tryd.prog 10 #[.slice oo on oc, .int .i64 a] w3 fun e w' => ∃ v', e = .returned (.tuple #[.agg #[.int .u8 pt, v', .int .i64 pk, .int .i64 pl], .int .i64 E]) ∧ ReadP w3 w' v' p.ys) := HP1.out w3 _ (HG.out.chg C3.out) hown.rd
  clear hown g1 g2 g3
  go_wp2_with (go_at_call 10; refine N1.out.mono ?_)
  rintro e w4 ⟨vb, rfl, hb4⟩
  obtain ⟨bo, bn, bc, rfl, -, -, -⟩ := hb4.own.rd.shape
  have HB4 : Hid (ReadP w3 w4 (.slice bo bn bc) p.ys) := hb4
  clear hb4
  go_upto_region 4 with fail
  obtain ⟨w5, hw5⟩ : ∃ w5, w5 = w4.alloc (.cells #[.int .u8 pt, .slice bo bn bc, .int .i64 pk, .int .i64 pl] 25) := ⟨_, rfl⟩
  rw [← hw5]
  have C45 : Hid (Chg Non w4 w5) := by rw [hw5]; exact (Chg.refl _ _).alloc _
  have BX : Hid (w5.heap[w4.heap.size]? = some (.cells #[.int .u8 pt, .slice bo bn bc, .int .i64 pk, .int .i64 pl] 25)) := by show _ = _; rw [hw5]; exact heap_alloc_last w4 _
  have C35 : Hid (Chg Non w3 w5) := HB4.out.own.chg.two C45.out
  have N2 : Hid (Calls Tryd.prog 11 #[.slice vo vn vc, .int .i64 a] w5 fun e w' => ∃ v', e = .returned (.tuple #[.agg #[.int .u8 pt, v', .int .i64 pk, .int .i64 pl], .int .i64 E]) ∧ ReadP w5 w' v' p.ys) := HP2.out w5 _ (HV.out.chg (C3.out.two C35.out))
  clear hw5
  go_wp2_with (go_at_call 11; refine N2.out.mono ?_)
  rintro e w6 ⟨vd, rfl, hb6⟩
  obtain ⟨eo, en, ec, rfl, -, -, -⟩ := hb6.own.rd.shape
  have HB6 : Hid (ReadP w5 w6 (.slice eo en ec) p.ys) := hb6
  clear hb6
  go_upto_region 5 with fail
  obtain ⟨w7, hw7⟩ : ∃ w7, w7 = w6.alloc (.cells #[.int .u8 pt, .slice eo en ec, .int .i64 pk, .int .i64 pl] 25) := ⟨_, rfl⟩
  rw [← hw7]
  have C67 : Hid (Chg Non w6 w7) := by rw [hw7]; exact (Chg.refl _ _).alloc _
  have C57 : Hid (Chg Non w5 w7) := HB6.out.own.chg.two C67.out
  have C37 : Hid (Chg Non w3 w7) := C35.out.two C57.out
  have bx7 : w7.heap[w4.heap.size]? = some (.cells #[.int .u8 pt, .slice bo bn bc, .int .i64 pk, .int .i64 pl] 25) := chg_cells C57.out BX.out
  have BX7 : Hid (w7.heap[w4.heap.size]? = some (.cells #[.int .u8 pt, .slice bo bn bc, .int .i64 pk, .int .i64 pl] 25)) := bx7
  have by7 : w7.heap[w6.heap.size]? = some (.cells #[.int .u8 pt, .slice eo en ec, .int .i64 pk, .int .i64 pl] 25) := by rw [hw7]; exact heap_alloc_last w6 _
  obtain ⟨y0, y1, y2, y3, -⟩ := cells4 bx7
  obtain ⟨z0, z1, z2, z3, -⟩ := cells4 (chg_cells ((Chg.refl Non w7).alloc (.cells #[.int .u8 pt, .slice bo bn bc, .int .i64 pk, .int .i64 pl] 25)) by7)
  have R1 : Hid (Rd w7 (.slice bo bn bc) p.ys ∧ Rd w7 (.slice eo en ec) p.ys) := ⟨HB4.out.own.rd.chg (C45.out.two C57.out), HB6.out.own.rd.chg C67.out⟩
  have S1 : Hid (Calls Tryd.prog 12 #[.slice (some ⟨w7.heap.size, 0, none⟩) 1 1, .slice (some ⟨w7.heap.size + 1, 0, none⟩) 1 1] ((w7.alloc (.cells #[.int .u8 pt, .slice bo bn bc, .int .i64 pk, .int .i64 pl] 25)).alloc (.cells #[.int .u8 pt, .slice eo en ec, .int .i64 pk, .int .i64 pl] 25)) fun e w' => e = .returned (.bool true) ∧ Chg Non ((w7.alloc (.cells #[.int .u8 pt, .slice bo bn bc, .int .i64 pk, .int .i64 pl] 25)).alloc (.cells #[.int .u8 pt, .slice eo en ec, .int .i64 pk, .int .i64 pl] 25)) w') := by
    rw [HPT.out.1, HPT.out.2.1, HPT.out.2.2]
    have h1 := (RowR.one (w := w7) (p := p) R1.out.1).chg ((Chg.refl _ _).alloc (.cells #[.int .u8 p.t, .slice eo en ec, .int .i64 p.k, .int .i64 p.l] 25))
    have h2 := RowR.one (w := w7.alloc (.cells #[.int .u8 p.t, .slice bo bn bc, .int .i64 p.k, .int .i64 p.l] 25)) (p := p) (R1.out.2.chg ((Chg.refl _ _).alloc _))
    rw [World.size_alloc] at h2
    exact same_any _ _ [(p, .slice bo bn bc)] [(p, .slice eo en ec)] rfl _ h1 h2
  clear hw7 bx7 by7
  go_wp2_with (go_at_call 12; refine S1.out.mono ?_)
  rintro e w8 ⟨rfl, hc8⟩
  have C8 : Hid (Chg Non w3 w8 ∧ Chg Non w7 w8) := ⟨C37.out.two (((Chg.refl _ _).alloc _).alloc _ |>.two hc8), ((Chg.refl _ _).alloc _).alloc _ |>.two hc8⟩
  have I1 : Hid (Calls Tryd.prog 13 #[.slice oo on oc] w8 fun e w' => ∃ v' q F, e = .returned (.tuple #[v', .int .i64 q, .int .i64 F]) ∧ ItP w8 w' xs v' q F) := items_any _ xs HB.out HL.out w8 (HG.out.chg (C3.out.two C8.out.1)) (HO.out.rd.chg C8.out.1)
  clear hc8 y0 y1 y2 y3 z0 z1 z2 z3
  go_wp2_with (go_at_call 13; refine I1.out.mono ?_)
  rintro e w9 ⟨vl, q, F, rfl, hI9⟩
  obtain ⟨lo, ln, lc, rfl⟩ : ∃ ao n c, vl = .slice ao n c := by
    rcases hI9.res with ⟨pre, k, -, -, -, -, h5, -⟩ | ⟨pre, k, -, -, -, -, -, h6⟩
    · obtain ⟨ao, c, e⟩ := row_shape h5
      exact ⟨_, _, _, e⟩
    · exact ⟨_, _, _, h6⟩
  have HI9 : Hid (ItP w8 w9 xs (.slice lo ln lc) q F) := hI9
  have C39 : Hid (Chg Non w3 w9) := C8.out.1.two hI9.chg
  have I2 : Hid (Calls Tryd.prog 14 #[.slice vo vn vc] w9 fun e w' => ∃ v' q F, e = .returned (.tuple #[v', .int .i64 q, .int .i64 F]) ∧ ItP w9 w' xs v' q F) := ritems_any _ xs HB.out HL.out w9 (HV.out.chg (C3.out.two C39.out))
  clear hI9
  go_wp2_with (go_at_call 14; refine I2.out.mono ?_)
  rintro e w10 ⟨vm, q', F', rfl, hI10⟩
  obtain ⟨eq1, eq2, l1, l2, hm, T1, T2⟩ := HI9.out.both hI10
  subst eq1 eq2
  have C910 : Hid (Chg Non w9 w10) := hI10.chg
  obtain ⟨mo, mc, rfl⟩ := row_shape T2.row
  obtain ⟨lo', lc', e9⟩ := row_shape T1.row
  injection e9 with e91 e92 e93
  subst e91 e92 e93
  have S2 : Hid (Calls Tryd.prog 12 #[.slice lo l1.length lc, .slice mo l2.length mc] w10 fun e w' => e = .returned (.bool true) ∧ Chg Non w10 w') :=
    same_any _ _ l1 l2 hm w10 (RowR.of_row (row_keep T1.row (chg_cells hI10.chg)) (fun z hz => (T1.bod z hz).1.rd.chg hI10.chg)) (RowR.of_row T2.row (fun z hz => (T2.bod z hz).1.rd))
  have HT1 : Hid (ToksAt w8 w9 (.slice lo l1.length lc) l1) := T1
  have HM : Hid (l1.length = l2.length) := by
    have := congrArg List.length hm
    show _ = _
    simpa using this
  clear T1 T2 hI10 hm
  go_wp2_with (go_at_call 12; refine S2.out.mono ?_)
  rintro e w11 ⟨rfl, hc11⟩
  have C911 : Hid (Chg Non w9 w11) := C910.out.two hc11
  have hLS : LS w3 w4.heap.size pt pk pl (.slice bo bn bc) (.slice lo l1.length lc) bn l1 w11 := by
    obtain ⟨ao, n', c', e, h1, -, -⟩ := HB4.out.own.rd.shape
    injection e with _ e2 _
    have c7 : Chg Non w7 w11 := (C8.out.2.two HI9.out.chg).two C911.out
    refine ⟨C39.out.two C911.out, chg_cells c7 BX7.out, ⟨⟨p.ys, by rw [← h1, e2], own_keep HB4.out.own.own (chg_cells ((C45.out.two C57.out).two c7))⟩, HB4.out.own.new⟩, row_base (row_keep HT1.out.row (chg_cells C911.out)) C8.out.1.size, fun z hz => ⟨⟨z.1.ys, rfl, own_keep (HT1.out.bod z hz).1 (chg_cells C911.out)⟩, fun i e => Nat.le_trans C8.out.1.size ((HT1.out.bod z hz).2 i e)⟩⟩
  have HLS : Hid (LS w3 w4.heap.size pt pk pl (.slice bo bn bc) (.slice lo l1.length lc) bn l1 w11) := hLS
  obtain ⟨L, hL⟩ : ∃ L, L = l1.length := ⟨_, rfl⟩
  rw [← hL] at HLS ⊢
  have HLL : Hid (L = l1.length) := hL
  clear hLS hc11 hL S2 I2 I1 S1 N1 N2
  go_wp2
  go_loopw [19] (fun i wr => ∃ k : Nat, i = .int .i64 k ∧ k ≤ bn ∧ Hid (LS w3 w4.heap.size pt pk pl (.slice bo bn bc) (.slice lo L lc) bn l1 wr)) (fun i _ => bn - (intOf i).toNat)
  case atStart => exact ⟨0, rfl, Nat.zero_le _, HLS⟩
  case round =>
    obtain ⟨k, rfl, hk, hS⟩ := hrel
    obtain ⟨b0, b1, b2, b3, -⟩ := cells4 hS.out.box
    by_cases hlt : k < bn
    · obtain ⟨g, off, cap, z, e, k1, k2, k3, k4, k5, k6⟩ := hS.out.may.at hlt
      injection e with e1 e2 e3
      subst e1 e3
      obtain ⟨y, hy⟩ : ∃ y, y = IntKind.u8.wrap (z + 1) := ⟨_, rfl⟩
      have NS : Hid (LS w3 w4.heap.size pt pk pl (.slice (some ⟨g, off, none⟩) bn bc) (.slice lo L lc) bn l1 (wr.setCell ⟨g, off + k, none⟩ (.int .u8 (IntKind.u8.wrap (z + 1))))) := hS.out.set (off + k) _ k5 k6
      clear k5 k6 hy
      go_wp2
      go_roundw
      case rel => exact ⟨k + 1, by go_num, by omega, NS⟩
      case measure => simp [intOf]; omega
    · have hkb : k = bn := by omega
      clear b0 b2 b3 HLS
      go_wp2
      have HS0 : Hid (LS w3 w4.heap.size pt pk pl (.slice bo bn bc) (.slice lo L lc) bn l1 wr) := hS
      obtain ⟨wz, hwz⟩ : ∃ wz, wz = wr := ⟨_, rfl⟩
      rw [← hwz] at HS0 ⊢
      clear hS b1 hwz
      go_loopw [20] (fun i wr => ∃ k : Nat, i = .int .i64 k ∧ k ≤ L ∧ Hid (LS w3 w4.heap.size pt pk pl (.slice bo bn bc) (.slice lo L lc) bn l1 wr)) (fun i _ => L - (intOf i).toNat)
      case atStart => exact ⟨0, rfl, Nat.zero_le _, HS0⟩
      case round =>
        obtain ⟨k2, rfl, hk2, hS⟩ := hrel
        by_cases hlt2 : k2 < L
        · obtain ⟨z, hz⟩ : ∃ z, l1[k2]? = some z := ⟨l1[k2]'(by have := HLL.out; omega), List.getElem?_eq_getElem _⟩
          obtain ⟨g, hlo, hLc, hlc, -⟩ := hS.out.cell hz
          subst hlo
          obtain ⟨so, sc, hzv⟩ := (hS.out.bod z (List.mem_of_getElem? hz)).shape
          obtain ⟨nz, hnz⟩ : ∃ nz, nz = z.1.ys.length := ⟨_, rfl⟩
          rw [← hnz] at hzv
          have HZ : Hid (∀ W, LS w3 w4.heap.size pt pk pl (.slice bo bn bc) (.slice (some ⟨g, 0, none⟩) L lc) bn l1 W → W.cell? ⟨g, k2 * 4 + 1, none⟩ = some (.slice so nz sc) ∧ May W (.slice so nz sc) nz w3.heap.size) := fun W h => by
            obtain ⟨g', e, -, -, hc⟩ := h.cell hz
            injection e with e
            injection e with e
            subst e
            have hm := h.bod z (List.mem_of_getElem? hz)
            rw [hzv] at hc hm
            rw [← hnz] at hm
            exact ⟨hc, hm⟩
          have HS1 : Hid (LS w3 w4.heap.size pt pk pl (.slice bo bn bc) (.slice (some ⟨g, 0, none⟩) L lc) bn l1 wr) := hS
          clear hnz hzv hz hS
          go_wp2
          go_loopw [21] (fun i wr => ∃ k : Nat, i = .int .i64 k ∧ k ≤ nz ∧ Hid (LS w3 w4.heap.size pt pk pl (.slice bo bn bc) (.slice (some ⟨g, 0, none⟩) L lc) bn l1 wr)) (fun i _ => nz - (intOf i).toNat)
          case atStart => exact ⟨0, rfl, Nat.zero_le _, HS1⟩
          case round =>
            obtain ⟨k3, rfl, hk3, hS⟩ := hrel
            obtain ⟨hcz, hmz⟩ := HZ.out _ hS.out
            by_cases hlt3 : k3 < nz
            · obtain ⟨g', off, cap, y, e, j1, j2, j3, j4, j5, j6⟩ := hmz.at hlt3
              injection e with e1 e2 e3
              subst e1 e3
              have NS : Hid (LS w3 w4.heap.size pt pk pl (.slice bo bn bc) (.slice (some ⟨g, 0, none⟩) L lc) bn l1 (wr.setCell ⟨g', off + k3, none⟩ (.int .u8 (IntKind.u8.wrap (y + 1))))) := hS.out.set (off + k3) _ j5 j6
              clear j5 j6 hmz
              go_wp2
              go_roundw
              case rel => exact ⟨k3 + 1, by go_num, by omega, NS⟩
              case measure => simp [intOf]; omega
            · clear hmz
              go_wp2
              go_roundw
              case rel => exact ⟨k2 + 1, by go_num, by omega, hS⟩
              case measure => simp [intOf]; omega
        · have s1 := run_str wr _ xs (HO.out.rd.chg hS.out.chg)
          have s2 := run_str wr _ xs (HV.out.chg (C3.out.two hS.out.chg))
          have HC : Hid (Chg Non w wr) := C3.out.two hS.out.chg
          obtain ⟨sx, hsx⟩ : ∃ sx, sx = strOfNums xs := ⟨_, rfl⟩
          rw [← hsx] at s1 s2
          clear hsx
          go_wp2
          go_ret
          exact ⟨rfl, HC.out⟩
end Go.Proofs.YtnidfbcninkglaaDoor
