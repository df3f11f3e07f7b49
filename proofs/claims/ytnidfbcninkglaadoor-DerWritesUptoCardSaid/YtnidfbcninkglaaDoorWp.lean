/-
  The body of a text of numbers, walked.
-/
import Derived.Test.YtnidfbcninkglaaDoorWo
import Derived.Deep.RegionHeld3
import Derived.Deep.QuietTactic
import Derived.BigQuiet
namespace Go.Proofs.YtnidfbcninkglaaDoor
open Go.RowKit
set_option linter.unusedVariables false
set_option maxRecDepth 100000

theorem sevAll_app (a : Int) (r : List Int) : sevAll (a :: r) = sev a ++ sevAll r := by simp [sevAll]
theorem take_more {l : List ByteArray} {k : Nat} {x : ByteArray} (h : l[k]? = some x) : (l.map (·.data.toList)).take (k + 1) = (l.map (·.data.toList)).take k ++ [x.data.toList] := by
  rw [List.take_add_one, List.getElem?_map, h]
  rfl
theorem nums_bad {l : List ByteArray} {k : Nat} {x : ByteArray} {q : List Int} (h : l[k]? = some x) (hq : ((l.map (·.data.toList)).take k).mapM prP = some q) (hx : prP x.data.toList = none) : (l.map (·.data.toList)).mapM prP = none := by
  have hk := (List.getElem?_eq_some_iff.1 h).1
  have e : l.map (·.data.toList) = (l.map (·.data.toList)).take k ++ x.data.toList :: (l.map (·.data.toList)).drop (k + 1) := by
    conv => lhs; rw [← List.take_append_drop k (l.map (·.data.toList))]
    congr 1
    rw [List.drop_eq_getElem_cons (by simpa using hk)]
    congr 1
    rw [List.getElem_map]
    congr 1
    rw [List.getElem?_eq_getElem hk] at h
    rw [Option.some.inj h]
  rw [e]
  exact mapM_cut prP hq hx

set_option maxHeartbeats 16000000 in
theorem body_any (s : ByteArray) (hs : s.size ≤ 140737488355328) (w : World) (hE : ErrV w) :
    Calls Tryd.prog 57 #[.string s] w fun e w' => ∃ v', e = .returned v' ∧ OwnN w w' v' (bodP s.data.toList) := by
  obtain ⟨N, hN⟩ : ∃ N, N = min 17 (s.size + 1) := ⟨_, rfl⟩
  have hNi : (N : Int) = min 17 ((s.size : Int) + 1) := by rw [hN]; omega
  have hN17 : N ≤ 17 := by omega
  have HSP : Hid (Calls Tryd.prog 75 #[.string s, .string ⟨#[46]⟩, .int .i64 17] w fun e w' => e = .returned (.slice (some ⟨w.heap.size, 0, none⟩) (partsB N s).length N) ∧ w' = w.alloc (.cells (Lib.cellsOf (partsB N s) N) 9)) := splitN_any s hs N hNi w
  have HNU : Hid (((partsB N s).map (·.data.toList)).mapM prP = numsP s.data.toList) := parts_nums s N hN
  have HSM : Hid (∀ x ∈ partsB N s, x.size ≤ 140737488355328) := fun x hx => Nat.le_trans (splitB_small _ _ _ x hx) hs
  have hLN : (partsB N s).length ≤ N := by
    have := Lib.splitB_length_le pt46 0 (N - 1) s
    unfold partsB
    omega
  have HEV : Hid (ErrV w) := hE
  obtain ⟨ps, hps⟩ : ∃ ps, ps = partsB N s := ⟨_, rfl⟩
  rw [← hps] at HSP HNU HSM hLN
  obtain ⟨L, hL⟩ : ∃ L, L = ps.length := ⟨_, rfl⟩
  have HL : Hid (L = ps.length) := hL
  rw [← hL] at HSP hLN
  obtain ⟨R, hR⟩ : ∃ R, R = bodP s.data.toList := ⟨_, rfl⟩
  rw [← hR]
  have HR : Hid (R = bodP s.data.toList) := hR
  clear hN hNi hps hL hR hE
  go_enter Tryd.func57, Tryd.ntmps57
  go_wp2_with (go_at_call 75; refine HSP.out.mono ?_)
  rintro e w1 ⟨rfl, hw⟩
  have HCE : Hid (∀ (k : Nat) x, ps[k]? = some x → w1.cell? ⟨w.heap.size, k, none⟩ = some (.string x)) := parts_cell hw
  have C1 : Hid (Chg Non w w1) := by rw [hw]; exact (Chg.refl _ _).alloc _
  obtain ⟨B, hB⟩ : ∃ B, B = w.heap.size := ⟨_, rfl⟩
  rw [← hB] at HCE ⊢
  have HI0 : Hid (U.OwnN w1 w1 (.slice none 0 0) [] ∧ ((ps.map (·.data.toList)).take 0).mapM prP = some [] ∧ ([] : List Int).length = 0 ∧ ∀ x ∈ ([] : List Int), 0 ≤ x ∧ x < 4294967296) := ⟨U.OwnN.nought _, by simp, rfl, fun x hx => by cases hx⟩
  clear hw hB
  go_wp2
  go_loopw [4, 16] (fun v i wr => ∃ (k : Nat) (q : List Int), k ≤ L ∧ i = .int .i64 k ∧ Hid (U.OwnN w1 wr v q ∧ ((ps.map (·.data.toList)).take k).mapM prP = some q ∧ q.length = k ∧ ∀ x ∈ q, 0 ≤ x ∧ x < 4294967296)) (fun _ i _ => L - (intOf i).toNat)
  case atStart => exact ⟨0, [], Nat.zero_le _, rfl, HI0.out⟩
  case round =>
    obtain ⟨k, q, hk, rfl, hI⟩ := hrel
    obtain ⟨ao, g, cp, hu, hg, hgc, hgm⟩ := hI.out.1.own.rd.shape
    subst hu
    have hgk : g = k := by rw [hg]; exact hI.out.2.2.1
    subst hgk
    have CW : Hid (Chg Non w1 wr) := hI.out.1.chg
    clear hg
    by_cases hlt : g < L
    · obtain ⟨x, hx⟩ : ∃ x, ps[g]? = some x := ⟨_, List.getElem?_eq_getElem (by rw [← HL.out]; exact hlt)⟩
      have hcx := cell_chg CW.out (HCE.out g x hx)
      have HX : Hid (ps[g]? = some x) := hx
      have hxs := HSM.out x (List.mem_of_getElem? hx)
      clear hx
      cases hp : prP x.data.toList with
      | none =>
        have HZ : Hid (R = []) := by
          show _ = _
          rw [HR.out]
          unfold bodP
          rw [← HNU.out, nums_bad HX.out hI.out.2.1 hp]
        have HPN : Hid (Calls Tryd.prog 76 #[.string x, .int .i64 10, .int .i64 32] wr fun e w' => ∃ n t p, e = .returned (.tuple #[.int .u64 n, .iface t p]) ∧ Chg Non wr w') := parse_no x hxs hp wr (HEV.out.chg (C1.out.two CW.out))
        clear hp hI
        go_wp2_with (go_at_call 76; refine HPN.out.mono ?_)
        rintro e w2 ⟨n, t, p, rfl, c2⟩
        have C2 : Hid (Chg Non w w2) := (C1.out.two CW.out).two c2
        clear c2
        go_wp2
        go_ret
        exact ⟨.slice none 0 0, rfl, by rw [HZ.out]; exact (OwnN.nought w2).from C2.out⟩
      | some u =>
        have HPY : Hid (Calls Tryd.prog 76 #[.string x, .int .i64 10, .int .i64 32] wr fun e w' => e = .returned (.tuple #[.int .u64 u, .nilIface]) ∧ Chg Non wr w') := parse_yes x hxs u hp wr
        have HU : Hid (0 ≤ u ∧ u < 4294967296) := prP_lt hp
        have HTK : Hid (((ps.map (·.data.toList)).take (g + 1)).mapM prP = some (q ++ [u])) := by
          show _ = _
          rw [take_more HX.out]
          exact mapM_snoc prP hI.out.2.1 hp
        clear hp
        go_wp2_with (go_at_call 76; refine HPY.out.mono ?_)
        rintro e w2 ⟨rfl, c2⟩
        have HOW : Hid (U.OwnN w1 w2 (.slice ao g cp) q) := hI.out.1.after c2
        have HBD : Hid ((q.length + ([u] : List Int).length) * 8 ≤ 140737488355328) := by have := hI.out.2.2.1; show _ ≤ _; simp; omega
        clear c2
        go_wp2_with (at_builtin; refine U.wpList_app _ rfl (.tmp 27) (.tmp 29) rfl _ _ q [u] rfl rfl (HOW.out.own.chg ((Chg.refl _ _).alloc _)) (U.Rd.one _ _) HBD.out ?_)
        intro v' w3 g1 g2 g3
        have HO3 : Hid (U.OwnN w1 w3 v' (q ++ [u]) ∧ ((ps.map (·.data.toList)).take (g + 1)).mapM prP = some (q ++ [u]) ∧ (q ++ [u]).length = g + 1 ∧ ∀ x ∈ q ++ [u], 0 ≤ x ∧ x < 4294967296) :=
          ⟨(HOW.out.after ((Chg.refl _ _).alloc _)).more g1 g2 (by rw [World.size_alloc]; exact g3), HTK.out, by rw [List.length_append, hI.out.2.2.1]; rfl, fun y hy => by
            rcases List.mem_append.1 hy with hy | hy
            · exact hI.out.2.2.2 y hy
            · obtain rfl := List.mem_singleton.1 hy
              exact HU.out⟩
        clear g1 g2 g3 hI
        go_wp2
        go_roundw
        case rel => exact ⟨g + 1, q ++ [u], by omega, by go_num, HO3.out⟩
        case measure => simp [intOf]; omega
    · have hgL : g = L := by omega
      have HNQ : Hid (numsP s.data.toList = some q) := by
        have h := hI.out.2.1
        rw [List.take_of_length_le (by rw [List.length_map, ← HL.out]; omega), HNU.out] at h
        exact h
      have HLQ : Hid (q.length = g) := hI.out.2.2.1
      have HQ : Hid (∀ x ∈ q, 0 ≤ x ∧ x < 4294967296) := hI.out.2.2.2
      have HO : Hid (U.OwnN w1 wr (.slice ao g cp) q) := hI.out.1
      have C2 : Hid (Chg Non w wr) := C1.out.two CW.out
      subst hgL
      clear hI hlt hk
      match q, HNQ, HLQ, HQ, HO with
      | [], HNQ, HLQ, HQ, HO =>
        have HZ : Hid (R = []) := by show _ = _; rw [HR.out]; unfold bodP; rw [HNQ.out]; rfl
        have hg0 : g = 0 := HLQ.out.symm
        subst hg0
        go_wp2
        go_ret
        exact ⟨.slice none 0 0, rfl, by rw [HZ.out]; exact (OwnN.nought wr).from C2.out⟩
      | [a], HNQ, HLQ, HQ, HO =>
        have HZ : Hid (R = []) := by show _ = _; rw [HR.out]; unfold bodP; rw [HNQ.out]; rfl
        have hg0 : g = 1 := HLQ.out.symm
        subst hg0
        go_wp2
        go_ret
        exact ⟨.slice none 0 0, rfl, by rw [HZ.out]; exact (OwnN.nought wr).from C2.out⟩
      | a :: b :: r, HNQ, HLQ, HQ, HO =>
        have HRE : Hid (R = sev (40 * a + b) ++ sevAll r) := by show _ = _; rw [HR.out]; unfold bodP; rw [HNQ.out]; exact sevAll_app _ _
        obtain ⟨a0, a1⟩ := HQ.out a List.mem_cons_self
        obtain ⟨b0, b1⟩ := HQ.out b (List.mem_cons_of_mem _ List.mem_cons_self)
        obtain ⟨bl, o, c', e, q1, q2, q3⟩ := HO.out.own.bs (by simp)
        injection e with e1 e2 e3
        subst e1 e3
        have ca := q3 0 a rfl
        have cb := q3 1 b rfl
        rw [Nat.add_zero] at ca
        have hgr : g = r.length + 2 := HLQ.out.symm
        have hgz : ¬ ((g : Int) < 2) := by omega
        have i0 : (0 : Int) < (g : Int) := by omega
        have i1 : (1 : Int) < (g : Int) := by omega
        have i2 : 0 < g := by omega
        have i3 : 1 < g := by omega
        have B3 : Hid (U.Bs wr bl o (a :: b :: r)) := q3
        have HGR : Hid (g = r.length + 2) := hgr
        have hw1 : IntKind.u64.wrap (40 * a) = 40 * a := by rw [IntKind.wrap_u64]; omega
        have hw2 : IntKind.u64.wrap (40 * a + b) = 40 * a + b := by rw [IntKind.wrap_u64]; omega
        obtain ⟨c, hc⟩ : ∃ c, c = 40 * a + b := ⟨_, rfl⟩
        rw [← hc] at hw2 HRE
        have HSV : Hid (∀ u, Chg Non wr u → Calls Tryd.prog 77 #[.slice none 0 0, .int .u64 c] u fun e w' => ∃ v', e = .returned v' ∧ OwnN wr w' v' (sev c)) := fun u hu => by
          have h := sevA_any (.slice none 0 0) [] c (by omega) (by omega) (by simp) wr u ⟨(OwnN.nought u).own, (fun k e => by cases e), hu⟩
          simpa using h
        have hc2 : 40 * a + b = c := hc.symm
        clear e2 q3 q1 hgr hc
        go_wp2
        go_cut [9] from 35 to 43 (fun v9 wc => Hid (OwnN wr wc v9 (sev c)))
        case first =>
          refine wp_region_noPanic ?_
          go_region_held3 (fun q => q.cell? ⟨bl, o, none⟩ = some (.int .u64 a) ∧ q.cell? ⟨bl, o + 1, none⟩ = some (.int .u64 b)) (first | exact ⟨ca, cb⟩ | exact ⟨cell_chg hv2.chg ca, cell_chg hv2.chg cb⟩)
            (first | (go_at_call 77; refine (HSV.out _ (by first | exact (Chg.refl _ _).drew | assumption)).mono ?_; rintro e w2 ⟨v2, rfl, hv2⟩))
          refine NoPanic.normal ?_
          go_wp2_with fail
          go_meet
          exact hv2
        have H9 := hcut
        clear hcut HSV hw1 hw2 hc2 ca cb i0 i1
        obtain ⟨a9, n9, c9, h9, -, -, -⟩ := H9.out.rd.shape
        subst h9
        obtain ⟨M, hM⟩ : ∃ M, M = r.length := ⟨_, rfl⟩
        have hgM : g = M + 2 := by rw [hM]; exact HGR.out
        have HM : Hid (M = r.length) := hM
        have hM15 : M ≤ 15 := by omega
        clear hM
        obtain ⟨wo, hwo⟩ : ∃ wo, wo = wr := ⟨_, rfl⟩
        subst hwo
        by_cases hcp : cp = 2
        · have hM0 : M = 0 := by omega
          subst hM0 hcp hgM
          have HZ : Hid (R = sev c) := by
            have hr : r = [] := List.eq_nil_of_length_eq_zero HM.out.symm
            show _ = _
            rw [HRE.out, hr]
            simp [sevAll]
          go_wp2
          go_loopw [9, 47] (fun v i w2 => v = .slice a9 n9 c9 ∧ i = .int .i64 0 ∧ w2 = wc) (fun _ _ _ => 0)
          case atStart => exact ⟨rfl, rfl, rfl⟩
          case round =>
            obtain ⟨rfl, rfl, rfl⟩ := hrel
            go_wp2
            go_ret
            exact ⟨_, rfl, by rw [HZ.out]; exact H9.out.from C2.out⟩
        · have HI2 : Hid (OwnN wo wc (.slice a9 n9 c9) (sev c ++ sevAll (r.take 0))) := by
            have e : sev c ++ sevAll (r.take 0) = sev c := by simp [sevAll]
            show OwnN _ _ _ _
            rw [e]
            exact H9.out
          have hg2 : g - 2 = M := by omega
          have hgi : (g : Int) - 2 = (M : Int) := by omega
          clear hgM
          go_wp2
          clear hg2 hgi
          go_loopw [9, 47] (fun v i w2 => ∃ (k : Nat), k ≤ M ∧ i = .int .i64 k ∧ Hid (OwnN wo w2 v (sev c ++ sevAll (r.take k)))) (fun _ i _ => M - (intOf i).toNat)
          case atStart => exact ⟨0, Nat.zero_le _, rfl, HI2.out⟩
          case round =>
            obtain ⟨k, hk, rfl, hJ⟩ := hrel
            obtain ⟨a8, n8, c8, h8, -, -, -⟩ := hJ.out.rd.shape
            subst h8
            by_cases hlt : k < M
            · obtain ⟨x, hx⟩ : ∃ x, r[k]? = some x := ⟨_, List.getElem?_eq_getElem (by rw [← HM.out]; exact hlt)⟩
              obtain ⟨x0, x1⟩ := HQ.out x (List.mem_cons_of_mem _ (List.mem_cons_of_mem _ (List.mem_of_getElem? hx)))
              have hcx := B3.out.chg hJ.out.chg (k + 2) x (by simpa using hx)
              have eo : o + (k + 2) = o + 2 + k := by omega
              rw [eo] at hcx
              have HTK : Hid ((sev c ++ sevAll (r.take k)) ++ sev x = sev c ++ sevAll (r.take (k + 1))) := by
                have e : r.take (k + 1) = r.take k ++ [x] := by
                  rw [List.take_add_one, hx]
                  rfl
                show _ = _
                rw [e, sevAll_snoc, List.append_assoc]
              have HSV : Hid (Calls Tryd.prog 77 #[.slice a8 n8 c8, .int .u64 x] wr fun e w' => ∃ v', e = .returned v' ∧ OwnN wo w' v' ((sev c ++ sevAll (r.take k)) ++ sev x)) := by
                refine sevA_any (.slice a8 n8 c8) _ x x0 (by omega) ?_ wo wr hJ.out
                have h1 := sev_len c
                have h2 := sevAll_len (r.take k)
                rw [List.length_take] at h2
                rw [List.length_append]
                omega
              clear hx eo
              go_wp2_with (go_at_call 77; refine HSV.out.mono ?_)
              rintro e w2 ⟨v2, rfl, hv2⟩
              have HN2 : Hid (OwnN wo w2 v2 (sev c ++ sevAll (r.take (k + 1)))) := by
                show OwnN _ _ _ _
                rw [← HTK.out]
                exact hv2
              obtain ⟨a7, n7, c7, rfl, -, -, -⟩ := HN2.out.rd.shape
              clear hv2 HSV
              go_wp2
              go_roundw
              case rel => exact ⟨k + 1, by omega, by go_num, HN2.out⟩
              case measure => simp [intOf]; omega
            · have hkM : k = M := by omega
              have HRZ : Hid (R = sev c ++ sevAll (r.take k)) := by
                show _ = _
                rw [HRE.out, List.take_of_length_le (by rw [← HM.out]; omega)]
              go_wp2
              go_ret
              exact ⟨_, rfl, by rw [HRZ.out]; exact hJ.out.from C2.out⟩
end Go.Proofs.YtnidfbcninkglaaDoor
