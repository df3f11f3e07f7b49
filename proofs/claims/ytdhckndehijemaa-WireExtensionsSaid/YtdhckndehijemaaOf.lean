/-
  The program's offer: tickets, and the binders behind them.
-/
import Derived.Test.YtdhckndehijemaaLq
import Derived.Test.YtdhckndehijemaaBk
namespace Go.Proofs.Ytdhckndehijemaa
open Go.RowKit
set_option linter.unusedVariables false
set_option maxRecDepth 100000

theorem min_nat (a b : Nat) : (if (a : Int) ≤ (b : Int) then (a : Int) else (b : Int)) = ((min a b : Nat) : Int) := by
  by_cases h : a ≤ b
  · rw [if_pos (by omega), Nat.min_eq_left h]
  · rw [if_neg (by omega), Nat.min_eq_right (by omega)]
theorem LR.slice {t : Ty} {κ : TypeId} {b0 : Nat} {w : World} {va : Value} {cs : List (List Value)} {l : List t.Dat} (h : LR t κ b0 w va cs l) : ∃ ao c, va = .slice ao l.length c := by
  obtain ⟨a, b, e⟩ := ownsRow_any h.row
  exact ⟨a, b, e⟩
theorem LR.ptr {t : Ty} {κ : TypeId} {b0 : Nat} {w : World} {ao : Option Addr} {n c : Nat} {cs : List (List Value)} {l : List t.Dat} (h : LR t κ b0 w (.slice ao n c) cs l) (hp : 0 < l.length) : ∃ g, ao = some ⟨g, 0, none⟩ ∧ b0 ≤ g ∧ g < w.heap.size ∧ l.length ≤ c ∧ c ≤ 9223372036854775807 := by
  rcases h.row.2 with ⟨e, e2⟩ | ⟨g, cap, cur, e, hb, hg, hn, hc, -⟩
  · omega
  · injection e with e1 e2 e3
    subst e1; subst e3
    exact ⟨g, rfl, hb, lt_somW hg, hn, by simpa [maxLen] using hc⟩

set_option maxHeartbeats 6400000 in
theorem offer_any (r : Nat) (s : St) (w : World) (h : RS w r s) : Calls Try.prog 158 #[.pointer (some ⟨r, 0, none⟩)] w fun e w' => ∃ a l c n x, e = .returned (.agg #[.slice a l c, .int .i64 n]) ∧ RP tOffer pOffer w w' r s [.slice a l c, .int .i64 n] x := by
  obtain ⟨w0, hw0⟩ : ∃ w0, w0 = w.alloc (.cells #[.slice none 0 0, .int .i64 0] 194) := ⟨_, rfl⟩
  have c0 : Chg Non w w0 := by rw [hw0]; exact (Chg.refl _ _).alloc _
  have H0 : Hid (r < w.heap.size ∧ Chg Non w w0 ∧ w.heap.size < w0.heap.size ∧ w0.heap[w.heap.size]? = some (.cells #[.slice none 0 0, .int .i64 0] 194)) := ⟨h.lt, c0, by rw [hw0]; simp, by rw [hw0]; exact heap_alloc_last w _⟩
  have HW0 : Hid (w0 = w.alloc (.cells #[.slice none 0 0, .int .i64 0] 194)) := hw0
  have R0 : Hid (RS w0 r s) := h.non c0
  clear h c0 hw0
  go_enter Try.func158, Try.ntmps158
  go_wp2_with fail
  rw [← HW0.out]
  refine (filled_any 2 w0).mono ?_
  rintro e w1 ⟨rfl, hc⟩
  have h1 := listTL_any r 2 1 16777216 2 1 16777216 rfl rfl rfl (by decide) (by decide) s w1 (R0.out.non hc)
  have C1 : Hid (Chg Non w0 w1) := hc
  clear hc
  go_wp2_with (go_at_call 215; refine h1.mono ?_)
  rintro e w2 ⟨v, ts0, rfl, hx, b0, cs, hb0, hlr⟩
  obtain ⟨ts, hts⟩ : ∃ ts : List PSK, ts = ts0 := ⟨_, rfl⟩
  subst hts
  obtain ⟨ao, T, c, rfl⟩ := hx.slice
  have hT : T = List.length ts := by
    obtain ⟨a, b, e⟩ := hlr.slice
    injection e
  obtain ⟨s1, q1, q2⟩ := hx.ps.st
  obtain ⟨vr, al, ys, m1, m2⟩ := q1
  obtain ⟨ao9, N, c9, rfl, hN, hNc, hcm⟩ := m1.rd.shape
  obtain ⟨z0, z1, f0, f1⟩ := m1.facts
  have H2 : Hid (RP (.lst tPSK) (pList 2 1 16777216 pTicket) w1 w2 r s [.slice ao T c] ts ∧ Res (pList 2 1 16777216 pTicket) s ts s1 ∧ LR tPSK 200 b0 w2 (.slice ao T c) cs ts ∧ w1.heap.size ≤ b0 ∧ T = List.length ts) := ⟨hx, q2, hlr, hb0, hT⟩
  have HRM : Hid (RM w2 r (.slice ao9 N c9) al ys ∧ AB s1 ys al ∧ N = ys.length ∧ N ≤ 9223372036854775807) := ⟨m1, m2, hN, by unfold maxLen at hcm; omega⟩
  clear hx q2 hlr hb0 hT m1 m2 hN hNc hcm h1
  go_wp2_with (go_at_call 187; refine (exactly_any T 2 w2).mono ?_)
  rintro e w3 ⟨rfl, hc⟩
  have hR3 : RS w3 r s1 := (RS.of HRM.out.1 HRM.out.2.1).non hc
  have h3 := listI_any r 2 T T 2 T T rfl rfl rfl (by decide) (by decide) s1 w3 hR3
  have C3 : Hid (Chg Non w2 w3) := hc
  clear hc hR3 z0 z1 f0 f1
  go_wp2_with (go_at_call 217; refine h3.mono ?_)
  rintro e w4 ⟨v, bs0, rfl, hx⟩
  obtain ⟨bs, hbs⟩ : ∃ bs : List (List Int), bs = bs0 := ⟨_, rfl⟩
  subst hbs
  obtain ⟨bo, N2, bc, e2, mL⟩ := hx.rel.lies (by decide)
  subst e2
  obtain ⟨s2, q1, q2⟩ := hx.ps.st
  have H4 : Hid (RP (.lst .byt) (pList 2 T T (pBytes 1 32 16777216)) w3 w4 r s1 [.slice bo N2 bc] bs ∧ Res (pList 2 T T (pBytes 1 32 16777216)) s1 bs s2 ∧ N2 = List.length bs ∧ N2 ≤ 9223372036854775807) := ⟨hx, q2, mL.len, mL.max⟩
  have HR4 : Hid (RS w4 r s2) := q1
  have HA : Hid (∀ (j : Nat) (a : List Int), bs[j]? = some a → ∃ b o us', bo = some ⟨b, o, none⟩ ∧ Rel .byt (Btw w3.heap.size w4.heap.size) w4 us' a ∧ ∀ i u, us'[i]? = some u → w4.cell? ⟨b, o + j * 1 + i, none⟩ = some u) := mL.els
  have hL4 : LR tPSK 200 b0 w4 (.slice ao T c) cs ts := (H2.out.2.2.1.keep C3.out (fun k e => e.elim)).keep hx.ps.chg (fun k e => by have e' : k = r := e; have h1 := H0.out.1; have h2 := H0.out.2.1.size; have h3 := C1.out.size; have h4 := H2.out.2.2.2.1; omega)
  have HL4 : Hid (LR tPSK 200 b0 w4 (.slice ao T c) cs ts) := hL4
  clear hx q1 q2 mL hL4 h3
  by_cases hcase : N2 < T
  · have HK : Hid (N2 = min T N2) := by show _ = _; omega
    have hKm : N2 ≤ 9223372036854775807 := by have h1 := H4.out.2.2.2; omega
    go_wp2_with fail
    go_loopw [25] (fun i wr => ∃ k : Nat, k ≤ N2 ∧ i = .int .i64 k ∧ Hid ((∃ cs', LR tPSK 200 b0 wr (.slice ao T c) cs' (zipB ts (List.take k bs))) ∧ Chg (fun j => (Value.slice ao T c).ownBlock = some j) w4 wr)) (fun i _ => N2 - (intOf i).toNat)
    case atStart => exact ⟨0, Nat.zero_le _, rfl, ⟨cs, by rw [List.take_zero, zipB_nil]; exact HL4.out⟩, Chg.refl _ _⟩
    case round =>
      obtain ⟨k, hk, rfl, hI⟩ := hrel
      by_cases hlt : k < N2
      · have hkT : k < T := by have := HK.out; omega
        have hkN : k < N2 := by have := HK.out; omega
        obtain ⟨cs', hlr⟩ := hI.out.1
        have hlen : (zipB ts (List.take k bs)).length = T := by rw [zipB_len]; exact H2.out.2.2.2.2.symm
        have hpos : 0 < (zipB ts (List.take k bs)).length := by rw [hlen]; omega
        obtain ⟨g, rfl, hg0, hg1, hgc, hgm⟩ := hlr.ptr hpos
        obtain ⟨b, hbk⟩ : ∃ b, bs[k]? = some b := ⟨bs[k]'(by have := H4.out.2.2.1; exact (by omega : k < List.length bs)), List.getElem?_eq_getElem _⟩
        obtain ⟨x, hxk⟩ : ∃ x : PSK, ts[k]? = some x := ⟨ts[k]'(by have := H2.out.2.2.2.2; exact (by omega : k < List.length ts)), List.getElem?_eq_getElem _⟩
        have hbl : (List.take k bs).length = k := by rw [List.length_take]; have := H4.out.2.2.1; omega
        have hxz : (zipB ts (List.take k bs))[k]? = some x := by rw [zipB_get ts _ k (by omega)]; exact hxk
        have hgb : g < w3.heap.size := by
          have h1 := (H2.out.2.2.1.blk g rfl).2
          exact Nat.lt_of_lt_of_le h1 C3.out.size
        obtain ⟨b1, o1, us1, rfl, r1, r2⟩ := HA.out k b hbk
        obtain ⟨u, rfl, -⟩ := id r1
        have hcw : Chg (One g) w4 wr := hI.out.2.mono (fun i _ q => by injection q with q; exact q.symm)
        have hr1 : Rel .byt (Btw w3.heap.size w4.heap.size) wr [u] b := r1.chg hcw (fun i e => by have e' : i = g := e; omega)
        have y1 : wr.cell? ⟨b1, o1 + k, none⟩ = some u := by
          have h1 := r2 0 u rfl
          have h2 : w4.cell? ⟨b1, o1 + k, none⟩ = some u := by simpa using h1
          have hbF : b1 ≠ g := by
            obtain ⟨b', o', c', e', -, -, hF, -⟩ := H4.out.1.rel.at (N := List.length bs) rfl (by have := H4.out.2.2.1; omega) (by decide)
            injection e' with e' _ _
            injection e' with e'
            injection e' with e' _
            have hF1 : w3.heap.size ≤ b' := hF.1
            omega
          rw [← h2]
          exact World.cell?_of_block (hcw.block _ (World.block_lt_of_cell? w4 _ h2) (fun e => hbF (by have e' : b1 = g := e; exact e')))
        obtain ⟨⟨cs2, hlr2⟩, hfz, ⟨old, hold⟩, hcg⟩ := hlr.setB hxz (hr1.keep (fun i q => ⟨by have h1 := H2.out.2.2.1.blk g rfl; have q1 : w3.heap.size ≤ i := q.1; omega, Nat.lt_of_lt_of_le q.2 hI.out.2.size, by have q1 : w3.heap.size ≤ i := q.1; omega⟩) (fun _ _ _ => rfl))
        obtain ⟨ua, ul, uc, rfl⟩ : ∃ ua ul uc, u = .slice ua ul uc := by
          obtain ⟨v', e, k1, -⟩ := hr1
          injection e with e
          subst e
          obtain ⟨a, n, c, e, -⟩ := k1.shape
          exact ⟨a, n, c, e⟩
        have HN : Hid ((∃ cs', LR tPSK 200 b0 (wr.setCell ⟨g, k * 3 + 2, none⟩ (.slice ua ul uc)) (.slice (some ⟨g, 0, none⟩) T c) cs' (zipB ts (List.take (k + 1) bs))) ∧ Chg (fun j => (Value.slice (some ⟨g, 0, none⟩) T c).ownBlock = some j) w4 (wr.setCell ⟨g, k * 3 + 2, none⟩ (.slice ua ul uc))) := by
          refine ⟨⟨cs2, ?_⟩, hI.out.2.trans hcg (fun i hi e => by have e' : i = g := e; rw [e']; rfl)⟩
          have e1 : List.take (k + 1) bs = List.take k bs ++ [b] := by rw [List.take_add_one, show bs[k]? = some b from hbk]; rfl
          rw [e1, zipB_snoc ts _ x b (by rw [hbl]; exact hxk), hbl]
          exact hlr2
        have HKK : Hid (k + 1 ≤ N2) := hlt
        have hk1 : k + 1 ≤ 9223372036854775807 := by omega
        have hTb : (k : Int) < (T : Int) := by omega
        have hNb : (k : Int) < (N2 : Int) := by omega
        clear hlr hlen hbk hxk hbl hxz r1 r2 hcw hr1 hlr2 hcg hg0 hg1 hgb
        go_wp2
        go_roundw
        case rel => exact ⟨k + 1, HKK.out, by go_num, HN.out⟩
        case measure => simp [intOf]; omega
      · have hkK : k = N2 := by omega
        have HkK : Hid (k = N2) := hkK
        clear hkK
        obtain ⟨cs', hlr⟩ := hI.out.1
        have hzz : zipB ts (List.take k bs) = zipB ts bs := by
          by_cases hle : T ≤ N2
          · exact zipB_past ts bs k (by have := HK.out; have := HkK.out; have h1 := H2.out.2.2.2.2; omega)
          · rw [List.take_of_length_le (by have := HK.out; have := HkK.out; have h1 := H4.out.2.2.1; omega)]
        rw [hzz] at hlr
        have hgN : ∀ j, (Value.slice ao T c).ownBlock = some j → w.heap.size < j ∧ w0.heap.size ≤ j := fun j e => by
          have h1 := (H2.out.2.2.1.blk j e).1
          have h2 := H2.out.2.2.2.1
          have h3 := C1.out.size
          have h4 := H0.out.2.2.1
          omega
        have c04 : Chg (One r) w0 w4 := ((C1.out.non _).one H2.out.1.ps.chg).one ((C3.out.non _).one H4.out.1.ps.chg)
        have c0r : Chg (One r) w0 wr := c04.trans hI.out.2 (fun i hi e => by have := (hgN i e).2; omega)
        have hBr : wr.heap[w.heap.size]? = some (.cells #[.slice none 0 0, .int .i64 0] 194) := by
          rw [c0r.block _ H0.out.2.2.1 (fun e => by have e' : w.heap.size = r := e; have := H0.out.1; omega)]
          exact H0.out.2.2.2
        obtain ⟨y0, y1⟩ := cell2 hBr
        have f0 := frozen_of_row wr w.heap.size 0 _ _ hBr
        have f1 := frozen_of_row wr w.heap.size 1 _ _ hBr
        have HP : Hid (RP tOffer pOffer w0 wr r s [.slice ao T c, .int .i64 N] (zipB ts bs, (N : Int))) := by
          refine ⟨⟨[.slice ao T c], [.int .i64 N], rfl, hlr.rel.btw (by have h2 := H2.out.2.2.2.1; have h3 := C1.out.size; omega) (Nat.le_refl _), rfl, by omega, by show (N : Int) < 9223372036854775808; have := HRM.out.2.2.2; omega⟩, c0r, s2, HR4.out.keep hI.out.2 (fun j e => by have := (hgN j e).1; have := H0.out.1; omega), ?_⟩
          refine H2.out.2.1.bind ((Res.len (n := (N : Int)) (fun xs o e => ?_)).bind ?_)
          · rcases HRM.out.2.1 with ⟨e', -⟩ | ⟨o', e', -⟩
            · rw [e'] at e; cases e
            · rw [e'] at e
              injection e with e
              injection e with e _
              rw [← e, HRM.out.2.2.1]
          · have := H4.out.2.1
            rw [H2.out.2.2.2.2] at this
            exact this.bind (Res.ret _ _)
        clear hlr hzz c04 c0r hBr hgN
        go_wp2_with fail
        refine bodyPost_ret (v := .agg #[.slice ao T c, .int .i64 N]) ?_ rfl ⟨ao, T, c, N, _, rfl, HP.out.outC H0.out.2.1 H0.out.2.2.1 (chg_two _ _ _ _) H0.out.1⟩
        simp [results, Try.results158, go_sem, y0, y1]
  · have HK : Hid (T = min T N2) := by show _ = _; omega
    have hKm : T ≤ 9223372036854775807 := by have h1 := H4.out.2.2.2; omega
    go_wp2_with fail
    go_loopw [25] (fun i wr => ∃ k : Nat, k ≤ T ∧ i = .int .i64 k ∧ Hid ((∃ cs', LR tPSK 200 b0 wr (.slice ao T c) cs' (zipB ts (List.take k bs))) ∧ Chg (fun j => (Value.slice ao T c).ownBlock = some j) w4 wr)) (fun i _ => T - (intOf i).toNat)
    case atStart => exact ⟨0, Nat.zero_le _, rfl, ⟨cs, by rw [List.take_zero, zipB_nil]; exact HL4.out⟩, Chg.refl _ _⟩
    case round =>
      obtain ⟨k, hk, rfl, hI⟩ := hrel
      by_cases hlt : k < T
      · have hkT : k < T := by have := HK.out; omega
        have hkN : k < N2 := by have := HK.out; omega
        obtain ⟨cs', hlr⟩ := hI.out.1
        have hlen : (zipB ts (List.take k bs)).length = T := by rw [zipB_len]; exact H2.out.2.2.2.2.symm
        have hpos : 0 < (zipB ts (List.take k bs)).length := by rw [hlen]; omega
        obtain ⟨g, rfl, hg0, hg1, hgc, hgm⟩ := hlr.ptr hpos
        obtain ⟨b, hbk⟩ : ∃ b, bs[k]? = some b := ⟨bs[k]'(by have := H4.out.2.2.1; exact (by omega : k < List.length bs)), List.getElem?_eq_getElem _⟩
        obtain ⟨x, hxk⟩ : ∃ x : PSK, ts[k]? = some x := ⟨ts[k]'(by have := H2.out.2.2.2.2; exact (by omega : k < List.length ts)), List.getElem?_eq_getElem _⟩
        have hbl : (List.take k bs).length = k := by rw [List.length_take]; have := H4.out.2.2.1; omega
        have hxz : (zipB ts (List.take k bs))[k]? = some x := by rw [zipB_get ts _ k (by omega)]; exact hxk
        have hgb : g < w3.heap.size := by
          have h1 := (H2.out.2.2.1.blk g rfl).2
          exact Nat.lt_of_lt_of_le h1 C3.out.size
        obtain ⟨b1, o1, us1, rfl, r1, r2⟩ := HA.out k b hbk
        obtain ⟨u, rfl, -⟩ := id r1
        have hcw : Chg (One g) w4 wr := hI.out.2.mono (fun i _ q => by injection q with q; exact q.symm)
        have hr1 : Rel .byt (Btw w3.heap.size w4.heap.size) wr [u] b := r1.chg hcw (fun i e => by have e' : i = g := e; omega)
        have y1 : wr.cell? ⟨b1, o1 + k, none⟩ = some u := by
          have h1 := r2 0 u rfl
          have h2 : w4.cell? ⟨b1, o1 + k, none⟩ = some u := by simpa using h1
          have hbF : b1 ≠ g := by
            obtain ⟨b', o', c', e', -, -, hF, -⟩ := H4.out.1.rel.at (N := List.length bs) rfl (by have := H4.out.2.2.1; omega) (by decide)
            injection e' with e' _ _
            injection e' with e'
            injection e' with e' _
            have hF1 : w3.heap.size ≤ b' := hF.1
            omega
          rw [← h2]
          exact World.cell?_of_block (hcw.block _ (World.block_lt_of_cell? w4 _ h2) (fun e => hbF (by have e' : b1 = g := e; exact e')))
        obtain ⟨⟨cs2, hlr2⟩, hfz, ⟨old, hold⟩, hcg⟩ := hlr.setB hxz (hr1.keep (fun i q => ⟨by have h1 := H2.out.2.2.1.blk g rfl; have q1 : w3.heap.size ≤ i := q.1; omega, Nat.lt_of_lt_of_le q.2 hI.out.2.size, by have q1 : w3.heap.size ≤ i := q.1; omega⟩) (fun _ _ _ => rfl))
        obtain ⟨ua, ul, uc, rfl⟩ : ∃ ua ul uc, u = .slice ua ul uc := by
          obtain ⟨v', e, k1, -⟩ := hr1
          injection e with e
          subst e
          obtain ⟨a, n, c, e, -⟩ := k1.shape
          exact ⟨a, n, c, e⟩
        have HN : Hid ((∃ cs', LR tPSK 200 b0 (wr.setCell ⟨g, k * 3 + 2, none⟩ (.slice ua ul uc)) (.slice (some ⟨g, 0, none⟩) T c) cs' (zipB ts (List.take (k + 1) bs))) ∧ Chg (fun j => (Value.slice (some ⟨g, 0, none⟩) T c).ownBlock = some j) w4 (wr.setCell ⟨g, k * 3 + 2, none⟩ (.slice ua ul uc))) := by
          refine ⟨⟨cs2, ?_⟩, hI.out.2.trans hcg (fun i hi e => by have e' : i = g := e; rw [e']; rfl)⟩
          have e1 : List.take (k + 1) bs = List.take k bs ++ [b] := by rw [List.take_add_one, show bs[k]? = some b from hbk]; rfl
          rw [e1, zipB_snoc ts _ x b (by rw [hbl]; exact hxk), hbl]
          exact hlr2
        have HKK : Hid (k + 1 ≤ T) := hlt
        have hk1 : k + 1 ≤ 9223372036854775807 := by omega
        have hTb : (k : Int) < (T : Int) := by omega
        have hNb : (k : Int) < (N2 : Int) := by omega
        clear hlr hlen hbk hxk hbl hxz r1 r2 hcw hr1 hlr2 hcg hg0 hg1 hgb
        go_wp2
        go_roundw
        case rel => exact ⟨k + 1, HKK.out, by go_num, HN.out⟩
        case measure => simp [intOf]; omega
      · have hkK : k = T := by omega
        have HkK : Hid (k = T) := hkK
        clear hkK
        obtain ⟨cs', hlr⟩ := hI.out.1
        have hzz : zipB ts (List.take k bs) = zipB ts bs := by
          by_cases hle : T ≤ N2
          · exact zipB_past ts bs k (by have := HK.out; have := HkK.out; have h1 := H2.out.2.2.2.2; omega)
          · rw [List.take_of_length_le (by have := HK.out; have := HkK.out; have h1 := H4.out.2.2.1; omega)]
        rw [hzz] at hlr
        have hgN : ∀ j, (Value.slice ao T c).ownBlock = some j → w.heap.size < j ∧ w0.heap.size ≤ j := fun j e => by
          have h1 := (H2.out.2.2.1.blk j e).1
          have h2 := H2.out.2.2.2.1
          have h3 := C1.out.size
          have h4 := H0.out.2.2.1
          omega
        have c04 : Chg (One r) w0 w4 := ((C1.out.non _).one H2.out.1.ps.chg).one ((C3.out.non _).one H4.out.1.ps.chg)
        have c0r : Chg (One r) w0 wr := c04.trans hI.out.2 (fun i hi e => by have := (hgN i e).2; omega)
        have hBr : wr.heap[w.heap.size]? = some (.cells #[.slice none 0 0, .int .i64 0] 194) := by
          rw [c0r.block _ H0.out.2.2.1 (fun e => by have e' : w.heap.size = r := e; have := H0.out.1; omega)]
          exact H0.out.2.2.2
        obtain ⟨y0, y1⟩ := cell2 hBr
        have f0 := frozen_of_row wr w.heap.size 0 _ _ hBr
        have f1 := frozen_of_row wr w.heap.size 1 _ _ hBr
        have HP : Hid (RP tOffer pOffer w0 wr r s [.slice ao T c, .int .i64 N] (zipB ts bs, (N : Int))) := by
          refine ⟨⟨[.slice ao T c], [.int .i64 N], rfl, hlr.rel.btw (by have h2 := H2.out.2.2.2.1; have h3 := C1.out.size; omega) (Nat.le_refl _), rfl, by omega, by show (N : Int) < 9223372036854775808; have := HRM.out.2.2.2; omega⟩, c0r, s2, HR4.out.keep hI.out.2 (fun j e => by have := (hgN j e).1; have := H0.out.1; omega), ?_⟩
          refine H2.out.2.1.bind ((Res.len (n := (N : Int)) (fun xs o e => ?_)).bind ?_)
          · rcases HRM.out.2.1 with ⟨e', -⟩ | ⟨o', e', -⟩
            · rw [e'] at e; cases e
            · rw [e'] at e
              injection e with e
              injection e with e _
              rw [← e, HRM.out.2.2.1]
          · have := H4.out.2.1
            rw [H2.out.2.2.2.2] at this
            exact this.bind (Res.ret _ _)
        clear hlr hzz c04 c0r hBr hgN
        go_wp2_with fail
        refine bodyPost_ret (v := .agg #[.slice ao T c, .int .i64 N]) ?_ rfl ⟨ao, T, c, N, _, rfl, HP.out.outC H0.out.2.1 H0.out.2.2.1 (chg_two _ _ _ _) H0.out.1⟩
        simp [results, Try.results158, go_sem, y0, y1]
end Go.Proofs.Ytdhckndehijemaa
