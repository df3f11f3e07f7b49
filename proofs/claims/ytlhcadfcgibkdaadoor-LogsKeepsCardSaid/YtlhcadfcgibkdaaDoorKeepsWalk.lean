/-
  The walk of LogsKeeps: it returns true, and nothing that was there is written.
-/
import Derived.Test.YtlhcadfcgibkdaaDoorHead
import Derived.Test.YtlhcadfcgibkdaaDoorAdd
namespace Go.Proofs.YtlhcadfcgibkdaaDoor
open Go.RowKit
set_option linter.unusedVariables false
set_option maxRecDepth 100000

/-- A list of lines, as the walk is told it. -/
def LineRow (W : World) (ad : Option Addr) (len : Nat) : Prop :=
  ∀ i, i < len → ∃ (b off time : Nat) (event : ByteArray) (so : Option Addr) (sn sc : Nat) (ps : List PairD), ad = some ⟨b, off, none⟩ ∧ b < W.heap.size ∧ W.cell? ⟨b, off + i * 3, none⟩ = some (.int .u64 time) ∧ W.cell? ⟨b, off + i * 3 + 1, none⟩ = some (.string event) ∧
    W.cell? ⟨b, off + i * 3 + 2, none⟩ = some (.slice so sn sc) ∧ PRd W (.slice so sn sc) ps ∧ time < 18446744073709551616 ∧ event.size ≤ 9223372036854775807

/-- The log and the law's own list within the law. -/
structure Keep (w wr : World) (p most : Nat) (lv : Value) (first lost : Nat) (mv : Value) (L : List ByteArray) (wv : Value) (K : List ByteArray) : Prop where
  st : LogSt wr p most lv first lost mv L
  want : OwnVS wr wv K
  chg : Chg Non w wr
  np : w.heap.size ≤ p
  nl : ∀ j, lv.ownBlock = some j → w.heap.size ≤ j
  nw : ∀ j, wv.ownBlock = some j → w.heap.size ≤ j
  sep : ∀ j, wv.ownBlock = some j → ¬ LS p lv j

theorem Keep.non {w wr w2 : World} {p most : Nat} {lv : Value} {first lost : Nat} {mv : Value} {L : List ByteArray} {wv : Value} {K : List ByteArray} (h : Keep w wr p most lv first lost mv L wv K) (hc : Chg Non wr w2) : Keep w w2 p most lv first lost mv L wv K :=
  ⟨h.st.non hc, h.want.keep (fun k e => hc.block k (h.want.lt k e) (fun x => x)), h.chg.trans hc (fun _ _ x => x), h.np, h.nl, h.nw, h.sep⟩

theorem Keep.add {w wr w2 : World} {p most : Nat} {lv : Value} {first lost : Nat} {mv : Value} {L : List ByteArray} {wv : Value} {K : List ByteArray} (h : Keep w wr p most lv first lost mv L wv K) {s : ByteArray} {lv' : Value} {first' lost' : Nat} {L' : List ByteArray} (ha : AddP wr w2 p most lv first lost mv L s lv' first' lost' L') : Keep w w2 p most lv' first' lost' mv L' wv K := by
  refine ⟨ha.st, h.want.keep (fun k e => ha.chg.block k (h.want.lt k e) (h.sep k e)), h.chg.trans ha.chg (fun i hi e => ?_), h.np, fun j e => ?_, h.nw, fun j e x => ?_⟩
  · rcases e with e | e
    · have := h.np; show False; omega
    · have := h.nl i e; show False; omega
  · rcases ha.row j e with x | x
    · exact h.nl j x
    · have := h.chg.size; omega
  · rcases x with x | x
    · exact h.sep j e (.inl x)
    · rcases ha.row j x with y | y
      · exact h.sep j e (.inr y)
      · have := h.want.lt j e; omega

theorem Keep.app {w wr w2 : World} {p most : Nat} {lv : Value} {first lost : Nat} {mv : Value} {L : List ByteArray} {wv : Value} {K K' : List ByteArray} {v2 : Value} (h : Keep w wr p most lv first lost mv L wv K) (ho : OwnVS w2 v2 K') (hc : Chg (fun k => wv.ownBlock = some k) wr w2) (hk : v2.ownBlock = wv.ownBlock ∨ ∃ n, v2.ownBlock = some n ∧ wr.heap.size ≤ n) : Keep w w2 p most lv first lost mv L v2 K' := by
  refine ⟨h.st.keep hc (fun k e x => h.sep k x e), ho, h.chg.trans hc (fun i hi e => ?_), h.np, h.nl, fun j e => ?_, fun j e x => ?_⟩
  · have := h.nw i e; show False; omega
  · rcases hk with y | ⟨n, y, hn⟩
    · exact h.nw j (y ▸ e)
    · rw [y] at e; cases e; have := h.chg.size; omega
  · rcases hk with y | ⟨n, y, hn⟩
    · exact h.sep j (y ▸ e) x
    · rw [y] at e
      cases e
      rcases x with x | x
      · have := h.st.lt; omega
      · have := h.st.own.lt _ x; omega

theorem OwnS.drop1 {w : World} {g off n cap : Nat} {xs : List ByteArray} (h : OwnS w g off n cap xs) (hn : 1 ≤ n) : OwnS w g (off + 1) (n - 1) (cap - 1) (xs.drop 1) := by
  obtain ⟨cur, hg, hs, ht⟩ := h.blk
  have hl := h.len
  have hle := h.le
  have hm := h.mx
  refine ⟨by simp; omega, by omega, by omega, cur, hg, by omega, ?_⟩
  rw [← List.drop_drop, List.map_drop, ← ht, List.drop_take]

theorem Keep.drop {w wr : World} {p most : Nat} {lv : Value} {first lost : Nat} {mv : Value} {L : List ByteArray} {g off n cap : Nat} {K : List ByteArray} (h : Keep w wr p most lv first lost mv L (.slice (some ⟨g, off, none⟩) n cap) K) (hn : 1 ≤ n) : Keep w wr p most lv first lost mv L (.slice (some ⟨g, off + 1, none⟩) (n - 1) (cap - 1)) (K.drop 1) :=
  ⟨h.st, .inr ⟨_, _, _, _, rfl, h.want.own.drop1 hn⟩, h.chg, h.np, h.nl, h.nw, h.sep⟩

theorem Keep.turn {w wr w2 : World} {p most : Nat} {lv : Value} {first lost : Nat} {mv : Value} {L : List ByteArray} {wv : Value} {K : List ByteArray} (h : Keep w wr p most lv first lost mv L wv K) {g : Nat} (hc : Chg (One g) wr w2) (hg : w.heap.size ≤ g) (hn : ¬ LS p lv g) (hw : wv.ownBlock ≠ some g) : Keep w w2 p most lv first lost mv L wv K := by
  refine ⟨h.st.keep hc (fun k e x => hn (by cases x; exact e)), h.want.keep (fun k e => hc.block k (h.want.lt k e) (fun x => hw (by cases x; exact e))), h.chg.trans hc (fun i hi e => by cases e; show False; omega), h.np, h.nl, h.nw, h.sep⟩

set_option maxHeartbeats 4000000 in
theorem keeps_walk (most : Int) (ad : Option Addr) (len cap : Nat) (w : World) (ht : Tab w) (hl : len ≤ 9223372036854775806) (hrow : LineRow w ad len) :
    Calls Tryd.prog 6 #[.int .i64 most, .slice ad len cap] w fun e w' => e = .returned (.bool true) ∧ Below w.heap.size w w' := by
  have H : Hid (Tab w ∧ LineRow w ad len) := ⟨ht, hrow⟩
  clear ht hrow
  by_cases hr : 1 ≤ most ∧ most ≤ 4096
  · obtain ⟨m, rfl⟩ : ∃ m : Nat, most = m := ⟨most.toNat, by omega⟩
    have hm1 : ¬ ((m : Int) < 1) := by omega
    have hm2 : ¬ ((4096 : Int) < m) := by omega
    go_enter Tryd.func6, Tryd.ntmps6
    go_wp2_with fail
    refine (head_any _ H.out.1).mono ?_
    rintro e w1 ⟨rfl, hc1⟩
    go_wp2_with fail
    refine (new_any m _ (by omega) (by omega)).mono ?_
    rintro e w2 ⟨p, rfl, b, hN⟩
    have HK0 : Hid (Keep w w2 p m (.slice none 0 0) 0 0 (.map (some b)) [] (.slice none 0 0) (kept [] 0)) := ⟨hN.st, .inl ⟨rfl, rfl⟩, hc1.trans hN.chg (fun _ _ x => x), by have := hc1.size; have := hN.np; omega, fun j e => by simp [Value.ownBlock] at e, fun j e => by simp [Value.ownBlock] at e, fun j e => by simp [Value.ownBlock] at e⟩
    clear hN hc1
    go_wp2_with fail
    go_loopw [8, 9, 10, 11, 12, 13, 14] (fun wv lo i _ _ _ _ wr => ∃ (k lost first : Nat) (lv : Value) (L : List ByteArray), i = .int .i64 k ∧ k ≤ len ∧ lo = .int .u64 lost ∧ lost ≤ k ∧ Keep w wr p m lv first lost (.map (some b)) L wv (kept L first)) (fun _ _ i _ _ _ _ _ => len - (intOf i).toNat)
    case atStart => exact ⟨0, 0, 0, _, [], rfl, by omega, rfl, by omega, HK0.out⟩
    case round =>
      obtain ⟨k, lost, first, lv, L, rfl, hk, rfl, hlk, hK⟩ := hrel
      obtain ⟨wo, wl, rfl, hwc, hwm, -⟩ := hK.want.shape
      rw [kept_len] at hK hwc
      have HK : Hid (Keep w wr p m lv first lost (.map (some b)) L (.slice wo L.length wl) (kept L first)) := hK
      have hle4 : L.length ≤ 4096 := by have := hK.st.le; have := hK.st.m2; omega
      obtain ⟨ln, hln⟩ : ∃ ln, ln = L.length := ⟨_, rfl⟩
      rw [kept_len, ← hln]
      rw [← hln] at HK hle4 hwc
      have HLN : Hid (ln = L.length ∧ L.length ≤ m) := ⟨hln, hK.st.le⟩
      clear hK HK0
      by_cases hlt : k < len
      · obtain ⟨lb, off, time, event, so, sn, sc, ps, rfl, hlb, e0, e1, e2, hps, htime, hev⟩ := H.out.2 k hlt
        have hblk : wr.heap[lb]? = w.heap[lb]? := HK.out.chg.block lb hlb (fun x => x)
        have d0 : wr.cell? ⟨lb, off + k * 3, none⟩ = some (.int .u64 time) := by rw [← e0]; exact World.cell?_of_block hblk
        have d1 : wr.cell? ⟨lb, off + k * 3 + 1, none⟩ = some (.string event) := by rw [← e1]; exact World.cell?_of_block hblk
        have d2 : wr.cell? ⟨lb, off + k * 3 + 2, none⟩ = some (.slice so sn sc) := by rw [← e2]; exact World.cell?_of_block hblk
        have HP : Hid (PRd w (.slice so sn sc) ps ∧ lb < w.heap.size ∧ w.cell? ⟨lb, off + k * 3, none⟩ = some (.int .u64 time) ∧ w.cell? ⟨lb, off + k * 3 + 1, none⟩ = some (.string event) ∧ w.cell? ⟨lb, off + k * 3 + 2, none⟩ = some (.slice so sn sc)) := ⟨hps, hlb, e0, e1, e2⟩
        clear hblk hlb e0 e1 e2 hps
        clear hln
        go_wp2_with fail
        clear d0 d1 d2
        refine (refEncode_any time event _ ps _ (H.out.1.non HK.out.chg) htime hev (HP.out.1.non HK.out.chg)).mono ?_
        rintro e w3 ⟨rfl, hc3⟩
        obtain ⟨tS, htS⟩ : ∃ tS, tS = encT time event ps := ⟨_, rfl⟩
        obtain ⟨tE, htE⟩ : ∃ tE, tE = encE time event ps := ⟨_, rfl⟩
        have HT : Hid (tS = encT time event ps ∧ tE = encE time event ps) := ⟨htS, htE⟩
        rw [← htS, ← htE]
        have H3 : Hid (Keep w w3 p m lv first lost (.map (some b)) L (.slice wo ln wl) (kept L first)) := HK.out.non hc3
        have hblk : w3.heap[lb]? = w.heap[lb]? := H3.out.chg.block lb HP.out.2.1 (fun x => x)
        have d0 : w3.cell? ⟨lb, off + k * 3, none⟩ = some (.int .u64 time) := by rw [← HP.out.2.2.1]; exact World.cell?_of_block hblk
        have d1 : w3.cell? ⟨lb, off + k * 3 + 1, none⟩ = some (.string event) := by rw [← HP.out.2.2.2.1]; exact World.cell?_of_block hblk
        have d2 : w3.cell? ⟨lb, off + k * 3 + 2, none⟩ = some (.slice so sn sc) := by rw [← HP.out.2.2.2.2]; exact World.cell?_of_block hblk
        clear hc3 hblk HK htS htE
        go_wp2_with fail
        clear d0 d1 d2
        refine (add_any p m lv first lost (.map (some b)) L time event _ ps _ H3.out.st (by omega) (H.out.1.non H3.out.chg) htime hev (HP.out.1.non H3.out.chg)).mono ?_
        rintro e w4 ⟨rfl, hno, hyes⟩
        rw [← HT.out.2] at hno hyes ⊢
        rw [← HT.out.1] at hyes
        by_cases hE : tE = 0
        · obtain ⟨lv', first', lost', L', hA⟩ := hyes hE
          have HA : Hid (Keep w w4 p m lv' first' lost' (.map (some b)) L' (.slice wo ln wl) (kept L first) ∧ AddP w3 w4 p m lv first lost (.map (some b)) L tS lv' first' lost' L') := ⟨H3.out.add hA, hA⟩
          clear hno hyes hA H3
          rw [hE]
          go_wp2_with (at_builtin; refine wpList_appS _ rfl _ _ rfl (.slice wo ln wl) _ (kept L first) [tS] rfl rfl (HA.out.1.want.boxed _) (RdS.one w4 tS) (by rw [kept_len]; have := HLN.out; simp; omega) ?_)
          intro v5 w5 ho5 hc5 hk5
          have HB : Hid (Keep w w5 p m lv' first' lost' (.map (some b)) L' v5 (kept L first ++ [tS])) := HA.out.1.app ho5 (((Chg.refl _ w4).alloc _).trans hc5 (fun _ _ x => x)) (hk5.imp id (fun x => ⟨_, x, by simp⟩))
          obtain ⟨wo5, wl5, rfl, hwc5, hwm5, hw05⟩ := ho5.shape
          have hn5 : (kept L first ++ [tS]).length = ln + 1 := by rw [List.length_append, kept_len, ← HLN.out.1]; rfl
          rw [hn5] at hwc5 HB
          rw [hn5]
          clear ho5 hc5 hk5
          by_cases hfull : m < ln + 1
          · obtain ⟨g5, off5, rfl⟩ : ∃ g5 off5, wo5 = some ⟨g5, off5, none⟩ := by
              rcases HB.out.want with ⟨e, e2⟩ | ⟨g, off, n', cap', e, _⟩
              · simp at e2
              · cases e; exact ⟨g, off, rfl⟩
            have HF : Hid (Keep w w5 p m lv' first' lost' (.map (some b)) L' (.slice (some ⟨g5, off5 + 1, none⟩) ln (wl5 - 1)) (kept L' first') ∧ lost' = lost + 1 ∧ ln = L'.length) := by
              have h1 := HB.out.drop (by omega)
              have e1 := HA.out.2.kp
              rw [if_pos (by have := HLN.out.1; omega)] at e1
              rw [← e1] at h1
              have e2 := HA.out.2.ls
              rw [if_pos (by have := HLN.out.1; omega)] at e2
              refine ⟨h1, e2, ?_⟩
              have e3 := congrArg List.length e1
              rw [kept_len] at e3
              have e4 := HLN.out.1
              rw [List.length_drop, List.length_append, kept_len] at e3
              simp at e3
              omega
            have hfI : (m : Int) < (ln : Int) + 1 := by omega
            have hc1 : ¬ wl5 = 1 := by have := HLN.out; omega
            have hcI : (1 : Int) ≤ wl5 := by omega
            have hl1 : (1 : Int) ≤ (ln : Int) + 1 := by omega
            clear HA HB hn5 hw05
            go_wp2_with fail
            rw [show ((lost : Int) + 1) = ((lost + 1 : Nat) : Int) by omega]
            obtain ⟨e1, e2, e3⟩ := HF.out
            obtain ⟨lq, hlq⟩ : ∃ lq, lq = lost + 1 := ⟨_, rfl⟩
            obtain ⟨qo, hqo⟩ : ∃ qo, qo = some (⟨g5, off5 + 1, none⟩ : Addr) := ⟨_, rfl⟩
            obtain ⟨qc, hqc⟩ : ∃ qc, qc = wl5 - 1 := ⟨_, rfl⟩
            rw [e2, ← hqo, ← hqc, ← hlq] at e1
            rw [← hqo, ← hqc, ← hlq]
            have HQ : Hid (Keep w w5 p m lv' first' lq (.map (some b)) L' (.slice qo ln qc) (kept L' first') ∧ lq ≤ k + 1 ∧ ln = L'.length) := ⟨e1, by omega, e3⟩
            clear e1 e2 e3 hqo hqc hlq HF hcI hc1 hfI hl1 hfull hwc5 hwm5 HLN
            refine (lines_any p m lv' first' lq (.map (some b)) L' _ HQ.out.1.st).mono ?_
            rintro e w6 ⟨v6, rfl, hM⟩
            obtain ⟨go6, gc6, rfl, hgc6, hgm6, -⟩ := hM.own.shape
            have hkl : (kept L' first').length = ln := by rw [kept_len, HQ.out.2.2]
            rw [hkl] at hM hgc6
            rw [hkl]
            have H6 : Hid (Keep w w6 p m lv' first' lq (.map (some b)) L' (.slice qo ln qc) (kept L' first') ∧ OwnVS w6 (.slice go6 ln gc6) (kept L' first') ∧ (∀ t, (Value.slice go6 ln gc6).ownBlock = some t → w5.heap.size ≤ t) ∧ (∀ t, LS p lv' t → t < w5.heap.size) ∧ (∀ t, (Value.slice qo ln qc).ownBlock = some t → t < w5.heap.size) ∧ w.heap.size ≤ w5.heap.size ∧ lq ≤ k + 1 ∧ (kept L' first').length = ln) := by
              refine ⟨HQ.out.1.non hM.chg, hM.own, hM.new, fun t e => ?_, fun t e => HQ.out.1.want.lt t e, HQ.out.1.chg.size, HQ.out.2.1, hkl⟩
              rcases e with e | e
              · rw [e]; exact HQ.out.1.st.lt
              · exact HQ.out.1.st.own.lt t e
            clear hM HQ hkl
            go_wp2_with fail
            refine (lost_any p m lv' first' lq (.map (some b)) L' _ H6.out.1.st).mono ?_
            rintro e w7 ⟨rfl, hw7⟩
            obtain rfl := hw7.symm
            go_wp2_with fail
            go_loopw [14] (fun i wq => ∃ (j : Nat) (gs : List ByteArray), i = .int .i64 j ∧ j ≤ ln ∧ gs.length = ln ∧ Keep w wq p m lv' first' lq (.map (some b)) L' (.slice qo ln qc) (kept L' first') ∧ OwnVS wq (.slice go6 ln gc6) gs ∧ ∀ t, j ≤ t → gs[t]? = (kept L' first')[t]?) (fun i _ => ln - (intOf i).toNat)
            case atStart => exact ⟨0, kept L' first', rfl, by omega, H6.out.2.2.2.2.2.2.2, H6.out.1, H6.out.2.1, fun t _ => rfl⟩
            case round =>
              obtain ⟨j, gs, rfl, hj, hgl, hKq, hOq, hgs⟩ := hrel
              have HR : Hid (gs.length = ln ∧ Keep w wr p m lv' first' lq (.map (some b)) L' (.slice qo ln qc) (kept L' first') ∧ OwnVS wr (.slice go6 ln gc6) gs ∧ ∀ t, j ≤ t → gs[t]? = (kept L' first')[t]?) := ⟨hgl, hKq, hOq, hgs⟩
              by_cases hjl : j < ln
              · have hat : gs[j]? = some (gs[j]'(by omega)) := by simp
                obtain ⟨x, hx⟩ : ∃ x, x = gs[j]'(by omega) := ⟨_, rfl⟩
                rw [← hx] at hat
                have hat2 : (kept L' first')[j]? = some x := by rw [← hgs j (Nat.le_refl _)]; exact hat
                obtain ⟨gg, goff, rfl⟩ : ∃ gg goff, go6 = some ⟨gg, goff, none⟩ := by
                  rcases hOq with ⟨e, e2⟩ | ⟨g, off, n', cap', e, _⟩
                  · rw [e2] at hgl; simp at hgl; omega
                  · cases e; exact ⟨g, off, rfl⟩
                obtain ⟨wg, woff, rfl⟩ : ∃ wg woff, qo = some ⟨wg, woff, none⟩ := by
                  rcases hKq.want with ⟨e, e2⟩ | ⟨g, off, n', cap', e, _⟩
                  · rw [e2] at hat2; simp at hat2
                  · cases e; exact ⟨g, off, rfl⟩
                have ca := hOq.own.cell j x hat
                have cb := hKq.want.own.cell j x hat2
                have fa := hOq.own.free (goff + j)
                have hjI : (j : Int) < ln := by omega
                clear hgl hKq hOq hgs hx hat hat2
                go_wp2_with fail
                go_quiet (fail)
                have HS : Hid (Keep w (wr.drewN nq) p m lv' first' lq (.map (some b)) L' (.slice (some ⟨wg, woff, none⟩) ln qc) (kept L' first') ∧ OwnVS (wr.drewN nq) (.slice (some ⟨gg, goff, none⟩) ln gc6) gs) := by
                  have hcq : Chg Non wr (wr.drewN nq) := ⟨rfl, rfl, rfl, Nat.le_refl _, fun _ _ _ => rfl⟩
                  exact ⟨HR.out.2.1.non hcq, HR.out.2.2.1.keep (fun k e => hcq.block k (HR.out.2.2.1.lt k e) (fun x => x))⟩
                obtain ⟨wz, hwz⟩ : ∃ wz, wz = wr.drewN nq := ⟨_, rfl⟩
                have ca' : wz.cell? ⟨gg, goff + j, none⟩ = some (.string x) := by rw [hwz]; exact ca
                have fa' : wz.frozen? ⟨gg, goff + j, none⟩ = false := by rw [hwz]; exact fa
                rw [← hwz] at HS ⊢
                clear ca cb fa hwz
                go_wp2
                go_roundw
                case rel =>
                  refine ⟨j + 1, gs.set j ⟨#[109, 105, 110, 101]⟩, by go_num, by omega, by rw [List.length_set]; exact HR.out.1, ?_, .inr ⟨_, _, _, _, rfl, HS.out.2.own.set j hjl _⟩, fun t ht => ?_⟩
                  · have hg1 := H6.out.2.2.1 gg rfl
                    refine HS.out.1.turn (g := gg) (Chg.setCell (S := One gg) (Chg.refl _ _) (p := ⟨gg, goff + j, none⟩) (fun _ => rfl) _) (by have := H6.out.2.2.2.2.2.1; omega) (fun e => ?_) (fun e => ?_)
                    · have := H6.out.2.2.2.1 gg e; omega
                    · have := H6.out.2.2.2.2.1 gg e; omega
                  · rw [List.getElem?_set_ne (by omega)]
                    exact HR.out.2.2.2 t (by omega)
                case measure => simp [intOf]; omega
              · have H8 : Hid (Keep w wr p m lv' first' lq (.map (some b)) L' (.slice qo ln qc) (kept L' first')) := HR.out.2.1
                clear hgl hKq hOq hgs HR
                go_wp2
                go_roundw
                case rel => exact ⟨k + 1, lq, first', lv', L', by go_num, by omega, rfl, H6.out.2.2.2.2.2.2.1, H8.out⟩
                case measure => simp [intOf]; omega
          · have HF : Hid (Keep w w5 p m lv' first' lost' (.map (some b)) L' (.slice wo5 (ln + 1) wl5) (kept L' first') ∧ lost' = lost ∧ ln + 1 = L'.length) := by
              have h1 := HB.out
              have e1 := HA.out.2.kp
              rw [if_neg (by have := HLN.out.1; omega)] at e1
              rw [← e1] at h1
              have e2 := HA.out.2.ls
              rw [if_neg (by have := HLN.out.1; omega)] at e2
              refine ⟨h1, e2, ?_⟩
              have e3 := congrArg List.length e1
              rw [kept_len, List.length_append, kept_len] at e3
              have e4 := HLN.out.1
              simp at e3
              omega
            have hfI : ¬ (m : Int) < (ln : Int) + 1 := by omega
            clear HA HB hn5 hw05
            go_wp2_with fail
            obtain ⟨e1, e2, e3⟩ := HF.out
            obtain ⟨lq, hlq⟩ : ∃ lq, lq = lost := ⟨_, rfl⟩
            obtain ⟨ln2, hln2⟩ : ∃ ln2, ln2 = ln + 1 := ⟨_, rfl⟩
            obtain ⟨qo, hqo⟩ : ∃ qo, qo = wo5 := ⟨_, rfl⟩
            obtain ⟨qc, hqc⟩ : ∃ qc, qc = wl5 := ⟨_, rfl⟩
            rw [e2, ← hqo, ← hqc, ← hlq, ← hln2] at e1
            rw [← hln2] at e3
            rw [← hqo, ← hqc, ← hlq, ← hln2]
            have hle42 : ln2 ≤ 4097 := by omega
            have HQ : Hid (Keep w w5 p m lv' first' lq (.map (some b)) L' (.slice qo ln2 qc) (kept L' first') ∧ lq ≤ k + 1 ∧ ln2 = L'.length) := ⟨e1, by omega, e3⟩
            clear e1 e2 e3 hqo hqc hlq HF hfI hfull hwc5 hwm5 HLN hln2
            refine (lines_any p m lv' first' lq (.map (some b)) L' _ HQ.out.1.st).mono ?_
            rintro e w6 ⟨v6, rfl, hM⟩
            obtain ⟨go6, gc6, rfl, hgc6, hgm6, -⟩ := hM.own.shape
            have hkl : (kept L' first').length = ln2 := by rw [kept_len, HQ.out.2.2]
            rw [hkl] at hM hgc6
            rw [hkl]
            have H6 : Hid (Keep w w6 p m lv' first' lq (.map (some b)) L' (.slice qo ln2 qc) (kept L' first') ∧ OwnVS w6 (.slice go6 ln2 gc6) (kept L' first') ∧ (∀ t, (Value.slice go6 ln2 gc6).ownBlock = some t → w5.heap.size ≤ t) ∧ (∀ t, LS p lv' t → t < w5.heap.size) ∧ (∀ t, (Value.slice qo ln2 qc).ownBlock = some t → t < w5.heap.size) ∧ w.heap.size ≤ w5.heap.size ∧ lq ≤ k + 1 ∧ (kept L' first').length = ln2) := by
              refine ⟨HQ.out.1.non hM.chg, hM.own, hM.new, fun t e => ?_, fun t e => HQ.out.1.want.lt t e, HQ.out.1.chg.size, HQ.out.2.1, hkl⟩
              rcases e with e | e
              · rw [e]; exact HQ.out.1.st.lt
              · exact HQ.out.1.st.own.lt t e
            clear hM HQ hkl
            go_wp2_with fail
            refine (lost_any p m lv' first' lq (.map (some b)) L' _ H6.out.1.st).mono ?_
            rintro e w7 ⟨rfl, hw7⟩
            obtain rfl := hw7.symm
            go_wp2_with fail
            go_loopw [14] (fun i wq => ∃ (j : Nat) (gs : List ByteArray), i = .int .i64 j ∧ j ≤ ln2 ∧ gs.length = ln2 ∧ Keep w wq p m lv' first' lq (.map (some b)) L' (.slice qo ln2 qc) (kept L' first') ∧ OwnVS wq (.slice go6 ln2 gc6) gs ∧ ∀ t, j ≤ t → gs[t]? = (kept L' first')[t]?) (fun i _ => ln2 - (intOf i).toNat)
            case atStart => exact ⟨0, kept L' first', rfl, by omega, H6.out.2.2.2.2.2.2.2, H6.out.1, H6.out.2.1, fun t _ => rfl⟩
            case round =>
              obtain ⟨j, gs, rfl, hj, hgl, hKq, hOq, hgs⟩ := hrel
              have HR : Hid (gs.length = ln2 ∧ Keep w wr p m lv' first' lq (.map (some b)) L' (.slice qo ln2 qc) (kept L' first') ∧ OwnVS wr (.slice go6 ln2 gc6) gs ∧ ∀ t, j ≤ t → gs[t]? = (kept L' first')[t]?) := ⟨hgl, hKq, hOq, hgs⟩
              by_cases hjl : j < ln2
              · have hat : gs[j]? = some (gs[j]'(by omega)) := by simp
                obtain ⟨x, hx⟩ : ∃ x, x = gs[j]'(by omega) := ⟨_, rfl⟩
                rw [← hx] at hat
                have hat2 : (kept L' first')[j]? = some x := by rw [← hgs j (Nat.le_refl _)]; exact hat
                obtain ⟨gg, goff, rfl⟩ : ∃ gg goff, go6 = some ⟨gg, goff, none⟩ := by
                  rcases hOq with ⟨e, e2⟩ | ⟨g, off, n', cap', e, _⟩
                  · rw [e2] at hgl; simp at hgl; omega
                  · cases e; exact ⟨g, off, rfl⟩
                obtain ⟨wg, woff, rfl⟩ : ∃ wg woff, qo = some ⟨wg, woff, none⟩ := by
                  rcases hKq.want with ⟨e, e2⟩ | ⟨g, off, n', cap', e, _⟩
                  · rw [e2] at hat2; simp at hat2
                  · cases e; exact ⟨g, off, rfl⟩
                have ca := hOq.own.cell j x hat
                have cb := hKq.want.own.cell j x hat2
                have fa := hOq.own.free (goff + j)
                have hjI : (j : Int) < ln2 := by omega
                clear hgl hKq hOq hgs hx hat hat2
                go_wp2_with fail
                go_quiet (fail)
                have HS : Hid (Keep w (wr.drewN nq) p m lv' first' lq (.map (some b)) L' (.slice (some ⟨wg, woff, none⟩) ln2 qc) (kept L' first') ∧ OwnVS (wr.drewN nq) (.slice (some ⟨gg, goff, none⟩) ln2 gc6) gs) := by
                  have hcq : Chg Non wr (wr.drewN nq) := ⟨rfl, rfl, rfl, Nat.le_refl _, fun _ _ _ => rfl⟩
                  exact ⟨HR.out.2.1.non hcq, HR.out.2.2.1.keep (fun k e => hcq.block k (HR.out.2.2.1.lt k e) (fun x => x))⟩
                obtain ⟨wz, hwz⟩ : ∃ wz, wz = wr.drewN nq := ⟨_, rfl⟩
                have ca' : wz.cell? ⟨gg, goff + j, none⟩ = some (.string x) := by rw [hwz]; exact ca
                have fa' : wz.frozen? ⟨gg, goff + j, none⟩ = false := by rw [hwz]; exact fa
                rw [← hwz] at HS ⊢
                clear ca cb fa hwz
                go_wp2
                go_roundw
                case rel =>
                  refine ⟨j + 1, gs.set j ⟨#[109, 105, 110, 101]⟩, by go_num, by omega, by rw [List.length_set]; exact HR.out.1, ?_, .inr ⟨_, _, _, _, rfl, HS.out.2.own.set j hjl _⟩, fun t ht => ?_⟩
                  · have hg1 := H6.out.2.2.1 gg rfl
                    refine HS.out.1.turn (g := gg) (Chg.setCell (S := One gg) (Chg.refl _ _) (p := ⟨gg, goff + j, none⟩) (fun _ => rfl) _) (by have := H6.out.2.2.2.2.2.1; omega) (fun e => ?_) (fun e => ?_)
                    · have := H6.out.2.2.2.1 gg e; omega
                    · have := H6.out.2.2.2.2.1 gg e; omega
                  · rw [List.getElem?_set_ne (by omega)]
                    exact HR.out.2.2.2 t (by omega)
                case measure => simp [intOf]; omega
              · have H8 : Hid (Keep w wr p m lv' first' lq (.map (some b)) L' (.slice qo ln2 qc) (kept L' first')) := HR.out.2.1
                clear hgl hKq hOq hgs HR
                go_wp2
                go_roundw
                case rel => exact ⟨k + 1, lq, first', lv', L', by go_num, by omega, rfl, H6.out.2.2.2.2.2.2.1, H8.out⟩
                case measure => simp [intOf]; omega
        · obtain ⟨hst, hcg⟩ := hno hE
          have HQ : Hid (Keep w w4 p m lv first lost (.map (some b)) L (.slice wo ln wl) (kept L first) ∧ lost ≤ k + 1 ∧ ln = L.length) := ⟨H3.out.non hcg, by omega, HLN.out.1⟩
          have hEq : (tE == 0) = false := by simpa using hE
          have hfI : ¬ (m : Int) < ln := by have := HLN.out; omega
          clear hno hyes hst hcg H3 hE
          go_wp2_with fail
          clear hfI HLN
          refine (lines_any p m lv first lost (.map (some b)) L _ HQ.out.1.st).mono ?_
          rintro e w6 ⟨v6, rfl, hM⟩
          obtain ⟨go6, gc6, rfl, hgc6, hgm6, -⟩ := hM.own.shape
          have hkl : (kept L first).length = ln := by rw [kept_len, HQ.out.2.2]
          rw [hkl] at hM hgc6
          rw [hkl]
          have H6 : Hid (Keep w w6 p m lv first lost (.map (some b)) L (.slice wo ln wl) (kept L first) ∧ OwnVS w6 (.slice go6 ln gc6) (kept L first) ∧ (∀ t, (Value.slice go6 ln gc6).ownBlock = some t → w4.heap.size ≤ t) ∧ (∀ t, LS p lv t → t < w4.heap.size) ∧ (∀ t, (Value.slice wo ln wl).ownBlock = some t → t < w4.heap.size) ∧ w.heap.size ≤ w4.heap.size ∧ lost ≤ k + 1 ∧ (kept L first).length = ln) := by
            refine ⟨HQ.out.1.non hM.chg, hM.own, hM.new, fun t e => ?_, fun t e => HQ.out.1.want.lt t e, HQ.out.1.chg.size, HQ.out.2.1, hkl⟩
            rcases e with e | e
            · rw [e]; exact HQ.out.1.st.lt
            · exact HQ.out.1.st.own.lt t e
          clear hM HQ hkl
          go_wp2_with fail
          refine (lost_any p m lv first lost (.map (some b)) L _ H6.out.1.st).mono ?_
          rintro e w7 ⟨rfl, hw7⟩
          obtain rfl := hw7.symm
          go_wp2_with fail
          go_loopw [14] (fun i wq => ∃ (j : Nat) (gs : List ByteArray), i = .int .i64 j ∧ j ≤ ln ∧ gs.length = ln ∧ Keep w wq p m lv first lost (.map (some b)) L (.slice wo ln wl) (kept L first) ∧ OwnVS wq (.slice go6 ln gc6) gs ∧ ∀ t, j ≤ t → gs[t]? = (kept L first)[t]?) (fun i _ => ln - (intOf i).toNat)
          case atStart => exact ⟨0, kept L first, rfl, by omega, H6.out.2.2.2.2.2.2.2, H6.out.1, H6.out.2.1, fun t _ => rfl⟩
          case round =>
            obtain ⟨j, gs, rfl, hj, hgl, hKq, hOq, hgs⟩ := hrel
            have HR : Hid (gs.length = ln ∧ Keep w wr p m lv first lost (.map (some b)) L (.slice wo ln wl) (kept L first) ∧ OwnVS wr (.slice go6 ln gc6) gs ∧ ∀ t, j ≤ t → gs[t]? = (kept L first)[t]?) := ⟨hgl, hKq, hOq, hgs⟩
            by_cases hjl : j < ln
            · have hat : gs[j]? = some (gs[j]'(by omega)) := by simp
              obtain ⟨x, hx⟩ : ∃ x, x = gs[j]'(by omega) := ⟨_, rfl⟩
              rw [← hx] at hat
              have hat2 : (kept L first)[j]? = some x := by rw [← hgs j (Nat.le_refl _)]; exact hat
              obtain ⟨gg, goff, rfl⟩ : ∃ gg goff, go6 = some ⟨gg, goff, none⟩ := by
                rcases hOq with ⟨e, e2⟩ | ⟨g, off, n', cap', e, _⟩
                · rw [e2] at hgl; simp at hgl; omega
                · cases e; exact ⟨g, off, rfl⟩
              obtain ⟨wg, woff, rfl⟩ : ∃ wg woff, wo = some ⟨wg, woff, none⟩ := by
                rcases hKq.want with ⟨e, e2⟩ | ⟨g, off, n', cap', e, _⟩
                · rw [e2] at hat2; simp at hat2
                · cases e; exact ⟨g, off, rfl⟩
              have ca := hOq.own.cell j x hat
              have cb := hKq.want.own.cell j x hat2
              have fa := hOq.own.free (goff + j)
              have hjI : (j : Int) < ln := by omega
              clear hgl hKq hOq hgs hx hat hat2
              go_wp2_with fail
              go_quiet (fail)
              have HS : Hid (Keep w (wr.drewN nq) p m lv first lost (.map (some b)) L (.slice (some ⟨wg, woff, none⟩) ln wl) (kept L first) ∧ OwnVS (wr.drewN nq) (.slice (some ⟨gg, goff, none⟩) ln gc6) gs) := by
                have hcq : Chg Non wr (wr.drewN nq) := ⟨rfl, rfl, rfl, Nat.le_refl _, fun _ _ _ => rfl⟩
                exact ⟨HR.out.2.1.non hcq, HR.out.2.2.1.keep (fun k e => hcq.block k (HR.out.2.2.1.lt k e) (fun x => x))⟩
              obtain ⟨wz, hwz⟩ : ∃ wz, wz = wr.drewN nq := ⟨_, rfl⟩
              have ca' : wz.cell? ⟨gg, goff + j, none⟩ = some (.string x) := by rw [hwz]; exact ca
              have fa' : wz.frozen? ⟨gg, goff + j, none⟩ = false := by rw [hwz]; exact fa
              rw [← hwz] at HS ⊢
              clear ca cb fa hwz
              go_wp2
              go_roundw
              case rel =>
                refine ⟨j + 1, gs.set j ⟨#[109, 105, 110, 101]⟩, by go_num, by omega, by rw [List.length_set]; exact HR.out.1, ?_, .inr ⟨_, _, _, _, rfl, HS.out.2.own.set j hjl _⟩, fun t ht => ?_⟩
                · have hg1 := H6.out.2.2.1 gg rfl
                  refine HS.out.1.turn (g := gg) (Chg.setCell (S := One gg) (Chg.refl _ _) (p := ⟨gg, goff + j, none⟩) (fun _ => rfl) _) (by have := H6.out.2.2.2.2.2.1; omega) (fun e => ?_) (fun e => ?_)
                  · have := H6.out.2.2.2.1 gg e; omega
                  · have := H6.out.2.2.2.2.1 gg e; omega
                · rw [List.getElem?_set_ne (by omega)]
                  exact HR.out.2.2.2 t (by omega)
              case measure => simp [intOf]; omega
            · have H8 : Hid (Keep w wr p m lv first lost (.map (some b)) L (.slice wo ln wl) (kept L first)) := HR.out.2.1
              clear hgl hKq hOq hgs HR
              go_wp2
              go_roundw
              case rel => exact ⟨k + 1, lost, first, lv, L, by go_num, by omega, rfl, H6.out.2.2.2.2.2.2.1, H8.out⟩
              case measure => simp [intOf]; omega
      · go_wp2
        go_ret
        exact ⟨rfl, HK.out.chg.below (Nat.le_refl _) (fun k x => x.elim)⟩
  · have hr2 : most < 1 ∨ (1 ≤ most ∧ 4096 < most) := by omega
    rcases hr2 with h1 | ⟨h1, h2⟩
    all_goals
      go_enter Tryd.func6, Tryd.ntmps6
      go_wp2_with fail
      refine (head_any _ H.out.1).mono ?_
      rintro e w1 ⟨rfl, hc1⟩
      go_wp2_with fail
      refine (new_no most _ hr).mono ?_
      rintro e w2 ⟨rfl, hw2⟩
      subst hw2
      go_wp2
      go_ret
      exact ⟨rfl, hc1.below (Nat.le_refl _) (fun k x => x.elim)⟩
end Go.Proofs.YtlhcadfcgibkdaaDoor
