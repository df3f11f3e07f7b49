/-
  The program's reader: key, value.
-/
import Derived.Test.YtlhcadfcgibkdaaDoorPsE
namespace Go.Proofs.YtlhcadfcgibkdaaDoor
open Go.RowKit
set_option linter.unusedVariables false
set_option maxRecDepth 100000

/-- Where the word behind a key's beginning leaves the reader. -/
theorem keyR_word {S : List UInt8} {ps : List PairD} {b : Nat} (hl : ps.length < 16) : keyR S ps ⟨b, false⟩ = tk S 61 (if keyOk ⟨(wdT S b).toArray⟩ ps then wdR S ⟨b, false⟩ else ⟨b, true⟩) := by
  unfold keyR
  rw [if_neg (by simp)]
  by_cases hk : keyOk ⟨(wdT S b).toArray⟩ ps = true
  · rw [if_pos ⟨hl, hk⟩, if_pos hk]
    have hw : isWd (wdT S b) = true := by
      unfold keyOk at hk
      simp only [Bool.and_eq_true] at hk
      exact hk.1.1.1
    unfold wdR
    rw [if_neg (by simp), if_pos hw]
  · rw [if_neg (fun h => hk h.2), if_neg hk, tk_bad rfl]
theorem keyR_full {S : List UInt8} {ps : List PairD} {b : Nat} (hl : ps.length = 16) : keyR S ps ⟨b, false⟩ = ⟨b, true⟩ := by
  unfold keyR
  rw [if_neg (by simp), if_neg (by omega)]

theorem lit_one (S : List UInt8) (r : RS) : tks S (⟨#[61]⟩ : ByteArray).data.toList r = tk S 61 r := rfl

set_option maxHeartbeats 1000000 in
/-- The end of key: the word is read, its place known. -/
theorem key_rd (p : Nat) (s : ByteArray) (r : RS) (ao : Option Addr) (n c : Nat) (ps : List PairD) (w : World) (h : PR w p s r) (hs : s.size ≤ 1024) (hps : PRd w (.slice ao n c) ps) (hl : ps.length ≤ 16) (hap : ps ≠ [] → ∀ k, (Value.slice ao n c).ownBlock = some k → k ≠ p) :
    Calls Tryd.prog 52 #[.pointer (some ⟨p, 0, none⟩), .slice ao n c] w fun e w' => ∃ K : ByteArray, e = .returned (.string K) ∧ K.size ≤ 1024 ∧ ((keyR s.data.toList ps r).bad = false → K = ⟨(wdT s.data.toList r.pos).toArray⟩) ∧ PR w' p s (keyR s.data.toList ps r) ∧ Chg (One p) w w' := by
  have hle := h.le
  have hn : n = ps.length := by obtain ⟨_, _, _, e, h1, _⟩ := hps; cases e; exact h1
  have hn16 : n ≤ 16 := by omega
  obtain ⟨c0, c1, c2, -, -⟩ := h.cells
  have H : Hid (PR w p s r ∧ PRd w (.slice ao n c) ps ∧ n = ps.length ∧ (∀ w', Chg (One p) w w' → PRd w' (.slice ao n c) ps)) := ⟨h, hps, hn, fun w' hc => hps.keep hc.size (fun hne k e hk => hc.block k hk (hap hne k e))⟩
  clear h hps hn hap hl
  obtain ⟨b, bad⟩ := r
  simp only at c1 c2 hle ⊢
  by_cases h16 : n = 16
  · have e16 : ((n : Int) == 16) = true := by simp; omega
    have HK : Hid (keyR s.data.toList ps ⟨b, bad⟩ = ⟨b, true⟩) := by
      show _ = _
      cases bad
      · exact keyR_full (by have := H.out.2.2.1; omega)
      · exact keyR_bad rfl
    rw [HK.out]
    clear h16
    go_enter Tryd.func52, Tryd.ntmps52
    go_wp2_with fail
    refine (fail_any p s ⟨b, bad⟩ b _ H.out.1 hle).mono ?_
    rintro e w1 ⟨rfl, h1, hc1⟩
    have H1 : Hid (PR w1 p s ⟨b, true⟩ ∧ Chg (One p) w w1) := ⟨by cases bad; exact h1; exact h1, hc1⟩
    clear h1 hc1 c0 c1 c2
    go_wp2_with fail
    refine (word_bad p s b _ H1.out.1 hs).mono ?_
    rintro e w2 ⟨rfl, h2, hc2⟩
    have H2 : Hid (PR w2 p s ⟨b, true⟩ ∧ Chg (One p) w w2) := ⟨h2, H1.out.2.trans hc2 (fun _ _ x => x)⟩
    clear h2 hc2 H1
    go_wp2_with fail
    refine (isKey_any _ _ ps _ (by decide) (H.out.2.2.2 _ H2.out.2)).mono ?_
    rintro e w3 ⟨rfl, hc3⟩
    have H3 : Hid (PR w3 p s ⟨b, true⟩ ∧ Chg (One p) w w3) := ⟨H2.out.1.non hc3, H2.out.2.trans hc3 (fun _ _ x => x.elim)⟩
    have hko : keyOk ByteArray.empty ps = false := keyOk_word (by rfl)
    rw [hko]
    clear hc3 H2 hko
    go_wp2_with fail
    refine (fail_any p s ⟨b, true⟩ b _ H3.out.1 hle).mono ?_
    rintro e w4 ⟨rfl, h4, hc4⟩
    have H4 : Hid (PR w4 p s ⟨b, true⟩ ∧ Chg (One p) w w4) := ⟨h4, H3.out.2.trans hc4 (fun _ _ x => x)⟩
    clear h4 hc4 H3
    go_wp2_with fail
    refine (literal_any p s ⟨b, true⟩ ⟨#[61]⟩ _ H4.out.1 hs (by decide)).mono ?_
    rintro e w5 ⟨rfl, h5, hc5⟩
    have H5 : Hid (PR w5 p s ⟨b, true⟩ ∧ Chg (One p) w w5) := ⟨h5.eq (tks_bad rfl), H4.out.2.trans hc5 (fun _ _ x => x)⟩
    clear h5 hc5 H4
    go_wp2
    go_ret
    exact ⟨_, rfl, by decide, fun e => (by cases e), H5.out⟩
  · have e16 : ((n : Int) == 16) = false := by simp; omega
    go_enter Tryd.func52, Tryd.ntmps52
    go_wp2_with fail
    refine (word_rd p s ⟨b, bad⟩ _ H.out.1 hs).mono ?_
    rintro e w2 ⟨T, rfl, hT, hTw, h2, hc2⟩
    have H2 : Hid (PR w2 p s (wdR s.data.toList ⟨b, bad⟩) ∧ Chg (One p) w w2 ∧ (bad = false → T = ⟨(wdT s.data.toList b).toArray⟩)) := ⟨h2, hc2, hTw⟩
    clear h2 hc2 c0 c1 c2 hTw
    go_wp2_with fail
    refine (isKey_any T _ ps _ (by omega) (H.out.2.2.2 _ H2.out.2.1)).mono ?_
    rintro e w3 ⟨rfl, hc3⟩
    have H3 : Hid (PR w3 p s (wdR s.data.toList ⟨b, bad⟩) ∧ Chg (One p) w w3) := ⟨H2.out.1.non hc3, H2.out.2.1.trans hc3 (fun _ _ x => x.elim)⟩
    clear hc3
    cases hko : keyOk T ps
    · have HK : Hid (keyR s.data.toList ps ⟨b, bad⟩ = (if (wdR s.data.toList ⟨b, bad⟩).bad then wdR s.data.toList ⟨b, bad⟩ else ⟨b, true⟩) ∧ (keyR s.data.toList ps ⟨b, bad⟩).bad = true) := by
        cases bad
        · have hT2 := H2.out.2.2 rfl
          rw [hT2] at hko
          rw [keyR_word (by have := H.out.2.2.1; omega), hko, if_neg (by simp), tk_bad rfl]
          refine ⟨?_, rfl⟩
          by_cases hw : isWd (wdT s.data.toList b) = true
          · have e : wdR s.data.toList ⟨b, false⟩ = ⟨b + (wdT s.data.toList b).length, false⟩ := by unfold wdR; rw [if_neg (by simp), if_pos hw]
            rw [e]; rfl
          · have e : wdR s.data.toList ⟨b, false⟩ = ⟨b, true⟩ := by unfold wdR; rw [if_neg (by simp), if_neg hw]
            rw [e]; rfl
        · rw [keyR_bad rfl, wdR_bad rfl]; exact ⟨rfl, rfl⟩
      go_wp2_with fail
      refine (fail_any p s _ b _ H3.out.1 hle).mono ?_
      rintro e w4 ⟨rfl, h4, hc4⟩
      have H4 : Hid (PR w4 p s (keyR s.data.toList ps ⟨b, bad⟩) ∧ Chg (One p) w w4) := ⟨h4.eq HK.out.1.symm, H3.out.2.trans hc4 (fun _ _ x => x)⟩
      clear h4 hc4 H3
      go_wp2_with fail
      refine (literal_any p s _ ⟨#[61]⟩ _ H4.out.1 hs (by decide)).mono ?_
      rintro e w5 ⟨rfl, h5, hc5⟩
      have H5 : Hid (PR w5 p s (keyR s.data.toList ps ⟨b, bad⟩) ∧ Chg (One p) w w5) := ⟨h5.eq (tks_bad HK.out.2), H4.out.2.trans hc5 (fun _ _ x => x)⟩
      clear h5 hc5 H4
      go_wp2
      go_ret
      exact ⟨T, rfl, hT, fun e => (by rw [HK.out.2] at e; cases e), H5.out⟩
    · have HK : Hid (tk s.data.toList 61 (wdR s.data.toList ⟨b, bad⟩) = keyR s.data.toList ps ⟨b, bad⟩) := by
        show _ = _
        cases bad
        · have hT2 := H2.out.2.2 rfl
          rw [hT2] at hko
          rw [keyR_word (by have := H.out.2.2.1; omega), hko, if_pos rfl]
        · rw [keyR_bad rfl, wdR_bad rfl, tk_bad rfl]
      go_wp2_with fail
      refine (literal_any p s _ ⟨#[61]⟩ _ H3.out.1 hs (by decide)).mono ?_
      rintro e w5 ⟨rfl, h5, hc5⟩
      have H5 : Hid (PR w5 p s (keyR s.data.toList ps ⟨b, bad⟩) ∧ Chg (One p) w w5) := ⟨h5.eq HK.out, H3.out.2.trans hc5 (fun _ _ x => x)⟩
      clear h5 hc5 H3
      go_wp2
      go_ret
      refine ⟨T, rfl, hT, fun e => ?_, H5.out⟩
      cases bad
      · exact H2.out.2.2 rfl
      · rw [keyR_bad rfl] at e; cases e

def Two (p q : Nat) : Nat → Prop := fun k => k = p ∨ k = q

theorem PairBox.set3 {w : World} {k : Nat} {d : PairD} (h : PairBox w k d) (X : ByteArray) : PairBox (w.setCell ⟨k, 3, none⟩ (.string X)) k ⟨d.key, d.isNum, d.num, X⟩ := by
  unfold PairBox at *
  simp [World.setCell, Array.getElem?_modify, h]
theorem PairBox.set12 {w : World} {k : Nat} {d : PairD} (h : PairBox w k d) (n : Nat) : PairBox ((w.setCell ⟨k, 1, none⟩ (.bool true)).setCell ⟨k, 2, none⟩ (.int .u64 n)) k ⟨d.key, true, n, d.text⟩ := by
  unfold PairBox at *
  simp [World.setCell, Array.getElem?_modify, h]
theorem PairBox.ks {w w' : World} {k p : Nat} {d : PairD} (h : PairBox w k d) (hc : Chg (One p) w w') (hne : k ≠ p) : PairBox w' k d := by
  unfold PairBox at *
  rw [hc.block k (Array.getElem?_eq_some_iff.1 h).1 hne]
  exact h
theorem PairBox.ne {w : World} {k p : Nat} {d : PairD} {s : ByteArray} {r : RS} (h : PairBox w k d) (hp : PR w p s r) : k ≠ p := by
  rintro rfl
  have := hp.blk
  unfold PairBox at h
  rw [h] at this
  simp at this

set_option maxHeartbeats 1000000 in
theorem value_rd (p pb : Nat) (s : ByteArray) (r : RS) (K : ByteArray) (w : World) (h : PR w p s r) (hs : s.size ≤ 1024) (hK : K.size ≤ 1024) (hb : PairBox w pb ⟨K, false, 0, ⟨#[]⟩⟩) (h2 : 2 ≤ w.heap.size) :
    Calls Tryd.prog 53 #[.pointer (some ⟨p, 0, none⟩), .pointer (some ⟨pb, 0, none⟩)] w fun e w' => e = .returned (.tuple #[]) ∧ ∃ d : PairD, PairBox w' pb d ∧ d.Ok ∧ ((valR s.data.toList K r).1.bad = false → d = (valR s.data.toList K r).2) ∧ PR w' p s (valR s.data.toList K r).1 ∧ Chg (Two p pb) w w' := by
  have hle := h.le
  have hne := hb.ne h
  have H : Hid (PR w p s r ∧ PairBox w pb ⟨K, false, 0, ⟨#[]⟩⟩) := ⟨h, hb⟩
  clear h hb
  go_enter Tryd.func53, Tryd.ntmps53
  go_wp2_with fail
  refine (is_chg p s r 34 _ H.out.1 hs).mono ?_
  rintro e w1 ⟨rfl, hc1⟩
  have H1 : Hid (PR w1 p s r ∧ PairBox w1 pb ⟨K, false, 0, ⟨#[]⟩⟩ ∧ Chg Non w w1) := ⟨H.out.1.non hc1, H.out.2.keep hc1, hc1⟩
  clear hc1
  cases hi : isN s r 34
  · have HV : Hid ((valR s.data.toList K r).1 = (nmR s.data.toList r).1 ∧ (valR s.data.toList K r).1 = (nmR s.data.toList r).1 ∧ ((valR s.data.toList K r).1.bad = false → (valR s.data.toList K r).2 = ⟨K, true, (nmR s.data.toList r).2, ⟨#[]⟩⟩)) := by
      cases hb : r.bad
      · have hno : ¬ s.data.toList[r.pos]? = some 34 := by
          intro e
          unfold isN at hi
          rw [hb, e] at hi
          simp at hi
        unfold valR
        rw [if_neg (by rw [hb]; simp), if_neg hno]
        exact ⟨rfl, rfl, fun _ => rfl⟩
      · rw [valR_bad hb, nmR_bad hb]
        exact ⟨rfl, rfl, fun e => by rw [hb] at e; cases e⟩
    go_wp2_with fail
    refine (number_rd p s r _ H1.out.1 hs).mono ?_
    rintro e w2 ⟨rfl, h3, hc3⟩
    have H2 : Hid (PR w2 p s (valR s.data.toList K r).1 ∧ PairBox w2 pb ⟨K, false, 0, ⟨#[]⟩⟩ ∧ Chg (One p) w w2) := ⟨h3.eq HV.out.1.symm, H1.out.2.1.ks hc3 hne, (H1.out.2.2.non _).trans hc3 (fun _ _ x => x)⟩
    obtain ⟨N, hN⟩ : ∃ N, N = (nmR s.data.toList r).2 := ⟨_, rfl⟩
    have HN : Hid (N = (nmR s.data.toList r).2) := hN
    have hNl : N < 18446744073709551616 := by rw [hN]; exact nmR_lt _ _
    rw [← hN]
    clear h3 hc3 hN
    have f1 : w2.frozen? ⟨pb, 1, none⟩ = false := Lib.frozen_of_heap H2.out.2.1 1
    have f2 : w2.frozen? ⟨pb, 2, none⟩ = false := Lib.frozen_of_heap H2.out.2.1 2
    have d1 : w2.cell? ⟨pb, 1, none⟩ = some (.bool false) := H2.out.2.1.cell 1
    have d2 : w2.cell? ⟨pb, 2, none⟩ = some (.int .u64 0) := H2.out.2.1.cell 2
    go_wp2
    go_end0
    refine ⟨rfl, ⟨K, true, N, ⟨#[]⟩⟩, H2.out.2.1.set12 N, ⟨hNl, by show K.size ≤ _; omega, by show ByteArray.size ⟨#[]⟩ ≤ _; decide⟩, fun e => ?_, ?_, ?_⟩
    · rw [HV.out.2.2 e, HN.out]
    · exact H2.out.1.keep (S := One pb) ((chg_to 1 _).trans (chg_to 2 _) (fun _ _ x => x)) (fun e => hne e.symm)
    · exact (H2.out.2.2.mono (S' := Two p pb) (fun _ _ e => .inl e)).trans (S' := One pb) ((chg_to 1 _).trans (chg_to 2 _) (fun _ _ x => x)) (fun _ _ e => .inr e)
  · have hn := isN_true hi
    obtain ⟨pos, bad⟩ := r
    have hb : bad = false := hn.1
    subst hb
    have hpos : pos < s.size := hn.2.2.2
    have hg : s[pos]'hpos = 34 := by have := hn.2.1; rw [get_ba hpos] at this; simpa using this
    have HV : Hid (valR s.data.toList K ⟨pos, false⟩ = (⟨(txtP s.data.toList (s.data.toList.length + 1) (pos + 1)).1, (txtP s.data.toList (s.data.toList.length + 1) (pos + 1)).2.2⟩, ⟨K, false, 0, ⟨(txtP s.data.toList (s.data.toList.length + 1) (pos + 1)).2.1.toArray⟩⟩)) := by
      show _ = _
      unfold valR
      rw [if_neg (by simp), if_pos hn.2.1]
    clear hn
    go_wp2_with fail
    refine (text_rd p s pos _ H1.out.1 hs hpos hg (by have := H1.out.2.2.size; omega)).mono ?_
    rintro e w2 ⟨X, rfl, hX, hXt, h3, hc3⟩
    have H2 : Hid (PR w2 p s ⟨(txtP s.data.toList (s.data.toList.length + 1) (pos + 1)).1, (txtP s.data.toList (s.data.toList.length + 1) (pos + 1)).2.2⟩ ∧ PairBox w2 pb ⟨K, false, 0, ⟨#[]⟩⟩ ∧ Chg (One p) w w2 ∧ ((txtP s.data.toList (s.data.toList.length + 1) (pos + 1)).2.2 = false → X = ⟨(txtP s.data.toList (s.data.toList.length + 1) (pos + 1)).2.1.toArray⟩)) := ⟨h3, H1.out.2.1.ks hc3 hne, (H1.out.2.2.non _).trans hc3 (fun _ _ x => x), hXt⟩
    clear h3 hc3 hXt
    have f3 : w2.frozen? ⟨pb, 3, none⟩ = false := Lib.frozen_of_heap H2.out.2.1 3
    have d3 : w2.cell? ⟨pb, 3, none⟩ = some (.string ⟨#[]⟩) := H2.out.2.1.cell 3
    go_wp2
    refine bodyPost_ret (results_none rfl _ _ _) rfl ?_
    rw [HV.out]
    refine ⟨rfl, ⟨K, false, 0, X⟩, H2.out.2.1.set3 X, ⟨by show 0 < _; decide, by show K.size ≤ _; omega, by show X.size ≤ _; omega⟩, fun e => ?_, ?_, ?_⟩
    · rw [H2.out.2.2.2 e]
    · exact H2.out.1.keep (S := One pb) (chg_to 3 _) (fun e => hne e.symm)
    · exact (H2.out.2.2.1.mono (S' := Two p pb) (fun _ _ e => .inl e)).trans (S' := One pb) (chg_to 3 _) (fun _ _ e => .inr e)
end Go.Proofs.YtlhcadfcgibkdaaDoor
