/-
  The program's reader: text.
-/
import Derived.Test.YtlhcadfcgibkdaaDoorPsD
import Derived.Test.YtlhcadfcgibkdaaDoorEnc
namespace Go.Proofs.YtlhcadfcgibkdaaDoor
open Go.RowKit
set_option linter.unusedVariables false
set_option maxRecDepth 100000

theorem txtP_none {S : List UInt8} {f p : Nat} (hf : 0 < f) (h : S[p]? = none) : txtP S f p = (p, [], true) := by
  cases f with
  | zero => omega
  | succ f => unfold txtP; rw [h]
theorem txtP_end {S : List UInt8} {f p : Nat} (hf : 0 < f) (h : S[p]? = some 34) : txtP S f p = (p + 1, [], false) := by
  cases f with
  | zero => omega
  | succ f => unfold txtP; rw [h]; simp
theorem txtP_step {S : List UInt8} {f p : Nat} {c : UInt8} (h : S[p]? = some c) (h34 : c ≠ 34) : txtP S (f + 1) p = if (ltR S p).1.bad then ((ltR S p).1.pos, [], true) else ((txtP S f (ltR S p).1.pos).1, (ltR S p).2 :: (txtP S f (ltR S p).1.pos).2.1, (txtP S f (ltR S p).1.pos).2.2) := by
  have hl : ltR S p = if c = 92 then (⟨(escP S p).1, (escP S p).2.2⟩, (escP S p).2.1) else if plainB c.toNat then (⟨p + 1, false⟩, c) else (⟨p, true⟩, 0) := by unfold ltR; rw [h]
  show (match S[p]? with | none => _ | some c => _) = _
  rw [h]
  simp only
  rw [if_neg h34]
  by_cases h92 : c = 92
  · rw [if_pos h92] at hl ⊢
    rw [hl]
  · rw [if_neg h92] at hl ⊢
    by_cases hp : plainB c.toNat = true
    · rw [if_pos hp] at hl ⊢
      rw [hl]
      simp
    · rw [if_neg hp] at hl ⊢
      rw [hl]
      simp
theorem ltR_gt {S : List UInt8} {p : Nat} (h : (ltR S p).1.bad = false) : p < (ltR S p).1.pos := by
  unfold ltR at h ⊢
  cases hc : S[p]? with
  | none => rw [hc] at h; simp at h
  | some c =>
    rw [hc] at h
    simp only at h ⊢
    by_cases h92 : c = 92
    · rw [if_pos h92] at h ⊢
      exact escP_gt h
    · rw [if_neg h92] at h ⊢
      by_cases hp : plainB c.toNat = true
      · rw [if_pos hp]; simp
      · rw [if_neg hp] at h; simp at h

theorem Bld.keepS {w w' : World} {b : Nat} {v : Value} {xs : List UInt8} (h : Bld w b v xs) {S : Nat → Prop} (hc : Chg S w w') (hS : ∀ k, BS b v k → ¬ S k) : Bld w' b v xs := by
  obtain ⟨p, hp, hb⟩ := h.blk
  refine ⟨⟨p, hp, by rw [hc.block b h.lt (hS b (.inl rfl))]; exact hb⟩, ?_, h.high⟩
  refine ⟨h.own.1, ?_⟩
  rcases h.own.2 with x | ⟨g, cap, cur, rfl, hbg, hg, rest⟩
  · exact .inl x
  · exact .inr ⟨g, cap, cur, rfl, hbg, by rw [hc.block g (Array.getElem?_eq_some_iff.1 hg).1 (hS g (.inr rfl))]; exact hg, rest⟩

/-- What a round of the text's loop holds: the reader and the builder side by side. -/
structure TxI (w wr : World) (p : Nat) (s : ByteArray) (T : Nat × List UInt8 × Bool) (r : RS) (v : Value) (xs : List UInt8) : Prop where
  rd : PR wr p s r
  chg : Chg (One p) w wr
  bld : Bld wr w.heap.size v xs
  new : ∀ k, BS w.heap.size v k → w.heap.size ≤ k
  eq : (r.bad = true ∧ T.1 = r.pos ∧ T.2.2 = true) ∨ (r.bad = false ∧ ∃ f, s.size - r.pos < f ∧ (txtP s.data.toList f r.pos).1 = T.1 ∧ xs ++ (txtP s.data.toList f r.pos).2.1 = T.2.1 ∧ (txtP s.data.toList f r.pos).2.2 = T.2.2)

theorem TxI.apart {w wr : World} {p : Nat} {s : ByteArray} {T : Nat × List UInt8 × Bool} {r : RS} {v : Value} {xs : List UInt8} (h : TxI w wr p s T r v xs) : ¬ BS w.heap.size v p := h.bld.apart h.rd.blk (by decide) (by decide)

/-- The reader goes on: the builder stays. -/
theorem TxI.read {w wr w1 : World} {p : Nat} {s : ByteArray} {T : Nat × List UInt8 × Bool} {r r1 : RS} {v : Value} {xs : List UInt8} (h : TxI w wr p s T r v xs) (h1 : PR w1 p s r1) (hc : Chg (One p) wr w1) : PR w1 p s r1 ∧ Chg (One p) w w1 ∧ Bld w1 w.heap.size v xs ∧ ∀ k, BS w.heap.size v k → w.heap.size ≤ k :=
  ⟨h1, h.chg.trans hc (fun _ _ x => x), h.bld.keepS hc (fun k hk e => h.apart (by cases e; exact hk)), h.new⟩

set_option maxHeartbeats 1000000 in
theorem text_rd (p : Nat) (s : ByteArray) (q : Nat) (w : World) (h : PR w p s ⟨q, false⟩) (hs : s.size ≤ 1024) (hq : q < s.size) (hc : s[q]'hq = 34) (h2 : 2 ≤ w.heap.size) :
    Calls Tryd.prog 70 #[.pointer (some ⟨p, 0, none⟩)] w fun e w' => ∃ X : ByteArray, e = .returned (.string X) ∧ X.size ≤ 1025 ∧ ((txtP s.data.toList (s.data.toList.length + 1) (q + 1)).2.2 = false → X = ⟨(txtP s.data.toList (s.data.toList.length + 1) (q + 1)).2.1.toArray⟩) ∧
      PR w' p s ⟨(txtP s.data.toList (s.data.toList.length + 1) (q + 1)).1, (txtP s.data.toList (s.data.toList.length + 1) (q + 1)).2.2⟩ ∧ Chg (One p) w w' := by
  have H : Hid (PR w p s ⟨q, false⟩ ∧ s.data.toList[q]? = some 34) := ⟨h, by rw [get_ba hq, hc]⟩
  have hsl : s.data.toList.length = s.size := by simp
  obtain ⟨T, hT⟩ : ∃ T, T = txtP s.data.toList (s.data.toList.length + 1) (q + 1) := ⟨_, rfl⟩
  have HT : Hid (T = txtP s.data.toList (s.data.toList.length + 1) (q + 1) ∧ s.data.toList.length = s.size) := ⟨hT, hsl⟩
  rw [← hT]
  clear h hc hT hsl
  go_enter Tryd.func70, Tryd.ntmps70
  go_wp2_with fail
  have hp : p ≠ w.heap.size := by have := H.out.1.lt; omega
  refine (literal_any p s ⟨q, false⟩ ⟨#[34]⟩ _ (H.out.1.non ((Chg.refl _ _).alloc _)) hs (by decide)).mono ?_
  rintro e w1 ⟨rfl, h1, hc1⟩
  have HI : Hid (TxI w w1 p s T ⟨q + 1, false⟩ (.slice none 0 0) []) := by
    have e1 : tks s.data.toList (⟨#[34]⟩ : ByteArray).data.toList ⟨q, false⟩ = ⟨q + 1, false⟩ := by
      show tk s.data.toList 34 ⟨q, false⟩ = _
      unfold tk
      rw [if_neg (by simp), if_pos H.out.2]
    rw [e1] at h1
    refine ⟨h1, ((Chg.refl _ _).alloc _).trans hc1 (fun _ _ x => x), (Bld.fresh w h2).keepS hc1 (fun k hk e => ?_), fun k hk => ?_, .inr ⟨rfl, s.data.toList.length + 1, by have := HT.out.2; simp only; omega, by rw [HT.out.1], by rw [HT.out.1]; rfl, by rw [HT.out.1]⟩⟩
    · cases e
      rcases hk with hk | hk
      · exact hp hk
      · simp [Value.ownBlock] at hk
    · rcases hk with hk | hk
      · omega
      · simp [Value.ownBlock] at hk
  clear h1 hc1
  go_wp2_with fail
  go_loopg [] (s.size - q) (fun m wr => ∃ (r : RS) (v : Value) (xs : List UInt8), TxI w wr p s T r v xs ∧ xs.length + m ≤ 1025 ∧ (r.bad = false → s.size + 1 ≤ m + r.pos))
  case atStart => exact ⟨⟨q + 1, false⟩, _, _, HI.out, by simp; omega, fun _ => by simp only; omega⟩
  case round =>
    obtain ⟨r, v, xs, hI, hx1, hx2⟩ := hrel
    have HP : Hid (TxI w wr p s T r v xs ∧ xs.length + gk ≤ 1025 ∧ (r.bad = false → s.size + 1 ≤ gk + r.pos)) := ⟨hI, hx1, hx2⟩
    clear hI hx1 hx2
    go_wp2_with fail
    refine (over_chg p s r _ HP.out.1.rd hs).mono ?_
    rintro e w2 ⟨rfl, hc2⟩
    have H2 : Hid (TxI w w2 p s T r v xs) := by
      obtain ⟨a, b, c, d⟩ := HP.out.1.read (HP.out.1.rd.non hc2) (hc2.non _)
      exact ⟨a, b, c, d, HP.out.1.eq⟩
    clear hc2
    cases ho : ovr s r
    · have hb : r.bad = false := by unfold ovr at ho; simp at ho; exact ho.1
      have hpos : r.pos < s.size := by have := HP.out.1.rd.le; unfold ovr at ho; simp at ho; omega
      obtain ⟨pos, bad⟩ := r
      simp only at hb hpos
      subst hb
      go_wp2_with fail
      refine (is_chg p s ⟨pos, false⟩ 34 _ H2.out.rd hs).mono ?_
      rintro e w3 ⟨rfl, hc3⟩
      have H3 : Hid (TxI w w3 p s T ⟨pos, false⟩ v xs) := by
        obtain ⟨a, b, c, d⟩ := H2.out.read (H2.out.rd.non hc3) (hc3.non _)
        exact ⟨a, b, c, d, H2.out.eq⟩
      clear hc3 H2
      cases hi : isN s ⟨pos, false⟩ 34
      · have hn34 : s[pos]'hpos ≠ 34 := by
          intro e
          unfold isN at hi
          simp only [get_ba hpos, e] at hi
          simp at hi
        go_wp2_with fail
        refine (letter_rd p s pos _ H3.out.rd hs hpos).mono ?_
        rintro e w4 ⟨c, rfl, hv4, h4, hc4⟩
        have H4 := H3.out.read h4 hc4
        have HL : Hid ((ltR s.data.toList pos).1.bad = false → c = (ltR s.data.toList pos).2) := hv4
        have H4' : Hid (PR w4 p s (ltR s.data.toList pos).1 ∧ Chg (One p) w w4 ∧ Bld w4 w.heap.size v xs ∧ ∀ k, BS w.heap.size v k → w.heap.size ≤ k) := H4
        clear h4 hc4 hv4 H4
        go_wp2_with fail
        refine (writeByte_any w.heap.size v xs c _ H4'.out.2.2.1 (by have := HP.out.2.1; omega)).mono ?_
        rintro e w5 ⟨rfl, v5, h5⟩
        have HF : Hid (TxI w w5 p s T (ltR s.data.toList pos).1 v5 (xs ++ [c])) := by
          have hap : ¬ BS w.heap.size v p := H4'.out.2.2.1.apart H4'.out.1.blk (by decide) (by decide)
          refine ⟨⟨h5.kept H4'.out.2.2.1 H4'.out.1.blk (by decide) (by decide), H4'.out.1.le⟩, ?_, h5.bld, fun k hk => ?_, ?_⟩
          · refine H4'.out.2.1.trans h5.chg (fun i hi e => ?_)
            have := H4'.out.2.2.2 i e
            omega
          · rcases hk with hk | hk
            · omega
            · rcases h5.row k hk with e | e
              · exact H4'.out.2.2.2 k (.inr e)
              · have := H4'.out.2.1.size; omega
          · rcases H3.out.eq with ⟨e, _⟩ | ⟨_, f, hf, e1, e2, e3⟩
            · simp at e
            · obtain ⟨g, rfl⟩ : ∃ g, f = g + 1 := ⟨f - 1, by omega⟩
              simp only at e1 e2 e3 hf
              rw [txtP_step (get_ba hpos) hn34] at e1 e2 e3
              cases hb : (ltR s.data.toList pos).1.bad
              · right
                have hgt := ltR_gt hb
                rw [if_neg (by rw [hb]; simp)] at e1 e2 e3
                refine ⟨rfl, g, by omega, e1, ?_, e3⟩
                rw [← e2, HL.out hb]
                simp
              · left
                rw [if_pos hb] at e1 e3
                exact ⟨rfl, e1.symm, e3.symm⟩
        have HM : Hid (∃ m, m < gk ∧ (xs ++ [c]).length + m ≤ 1025 ∧ ((ltR s.data.toList pos).1.bad = false → s.size + 1 ≤ m + (ltR s.data.toList pos).1.pos)) := by
          have h6 := HP.out.2.1
          have h7 : s.size + 1 ≤ gk + pos := HP.out.2.2 (by first | rfl | trivial)
          refine ⟨gk - 1, by omega, by simp; omega, fun hb => ?_⟩
          have := ltR_gt hb
          omega
        clear h5
        obtain ⟨m, hm1, hm2, hm3⟩ := HM.out
        have HM2 : Hid (m < gk ∧ (xs ++ [c]).length + m ≤ 1025 ∧ ((ltR s.data.toList pos).1.bad = false → s.size + 1 ≤ m + (ltR s.data.toList pos).1.pos)) := ⟨hm1, hm2, hm3⟩
        clear hm1 hm2 hm3
        go_wp2_with fail
        go_roundg m
        case measure => exact HM2.out.1
        case rel => exact ⟨_, _, _, HF.out, HM2.out.2⟩
      · have HX := H3
        have HE : Hid (tk s.data.toList 34 ⟨pos, false⟩ = ⟨T.1, T.2.2⟩ ∧ (T.2.2 = false → xs = T.2.1)) := by
          have hn := isN_true hi
          rcases H3.out.eq with ⟨e, _⟩ | ⟨_, f, hf, e1, e2, e3⟩
          · simp at e
          · rw [txtP_end (by omega) hn.2.1] at e1 e2 e3
            rw [hn.2.2.1]
            refine ⟨?_, fun _ => by simpa using e2⟩
            simp only at e1 e3
            rw [← e1, ← e3]
        go_wp2_with fail
        refine (literal_any p s ⟨pos, false⟩ ⟨#[34]⟩ _ HX.out.rd hs (by decide)).mono ?_
        rintro e w6 ⟨rfl, h6, hc6⟩
        have H6 : Hid (PR w6 p s ⟨T.1, T.2.2⟩ ∧ Chg (One p) w w6 ∧ Bld w6 w.heap.size v xs ∧ ∀ k, BS w.heap.size v k → w.heap.size ≤ k) := by
          have e1 : tks s.data.toList (⟨#[34]⟩ : ByteArray).data.toList ⟨pos, false⟩ = ⟨T.1, T.2.2⟩ := HE.out.1
          rw [e1] at h6
          exact HX.out.read h6 hc6
        clear h6 hc6
        go_wp2_with fail
        refine (string_any w.heap.size v xs _ H6.out.2.2.1 w.heap.size H6.out.2.2.2 H6.out.2.1.size).mono ?_
        rintro e w7 ⟨rfl, hb7⟩
        have H7 : Hid (PR w7 p s ⟨T.1, T.2.2⟩ ∧ Chg (One p) w w7) := by
          have hlt : p < w.heap.size := H.out.1.lt
          refine ⟨⟨by rw [hb7.block p hlt]; exact H6.out.1.blk, H6.out.1.le⟩, ?_⟩
          have h8 := H6.out.2.1
          exact ⟨hb7.os.trans h8.os, hb7.tape.trans h8.tape, hb7.output.trans h8.output, Nat.le_trans h8.size hb7.size, fun k hk hn => (hb7.block k hk).trans (h8.block k hk hn)⟩
        clear hb7
        go_wp2
        go_ret
        exact ⟨_, rfl, by rw [sz_arr]; have := HP.out.2.1; omega, fun e => by rw [HE.out.2 e], H7.out⟩
    · have HX := H2
      have HE : Hid (tk s.data.toList 34 r = ⟨T.1, T.2.2⟩ ∧ (T.2.2 = false → xs = T.2.1)) := by
        obtain ⟨pos, bad⟩ := r
        rcases H2.out.eq with ⟨e, e1, e2⟩ | ⟨e, f, hf, e1, e2, e3⟩
        · simp only at e e1
          subst e
          rw [tk_bad rfl, e1, e2]
          exact ⟨rfl, fun x => by cases x⟩
        · simp only at e e1 e2 e3 hf
          subst e
          have hp2 : pos = s.size := by unfold ovr at ho; simpa using ho
          have hnone : s.data.toList[pos]? = none := List.getElem?_eq_none (by have := HT.out.2; omega)
          rw [txtP_none (by omega) hnone] at e1 e2 e3
          simp only at e1 e3
          rw [← e1, ← e3]
          unfold tk
          rw [if_neg (by simp), if_neg (by simp only; rw [hnone]; simp)]
          exact ⟨rfl, fun x => by cases x⟩
      go_wp2_with fail
      refine (literal_any p s r ⟨#[34]⟩ _ HX.out.rd hs (by decide)).mono ?_
      rintro e w6 ⟨rfl, h6, hc6⟩
      have H6 : Hid (PR w6 p s ⟨T.1, T.2.2⟩ ∧ Chg (One p) w w6 ∧ Bld w6 w.heap.size v xs ∧ ∀ k, BS w.heap.size v k → w.heap.size ≤ k) := by
        have e1 : tks s.data.toList (⟨#[34]⟩ : ByteArray).data.toList r = ⟨T.1, T.2.2⟩ := HE.out.1
        rw [e1] at h6
        exact HX.out.read h6 hc6
      clear h6 hc6
      go_wp2_with fail
      refine (string_any w.heap.size v xs _ H6.out.2.2.1 w.heap.size H6.out.2.2.2 H6.out.2.1.size).mono ?_
      rintro e w7 ⟨rfl, hb7⟩
      have H7 : Hid (PR w7 p s ⟨T.1, T.2.2⟩ ∧ Chg (One p) w w7) := by
        have hlt : p < w.heap.size := H.out.1.lt
        refine ⟨⟨by rw [hb7.block p hlt]; exact H6.out.1.blk, H6.out.1.le⟩, ?_⟩
        have h8 := H6.out.2.1
        exact ⟨hb7.os.trans h8.os, hb7.tape.trans h8.tape, hb7.output.trans h8.output, Nat.le_trans h8.size hb7.size, fun k hk hn => (hb7.block k hk).trans (h8.block k hk hn)⟩
      clear hb7
      go_wp2
      go_ret
      exact ⟨_, rfl, by rw [sz_arr]; have := HP.out.2.1; omega, fun e => by rw [HE.out.2 e], H7.out⟩
end Go.Proofs.YtlhcadfcgibkdaaDoor
