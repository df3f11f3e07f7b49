/-
  The document's reader: text.
-/
import Derived.Test.YtlhcadfcgibkdaaDoorQsD
import Derived.Test.YtlhcadfcgibkdaaDoorPsE
import Derived.Test.YtlhcadfcgibkdaaDoorQuo
namespace Go.Proofs.YtlhcadfcgibkdaaDoor
open Go.RowKit
set_option linter.unusedVariables false
set_option maxRecDepth 100000

/-- How far a text is read: the rest says the whole. -/
def TxE (s : ByteArray) (T : Nat × List UInt8 × Bool) (r : RS) (xs : List UInt8) : Prop :=
  (r.bad = true ∧ T.1 = r.pos ∧ T.2.2 = true) ∨ (r.bad = false ∧ ∃ f, s.size - r.pos < f ∧ (txtP s.data.toList f r.pos).1 = T.1 ∧ xs ++ (txtP s.data.toList f r.pos).2.1 = T.2.1 ∧ (txtP s.data.toList f r.pos).2.2 = T.2.2)

theorem TxE.next {s : ByteArray} {T : Nat × List UInt8 × Bool} {pos : Nat} {xs : List UInt8} {c : UInt8} (h : TxE s T ⟨pos, false⟩ xs) (hpos : pos < s.size) (hn34 : s[pos]'hpos ≠ 34) (hc : (ltR s.data.toList pos).1.bad = false → c = (ltR s.data.toList pos).2) : TxE s T (ltR s.data.toList pos).1 (xs ++ [c]) := by
  rcases h with ⟨e, _⟩ | ⟨_, f, hf, e1, e2, e3⟩
  · simp at e
  · obtain ⟨g, rfl⟩ : ∃ g, f = g + 1 := ⟨f - 1, by omega⟩
    simp only at e1 e2 e3 hf
    rw [txtP_step (get_ba hpos) hn34] at e1 e2 e3
    cases hb : (ltR s.data.toList pos).1.bad
    · right
      have hgt := ltR_gt hb
      rw [if_neg (by rw [hb]; simp)] at e1 e2 e3
      refine ⟨hb, g, by omega, e1, ?_, e3⟩
      rw [← e2, hc hb]
      simp
    · left
      rw [if_pos hb] at e1 e3
      exact ⟨hb, e1.symm, e3.symm⟩
theorem TxE.end {s : ByteArray} {T : Nat × List UInt8 × Bool} {pos : Nat} {xs : List UInt8} (h : TxE s T ⟨pos, false⟩ xs) (hpos : pos < s.size) (h34 : s[pos]'hpos = 34) : T = (pos + 1, xs, false) := by
  rcases h with ⟨e, _⟩ | ⟨_, f, hf, e1, e2, e3⟩
  · simp at e
  · simp only at e1 e2 e3 hf
    rw [txtP_end (by omega) (by rw [get_ba hpos, h34])] at e1 e2 e3
    obtain ⟨a, b, c⟩ := T
    simp at e1 e2 e3
    rw [← e1, ← e2, ← e3]
theorem TxE.short {s : ByteArray} {T : Nat × List UInt8 × Bool} {pos : Nat} {xs : List UInt8} (h : TxE s T ⟨pos, false⟩ xs) (hpos : ¬ pos < s.size) : T.1 = pos ∧ T.2.2 = true := by
  rcases h with ⟨e, _⟩ | ⟨_, f, hf, e1, e2, e3⟩
  · simp at e
  · simp only at e1 e2 e3 hf
    rw [txtP_none (by omega) (List.getElem?_eq_none (by simp; omega))] at e1 e3
    exact ⟨e1.symm, e3.symm⟩
theorem TxE.bad {s : ByteArray} {T : Nat × List UInt8 × Bool} {r : RS} {xs : List UInt8} (h : TxE s T r xs) (hb : r.bad = true) : T.1 = r.pos ∧ T.2.2 = true := by
  rcases h with ⟨_, e⟩ | ⟨e, _⟩
  · exact e
  · rw [hb] at e; cases e

structure TyI (w wr : World) (p : Nat) (s : ByteArray) (r : RS) (v : Value) (xs : List UInt8) : Prop where
  rd : QR wr p s r
  chg : Chg (One p) w wr
  own : OwnV wr v (toI xs)
  new : ∀ k, v.ownBlock = some k → w.heap.size ≤ k
  plt : p < w.heap.size

theorem TyI.read {w wr w1 : World} {p : Nat} {s : ByteArray} {r r1 : RS} {v : Value} {xs : List UInt8} (h : TyI w wr p s r v xs) (h1 : QR w1 p s r1) (hc : Chg (One p) wr w1) : TyI w w1 p s r1 v xs :=
  ⟨h1, h.chg.trans hc (fun _ _ x => x), h.own.keep (fun k e => hc.block k (h.own.lt k e) (fun x => by have := h.new k e; have := h.plt; unfold One at x; omega)), h.new, h.plt⟩

theorem TyI.app {w wr w2 : World} {p : Nat} {s : ByteArray} {r : RS} {v v2 : Value} {xs ys : List UInt8} (h : TyI w wr p s r v xs) (ho : OwnV w2 v2 (toI ys)) (hc : Chg (fun k => v.ownBlock = some k) wr w2) (hk : v2.ownBlock = v.ownBlock ∨ ∃ n, v2.ownBlock = some n ∧ wr.heap.size ≤ n) : TyI w w2 p s r v2 ys := by
  refine ⟨h.rd.keep hc (fun e => by have := h.new p e; have := h.plt; omega), h.chg.trans hc (fun i hi e => by have := h.new i e; omega), ho, fun k e => ?_, h.plt⟩
  rcases hk with x | ⟨n, x, hn⟩
  · exact h.new k (x ▸ e)
  · rw [x] at e
    cases e
    have := h.chg.size
    omega

theorem toI_snoc (xs : List UInt8) (c : UInt8) : toI (xs ++ [c]) = toI xs ++ [(c.toNat : Int)] := by simp [toI]

set_option maxHeartbeats 2000000 in
theorem rtext_rd (p : Nat) (s : ByteArray) (q : Nat) (w : World) (h : QR w p s ⟨q, false⟩) (hs : s.size ≤ 1024) (hq : q < s.size) (hc : s[q]'hq = 34) :
    Calls Tryd.prog 54 #[.pointer (some ⟨p, 0, none⟩)] w fun e w' => ∃ X : ByteArray, e = .returned (.string X) ∧ X.size ≤ 1025 ∧ ((txtP s.data.toList (s.data.toList.length + 1) (q + 1)).2.2 = false → X = ⟨(txtP s.data.toList (s.data.toList.length + 1) (q + 1)).2.1.toArray⟩) ∧
      QR w' p s ⟨(txtP s.data.toList (s.data.toList.length + 1) (q + 1)).1, (txtP s.data.toList (s.data.toList.length + 1) (q + 1)).2.2⟩ ∧ Chg (One p) w w' := by
  have H : Hid (QR w p s ⟨q, false⟩ ∧ s.data.toList[q]? = some 34) := ⟨h, by rw [get_ba hq, hc]⟩
  have hsl : s.data.toList.length = s.size := by simp
  obtain ⟨T, hT⟩ : ∃ T, T = txtP s.data.toList (s.data.toList.length + 1) (q + 1) := ⟨_, rfl⟩
  have HT : Hid (T = txtP s.data.toList (s.data.toList.length + 1) (q + 1) ∧ s.data.toList.length = s.size) := ⟨hT, hsl⟩
  rw [← hT]
  clear h hc hT hsl
  go_enter Tryd.func54, Tryd.ntmps54
  go_wp2_with fail
  refine (take_rd p s ⟨q, false⟩ 34 _ H.out.1 hs).mono ?_
  rintro e w1 ⟨rfl, h1, hc1⟩
  have HI : Hid (TyI w w1 p s ⟨q + 1, false⟩ (.slice none 0 0) [] ∧ TxE s T ⟨q + 1, false⟩ []) := by
    have e1 : tk s.data.toList 34 ⟨q, false⟩ = ⟨q + 1, false⟩ := by
      unfold tk
      rw [if_neg (by simp), if_pos H.out.2]
    rw [e1] at h1
    refine ⟨⟨h1, hc1, .inl ⟨rfl, rfl⟩, fun k hk => by simp [Value.ownBlock] at hk, H.out.1.lt⟩, .inr ⟨rfl, s.data.toList.length + 1, by have := HT.out.2; simp only; omega, by rw [HT.out.1], by rw [HT.out.1]; rfl, by rw [HT.out.1]⟩⟩
  clear h1 hc1
  go_wp2_with fail
  go_loopg [3] (s.size - q) (fun m ov wr => ∃ (r : RS) (v : Value) (xs : List UInt8) (ao : Option Addr) (n c : Nat), ov = v ∧ v = .slice ao n c ∧ TyI w wr p s r v xs ∧ TxE s T r xs ∧ xs.length + m ≤ 1025 ∧ (r.bad = false → s.size + 1 ≤ m + r.pos))
  case atStart => exact ⟨⟨q + 1, false⟩, _, [], none, 0, 0, rfl, rfl, HI.out.1, HI.out.2, by simp; omega, fun _ => by simp only; omega⟩
  case round =>
    obtain ⟨r, v, xs, ao, n, cap, rfl, rfl, hI, hE, hx1, hx2⟩ := hrel
    obtain ⟨c0, c1, c2, f1, f2⟩ := hI.rd.cells
    have hle := hI.rd.le
    have HP : Hid (TyI w wr p s r (.slice ao n cap) xs ∧ TxE s T r xs ∧ xs.length + gk ≤ 1025 ∧ (r.bad = false → s.size + 1 ≤ gk + r.pos)) := ⟨hI, hE, hx1, hx2⟩
    clear hI hE hx1 hx2
    obtain ⟨pos, bad⟩ := r
    simp only at c1 c2 hle
    cases bad
    · by_cases hlt : pos < s.size
      · have hge : ¬ ((s.size : Int) ≤ (pos : Int)) := by omega
        obtain ⟨cb, hcb⟩ : ∃ cb, cb = s[pos]'hlt := ⟨_, rfl⟩
        obtain ⟨c, hci⟩ : ∃ c : Int, c = (cb.toNat : Int) := ⟨_, rfl⟩
        have hix := run_at s pos hlt c (by rw [hci, hcb])
        have HM : Hid (∀ r' : RS, (r'.bad = false → pos < r'.pos) → ∃ m, m < gk ∧ xs.length + 1 + m ≤ 1025 ∧ (r'.bad = false → s.size + 1 ≤ m + r'.pos)) := by
          intro r' hr'
          have h6 := HP.out.2.2.1
          have h7 : s.size + 1 ≤ gk + pos := HP.out.2.2.2 (by first | rfl | trivial)
          refine ⟨gk - 1, by omega, by omega, fun hb => ?_⟩
          have := hr' hb
          omega
        by_cases h34 : cb = 34
        · have e34 : c = 34 := by rw [hci, h34]; rfl
          have HE : Hid (T = (pos + 1, xs, false)) := HP.out.2.1.end hlt (by rw [← hcb]; exact h34)
          obtain ⟨X, hX⟩ : ∃ X : ByteArray, X = ⟨xs.toArray⟩ := ⟨_, rfl⟩
          have hcv : ∀ k u, (convert 59 9 (.slice ao n cap)).run Tryd.prog ((wr.drewN k).setCell ⟨p, 1, none⟩ u) = .ok (.string X) ((wr.drewN k).setCell ⟨p, 1, none⟩ u) := by
            intro k u
            have hc : Chg (One p) wr ((wr.drewN k).setCell ⟨p, 1, none⟩ u) := (drewN_non wr k |>.non _).trans (chg_to 1 _) (fun _ _ x => x)
            have ho : OwnV ((wr.drewN k).setCell ⟨p, 1, none⟩ u) (.slice ao n cap) (toI xs) := HP.out.1.own.keep (fun k e => hc.block k (HP.out.1.own.lt k e) (fun x => by have := HP.out.1.new k e; have := HP.out.1.plt; unfold One at x; omega))
            rw [run_str _ _ _ ho.rd, toI_str, ← hX]
          have HX : Hid (X = ⟨xs.toArray⟩ ∧ X.size ≤ 1025) := ⟨hX, by rw [hX, sz_arr]; have := HP.out.2.2.1; omega⟩
          subst e34
          clear hcb hci h34 hX
          go_wp2_with fail
          go_quiet (fail)
          go_wp2_with fail
          go_quiet (fail)
          go_wp2_with fail
          go_ret
          rw [HE.out]
          exact ⟨X, rfl, HX.out.2, fun _ => HX.out.1, HP.out.1.rd.inc (by omega), chg_inc HP.out.1.chg⟩
        · have e34 : (c == 34) = false := by
            rw [hci, beq_eq_false_iff_ne]
            intro e
            exact h34 (UInt8.toNat_inj.1 (by show _ = 34; omega))
          have hn34 : s[pos]'hlt ≠ 34 := by rw [← hcb]; exact h34
          have hxl : (toI xs).length + 1 ≤ 140737488355328 := by rw [toI_length]; have := HP.out.2.2.1; omega
          by_cases h92 : cb = 92
          · have e92 : c = 92 := by rw [hci, h92]; rfl
            have HL : Hid (ltR s.data.toList pos = (⟨(escP s.data.toList pos).1, (escP s.data.toList pos).2.2⟩, (escP s.data.toList pos).2.1)) := by
              show _ = _
              unfold ltR
              rw [get_ba hlt, ← hcb, h92]
              simp
            have HN : Hid (∀ d : UInt8, ((escP s.data.toList pos).2.2 = false → d = (escP s.data.toList pos).2.1) → TxE s T ⟨(escP s.data.toList pos).1, (escP s.data.toList pos).2.2⟩ (xs ++ [d])) := by
              intro d hd
              have := HP.out.2.1.next (c := d) hlt hn34 (by rw [HL.out]; exact hd)
              rwa [HL.out] at this
            have HG : Hid (∃ m, m < gk ∧ xs.length + 1 + m ≤ 1025 ∧ ((escP s.data.toList pos).2.2 = false → s.size + 1 ≤ m + (escP s.data.toList pos).1)) := HM.out ⟨(escP s.data.toList pos).1, (escP s.data.toList pos).2.2⟩ (fun hb => escP_gt hb)
            subst e92
            clear hcb hci h34 h92 hn34 HM
            go_wp2_with fail
            go_quiet (fail)
            go_wp2_with fail
            go_quiet (fail)
            go_wp2_with fail
            refine (escaped_rd p s pos _ (HP.out.1.rd.inc (by omega)) hs).mono ?_
            rintro e w4 ⟨d, rfl, hd, h4, hc4⟩
            have H4 : Hid (TyI w w4 p s ⟨(escP s.data.toList pos).1, (escP s.data.toList pos).2.2⟩ (.slice ao n cap) xs ∧ TxE s T ⟨(escP s.data.toList pos).1, (escP s.data.toList pos).2.2⟩ (xs ++ [d])) := ⟨HP.out.1.read h4 (chg_inc (Chg.refl _ _) |>.trans hc4 (fun _ _ x => x)), HN.out d hd⟩
            clear hd h4 hc4 c0 c1 c2 f1 f2
            go_wp2_with (at_builtin; refine wpList_app _ rfl _ _ rfl _ _ (toI xs) _ rfl rfl (H4.out.1.own.boxed _) (Rd.one w4 _) ?c1 ?_)
            case c1 => simp only [List.length_cons, List.length_nil]; omega
            intro v5 w5 ho5 hc5 hk5
            have H5 : Hid (TyI w w5 p s ⟨(escP s.data.toList pos).1, (escP s.data.toList pos).2.2⟩ v5 (xs ++ [d])) := by
              rw [← toI_snoc] at ho5
              exact H4.out.1.app ho5 (((Chg.refl _ w4).alloc _).trans hc5 (fun _ _ x => x)) (hk5.imp id (fun x => ⟨_, x, by simp⟩))
            obtain ⟨ao5, n5, c5, rfl⟩ := shape_of ho5
            clear ho5 hc5 hk5
            obtain ⟨m, hm1, hm2, hm3⟩ := HG.out
            have HM2 : Hid (m < gk ∧ xs.length + 1 + m ≤ 1025 ∧ ((escP s.data.toList pos).2.2 = false → s.size + 1 ≤ m + (escP s.data.toList pos).1)) := ⟨hm1, hm2, hm3⟩
            clear hm1 hm2 hm3
            go_wp2_with fail
            go_roundg m
            case measure => exact HM2.out.1
            case rel => exact ⟨_, _, xs ++ [d], _, _, _, rfl, rfl, H5.out, H4.out.2, by have := HM2.out.2.1; simp; omega, HM2.out.2.2⟩
          · have e92 : (c == 92) = false := by
              rw [hci, beq_eq_false_iff_ne]
              intro e
              exact h92 (UInt8.toNat_inj.1 (by show _ = 92; omega))
            have hpl : plainR c = plainB c := by rw [hci]; exact plain_ne h34 h92
            have HL : Hid (ltR s.data.toList pos = if plainB c then (⟨pos + 1, false⟩, cb) else (⟨pos, true⟩, 0)) := by
              show _ = _
              unfold ltR
              rw [get_ba hlt, ← hcb]
              simp only
              rw [if_neg h92, hci]
            have HCI : Hid (c = (cb.toNat : Int)) := hci
            cases hp : plainB c
            · have HN : Hid (TxE s T ⟨pos, true⟩ (xs ++ [0])) := by
                have e1 := HL.out
                rw [hp] at e1
                have := HP.out.2.1.next (c := 0) hlt hn34 (by rw [e1]; intro x; cases x)
                rw [e1] at this
                exact this
              have HG : Hid (∃ m, m < gk ∧ xs.length + 1 + m ≤ 1025) := by
                obtain ⟨m, a, b, _⟩ := HM.out ⟨pos, true⟩ (fun x => by cases x)
                exact ⟨m, a, b⟩
              rw [hp] at hpl
              clear hcb hci h34 h92 hn34 HM
              go_wp2_with fail
              go_quiet (fail)
              go_wp2_with fail
              go_quiet (fail)
              go_wp2_with fail
              refine (plain_any _ _).mono ?_
              rintro e w4 ⟨rfl, hw4⟩
              rw [hpl]
              have H4 : Hid (TyI w w4 p s ⟨pos, false⟩ (.slice ao n cap) xs) := by
                subst hw4
                exact HP.out.1.read ⟨HP.out.1.rd.blk, HP.out.1.rd.le⟩ ⟨rfl, rfl, rfl, Nat.le_refl _, fun _ _ _ => rfl⟩
              clear hw4 c0 c1 c2 f1 f2
              obtain ⟨c0, c1, c2, f1, f2⟩ := H4.out.rd.cells
              obtain ⟨m, hm1, hm2⟩ := HG.out
              have HM2 : Hid (m < gk ∧ xs.length + 1 + m ≤ 1025) := ⟨hm1, hm2⟩
              clear hm1 hm2
              go_wp2_with fail
              go_roundg m
              case measure => exact HM2.out.1
              case rel => exact ⟨⟨pos, true⟩, _, xs, _, _, _, rfl, rfl, H4.out.read H4.out.rd.wrong (chg_to 2 _), .inl ⟨rfl, HN.out.bad rfl⟩, by have := HM2.out.2; omega, fun x => by cases x⟩
            · have HN : Hid (TxE s T ⟨pos + 1, false⟩ (xs ++ [cb])) := by
                have e1 := HL.out
                rw [hp] at e1
                have := HP.out.2.1.next (c := cb) hlt hn34 (by rw [e1]; intro x; rfl)
                rw [e1] at this
                exact this
              have HG : Hid (∃ m, m < gk ∧ xs.length + 1 + m ≤ 1025 ∧ (false = false → s.size + 1 ≤ m + (pos + 1))) := HM.out ⟨pos + 1, false⟩ (fun _ => by simp)
              rw [hp] at hpl
              clear hcb hci h34 h92 hn34 HM
              go_wp2_with fail
              go_quiet (fail)
              go_wp2_with fail
              go_quiet (fail)
              go_wp2_with fail
              refine (plain_any _ _).mono ?_
              rintro e w4 ⟨rfl, hw4⟩
              rw [hpl]
              have H4 : Hid (TyI w w4 p s ⟨pos, false⟩ (.slice ao n cap) xs) := by
                subst hw4
                exact HP.out.1.read ⟨HP.out.1.rd.blk, HP.out.1.rd.le⟩ ⟨rfl, rfl, rfl, Nat.le_refl _, fun _ _ _ => rfl⟩
              clear hw4 c0 c1 c2 f1 f2
              obtain ⟨c0, c1, c2, f1, f2⟩ := H4.out.rd.cells
              have H4b : Hid (TyI w (w4.setCell ⟨p, 1, none⟩ (.int .i64 ((pos : Int) + 1))) p s ⟨pos + 1, false⟩ (.slice ao n cap) xs) := H4.out.read (H4.out.rd.inc0 (by omega)) (chg_to 1 _)
              have hrd : Rd ((w4.setCell ⟨p, 1, none⟩ (.int .i64 ((pos : Int) + 1))).alloc (.cells #[.int .u8 c] 5)) (.slice (some ⟨w4.heap.size, 0, none⟩) 1 1) [c] := by
                have := Rd.one (w4.setCell ⟨p, 1, none⟩ (.int .i64 ((pos : Int) + 1))) c
                rwa [show (w4.setCell ⟨p, 1, none⟩ (.int .i64 ((pos : Int) + 1))).heap.size = w4.heap.size by simp [World.setCell]] at this
              go_wp2_with (at_builtin; refine wpList_app _ rfl _ _ rfl _ _ (toI xs) _ rfl rfl (H4b.out.own.boxed _) hrd ?c1 ?_)
              case c1 => simp only [List.length_cons, List.length_nil]; omega
              intro v5 w5 ho5 hc5 hk5
              have H5 : Hid (TyI w w5 p s ⟨pos + 1, false⟩ v5 (xs ++ [cb])) := by
                rw [HCI.out, ← toI_snoc] at ho5
                exact H4b.out.app ho5 (((Chg.refl _ _).alloc _).trans hc5 (fun _ _ x => x)) (hk5.imp id (fun x => ⟨_, x, by simp⟩))
              obtain ⟨ao5, n5, c5, rfl⟩ := shape_of ho5
              clear ho5 hc5 hk5
              obtain ⟨m, hm1, hm2, hm3⟩ := HG.out
              have HM2 : Hid (m < gk ∧ xs.length + 1 + m ≤ 1025 ∧ s.size + 1 ≤ m + (pos + 1)) := ⟨hm1, hm2, hm3 (by first | rfl | trivial)⟩
              clear hm1 hm2 hm3
              go_wp2_with fail
              go_roundg m
              case measure => exact HM2.out.1
              case rel => exact ⟨⟨pos + 1, false⟩, _, xs ++ [cb], _, _, _, rfl, rfl, H5.out, HN.out, by have := HM2.out.2.1; simp; omega, fun _ => HM2.out.2.2⟩
      · have hge : ((s.size : Int) ≤ (pos : Int)) := by omega
        have HE : Hid (T.1 = pos ∧ T.2.2 = true) := HP.out.2.1.short hlt
        go_wp2_with fail
        go_quiet (fail)
        go_wp2_with fail
        go_ret
        rw [HE.out.1, HE.out.2]
        exact ⟨_, rfl, by decide, fun e => (by cases e), (HP.out.1.rd.drewN _).wrong, chg_wrong HP.out.1.chg⟩
    · have HE : Hid (T.1 = pos ∧ T.2.2 = true) := HP.out.2.1.bad rfl
      go_wp2_with fail
      go_ret
      rw [HE.out.1, HE.out.2]
      exact ⟨_, rfl, by decide, fun e => (by cases e), HP.out.1.rd, HP.out.1.chg⟩
end Go.Proofs.YtlhcadfcgibkdaaDoor
