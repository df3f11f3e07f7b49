/-
  The code of any text is the document's: ChachaCodes walked.
-/
import Derived.Test.YtkdidacebfkdmaaRPe
namespace Go.Proofs.Ytkdidacebfkdmaa
open Go.RowKit
set_option linter.unusedVariables false

/-- A row of bytes that may be written. -/
theorem own_set {w : World} {g o n c : Nat} {f : Nat → By} (h : Ap.Own w g o n c (nums n f)) {i : Nat} (hi : i < n) (x : By) : Ap.Own (w.setCell ⟨g, o + i, none⟩ (.int .u8 (x.toNat : Int))) g o n c (nums n (updB f i x)) := by
  obtain ⟨h1, h2, h3, cur, hb, hs, ht⟩ := h
  refine ⟨nums_len _ _, h2, h3, cur.setIfInBounds (o + i) (.int .u8 (x.toNat : Int)), ?_, by simpa using hs, ?_⟩
  · rw [setCell_eq_setRow w g (o + i) cur 5 (0, 0) _ hb, setRow_heap _ _ _ _ _ _ hb]
  · apply List.ext_getElem?
    intro j
    have htj := congrArg (·[j]?) ht
    simp only [List.getElem?_take, List.getElem?_drop, List.getElem?_map, Array.getElem?_toList] at htj ⊢
    rw [Array.getElem?_setIfInBounds]
    by_cases hj : j < n
    · rw [if_pos hj] at htj ⊢
      rw [nums_get n f hj] at htj
      rw [nums_get n _ hj]
      by_cases e : i = j
      · subst e
        have hlt : o + i < cur.size := by omega
        simp [hlt, updB]
      · have e1 : ¬ o + i = o + j := by omega
        have e2 : ¬ j = i := fun h => e h.symm
        rw [if_neg e1, htj, updB, if_neg e2]
    · rw [if_neg hj, List.getElem?_eq_none (by rw [nums_len]; omega)]
      rfl

set_option maxRecDepth 100000 in
set_option maxHeartbeats 8000000 in
theorem codes_walk (n cap hgh : Nat) (ao : Option Addr) (key txt : Nat → By) (w : World) (ht : Ap.Rd w (.slice ao n cap) (nums n txt)) (hn' : n ≤ 140737488351232) (hh : hgh < 256) :
    Calls Try.prog 4 #[.agg (ba 32 key), .slice ao n cap, .int .u8 (hgh : Int)] w fun r w' => r = .returned (.bool true) ∧ Chg w w' := by
  have HX : Hid (Ap.Rd w (.slice ao n cap) (nums n txt) ∧ n ≤ 140737488351232) := ⟨ht, hn'⟩
  clear ht
  obtain ⟨A, hA⟩ : ∃ A, A = ba 32 key := ⟨_, rfl⟩
  have hsA : A.size = 32 := by rw [hA]; exact ba_size _ _
  have HA : Hid (A = ba 32 key) := hA
  rw [← hA]
  clear hA
  have wh := wrap_i (x := (hgh : Int)) (by omega) (by omega)
  go_enter Try.func4, Try.ntmps4
  go_wp2_with fail
  go_at_call 8
  refine (head_any _).mono ?_
  rintro r w1 ⟨rfl, hc1⟩
  have Z1 : Hid (Chg w w1 ∧ Ar w1 w.heap.size (ba 32 key)) := by
    rw [HA.out] at hc1
    exact ⟨((Chg.refl w).alloc _).trans hc1, (Ar.new w _ _).chg hc1⟩
  clear hc1 hsA
  have Zr : Hid (Ap.Rd (w1.alloc (.cells #[] 5)) (.slice ao n cap) (nums n txt)) := Rd.chg HX.out.1 (Z1.out.1.alloc _)
  go_wp2_with (at_builtin; refine Ap.wpList_app _ rfl _ _ rfl (.slice (some ⟨w1.heap.size, 0, none⟩) 0 0) (.slice ao n cap) [] (nums n txt) rfl rfl (OwnV.empty w1) Zr.out (by rw [nums_len]; simp; omega) ?_)
  intro v2 w2 o2 cc2 b2
  have k0 : OwnN w1 (w1.alloc (.cells #[] 5)) (.slice (some ⟨w1.heap.size, 0, none⟩) 0 0) [] := ⟨OwnV.empty w1, fun k e => by simp [Value.ownBlock] at e; omega, (Chg.refl w1).alloc _⟩
  have k2' := k0.more o2 cc2 (by first | exact b2 | (rw [World.size_alloc]; exact b2))
  obtain ⟨oo, m, oc, rfl, hm, -⟩ := o2.rd.shape
  rw [nums_len] at hm
  subst hm
  have Z2 : Hid ((Chg w w2 ∧ Ar w2 w.heap.size (ba 32 key)) ∧ OwnN w1 w2 (.slice oo m oc) (nums m txt)) := ⟨⟨Z1.out.1.trans k2'.chg, Z1.out.2.chg k2'.chg⟩, k2'⟩
  have HS1 : Hid (w.heap.size < w1.heap.size) := Z1.out.2.lt
  obtain ⟨n, hnm⟩ : ∃ n, n = m := ⟨_, rfl⟩
  subst hnm
  clear k0 k2' o2 cc2 b2 Z1 Zr
  go_wp2_with fail
  go_loopw [9] (fun v wr => ∃ (i : Nat) (F : Nat → By), v = .int .i64 i ∧ i ≤ n ∧ (Chg w wr ∧ Ar wr w.heap.size (ba 32 key)) ∧ OwnN w1 wr (.slice oo n oc) (nums n F)) (fun v wr => n - (intOf v).toNat)
  case atStart => exact ⟨0, txt, rfl, by omega, Z2.out⟩
  case round =>
    clear Z2
    obtain ⟨i, F, rfl, hi, hz0, hz1⟩ := hrel
    by_cases hb : i < n ∧ i < hgh
    · obtain ⟨h1, h2⟩ := hb
      have hd1 : decide ((i : Int) < n) = true := by simp; omega
      have hd2 : decide ((i : Int) < hgh) = true := by simp; omega
      have li : (i : Int) < n := by omega
      have li2 : (i : Int) < hgh := by omega
      have hnew := hz1.new
      rcases hz1.own with ⟨e, _⟩ | ⟨g, off, n', cap', e, hown⟩
      · injection e with _ e2 _
        omega
      injection e with e1 e2 e3
      subst e1 e2 e3
      have hg := hnew g rfl
      have c1 := hown.cell i _ (nums_get n F h1)
      have f1 : wr.frozen? ⟨g, off + i, none⟩ = false := by
        obtain ⟨_, _, _, cur, hb, _, _⟩ := hown
        simp [World.frozen?, hb]
      have HOW : Hid (Ap.Own wr g off n oc (nums n F) ∧ w.heap.size < g ∧ w1.heap.size ≤ g ∧ (Chg w wr ∧ Ar wr w.heap.size (ba 32 key)) ∧ Chg w1 wr ∧ i < n) := ⟨hown, by have := HS1.out; omega, hg, hz0, hz1.chg, h1⟩
      obtain ⟨z, hz⟩ : ∃ z, z = (F i).toNat := ⟨_, rfl⟩
      rw [← hz] at c1
      clear hz0 hz1 hnew hown hg hz
      go_wp2_with fail
      go_roundw
      case rel =>
        obtain ⟨r1, r2, r3, r4, r5, r6⟩ := HOW.out
        refine ⟨i + 1, updB F i 255#8, by go_num, by omega, ⟨r4.1.setCell (by dsimp only; omega) _, r4.2.other (by dsimp only; omega) _⟩, .inr ⟨g, off, n, oc, rfl, own_set r1 r6 255#8⟩, fun k e => ?_, r5.setCell (by dsimp only; omega) _⟩
        simp [Value.ownBlock] at e
        omega
      case measure => have := HOW.out.2.2.2.2.2; simp [intOf]; omega
    · obtain ⟨w6, hw6⟩ : ∃ w6, w6 = wr := ⟨_, rfl⟩
      have Z6 : Hid (Chg w w6 ∧ Ar w6 w.heap.size (ba 32 key) ∧ Ap.Rd w6 (.slice oo n oc) (nums n F)) := by rw [hw6]; exact ⟨hz0.1, hz0.2, hz1.own.rd⟩
      have HB : Hid (¬ (i < n ∧ i < hgh)) := hb
      rw [← hw6]
      clear hw6 hz0 hz1 hb
      by_cases h1 : i < n
      · have h2 : ¬ i < hgh := fun h => HB.out ⟨h1, h⟩
        have hd1 : decide ((i : Int) < n) = true := by simp; omega
        have hd2 : decide ((i : Int) < hgh) = false := by simp; omega
        go_upto_region 7 with fail
        refine wp_region_good 19 (fun j v wg => match j with
          | 0 => v = .bool true
          | 1 => v = .bool true
          | 2 => v = .agg (ba 32 key)
          | 3 => v = .slice ao n cap
          | 4 => v = .agg (ba 16 (polF key txt n))
          | 5 => v = .agg (ba 32 key)
          | 6 => v = .slice ao n cap
          | 7 => v = .agg (ba 16 (polF key txt n))
          | 8 => v = .bool true
          | 9 => v = .bool true
          | 10 => v = .bool true
          | 11 => v = .agg (ba 32 key)
          | 12 => v = .slice oo n oc
          | 13 => v = .agg (ba 16 (polF key F n))
          | 14 => v = .agg (ba 32 key)
          | 15 => v = .slice oo n oc
          | 16 => v = .agg (ba 16 (polF key F n))
          | 17 => v = .bool true
          | 18 => v = .bool true
          | _ => True) (by kernel_rfl) (by kernel_rfl) (by kernel_rfl) (by kernel_rfl) (by kernel_rfl) ?_ ?_ ?_
        · intro j v u1 u2 h hc
          match j, h with
          | 0, h => exact h
          | 1, h => exact h
          | 2, h => exact h
          | 3, h => exact h
          | 4, h => exact h
          | 5, h => exact h
          | 6, h => exact h
          | 7, h => exact h
          | 8, h => exact h
          | 9, h => exact h
          | 10, h => exact h
          | 11, h => exact h
          | 12, h => exact h
          | 13, h => exact h
          | 14, h => exact h
          | 15, h => exact h
          | 16, h => exact h
          | 17, h => exact h
          | 18, h => exact h
          | _ + 19, h => exact trivial
        · intro i o ac u hi ho hsz hf hg hc
          have hcs : i = 0 ∨ i = 1 ∨ i = 2 ∨ i = 3 ∨ i = 4 ∨ i = 5 ∨ i = 6 ∨ i = 7 ∨ i = 8 ∨ i = 9 ∨ i = 10 ∨ i = 11 ∨ i = 12 ∨ i = 13 ∨ i = 14 ∨ i = 15 ∨ i = 16 ∨ i = 17 ∨ i = 18 := by omega
          rcases hcs with rfl | rfl | rfl | rfl | rfl | rfl | rfl | rfl | rfl | rfl | rfl | rfl | rfl | rfl | rfl | rfl | rfl | rfl | rfl
          · injection ho with ho
            subst ho
            refine .inl ⟨wanted_none rfl, ?_⟩
            have e1 : ac.eval (.tmp 7) = .bool true := hf 7 (by kernel_rfl)
            exact opG_val (by simp [execOp, e1]) rfl (Chg.refl _)
          · injection ho with ho
            subst ho
            refine .inl ⟨wanted_none rfl, ?_⟩
            have e1 : ac.eval (.tmp 29) = .bool true := hg 0 (by kernel_rfl) (by decide)
            exact opG_val (by simp [execOp, e1]) rfl (Chg.refl _)
          · injection ho with ho
            subst ho
            refine .inl ⟨wanted_by (T := _) (by kernel_rfl) hsz rfl (by decide : 1 < 19) rfl (hg 1 (by kernel_rfl) (by decide)), ?_⟩
            have e1 : ac.eval (.tmp 3) = .pointer (some ⟨w.heap.size, 0, none⟩) := hf 3 (by kernel_rfl)
            exact wp_load_mid 22 (.tmp 3) rfl _ _ e1 ((ba 32 key).toList) _ (rangeA (Ar.chg (w := w6.drew) Z6.out.2.1 hc)) und22 rfl (info32 _) ⟨_, rfl, rfl, Chg.refl _⟩
          · injection ho with ho
            subst ho
            refine .inl ⟨wanted_by (T := _) (by kernel_rfl) hsz rfl (by decide : 1 < 19) rfl (hg 1 (by kernel_rfl) (by decide)), ?_⟩
            have e1 : ac.eval (.tmp 1) = .slice ao n cap := hf 1 (by kernel_rfl)
            exact opG_val (by simp [execOp, e1]) rfl (Chg.refl _)
          · injection ho with ho
            subst ho
            refine .inl ⟨wanted_by (T := _) (by kernel_rfl) hsz rfl (by decide : 1 < 19) rfl (hg 1 (by kernel_rfl) (by decide)), ?_⟩
            have e1 : ac.eval (.tmp 31) = .agg (ba 32 key) := hg 2 (by kernel_rfl) (by decide)
            have e2 : ac.eval (.tmp 32) = .slice ao n cap := hg 3 (by kernel_rfl) (by decide)
            refine opG_go 13 Try.f13 #[.tmp 31, .tmp 32] #[22, 25] rfl Try.func13 (by kernel_rfl) (by kernel_rfl) (by simp [e1, e2]) (Calls.mono (poly_any n cap ao key txt _ (Rd.chg HX.out.1 (Z6.out.1.drew.trans hc)) (Nat.le_trans HX.out.2 (by decide))) ?_)
            rintro e u2 ⟨rfl, h2⟩
            exact ⟨_, rfl, rfl, h2⟩
          · injection ho with ho
            subst ho
            refine .inl ⟨wanted_by (T := _) (by kernel_rfl) hsz rfl (by decide : 1 < 19) rfl (hg 1 (by kernel_rfl) (by decide)), ?_⟩
            have e1 : ac.eval (.tmp 3) = .pointer (some ⟨w.heap.size, 0, none⟩) := hf 3 (by kernel_rfl)
            exact wp_load_mid 22 (.tmp 3) rfl _ _ e1 ((ba 32 key).toList) _ (rangeA (Ar.chg (w := w6.drew) Z6.out.2.1 hc)) und22 rfl (info32 _) ⟨_, rfl, rfl, Chg.refl _⟩
          · injection ho with ho
            subst ho
            refine .inl ⟨wanted_by (T := _) (by kernel_rfl) hsz rfl (by decide : 1 < 19) rfl (hg 1 (by kernel_rfl) (by decide)), ?_⟩
            have e1 : ac.eval (.tmp 1) = .slice ao n cap := hf 1 (by kernel_rfl)
            exact opG_val (by simp [execOp, e1]) rfl (Chg.refl _)
          · injection ho with ho
            subst ho
            refine .inl ⟨wanted_by (T := _) (by kernel_rfl) hsz rfl (by decide : 1 < 19) rfl (hg 1 (by kernel_rfl) (by decide)), ?_⟩
            have e1 : ac.eval (.tmp 34) = .agg (ba 32 key) := hg 5 (by kernel_rfl) (by decide)
            have e2 : ac.eval (.tmp 35) = .slice ao n cap := hg 6 (by kernel_rfl) (by decide)
            refine opG_go 14 Try.f14 #[.tmp 34, .tmp 35] #[22, 25] rfl Try.func14 (by kernel_rfl) (by kernel_rfl) (by simp [e1, e2]) (Calls.mono (refPoly_any n cap ao key txt _ (Rd.chg HX.out.1 (Z6.out.1.drew.trans hc)) (Nat.le_trans HX.out.2 (by decide))) ?_)
            rintro e u2 ⟨rfl, h2⟩
            exact ⟨_, rfl, rfl, h2⟩
          · injection ho with ho
            subst ho
            refine .inl ⟨wanted_by (T := _) (by kernel_rfl) hsz rfl (by decide : 1 < 19) rfl (hg 1 (by kernel_rfl) (by decide)), ?_⟩
            have e1 : ac.eval (.tmp 33) = .agg (ba 16 (polF key txt n)) := hg 4 (by kernel_rfl) (by decide)
            have e2 : ac.eval (.tmp 36) = .agg (ba 16 (polF key txt n)) := hg 7 (by kernel_rfl) (by decide)
            exact opG_val (by revert e1 e2; generalize ac.eval = ρ; intro e1 e2; simp [go_sem, execOp, e1, e2, run_eq16]) rfl (Chg.refl _)
          · injection ho with ho
            subst ho
            refine .inl ⟨wanted_none rfl, ?_⟩
            have e1 : ac.eval (.tmp 30) = .bool true := hg 1 (by kernel_rfl) (by decide)
            have e2 : ac.eval (.tmp 37) = .bool true := hg 8 (by kernel_rfl) (by decide)
            have e3 : ac.eval (.const (.bool false)) = .bool false := rfl
            exact opG_val (by revert e1 e2 e3; generalize ac.eval = ρ; intro e1 e2 e3; simp [go_sem, execOp, e1, e2, e3]) rfl (Chg.refl _)
          · injection ho with ho
            subst ho
            refine .inl ⟨wanted_none rfl, ?_⟩
            have e1 : ac.eval (.tmp 38) = .bool true := hg 9 (by kernel_rfl) (by decide)
            exact opG_val (by simp [execOp, e1]) rfl (Chg.refl _)
          · injection ho with ho
            subst ho
            refine .inl ⟨wanted_by (T := _) (by kernel_rfl) hsz rfl (by decide : 10 < 19) rfl (hg 10 (by kernel_rfl) (by decide)), ?_⟩
            have e1 : ac.eval (.tmp 3) = .pointer (some ⟨w.heap.size, 0, none⟩) := hf 3 (by kernel_rfl)
            exact wp_load_mid 22 (.tmp 3) rfl _ _ e1 ((ba 32 key).toList) _ (rangeA (Ar.chg (w := w6.drew) Z6.out.2.1 hc)) und22 rfl (info32 _) ⟨_, rfl, rfl, Chg.refl _⟩
          · injection ho with ho
            subst ho
            refine .inl ⟨wanted_by (T := _) (by kernel_rfl) hsz rfl (by decide : 10 < 19) rfl (hg 10 (by kernel_rfl) (by decide)), ?_⟩
            have e1 : ac.eval (.tmp 8) = .slice oo n oc := hf 8 (by kernel_rfl)
            exact opG_val (by simp [execOp, e1]) rfl (Chg.refl _)
          · injection ho with ho
            subst ho
            refine .inl ⟨wanted_by (T := _) (by kernel_rfl) hsz rfl (by decide : 10 < 19) rfl (hg 10 (by kernel_rfl) (by decide)), ?_⟩
            have e1 : ac.eval (.tmp 40) = .agg (ba 32 key) := hg 11 (by kernel_rfl) (by decide)
            have e2 : ac.eval (.tmp 41) = .slice oo n oc := hg 12 (by kernel_rfl) (by decide)
            refine opG_go 13 Try.f13 #[.tmp 40, .tmp 41] #[22, 25] rfl Try.func13 (by kernel_rfl) (by kernel_rfl) (by simp [e1, e2]) (Calls.mono (poly_any n oc oo key F _ (Rd.chg (w := w6.drew) (Ap.Rd.drew Z6.out.2.2) hc) (Nat.le_trans HX.out.2 (by decide))) ?_)
            rintro e u2 ⟨rfl, h2⟩
            exact ⟨_, rfl, rfl, h2⟩
          · injection ho with ho
            subst ho
            refine .inl ⟨wanted_by (T := _) (by kernel_rfl) hsz rfl (by decide : 10 < 19) rfl (hg 10 (by kernel_rfl) (by decide)), ?_⟩
            have e1 : ac.eval (.tmp 3) = .pointer (some ⟨w.heap.size, 0, none⟩) := hf 3 (by kernel_rfl)
            exact wp_load_mid 22 (.tmp 3) rfl _ _ e1 ((ba 32 key).toList) _ (rangeA (Ar.chg (w := w6.drew) Z6.out.2.1 hc)) und22 rfl (info32 _) ⟨_, rfl, rfl, Chg.refl _⟩
          · injection ho with ho
            subst ho
            refine .inl ⟨wanted_by (T := _) (by kernel_rfl) hsz rfl (by decide : 10 < 19) rfl (hg 10 (by kernel_rfl) (by decide)), ?_⟩
            have e1 : ac.eval (.tmp 8) = .slice oo n oc := hf 8 (by kernel_rfl)
            exact opG_val (by simp [execOp, e1]) rfl (Chg.refl _)
          · injection ho with ho
            subst ho
            refine .inl ⟨wanted_by (T := _) (by kernel_rfl) hsz rfl (by decide : 10 < 19) rfl (hg 10 (by kernel_rfl) (by decide)), ?_⟩
            have e1 : ac.eval (.tmp 43) = .agg (ba 32 key) := hg 14 (by kernel_rfl) (by decide)
            have e2 : ac.eval (.tmp 44) = .slice oo n oc := hg 15 (by kernel_rfl) (by decide)
            refine opG_go 14 Try.f14 #[.tmp 43, .tmp 44] #[22, 25] rfl Try.func14 (by kernel_rfl) (by kernel_rfl) (by simp [e1, e2]) (Calls.mono (refPoly_any n oc oo key F _ (Rd.chg (w := w6.drew) (Ap.Rd.drew Z6.out.2.2) hc) (Nat.le_trans HX.out.2 (by decide))) ?_)
            rintro e u2 ⟨rfl, h2⟩
            exact ⟨_, rfl, rfl, h2⟩
          · injection ho with ho
            subst ho
            refine .inl ⟨wanted_by (T := _) (by kernel_rfl) hsz rfl (by decide : 10 < 19) rfl (hg 10 (by kernel_rfl) (by decide)), ?_⟩
            have e1 : ac.eval (.tmp 42) = .agg (ba 16 (polF key F n)) := hg 13 (by kernel_rfl) (by decide)
            have e2 : ac.eval (.tmp 45) = .agg (ba 16 (polF key F n)) := hg 16 (by kernel_rfl) (by decide)
            exact opG_val (by revert e1 e2; generalize ac.eval = ρ; intro e1 e2; simp [go_sem, execOp, e1, e2, run_eq16]) rfl (Chg.refl _)
          · injection ho with ho
            subst ho
            refine .inl ⟨wanted_none rfl, ?_⟩
            have e1 : ac.eval (.tmp 39) = .bool true := hg 10 (by kernel_rfl) (by decide)
            have e2 : ac.eval (.tmp 46) = .bool true := hg 17 (by kernel_rfl) (by decide)
            have e3 : ac.eval (.const (.bool false)) = .bool false := rfl
            exact opG_val (by revert e1 e2 e3; generalize ac.eval = ρ; intro e1 e2 e3; simp [go_sem, execOp, e1, e2, e3]) rfl (Chg.refl _)
        · intro o u V ho hV hc
          injection ho with ho
          subst ho
          refine ⟨rfl, ?_⟩
          have q29 : V 0 = .bool true := hV 0 (by decide)
          have q30 : V 1 = .bool true := hV 1 (by decide)
          have q31 : V 2 = .agg (ba 32 key) := hV 2 (by decide)
          have q32 : V 3 = .slice ao n cap := hV 3 (by decide)
          have q33 : V 4 = .agg (ba 16 (polF key txt n)) := hV 4 (by decide)
          have q34 : V 5 = .agg (ba 32 key) := hV 5 (by decide)
          have q35 : V 6 = .slice ao n cap := hV 6 (by decide)
          have q36 : V 7 = .agg (ba 16 (polF key txt n)) := hV 7 (by decide)
          have q37 : V 8 = .bool true := hV 8 (by decide)
          have q38 : V 9 = .bool true := hV 9 (by decide)
          have q39 : V 10 = .bool true := hV 10 (by decide)
          have q40 : V 11 = .agg (ba 32 key) := hV 11 (by decide)
          have q41 : V 12 = .slice oo n oc := hV 12 (by decide)
          have q42 : V 13 = .agg (ba 16 (polF key F n)) := hV 13 (by decide)
          have q43 : V 14 = .agg (ba 32 key) := hV 14 (by decide)
          have q44 : V 15 = .slice oo n oc := hV 15 (by decide)
          have q45 : V 16 = .agg (ba 16 (polF key F n)) := hV 16 (by decide)
          have q46 : V 17 = .bool true := hV 17 (by decide)
          have q47 : V 18 = .bool true := hV 18 (by decide)
          refine op_val1 (v := .bool true) (by rw [← q47]; rfl) ?_
          go_wp2_with fail
          go_ret
          exact ⟨rfl, Z6.out.1.drew.trans hc⟩
      · have hd1 : decide ((i : Int) < n) = false := by simp; omega
        go_upto_region 7 with fail
        refine wp_region_good 19 (fun j v wg => match j with
          | 0 => v = .bool true
          | 1 => v = .bool true
          | 2 => v = .agg (ba 32 key)
          | 3 => v = .slice ao n cap
          | 4 => v = .agg (ba 16 (polF key txt n))
          | 5 => v = .agg (ba 32 key)
          | 6 => v = .slice ao n cap
          | 7 => v = .agg (ba 16 (polF key txt n))
          | 8 => v = .bool true
          | 9 => v = .bool true
          | 10 => v = .bool true
          | 11 => v = .agg (ba 32 key)
          | 12 => v = .slice oo n oc
          | 13 => v = .agg (ba 16 (polF key F n))
          | 14 => v = .agg (ba 32 key)
          | 15 => v = .slice oo n oc
          | 16 => v = .agg (ba 16 (polF key F n))
          | 17 => v = .bool true
          | 18 => v = .bool true
          | _ => True) (by kernel_rfl) (by kernel_rfl) (by kernel_rfl) (by kernel_rfl) (by kernel_rfl) ?_ ?_ ?_
        · intro j v u1 u2 h hc
          match j, h with
          | 0, h => exact h
          | 1, h => exact h
          | 2, h => exact h
          | 3, h => exact h
          | 4, h => exact h
          | 5, h => exact h
          | 6, h => exact h
          | 7, h => exact h
          | 8, h => exact h
          | 9, h => exact h
          | 10, h => exact h
          | 11, h => exact h
          | 12, h => exact h
          | 13, h => exact h
          | 14, h => exact h
          | 15, h => exact h
          | 16, h => exact h
          | 17, h => exact h
          | 18, h => exact h
          | _ + 19, h => exact trivial
        · intro i o ac u hi ho hsz hf hg hc
          have hcs : i = 0 ∨ i = 1 ∨ i = 2 ∨ i = 3 ∨ i = 4 ∨ i = 5 ∨ i = 6 ∨ i = 7 ∨ i = 8 ∨ i = 9 ∨ i = 10 ∨ i = 11 ∨ i = 12 ∨ i = 13 ∨ i = 14 ∨ i = 15 ∨ i = 16 ∨ i = 17 ∨ i = 18 := by omega
          rcases hcs with rfl | rfl | rfl | rfl | rfl | rfl | rfl | rfl | rfl | rfl | rfl | rfl | rfl | rfl | rfl | rfl | rfl | rfl | rfl
          · injection ho with ho
            subst ho
            refine .inl ⟨wanted_none rfl, ?_⟩
            have e1 : ac.eval (.tmp 7) = .bool true := hf 7 (by kernel_rfl)
            exact opG_val (by simp [execOp, e1]) rfl (Chg.refl _)
          · injection ho with ho
            subst ho
            refine .inl ⟨wanted_none rfl, ?_⟩
            have e1 : ac.eval (.tmp 29) = .bool true := hg 0 (by kernel_rfl) (by decide)
            exact opG_val (by simp [execOp, e1]) rfl (Chg.refl _)
          · injection ho with ho
            subst ho
            refine .inl ⟨wanted_by (T := _) (by kernel_rfl) hsz rfl (by decide : 1 < 19) rfl (hg 1 (by kernel_rfl) (by decide)), ?_⟩
            have e1 : ac.eval (.tmp 3) = .pointer (some ⟨w.heap.size, 0, none⟩) := hf 3 (by kernel_rfl)
            exact wp_load_mid 22 (.tmp 3) rfl _ _ e1 ((ba 32 key).toList) _ (rangeA (Ar.chg (w := w6.drew) Z6.out.2.1 hc)) und22 rfl (info32 _) ⟨_, rfl, rfl, Chg.refl _⟩
          · injection ho with ho
            subst ho
            refine .inl ⟨wanted_by (T := _) (by kernel_rfl) hsz rfl (by decide : 1 < 19) rfl (hg 1 (by kernel_rfl) (by decide)), ?_⟩
            have e1 : ac.eval (.tmp 1) = .slice ao n cap := hf 1 (by kernel_rfl)
            exact opG_val (by simp [execOp, e1]) rfl (Chg.refl _)
          · injection ho with ho
            subst ho
            refine .inl ⟨wanted_by (T := _) (by kernel_rfl) hsz rfl (by decide : 1 < 19) rfl (hg 1 (by kernel_rfl) (by decide)), ?_⟩
            have e1 : ac.eval (.tmp 31) = .agg (ba 32 key) := hg 2 (by kernel_rfl) (by decide)
            have e2 : ac.eval (.tmp 32) = .slice ao n cap := hg 3 (by kernel_rfl) (by decide)
            refine opG_go 13 Try.f13 #[.tmp 31, .tmp 32] #[22, 25] rfl Try.func13 (by kernel_rfl) (by kernel_rfl) (by simp [e1, e2]) (Calls.mono (poly_any n cap ao key txt _ (Rd.chg HX.out.1 (Z6.out.1.drew.trans hc)) (Nat.le_trans HX.out.2 (by decide))) ?_)
            rintro e u2 ⟨rfl, h2⟩
            exact ⟨_, rfl, rfl, h2⟩
          · injection ho with ho
            subst ho
            refine .inl ⟨wanted_by (T := _) (by kernel_rfl) hsz rfl (by decide : 1 < 19) rfl (hg 1 (by kernel_rfl) (by decide)), ?_⟩
            have e1 : ac.eval (.tmp 3) = .pointer (some ⟨w.heap.size, 0, none⟩) := hf 3 (by kernel_rfl)
            exact wp_load_mid 22 (.tmp 3) rfl _ _ e1 ((ba 32 key).toList) _ (rangeA (Ar.chg (w := w6.drew) Z6.out.2.1 hc)) und22 rfl (info32 _) ⟨_, rfl, rfl, Chg.refl _⟩
          · injection ho with ho
            subst ho
            refine .inl ⟨wanted_by (T := _) (by kernel_rfl) hsz rfl (by decide : 1 < 19) rfl (hg 1 (by kernel_rfl) (by decide)), ?_⟩
            have e1 : ac.eval (.tmp 1) = .slice ao n cap := hf 1 (by kernel_rfl)
            exact opG_val (by simp [execOp, e1]) rfl (Chg.refl _)
          · injection ho with ho
            subst ho
            refine .inl ⟨wanted_by (T := _) (by kernel_rfl) hsz rfl (by decide : 1 < 19) rfl (hg 1 (by kernel_rfl) (by decide)), ?_⟩
            have e1 : ac.eval (.tmp 34) = .agg (ba 32 key) := hg 5 (by kernel_rfl) (by decide)
            have e2 : ac.eval (.tmp 35) = .slice ao n cap := hg 6 (by kernel_rfl) (by decide)
            refine opG_go 14 Try.f14 #[.tmp 34, .tmp 35] #[22, 25] rfl Try.func14 (by kernel_rfl) (by kernel_rfl) (by simp [e1, e2]) (Calls.mono (refPoly_any n cap ao key txt _ (Rd.chg HX.out.1 (Z6.out.1.drew.trans hc)) (Nat.le_trans HX.out.2 (by decide))) ?_)
            rintro e u2 ⟨rfl, h2⟩
            exact ⟨_, rfl, rfl, h2⟩
          · injection ho with ho
            subst ho
            refine .inl ⟨wanted_by (T := _) (by kernel_rfl) hsz rfl (by decide : 1 < 19) rfl (hg 1 (by kernel_rfl) (by decide)), ?_⟩
            have e1 : ac.eval (.tmp 33) = .agg (ba 16 (polF key txt n)) := hg 4 (by kernel_rfl) (by decide)
            have e2 : ac.eval (.tmp 36) = .agg (ba 16 (polF key txt n)) := hg 7 (by kernel_rfl) (by decide)
            exact opG_val (by revert e1 e2; generalize ac.eval = ρ; intro e1 e2; simp [go_sem, execOp, e1, e2, run_eq16]) rfl (Chg.refl _)
          · injection ho with ho
            subst ho
            refine .inl ⟨wanted_none rfl, ?_⟩
            have e1 : ac.eval (.tmp 30) = .bool true := hg 1 (by kernel_rfl) (by decide)
            have e2 : ac.eval (.tmp 37) = .bool true := hg 8 (by kernel_rfl) (by decide)
            have e3 : ac.eval (.const (.bool false)) = .bool false := rfl
            exact opG_val (by revert e1 e2 e3; generalize ac.eval = ρ; intro e1 e2 e3; simp [go_sem, execOp, e1, e2, e3]) rfl (Chg.refl _)
          · injection ho with ho
            subst ho
            refine .inl ⟨wanted_none rfl, ?_⟩
            have e1 : ac.eval (.tmp 38) = .bool true := hg 9 (by kernel_rfl) (by decide)
            exact opG_val (by simp [execOp, e1]) rfl (Chg.refl _)
          · injection ho with ho
            subst ho
            refine .inl ⟨wanted_by (T := _) (by kernel_rfl) hsz rfl (by decide : 10 < 19) rfl (hg 10 (by kernel_rfl) (by decide)), ?_⟩
            have e1 : ac.eval (.tmp 3) = .pointer (some ⟨w.heap.size, 0, none⟩) := hf 3 (by kernel_rfl)
            exact wp_load_mid 22 (.tmp 3) rfl _ _ e1 ((ba 32 key).toList) _ (rangeA (Ar.chg (w := w6.drew) Z6.out.2.1 hc)) und22 rfl (info32 _) ⟨_, rfl, rfl, Chg.refl _⟩
          · injection ho with ho
            subst ho
            refine .inl ⟨wanted_by (T := _) (by kernel_rfl) hsz rfl (by decide : 10 < 19) rfl (hg 10 (by kernel_rfl) (by decide)), ?_⟩
            have e1 : ac.eval (.tmp 8) = .slice oo n oc := hf 8 (by kernel_rfl)
            exact opG_val (by simp [execOp, e1]) rfl (Chg.refl _)
          · injection ho with ho
            subst ho
            refine .inl ⟨wanted_by (T := _) (by kernel_rfl) hsz rfl (by decide : 10 < 19) rfl (hg 10 (by kernel_rfl) (by decide)), ?_⟩
            have e1 : ac.eval (.tmp 40) = .agg (ba 32 key) := hg 11 (by kernel_rfl) (by decide)
            have e2 : ac.eval (.tmp 41) = .slice oo n oc := hg 12 (by kernel_rfl) (by decide)
            refine opG_go 13 Try.f13 #[.tmp 40, .tmp 41] #[22, 25] rfl Try.func13 (by kernel_rfl) (by kernel_rfl) (by simp [e1, e2]) (Calls.mono (poly_any n oc oo key F _ (Rd.chg (w := w6.drew) (Ap.Rd.drew Z6.out.2.2) hc) (Nat.le_trans HX.out.2 (by decide))) ?_)
            rintro e u2 ⟨rfl, h2⟩
            exact ⟨_, rfl, rfl, h2⟩
          · injection ho with ho
            subst ho
            refine .inl ⟨wanted_by (T := _) (by kernel_rfl) hsz rfl (by decide : 10 < 19) rfl (hg 10 (by kernel_rfl) (by decide)), ?_⟩
            have e1 : ac.eval (.tmp 3) = .pointer (some ⟨w.heap.size, 0, none⟩) := hf 3 (by kernel_rfl)
            exact wp_load_mid 22 (.tmp 3) rfl _ _ e1 ((ba 32 key).toList) _ (rangeA (Ar.chg (w := w6.drew) Z6.out.2.1 hc)) und22 rfl (info32 _) ⟨_, rfl, rfl, Chg.refl _⟩
          · injection ho with ho
            subst ho
            refine .inl ⟨wanted_by (T := _) (by kernel_rfl) hsz rfl (by decide : 10 < 19) rfl (hg 10 (by kernel_rfl) (by decide)), ?_⟩
            have e1 : ac.eval (.tmp 8) = .slice oo n oc := hf 8 (by kernel_rfl)
            exact opG_val (by simp [execOp, e1]) rfl (Chg.refl _)
          · injection ho with ho
            subst ho
            refine .inl ⟨wanted_by (T := _) (by kernel_rfl) hsz rfl (by decide : 10 < 19) rfl (hg 10 (by kernel_rfl) (by decide)), ?_⟩
            have e1 : ac.eval (.tmp 43) = .agg (ba 32 key) := hg 14 (by kernel_rfl) (by decide)
            have e2 : ac.eval (.tmp 44) = .slice oo n oc := hg 15 (by kernel_rfl) (by decide)
            refine opG_go 14 Try.f14 #[.tmp 43, .tmp 44] #[22, 25] rfl Try.func14 (by kernel_rfl) (by kernel_rfl) (by simp [e1, e2]) (Calls.mono (refPoly_any n oc oo key F _ (Rd.chg (w := w6.drew) (Ap.Rd.drew Z6.out.2.2) hc) (Nat.le_trans HX.out.2 (by decide))) ?_)
            rintro e u2 ⟨rfl, h2⟩
            exact ⟨_, rfl, rfl, h2⟩
          · injection ho with ho
            subst ho
            refine .inl ⟨wanted_by (T := _) (by kernel_rfl) hsz rfl (by decide : 10 < 19) rfl (hg 10 (by kernel_rfl) (by decide)), ?_⟩
            have e1 : ac.eval (.tmp 42) = .agg (ba 16 (polF key F n)) := hg 13 (by kernel_rfl) (by decide)
            have e2 : ac.eval (.tmp 45) = .agg (ba 16 (polF key F n)) := hg 16 (by kernel_rfl) (by decide)
            exact opG_val (by revert e1 e2; generalize ac.eval = ρ; intro e1 e2; simp [go_sem, execOp, e1, e2, run_eq16]) rfl (Chg.refl _)
          · injection ho with ho
            subst ho
            refine .inl ⟨wanted_none rfl, ?_⟩
            have e1 : ac.eval (.tmp 39) = .bool true := hg 10 (by kernel_rfl) (by decide)
            have e2 : ac.eval (.tmp 46) = .bool true := hg 17 (by kernel_rfl) (by decide)
            have e3 : ac.eval (.const (.bool false)) = .bool false := rfl
            exact opG_val (by revert e1 e2 e3; generalize ac.eval = ρ; intro e1 e2 e3; simp [go_sem, execOp, e1, e2, e3]) rfl (Chg.refl _)
        · intro o u V ho hV hc
          injection ho with ho
          subst ho
          refine ⟨rfl, ?_⟩
          have q29 : V 0 = .bool true := hV 0 (by decide)
          have q30 : V 1 = .bool true := hV 1 (by decide)
          have q31 : V 2 = .agg (ba 32 key) := hV 2 (by decide)
          have q32 : V 3 = .slice ao n cap := hV 3 (by decide)
          have q33 : V 4 = .agg (ba 16 (polF key txt n)) := hV 4 (by decide)
          have q34 : V 5 = .agg (ba 32 key) := hV 5 (by decide)
          have q35 : V 6 = .slice ao n cap := hV 6 (by decide)
          have q36 : V 7 = .agg (ba 16 (polF key txt n)) := hV 7 (by decide)
          have q37 : V 8 = .bool true := hV 8 (by decide)
          have q38 : V 9 = .bool true := hV 9 (by decide)
          have q39 : V 10 = .bool true := hV 10 (by decide)
          have q40 : V 11 = .agg (ba 32 key) := hV 11 (by decide)
          have q41 : V 12 = .slice oo n oc := hV 12 (by decide)
          have q42 : V 13 = .agg (ba 16 (polF key F n)) := hV 13 (by decide)
          have q43 : V 14 = .agg (ba 32 key) := hV 14 (by decide)
          have q44 : V 15 = .slice oo n oc := hV 15 (by decide)
          have q45 : V 16 = .agg (ba 16 (polF key F n)) := hV 16 (by decide)
          have q46 : V 17 = .bool true := hV 17 (by decide)
          have q47 : V 18 = .bool true := hV 18 (by decide)
          refine op_val1 (v := .bool true) (by rw [← q47]; rfl) ?_
          go_wp2_with fail
          go_ret
          exact ⟨rfl, Z6.out.1.drew.trans hc⟩
theorem codes_any (n : Nat) (key txt : Nat → By) (y : Int) (hy : 0 ≤ y ∧ y < 256) (v : Value) (w : World) (hv : Ap.Rd w v (nums n txt)) (hn : n ≤ 140737488351232) : Calls Try.prog 4 #[.agg (ba 32 key), v, .int .u8 y] w fun e w' => e = .returned (.bool true) ∧ Chg w w' := by
  obtain ⟨ao, m, c2, rfl, hm, -⟩ := hv.shape
  rw [nums_len] at hm
  subst hm
  obtain ⟨k, rfl⟩ := Int.eq_ofNat_of_zero_le hy.1
  exact codes_walk m c2 k ao key txt w hv hn (by omega)
end Go.Proofs.Ytkdidacebfkdmaa
