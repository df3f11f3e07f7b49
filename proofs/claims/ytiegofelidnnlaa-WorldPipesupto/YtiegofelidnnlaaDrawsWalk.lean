/-
  The walk of WorldDraws: it returns true, and writes nothing that was there.
-/
import Derived.Test.YtiegofelidnnlaaRefRead
namespace Go.Proofs.Ytiegofelidnnlaa
open Go.RowKit
set_option linter.unusedVariables false

/-- One byte of a row of our own is written. -/
theorem Own.set {w : World} {g off n cap : Nat} {xs : List Int} (h : Own w g off n cap xs) (j : Nat) (hj : j < n) (b : Int) : Own (w.setCell ⟨g, off + j, none⟩ (.int .u8 b)) g off n cap (xs.set j b) := by
  obtain ⟨cur, hg, hs, ht⟩ := h.blk
  have hle := h.le
  refine ⟨by simpa using h.len, h.le, h.mx, _, heap_setCell_at w g (off + j) _ cur 5 hg, by simpa using hs, ?_⟩
  rw [Array.toList_setIfInBounds, List.drop_set]
  rw [if_neg (by omega), Nat.add_sub_cancel_left, List.take_set, ht, List.map_set]

theorem Own.free {w : World} {g off n cap : Nat} {xs : List Int} (h : Own w g off n cap xs) (o : Nat) : w.frozen? ⟨g, o, none⟩ = false := by
  obtain ⟨cur, hg, hs, ht⟩ := h.blk
  simp [World.frozen?, hg]

theorem Own.at {w : World} {g off n cap : Nat} {xs : List Int} (h : Own w g off n cap xs) (j : Nat) (hj : j < n) : ∃ b, w.cell? ⟨g, off + j, none⟩ = some (.int .u8 b) := by
  have := h.len
  exact ⟨xs[j], h.cell j _ (by simp)⟩

/-- Both sources, as far as they have come. -/
structure Both (w : World) (r1 r2 : Nat) (S : List Int × Int) (wr : World) (d : Nat) (va b1 b2 : Value) (f l : List Int) (st : Int) : Prop where
  a : RandA wr r1 va (draw d S).2.1 (draw d S).2.2
  b : RandB wr r2 b1 b2 f l st
  all : (draw d S).2 = (f ++ l, st)
  sep : ∀ q, va.ownBlock = some q → b2.ownBlock ≠ some q
  own : va.ownBlock ≠ some r1
  own2 : va.ownBlock ≠ some r2
  new1 : w.heap.size ≤ r1
  new2 : w.heap.size ≤ r2
  new3 : ∀ q, b2.ownBlock = some q → w.heap.size ≤ q
  chg : Chg Non w wr

/-- What one piece leaves. -/
theorem both_step {w : World} {r1 r2 : Nat} {S : List Int × Int} {wr w6 w7 w8 : World} {d N g : Nat} {va b1 b2 va' y p1 p2 : Value} {f l f' l' : List Int} {st st' : Int} (h : Both w r1 r2 S wr d va b1 b2 f l st)
    (hR6 : RandA w6 r1 va' (draw N (draw d S).2).2.1 (draw N (draw d S).2).2.2) (hc6 : Chg (One r1) wr w6) (hg : wr.heap.size ≤ g) (hgl : g < w6.heap.size) (hv1 : va'.ownBlock ≠ some r1) (hv2 : va'.ownBlock ≠ some g) (hv3 : ∀ k, va'.ownBlock = some k → va.ownBlock = some k ∨ wr.heap.size ≤ k)
    (hB : ReadB w6 r2 b1 b2 (f ++ l, st) w7 N y p1 p2 f' l' st') (hc8 : Chg (One g) w7 w8) : Both w r1 r2 S w8 (d + N) va' p1 p2 f' l' st' := by
  have hne12 : r1 ≠ r2 := fun e => by
    have := h.a.1; rw [e, h.b.blk] at this; simp at this
  have hr1 := h.a.lt
  have hr2 := h.b.lt
  have hb1lt := h.b.one.lt
  have hb2lt := h.b.two.lt
  have hs6 := hc6.size
  have hs7 := hB.chg.size
  have hsw := h.chg.size
  have hA7 : RandA w7 r1 va' (draw N (draw d S).2).2.1 (draw N (draw d S).2).2.2 := by
    refine hR6.kept hB.chg (fun e => ?_) (fun k e e' => ?_)
    · rcases e with e | e
      · exact hne12 e
      · exact h.b.two.ne h.a.1 (by decide) e
    · rcases e' with e' | e'
      · subst e'
        rcases hv3 _ e with e2 | e2
        · exact h.own2 e2
        · omega
      · rcases hv3 _ e with e2 | e2
        · exact h.sep _ e2 e'
        · have := hb2lt _ e'; omega
  have hp2 : ∀ q, p2.ownBlock = some q → b2.ownBlock = some q ∨ w6.heap.size ≤ q := by
    intro q e
    rcases hB.two with h | h
    · rw [h] at e; exact .inl e
    · exact .inr (h q e)
  refine ⟨?_, ?_, ?_, ?_, hv1, ?_, h.new1, h.new2, ?_, ?_⟩
  · rw [draw_add]
    exact hA7.kept hc8 (fun e => by cases e; omega) (fun k e e' => by cases e'; exact hv2 e)
  · refine hB.src.kept hc8 (fun e => by cases e; omega) (fun k e e' => ?_) (fun k e e' => ?_)
    · cases e'
      rw [hB.one] at e
      have := hb1lt _ e
      omega
    · cases e'
      rcases hp2 _ e with e | e
      · have := hb2lt _ e; omega
      · omega
  · rw [draw_add, h.all]; exact hB.all
  · intro q e e'
    rcases hp2 q e' with e2 | e2
    · rcases hv3 q e with e3 | e3
      · exact h.sep q e3 e2
      · have := hb2lt _ e2; omega
    · have := hR6.2.lt q e; omega
  · intro e
    rcases hv3 _ e with e2 | e2
    · exact h.own2 e2
    · omega
  · intro q e
    rcases hp2 q e with e2 | e2
    · exact h.new3 q e2
    · omega
  · refine ((h.chg.trans hc6 (fun i hi e => ?_)).trans hB.chg (fun i hi e => ?_)).trans hc8 (fun i hi e => ?_)
    · cases e; have := h.new1; omega
    · rcases e with e | e
      · cases e; have := h.new2; omega
      · have := h.new3 i e; omega
    · cases e; omega

set_option maxHeartbeats 2000000 in
theorem draws_walk (ad : Option Addr) (len cap : Nat) (xs : List Int) (st : Int) (a2 : Option Addr) (len2 cap2 : Nat) (zs : List Int) (w : World) (hv : Rd w (.slice ad len cap) xs) (hl : xs.length ≤ 140737488351232) (hl2 : len2 ≤ 9223372036854775807)
    (hp : ∀ j, j < len2 → ∃ b off, a2 = some ⟨b, off, none⟩ ∧ b < w.heap.size ∧ w.cell? ⟨b, off + j, none⟩ = some (.int .i64 (zs.getD j 0)) ∧ -9223372036854775808 ≤ zs.getD j 0 ∧ zs.getD j 0 ≤ 9223372036854775807) :
    Calls Try.prog 4 #[.slice ad len cap, .int .u64 st, .slice a2 len2 cap2] w fun e w' => e = .returned (.bool true) ∧ Below w.heap.size w w' := by
  have HV : Hid (Rd w (.slice ad len cap) xs) := hv
  have HP : Hid (∀ j, j < len2 → ∃ b off, a2 = some ⟨b, off, none⟩ ∧ b < w.heap.size ∧ w.cell? ⟨b, off + j, none⟩ = some (.int .i64 (zs.getD j 0)) ∧ -9223372036854775808 ≤ zs.getD j 0 ∧ zs.getD j 0 ≤ 9223372036854775807) := hp
  clear hv hp
  go_enter Try.func4, Try.ntmps4
  go_wp2_with fail
  refine (head_any _).mono ?_
  rintro e w1 ⟨rfl, hc1⟩
  have HC1 : Hid (Chg Non w w1) := hc1
  have hs1 := hc1.size
  clear hc1
  go_wp2_with (at_builtin; refine wpList_app _ rfl (.tmp 18) (.tmp 19) rfl _ _ [] xs rfl rfl (OwnV.empty w1) ((rd_first HV.out HC1.out).alloc _) (by simp; omega) ?hkk)
  case hkk =>
    intro v' w2 ho2 hc2 hb2
    have HC2 : Hid (Chg Non w w2) := (HC1.out.alloc _).trans hc2 (fun i hi e => by simp [Value.ownBlock] at e; omega)
    have hs2 := HC2.out.size
    have hnew : ∀ k, v'.ownBlock = some k → w.heap.size ≤ k := by
      intro k e
      rcases hb2 with h | h <;> rw [h] at e <;> simp [Value.ownBlock] at e <;> omega
    obtain ⟨ao, no, co, rfl, hno, hnoc, hnom⟩ := ho2.rd.shape
    have HO2 : Hid (OwnV w2 (.slice ao no co) xs ∧ ∀ k, (Value.slice ao no co).ownBlock = some k → w.heap.size ≤ k) := ⟨ho2, hnew⟩
    have hno2 : no ≤ 140737488351232 := by rw [hno]; simpa using hl
    clear ho2 hc2 hb2 hnew hno hnom HC1
    go_wp2_with fail
    refine (newRand_any _ xs _ _ HO2.out.1.rd (by omega)).mono ?_
    rintro e w3 ⟨r1, v1, rfl, hR3, hc3, hr1, hv1⟩
    have HC3 : Hid (Chg Non w w3) := HC2.out.trans hc3 (fun _ _ e => e)
    have H3 : Hid (RandA w3 r1 v1 xs st ∧ Chg Non w2 w3 ∧ ∀ k, v1.ownBlock = some k → w2.heap.size ≤ k ∧ k ≠ r1) := ⟨hR3, hc3, hv1⟩
    have hs3 := hc3.size
    have hr1lt := hR3.lt
    clear hR3 hc3 hv1
    go_wp2_with fail
    refine (refNew_any _ xs _ _ (rd_first HV.out HC3.out) (by omega)).mono ?_
    rintro e w4 ⟨r2, b1, rfl, hR4, hc4, hr2, hb1⟩
    have HC4 : Hid (Chg Non w w4) := HC3.out.trans hc4 (fun _ _ e => e)
    have H4 : Hid (RandB w4 r2 b1 (.slice none 0 0) xs [] st ∧ Chg Non w3 w4 ∧ ∀ k, b1.ownBlock = some k → w3.heap.size ≤ k) := ⟨hR4, hc4, hb1⟩
    have hs4 := hc4.size
    clear hR4 hc4 hb1
    have HB4 : Hid (Both w r1 r2 (xs, st) w4 0 v1 b1 (.slice none 0 0) xs [] st) := by
      obtain ⟨hR3, hc3, hv1⟩ := H3.out
      obtain ⟨hR4, hc4, hb1⟩ := H4.out
      exact ⟨hR3.kept hc4 (fun e => e) (fun _ _ e => e), hR4, by simp [draw], fun q _ e => by simp [Value.ownBlock] at e, fun e => (hv1 _ e).2 rfl, fun e => by have := hR3.2.lt _ e; omega, by omega, by omega, fun q e => by simp [Value.ownBlock] at e, HC4.out⟩
    have HO4 : Hid (OwnV w4 (.slice ao no co) xs ∧ (∀ k, (Value.slice ao no co).ownBlock = some k → k < w2.heap.size ∧ w.heap.size ≤ k) ∧ (∀ k, v1.ownBlock = some k → w2.heap.size ≤ k) ∧ (∀ k, b1.ownBlock = some k → w3.heap.size ≤ k)) := by
      obtain ⟨hR3, hc3, hv1⟩ := H3.out
      obtain ⟨hR4, hc4, hb1⟩ := H4.out
      have hlt := HO2.out.1.lt
      exact ⟨HO2.out.1.keep (fun k e => by rw [hc4.block k (by have := hlt k e; omega) (fun e => e), hc3.block k (hlt k e) (fun e => e)]), fun k e => ⟨hlt k e, HO2.out.2 k e⟩, fun k e => (hv1 k e).1, hb1⟩
    clear H3 H4 HO2 HC2 HC3 HC4
    go_wp2_with fail
    go_loopw [11] (fun i wr => ∃ (k : Nat) (ys : List Int), k ≤ no ∧ i = .int .i64 k ∧ OwnV wr (.slice ao no co) ys ∧ Chg (fun q => (Value.slice ao no co).ownBlock = some q) w4 wr)
      (fun i _ => no - (intOf i).toNat)
    case atStart => exact ⟨0, xs, Nat.zero_le _, rfl, HO4.out.1, Chg.refl _ _⟩
    case round =>
      obtain ⟨k, ys, hk, rfl, ho, hc⟩ := hrel
      by_cases hlt : k < no
      · have hsh : ∃ g off, ao = some ⟨g, off, none⟩ ∧ Own wr g off no co ys := by
          rcases ho with ⟨e, _⟩ | ⟨g, off, n', c', e, h⟩
          · cases e; omega
          · cases e; exact ⟨g, off, rfl, h⟩
        obtain ⟨g, off, rfl, ho'⟩ := hsh
        obtain ⟨b, hb⟩ := ho'.at k hlt
        have hfr := ho'.free (off + k)
        have HO : Hid (Own wr g off no co ys ∧ Chg (fun q => (Value.slice (some ⟨g, off, none⟩) no co).ownBlock = some q) w4 wr) := ⟨ho', hc⟩
        clear ho ho' hc
        go_wp2
        go_roundw
        case rel => exact ⟨k + 1, _, by omega, by go_num, .inr ⟨_, _, _, _, rfl, HO.out.1.set k hlt _⟩, HO.out.2.setCell (p := ⟨g, off + k, none⟩) (fun _ => rfl) _⟩
        case measure => simp [intOf]; omega
      · have HB5 : Hid (Both w r1 r2 (xs, st) wr 0 v1 b1 (.slice none 0 0) xs [] st) := by
          obtain ⟨h1, h2, h3, h4⟩ := HO4.out
          have hb := HB4.out
          exact ⟨hb.a.kept hc (fun e => by have := (h2 _ e).1; omega) (fun q e e' => by have := h3 q e; have := (h2 _ e').1; omega), hb.b.kept hc (fun e => by have := (h2 _ e).1; omega) (fun q e e' => by have := h4 q e; have := (h2 _ e').1; omega) (fun q e => by simp [Value.ownBlock] at e), hb.all, hb.sep, hb.own, hb.own2, hb.new1, hb.new2, hb.new3, hb.chg.trans hc (fun i hi e => by have := (h2 _ e).2; omega)⟩
        clear HB4 HO4 ho hc
        have hge : ¬ (k : Int) < no := by omega
        go_wp2_with fail
        go_loopw [12] (fun i wq => ∃ (k d : Nat) (va b1 b2 : Value) (f l : List Int) (st' : Int), k ≤ len2 ∧ i = .int .i64 k ∧ Both w r1 r2 (xs, st) wq d va b1 b2 f l st')
          (fun i _ => len2 - (intOf i).toNat)
        case atStart => exact ⟨0, 0, _, _, _, _, _, _, Nat.zero_le _, rfl, HB5.out⟩
        case round =>
          obtain ⟨k, d, va, b1, b2, f, l, st', hk, rfl, hB⟩ := hrel
          have HB : Hid (Both w r1 r2 (xs, st) wr d va b1 b2 f l st') := hB
          clear hB HB5
          by_cases hk2 : k < len2
          · have hk2' : (k : Int) < len2 := by omega
            by_cases hk3 : k < 20
            · have hk3' : (k : Int) < 20 := by omega
              obtain ⟨pb, po, rfl, hpb, hpc, hz1, hz2⟩ := HP.out k hk2
              have hpc2 : wr.cell? ⟨pb, po + k, none⟩ = some (.int .i64 (zs.getD k 0)) := by
                rw [← hpc]; exact World.cell?_of_block (HB.out.chg.block pb hpb (fun e => e))
              clear hpc
              generalize zs.getD k 0 = z at *
              go_upto_if 60 with fail
              go_cut [13] (fun t wc => ∃ n' : Int, t = .int .i64 n' ∧ n' ≤ 3000 ∧ wc = wr)
              case first =>
                by_cases hz : z > 3000
                · go_wp2_with fail
                  go_meet
                  case rel => exact ⟨_, rfl, by omega, rfl⟩
                · go_wp2_with fail
                  go_meet
                  case rel => exact ⟨_, rfl, by omega, rfl⟩
              case rest =>
                obtain ⟨n', rfl, hn', rfl⟩ := hcut
                go_wp2_with fail
                refine (read_any r1 va _ _ _ _ HB.out.a (Nat.le_trans (draw_rest d (xs, st)) (by simp only; omega)) HB.out.own).mono ?_
                rintro e w6 ⟨N, hN, g, va', rfl, ho6, hR6, hc6, hg, hv1, hv2, hv3⟩
                have H6 : Hid (Own w6 g 0 N N (draw N (draw d (xs, st)).2).1 ∧ RandA w6 r1 va' (draw N (draw d (xs, st)).2).2.1 (draw N (draw d (xs, st)).2).2.2 ∧ Chg (One r1) wc w6 ∧ va'.ownBlock ≠ some r1 ∧ va'.ownBlock ≠ some g ∧ (∀ k, va'.ownBlock = some k → va.ownBlock = some k ∨ wc.heap.size ≤ k)) := ⟨ho6, hR6, hc6, hv1, hv2, hv3⟩
                have HN : Hid ((N : Int) = max 0 (min n' 65536)) := hN
                have hN3 : N ≤ 3000 := by omega
                have hgl := ho6.lt
                have HB6 : Hid (RandB w6 r2 b1 b2 f l st') := by
                  have hb := HB.out
                  have hne12 : r1 ≠ r2 := fun e => by
                    have := hb.a.1; rw [e, hb.b.blk] at this; simp at this
                  exact hb.b.kept hc6 (fun e => hne12 e.symm) (fun q e e' => by cases e'; exact hb.b.one.ne hb.a.1 (by decide) e) (fun q e e' => by cases e'; exact hb.b.two.ne hb.a.1 (by decide) e)
                clear ho6 hR6 hc6 hv1 hv2 hv3 hN
                go_wp2_with fail
                refine (refRead_any r2 b1 b2 f l st' _ _ HB6.out).mono ?_
                rintro e w7 ⟨N', hN', y, p1, p2, f', l', st2, rfl, hB7⟩
                obtain rfl : N' = N := by have := HN.out; omega
                obtain ⟨yo, yn, yc, rfl, -⟩ := hB7.own.rd.shape
                have HB7 : Hid (ReadB w6 r2 b1 b2 (f ++ l, st') w7 N' (.slice yo yn yc) p1 p2 f' l' st2) := hB7
                have ho7 : Own w7 g 0 N' N' (draw N' (draw d (xs, st)).2).1 := H6.out.1.kept hB7.chg (fun e => by
                  rcases e with e | e
                  · have := HB.out.b.lt; omega
                  · have := HB.out.b.two.lt _ e; omega)
                have hx7 := run_str w7 _ _ ho7.rd
                have hy7 := run_str w7 _ _ hB7.own.rd
                rw [← HB.out.all] at hy7
                generalize strOfNums (draw N' (draw d (xs, st)).2).1 = sx at *
                have HO7 : Hid (Own w7 g 0 N' N' (draw N' (draw d (xs, st)).2).1) := ho7
                clear hB7 hN' ho7
                go_wp2_with fail
                go_loopw [16] (fun i wr => ∃ (k : Nat) (ys : List Int), k ≤ N' ∧ i = .int .i64 k ∧ Own wr g 0 N' N' ys ∧ Chg (One g) w7 wr)
                  (fun i _ => N' - (intOf i).toNat)
                case atStart => exact ⟨0, _, Nat.zero_le _, rfl, HO7.out, Chg.refl _ _⟩
                case round =>
                  obtain ⟨j, ys, hj, rfl, ho, hc⟩ := hrel
                  clear hx7 hy7
                  by_cases hlt : j < N'
                  · obtain ⟨b, hb⟩ := ho.at j hlt
                    have hfr := ho.free j
                    simp only [Nat.zero_add] at hb
                    have HO : Hid (Own wr g 0 N' N' ys ∧ Chg (One g) w7 wr) := ⟨ho, hc⟩
                    clear ho hc
                    go_wp2
                    go_roundw
                    case rel =>
                      have h1 := HO.out.1.set j hlt (IntKind.u8.wrap (b + 1))
                      simp only [Nat.zero_add] at h1
                      exact ⟨j + 1, _, by omega, by go_num, h1, HO.out.2.setCell (p := ⟨g, j, none⟩) (fun _ => rfl) _⟩
                    case measure => simp [intOf]; omega
                  · have HF : Hid (Both w r1 r2 (xs, st) wr (d + N') va' p1 p2 f' l' st2) :=
                      both_step HB.out H6.out.2.1 H6.out.2.2.1 hg hgl H6.out.2.2.2.1 H6.out.2.2.2.2.1 H6.out.2.2.2.2.2 HB7.out hc
                    clear ho hc
                    have hge3 : ¬ (j : Int) < N' := by omega
                    go_wp2
                    go_roundw
                    case rel => exact ⟨k + 1, d + N', va', p1, p2, f', l', st2, by omega, by go_num, HF.out⟩
                    case measure => simp [intOf]; omega
            · have hk3' : ¬ (k : Int) < 20 := by omega
              go_wp2
              go_ret
              exact ⟨rfl, HB.out.chg.below (Nat.le_refl _) (fun _ e => e.elim)⟩
          · have hk2' : ¬ (k : Int) < len2 := by omega
            go_wp2
            go_ret
            exact ⟨rfl, HB.out.chg.below (Nat.le_refl _) (fun _ e => e.elim)⟩
end Go.Proofs.Ytiegofelidnnlaa
