/-
  The program's pipe, more: a list in new memory is its owner's; Read, Flight, Arrived, Cut, Break, Alter.
-/
import Derived.Test.YtiegofelidnnlaaPipe
namespace Go.Proofs.Ytiegofelidnnlaa
open Go.RowKit
set_option linter.unusedVariables false

theorem cut_own (v : Value) (xs : List Int) (f t : Int) (w : World) (hv : OwnV w v xs) (h0 : f = 0) (h2 : t = xs.length) :
    Calls Try.prog 29 #[v, .int .i64 f, .int .i64 t] w fun e w' => ∃ v', e = .returned v' ∧ w' = w ∧ Tight w v' xs ∧ OwnV w v' xs ∧ ∀ k, v'.ownBlock = some k → v.ownBlock = some k := by
  subst h0
  subst h2
  by_cases hx : xs = []
  · subst hx
    refine (cut_nil v 0 w).mono ?_
    rintro e w' ⟨rfl, rfl⟩
    exact ⟨_, rfl, rfl, .inl ⟨rfl, rfl⟩, .inl ⟨rfl, rfl⟩, fun k hk => by simp [Value.ownBlock] at hk⟩
  · have hpos : 0 < xs.length := List.length_pos_iff.2 hx
    rcases hv with ⟨_, e⟩ | ⟨g, off, n, cap, rfl, ho⟩
    · exact absurd e hx
    · have hmx := ho.mx
      have hle := ho.le
      have hlen := ho.len
      unfold maxLen at hmx
      refine (cut_some ⟨g, off, none⟩ n cap 0 xs.length w hpos (by omega) (by omega)).mono ?_
      rintro e w' ⟨rfl, rfl⟩
      obtain ⟨cur, hg, hs, ht⟩ := ho.blk
      have hO : Own w' g off xs.length xs.length xs := ⟨rfl, Nat.le_refl _, by unfold maxLen; omega, cur, hg, by omega, by rw [hlen]; exact ht⟩
      refine ⟨_, rfl, rfl, .inr ⟨_, _, rfl, by simp, by omega, by unfold maxLen; omega, fun j u hj => ?_⟩, .inr ⟨g, off, xs.length, xs.length, by simp [Addr.add], hO⟩, fun k e => by simpa [Value.ownBlock, Addr.add] using e⟩
      have := ho.cell j u hj
      have e0 : (⟨g, off, none⟩ : Addr).add 0 = ⟨g, off, none⟩ := by simp [Addr.add]
      rw [e0, Addr.add_lit]
      exact this

set_option maxHeartbeats 400000 in
theorem joinNil_any (s : Value) (ys : List Int) (w : World) (hs : Rd w s ys) (hb : ys.length ≤ 140737488355328) :
    Calls Try.prog 45 #[.slice none 0 0, s] w fun e w' => ∃ v', e = .returned v' ∧ Tight w' v' ys ∧ OwnV w' v' ys ∧ Chg Non w w' ∧ ∀ k, v'.ownBlock = some k → w.heap.size ≤ k := by
  go_enter Try.func45, Try.ntmps45
  go_wp2_with (at_builtin; refine wpList_app _ rfl (.tmp 6) (.tmp 7) rfl (.slice none 0 0) s [] ys rfl rfl (.inl ⟨rfl, rfl⟩) hs (by simpa using hb) ?_)
  intro v' w' ho hc hk
  have HO : Hid (OwnV w' v' ys ∧ Chg Non w w' ∧ ∀ k, v'.ownBlock = some k → w.heap.size ≤ k) := by
    refine ⟨ho, hc.mono (fun _ _ e => by simp [Value.ownBlock] at e), fun k e => ?_⟩
    rcases hk with h | h <;> rw [h] at e <;> simp [Value.ownBlock] at e; omega
  obtain ⟨ao, n, c, rfl, hn, hnc, hmx⟩ := ho.rd.shape
  have hl : n ≤ 140737488355328 := by rw [hn]; simpa using hb
  have HN : Hid (n = ys.length) := hn
  clear hn ho hc hk hmx
  go_wp2_with fail
  refine (cut_own _ ys _ _ _ HO.out.1 rfl (by have := HN.out; omega)).mono ?_
  rintro e w2 ⟨v2, rfl, rfl, ht, ho2, hk⟩
  have H2 : Hid (Tight w2 v2 ys ∧ OwnV w2 v2 ys ∧ ∀ k, v2.ownBlock = some k → (Value.slice ao n c).ownBlock = some k) := ⟨ht, ho2, hk⟩
  clear ht ho2 hk
  go_wp2
  go_ret
  exact ⟨v2, rfl, H2.out.1, H2.out.2.1, HO.out.2.1, fun k e => HO.out.2.2 k (H2.out.2.2 k e)⟩

set_option maxHeartbeats 400000 in
theorem newList2_any (s : Value) (ys : List Int) (w : World) (hs : Rd w s ys) (hb : ys.length ≤ 140737488355328) :
    Calls Try.prog 25 #[s] w fun e w' => ∃ v', e = .returned v' ∧ Tight w' v' ys ∧ OwnV w' v' ys ∧ Chg Non w w' ∧ ∀ k, v'.ownBlock = some k → w.heap.size ≤ k := by
  go_enter Try.func25, Try.ntmps25
  go_wp2_with fail
  refine (joinNil_any _ ys _ hs hb).mono ?_
  rintro e w2 ⟨v2, rfl, ht, ho, hc, hk⟩
  have HH : Hid (Tight w2 v2 ys ∧ OwnV w2 v2 ys ∧ Chg Non w w2 ∧ ∀ k, v2.ownBlock = some k → w.heap.size ≤ k) := ⟨ht, ho, hc, hk⟩
  clear ht ho hc hk
  go_wp2
  go_ret
  exact ⟨v2, rfl, HH.out⟩

set_option maxHeartbeats 400000 in
theorem flight_any (p : Nat) (room : Int) (vf va : Value) (f a : List Int) (cl br : Bool) (w : World) (h : PipeA w p room vf va f a cl br) (hl : f.length ≤ 140737488355328) :
    Calls Try.prog 41 #[.pointer (some ⟨p, 0, none⟩)] w fun e w' => ∃ v', e = .returned v' ∧ OwnV w' v' f ∧ Chg Non w w' ∧ ∀ k, v'.ownBlock = some k → w.heap.size ≤ k := by
  obtain ⟨c0, c1, c2, c3, c4⟩ := h.cells
  have HH : Hid (PipeA w p room vf va f a cl br) := h
  clear h
  go_enter Try.func41, Try.ntmps41
  go_wp2_with fail
  refine (newList2_any _ f _ HH.out.fly.rd hl).mono ?_
  rintro e w2 ⟨v2, rfl, ht, ho, hc, hk⟩
  have H2 : Hid (OwnV w2 v2 f ∧ Chg Non w w2 ∧ ∀ k, v2.ownBlock = some k → w.heap.size ≤ k) := ⟨ho, hc, hk⟩
  clear ht ho hc hk
  go_wp2
  go_ret
  exact ⟨v2, rfl, H2.out⟩

set_option maxHeartbeats 400000 in
theorem arrived_any (p : Nat) (room : Int) (vf va : Value) (f a : List Int) (cl br : Bool) (w : World) (h : PipeA w p room vf va f a cl br) :
    Calls Try.prog 42 #[.pointer (some ⟨p, 0, none⟩)] w fun e w' => e = .returned (.int .i64 a.length) ∧ w' = w := by
  obtain ⟨ao, rfl, -⟩ := h.arr.len
  obtain ⟨c0, c1, c2, c3, c4⟩ := h.cells
  clear h
  generalize a.length = A at *
  go_enter Try.func42, Try.ntmps42
  go_wp2
  go_ret
  exact ⟨rfl, rfl⟩

set_option maxHeartbeats 400000 in
theorem cutPipe_any (p : Nat) (room : Int) (vf va : Value) (f a : List Int) (cl br : Bool) (w : World) (h : PipeA w p room vf va f a cl br) :
    Calls Try.prog 36 #[.pointer (some ⟨p, 0, none⟩)] w fun e w' => e = .returned (.tuple #[]) ∧ PipeA w' p room (.slice none 0 0) va [] a true br ∧ Chg (One p) w w' := by
  obtain ⟨c0, c1, c2, c3, c4⟩ := h.cells
  have hf := h.free
  have HH : Hid (PipeA w p room vf va f a cl br) := h
  clear h
  go_enter Try.func36, Try.ntmps36
  go_wp2
  go_end0
  have h := HH.out
  have h1 : PipeA (w.setCell ⟨p, 1, none⟩ (.slice none 0 0)) p room (.slice none 0 0) va [] a cl br := PipeA.setFly h.blk h.arr h.sa (.inl ⟨rfl, rfl⟩) (by simp [Value.ownBlock])
  exact ⟨rfl, ⟨heap_setCell_at _ _ _ _ _ _ h1.blk, .inl ⟨rfl, rfl⟩, h1.arr.keep (fun k e => Below.heap_setCell _ _ _ _ (fun e' => h1.sa (by rw [e, e']))), h1.sf, h1.sa⟩,
    (Chg.setCell (S := One p) (Chg.refl _ _) (p := ⟨p, 1, none⟩) (fun _ => rfl) _).setCell (p := ⟨p, 3, none⟩) (fun _ => rfl) _⟩

set_option maxHeartbeats 400000 in
theorem break_any (p : Nat) (room : Int) (vf va : Value) (f a : List Int) (cl br : Bool) (w : World) (h : PipeA w p room vf va f a cl br) :
    Calls Try.prog 39 #[.pointer (some ⟨p, 0, none⟩)] w fun e w' => e = .returned (.tuple #[]) ∧ PipeA w' p room (.slice none 0 0) (.slice none 0 0) [] [] cl true ∧ Chg (One p) w w' := by
  obtain ⟨c0, c1, c2, c3, c4⟩ := h.cells
  have hf := h.free
  have HH : Hid (PipeA w p room vf va f a cl br) := h
  clear h
  go_enter Try.func39, Try.ntmps39
  go_wp2
  go_end0
  have h := HH.out
  have e1 := heap_setCell_at w p 4 (.bool true) _ _ h.blk
  have e2 := heap_setCell_at _ p 1 (.slice none 0 0) _ _ e1
  have e3 := heap_setCell_at _ p 2 (.slice none 0 0) _ _ e2
  exact ⟨rfl, ⟨e3, .inl ⟨rfl, rfl⟩, .inl ⟨rfl, rfl⟩, by simp [Value.ownBlock], by simp [Value.ownBlock]⟩,
    ((Chg.setCell (S := One p) (Chg.refl _ _) (p := ⟨p, 4, none⟩) (fun _ => rfl) _).setCell (p := ⟨p, 1, none⟩) (fun _ => rfl) _).setCell (p := ⟨p, 2, none⟩) (fun _ => rfl) _⟩

set_option maxHeartbeats 400000 in
theorem read_broken (p : Nat) (room : Int) (vf va : Value) (f a : List Int) (cl : Bool) (n : Int) (w : World) (h : PipeA w p room vf va f a cl true) :
    Calls Try.prog 23 #[.pointer (some ⟨p, 0, none⟩), .int .i64 n] w fun e w' => e = .returned (.tuple #[.slice none 0 0, .int .i64 3]) ∧ w' = w := by
  obtain ⟨c0, c1, c2, c3, c4⟩ := h.cells
  clear h
  go_enter Try.func23, Try.ntmps23
  go_wp2
  go_ret2
  exact ⟨rfl, rfl⟩

set_option maxHeartbeats 400000 in
theorem read_ended (p : Nat) (room : Int) (vf va : Value) (n : Int) (w : World) (h : PipeA w p room vf va [] [] true false) :
    Calls Try.prog 23 #[.pointer (some ⟨p, 0, none⟩), .int .i64 n] w fun e w' => e = .returned (.tuple #[.slice none 0 0, .int .i64 2]) ∧ ∃ n, w' = w.drewN n := by
  obtain ⟨c0, c1, c2, c3, c4⟩ := h.cells
  have hh := held_any p room vf va [] [] true false w h (by simp)
  simp only [List.length_nil, Nat.add_zero] at hh
  clear h
  go_enter Try.func23, Try.ntmps23
  go_wp2_with fail
  refine hh.mono ?_
  rintro e w1 ⟨rfl, n1, hw⟩
  have HW : Hid (∃ n, w1 = w.drewN n) := ⟨n1, hw⟩
  clear hw hh
  go_wp2
  go_ret2
  exact ⟨rfl, HW.out⟩

set_option maxHeartbeats 1000000 in
theorem read_open (p : Nat) (room : Int) (vf va : Value) (f a : List Int) (cl : Bool) (n : Int) (w : World) (h : PipeA w p room vf va f a cl false) (hl : f.length + a.length ≤ 140737488355328) (hne : cl = true → 0 < f.length + a.length) :
    Calls Try.prog 23 #[.pointer (some ⟨p, 0, none⟩), .int .i64 n] w fun e w' => ∃ K : Nat, (K : Int) = max 0 (min n a.length) ∧ ∃ v va', e = .returned (.tuple #[v, .int .i64 1]) ∧ OwnV w' v (a.take K) ∧ PipeA w' p room vf va' f (a.drop K) cl false ∧ Chg (One p) w w' ∧
      (∀ k, va'.ownBlock = some k → va.ownBlock = some k) ∧ ∀ k, v.ownBlock = some k → w.heap.size ≤ k := by
  obtain ⟨K, hK⟩ : ∃ K : Nat, (K : Int) = max 0 (min n a.length) := ⟨(max 0 (min n a.length)).toNat, by omega⟩
  obtain ⟨ao, rfl, ham⟩ := h.arr.len
  have hh := held_any p room vf _ f a cl false w h (by omega)
  have HH : Hid (PipeA w p room vf (.slice ao a.length a.length) f a cl false) := h
  have HK : Hid ((K : Int) = max 0 (min n a.length)) := hK
  obtain ⟨c0, c1, c2, c3, c4⟩ := h.cells
  have hfr := h.free
  unfold maxLen at ham
  have hKA : (K : Int) ≤ (a.length : Int) := by omega
  generalize hA : a.length = A at *
  have HA : Hid (a.length = A) := hA
  generalize hT : f.length + A = T at *
  have hTA : A ≤ T := by omega
  clear h hK hA hT
  go_enter Try.func23, Try.ntmps23
  go_upto_region 3 with fail
  go_cut [19] (fun t wc => t = .bool false ∧ ∃ n, wc = w.drewN n)
  case first =>
    cases hcl : cl with
    | true =>
      subst hcl
      have hT0 : ((T : Int) == 0) = false := by have := hne rfl; simp; omega
      clear hne
      go_wp2_with fail
      refine hh.mono ?_
      rintro e w1 ⟨rfl, n1, hw1⟩
      have HW1 : Hid (∃ n, w1 = w.drewN n) := ⟨n1, hw1⟩
      clear hw1 hh
      go_wp2_with fail
      go_meet
      case rel => exact ⟨rfl, HW1.out⟩
    | false =>
      subst hcl
      clear hne hh
      go_wp2_with fail
      go_meet
      case rel => exact ⟨rfl, 0, rfl⟩
  case rest =>
    obtain ⟨rfl, n1, hw1⟩ := hcut
    have hP := HH.out.drewN n1
    rw [← hw1] at hP
    have hc1 : Chg Non w wc := by rw [hw1]; exact ⟨rfl, rfl, rfl, Nat.le_refl _, fun _ _ _ => rfl⟩
    have hs1 : w.heap.size ≤ wc.heap.size := hc1.size
    clear hw1 hne hh c0 c1 c2 c3 c4 hfr
    obtain ⟨c0, c1, c2, c3, c4⟩ := hP.cells
    have hfr := hP.free
    have HP : Hid (PipeA wc p room vf (.slice ao A A) f a cl false ∧ Chg Non w wc) := ⟨hP, hc1⟩
    have hb := between_any n A wc
    rw [← HK.out] at hb
    clear hP hc1
    go_wp2_with fail
    refine hb.mono ?_
    rintro e w1 ⟨rfl, rfl⟩
    clear hb
    go_wp2_with fail
    refine (newList2_any _ (a.take K) _ (rd_takeO HP.out.1.arr.rd (by omega)) (by simp; have := HA.out; omega)).mono ?_
    rintro e w2 ⟨v2, rfl, ht2, ho2, hc2, hk2⟩
    have hP2 := HP.out.1.kept hc2 (fun e => e) (fun _ _ e => e) (fun _ _ e => e)
    have H2 : Hid (OwnV w2 v2 (a.take K) ∧ Chg Non w w2 ∧ (∀ k, v2.ownBlock = some k → w.heap.size ≤ k) ∧ PipeA w2 p room vf (.slice ao A A) f a cl false) := ⟨ho2, HP.out.2.trans hc2 (fun _ _ e => e), fun k e => Nat.le_trans hs1 (hk2 k e), hP2⟩
    have HV2 : Hid (∀ k, v2.ownBlock = some k → k ≠ p) := fun k e e' => by have := hk2 k e; have := HP.out.1.lt; omega
    obtain ⟨a2, n2, rfl⟩ := ht2.shape
    clear c0 c1 c2 c3 c4 hfr ht2 ho2 hc2 hk2
    obtain ⟨c0, c1, c2, c3, c4⟩ := hP2.cells
    have hfr := hP2.free
    clear hP2
    go_wp2_with fail
    go_region_with (go_at_call 29; (refine (cut_tail _ a _ _ _ ?_ ?_ ?_ ?_).mono ?_; exact H2.out.2.2.2.arr.rd.drew; omega; omega; (rw [HA.out]); rintro e w5 ⟨v5, rfl, rfl, ht5, hk5⟩; obtain ⟨ao5, n5, rfl⟩ := ht5.shape))
    all_goals
      have H5 : Hid (Tight w2 (.slice ao5 n5 n5) (a.drop K) ∧ ∀ q, (Value.slice ao5 n5 n5).ownBlock = some q → (Value.slice ao A A).ownBlock = some q) := ⟨by simpa using ht5.keep (w' := w2) (fun _ _ => rfl), hk5⟩
      clear ht5 hk5 c0 c1 c2 c3 c4 hfr
      go_wp2
      go_ret2
      obtain ⟨ho, hcw, hkw, hP⟩ := H2.out
      refine ⟨K, HK.out, _, _, rfl, ?_, (PipeA.setArr hP.blk hP.fly hP.sf H5.out.1 (fun e => hP.sa (H5.out.2 p e))).drew, ((hcw.non (One p)).setCell (p := ⟨p, 2, none⟩) (fun _ => rfl) _).drew, H5.out.2, hkw⟩
      exact ho.keep (fun k e => Below.heap_setCell _ _ _ _ (HV2.out k e))
end Go.Proofs.Ytiegofelidnnlaa
