/-
  The walk of FilesOwn: it returns true, and nothing that was there is written.
-/
import Derived.Test.YtpabijfamnghjaaTurn
namespace Go.Proofs.Ytpabijfamnghjaa
open Go.RowKit
set_option linter.unusedVariables false

def oneN : List UInt8 := [111, 110, 101]

/-- What Put or Tear under another name leaves of the file 'one'. -/
theorem put_other {w w' : World} {p b : Nat} {nm : List UInt8} {xs : List Int} {L : List Ent} (h : PutPost w w' p b nm xs L) (hne : oneN ≠ nm) : ∃ L', St w' p b L' ∧ findL oneN L' = findL oneN L := by
  by_cases hm : mayL nm xs.length L = 0
  · obtain ⟨v, hst, -⟩ := h.yes hm
    exact ⟨_, hst, find_put_other (e := fresh nm v xs) hne L⟩
  · exact ⟨_, h.no hm, rfl⟩

theorem tear_other {w w' : World} {p b : Nat} {nm : List UInt8} {xs : List Int} {n : Int} {L : List Ent} (h : TearPost w w' p b nm xs n L) (hne : oneN ≠ nm) : ∃ L', St w' p b L' ∧ findL oneN L' = findL oneN L := by
  by_cases hm : tearC nm xs.length n L = 0
  · obtain ⟨v, hst, -⟩ := h.yes hm
    exact ⟨_, hst, find_put_other (e := tearE nm v xs n.toNat L) hne L⟩
  · exact ⟨_, h.no hm, rfl⟩

set_option maxRecDepth 100000 in
set_option maxHeartbeats 2000000 in
theorem own_walk (ao : Option Addr) (an ac : Nat) (xs : List Int) (s : ByteArray) (hs : s.size ≤ maxLen) (mo : Option Addr) (mn mc : Nat) (ms : List Int) (N : Nat) (w : World)
    (ha : Rd w (.slice ao an ac) xs) (hm : Rd w (.slice mo mn mc) ms) (hal : an ≤ 140737488351232) (hN : N ≤ 65535) :
    Calls Try.prog 6 #[.slice ao an ac, .string s, .slice mo mn mc, .int .u16 N] w fun e w' => e = .returned (.bool true) ∧ Below w.heap.size w w' := by
  have HX : Hid (an = xs.length) := by
    obtain ⟨_, _, _, e, h1, -⟩ := ha
    cases e
    exact h1
  have H0 : Hid (Rd w (.slice ao an ac) xs ∧ Rd w (.slice mo mn mc) ms) := ⟨ha, hm⟩
  clear ha hm
  go_enter Try.func6, Try.ntmps6
  go_wp2_with fail
  refine (head_any _).mono ?_
  rintro e w1 ⟨rfl, hc1⟩
  go_wp2_with fail
  refine (new_any _).mono ?_
  rintro e w2 ⟨p, b, rfl, hs2, hc2, hp2, hb2⟩
  have H2 : Hid (St w2 p b [] ∧ Chg Non w w2 ∧ w.heap.size ≤ b) := ⟨hs2, hc1.trans hc2 (fun _ _ x => x), by have := hc1.size; omega⟩
  clear hs2 hc1 hc2 hp2 hb2
  go_wp2_with (at_builtin; refine wpList_app _ rfl _ _ rfl _ _ [] xs rfl rfl (OwnV.empty w2) ?hr ?hb ?hK)
  case hr => exact H0.out.1.keep (fun k _ hk => (Below.heap_alloc _ _ _ (by have := H2.out.2.1.size; omega)).trans (H2.out.2.1.block k hk (fun x => x)))
  case hb => have := HX.out; simp; omega
  case hK =>
  intro own w3 ho3 hc3 hk3
  obtain ⟨go, gn, gc, rfl, hgn, hgc, hgm⟩ := ho3.shape
  have hcc : Chg Non w2 w3 := ((Chg.refl Non w2).alloc (.cells #[] 5)).trans hc3 (fun i hi e => by simp [Value.ownBlock] at e; omega)
  have hgl : gn ≤ 140737488351232 := by have := HX.out; omega
  have H3 : Hid (St w3 p b [] ∧ Chg Non w w3 ∧ w.heap.size ≤ b ∧ OwnV w3 (.slice go gn gc) xs ∧ ∀ k, (Value.slice go gn gc).ownBlock = some k → w.heap.size ≤ k) := ⟨H2.out.1.non hcc, H2.out.2.1.trans hcc (fun _ _ x => x), H2.out.2.2, ho3, fun k e => by
    have := H2.out.2.1.size
    rcases hk3 with h | h
    · rw [h] at e; simp [Value.ownBlock] at e; omega
    · rw [h] at e; simp at e; omega⟩
  have HG : Hid (gn = an) := by have := HX.out; show _ = _; omega
  clear ho3 hc3 hk3 hgn hcc hgm H2
  go_wp2_with fail
  refine (put_post p b [] ⟨#[111, 110, 101]⟩ _ xs _ H3.out.1 (by decide) H3.out.2.2.2.1.rd).mono ?_
  rintro e w4 ⟨he, hpost⟩
  by_cases hlong : 65536 < an
  · have hm : mayL oneN xs.length [] = 23 := by
      unfold mayL
      have := HX.out
      rw [if_neg (by decide), if_pos (by omega)]
    obtain rfl := he.trans (ret_int hm)
    have H4 : Hid (Chg Non w w4) := H3.out.2.1.trans hpost.chg (fun i hi e => by cases e; have := H3.out.2.2.1; omega)
    clear he hpost hm
    go_wp2
    all_goals (go_ret; exact ⟨ret_bool (by first | rfl | (simp; omega)), H4.out.below (Nat.le_refl _) (fun k x => x.elim)⟩)
  · have hm : mayL oneN xs.length [] = 0 := (may_nil oneN xs.length).2 ⟨by decide, by have := HX.out; omega⟩
    obtain rfl := he.trans (ret_int hm)
    obtain ⟨v1, hst, hv1⟩ := hpost.yes hm
    have hc4 := hpost.chg
    have H4 : Hid (St w4 p b (putL (fresh oneN v1 xs) []) ∧ Chg Non w w4 ∧ w.heap.size ≤ b ∧ OwnV w4 (.slice go gn gc) xs ∧ (∀ k, (Value.slice go gn gc).ownBlock = some k → w.heap.size ≤ k ∧ Off p b (putL (fresh oneN v1 xs) []) k)) := by
      have hap := H3.out.1.apart H3.out.2.2.2.1
      refine ⟨hst, H3.out.2.1.trans hc4 (fun i hi e => by cases e; have := H3.out.2.2.1; omega), H3.out.2.2.1, H3.out.2.2.2.1.keep (fun k e => hc4.block k (H3.out.2.2.2.1.lt k e) (fun e' => hap.2 (by rw [e, e']))), fun k e => ⟨H3.out.2.2.2.2 k e, ?_⟩⟩
      refine off_put ⟨fun e' => hap.1 (by rw [e, e']), fun e' => hap.2 (by rw [e, e']), fun x hx => by simp at hx⟩ (fun e' => ?_) (by simp [fresh, Value.ownBlock])
      have h1 := hv1 k e'
      have h2 := H3.out.2.2.2.1.lt k e
      omega
    obtain ⟨L1, hL1⟩ : ∃ L1, L1 = putL (fresh oneN v1 xs) [] := ⟨_, rfl⟩
    have HF1 : Hid (findL oneN L1 = some (fresh oneN v1 xs)) := by rw [hL1]; exact find_put_same (fresh oneN v1 xs) []
    rw [← hL1] at H4
    clear he hpost hm hst hv1 hc4 H3 hL1
    go_wp2_with fail
    go_loopw [13] (fun i wr => ∃ (k : Nat) (ys : List Int), k ≤ gn ∧ i = .int .i64 k ∧ OwnV wr (.slice go gn gc) ys ∧ Chg (fun q => (Value.slice go gn gc).ownBlock = some q) w4 wr)
      (fun i _ => gn - (intOf i).toNat)
    case atStart => exact ⟨0, xs, Nat.zero_le _, rfl, H4.out.2.2.2.1, Chg.refl _ _⟩
    case round =>
      obtain ⟨k, ys, hk, rfl, ho, hc⟩ := hrel
      by_cases hlt : k < gn
      · have hsh : ∃ g off, go = some ⟨g, off, none⟩ ∧ Own wr g off gn gc ys := by
          rcases ho with ⟨e, _⟩ | ⟨g, off, n', c', e, h⟩
          · cases e; omega
          · cases e; exact ⟨g, off, rfl, h⟩
        obtain ⟨g, off, rfl, ho'⟩ := hsh
        obtain ⟨bb, hb⟩ := ho'.at k hlt
        have hfr := ho'.free (off + k)
        have HO : Hid (Own wr g off gn gc ys ∧ Chg (fun q => (Value.slice (some ⟨g, off, none⟩) gn gc).ownBlock = some q) w4 wr) := ⟨ho', hc⟩
        clear ho ho' hc
        go_wp2
        go_roundw
        case rel => exact ⟨k + 1, _, by omega, by go_num, .inr ⟨_, _, _, _, rfl, HO.out.1.set k hlt _⟩, HO.out.2.setCell (p := ⟨g, off + k, none⟩) (fun _ => rfl) _⟩
        case measure => simp [intOf]; omega
      · have H5 : Hid (St wr p b L1 ∧ Chg Non w wr ∧ w.heap.size ≤ b) := ⟨H4.out.1.chg hc (fun q e => (H4.out.2.2.2.2 q e).2), H4.out.2.1.trans hc (fun i hi e => by have := (H4.out.2.2.2.2 i e).1; omega), H4.out.2.2.1⟩
        clear ho hc H4
        have hge : ¬ (k : Int) < gn := by omega
        by_cases hone : s = ⟨#[111, 110, 101]⟩
        · subst hone
          obtain ⟨L6, hL6⟩ : ∃ L6, L6 = L1 := ⟨_, rfl⟩
          have H6 : Hid (St wr p b L6 ∧ Chg Non w wr ∧ w.heap.size ≤ b ∧ findL oneN L6 = some (fresh oneN v1 xs)) := by rw [hL6]; exact ⟨H5.out.1, H5.out.2.1, H5.out.2.2, HF1.out⟩
          clear H5 HF1 hL6
          go_wp2_with fail
          refine (read_any p b L6 ⟨#[111, 110, 101]⟩ _ H6.out.1 (by decide)).mono ?_
          rintro e w7 ⟨v7, he, ho7, hc7, hk7⟩
          have e6 : readR oneN L6 = 0 := by unfold readR; rw [H6.out.2.2.2]
          have e7 : seenL oneN L6 = xs := by unfold seenL; rw [H6.out.2.2.2]; exact seen_fresh _ _ _
          have he' : e = .returned (.tuple #[v7, .int .i64 (readR oneN L6)]) := he
          rw [e6] at he'
          have ho7' : OwnV w7 v7 (seenL oneN L6) := ho7
          rw [e7] at ho7'
          clear he ho7 e6 e7
          subst he'
          obtain ⟨ro, rn, rc, rfl, hrn, -⟩ := ho7'.shape
          have hrl : rn ≤ 65536 := by have := HX.out; omega
          have hT0 := run_str w7 _ _ ho7'.rd
          have hT1 := run_str w7 _ _ ((H0.out.1.keep (w' := w7) (fun k _ hk => (hc7.block k (by have := H6.out.2.1.size; omega) (fun x => x)).trans (H6.out.2.1.block k hk (fun x => x)))))
          have H7 : Hid (St w7 p b L6 ∧ Chg Non w w7 ∧ findL oneN L6 = some (fresh oneN v1 xs) ∧ OwnV w7 (.slice ro rn rc) xs ∧ ∀ k, (Value.slice ro rn rc).ownBlock = some k → w.heap.size ≤ k ∧ Off p b L6 k) :=
            ⟨H6.out.1.non hc7, H6.out.2.1.trans hc7 (fun _ _ x => x), H6.out.2.2.2, ho7', fun k e => ⟨Nat.le_trans H6.out.2.1.size (hk7 k e), H6.out.1.off (hk7 k e)⟩⟩
          clear ho7' hc7 hk7 hrn H6
          go_wp2_with fail
          clear hT0 hT1
          go_loopw [17] (fun i wr => ∃ (k : Nat) (ys : List Int), k ≤ rn ∧ i = .int .i64 k ∧ OwnV wr (.slice ro rn rc) ys ∧ Chg (fun q => (Value.slice ro rn rc).ownBlock = some q) w7 wr)
            (fun i _ => rn - (intOf i).toNat)
          case atStart => exact ⟨0, xs, Nat.zero_le _, rfl, H7.out.2.2.2.1, Chg.refl _ _⟩
          case round =>
            obtain ⟨k, ys, hk, rfl, ho, hc⟩ := hrel
            by_cases hlt : k < rn
            · have hsh : ∃ g off, ro = some ⟨g, off, none⟩ ∧ Own wr g off rn rc ys := by
                rcases ho with ⟨e, _⟩ | ⟨g, off, n', c', e, h⟩
                · cases e; omega
                · cases e; exact ⟨g, off, rfl, h⟩
              obtain ⟨g, off, rfl, ho'⟩ := hsh
              obtain ⟨bb, hb⟩ := ho'.at k hlt
              have hfr := ho'.free (off + k)
              have HO : Hid (Own wr g off rn rc ys ∧ Chg (fun q => (Value.slice (some ⟨g, off, none⟩) rn rc).ownBlock = some q) w7 wr) := ⟨ho', hc⟩
              clear ho ho' hc
              go_wp2
              go_roundw
              case rel => exact ⟨k + 1, _, by omega, by go_num, .inr ⟨_, _, _, _, rfl, HO.out.1.set k hlt _⟩, HO.out.2.setCell (p := ⟨g, off + k, none⟩) (fun _ => rfl) _⟩
              case measure => simp [intOf]; omega
            · have H8 : Hid (St wr p b L6 ∧ Chg Non w wr ∧ findL oneN L6 = some (fresh oneN v1 xs)) := ⟨H7.out.1.chg hc (fun q e => (H7.out.2.2.2.2 q e).2), H7.out.2.1.trans hc (fun i hi e => by have := (H7.out.2.2.2.2 i e).1; omega), H7.out.2.2.1⟩
              clear ho hc H7
              have hge : ¬ (k : Int) < rn := by omega
              go_wp2_with fail
              refine (read_any p b L6 ⟨#[111, 110, 101]⟩ _ H8.out.1 (by decide)).mono ?_
              rintro e w9 ⟨v9, he, ho9, hc9, hk9⟩
              have e6 : readR oneN L6 = 0 := by unfold readR; rw [H8.out.2.2]
              have e7 : seenL oneN L6 = xs := by unfold seenL; rw [H8.out.2.2]; exact seen_fresh _ _ _
              have he' : e = .returned (.tuple #[v9, .int .i64 (readR oneN L6)]) := he
              rw [e6] at he'
              have ho9' : OwnV w9 v9 (seenL oneN L6) := ho9
              rw [e7] at ho9'
              clear he ho9 e6 e7
              subst he'
              obtain ⟨to, tn, tc, rfl, -⟩ := ho9'.shape
              have hT0 := run_str w9 _ _ ho9'.rd
              have hT1 := run_str w9 _ _ ((H0.out.1.keep (w' := w9) (fun k _ hk => (hc9.block k (by have := H8.out.2.1.size; omega) (fun x => x)).trans (H8.out.2.1.block k hk (fun x => x)))))
              have H9 : Hid (Chg Non w w9) := H8.out.2.1.trans hc9 (fun _ _ x => x)
              clear ho9' hc9 hk9 H8
              go_wp2
              all_goals (go_ret; exact ⟨rfl, H9.out.below (Nat.le_refl _) (fun k x => x.elim)⟩)
        · have hne : oneN ≠ s.data.toList := fun e => hone (WideShapes.bytes_inj e.symm)
          have HNE : Hid (oneN ≠ s.data.toList) := hne
          have hq : (s.toList == [111, 110, 101]) = false := by
            rw [ByteArray.toList_eq]
            simp
            exact fun e => hne e.symm
          clear hne hone
          go_wp2_with fail
          refine (put_post p b L1 s _ ms _ H5.out.1 hs (H0.out.2.keep (fun k _ hk => H5.out.2.1.block k hk (fun x => x)))).mono ?_
          rintro e wq ⟨rfl, hpost⟩
          obtain ⟨L5, hst5, hf5⟩ := put_other hpost HNE.out
          have H5' : Hid (St wq p b L5 ∧ Chg Non w wq ∧ w.heap.size ≤ b ∧ findL oneN L5 = some (fresh oneN v1 xs)) := ⟨hst5, H5.out.2.1.trans hpost.chg (fun i hi e => by cases e; have := H5.out.2.2; omega), H5.out.2.2, hf5.trans HF1.out⟩
          generalize mayL s.data.toList ms.length L1 = mc1
          clear hpost hst5 hf5 H5 HF1
          go_wp2_with fail
          refine (tear_any p b L5 s _ xs _ _ H5'.out.1 hs (H0.out.1.keep (fun k _ hk => H5'.out.2.1.block k hk (fun x => x)))).mono ?_
          rintro e wt ⟨rfl, hpost⟩
          obtain ⟨L6, hst6, hf6⟩ := tear_other hpost HNE.out
          have H6 : Hid (St wt p b L6 ∧ Chg Non w wt ∧ w.heap.size ≤ b ∧ findL oneN L6 = some (fresh oneN v1 xs)) := ⟨hst6, H5'.out.2.1.trans hpost.chg (fun i hi e => by cases e; have := H5'.out.2.2.1; omega), H5'.out.2.2.1, hf6.trans H5'.out.2.2.2⟩
          generalize tearC s.data.toList xs.length _ L5 = mc2
          clear hpost hst6 hf6 H5' hN
          go_wp2_with fail
          refine (read_any p b L6 ⟨#[111, 110, 101]⟩ _ H6.out.1 (by decide)).mono ?_
          rintro e w7 ⟨v7, he, ho7, hc7, hk7⟩
          have e6 : readR oneN L6 = 0 := by unfold readR; rw [H6.out.2.2.2]
          have e7 : seenL oneN L6 = xs := by unfold seenL; rw [H6.out.2.2.2]; exact seen_fresh _ _ _
          have he' : e = .returned (.tuple #[v7, .int .i64 (readR oneN L6)]) := he
          rw [e6] at he'
          have ho7' : OwnV w7 v7 (seenL oneN L6) := ho7
          rw [e7] at ho7'
          clear he ho7 e6 e7
          subst he'
          obtain ⟨ro, rn, rc, rfl, hrn, -⟩ := ho7'.shape
          have hrl : rn ≤ 65536 := by have := HX.out; omega
          have hT0 := run_str w7 _ _ ho7'.rd
          have hT1 := run_str w7 _ _ ((H0.out.1.keep (w' := w7) (fun k _ hk => (hc7.block k (by have := H6.out.2.1.size; omega) (fun x => x)).trans (H6.out.2.1.block k hk (fun x => x)))))
          have H7 : Hid (St w7 p b L6 ∧ Chg Non w w7 ∧ findL oneN L6 = some (fresh oneN v1 xs) ∧ OwnV w7 (.slice ro rn rc) xs ∧ ∀ k, (Value.slice ro rn rc).ownBlock = some k → w.heap.size ≤ k ∧ Off p b L6 k) :=
            ⟨H6.out.1.non hc7, H6.out.2.1.trans hc7 (fun _ _ x => x), H6.out.2.2.2, ho7', fun k e => ⟨Nat.le_trans H6.out.2.1.size (hk7 k e), H6.out.1.off (hk7 k e)⟩⟩
          clear ho7' hc7 hk7 hrn H6
          go_wp2_with fail
          clear hT0 hT1
          go_loopw [17] (fun i wr => ∃ (k : Nat) (ys : List Int), k ≤ rn ∧ i = .int .i64 k ∧ OwnV wr (.slice ro rn rc) ys ∧ Chg (fun q => (Value.slice ro rn rc).ownBlock = some q) w7 wr)
            (fun i _ => rn - (intOf i).toNat)
          case atStart => exact ⟨0, xs, Nat.zero_le _, rfl, H7.out.2.2.2.1, Chg.refl _ _⟩
          case round =>
            obtain ⟨k, ys, hk, rfl, ho, hc⟩ := hrel
            by_cases hlt : k < rn
            · have hsh : ∃ g off, ro = some ⟨g, off, none⟩ ∧ Own wr g off rn rc ys := by
                rcases ho with ⟨e, _⟩ | ⟨g, off, n', c', e, h⟩
                · cases e; omega
                · cases e; exact ⟨g, off, rfl, h⟩
              obtain ⟨g, off, rfl, ho'⟩ := hsh
              obtain ⟨bb, hb⟩ := ho'.at k hlt
              have hfr := ho'.free (off + k)
              have HO : Hid (Own wr g off rn rc ys ∧ Chg (fun q => (Value.slice (some ⟨g, off, none⟩) rn rc).ownBlock = some q) w7 wr) := ⟨ho', hc⟩
              clear ho ho' hc
              go_wp2
              go_roundw
              case rel => exact ⟨k + 1, _, by omega, by go_num, .inr ⟨_, _, _, _, rfl, HO.out.1.set k hlt _⟩, HO.out.2.setCell (p := ⟨g, off + k, none⟩) (fun _ => rfl) _⟩
              case measure => simp [intOf]; omega
            · have H8 : Hid (St wr p b L6 ∧ Chg Non w wr ∧ findL oneN L6 = some (fresh oneN v1 xs)) := ⟨H7.out.1.chg hc (fun q e => (H7.out.2.2.2.2 q e).2), H7.out.2.1.trans hc (fun i hi e => by have := (H7.out.2.2.2.2 i e).1; omega), H7.out.2.2.1⟩
              clear ho hc H7
              have hge : ¬ (k : Int) < rn := by omega
              go_wp2_with fail
              refine (read_any p b L6 ⟨#[111, 110, 101]⟩ _ H8.out.1 (by decide)).mono ?_
              rintro e w9 ⟨v9, he, ho9, hc9, hk9⟩
              have e6 : readR oneN L6 = 0 := by unfold readR; rw [H8.out.2.2]
              have e7 : seenL oneN L6 = xs := by unfold seenL; rw [H8.out.2.2]; exact seen_fresh _ _ _
              have he' : e = .returned (.tuple #[v9, .int .i64 (readR oneN L6)]) := he
              rw [e6] at he'
              have ho9' : OwnV w9 v9 (seenL oneN L6) := ho9
              rw [e7] at ho9'
              clear he ho9 e6 e7
              subst he'
              obtain ⟨to, tn, tc, rfl, -⟩ := ho9'.shape
              have hT0 := run_str w9 _ _ ho9'.rd
              have hT1 := run_str w9 _ _ ((H0.out.1.keep (w' := w9) (fun k _ hk => (hc9.block k (by have := H8.out.2.1.size; omega) (fun x => x)).trans (H8.out.2.1.block k hk (fun x => x)))))
              have H9 : Hid (Chg Non w w9) := H8.out.2.1.trans hc9 (fun _ _ x => x)
              clear ho9' hc9 hk9 H8
              go_wp2
              all_goals (go_ret; exact ⟨rfl, H9.out.below (Nat.le_refl _) (fun k x => x.elim)⟩)
end Go.Proofs.Ytpabijfamnghjaa
