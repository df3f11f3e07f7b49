/-
  The law's do: a call to both stores, with the same answers.
-/
import Derived.Test.YtpabijfamnghjaaMid
import Derived.Deep.DeepCutAuto
import Derived.Deep.CutBlock
namespace Go.Proofs.Ytpabijfamnghjaa
open Go.RowKit
set_option linter.unusedVariables false

theorem seen_len {w : World} {p b : Nat} {L : List Ent} (h : St w p b L) (nm : List UInt8) : (seenL nm L).length ≤ 131072 := by
  unfold seenL
  cases hf : findL nm L with
  | none => simp
  | some e =>
    have := h.ent e (find_name hf).2
    have h1 := this.lo
    have h2 := this.lf
    simp only [seenE, List.length_append, List.length_take, List.length_drop]
    omega

set_option maxRecDepth 100000 in
set_option maxHeartbeats 4000000 in
theorem do_any (p b : Nat) (L : List Ent) (q : Nat) (sv : Value) (R : List Ent) (call n : Int) (s : ByteArray) (hs : s.size ≤ maxLen) (vo : Option Addr) (vn vc : Nat) (ys : List Int) (w : World) (h : Both w p b L q sv R) (hv : Rd w (.slice vo vn vc) ys) (hvl : vn ≤ 140737488351232)
    (hvb : ys ≠ [] → ∀ k, (Value.slice vo vn vc).ownBlock = some k → k ≠ b ∧ ¬ QS q sv k) :
    Calls Try.prog 9 #[.pointer (some ⟨p, 0, none⟩), .pointer (some ⟨q, 0, none⟩), .agg #[.int .i64 call, .string s, .slice vo vn vc, .int .i64 n]] w fun e w' => e = .returned (.bool true) ∧ ∃ L' sv' R', Both w' p b L' q sv' R' ∧ Chg (DS b q sv) w w' ∧ ∀ k, sv'.ownBlock = some k → sv.ownBlock = some k ∨ w.heap.size ≤ k := by
  have HX : Hid (vn = ys.length) := by
    obtain ⟨_, _, _, e, h1, -⟩ := hv
    cases e
    exact h1
  have H0 : Hid (Both w p b L q sv R ∧ Rd w (.slice vo vn vc) ys ∧ (ys ≠ [] → ∀ k, (Value.slice vo vn vc).ownBlock = some k → k ≠ b ∧ ¬ QS q sv k)) := ⟨h, hv, hvb⟩
  clear h hv hvb
  go_enter Try.func9, Try.ntmps9
  go_upto_block 0 with (at_builtin; refine wpList_app _ rfl _ _ rfl _ _ [] ys rfl rfl ?ho ?hr ?hb ?hK)
  case ho =>
    have := OwnV.empty (w.alloc (.cells #[.int .i64 call, .string s, .slice vo vn vc, .int .i64 n] 33))
    rw [show (w.alloc (.cells #[.int .i64 call, .string s, .slice vo vn vc, .int .i64 n] 33)).heap.size = w.heap.size + 1 by simp] at this
    exact this
  case hr => exact H0.out.2.1.keep (fun k _ hk => (Below.heap_alloc _ _ _ (by simp; omega)).trans (Below.heap_alloc _ _ _ hk))
  case hb => have := HX.out; simp; omega
  case hK =>
  intro own w1 ho1 hc1 hk1
  have ho1' : OwnV w1 own ys := by simpa using ho1
  obtain ⟨go, gn, gc, rfl, hgn, hgc, hgm⟩ := ho1'.shape
  have hcw : Chg Non w w1 := (((Chg.refl Non w).alloc (.cells #[.int .i64 call, .string s, .slice vo vn vc, .int .i64 n] 33)).alloc (.cells #[] 5)).trans hc1 (fun k hk e => by have e' : some (w.heap.size + 1) = some k := e; cases e'; omega)
  have hbx : w1.heap[w.heap.size]? = some (.cells #[.int .i64 call, .string s, .slice vo vn vc, .int .i64 n] 33 (0, 0)) := by
    rw [hc1.block w.heap.size (by simp; omega) (fun e => by have e' : some (w.heap.size + 1) = some w.heap.size := e; simp at e'), Below.heap_alloc _ _ _ (by simp)]
    exact heap_alloc_new w _
  have hnew : ∀ k, (Value.slice go gn gc).ownBlock = some k → w.heap.size ≤ k := fun k e => by
    rcases hk1 with h | h
    · rw [h] at e; have e' : some (w.heap.size + 1) = some k := e; cases e'; omega
    · rw [h] at e; have e' : some (w.heap.size + 1 + 1) = some k := e; cases e'; omega
  have HM : Hid (Mid w w1 p b L q sv sv R (.slice go gn gc) ys w.heap.size #[.int .i64 call, .string s, .slice vo vn vc, .int .i64 n]) :=
    ⟨H0.out.1.non hcw, ho1', fun k e => ⟨H0.out.1.off (hnew k e), hnew k e⟩, hbx, hcw.non _, fun k e => .inl e⟩
  have hgl : gn ≤ 140737488351232 := by have := HX.out; omega
  clear ho1 hc1 hk1 ho1' hcw hbx hnew hgn hgm
  have b0 : w1.cell? ⟨w.heap.size, 0, none⟩ = some (.int .i64 call) := by rw [cell_of_row w1 w.heap.size 0 _ 33 _ HM.out.bxs]; rfl
  have b1 : w1.cell? ⟨w.heap.size, 1, none⟩ = some (.string s) := by rw [cell_of_row w1 w.heap.size 1 _ 33 _ HM.out.bxs]; rfl
  have b2 : w1.cell? ⟨w.heap.size, 2, none⟩ = some (.slice vo vn vc) := by rw [cell_of_row w1 w.heap.size 2 _ 33 _ HM.out.bxs]; rfl
  have b3 : w1.cell? ⟨w.heap.size, 3, none⟩ = some (.int .i64 n) := by rw [cell_of_row w1 w.heap.size 3 _ 33 _ HM.out.bxs]; rfl
  go_upto_block 0 with fail
  go_cut [8, 9] (fun a1 a2 wc => ∃ (code : Int) (L1 : List Ent) (sv1 : Value) (R1 : List Ent), a1 = .int .i64 code ∧ a2 = .int .i64 code ∧ Mid w wc p b L1 q sv sv1 R1 (.slice go gn gc) ys w.heap.size #[.int .i64 call, .string s, .slice vo vn vc, .int .i64 n])
  case first =>
    by_cases k0 : call = 0
    · subst k0
      go_wp2_with fail
      refine (put_post p b L s _ ys _ HM.out.both.a hs HM.out.lst.rd).mono ?_
      rintro e w2 ⟨rfl, hpost⟩
      obtain ⟨L1, hH, hL⟩ := HM.out.put1 hpost
      have HL : Hid _ := hL
      have HH : Hid (Half w w2 p b L1 q sv sv R (.slice go gn gc) ys w.heap.size #[.int .i64 0, .string s, .slice vo vn vc, .int .i64 n]) := hH
      have b1' : w2.cell? ⟨w.heap.size, 1, none⟩ = some (.string s) := by rw [cell_of_row w2 w.heap.size 1 _ 33 _ hH.bxs]; rfl
      have b2' : w2.cell? ⟨w.heap.size, 2, none⟩ = some (.slice vo vn vc) := by rw [cell_of_row w2 w.heap.size 2 _ 33 _ hH.bxs]; rfl
      have b3' : w2.cell? ⟨w.heap.size, 3, none⟩ = some (.int .i64 n) := by rw [cell_of_row w2 w.heap.size 3 _ 33 _ hH.bxs]; rfl
      have HR2 : Hid (Rd w2 (.slice vo vn vc) ys) := H0.out.2.1.keep' (fun hne k e hk => hH.chg.block k hk (fun x => by
        obtain ⟨y1, y2⟩ := H0.out.2.2 hne k e
        rcases x with x | x
        · exact y1 x
        · exact y2 x))
      clear hH hpost b0 b1 b2 b3
      go_wp2_with fail
      refine (rput_any q sv R s _ ys _ HH.out.r hs HR2.out (fun hne e => (H0.out.2.2 hne q e).2 (.inl rfl))).mono ?_
      rintro e w3 ⟨rfl, hpost⟩
      obtain ⟨sv', R', hM'⟩ := HH.out.put2 HM.out.both.same HL.out hpost
      have HF : Hid (Mid w w3 p b L1 q sv sv' R' (.slice go gn gc) ys w.heap.size #[.int .i64 0, .string s, .slice vo vn vc, .int .i64 n]) := hM'
      clear hpost hM' b1' b2' b3'
      rw [HM.out.both.same.may s.data.toList ys.length]
      go_wp2_with fail
      go_meet
      case rel => exact ⟨_, L1, sv', R', rfl, rfl, HF.out⟩
    · have k0' : (call == 0) = false := by simpa using k0
      by_cases k1 : call = 1
      · subst k1
        go_wp2_with fail
        refine (tear_any p b L s _ ys _ _ HM.out.both.a hs HM.out.lst.rd).mono ?_
        rintro e w2 ⟨rfl, hpost⟩
        obtain ⟨L1, hH, hL⟩ := HM.out.tear1 hpost
        have HL : Hid _ := hL
        have HH : Hid (Half w w2 p b L1 q sv sv R (.slice go gn gc) ys w.heap.size #[.int .i64 1, .string s, .slice vo vn vc, .int .i64 n]) := hH
        have b1' : w2.cell? ⟨w.heap.size, 1, none⟩ = some (.string s) := by rw [cell_of_row w2 w.heap.size 1 _ 33 _ hH.bxs]; rfl
        have b2' : w2.cell? ⟨w.heap.size, 2, none⟩ = some (.slice vo vn vc) := by rw [cell_of_row w2 w.heap.size 2 _ 33 _ hH.bxs]; rfl
        have b3' : w2.cell? ⟨w.heap.size, 3, none⟩ = some (.int .i64 n) := by rw [cell_of_row w2 w.heap.size 3 _ 33 _ hH.bxs]; rfl
        have HR2 : Hid (Rd w2 (.slice vo vn vc) ys) := H0.out.2.1.keep' (fun hne k e hk => hH.chg.block k hk (fun x => by
          obtain ⟨y1, y2⟩ := H0.out.2.2 hne k e
          rcases x with x | x
          · exact y1 x
          · exact y2 x))
        clear hH hpost b0 b1 b2 b3
        go_wp2_with fail
        refine (rtear_any q sv R s _ ys _ _ HH.out.r hs HR2.out (fun hne e => (H0.out.2.2 hne q e).2 (.inl rfl)) (fun hne k e e' => (H0.out.2.2 hne k e).2 (.inr e'))).mono ?_
        rintro e w3 ⟨rfl, hpost⟩
        obtain ⟨sv', R', hM'⟩ := HH.out.tear2 HM.out.both.same HL.out hpost
        have HF : Hid (Mid w w3 p b L1 q sv sv' R' (.slice go gn gc) ys w.heap.size #[.int .i64 1, .string s, .slice vo vn vc, .int .i64 n]) := hM'
        clear hpost hM' b1' b2' b3'
        rw [HM.out.both.same.tear s.data.toList ys.length n]
        go_wp2_with fail
        go_meet
        case rel => exact ⟨_, L1, sv', R', rfl, rfl, HF.out⟩
      · have k1' : (call == 1) = false := by simpa using k1
        by_cases k2 : call = 2
        · subst k2
          go_wp2_with fail
          refine (settle_any p b L s _ HM.out.both.a hs).mono ?_
          rintro e w2 ⟨rfl, hpost⟩
          obtain ⟨L1, hH, hL⟩ := HM.out.settle1 hpost
          have HL : Hid _ := hL
          have HH : Hid (Half w w2 p b L1 q sv sv R (.slice go gn gc) ys w.heap.size #[.int .i64 2, .string s, .slice vo vn vc, .int .i64 n]) := hH
          have b1' : w2.cell? ⟨w.heap.size, 1, none⟩ = some (.string s) := by rw [cell_of_row w2 w.heap.size 1 _ 33 _ hH.bxs]; rfl
          have b2' : w2.cell? ⟨w.heap.size, 2, none⟩ = some (.slice vo vn vc) := by rw [cell_of_row w2 w.heap.size 2 _ 33 _ hH.bxs]; rfl
          have b3' : w2.cell? ⟨w.heap.size, 3, none⟩ = some (.int .i64 n) := by rw [cell_of_row w2 w.heap.size 3 _ 33 _ hH.bxs]; rfl
          have HR2 : Hid (Rd w2 (.slice vo vn vc) ys) := H0.out.2.1.keep' (fun hne k e hk => hH.chg.block k hk (fun x => by
            obtain ⟨y1, y2⟩ := H0.out.2.2 hne k e
            rcases x with x | x
            · exact y1 x
            · exact y2 x))
          clear hH hpost b0 b1 b2 b3
          go_wp2_with fail
          refine (rsettle_any q sv R s _ HH.out.r).mono ?_
          rintro e w3 ⟨rfl, hpost⟩
          obtain ⟨sv', R', hM'⟩ := HH.out.settle2 HM.out.both.same HL.out hpost
          have HF : Hid (Mid w w3 p b L1 q sv sv' R' (.slice go gn gc) ys w.heap.size #[.int .i64 2, .string s, .slice vo vn vc, .int .i64 n]) := hM'
          clear hpost hM' b1' b2' b3'
          rw [HM.out.both.same.settle s.data.toList]
          go_wp2_with fail
          go_meet
          case rel => exact ⟨_, L1, sv', R', rfl, rfl, HF.out⟩
        · have k2' : (call == 2) = false := by simpa using k2
          by_cases k3 : call = 3
          · subst k3
            go_wp2_with fail
            refine (remove_any p b L s _ HM.out.both.a hs).mono ?_
            rintro e w2 ⟨rfl, hpost⟩
            obtain ⟨L1, hL1⟩ : ∃ L1, L1 = delL s.data.toList L := ⟨_, rfl⟩
            have hH := HM.out.remove1 hpost
            rw [← hL1] at hH
            have HL : Hid (L1 = delL s.data.toList L) := hL1
            clear hL1
            have HH : Hid (Half w w2 p b L1 q sv sv R (.slice go gn gc) ys w.heap.size #[.int .i64 3, .string s, .slice vo vn vc, .int .i64 n]) := hH
            have b1' : w2.cell? ⟨w.heap.size, 1, none⟩ = some (.string s) := by rw [cell_of_row w2 w.heap.size 1 _ 33 _ hH.bxs]; rfl
            have b2' : w2.cell? ⟨w.heap.size, 2, none⟩ = some (.slice vo vn vc) := by rw [cell_of_row w2 w.heap.size 2 _ 33 _ hH.bxs]; rfl
            have b3' : w2.cell? ⟨w.heap.size, 3, none⟩ = some (.int .i64 n) := by rw [cell_of_row w2 w.heap.size 3 _ 33 _ hH.bxs]; rfl
            have HR2 : Hid (Rd w2 (.slice vo vn vc) ys) := H0.out.2.1.keep' (fun hne k e hk => hH.chg.block k hk (fun x => by
              obtain ⟨y1, y2⟩ := H0.out.2.2 hne k e
              rcases x with x | x
              · exact y1 x
              · exact y2 x))
            clear hH hpost b0 b1 b2 b3
            go_wp2_with fail
            refine (rremove_any q sv R s _ HH.out.r).mono ?_
            rintro e w3 ⟨rfl, hpost⟩
            have hH2 := HH.out
            rw [HL.out] at hH2
            obtain ⟨sv', R', hM'⟩ := hH2.remove2 HM.out.both.same hpost
            rw [← HL.out] at hM'
            clear hH2
            have HF : Hid (Mid w w3 p b L1 q sv sv' R' (.slice go gn gc) ys w.heap.size #[.int .i64 3, .string s, .slice vo vn vc, .int .i64 n]) := hM'
            clear hpost hM' b1' b2' b3'
            rw [HM.out.both.same.remove s.data.toList]
            go_wp2_with fail
            go_meet
            case rel => exact ⟨_, L1, sv', R', rfl, rfl, HF.out⟩
          · have k3' : (call == 3) = false := by simpa using k3
            go_wp2_with fail
            go_meet
            case rel => exact ⟨0, L, sv, R, rfl, rfl, HM.out⟩
  case rest =>
    obtain ⟨code, L1, sv1, R1, rfl, rfl, hM⟩ := hcut
    have HC : Hid (Mid w wc p b L1 q sv sv1 R1 (.slice go gn gc) ys w.heap.size #[.int .i64 call, .string s, .slice vo vn vc, .int .i64 n]) := hM
    obtain ⟨w4, hw4⟩ : ∃ w4, w4 = wc := ⟨_, rfl⟩
    subst hw4
    clear hM HM b0 b1 b2 b3
    go_wp2_with fail
    go_loopw [10] (fun i wr => ∃ (k : Nat) (zs : List Int), k ≤ gn ∧ i = .int .i64 k ∧ OwnV wr (.slice go gn gc) zs ∧ Chg (fun q => (Value.slice go gn gc).ownBlock = some q) w4 wr)
      (fun i _ => gn - (intOf i).toNat)
    case atStart => exact ⟨0, ys, Nat.zero_le _, rfl, HC.out.lst, Chg.refl _ _⟩
    case round =>
      obtain ⟨k, zs, hk, rfl, ho, hc⟩ := hrel
      by_cases hlt : k < gn
      · have hsh : ∃ g off, go = some ⟨g, off, none⟩ ∧ Own wr g off gn gc zs := by
          rcases ho with ⟨e, _⟩ | ⟨g, off, n', c', e, h⟩
          · cases e; omega
          · cases e; exact ⟨g, off, rfl, h⟩
        obtain ⟨g, off, rfl, ho'⟩ := hsh
        obtain ⟨bb, hb⟩ := ho'.at k hlt
        have hfr := ho'.free (off + k)
        have HO : Hid (Own wr g off gn gc zs ∧ Chg (fun q => (Value.slice (some ⟨g, off, none⟩) gn gc).ownBlock = some q) w4 wr) := ⟨ho', hc⟩
        clear ho ho' hc
        go_wp2
        go_roundw
        case rel => exact ⟨k + 1, _, by omega, by go_num, .inr ⟨_, _, _, _, rfl, HO.out.1.set k hlt _⟩, HO.out.2.setCell (p := ⟨g, off + k, none⟩) (fun _ => rfl) _⟩
        case measure => simp [intOf]; omega
      · have H5 : Hid (Both wr p b L1 q sv1 R1 ∧ Chg (DS b q sv) w wr ∧ (∀ k, sv1.ownBlock = some k → sv.ownBlock = some k ∨ w.heap.size ≤ k) ∧ wr.heap[w.heap.size]? = some (.cells #[.int .i64 call, .string s, .slice vo vn vc, .int .i64 n] 33 (0, 0))) := by
          refine ⟨HC.out.both.chg hc (fun q e => (HC.out.off q e).1), HC.out.chg.trans hc (fun i hi e => by have := (HC.out.off i e).2; omega), HC.out.row, ?_⟩
          rw [hc.block w.heap.size (Array.getElem?_eq_some_iff.1 HC.out.bxs).1 (fun e => by
            obtain ⟨cur, hcur⟩ := HC.out.lst.blk _ e
            rw [HC.out.bxs] at hcur
            cases hcur)]
          exact HC.out.bxs
        clear ho hc HC
        have hge : ¬ (k : Int) < gn := by omega
        have b1 : wr.cell? ⟨w.heap.size, 1, none⟩ = some (.string s) := by rw [cell_of_row wr w.heap.size 1 _ 33 _ H5.out.2.2.2]; rfl
        go_wp2_with fail
        refine (read_any p b L1 s _ H5.out.1.a hs).mono ?_
        rintro e w6 ⟨v6, rfl, ho6, hc6, hk6⟩
        obtain ⟨xo, xn, xc, rfl, hxn, -⟩ := ho6.shape
        have H6 : Hid (Both w6 p b L1 q sv1 R1 ∧ Chg (DS b q sv) w w6 ∧ (∀ k, sv1.ownBlock = some k → sv.ownBlock = some k ∨ w.heap.size ≤ k) ∧ w6.heap[w.heap.size]? = some (.cells #[.int .i64 call, .string s, .slice vo vn vc, .int .i64 n] 33 (0, 0)) ∧ OwnV w6 (.slice xo xn xc) (seenL s.data.toList L1) ∧ (∀ k, (Value.slice xo xn xc).ownBlock = some k → OffB p b L1 q sv1 R1 k ∧ w.heap.size < k)) :=
          ⟨H5.out.1.non hc6, H5.out.2.1.trans (hc6.non _) (fun _ _ x => x), H5.out.2.2.1, (hc6.block _ (Array.getElem?_eq_some_iff.1 H5.out.2.2.2).1 (fun x => x)).trans H5.out.2.2.2, ho6, fun k e => ⟨H5.out.1.off (hk6 k e), Nat.lt_of_lt_of_le (Array.getElem?_eq_some_iff.1 H5.out.2.2.2).1 (hk6 k e)⟩⟩
        have hxl : xn ≤ 140737488351232 := by
          have := seen_len H5.out.1.a s.data.toList
          omega
        clear ho6 hc6 hk6 hxn H5 b1
        have b1 : w6.cell? ⟨w.heap.size, 1, none⟩ = some (.string s) := by rw [cell_of_row w6 w.heap.size 1 _ 33 _ H6.out.2.2.2.1]; rfl
        go_wp2_with fail
        refine (rread_any q sv1 R1 s _ H6.out.1.r).mono ?_
        rintro e w7 ⟨v7, rfl, ho7, hc7, hk7⟩
        obtain ⟨zo, zn, zc, rfl, -⟩ := ho7.shape
        rw [← H6.out.1.same.seen s.data.toList] at ho7
        have hx7 := H6.out.2.2.2.2.1.keep (w' := w7) (fun k e => hc7.block k (H6.out.2.2.2.2.1.lt k e) (fun x => x))
        have hT0 := run_str w7 _ _ hx7.rd
        have hT1 := run_str w7 _ _ ho7.rd
        have H7 : Hid (Both w7 p b L1 q sv1 R1 ∧ Chg (DS b q sv) w w7 ∧ (∀ k, sv1.ownBlock = some k → sv.ownBlock = some k ∨ w.heap.size ≤ k) ∧ w7.heap[w.heap.size]? = some (.cells #[.int .i64 call, .string s, .slice vo vn vc, .int .i64 n] 33 (0, 0)) ∧ OwnV w7 (.slice xo xn xc) (seenL s.data.toList L1) ∧ (∀ k, (Value.slice xo xn xc).ownBlock = some k → OffB p b L1 q sv1 R1 k ∧ w.heap.size < k)) :=
          ⟨H6.out.1.non hc7, H6.out.2.1.trans (hc7.non _) (fun _ _ x => x), H6.out.2.2.1, (hc7.block _ (Array.getElem?_eq_some_iff.1 H6.out.2.2.2.1).1 (fun x => x)).trans H6.out.2.2.2.1, hx7, H6.out.2.2.2.2.2⟩
        rw [H6.out.1.same.read s.data.toList]
        generalize strOfNums (seenL s.data.toList L1) = sx at hT0 hT1
        generalize readR s.data.toList R1 = rc
        clear ho7 hc7 hk7 hx7 H6 b1
        go_wp2_with fail
        clear hT0 hT1
        go_loopw [16] (fun i wr => ∃ (k : Nat) (zs : List Int), k ≤ xn ∧ i = .int .i64 k ∧ OwnV wr (.slice xo xn xc) zs ∧ Chg (fun q => (Value.slice xo xn xc).ownBlock = some q) w7 wr)
          (fun i _ => xn - (intOf i).toNat)
        case atStart => exact ⟨0, _, Nat.zero_le _, rfl, H7.out.2.2.2.2.1, Chg.refl _ _⟩
        case round =>
          obtain ⟨k, zs, hk, rfl, ho, hc⟩ := hrel
          by_cases hlt : k < xn
          · have hsh : ∃ g off, xo = some ⟨g, off, none⟩ ∧ Own wr g off xn xc zs := by
              rcases ho with ⟨e, _⟩ | ⟨g, off, n', c', e, h⟩
              · cases e; omega
              · cases e; exact ⟨g, off, rfl, h⟩
            obtain ⟨g, off, rfl, ho'⟩ := hsh
            obtain ⟨bb, hb⟩ := ho'.at k hlt
            have hfr := ho'.free (off + k)
            have HO : Hid (Own wr g off xn xc zs ∧ Chg (fun q => (Value.slice (some ⟨g, off, none⟩) xn xc).ownBlock = some q) w7 wr) := ⟨ho', hc⟩
            clear ho ho' hc
            go_wp2
            go_roundw
            case rel => exact ⟨k + 1, _, by omega, by go_num, .inr ⟨_, _, _, _, rfl, HO.out.1.set k hlt _⟩, HO.out.2.setCell (p := ⟨g, off + k, none⟩) (fun _ => rfl) _⟩
            case measure => simp [intOf]; omega
          · have H8 : Hid (Both wr p b L1 q sv1 R1 ∧ Chg (DS b q sv) w wr ∧ (∀ k, sv1.ownBlock = some k → sv.ownBlock = some k ∨ w.heap.size ≤ k) ∧ wr.heap[w.heap.size]? = some (.cells #[.int .i64 call, .string s, .slice vo vn vc, .int .i64 n] 33 (0, 0))) := by
              refine ⟨H7.out.1.chg hc (fun q e => (H7.out.2.2.2.2.2 q e).1), H7.out.2.1.trans hc (fun i hi e => by have := (H7.out.2.2.2.2.2 i e).2; omega), H7.out.2.2.1, ?_⟩
              rw [hc.block w.heap.size (Array.getElem?_eq_some_iff.1 H7.out.2.2.2.1).1 (fun e => by have := (H7.out.2.2.2.2.2 _ e).2; omega)]
              exact H7.out.2.2.2.1
            clear ho hc H7
            have hge : ¬ (k : Int) < xn := by omega
            have b1 : wr.cell? ⟨w.heap.size, 1, none⟩ = some (.string s) := by rw [cell_of_row wr w.heap.size 1 _ 33 _ H8.out.2.2.2]; rfl
            have hq1 : ∀ m, Calls Try.prog 16 #[.pointer (some ⟨p, 0, none⟩), .string s] (wr.drewN m) fun e w' => e = .returned (.bool (tornL s.data.toList R1)) ∧ w' = wr.drewN m := fun m => by
              rw [← H8.out.1.same.torn s.data.toList]
              exact torn_any p b L1 s _ (H8.out.1.a.non (drewN_chg wr m)) hs
            have hq2 : ∀ m, Calls Try.prog 23 #[.pointer (some ⟨q, 0, none⟩), .string s] (wr.drewN m) fun e w' => e = .returned (.bool (tornL s.data.toList R1)) ∧ ∃ j, w' = (wr.drewN m).drewN j := fun m => rtorn_any q sv1 R1 s _ (H8.out.1.r.drewN m)
            generalize tornL s.data.toList R1 = tt at hq1 hq2
            go_wp2_with fail
            go_quiet (first | (go_at_call 16; exact Calls.quiet_of_same (hq1 _)) | (go_at_call 23; exact Calls.quiet_of (hq2 _)))
            go_wp2
            go_ret
            exact ⟨rfl, L1, sv1, R1, H8.out.1.non (drewN_chg wr _), H8.out.2.1.trans ((drewN_chg wr _).non _) (fun _ _ x => x), H8.out.2.2.1⟩
end Go.Proofs.Ytpabijfamnghjaa
