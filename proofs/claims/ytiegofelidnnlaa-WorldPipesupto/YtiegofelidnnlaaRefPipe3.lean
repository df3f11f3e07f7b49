/-
  The document's pipe: Read.
-/
import Derived.Test.YtiegofelidnnlaaRefPipe2
namespace Go.Proofs.Ytiegofelidnnlaa
open Go.RowKit
set_option linter.unusedVariables false

set_option maxHeartbeats 400000 in
theorem refRead_broken (p : Nat) (room : Int) (vf va : Value) (f a : List Int) (cl : Bool) (n : Int) (w : World) (h : PipeB w p room vf va f a cl true) :
    Calls Try.prog 35 #[.pointer (some ⟨p, 0, none⟩), .int .i64 n] w fun e w' => e = .returned (.tuple #[.slice none 0 0, .int .i64 3]) ∧ w' = w := by
  obtain ⟨c0, c1, c2, c3, c4⟩ := h.cells
  clear h
  go_enter Try.func35, Try.ntmps35
  go_wp2
  go_ret2
  exact ⟨rfl, rfl⟩

set_option maxHeartbeats 400000 in
theorem refRead_ended (p : Nat) (room : Int) (vf va : Value) (n : Int) (w : World) (h : PipeB w p room vf va [] [] true false) :
    Calls Try.prog 35 #[.pointer (some ⟨p, 0, none⟩), .int .i64 n] w fun e w' => e = .returned (.tuple #[.slice none 0 0, .int .i64 2]) ∧ w' = w := by
  obtain ⟨fo, fc, rfl⟩ := h.fly.nil_len
  obtain ⟨ao, ac, rfl⟩ := h.arr.nil_len
  obtain ⟨c0, c1, c2, c3, c4⟩ := h.cells
  clear h
  go_enter Try.func35, Try.ntmps35
  go_wp2
  go_ret2
  exact ⟨rfl, rfl⟩

set_option maxHeartbeats 1000000 in
theorem refRead_open (p : Nat) (room : Int) (vf va : Value) (f a : List Int) (cl : Bool) (n : Int) (w : World) (h : PipeB w p room vf va f a cl false) (hl : f.length + a.length ≤ 140737488355328) (hne : cl = true → 0 < f.length + a.length) :
    Calls Try.prog 35 #[.pointer (some ⟨p, 0, none⟩), .int .i64 n] w fun e w' => ∃ K : Nat, (K : Int) = max 0 (min n a.length) ∧ ∃ v va', e = .returned (.tuple #[v, .int .i64 1]) ∧ OwnV w' v (a.take K) ∧ PipeB w' p room vf va' f (a.drop K) cl false ∧ Chg (One p) w w' ∧ (∀ k, v.ownBlock = some k → w.heap.size ≤ k) ∧ ∀ k, va'.ownBlock = some k → w.heap.size ≤ k := by
  obtain ⟨K, hK⟩ : ∃ K : Nat, (K : Int) = max 0 (min n a.length) := ⟨(max 0 (min n a.length)).toNat, by omega⟩
  obtain ⟨fo, fc, rfl, hfc, hfm⟩ := h.fly.len
  obtain ⟨ao, ac, rfl, hac, ham⟩ := h.arr.len
  obtain ⟨c0, c1, c2, c3, c4⟩ := h.cells
  have hfr := h.free
  have HH : Hid (PipeB w p room (.slice fo f.length fc) (.slice ao a.length ac) f a cl false) := h
  have HK : Hid ((K : Int) = max 0 (min n a.length)) := hK
  have hKA : K ≤ a.length := by omega
  have hplt := h.lt
  unfold maxLen at ham hfm
  have HR : Hid (Rd w (.slice ao a.length ac) a) := h.arr.rd
  generalize hF : f.length = F at *
  generalize hA : a.length = A at *
  have HA : Hid (a.length = A) := hA
  have hd2 : (w.alloc (.cells #[] 5)).cell? ⟨p, 2, none⟩ = some (.slice ao A ac) := by
    rw [← c2]; exact World.cell?_of_block (Below.heap_alloc _ _ _ hplt)
  have hKc : (K : Int) ≤ ac := by omega
  have hKA' : (K : Int) ≤ A := by omega
  clear h hK hA hF
  go_enter Try.func35, Try.ntmps35
  go_upto_region 3 with fail
  go_cut [30] (fun t wc => t = .bool false ∧ wc = w)
  case first =>
    cases hcl : cl with
    | false =>
      subst hcl
      clear hne
      go_wp2_with fail
      go_meet
      case rel => exact ⟨rfl, rfl⟩
    | true =>
      subst hcl
      have hne' := hne rfl
      clear hne
      by_cases hF0 : F = 0
      · subst hF0
        have hA0 : ((A : Int) == 0) = false := by simp; omega
        go_wp2_with fail
        go_meet
        case rel => exact ⟨rfl, rfl⟩
      · have hF1 : ((F : Int) == 0) = false := by simp; omega
        go_wp2_with fail
        go_meet
        case rel => exact ⟨rfl, rfl⟩
  case rest =>
    obtain ⟨rfl, rfl⟩ := hcut
    clear hne
    go_upto_if 37 with fail
    go_cut [1] (fun t wq => ∃ n1 : Int, t = .int .i64 n1 ∧ n1 = min n A ∧ wq = wc)
    case first =>
      by_cases hb : n > (A : Int)
      · go_wp2_with fail
        go_meet
        case rel => exact ⟨_, rfl, by omega, rfl⟩
      · go_wp2_with fail
        go_meet
        case rel => exact ⟨_, rfl, by omega, rfl⟩
    case rest =>
      obtain ⟨n1, rfl, hn1, rfl⟩ := hcut
      have HN1 : Hid (n1 = min n A) := hn1
      clear hn1
      go_upto_if 44 with fail
      go_cut [1] (fun t wq => t = .int .i64 K ∧ wq = wc)
      case first =>
        by_cases hb : n1 < 0
        · go_wp2_with fail
          go_meet
          case rel => exact ⟨by have := HN1.out; have := HK.out; congr 1; omega, rfl⟩
        · go_wp2_with fail
          go_meet
          case rel => exact ⟨by have := HN1.out; have := HK.out; congr 1; omega, rfl⟩
      case rest =>
        obtain ⟨rfl, rfl⟩ := hcut
        go_wp2_with (at_builtin; refine wpList_app _ rfl (.tmp 45) (.tmp 51) rfl _ (.slice ao K ac) [] (a.take K) rfl rfl (OwnV.empty _) ((rd_takeO HR.out hKA).alloc _) (by simp; omega) ?_)
        intro v1 w1 ho1 hc1 hk1
        have hA1 := new_first2 (((Chg.refl Non wc).alloc _)) hc1 hk1
        obtain ⟨o1, m1, b1, rfl, -⟩ := ho1.rd.shape
        have hP1 := HH.out.kept hA1.1 (fun e => e) (fun _ _ e => e) (fun _ _ e => e)
        have H1 : Hid (OwnV w1 (.slice o1 m1 b1) (a.take K) ∧ Chg Non wc w1 ∧ (∀ k, (Value.slice o1 m1 b1).ownBlock = some k → wc.heap.size ≤ k) ∧ PipeB w1 p room (.slice fo F fc) (.slice ao A ac) f a cl false) := ⟨ho1, hA1.1, hA1.2, hP1⟩
        clear c0 c1 c2 c3 c4 hfr hd2 ho1 hc1 hk1 hA1
        obtain ⟨c0, c1, c2, c3, c4⟩ := hP1.cells
        have hfr := hP1.free
        have hplt1 := hP1.lt
        have hd1 : (w1.alloc (.cells #[] 5)).cell? ⟨p, 2, none⟩ = some (.slice ao A ac) := by
          rw [← c2]; exact World.cell?_of_block (Below.heap_alloc _ _ _ hplt1)
        clear hP1
        have hlf : (a.drop K).length ≤ 140737488355328 := by simp; have := HA.out; omega
        have HQ : Hid (∀ (v3 : Value) (w3 : World), OwnV w3 v3 (a.drop K) → Chg Non w1 w3 → OwnV (w3.setCell ⟨p, 2, none⟩ v3) (.slice o1 m1 b1) (a.take K) ∧ PipeB (w3.setCell ⟨p, 2, none⟩ v3) p room (.slice fo F fc) v3 f (a.drop K) cl false ∧ Chg (One p) wc (w3.setCell ⟨p, 2, none⟩ v3)) := by
          intro v3 w3 ho3 hc3
          obtain ⟨ho, hc, hk, hP⟩ := H1.out
          have hO := ho.keep (fun k e => hc3.block k (ho.lt k e) (fun e => e))
          have hB := (hc3.block p hP.lt (fun e => e)).trans hP.blk
          exact ⟨hO.store (hO.ne hB (by decide)) 2 _, PipeB.setArr hB (hP.fly.keep (fun k e => hc3.block k (hP.fly.lt k e) (fun e => e))) ho3, ((hc.trans hc3 (fun _ _ e => e)).non (One p)).trans (Chg.one _ p 2 _) (fun _ _ e => e)⟩
        rcases Decidable.em (ac = K) with hfk | hfk
        · have hfk2 := hfk.symm
          clear hfk
          subst hfk2
          obtain rfl : K = A := by omega
          have hrdz : Rd w1 (.slice ao 0 0) (a.drop K) := by
            have := rd_dropE H1.out.2.2.2.arr.rd hKA
            rwa [Nat.sub_self] at this
          have HRZ : Hid (Rd w1 (.slice ao 0 0) (a.drop K)) := hrdz
          clear hrdz
          go_wp2_with (at_builtin; refine wpList_app _ rfl (.tmp 54) (.tmp 60) rfl _ (.slice ao 0 0) [] (a.drop K) rfl rfl (OwnV.empty _) (HRZ.out.alloc _) (by simpa using hlf) ?_)
          intro v3 w3 ho3 hc3 hk3
          have hA := new_first2 (((Chg.refl Non w1).alloc _)) hc3 hk3
          obtain ⟨ao3, n3, cc3, rfl, -⟩ := ho3.rd.shape
          have hb3 := (hA.1.block p H1.out.2.2.2.lt (fun e => e)).trans H1.out.2.2.2.blk
          have g1 : w3.cell? ⟨p, 2, none⟩ = some (.slice ao K K) := by rw [cell_of_row w3 p 2 _ 72 (0, 0) hb3]; rfl
          have g2 : w3.frozen? ⟨p, 2, none⟩ = false := by simp [World.frozen?, hb3]
          have H5 : Hid (OwnV (w3.setCell ⟨p, 2, none⟩ (.slice ao3 n3 cc3)) (.slice o1 m1 b1) (a.take K) ∧ PipeB (w3.setCell ⟨p, 2, none⟩ (.slice ao3 n3 cc3)) p room (.slice fo F fc) (.slice ao3 n3 cc3) f (a.drop K) cl false ∧ Chg (One p) wc (w3.setCell ⟨p, 2, none⟩ (.slice ao3 n3 cc3))) := HQ.out _ w3 ho3 hA.1
          have H6 : Hid (∀ k, (Value.slice ao3 n3 cc3).ownBlock = some k → wc.heap.size ≤ k) := fun k e => Nat.le_trans H1.out.2.1.size (hA.2 k e)
          clear ho3 hc3 hk3 hA hb3 c0 c1 c2 c3 c4 hfr hd1
          go_wp2
          go_ret2
          exact ⟨K, HK.out, _, _, rfl, H5.out.1, H5.out.2.1, H5.out.2.2, H1.out.2.2.1, H6.out⟩
        · go_wp2_with (at_builtin; refine wpList_app _ rfl (.tmp 54) (.tmp 60) rfl _ _ [] (a.drop K) rfl rfl (OwnV.empty _) ((rd_dropN H1.out.2.2.2.arr.rd hKA hfk).alloc _) (by simpa using hlf) ?_)
          intro v3 w3 ho3 hc3 hk3
          have hA := new_first2 (((Chg.refl Non w1).alloc _)) hc3 hk3
          obtain ⟨ao3, n3, cc3, rfl, -⟩ := ho3.rd.shape
          have hb3 := (hA.1.block p H1.out.2.2.2.lt (fun e => e)).trans H1.out.2.2.2.blk
          have g1 : w3.cell? ⟨p, 2, none⟩ = some (.slice ao A ac) := by rw [cell_of_row w3 p 2 _ 72 (0, 0) hb3]; rfl
          have g2 : w3.frozen? ⟨p, 2, none⟩ = false := by simp [World.frozen?, hb3]
          have H5 : Hid (OwnV (w3.setCell ⟨p, 2, none⟩ (.slice ao3 n3 cc3)) (.slice o1 m1 b1) (a.take K) ∧ PipeB (w3.setCell ⟨p, 2, none⟩ (.slice ao3 n3 cc3)) p room (.slice fo F fc) (.slice ao3 n3 cc3) f (a.drop K) cl false ∧ Chg (One p) wc (w3.setCell ⟨p, 2, none⟩ (.slice ao3 n3 cc3))) := HQ.out _ w3 ho3 hA.1
          have H6 : Hid (∀ k, (Value.slice ao3 n3 cc3).ownBlock = some k → wc.heap.size ≤ k) := fun k e => Nat.le_trans H1.out.2.1.size (hA.2 k e)
          clear ho3 hc3 hk3 hA hb3 c0 c1 c2 c3 c4 hfr hd1
          go_wp2
          go_ret2
          exact ⟨K, HK.out, _, _, rfl, H5.out.1, H5.out.2.1, H5.out.2.2, H1.out.2.2.1, H6.out⟩
end Go.Proofs.Ytiegofelidnnlaa
