/-
  The document's pipe, more: Write, Move, Read, Alter.
-/
import Derived.Test.YtiegofelidnnlaaRefPipe
namespace Go.Proofs.Ytiegofelidnnlaa
open Go.RowKit
set_option linter.unusedVariables false

/-- What a list in new memory gives, behind an empty one and a source. -/
theorem app_new {w w1 w2 : World} {v v' : Value} (hw : Chg Non w w1) (hc : Chg (fun k => v.ownBlock = some k) w1 w2) (hv : ∀ k, v.ownBlock = some k → w.heap.size ≤ k) (hb : v'.ownBlock = v.ownBlock ∨ v'.ownBlock = some w1.heap.size) :
    Chg Non w w2 ∧ ∀ k, v'.ownBlock = some k → w.heap.size ≤ k := by
  refine ⟨hw.trans hc (fun i hi e => by have := hv i e; omega), fun k e => ?_⟩
  have hs := hw.size
  rcases hb with h | h
  · rw [h] at e; exact hv k e
  · rw [h] at e; cases e; exact hs

/-- An empty list in new memory, and something behind it. -/
theorem new_first {wc X w1 : World} {v1 : Value} (hX : Chg Non wc X) (hc : Chg (fun k => (Value.slice (some ⟨wc.heap.size, 0, none⟩) 0 0).ownBlock = some k) X w1)
    (hb : v1.ownBlock = (Value.slice (some ⟨wc.heap.size, 0, none⟩) 0 0).ownBlock ∨ v1.ownBlock = some X.heap.size) : Chg Non wc w1 ∧ ∀ k, v1.ownBlock = some k → wc.heap.size ≤ k :=
  app_new hX hc (fun k e => by simp [Value.ownBlock] at e; omega) hb

theorem new_first2 {wc X w1 : World} {v1 : Value} (hX : Chg Non wc X) (hc : Chg (fun k => (Value.slice (some ⟨wc.heap.size, 0, none⟩) 0 0).ownBlock = some k) X w1)
    (hb : v1.ownBlock = (Value.slice (some ⟨wc.heap.size, 0, none⟩) 0 0).ownBlock ∨ v1.ownBlock = some (wc.heap.size + 1)) : Chg Non wc w1 ∧ ∀ k, v1.ownBlock = some k → wc.heap.size ≤ k := by
  refine ⟨hX.trans hc (fun i hi e => by simp [Value.ownBlock] at e; omega), fun k e => ?_⟩
  rcases hb with h | h <;> rw [h] at e <;> simp [Value.ownBlock] at e <;> omega

set_option maxHeartbeats 1000000 in
theorem refWrite_any (p : Nat) (room : Int) (vf va : Value) (f a : List Int) (cl br : Bool) (so : Option Addr) (sn sc : Nat) (ys : List Int) (w : World) (h : PipeB w p room vf va f a cl br) (hl : f.length + a.length ≤ 70368744177664) (hr : 0 ≤ room ∧ room ≤ 65536)
    (hs : Rd w (.slice so sn sc) ys) (hl3 : ys.length ≤ 140737488355328) :
    Calls Try.prog 31 #[.pointer (some ⟨p, 0, none⟩), .slice so sn sc] w fun e w' => ∃ K : Nat, (K : Int) = min (ys.length : Int) (roomOf room (f.length + a.length) cl br) ∧ e = .returned (.int .i64 K) ∧ ∃ vf', PipeB w' p room vf' va (f ++ ys.take K) a cl br ∧ Chg (One p) w w' ∧ ∀ k, vf'.ownBlock = some k → w.heap.size ≤ k := by
  have hr0 : 0 ≤ roomOf room (f.length + a.length) cl br ∧ roomOf room (f.length + a.length) cl br ≤ 65536 := by
    unfold roomOf; split <;> omega
  have hroom := refRoom_any p room vf va f a cl br w h (by omega) hr
  obtain ⟨K, hK⟩ : ∃ K : Nat, (K : Int) = min (ys.length : Int) (roomOf room (f.length + a.length) cl br) := ⟨(min (ys.length : Int) (roomOf room (f.length + a.length) cl br)).toNat, by omega⟩
  generalize hRm : roomOf room (f.length + a.length) cl br = R at *
  have hsn : sn = ys.length ∧ sn ≤ sc ∧ sc ≤ maxLen := by
    obtain ⟨_, _, _, e, h1, h2, h3, _⟩ := hs; cases e; exact ⟨h1, h2, h3⟩
  obtain ⟨hsn1, hsn2, hsn3⟩ := hsn
  unfold maxLen at hsn3
  have HH : Hid (PipeB w p room vf va f a cl br ∧ Rd w (.slice so sn sc) ys ∧ sn = ys.length) := ⟨h, hs, hsn1⟩
  have HK : Hid ((K : Int) = min (ys.length : Int) R) := hK
  have hK1 : K ≤ sn := by omega
  have hK2 : K ≤ 65536 := by omega
  have hsn4 : sn ≤ 140737488355328 := by omega
  have hmin : (R ≤ (sn : Int) ∧ R = K) ∨ ((sn : Int) < R ∧ sn = K) := by omega
  clear h hs hsn1 hK hRm hr0 hr
  go_enter Try.func31, Try.ntmps31
  go_wp2_with fail
  refine hroom.mono ?_
  rintro e w1 ⟨rfl, n1, hw1⟩
  have HW1 : Hid (∃ n, w1 = w.drewN n) := ⟨n1, hw1⟩
  clear hw1 hroom
  go_upto_if 11 with fail
  go_cut [5] (fun t wc => t = .int .i64 K ∧ wc = w1)
  case first =>
    rcases hmin with ⟨hm1, hm2⟩ | ⟨hm1, hm2⟩
    · have HM : Hid (R = K) := hm2
      clear hm2
      go_wp2_with fail
      go_meet
      case rel => exact ⟨by rw [HM.out], rfl⟩
    · have HM : Hid (sn = K) := hm2
      clear hm2
      go_wp2_with fail
      go_meet
      case rel => exact ⟨by rw [HM.out], rfl⟩
  case rest =>
    obtain ⟨rfl, rfl⟩ := hcut
    obtain ⟨n1, hw1⟩ := HW1.out
    have hP := HH.out.1.drewN n1
    rw [← hw1] at hP
    have hc1 : Chg Non w wc := by rw [hw1]; exact ⟨rfl, rfl, rfl, Nat.le_refl _, fun _ _ _ => rfl⟩
    have hS := rd_first HH.out.2.1 hc1
    have hs1 : w.heap.size ≤ wc.heap.size := hc1.size
    clear hw1 hmin HW1
    obtain ⟨c0, c1, c2, c3, c4⟩ := hP.cells
    have hfr := hP.free
    have hKc : (K : Int) ≤ sc := by omega
    have HP : Hid (PipeB wc p room vf va f a cl br ∧ Rd wc (.slice so sn sc) ys ∧ Chg Non w wc) := ⟨hP, hS, hc1⟩
    clear hP hS hc1
    have d1 : (wc.alloc (.cells #[] 5)).cell? ⟨p, 1, none⟩ = some vf := by
      rw [← c1]; exact World.cell?_of_block (Below.heap_alloc _ _ _ HP.out.1.lt)
    go_wp2_with fail
    go_region_law (first
      | (refine step_app rfl (.tmp 15) (.tmp 19) rfl _ vf [] f rfl rfl ?_ ?_ ?_ ?_; (exact (OwnV.empty _).drew); (exact (HP.out.1.fly.rd.alloc _).drew); (simp; omega); intro v1 w1 ho1 hc1 hk1; have hA1 := new_first (((Chg.refl Non wc).alloc _).drew) hc1 hk1)
      | (refine step_app rfl (.tmp 20) (.tmp 23) rfl _ (.slice so K sc) f (ys.take K) rfl rfl ?_ ?_ ?_ ?_; (assumption); (exact rd_takeO (rd_first HP.out.2.1 hA1.1) hK1); (simp; omega); intro v2 w2 ho2 hc2 hk2; have hA2 := app_new hA1.1 hc2 hA1.2 hk2; obtain ⟨ao2, n2, cc2, rfl, -⟩ := ho2.rd.shape; have hb2 := (hA2.1.block p HP.out.1.lt (fun e => e)).trans HP.out.1.blk; have e1' : w2.cell? ⟨p, 1, none⟩ = some vf := (by rw [cell_of_row w2 p 1 _ 72 (0, 0) hb2]; rfl); have e2' : w2.frozen? ⟨p, 1, none⟩ = false := (by simp [World.frozen?, hb2])))
    all_goals
      have HF : Hid (OwnV w2 (.slice ao2 n2 cc2) (f ++ ys.take K) ∧ Chg Non wc w2 ∧ w2.heap[p]? = some (.cells #[.int .i64 room, vf, va, .bool cl, .bool br] 72 (0, 0)) ∧ ∀ k, (Value.slice ao2 n2 cc2).ownBlock = some k → wc.heap.size ≤ k) := ⟨ho2, hA2.1, hb2, hA2.2⟩
      clear ho2 hA2 hb2 ho1 hc1 hk1 hA1 hc2 hk2 c0 c1 c2 c3 c4 hfr d1
      go_wp2
      go_ret
      obtain ⟨ho, hc, hb, hnew⟩ := HF.out
      obtain ⟨hP, hS, hcw⟩ := HP.out
      exact ⟨K, HK.out, rfl, _, PipeB.setFly hb (hP.arr.keep (fun k e => hc.block k (hP.arr.lt k e) (fun e => e))) ho, ((hcw.trans hc (fun _ _ e => e)).non (One p)).trans (Chg.one _ p 1 _) (fun _ _ e => e), fun k e => Nat.le_trans hs1 (hnew k e)⟩

theorem rd_dropO {w : World} {ao : Option Addr} {n c m : Nat} {l : List Int} (h : Rd w (.slice ao n c) l) (hm : m ≤ n) : Rd w (.slice (if c = m then ao else ao.map (fun x => x.add m)) (n - m) (c - m)) (l.drop m) := by
  obtain ⟨ao', n', c', e, hn, hc, hmx, h0, hx⟩ := h
  cases e
  by_cases hcm : c = m
  · rw [if_pos hcm]
    refine ⟨_, _, _, rfl, by simp; omega, by omega, by omega, fun e => by have := h0 e; omega, fun y e j u hj => ?_⟩
    rw [List.getElem?_drop] at hj
    have := (List.getElem?_eq_some_iff.1 hj).1
    omega
  · rw [if_neg hcm]
    refine ⟨_, _, _, rfl, by simp; omega, by omega, by omega, fun e => ?_, fun y e j u hj => ?_⟩
    · cases ao with
      | none => have := h0 rfl; omega
      | some x => simp at e
    · cases ao with
      | none => simp at e
      | some x =>
        simp at e
        subst e
        rw [List.getElem?_drop] at hj
        rw [← hx x rfl (m + j) u hj]
        congr 1
        unfold Addr.add
        by_cases hf0 : m = 0 <;> by_cases hj0 : j = 0 <;> simp [hf0, hj0, Nat.add_assoc]

theorem rd_dropE {w : World} {ao : Option Addr} {n m : Nat} {l : List Int} (h : Rd w (.slice ao n m) l) (hm : m ≤ n) : Rd w (.slice ao (n - m) 0) (l.drop m) := by
  have := rd_dropO h hm
  rwa [if_pos rfl, Nat.sub_self] at this

theorem rd_dropN {w : World} {ao : Option Addr} {n c m : Nat} {l : List Int} (h : Rd w (.slice ao n c) l) (hm : m ≤ n) (hc : ¬ c = m) : Rd w (.slice (ao.map (fun x => x.add m)) (n - m) (c - m)) (l.drop m) := by
  have := rd_dropO h hm
  rwa [if_neg hc] at this

set_option maxHeartbeats 1000000 in
theorem refMove_any (p : Nat) (room : Int) (vf va : Value) (f a : List Int) (cl br : Bool) (n : Int) (w : World) (h : PipeB w p room vf va f a cl br) (hl : f.length + a.length ≤ 140737488355328) :
    Calls Try.prog 32 #[.pointer (some ⟨p, 0, none⟩), .int .i64 n] w fun e w' => ∃ K : Nat, (K : Int) = max 0 (min n f.length) ∧ e = .returned (.int .i64 K) ∧ ∃ vf' va', PipeB w' p room vf' va' (f.drop K) (a ++ f.take K) cl br ∧ Chg (One p) w w' := by
  obtain ⟨K, hK⟩ : ∃ K : Nat, (K : Int) = max 0 (min n f.length) := ⟨(max 0 (min n f.length)).toNat, by omega⟩
  obtain ⟨fo, fc, rfl, hfc, hfm⟩ := h.fly.len
  obtain ⟨c0, c1, c2, c3, c4⟩ := h.cells
  have hfr := h.free
  have HH : Hid (PipeB w p room (.slice fo f.length fc) va f a cl br) := h
  have HK : Hid ((K : Int) = max 0 (min n f.length)) := hK
  have hKF : K ≤ f.length := by omega
  have hrl := h.fly.rd
  have hplt := h.lt
  unfold maxLen at hfm
  generalize hF : f.length = F at *
  have HF : Hid (f.length = F) := hF
  have HR : Hid (Rd w (.slice fo F fc) f) := hrl
  have hd1 : (w.alloc (.cells #[] 5)).cell? ⟨p, 1, none⟩ = some (.slice fo F fc) := by
    rw [← c1]; exact World.cell?_of_block (Below.heap_alloc _ _ _ hplt)
  have hd2 : (w.alloc (.cells #[] 5)).cell? ⟨p, 2, none⟩ = some va := by
    rw [← c2]; exact World.cell?_of_block (Below.heap_alloc _ _ _ hplt)
  have hKc : (K : Int) ≤ fc := by omega
  have hKF' : (K : Int) ≤ F := by omega
  clear h hK hF hrl
  go_enter Try.func32, Try.ntmps32
  go_upto_if 11 with fail
  go_cut [1] (fun t wc => ∃ n1 : Int, t = .int .i64 n1 ∧ n1 = min n F ∧ wc = w)
  case first =>
    by_cases hb : n > (F : Int)
    · go_wp2_with fail
      go_meet
      case rel => exact ⟨_, rfl, by omega, rfl⟩
    · go_wp2_with fail
      go_meet
      case rel => exact ⟨_, rfl, by omega, rfl⟩
  case rest =>
    obtain ⟨n1, rfl, hn1, rfl⟩ := hcut
    have HN1 : Hid (n1 = min n F) := hn1
    clear hn1
    go_upto_if 18 with fail
    go_cut [1] (fun t wq => t = .int .i64 K ∧ wq = wc)
    case first =>
      by_cases hb : n1 < 0
      · go_wp2_with fail
        go_meet
        case rel => exact ⟨by have := HN1.out; have := HK.out; congr 1; omega, rfl⟩
      · go_wp2_with fail
        go_meet
        case rel => exact ⟨by have := HN1.out; have := HK.out; congr 1; omega, rfl⟩
    case rest =>
      obtain ⟨rfl, rfl⟩ := hcut
      obtain ⟨wo, hwo⟩ : ∃ wo, wo = wc := ⟨_, rfl⟩
      subst hwo
      go_upto_region 5 with fail
      go_cut [] (fun wk => ∃ va', PipeB wk p room (.slice fo F fc) va' f (a ++ f.take K) cl br ∧ Chg (One p) wo wk)
      case first =>
        go_region_law (first
          | (refine step_app rfl (.tmp 20) (.tmp 24) rfl _ va [] a rfl rfl ?_ ?_ ?_ ?_; (exact (OwnV.empty _).drew); (exact (HH.out.arr.rd.alloc _).drew); (simp; omega); intro v1 w1 ho1 hc1 hk1; have hA1 := new_first (((Chg.refl Non wo).alloc _).drew) hc1 hk1; have hb1 := (hA1.1.block p hplt (fun e => e)).trans HH.out.blk; have g1' : w1.cell? ⟨p, 1, none⟩ = some (.slice fo F fc) := (by rw [cell_of_row w1 p 1 _ 72 (0, 0) hb1]; rfl))
          | (refine step_app rfl (.tmp 25) (.tmp 31) rfl _ (.slice fo K fc) a (f.take K) rfl rfl ?_ ?_ ?_ ?_; (assumption); (exact rd_takeO (rd_first HR.out hA1.1) hKF); (simp; omega); intro v2 w2 ho2 hc2 hk2; have hA2 := app_new hA1.1 hc2 hA1.2 hk2; obtain ⟨ao2, n2, cc2, rfl, -⟩ := ho2.rd.shape; have hb2 := (hA2.1.block p hplt (fun e => e)).trans HH.out.blk; have e1' : w2.cell? ⟨p, 2, none⟩ = some va := (by rw [cell_of_row w2 p 2 _ 72 (0, 0) hb2]; rfl); have e2' : w2.frozen? ⟨p, 2, none⟩ = false := (by simp [World.frozen?, hb2])))
        all_goals
          have HG : Hid (OwnV w2 (.slice ao2 n2 cc2) (a ++ f.take K) ∧ Chg Non wo w2 ∧ w2.heap[p]? = some (.cells #[.int .i64 room, .slice fo F fc, va, .bool cl, .bool br] 72 (0, 0))) := ⟨ho2, hA2.1, hb2⟩
          clear ho2 hA2 hb2 ho1 hc1 hk1 hA1 hb1 g1' hc2 hk2 c0 c1 c2 c3 c4 hfr hd1 hd2
          go_wp2_with fail
          go_meet
          case rel =>
            obtain ⟨ho, hc, hb⟩ := HG.out
            exact ⟨_, PipeB.setArr hb (HH.out.fly.keep (fun k e => hc.block k (HH.out.fly.lt k e) (fun e => e))) ho, (hc.non (One p)).trans (Chg.one _ p 2 _) (fun _ _ e => e)⟩
      case rest =>
        obtain ⟨va', hP2, hc2⟩ := hcut
        clear c0 c1 c2 c3 c4 hfr hd1 hd2
        obtain ⟨c0, c1, c2, c3, c4⟩ := hP2.cells
        have hfr := hP2.free
        have hplt2 := hP2.lt
        have hd1 : (wc.alloc (.cells #[] 5)).cell? ⟨p, 1, none⟩ = some (.slice fo F fc) := by
          rw [← c1]; exact World.cell?_of_block (Below.heap_alloc _ _ _ hplt2)
        have H2 : Hid (PipeB wc p room (.slice fo F fc) va' f (a ++ f.take K) cl br ∧ Chg (One p) wo wc) := ⟨hP2, hc2⟩
        clear hP2 hc2
        have hlf : (f.drop K).length ≤ 140737488355328 := by simp; have := HF.out; omega
        have HQ : Hid (∀ (v3 : Value) (w3 : World), OwnV w3 v3 (f.drop K) → Chg Non wc w3 → PipeB (w3.setCell ⟨p, 1, none⟩ v3) p room v3 va' (f.drop K) (a ++ f.take K) cl br ∧ Chg (One p) wo (w3.setCell ⟨p, 1, none⟩ v3)) := by
          intro v3 w3 ho3 hc3
          obtain ⟨hP, hc⟩ := H2.out
          exact ⟨PipeB.setFly ((hc3.block p hP.lt (fun e => e)).trans hP.blk) (hP.arr.keep (fun k e => hc3.block k (hP.arr.lt k e) (fun e => e))) ho3, (hc.trans hc3 (fun _ _ e => e.elim)).trans (Chg.one _ p 1 _) (fun _ _ e => e)⟩
        rcases Decidable.em (fc = K) with hfk | hfk
        · have hfk2 := hfk.symm
          clear hfk
          subst hfk2
          obtain rfl : K = F := by omega
          have hrdz : Rd wc (.slice fo 0 0) (f.drop K) := by
            have := rd_dropE H2.out.1.fly.rd hKF
            rwa [Nat.sub_self] at this
          have HRZ : Hid (Rd wc (.slice fo 0 0) (f.drop K)) := hrdz
          clear hrdz
          go_wp2_with (at_builtin; refine wpList_app _ rfl (.tmp 36) (.tmp 42) rfl _ (.slice fo 0 0) [] (f.drop K) rfl rfl (OwnV.empty _) (HRZ.out.alloc _) (by simpa using hlf) ?_)
          intro v3 w3 ho3 hc3 hk3
          have hA := new_first2 (((Chg.refl Non wc).alloc _)) hc3 hk3
          obtain ⟨ao3, n3, cc3, rfl, -⟩ := ho3.rd.shape
          have hb3 := (hA.1.block p H2.out.1.lt (fun e => e)).trans H2.out.1.blk
          have g1 : w3.cell? ⟨p, 1, none⟩ = some (.slice fo K K) := by rw [cell_of_row w3 p 1 _ 72 (0, 0) hb3]; rfl
          have g2 : w3.frozen? ⟨p, 1, none⟩ = false := by simp [World.frozen?, hb3]
          have H4 := HQ.out _ w3 ho3 hA.1
          have H5 : Hid (PipeB (w3.setCell ⟨p, 1, none⟩ (.slice ao3 n3 cc3)) p room (.slice ao3 n3 cc3) va' (f.drop K) (a ++ f.take K) cl br ∧ Chg (One p) wo (w3.setCell ⟨p, 1, none⟩ (.slice ao3 n3 cc3))) := H4
          clear ho3 hc3 hk3 hA hb3 c0 c1 c2 c3 c4 hfr hd1 H4
          go_wp2
          go_ret
          exact ⟨K, HK.out, rfl, _, _, H5.out.1, H5.out.2⟩
        · go_wp2_with (at_builtin; refine wpList_app _ rfl (.tmp 36) (.tmp 42) rfl _ _ [] (f.drop K) rfl rfl (OwnV.empty _) ((rd_dropN H2.out.1.fly.rd hKF hfk).alloc _) (by simpa using hlf) ?_)
          intro v3 w3 ho3 hc3 hk3
          have hA := new_first2 (((Chg.refl Non wc).alloc _)) hc3 hk3
          obtain ⟨ao3, n3, cc3, rfl, -⟩ := ho3.rd.shape
          have hb3 := (hA.1.block p H2.out.1.lt (fun e => e)).trans H2.out.1.blk
          have g1 : w3.cell? ⟨p, 1, none⟩ = some (.slice fo F fc) := by rw [cell_of_row w3 p 1 _ 72 (0, 0) hb3]; rfl
          have g2 : w3.frozen? ⟨p, 1, none⟩ = false := by simp [World.frozen?, hb3]
          have H4 := HQ.out _ w3 ho3 hA.1
          have H5 : Hid (PipeB (w3.setCell ⟨p, 1, none⟩ (.slice ao3 n3 cc3)) p room (.slice ao3 n3 cc3) va' (f.drop K) (a ++ f.take K) cl br ∧ Chg (One p) wo (w3.setCell ⟨p, 1, none⟩ (.slice ao3 n3 cc3))) := H4
          clear ho3 hc3 hk3 hA hb3 c0 c1 c2 c3 c4 hfr hd1 H4
          go_wp2
          go_ret
          exact ⟨K, HK.out, rfl, _, _, H5.out.1, H5.out.2⟩
end Go.Proofs.Ytiegofelidnnlaa
