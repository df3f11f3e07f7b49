/-
  Alter, the document's, where it puts bytes in the place of others.
-/
import Derived.Test.YtiegofelidnnlaaAlter
namespace Go.Proofs.Ytiegofelidnnlaa
open Go.RowKit
set_option linter.unusedVariables false

set_option maxHeartbeats 1000000 in
theorem refAlter_ok (p : Nat) (room : Int) (vf va : Value) (f a : List Int) (cl : Bool) (t n : Nat) (so : Option Addr) (sn sc : Nat) (ys : List Int) (w : World) (h : PipeB w p room vf va f a cl false) (hl : f.length ≤ 70368744177664) (hs : Rd w (.slice so sn sc) ys)
    (h3 : t + n ≤ f.length) (h4 : f.length - n + sn ≤ 65536) :
    Calls Try.prog 34 #[.pointer (some ⟨p, 0, none⟩), .int .i64 t, .int .i64 n, .slice so sn sc] w fun e w' => e = .returned (.int .i64 0) ∧ ∃ vf', PipeB w' p room vf' va ((f.take t ++ ys) ++ f.drop (t + n)) a cl false ∧ Chg (One p) w w' := by
  obtain ⟨fo, fc, rfl, hfc, hfm⟩ := h.fly.len
  obtain ⟨c0, c1, c2, c3, c4⟩ := h.cells
  have hfr := h.free
  have hplt := h.lt
  unfold maxLen at hfm
  have hsn : sn = ys.length ∧ sn ≤ sc ∧ sc ≤ maxLen := by
    obtain ⟨_, _, _, e, h1, h2, h3, _⟩ := hs; cases e; exact ⟨h1, h2, h3⟩
  obtain ⟨hsn1, hsn2, hsn3⟩ := hsn
  have HH : Hid (PipeB w p room (.slice fo f.length fc) va f a cl false ∧ Rd w (.slice so sn sc) ys ∧ sn = ys.length) := ⟨h, hs, hsn1⟩
  have HT : Hid (Rd w (.slice fo t fc) (f.take t)) := rd_takeO h.fly.rd (by omega)
  have HD : Hid (Rd w (.slice (if fc = t + n then fo else fo.map (fun x => x.add (t + n))) (f.length - (t + n)) (fc - (t + n))) (f.drop (t + n))) := rd_dropO h.fly.rd h3
  generalize hF : f.length = F at *
  have HF : Hid (f.length = F) := hF
  have hi1 : (n : Int) ≤ (F : Int) - t := by omega
  have hi0 : (t : Int) ≤ (F : Int) := by omega
  have hi0' : (t : Int) ≤ (fc : Int) := by omega
  have hi2 : (F : Int) - n + sn ≤ 65536 := by omega
  have hi3 : (t : Int) + n ≤ F := by omega
  have hi3' : t + n ≤ F := h3
  have hd1 : (w.alloc (.cells #[] 5)).cell? ⟨p, 1, none⟩ = some (.slice fo F fc) := by
    rw [← c1]; exact World.cell?_of_block (Below.heap_alloc _ _ _ hplt)
  clear h hs hF hsn1
  go_enter Try.func34, Try.ntmps34
  go_wp2_with (at_builtin; refine wpList_app _ rfl (.tmp 51) (.tmp 57) rfl _ (.slice fo t fc) [] (f.take t) rfl rfl (OwnV.empty _) (HT.out.alloc _) (by simp; omega) ?_)
  intro v1 w1 ho1 hc1 hk1
  have hA1 := new_first2 (((Chg.refl Non w).alloc _)) hc1 hk1
  obtain ⟨o1, m1, b1, rfl, -⟩ := ho1.rd.shape
  have H1 : Hid (OwnV w1 (.slice o1 m1 b1) (f.take t) ∧ Chg Non w w1 ∧ ∀ k, (Value.slice o1 m1 b1).ownBlock = some k → w.heap.size ≤ k) := ⟨ho1, hA1⟩
  clear ho1 hc1 hk1 hA1 c0 c1 c2 c3 c4 hfr hd1
  go_wp2_with (at_builtin; refine wpList_app _ rfl (.tmp 59) (.tmp 60) rfl _ (.slice so sn sc) (f.take t) ys rfl rfl H1.out.1 (rd_first HH.out.2.1 H1.out.2.1) (by have := HH.out.2.2; simp; omega) ?_)
  intro v2 w2 ho2 hc2 hk2
  have hA2 := app_new H1.out.2.1 hc2 H1.out.2.2 hk2
  obtain ⟨o2, m2, b2, rfl, -⟩ := ho2.rd.shape
  have H2 : Hid (OwnV w2 (.slice o2 m2 b2) (f.take t ++ ys) ∧ Chg Non w w2 ∧ ∀ k, (Value.slice o2 m2 b2).ownBlock = some k → w.heap.size ≤ k) := ⟨ho2, hA2⟩
  have hb2 := (hA2.1.block p hplt (fun e => e)).trans HH.out.1.blk
  have g1 : w2.cell? ⟨p, 1, none⟩ = some (.slice fo F fc) := by rw [cell_of_row w2 p 1 _ 72 (0, 0) hb2]; rfl
  clear ho2 hc2 hk2 hA2 hb2
  have hln : (f.take t ++ ys).length + (f.drop (t + n)).length ≤ 140737488355328 := by have := HH.out.2.2; have := HF.out; simp; omega
  have HQ : Hid (∀ (v3 : Value) (w3 : World), OwnV w3 v3 ((f.take t ++ ys) ++ f.drop (t + n)) → Chg Non w w3 → PipeB (w3.setCell ⟨p, 1, none⟩ v3) p room v3 va ((f.take t ++ ys) ++ f.drop (t + n)) a cl false ∧ Chg (One p) w (w3.setCell ⟨p, 1, none⟩ v3)) := by
    intro v3 w3 ho3 hc3
    have hP := HH.out.1
    exact ⟨PipeB.setFly ((hc3.block p hP.lt (fun e => e)).trans hP.blk) (hP.arr.keep (fun k e => hc3.block k (hP.arr.lt k e) (fun e => e))) ho3, (hc3.non (One p)).trans (Chg.one _ p 1 _) (fun _ _ e => e)⟩
  rcases Decidable.em (fc = t + n) with hfk | hfk
  · rw [if_pos hfk] at HD
    have hF2 : F = t + n := by omega
    subst hfk
    subst hF2
    rw [Nat.sub_self] at HD
    go_wp2_with (at_builtin; refine wpList_app _ rfl (.tmp 63) (.tmp 71) rfl _ _ (f.take t ++ ys) (f.drop (t + n)) rfl rfl H2.out.1 ?hrd1 hln ?hkk1)
    case hrd1 => simpa [Act.eval] using rd_first HD.out H2.out.2.1
    case hkk1 =>
      intro v3 w3 ho3 hc3 hk3
      have hA := app_new H2.out.2.1 hc3 H2.out.2.2 hk3
      obtain ⟨ao3, n3, cc3, rfl, -⟩ := ho3.rd.shape
      have hb3 := (hA.1.block p hplt (fun e => e)).trans HH.out.1.blk
      have g3 : w3.cell? ⟨p, 1, none⟩ = some (.slice fo (t + n) (t + n)) := by rw [cell_of_row w3 p 1 _ 72 (0, 0) hb3]; rfl
      have g4 : w3.frozen? ⟨p, 1, none⟩ = false := by simp [World.frozen?, hb3]
      have H5 : Hid (PipeB (w3.setCell ⟨p, 1, none⟩ (.slice ao3 n3 cc3)) p room (.slice ao3 n3 cc3) va ((f.take t ++ ys) ++ f.drop (t + n)) a cl false ∧ Chg (One p) w (w3.setCell ⟨p, 1, none⟩ (.slice ao3 n3 cc3))) := HQ.out _ w3 (by simpa [List.append_assoc] using ho3) hA.1
      clear ho3 hc3 hk3 hA hb3 g1
      go_wp2
      go_ret
      exact ⟨rfl, _, H5.out.1, H5.out.2⟩
  · rw [if_neg hfk] at HD
    go_wp2_with (at_builtin; refine wpList_app _ rfl (.tmp 63) (.tmp 71) rfl _ _ (f.take t ++ ys) (f.drop (t + n)) rfl rfl H2.out.1 ?hrd hln ?hkk)
    case hrd => simpa [Act.eval] using rd_first HD.out H2.out.2.1
    case hkk =>
      intro v3 w3 ho3 hc3 hk3
      have hA := app_new H2.out.2.1 hc3 H2.out.2.2 hk3
      obtain ⟨ao3, n3, cc3, rfl, -⟩ := ho3.rd.shape
      have hb3 := (hA.1.block p hplt (fun e => e)).trans HH.out.1.blk
      have g3 : w3.cell? ⟨p, 1, none⟩ = some (.slice fo F fc) := by rw [cell_of_row w3 p 1 _ 72 (0, 0) hb3]; rfl
      have g4 : w3.frozen? ⟨p, 1, none⟩ = false := by simp [World.frozen?, hb3]
      have H5 : Hid (PipeB (w3.setCell ⟨p, 1, none⟩ (.slice ao3 n3 cc3)) p room (.slice ao3 n3 cc3) va ((f.take t ++ ys) ++ f.drop (t + n)) a cl false ∧ Chg (One p) w (w3.setCell ⟨p, 1, none⟩ (.slice ao3 n3 cc3))) := HQ.out _ w3 (by simpa [List.append_assoc] using ho3) hA.1
      clear ho3 hc3 hk3 hA hb3 g1
      go_wp2
      go_ret
      exact ⟨rfl, _, H5.out.1, H5.out.2⟩
end Go.Proofs.Ytiegofelidnnlaa
