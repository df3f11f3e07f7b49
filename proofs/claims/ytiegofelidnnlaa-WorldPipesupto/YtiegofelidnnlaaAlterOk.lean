/-
  Alter, the program's, where it puts bytes in the place of others.
-/
import Derived.Test.YtiegofelidnnlaaAlter
namespace Go.Proofs.Ytiegofelidnnlaa
open Go.RowKit
set_option linter.unusedVariables false

theorem alter_close {w w2 w3 : World} {p : Nat} {room : Int} {vf va v1 v2 v3 : Value} {f a zs : List Int} {cl : Bool} (hP : PipeA w p room vf va f a cl false) (hk1 : ∀ k, v1.ownBlock = some k → vf.ownBlock = some k)
    (hc2 : Chg Non w w2) (hk2 : ∀ k, v2.ownBlock = some k → v1.ownBlock = some k ∨ w.heap.size ≤ k) (hc3 : Chg Non w2 w3) (hk3 : ∀ k, v3.ownBlock = some k → v2.ownBlock = some k ∨ w2.heap.size ≤ k) (ht3 : Tight w3 v3 zs) :
    PipeA (w3.setCell ⟨p, 1, none⟩ v3) p room v3 va zs a cl false ∧ Chg (One p) w (w3.setCell ⟨p, 1, none⟩ v3) ∧ ∀ k, v3.ownBlock = some k → vf.ownBlock = some k ∨ w.heap.size ≤ k := by
  have hc : Chg Non w w3 := hc2.trans hc3 (fun _ _ e => e)
  have hs2 := hc2.size
  have hk : ∀ k, v3.ownBlock = some k → vf.ownBlock = some k ∨ w.heap.size ≤ k := by
    intro k e
    rcases hk3 k e with h | h
    · rcases hk2 k h with h | h
      · exact .inl (hk1 k h)
      · exact .inr h
    · exact .inr (by omega)
  refine ⟨PipeA.setFly ((hc.block p hP.lt (fun e => e)).trans hP.blk) (hP.arr.keep (fun k e => hc.block k (hP.arr.lt k e) (fun e => e))) hP.sa ht3 (fun e => ?_), (hc.non (One p)).setCell (p := ⟨p, 1, none⟩) (fun _ => rfl) _, hk⟩
  rcases hk p e with h | h
  · exact hP.sf h
  · have := hP.lt; omega

set_option maxHeartbeats 4000000 in
theorem alter_ok (p : Nat) (room : Int) (vf va : Value) (f a : List Int) (cl : Bool) (t n : Nat) (so : Option Addr) (sn sc : Nat) (ys : List Int) (w : World) (h : PipeA w p room vf va f a cl false) (hl : f.length ≤ 70368744177664) (hs : Rd w (.slice so sn sc) ys)
    (h3 : t + n ≤ f.length) (h4 : f.length - n + sn ≤ 65536) :
    Calls Try.prog 33 #[.pointer (some ⟨p, 0, none⟩), .int .i64 t, .int .i64 n, .slice so sn sc] w fun e w' => e = .returned (.int .i64 0) ∧ ∃ vf', PipeA w' p room vf' va ((f.take t ++ ys) ++ f.drop (t + n)) a cl false ∧ Chg (One p) w w' ∧ ∀ k, vf'.ownBlock = some k → vf.ownBlock = some k ∨ w.heap.size ≤ k := by
  obtain ⟨fo, rfl, hfm⟩ := h.fly.len
  obtain ⟨c0, c1, c2, c3, c4⟩ := h.cells
  have hfr := h.free
  have hplt := h.lt
  unfold maxLen at hfm
  have hsn : sn = ys.length ∧ sn ≤ sc ∧ sc ≤ maxLen := by
    obtain ⟨_, _, _, e, h1, h2, h3, _⟩ := hs; cases e; exact ⟨h1, h2, h3⟩
  obtain ⟨hsn1, hsn2, hsn3⟩ := hsn
  have HH : Hid (PipeA w p room (.slice fo f.length f.length) va f a cl false ∧ Rd w (.slice so sn sc) ys ∧ sn = ys.length) := ⟨h, hs, hsn1⟩
  have HD : Hid (Rd w (.slice (if f.length = t + n then fo else fo.map (fun x => x.add (t + n))) (f.length - (t + n)) (f.length - (t + n))) (f.drop (t + n))) := rd_dropO h.fly.rd h3
  generalize hF : f.length = F at *
  have HF : Hid (f.length = F) := hF
  have hi1 : (n : Int) ≤ (F : Int) - t := by omega
  have hi2 : (sn : Int) ≤ 65536 - ((F : Int) - n) := by omega
  have hwr : IntKind.i64.wrap ((t : Int) + n) = ((t + n : Nat) : Int) := by
    rw [IntKind.wrap_i64]; omega
  generalize htn : t + n = tn at *
  have HTN : Hid (t + n = tn) := htn
  have hi4 : (tn : Int) ≤ (F : Int) := by omega
  have hi5 : t ≤ tn := by omega
  have hsn5 : sn + t ≤ 140737488355328 := by omega
  clear h hs hF hsn1 htn
  by_cases hFt : F = tn
  · subst hFt
    rw [if_pos rfl, Nat.sub_self] at HD
    go_enter Try.func33, Try.ntmps33
    go_wp2_with fail
    go_region_with (first
      | (go_at_call 29; (refine (cut_rd _ f _ _ _ ?_ ?_ ?_ ?_).mono ?_; exact HH.out.1.fly.rd.drew; omega; omega; (rw [HF.out]; omega); rintro e w1 ⟨v1, rfl, rfl, ht1, hk1⟩))
      | (go_at_call_of 45 (Value.slice so sn sc); (refine (join_any _ _ (f.take t) ys _ ?_ ?_ ?_).mono ?_; (simpa using ht1); exact HH.out.2.1.drew; (have := HH.out.2.2; simp; omega); rintro e w2 ⟨v2, rfl, ht2, hc2, hk2⟩; have hb2 := (hc2.block p hplt (fun e => e)).trans HH.out.1.blk; have g2 : w2.cell? ⟨p, 1, none⟩ = some (.slice fo F F) := (by rw [cell_of_row w2 p 1 _ 70 (0, 0) hb2]; rfl)))
      | (go_at_call 45; (refine (join_any _ _ (f.take t ++ ys) (f.drop F) _ ?_ ?_ ?_).mono ?_; exact ht2; (exact rd_first HD.out hc2.undrew); (have := HH.out.2.2; have := HF.out; simp; omega); rintro e w3 ⟨v3, rfl, ht3, hc3, hk3⟩; obtain ⟨ao3, n3, rfl⟩ := ht3.shape; have hb3 := (hc3.block p (Array.getElem?_eq_some_iff.1 hb2).1 (fun e => e)).trans hb2; have g3 : w3.cell? ⟨p, 1, none⟩ = some (.slice fo F F) := (by rw [cell_of_row w3 p 1 _ 70 (0, 0) hb3]; rfl); have g4 : w3.frozen? ⟨p, 1, none⟩ = false := (by simp [World.frozen?, hb3]))))
    all_goals
      have HX : Hid (PipeA (w3.setCell ⟨p, 1, none⟩ (.slice ao3 n3 n3)) p room (.slice ao3 n3 n3) va ((f.take t ++ ys) ++ f.drop F) a cl false ∧ Chg (One p) w (w3.setCell ⟨p, 1, none⟩ (.slice ao3 n3 n3)) ∧ ∀ k, (Value.slice ao3 n3 n3).ownBlock = some k → (Value.slice fo F F).ownBlock = some k ∨ w.heap.size ≤ k) :=
        alter_close HH.out.1 hk1 hc2.undrew hk2 hc3 hk3 ht3
      clear ht1 hk1 ht2 hc2 hk2 hb2 g2 ht3 hc3 hk3 hb3 c0 c1 c2 c3 c4 hfr
      go_wp2
      go_ret
      exact ⟨rfl, _, HX.out.1, HX.out.2.1, HX.out.2.2⟩
  · rw [if_neg hFt] at HD
    go_enter Try.func33, Try.ntmps33
    go_wp2_with fail
    go_region_with (first
      | (go_at_call 29; (refine (cut_rd _ f _ _ _ ?_ ?_ ?_ ?_).mono ?_; exact HH.out.1.fly.rd.drew; omega; omega; (rw [HF.out]; omega); rintro e w1 ⟨v1, rfl, rfl, ht1, hk1⟩))
      | (go_at_call_of 45 (Value.slice so sn sc); (refine (join_any _ _ (f.take t) ys _ ?_ ?_ ?_).mono ?_; (simpa using ht1); exact HH.out.2.1.drew; (have := HH.out.2.2; simp; omega); rintro e w2 ⟨v2, rfl, ht2, hc2, hk2⟩; have hb2 := (hc2.block p hplt (fun e => e)).trans HH.out.1.blk; have g2 : w2.cell? ⟨p, 1, none⟩ = some (.slice fo F F) := (by rw [cell_of_row w2 p 1 _ 70 (0, 0) hb2]; rfl)))
      | (go_at_call 45; (refine (join_any _ _ (f.take t ++ ys) (f.drop tn) _ ?_ ?_ ?_).mono ?_; exact ht2; (exact rd_first HD.out hc2.undrew); (have := HH.out.2.2; have := HF.out; simp; omega); rintro e w3 ⟨v3, rfl, ht3, hc3, hk3⟩; obtain ⟨ao3, n3, rfl⟩ := ht3.shape; have hb3 := (hc3.block p (Array.getElem?_eq_some_iff.1 hb2).1 (fun e => e)).trans hb2; have g3 : w3.cell? ⟨p, 1, none⟩ = some (.slice fo F F) := (by rw [cell_of_row w3 p 1 _ 70 (0, 0) hb3]; rfl); have g4 : w3.frozen? ⟨p, 1, none⟩ = false := (by simp [World.frozen?, hb3]))))
    all_goals
      have HX : Hid (PipeA (w3.setCell ⟨p, 1, none⟩ (.slice ao3 n3 n3)) p room (.slice ao3 n3 n3) va ((f.take t ++ ys) ++ f.drop tn) a cl false ∧ Chg (One p) w (w3.setCell ⟨p, 1, none⟩ (.slice ao3 n3 n3)) ∧ ∀ k, (Value.slice ao3 n3 n3).ownBlock = some k → (Value.slice fo F F).ownBlock = some k ∨ w.heap.size ≤ k) :=
        alter_close HH.out.1 hk1 hc2.undrew hk2 hc3 hk3 ht3
      clear ht1 hk1 ht2 hc2 hk2 hb2 g2 ht3 hc3 hk3 hb3 c0 c1 c2 c3 c4 hfr
      go_wp2
      go_ret
      exact ⟨rfl, _, HX.out.1, HX.out.2.1, HX.out.2.2⟩
end Go.Proofs.Ytiegofelidnnlaa
