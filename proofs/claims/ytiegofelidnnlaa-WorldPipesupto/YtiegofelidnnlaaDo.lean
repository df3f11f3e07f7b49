/-
  A call to both pipes answers the same, and leaves the same: Cut, Close, Break, Move and no call at all.
-/
import Derived.Test.YtiegofelidnnlaaTwo
namespace Go.Proofs.Ytiegofelidnnlaa
open Go.RowKit
set_option linter.unusedVariables false

/-- What a call to both leaves. -/
def DoPost (w w' : World) (p q : Nat) (room : Int) (n : Nat) : Prop :=
  ∃ vf va uf ua f a cl br, Two w' p q room vf va uf ua f a cl br ∧ f.length + a.length ≤ n ∧ Chg (PQ p q) w w'

theorem Two.box {w : World} {p q : Nat} {room : Int} {vf va uf ua : Value} {f a : List Int} {cl br : Bool} (h : Two w p q room vf va uf ua f a cl br) (o : Obj) : Two (w.alloc o) p q room vf va uf ua f a cl br :=
  h.fresh ((Chg.refl Non w).alloc o) (fun _ e => e.elim)

set_option maxHeartbeats 1000000 in
theorem do_none (p q : Nat) (room : Int) (vf va uf ua : Value) (f a : List Int) (cl br : Bool) (call t n : Int) (s : Value) (w : World) (h : Two w p q room vf va uf ua f a cl br) (hs : ∃ so sn sc, s = .slice so sn sc)
    (h0 : (call == 0) = false) (h1 : (call == 1) = false) (h2 : (call == 2) = false) (h3 : (call == 3) = false) (h4 : (call == 4) = false) (h5 : (call == 5) = false) (h6 : (call == 6) = false) :
    Calls Try.prog 19 #[.pointer (some ⟨p, 0, none⟩), .pointer (some ⟨q, 0, none⟩), .agg #[.int .i64 call, .int .i64 t, .int .i64 n, s]] w fun e w' => e = .returned (.bool true) ∧ DoPost w w' p q room (f.length + a.length) := by
  obtain ⟨so, sn, sc, rfl⟩ := hs
  have HH : Hid (Two w p q room vf va uf ua f a cl br) := h
  clear h
  go_enter Try.func19, Try.ntmps19
  go_wp2
  go_ret
  exact ⟨rfl, vf, va, uf, ua, f, a, cl, br, HH.out.box _, Nat.le_refl _, (Chg.refl _ _).alloc _⟩

set_option maxHeartbeats 1000000 in
theorem do_cut (p q : Nat) (room : Int) (vf va uf ua : Value) (f a : List Int) (cl br : Bool) (t n : Int) (s : Value) (w : World) (h : Two w p q room vf va uf ua f a cl br) (hs : ∃ so sn sc, s = .slice so sn sc) :
    Calls Try.prog 19 #[.pointer (some ⟨p, 0, none⟩), .pointer (some ⟨q, 0, none⟩), .agg #[.int .i64 4, .int .i64 t, .int .i64 n, s]] w fun e w' => e = .returned (.bool true) ∧ DoPost w w' p q room (f.length + a.length) := by
  obtain ⟨so, sn, sc, rfl⟩ := hs
  have HH : Hid (Two (w.alloc (.cells #[.int .i64 4, .int .i64 t, .int .i64 n, .slice so sn sc] 52)) p q room vf va uf ua f a cl br) := h.box _
  clear h
  go_enter Try.func19, Try.ntmps19
  go_wp2_with fail
  refine (cutPipe_any p room vf va f a cl br _ HH.out.A).mono ?_
  rintro e w3 ⟨rfl, hA, hc3⟩
  have H3 : Hid (PipeA w3 p room (.slice none 0 0) va [] a true br ∧ Chg (One p) (w.alloc (.cells #[.int .i64 4, .int .i64 t, .int .i64 n, .slice so sn sc] 52)) w3) := ⟨hA, hc3⟩
  clear hA hc3
  go_wp2_with fail
  refine (refCut_any q room uf ua f a cl br _ (HH.out.keepB H3.out.2)).mono ?_
  rintro e w4 ⟨rfl, hB, hc4⟩
  have hS := HH.out.step H3.out.1 H3.out.2 (fun k e => by simp [Value.ownBlock] at e) (fun k e => .inl e) hB hc4
  have H4 : Hid (Two w4 p q room (.slice none 0 0) va (.slice none 0 0) ua [] a true br ∧ Chg (PQ p q) w w4) := ⟨hS.1, (((Chg.refl _ w).alloc _)).trans hS.2 (fun _ _ e => e)⟩
  clear hB hc4 hS
  go_wp2
  go_ret
  exact ⟨rfl, _, _, _, _, _, _, _, _, H4.out.1, by simp, H4.out.2⟩

set_option maxHeartbeats 1000000 in
theorem do_close (p q : Nat) (room : Int) (vf va uf ua : Value) (f a : List Int) (cl br : Bool) (t n : Int) (s : Value) (w : World) (h : Two w p q room vf va uf ua f a cl br) (hs : ∃ so sn sc, s = .slice so sn sc) :
    Calls Try.prog 19 #[.pointer (some ⟨p, 0, none⟩), .pointer (some ⟨q, 0, none⟩), .agg #[.int .i64 5, .int .i64 t, .int .i64 n, s]] w fun e w' => e = .returned (.bool true) ∧ DoPost w w' p q room (f.length + a.length) := by
  obtain ⟨so, sn, sc, rfl⟩ := hs
  have HH : Hid (Two (w.alloc (.cells #[.int .i64 5, .int .i64 t, .int .i64 n, .slice so sn sc] 52)) p q room vf va uf ua f a cl br) := h.box _
  clear h
  go_enter Try.func19, Try.ntmps19
  go_wp2_with fail
  refine (close_any p room vf va f a cl br _ HH.out.A).mono ?_
  rintro e w3 ⟨rfl, hA, hc3⟩
  have H3 : Hid (PipeA w3 p room vf va f a true br ∧ Chg (One p) (w.alloc (.cells #[.int .i64 5, .int .i64 t, .int .i64 n, .slice so sn sc] 52)) w3) := ⟨hA, hc3⟩
  clear hA hc3
  go_wp2_with fail
  refine (refClose_any q room uf ua f a cl br _ (HH.out.keepB H3.out.2)).mono ?_
  rintro e w4 ⟨rfl, hB, hc4⟩
  have hS := HH.out.step H3.out.1 H3.out.2 (fun k e => .inl e) (fun k e => .inl e) hB hc4
  have H4 : Hid (Two w4 p q room vf va uf ua f a true br ∧ Chg (PQ p q) w w4) := ⟨hS.1, (((Chg.refl _ w).alloc _)).trans hS.2 (fun _ _ e => e)⟩
  clear hB hc4 hS
  go_wp2
  go_ret
  exact ⟨rfl, _, _, _, _, _, _, _, _, H4.out.1, Nat.le_refl _, H4.out.2⟩

set_option maxHeartbeats 1000000 in
theorem do_break (p q : Nat) (room : Int) (vf va uf ua : Value) (f a : List Int) (cl br : Bool) (t n : Int) (s : Value) (w : World) (h : Two w p q room vf va uf ua f a cl br) (hs : ∃ so sn sc, s = .slice so sn sc) :
    Calls Try.prog 19 #[.pointer (some ⟨p, 0, none⟩), .pointer (some ⟨q, 0, none⟩), .agg #[.int .i64 6, .int .i64 t, .int .i64 n, s]] w fun e w' => e = .returned (.bool true) ∧ DoPost w w' p q room (f.length + a.length) := by
  obtain ⟨so, sn, sc, rfl⟩ := hs
  have HH : Hid (Two (w.alloc (.cells #[.int .i64 6, .int .i64 t, .int .i64 n, .slice so sn sc] 52)) p q room vf va uf ua f a cl br) := h.box _
  clear h
  go_enter Try.func19, Try.ntmps19
  go_wp2_with fail
  refine (break_any p room vf va f a cl br _ HH.out.A).mono ?_
  rintro e w3 ⟨rfl, hA, hc3⟩
  have H3 : Hid (PipeA w3 p room (.slice none 0 0) (.slice none 0 0) [] [] cl true ∧ Chg (One p) (w.alloc (.cells #[.int .i64 6, .int .i64 t, .int .i64 n, .slice so sn sc] 52)) w3) := ⟨hA, hc3⟩
  clear hA hc3
  go_wp2_with fail
  refine (refBreak_any q room uf ua f a cl br _ (HH.out.keepB H3.out.2)).mono ?_
  rintro e w4 ⟨rfl, hB, hc4⟩
  have hS := HH.out.step H3.out.1 H3.out.2 (fun k e => by simp [Value.ownBlock] at e) (fun k e => by simp [Value.ownBlock] at e) hB hc4
  have H4 : Hid (Two w4 p q room (.slice none 0 0) (.slice none 0 0) (.slice none 0 0) (.slice none 0 0) [] [] cl true ∧ Chg (PQ p q) w w4) := ⟨hS.1, (((Chg.refl _ w).alloc _)).trans hS.2 (fun _ _ e => e)⟩
  clear hB hc4 hS
  go_wp2
  go_ret
  exact ⟨rfl, _, _, _, _, _, _, _, _, H4.out.1, by simp, H4.out.2⟩

set_option maxHeartbeats 2000000 in
theorem do_move (p q : Nat) (room : Int) (vf va uf ua : Value) (f a : List Int) (cl br : Bool) (t n : Int) (s : Value) (w : World) (h : Two w p q room vf va uf ua f a cl br) (hs : ∃ so sn sc, s = .slice so sn sc) (hl : f.length + a.length ≤ 70368744177664) :
    Calls Try.prog 19 #[.pointer (some ⟨p, 0, none⟩), .pointer (some ⟨q, 0, none⟩), .agg #[.int .i64 1, .int .i64 t, .int .i64 n, s]] w fun e w' => e = .returned (.bool true) ∧ DoPost w w' p q room (f.length + a.length) := by
  obtain ⟨so, sn, sc, rfl⟩ := hs
  have HH : Hid (Two (w.alloc (.cells #[.int .i64 1, .int .i64 t, .int .i64 n, .slice so sn sc] 52)) p q room vf va uf ua f a cl br) := h.box _
  have hbp : w.heap.size ≠ p := fun e => by have := h.A.lt; omega
  clear h
  go_enter Try.func19, Try.ntmps19
  go_wp2_with fail
  go_region_with (first
    | (go_at_call 22; (refine (move_any p room vf va f a cl br _ _ ?_ ?_).mono ?_; exact HH.out.A.drew; omega; rintro e w3 ⟨K, hK, rfl, vf', va', hA, hc3, hk1, hk2⟩; have hbox : w3.cell? ⟨w.heap.size, 2, none⟩ = some (.int .i64 n) := (World.cell?_of_block (hc3.undrew.block w.heap.size (by simp) (fun e => hbp e))).trans (by simp)))
    | (go_at_call 32; (refine (refMove_any q room uf ua f a cl br _ _ ?_ ?_).mono ?_; exact HH.out.keepB hc3.undrew; omega; rintro e w4 ⟨K', hK', rfl, uf', ua', hB, hc4⟩; obtain rfl : K' = K := (by omega))))
  all_goals
    have hS := HH.out.step hA hc3.undrew (fun k e => .inl (hk1 k e)) (fun k e => by simpa using hk2 k e) hB hc4
    have H4 : Hid (Two w4 p q room vf' va' uf' ua' (f.drop K') (a ++ f.take K') cl br ∧ Chg (PQ p q) w w4) := ⟨hS.1, (((Chg.refl _ w).alloc _)).trans hS.2 (fun _ _ e => e)⟩
    clear hA hc3 hk1 hk2 hbox hB hc4 hS hK hK'
    go_wp2
    go_ret
    exact ⟨rfl, _, _, _, _, _, _, _, _, H4.out.1, by simp; omega, H4.out.2⟩
end Go.Proofs.Ytiegofelidnnlaa
