/-
  Alter, the program's and the document's.
-/
import Derived.Test.YtiegofelidnnlaaRefPipe3
namespace Go.Proofs.Ytiegofelidnnlaa
open Go.RowKit
set_option linter.unusedVariables false

set_option maxHeartbeats 400000 in
theorem alter_range (p : Nat) (room : Int) (vf va : Value) (f a : List Int) (cl br : Bool) (t n : Int) (s : Value) (w : World) (h : PipeA w p room vf va f a cl br) (hl : f.length ≤ 140737488355328) (ht : t ≤ 9223372036854775807) (hn : n ≤ 9223372036854775807)
    (hbad : t < 0 ∨ n < 0 ∨ n > f.length - t) :
    Calls Try.prog 33 #[.pointer (some ⟨p, 0, none⟩), .int .i64 t, .int .i64 n, s] w fun e w' => e = .returned (.int .i64 11) ∧ w' = w := by
  obtain ⟨fo, rfl, -⟩ := h.fly.len
  obtain ⟨c0, c1, c2, c3, c4⟩ := h.cells
  clear h
  generalize f.length = F at *
  by_cases h1 : t < 0
  · go_enter Try.func33, Try.ntmps33
    go_wp2
    all_goals (go_ret; exact ⟨rfl, rfl⟩)
  · by_cases h2 : n < 0
    · go_enter Try.func33, Try.ntmps33
      go_wp2
      all_goals (go_ret; exact ⟨rfl, rfl⟩)
    · have h3 : n > F - t := by omega
      go_enter Try.func33, Try.ntmps33
      go_wp2
      all_goals (go_ret; exact ⟨rfl, rfl⟩)

set_option maxHeartbeats 400000 in
theorem refAlter_range (p : Nat) (room : Int) (vf va : Value) (f a : List Int) (cl br : Bool) (t n : Int) (s : Value) (w : World) (h : PipeB w p room vf va f a cl br) (hl : f.length ≤ 140737488355328) (ht : t ≤ 9223372036854775807) (hn : n ≤ 9223372036854775807)
    (hbad : t < 0 ∨ n < 0 ∨ n > f.length - t) :
    Calls Try.prog 34 #[.pointer (some ⟨p, 0, none⟩), .int .i64 t, .int .i64 n, s] w fun e w' => e = .returned (.int .i64 11) ∧ w' = w := by
  obtain ⟨fo, fc, rfl, -⟩ := h.fly.len
  obtain ⟨c0, c1, c2, c3, c4⟩ := h.cells
  clear h
  generalize f.length = F at *
  by_cases h1 : t < 0
  · go_enter Try.func34, Try.ntmps34
    go_wp2
    all_goals (go_ret; exact ⟨rfl, rfl⟩)
  · by_cases h2 : n < 0
    · go_enter Try.func34, Try.ntmps34
      go_wp2
      all_goals (go_ret; exact ⟨rfl, rfl⟩)
    · by_cases h4 : t > F
      · go_enter Try.func34, Try.ntmps34
        go_wp2
        all_goals (go_ret; exact ⟨rfl, rfl⟩)
      · have h3 : n > F - t := by omega
        go_enter Try.func34, Try.ntmps34
        go_wp2
        all_goals (go_ret; exact ⟨rfl, rfl⟩)

set_option maxHeartbeats 400000 in
theorem alter_broken (p : Nat) (room : Int) (vf va : Value) (f a : List Int) (cl : Bool) (t n : Int) (s : Value) (w : World) (h : PipeA w p room vf va f a cl true) (hl : f.length ≤ 140737488355328)
    (h1 : 0 ≤ t) (h2 : 0 ≤ n) (h3 : n ≤ f.length - t) :
    Calls Try.prog 33 #[.pointer (some ⟨p, 0, none⟩), .int .i64 t, .int .i64 n, s] w fun e w' => e = .returned (.int .i64 0) ∧ w' = w := by
  obtain ⟨fo, rfl, -⟩ := h.fly.len
  obtain ⟨c0, c1, c2, c3, c4⟩ := h.cells
  clear h
  generalize f.length = F at *
  go_enter Try.func33, Try.ntmps33
  go_wp2
  all_goals (go_ret; exact ⟨rfl, rfl⟩)

set_option maxHeartbeats 400000 in
theorem refAlter_broken (p : Nat) (room : Int) (vf va : Value) (f a : List Int) (cl : Bool) (t n : Int) (s : Value) (w : World) (h : PipeB w p room vf va f a cl true) (hl : f.length ≤ 140737488355328)
    (h1 : 0 ≤ t) (h2 : 0 ≤ n) (h3 : n ≤ f.length - t) :
    Calls Try.prog 34 #[.pointer (some ⟨p, 0, none⟩), .int .i64 t, .int .i64 n, s] w fun e w' => e = .returned (.int .i64 0) ∧ w' = w := by
  obtain ⟨fo, fc, rfl, -⟩ := h.fly.len
  obtain ⟨c0, c1, c2, c3, c4⟩ := h.cells
  clear h
  generalize f.length = F at *
  go_enter Try.func34, Try.ntmps34
  go_wp2
  all_goals (go_ret; exact ⟨rfl, rfl⟩)

set_option maxHeartbeats 400000 in
theorem alter_many (p : Nat) (room : Int) (vf va : Value) (f a : List Int) (cl : Bool) (t n : Int) (so : Option Addr) (sn sc : Nat) (w : World) (h : PipeA w p room vf va f a cl false) (hl : f.length ≤ 140737488355328) (hl2 : sn ≤ 140737488355328)
    (h1 : 0 ≤ t) (h2 : 0 ≤ n) (h3 : n ≤ f.length - t) (h4 : f.length - n + sn > 65536) :
    Calls Try.prog 33 #[.pointer (some ⟨p, 0, none⟩), .int .i64 t, .int .i64 n, .slice so sn sc] w fun e w' => e = .returned (.int .i64 2) ∧ w' = w := by
  obtain ⟨fo, rfl, -⟩ := h.fly.len
  obtain ⟨c0, c1, c2, c3, c4⟩ := h.cells
  clear h
  generalize f.length = F at *
  go_enter Try.func33, Try.ntmps33
  go_wp2
  all_goals (go_ret; exact ⟨rfl, rfl⟩)

set_option maxHeartbeats 400000 in
theorem refAlter_many (p : Nat) (room : Int) (vf va : Value) (f a : List Int) (cl : Bool) (t n : Int) (so : Option Addr) (sn sc : Nat) (w : World) (h : PipeB w p room vf va f a cl false) (hl : f.length ≤ 140737488355328) (hl2 : sn ≤ 140737488355328)
    (h1 : 0 ≤ t) (h2 : 0 ≤ n) (h3 : n ≤ f.length - t) (h4 : f.length - n + sn > 65536) :
    Calls Try.prog 34 #[.pointer (some ⟨p, 0, none⟩), .int .i64 t, .int .i64 n, .slice so sn sc] w fun e w' => e = .returned (.int .i64 2) ∧ w' = w := by
  obtain ⟨fo, fc, rfl, -⟩ := h.fly.len
  obtain ⟨c0, c1, c2, c3, c4⟩ := h.cells
  clear h
  generalize f.length = F at *
  go_enter Try.func34, Try.ntmps34
  go_wp2
  all_goals (go_ret; exact ⟨rfl, rfl⟩)

end Go.Proofs.Ytiegofelidnnlaa
