/-
  What ShaPieces asks at the end: whatever order its operations come up in.
-/
import Derived.Test.YtbnonbhlfiadaaaDoorR33
namespace Go.Proofs.YtbnonbhlfiadaaaDoor
open Go.RowKit
set_option linter.unusedVariables false

theorem flat_mem {xss : List (List Int)} {xs : List Int} (h : xs ∈ xss) : xs.length ≤ xss.flatten.length := by
  induction xss with
  | nil => cases h
  | cons a l ih =>
    rw [List.flatten_cons, List.length_append]
    rcases List.mem_cons.1 h with rfl | h
    · omega
    · have := ih h
      omega
/-- Where an operation's value lies. -/
def dst33 (j : Nat) : Nat := if j = 28 then 6 else 109 + j
/-- What holds of an operation's value once it has come up. -/
def Good33 (q : Int) (D : Nat) (so p : Option Addr) (sm sc n cap : Nat) (all : List Int) (xss : List (List Int)) (s1 s2 : ByteArray) (j : Nat) (v : Value) (w : World) : Prop := match j with
  | 0 => v = .pointer (some ⟨D, 0, none⟩)
  | 1 => v = .int .i64 q
  | 2 => v = .int .i64 q
  | 3 => v = .bool true
  | 4 => v = .bool true
  | 5 => v = .pointer (some ⟨D, 0, none⟩)
  | 6 => (∃ o k c, v = .slice o k c) ∧ TxV w v s1
  | 7 => v = .string s1
  | 8 => v = .int .i64 q
  | 9 => v = .slice so sm sc
  | 10 => (∃ o k c, v = .slice o k c) ∧ Pt w v [all]
  | 11 => (∃ o k c, v = .slice o k c) ∧ TxV w v s1
  | 12 => v = .string s1
  | 13 => v = .bool true
  | 14 => v = .bool true
  | 15 => v = .bool true
  | 16 => v = .int .i64 q
  | 17 => v = .slice p n cap
  | 18 => (∃ o k c, v = .slice o k c) ∧ TxV w v s2
  | 19 => v = .string s2
  | 20 => v = .int .i64 q
  | 21 => v = .slice p n cap
  | 22 => (∃ o k c, v = .slice o k c) ∧ Ap.Rd w v xss.flatten
  | 23 => (∃ o k c, v = .slice o k c) ∧ Pt w v [xss.flatten]
  | 24 => (∃ o k c, v = .slice o k c) ∧ TxV w v s2
  | 25 => v = .string s2
  | _ => v = .bool true
theorem Good33.chg (q : Int) (D : Nat) (so p : Option Addr) (sm sc n cap : Nat) (all : List Int) (xss : List (List Int)) (s1 s2 : ByteArray) (j : Nat) (v : Value) (w w' : World) (h : Good33 q D so p sm sc n cap all xss s1 s2 j v w) (k : Chg w w') : Good33 q D so p sm sc n cap all xss s1 s2 j v w' := by
  unfold Good33 at *
  split at h <;> first | exact h | exact ⟨h.1, h.2.chg k⟩ | exact ⟨h.1, Rd.chg h.2 k⟩
/-- What holds whatever has come up. -/
structure I33 (q : Int) (D : Nat) (so p : Option Addr) (sm sc n cap : Nat) (all : List Int) (xss : List (List Int)) (s1 s2 : ByteArray) (w0 : World) (T : Array Value) (l : Array Bool) (a : Act) (w : World) : Prop where
  chg : Chg w0 w
  defers : a.defers = []
  size : a.tmps.size = 137
  ls : l.size = 29
  frame : ∀ k, k < 109 → k ≠ 6 → a.tmps.getD k undef = T.getD k undef
  good : ∀ j, j < 29 → l.getD j false = true → Good33 q D so p sm sc n cap all xss s1 s2 j (a.tmps.getD (dst33 j) undef) w
theorem getD_set (A : Array Value) (d k : Nat) (v : Value) (h : d < A.size) : (A.setIfInBounds d v).getD k undef = if k = d then v else A.getD k undef := by
  rw [Array.getD_eq_getD_getElem?, Array.getD_eq_getD_getElem?]
  by_cases e : k = d
  · subst e
    rw [if_pos rfl, Array.getElem?_setIfInBounds_self_of_lt h]
    rfl
  · rw [if_neg e, Array.getElem?_setIfInBounds_ne (fun x => e x.symm)]
theorem getB_set (A : Array Bool) (d k : Nat) (v : Bool) (hk : k ≠ d) : (A.setIfInBounds d v).getD k false = A.getD k false := by
  rw [Array.getD_eq_getD_getElem?, Array.getD_eq_getD_getElem?, Array.getElem?_setIfInBounds_ne (fun x => hk x.symm)]
theorem I33.put (q : Int) (D : Nat) (so p : Option Addr) (sm sc n cap : Nat) (all : List Int) (xss : List (List Int)) (s1 s2 : ByteArray) (w0 : World) (T : Array Value) (l : Array Bool) (a : Act) (w w' : World) (h : I33 q D so p sm sc n cap all xss s1 s2 w0 T l a w) (i : Nat) (hi : i < 29) (v : Value) (k : Chg w w') (hg : Good33 q D so p sm sc n cap all xss s1 s2 i v w') : I33 q D so p sm sc n cap all xss s1 s2 w0 T (l.setIfInBounds i true) (a.put (some (dst33 i)) v) w' := by
  have hd : dst33 i < 137 := by unfold dst33; split <;> omega
  refine ⟨h.chg.trans k, h.defers, ?_, ?_, fun m hm hm6 => ?_, fun j hj hl => ?_⟩
  · simp [Act.put, h.size]
  · rw [Array.size_setIfInBounds]; exact h.ls
  · show (a.tmps.setIfInBounds (dst33 i) v).getD m undef = _
    rw [getD_set _ _ _ _ (by rw [h.size]; exact hd), if_neg (by unfold dst33; split <;> omega)]
    exact h.frame m hm hm6
  · show Good33 _ _ _ _ _ _ _ _ _ _ _ _ j ((a.tmps.setIfInBounds (dst33 i) v).getD (dst33 j) undef) w'
    rw [getD_set _ _ _ _ (by rw [h.size]; exact hd)]
    by_cases e : j = i
    · subst e
      rw [if_pos rfl]
      exact hg
    · rw [if_neg (by unfold dst33; split <;> split <;> omega)]
      rw [getB_set _ _ _ _ e] at hl
      exact Good33.chg _ _ _ _ _ _ _ _ _ _ _ _ j _ w w' (h.good j hj hl) k
end Go.Proofs.YtbnonbhlfiadaaaDoor
