/-
  The law's live question: the sum of abc, and no digest of no hash.
-/
import Derived.Test.YtbnonbhlfiadaaaDoorOf
import Derived.Test.YtbnonbhlfiadaaaDoorAbc
import Derived.Lib.SlBytesConst
namespace Go.Proofs.YtbnonbhlfiadaaaDoor
open Go.RowKit
set_option linter.unusedVariables false

theorem zeroNot : ¬ Valid 0 := by
  intro h
  rcases h with h | h | h <;> cases h

set_option maxRecDepth 100000 in
theorem head_any (w : World) (ht : Tabs w) : Calls Tryd.prog 7 #[] w fun e w' => e = .returned (.bool true) ∧ Chg w w' := by
  have HT : Hid (Tabs w) := ht
  clear ht
  have HO : Hid (∀ u v, Chg w u → Pt u v [[97], [98, 99]] → Calls Tryd.prog 8 #[.int .i64 1, v] u fun r w' => ∃ b, r = .returned (.slice (some ⟨b, 0, none⟩) 32 32) ∧ Chg w w' ∧ Ar w' b (arr .u8 32 (sumByte 1 (sumSt 1 abc)))) := by
    intro u v hu hp
    refine (of_any 1 v [[97], [98, 99]] u (.inl rfl) (HT.out.chg hu) hp).mono ?_
    rintro r w' ⟨b, rfl, _, k2, k3⟩
    exact ⟨b, rfl, hu.trans k2, k3⟩
  have k1 := Lib.run_convert_bytes_const (P := Tryd.prog) w 23 5 #[.int .u8 97] 1 1 Tryd.underlying23 Tryd.underlying5
  obtain ⟨w1, hw1⟩ : ∃ w1, w1 = w.alloc (.cells #[.int .u8 97] 5 (1, 2)) := ⟨_, rfl⟩
  have k1' : (convert 23 23 (.slice (some ⟨w.heap.size, 0, none⟩) 1 1)).run Tryd.prog (w.alloc (.cells #[.int .u8 97] 5)) = .ok (.slice (some ⟨w.heap.size, 0, none⟩) 1 1) w1 := by rw [hw1]; exact k1
  have k2 := Lib.run_convert_bytes_const (P := Tryd.prog) w1 23 5 #[.int .u8 98, .int .u8 99] 2 2 Tryd.underlying23 Tryd.underlying5
  obtain ⟨w2, hw2⟩ : ∃ w2, w2 = w1.alloc (.cells #[.int .u8 98, .int .u8 99] 5 (2, 3)) := ⟨_, rfl⟩
  have k2' : (convert 23 23 (.slice (some ⟨w1.heap.size, 0, none⟩) 2 2)).run Tryd.prog (w1.alloc (.cells #[.int .u8 98, .int .u8 99] 5)) = .ok (.slice (some ⟨w1.heap.size, 0, none⟩) 2 2) w2 := by rw [hw2]; exact k2
  have q1 : Chg w w1 := by rw [hw1]; exact (Chg.refl w).alloc _
  have q2 : Chg w1 w2 := by rw [hw2]; exact (Chg.refl w1).alloc _
  have s1 : SlA w1 (.slice (some ⟨w.heap.size, 0, none⟩) 1 1) [97] := by
    refine .inr (.inr ⟨_, _, _, rfl, by decide, by decide, fun j hj => ?_⟩)
    rw [hw1, Nat.zero_add, cell_of_row _ _ j _ 5 (1, 2) (heap_alloc_last w _)]
    match j, hj with
    | 0, _ => rfl
  have s2 : SlA w2 (.slice (some ⟨w1.heap.size, 0, none⟩) 2 2) [98, 99] := by
    refine .inr (.inr ⟨_, _, _, rfl, by decide, by decide, fun j hj => ?_⟩)
    rw [hw2, Nat.zero_add, cell_of_row _ _ j _ 5 (2, 3) (heap_alloc_last w1 _)]
    match j, hj with
    | 0, _ => rfl
    | 1, _ => rfl
  have H3 : Hid (Pt (w2.alloc (.cells #[.slice (some ⟨w.heap.size, 0, none⟩) 1 1, .slice (some ⟨w1.heap.size, 0, none⟩) 2 2] 23)) (.slice (some ⟨w2.heap.size, 0, none⟩) 2 2) [[97], [98, 99]] ∧ Chg w (w2.alloc (.cells #[.slice (some ⟨w.heap.size, 0, none⟩) 1 1, .slice (some ⟨w1.heap.size, 0, none⟩) 2 2] 23))) :=
    ⟨Pt.made2 (Chg.refl w2) (s1.chg q2) s2 23, (q1.trans q2).alloc _⟩
  clear s1 s2 q1 q2 k1 k2 hw1 hw2
  have HN : Hid (∀ u, Calls Tryd.prog 14 #[.int .i64 0] u fun r w' => r = .returned (.pointer none) ∧ w' = u) := fun u => new_none 0 u zeroNot
  go_enter Tryd.func7, Tryd.ntmps7
  go_wp2_with (first | (go_at_call 8; (refine (HO.out _ _ H3.out.2 H3.out.1).mono ?_; rintro r w5 ⟨b, rfl, hc2, ha2⟩; have d0 := (ha2.cell 0).trans (arr_get .u8 32 _ (i := 0) (by decide)); have d1 := (ha2.cell 1).trans (arr_get .u8 32 _ (i := 1) (by decide)); have d31 := (ha2.cell 31).trans (arr_get .u8 32 _ (i := 31) (by decide)); rw [abc_0] at d0; rw [abc_1] at d1; rw [abc_31] at d31)) | (go_at_call 14; (refine (HN.out _).mono ?_; rintro r w3 ⟨rfl, hw3⟩; rw [hw3])))
  go_ret
  exact ⟨rfl, hc2⟩
end Go.Proofs.YtbnonbhlfiadaaaDoor
