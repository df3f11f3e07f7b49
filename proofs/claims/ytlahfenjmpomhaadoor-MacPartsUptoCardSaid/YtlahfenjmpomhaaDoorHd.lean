/-
  The law's live question: the code of a text of RFC 4231 under the key Jefe.
-/
import Derived.Test.YtlahfenjmpomhaaDoorUnd
import Derived.Test.YtlahfenjmpomhaaDoorJef
import Derived.Lib.SlBytesConst
namespace Go.Proofs.YtlahfenjmpomhaaDoor
open Go.RowKit
set_option linter.unusedVariables false

theorem SlA.rd {w : World} {g n : Nat} {xs : List Int} (h : SlA w (.slice (some ⟨g, 0, none⟩) n n) xs) (hn : n = xs.length) (hb : n ≤ 1000000) : Ap.Rd w (.slice (some ⟨g, 0, none⟩) n n) xs := by
  refine ⟨_, _, _, rfl, hn, Nat.le_refl _, Nat.le_trans hb (by decide), (fun e => absurd e (by simp)), fun y e j u hj => ?_⟩
  injection e with e
  subst e
  have hjn : j < xs.length := by
    rcases Nat.lt_or_ge j xs.length with h' | h'
    · exact h'
    · rw [List.getElem?_eq_none h'] at hj
      cases hj
  rcases h with ⟨e1, _⟩ | ⟨_, _, _, e2⟩ | ⟨b, o, cap, e1, _, _, k⟩
  · cases e1
  · rw [e2] at hjn
    exact absurd hjn (Nat.not_lt_zero j)
  · injection e1 with e1 _ _
    injection e1 with e1
    injection e1 with e1 e2 _
    have ha : (⟨g, 0, none⟩ : Addr).add j = ⟨g, 0 + j, none⟩ := by unfold Addr.add; split <;> simp_all
    rw [ha]
    have := k j hjn
    rw [← e1, ← e2] at this
    rw [this]
    rw [List.getElem?_eq_getElem hjn] at hj
    injection hj with hj
    simp [gd, List.getD_eq_getElem?_getD, List.getElem?_eq_getElem hjn, hj]

set_option maxRecDepth 100000 in
set_option maxHeartbeats 4000000 in
theorem head_any (w : World) (ht : Tabs w) : Calls Tryd.prog 8 #[] w fun e w' => e = .returned (.bool true) ∧ Chg w w' := by
  have HT : Hid (Tabs w) := ht
  clear ht
  have HO : Hid (∀ u vk v, Chg w u → Ap.Rd u vk jk → Pt u v [[119, 104, 97, 116, 32, 100, 111, 32, 121, 97, 32, 119, 97, 110, 116, 32], [102, 111, 114, 32, 110, 111, 116, 104, 105, 110, 103, 63]] → Calls Tryd.prog 9 #[.int .i64 1, vk, v] u fun r w' => ∃ b, r = .returned (.slice (some ⟨b, 0, none⟩) 32 32) ∧ Chg w w' ∧ w'.cell? ⟨b, 0, none⟩ = some (.int .u8 91) ∧ w'.cell? ⟨b, 1, none⟩ = some (.int .u8 220) ∧ w'.cell? ⟨b, 31, none⟩ = some (.int .u8 67)) := by
    intro u vk v hu hk hp
    refine (mac_any 1 vk v jk _ u (.inl rfl) (HT.out.chg hu) hk (by decide) hp).mono ?_
    rintro r w' ⟨b, rfl, _, k2, k3⟩
    have e : [[119, 104, 97, 116, 32, 100, 111, 32, 121, 97, 32, 119, 97, 110, 116, 32], [102, 111, 114, 32, 110, 111, 116, 104, 105, 110, 103, 63]].flatten = jm := by rfl
    rw [e] at k3
    have k3' : Ar w' b (arr .u8 32 (sumByte 1 (sumSt 1 (blkK 1 jk 92 ++ sumL 1 (blkK 1 jk 54 ++ jm))))) := k3
    refine ⟨b, rfl, hu.trans k2, ?_, ?_, ?_⟩
    · rw [k3'.cell 0, arr_get .u8 32 _ (by decide), jefe 0 (by decide), jefe_0]
    · rw [k3'.cell 1, arr_get .u8 32 _ (by decide), jefe 1 (by decide), jefe_1]
    · rw [k3'.cell 31, arr_get .u8 32 _ (by decide), jefe 31 (by decide), jefe_31]
  have k1 := Lib.run_convert_bytes_const (P := Tryd.prog) w 23 5 #[.int .u8 74, .int .u8 101, .int .u8 102, .int .u8 101] 4 4 Tryd.underlying23 Tryd.underlying5
  obtain ⟨w1, hw1⟩ : ∃ w1, w1 = w.alloc (.cells #[.int .u8 74, .int .u8 101, .int .u8 102, .int .u8 101] 5 (4, 5)) := ⟨_, rfl⟩
  have k1' : (convert 23 23 (.slice (some ⟨w.heap.size, 0, none⟩) 4 4)).run Tryd.prog (w.alloc (.cells #[.int .u8 74, .int .u8 101, .int .u8 102, .int .u8 101] 5)) = .ok (.slice (some ⟨w.heap.size, 0, none⟩) 4 4) w1 := by rw [hw1]; exact k1
  have k2 := Lib.run_convert_bytes_const (P := Tryd.prog) w1 23 5 #[.int .u8 119, .int .u8 104, .int .u8 97, .int .u8 116, .int .u8 32, .int .u8 100, .int .u8 111, .int .u8 32, .int .u8 121, .int .u8 97, .int .u8 32, .int .u8 119, .int .u8 97, .int .u8 110, .int .u8 116, .int .u8 32] 16 16 Tryd.underlying23 Tryd.underlying5
  obtain ⟨w2, hw2⟩ : ∃ w2, w2 = w1.alloc (.cells #[.int .u8 119, .int .u8 104, .int .u8 97, .int .u8 116, .int .u8 32, .int .u8 100, .int .u8 111, .int .u8 32, .int .u8 121, .int .u8 97, .int .u8 32, .int .u8 119, .int .u8 97, .int .u8 110, .int .u8 116, .int .u8 32] 5 (16, 17)) := ⟨_, rfl⟩
  have k2' : (convert 23 23 (.slice (some ⟨w1.heap.size, 0, none⟩) 16 16)).run Tryd.prog (w1.alloc (.cells #[.int .u8 119, .int .u8 104, .int .u8 97, .int .u8 116, .int .u8 32, .int .u8 100, .int .u8 111, .int .u8 32, .int .u8 121, .int .u8 97, .int .u8 32, .int .u8 119, .int .u8 97, .int .u8 110, .int .u8 116, .int .u8 32] 5)) = .ok (.slice (some ⟨w1.heap.size, 0, none⟩) 16 16) w2 := by rw [hw2]; exact k2
  have k3 := Lib.run_convert_bytes_const (P := Tryd.prog) w2 23 5 #[.int .u8 102, .int .u8 111, .int .u8 114, .int .u8 32, .int .u8 110, .int .u8 111, .int .u8 116, .int .u8 104, .int .u8 105, .int .u8 110, .int .u8 103, .int .u8 63] 12 12 Tryd.underlying23 Tryd.underlying5
  obtain ⟨w3, hw3⟩ : ∃ w3, w3 = w2.alloc (.cells #[.int .u8 102, .int .u8 111, .int .u8 114, .int .u8 32, .int .u8 110, .int .u8 111, .int .u8 116, .int .u8 104, .int .u8 105, .int .u8 110, .int .u8 103, .int .u8 63] 5 (12, 13)) := ⟨_, rfl⟩
  have k3' : (convert 23 23 (.slice (some ⟨w2.heap.size, 0, none⟩) 12 12)).run Tryd.prog (w2.alloc (.cells #[.int .u8 102, .int .u8 111, .int .u8 114, .int .u8 32, .int .u8 110, .int .u8 111, .int .u8 116, .int .u8 104, .int .u8 105, .int .u8 110, .int .u8 103, .int .u8 63] 5)) = .ok (.slice (some ⟨w2.heap.size, 0, none⟩) 12 12) w3 := by rw [hw3]; exact k3
  have q1 : Chg w w1 := by rw [hw1]; exact (Chg.refl w).alloc _
  have q2 : Chg w1 w2 := by rw [hw2]; exact (Chg.refl w1).alloc _
  have q3 : Chg w2 w3 := by rw [hw3]; exact (Chg.refl w2).alloc _
  have s1 : SlA w1 (.slice (some ⟨w.heap.size, 0, none⟩) 4 4) [74, 101, 102, 101] := by
    refine .inr (.inr ⟨_, _, _, rfl, by decide, by decide, fun j hj => ?_⟩)
    rw [hw1, Nat.zero_add, cell_of_row _ _ j _ 5 (4, 5) (heap_alloc_last w _)]
    match j, hj with
    | 0, _ => rfl
    | 1, _ => rfl
    | 2, _ => rfl
    | 3, _ => rfl
  have s2 : SlA w2 (.slice (some ⟨w1.heap.size, 0, none⟩) 16 16) [119, 104, 97, 116, 32, 100, 111, 32, 121, 97, 32, 119, 97, 110, 116, 32] := by
    refine .inr (.inr ⟨_, _, _, rfl, by decide, by decide, fun j hj => ?_⟩)
    rw [hw2, Nat.zero_add, cell_of_row _ _ j _ 5 (16, 17) (heap_alloc_last w1 _)]
    match j, hj with
    | 0, _ => rfl
    | 1, _ => rfl
    | 2, _ => rfl
    | 3, _ => rfl
    | 4, _ => rfl
    | 5, _ => rfl
    | 6, _ => rfl
    | 7, _ => rfl
    | 8, _ => rfl
    | 9, _ => rfl
    | 10, _ => rfl
    | 11, _ => rfl
    | 12, _ => rfl
    | 13, _ => rfl
    | 14, _ => rfl
    | 15, _ => rfl
    | k + 16, h => exact absurd h (by simp)
  have s3 : SlA w3 (.slice (some ⟨w2.heap.size, 0, none⟩) 12 12) [102, 111, 114, 32, 110, 111, 116, 104, 105, 110, 103, 63] := by
    refine .inr (.inr ⟨_, _, _, rfl, by decide, by decide, fun j hj => ?_⟩)
    rw [hw3, Nat.zero_add, cell_of_row _ _ j _ 5 (12, 13) (heap_alloc_last w2 _)]
    match j, hj with
    | 0, _ => rfl
    | 1, _ => rfl
    | 2, _ => rfl
    | 3, _ => rfl
    | 4, _ => rfl
    | 5, _ => rfl
    | 6, _ => rfl
    | 7, _ => rfl
    | 8, _ => rfl
    | 9, _ => rfl
    | 10, _ => rfl
    | 11, _ => rfl
  have q4 : Chg w3 (w3.alloc (.cells #[.slice (some ⟨w1.heap.size, 0, none⟩) 16 16, .slice (some ⟨w2.heap.size, 0, none⟩) 12 12] 23)) := (Chg.refl w3).alloc _
  have H3 : Hid (Pt (w3.alloc (.cells #[.slice (some ⟨w1.heap.size, 0, none⟩) 16 16, .slice (some ⟨w2.heap.size, 0, none⟩) 12 12] 23)) (.slice (some ⟨w3.heap.size, 0, none⟩) 2 2) [[119, 104, 97, 116, 32, 100, 111, 32, 121, 97, 32, 119, 97, 110, 116, 32], [102, 111, 114, 32, 110, 111, 116, 104, 105, 110, 103, 63]] ∧ Chg w (w3.alloc (.cells #[.slice (some ⟨w1.heap.size, 0, none⟩) 16 16, .slice (some ⟨w2.heap.size, 0, none⟩) 12 12] 23)) ∧ Ap.Rd (w3.alloc (.cells #[.slice (some ⟨w1.heap.size, 0, none⟩) 16 16, .slice (some ⟨w2.heap.size, 0, none⟩) 12 12] 23)) (.slice (some ⟨w.heap.size, 0, none⟩) 4 4) jk) :=
    ⟨Pt.made2 (Chg.refl w3) (s2.chg q3) s3 23, (q1.trans (q2.trans q3)).trans q4, Rd.chg (SlA.rd s1 rfl (by decide)) (q2.trans (q3.trans q4))⟩
  clear s1 s2 s3 q1 q2 q3 q4 k1 k2 k3 hw1 hw2 hw3
  go_enter Tryd.func8, Tryd.ntmps8
  go_wp2_with (first | (go_at_call 9; (refine (HO.out _ _ _ H3.out.2.1 H3.out.2.2 H3.out.1).mono ?_; rintro r w5 ⟨b, rfl, hc2, d0, d1, d31⟩)))
  go_ret
  exact ⟨rfl, hc2⟩
end Go.Proofs.YtlahfenjmpomhaaDoor
