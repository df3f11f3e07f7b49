/-
  Check of no certificate.
-/
import Derived.Test.YtbbopehpmnebiaaGreatDoorBase
import Derived.Lib.Hide
import Derived.Maps.AppendAt
import Derived.BigQuiet
import Derived.Laws.EntriesVeiled
namespace Go.Proofs.YtbbopehpmnebiaaGreatDoor
open Go.RowKit
set_option linter.unusedVariables false
set_option maxRecDepth 100000

theorem Chg.drewN {S : Nat → Prop} {a b : World} (h : Chg S a b) (n : Nat) : Chg S a (b.drewN n) := ⟨h.os, h.tape, h.output, h.size, h.block⟩
theorem info51 : (Tryz.prog.info? 51).map (fun i => (i.zero, i.size, i.bytes)) = some (some (.agg #[.int .i64 0, .int .i64 0, .nilFunc]), 3, 24) := by kernel_rfl

set_option maxHeartbeats 4000000 in
theorem atOnce1_any (a : Addr) (w : World) (h : w.cell? a = some (.slice none 0 0)) :
    Calls Tryz.prog 26 #[.pointer (some a)] w fun e w' => e = .returned (.bool true) ∧ w' = w := by
  go_enter Tryz.func26, Tryz.ntmps26
  go_wp2
  go_ret
  exact ⟨rfl, rfl⟩

/-- The reasons: the first one, and what it asks. -/
structure AO (w w' : World) (v : Value) : Prop where
  chg : Chg Non w w'
  ex : ∃ g c, v = .slice (some ⟨g, 0, none⟩) 3 c ∧ 3 ≤ c ∧ c ≤ 9223372036854775807 ∧ w'.cell? ⟨g, 0, none⟩ = some (.int .i64 161) ∧ w'.cell? ⟨g, 1, none⟩ = some (.int .i64 0) ∧ w'.cell? ⟨g, 2, none⟩ = some (.func (.func 26) #[] #[.pointer (some ⟨w.heap.size, 0, none⟩)])
  box : w'.cell? ⟨w.heap.size, 0, none⟩ = some (.slice none 0 0)

theorem chg_cell {w w' : World} (c : Chg Non w w') {b i : Nat} {z : Value} (h : w.cell? ⟨b, i, none⟩ = some z) : w'.cell? ⟨b, i, none⟩ = some z := by
  rw [← h]
  exact World.cell?_of_block (c.block b (World.block_lt_of_cell? w _ h) (fun x => x))

set_option maxHeartbeats 4000000 in
theorem atOnce_nil (w : World) :
    Calls Tryz.prog 17 #[.slice none 0 0, .int .i64 0, .string ⟨#[]⟩, .int .i64 1] w fun e w' => ∃ v, e = .returned v ∧ AO w w' v := by
  obtain ⟨W, hW⟩ : ∃ W, W = (((((w.alloc (.cells #[.slice none 0 0] 35)).alloc (.cells #[.int .i64 0] 2)).alloc (.cells #[.string ⟨#[]⟩] 9)).alloc (.cells #[.int .i64 1] 28)).alloc (.cells #[.int .i64 161, .int .i64 0, .func (.func 26) #[] #[.pointer (some ⟨w.heap.size, 0, none⟩)]] 51)) := ⟨_, rfl⟩
  have CW : Hid (Chg Non w W) := by rw [hW]; exact (((((Chg.refl _ _).alloc _).alloc _).alloc _).alloc _).alloc _
  have SW : Hid (W.heap.size = w.heap.size + 5) := by show _ = _; rw [hW]; simp
  have B0 : Hid (W.heap[w.heap.size]? = some (.cells #[.slice none 0 0] 35)) := by
    show _ = _
    rw [hW, Below.heap_alloc _ _ _ (by simp <;> omega), Below.heap_alloc _ _ _ (by simp <;> omega), Below.heap_alloc _ _ _ (by simp <;> omega), Below.heap_alloc _ _ _ (by simp)]
    exact heap_alloc_new w _
  have B4 : Hid (W.heap[w.heap.size + 4]? = some (.cells #[.int .i64 161, .int .i64 0, .func (.func 26) #[] #[.pointer (some ⟨w.heap.size, 0, none⟩)]] 51)) := by
    show _ = _
    rw [hW]
    have := heap_alloc_new ((((w.alloc (.cells #[.slice none 0 0] 35)).alloc (.cells #[.int .i64 0] 2)).alloc (.cells #[.string ⟨#[]⟩] 9)).alloc (.cells #[.int .i64 1] 28)) (.cells #[.int .i64 161, .int .i64 0, .func (.func 26) #[] #[.pointer (some ⟨w.heap.size, 0, none⟩)]] 51)
    simpa using this
  have HWW : Hid (W = (((((w.alloc (.cells #[.slice none 0 0] 35)).alloc (.cells #[.int .i64 0] 2)).alloc (.cells #[.string ⟨#[]⟩] 9)).alloc (.cells #[.int .i64 1] 28)).alloc (.cells #[.int .i64 161, .int .i64 0, .func (.func 26) #[] #[.pointer (some ⟨w.heap.size, 0, none⟩)]] 51))) := hW
  clear hW
  obtain ⟨i0, p1, p2, p3, p4⟩ := info_parts info51
  go_enter Tryz.func17, Tryz.ntmps17
  go_wp2
  rw [← HWW.out]
  go_loopw [9, 21] (fun a i wr => a = .slice (some ⟨w.heap.size + 4, 0, none⟩) 1 1 ∧ i = .int .i64 0 ∧ wr = W) (fun _ _ _ => 0)
  case atStart => exact ⟨rfl, rfl, rfl⟩
  case round =>
    obtain ⟨rfl, rfl, rfl⟩ := hrel
    obtain ⟨f1, hf1⟩ : ∃ f1 : Value, f1 = .func (.func 29) #[] #[.pointer (some ⟨w.heap.size, 0, none⟩), .pointer (some ⟨w.heap.size + 1 + 1 + 1, 0, none⟩)] := ⟨_, rfl⟩
    obtain ⟨f2, hf2⟩ : ∃ f2 : Value, f2 = .func (.func 31) #[] #[.pointer (some ⟨w.heap.size + 1 + 1, 0, none⟩), .pointer (some ⟨w.heap.size, 0, none⟩)] := ⟨_, rfl⟩
    have HOW : Hid ((wr.alloc (.cells #[.int .i64 164, .int .i64 0, .func (.func 29) #[] #[.pointer (some ⟨w.heap.size, 0, none⟩), .pointer (some ⟨w.heap.size + 1 + 1 + 1, 0, none⟩)], .int .i64 163, .int .i64 0, .func (.func 31) #[] #[.pointer (some ⟨w.heap.size + 1 + 1, 0, none⟩), .pointer (some ⟨w.heap.size, 0, none⟩)]] 51)).ownsRow w.heap.size 51 3 (.slice (some ⟨w.heap.size + 4, 0, none⟩) 1 1) 1 [.int .i64 161, .int .i64 0, .func (.func 26) #[] #[.pointer (some ⟨w.heap.size, 0, none⟩)]]) := by
      refine ⟨rfl, .inr ⟨w.heap.size + 4, 1, _, rfl, by omega, (Below.heap_alloc _ _ _ (by have := SW.out; omega)).trans B4.out, Nat.le_refl _, by decide, rfl, rfl⟩⟩
    have HNW : Hid (∀ j z, ([.int .i64 164, .int .i64 0, .func (.func 29) #[] #[.pointer (some ⟨w.heap.size, 0, none⟩), .pointer (some ⟨w.heap.size + 1 + 1 + 1, 0, none⟩)], .int .i64 163, .int .i64 0, .func (.func 31) #[] #[.pointer (some ⟨w.heap.size + 1 + 1, 0, none⟩), .pointer (some ⟨w.heap.size, 0, none⟩)]] : List Value)[j]? = some z → (wr.alloc (.cells #[.int .i64 164, .int .i64 0, .func (.func 29) #[] #[.pointer (some ⟨w.heap.size, 0, none⟩), .pointer (some ⟨w.heap.size + 1 + 1 + 1, 0, none⟩)], .int .i64 163, .int .i64 0, .func (.func 31) #[] #[.pointer (some ⟨w.heap.size + 1 + 1, 0, none⟩), .pointer (some ⟨w.heap.size, 0, none⟩)]] 51)).cell? ((⟨wr.heap.size, 0, none⟩ : Addr).add j) = some z) := fun j z hj => by
      rw [Addr.add_lit, cell_of_row _ wr.heap.size (0 + j) _ 51 (0, 0) (heap_alloc_new wr _)]
      simpa using hj
    have HON : Hid (∀ z ∈ ([.int .i64 164, .int .i64 0, .func (.func 29) #[] #[.pointer (some ⟨w.heap.size, 0, none⟩), .pointer (some ⟨w.heap.size + 1 + 1 + 1, 0, none⟩)], .int .i64 163, .int .i64 0, .func (.func 31) #[] #[.pointer (some ⟨w.heap.size + 1 + 1, 0, none⟩), .pointer (some ⟨w.heap.size, 0, none⟩)]] : List Value), z.oneCell' = true) := by
      intro z hz
      simp at hz
      rcases hz with rfl | rfl | rfl | rfl | rfl | rfl <;> rfl
    have hsw : w.heap.size ≤ (wr.alloc (.cells #[.int .i64 164, .int .i64 0, .func (.func 29) #[] #[.pointer (some ⟨w.heap.size, 0, none⟩), .pointer (some ⟨w.heap.size + 1 + 1 + 1, 0, none⟩)], .int .i64 163, .int .i64 0, .func (.func 31) #[] #[.pointer (some ⟨w.heap.size + 1 + 1, 0, none⟩), .pointer (some ⟨w.heap.size, 0, none⟩)]] 51)).heap.size := by have := SW.out; simp; omega
    have HSW : Hid _ := hsw
    clear hf1 hf2 f1 f2 hsw
    go_wp2_with (at_builtin; refine wpList_append_own_at _ rfl (.tmp 33) (.tmp 38) 37 rfl w.heap.size 51 i0 _ 3 24 Tryz.underlying37 p1 p2 p3 p4 rfl (by decide) _ 1 [.int .i64 161, .int .i64 0, .func (.func 26) #[] #[.pointer (some ⟨w.heap.size, 0, none⟩)]] rfl HOW.out ⟨wr.heap.size, 0, none⟩ 2 2 _ rfl rfl HNW.out HON.out (by unfold maxLen; omega) (by omega) HSW.out ?_)
    intro v' w3 q1 q2 q3 q4
    have HAO : Hid (AO w w3 v') := by
      have c3 : Chg Non w w3 := by
        refine (CW.out.alloc _).trans (Chg.of_grown q2) (fun i hi e => ?_)
        simp only [Value.ownBlock, Option.some.injEq] at e
        omega
      refine ⟨c3, ?_, ?_⟩
      · rcases q1.2 with ⟨-, h0⟩ | ⟨g, cap, cur, e, -, hg, hn, hm, hs, ht⟩
        · omega
        · have hc : ∀ k z, ([.int .i64 161, .int .i64 0, .func (.func 26) #[] #[.pointer (some ⟨w.heap.size, 0, none⟩)]] : List Value)[k]? = some z → w3.cell? ⟨g, k, none⟩ = some z := fun k z hz => by
            have hk : k < 3 := by have := (List.getElem?_eq_some_iff.1 hz).1; simpa using this
            rw [cell_of_row w3 g k cur 51 (0, 0) hg]
            have h2 := congrArg (fun l => l[k]?) ht
            rw [List.getElem?_take] at h2
            split at h2
            · rw [Array.getElem?_toList] at h2
              rw [h2]
              match k, hk, hz with
              | 0, _, hz => exact hz
              | 1, _, hz => exact hz
              | 2, _, hz => exact hz
            · omega
          exact ⟨g, cap, e, hn, by simpa [maxLen] using hm, hc 0 _ rfl, hc 1 _ rfl, hc 2 _ rfl⟩
      · have hb : w3.heap[w.heap.size]? = some (.cells #[.slice none 0 0] 35) := by
          rw [q2.block w.heap.size (by have := SW.out; simp; omega) (by simp [Value.ownBlock])]
          rw [Below.heap_alloc _ _ _ (by have := SW.out; omega)]
          exact B0.out
        rw [cell_of_row w3 w.heap.size 0 _ 35 (0, 0) hb]
        rfl
    obtain ⟨ao, n, c, rfl⟩ : ∃ ao n c, v' = .slice ao n c := by
      obtain ⟨g, c, e, -⟩ := HAO.out.ex
      exact ⟨_, _, _, e⟩
    clear q1 q2 q3 q4
    go_wp2
    go_ret
    exact ⟨_, rfl, HAO.out⟩

set_option maxHeartbeats 4000000 in
theorem refused_any (u w : World) (v : Value) (h : AO u w v) :
    Calls Tryz.prog 16 #[v] w fun e w' => e = .returned (.tuple #[.int .i64 161, .int .i64 0]) ∧ Chg Non w w' := by
  obtain ⟨g, c, rfl, h1, h2, c0, c1, c2⟩ := h.ex
  have bx := h.box
  have HA : Hid (∀ q, Chg Non w q → Calls Tryz.prog 26 #[.pointer (some ⟨u.heap.size, 0, none⟩)] q fun e w' => e = .returned (.bool true) ∧ w' = q) := fun q hq => atOnce1_any _ q (chg_cell hq bx)
  clear h bx
  go_enter Tryz.func16, Tryz.ntmps16
  go_wp2
  go_loopw [8] (fun i wr => i = .int .i64 0 ∧ wr = w) (fun _ _ => 0)
  case atStart => exact ⟨rfl, rfl⟩
  case round =>
    obtain ⟨rfl, rfl⟩ := hrel
    go_wp2_with (go_at_call 26; refine (HA.out _ ((Chg.refl _ _).alloc _)).mono ?_; rintro e w' ⟨rfl, rfl⟩)
    go_quiet (fail)
    go_wp2
    go_ret2
    refine ⟨rfl, ?_⟩
    exact ((Chg.refl _ _).alloc _).drewN _

set_option maxHeartbeats 4000000 in
theorem check_nil (w : World) : Calls Tryz.prog 9 #[.slice none 0 0, .slice none 0 0, .int .i64 0, .string ⟨#[]⟩, .int .i64 1] w fun e w' => e = .returned (.tuple #[.int .i64 161, .int .i64 0]) ∧ Chg Non w w' := by
  go_enter Tryz.func9, Tryz.ntmps9
  go_wp2_with (go_at_call 17; refine (atOnce_nil _).mono ?_)
  rintro e w1 ⟨v1, rfl, hA⟩
  have HA : Hid (AO w w1 v1) := hA
  clear hA
  go_wp2_with (go_at_call 16; refine (refused_any w _ _ HA.out).mono ?_)
  rintro e w2 ⟨rfl, hc⟩
  go_wp2
  go_ret2
  exact ⟨rfl, HA.out.chg.trans hc (fun _ _ x => x)⟩
end Go.Proofs.YtbbopehpmnebiaaGreatDoor
