/-
  The live question: head.
-/
import Derived.Test.YtkdidacebfkdmaaBlk
import Derived.Test.YtkdidacebfkdmaaHdp
namespace Go.Proofs.Ytkdidacebfkdmaa
open Go.RowKit
set_option linter.unusedVariables false

theorem zero22 : (∀ w, (zeroValue 22).run Try.prog w = .ok (.agg (ba 32 zB)) w) ∧ (Try.prog.info? 22).map (·.size) = some 32 := zero_of_info (by kernel_rfl)
theorem zero24 : (∀ w, (zeroValue 24).run Try.prog w = .ok (.agg (ba 12 zB)) w) ∧ (Try.prog.info? 24).map (·.size) = some 12 := zero_of_info (by kernel_rfl)

set_option maxRecDepth 100000 in
set_option maxHeartbeats 4000000 in
theorem head_any (w : World) : Calls Try.prog 8 #[] w fun r w' => r = .returned (.bool true) ∧ Chg w w' := by
  have hz1 := zero22.1
  have hz2 := zero24.1
  have hz := zero28.1
  obtain ⟨X, hX⟩ : ∃ X, X = blk zB 0#32 zB := ⟨_, rfl⟩
  have HB : Hid (∀ u, Calls Try.prog 11 #[.agg (ba 32 zB), .int .u32 0, .agg (ba 12 zB)] u fun r w' => r = .returned (.agg (ba 64 X)) ∧ Chg u w') := by
    rw [hX]
    exact fun u => block_any zB zB 0#32 u
  have HX : Hid (X 0 = 0x76#8 ∧ X 1 = 0xb8#8 ∧ X 2 = 0xe0#8 ∧ X 3 = 0xad#8 ∧ X 63 = 0x86#8) := by
    rw [hX]
    exact ch_head
  have hsz := szB X i28
  have hlen := lenB 64 zB X
  have hone := ba_one 64 X
  clear hX
  have HS : Hid ((Try.prog.info? 28).map (·.size) = some (ba 64 X).size ∧ (ba 64 zB).size = (ba 64 X).size ∧ (ba 64 X).all (·.oneCell') = true) := ⟨hsz, hlen, hone⟩
  clear hsz hlen hone
  go_enter Try.func8, Try.ntmps8
  go_upto_region 2 with (first | (go_at_call 11; refine (HB.out _).mono ?_; rintro r w1 ⟨rfl, hc1⟩) | refine wpList_store_row rfl 28 _ _ rfl _ _ rfl rfl _ _ (heap_alloc_last w1 _) HS.out.1 HS.out.2.1 HS.out.2.2 ?_)
  obtain ⟨B, hB⟩ : ∃ B, B = w1.heap.size := ⟨_, rfl⟩
  obtain ⟨w2, hw2⟩ : ∃ w2, w2 = (w1.alloc (.cells (ba 64 zB) 28)).setRow w1.heap.size (ba 64 X) := ⟨_, rfl⟩
  have Z : Hid (Chg w w2 ∧ Ar w2 B (ba 64 X)) := by
    rw [hw2, hB]
    exact ⟨(hc1.alloc _).setRow hc1.size _, (Ar.new w1 _ _).row _⟩
  rw [← hw2, ← hB]
  clear hw2 hB hc1 hz hz1 hz2 HB HS
  dsimp only [Act.put]
  have c0 := (Z.out.2.cell 0).trans (ba_get 64 X (by decide))
  have c1 := (Z.out.2.cell 1).trans (ba_get 64 X (by decide))
  have c2 := (Z.out.2.cell 2).trans (ba_get 64 X (by decide))
  have c3 := (Z.out.2.cell 3).trans (ba_get 64 X (by decide))
  have c4 := (Z.out.2.cell 63).trans (ba_get 64 X (by decide))
  rw [HX.out.1] at c0
  rw [HX.out.2.1] at c1
  rw [HX.out.2.2.1] at c2
  rw [HX.out.2.2.2.1] at c3
  rw [HX.out.2.2.2.2] at c4
  go_wp2
  go_ret
  exact ⟨rfl, Z.out.1⟩
end Go.Proofs.Ytkdidacebfkdmaa
