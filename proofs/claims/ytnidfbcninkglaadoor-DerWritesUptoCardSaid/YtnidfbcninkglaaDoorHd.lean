/-
  The live question of the statements.
-/
import Derived.Test.YtnidfbcninkglaaDoorPt
import Derived.Test.YtnidfbcninkglaaDoorOx
namespace Go.Proofs.YtnidfbcninkglaaDoor
open Go.RowKit
set_option linter.unusedVariables false
set_option maxRecDepth 100000

theorem oid_head : oidS [42, 134, 72, 206, 61, 2, 1] = [49, 46, 50, 46, 56, 52, 48, 46, 49, 48, 48, 52, 53, 46, 50, 46, 49] ∧ oidE [42, 134, 72, 206, 61, 2, 1] = 0 := by decide +kernel
theorem time_head : PutT 2524608000 [24, 15, 50, 48, 53, 48, 48, 49, 48, 49, 48, 48, 48, 48, 48, 48, 90] := by
  show (if _ then _ else _)
  rw [if_neg (by decide)]
  exact ⟨2050, 1, 1, by unfold Cal; decide +kernel, by decide +kernel⟩

set_option maxHeartbeats 3200000 in
theorem head_any (w : World) (ht : Tab w) : Calls Tryd.prog 9 #[] w fun e w' => e = .returned (.bool true) ∧ Chg Non w w' := by
  have HT : Hid (Tab w) := ht
  have HO : Hid (∀ u c, Chg Non w u → Rd u (.slice (some ⟨w.heap.size, 0, none⟩) 7 c) [42, 134, 72, 206, 61, 2, 1] → Calls Tryd.prog 24 #[.slice (some ⟨w.heap.size, 0, none⟩) 7 c] u fun e w' => e = .returned (.tuple #[.string ⟨#[49, 46, 50, 46, 56, 52, 48, 46, 49, 48, 48, 52, 53, 46, 50, 46, 49]⟩, .int .i64 0]) ∧ Chg Non u w') := fun u c hu hr => by
    have := oid_any _ _ (by intro x hx; simp at hx; omega) u hr (HT.out.non hu)
    rw [oid_head.1, oid_head.2] at this
    exact this
  have HR := row_rd w [42, 134, 72, 206, 61, 2, 1] 7 rfl (by decide)
  have HR' : Hid (Rd (w.alloc (.cells #[.int .u8 42, .int .u8 134, .int .u8 72, .int .u8 206, .int .u8 61, .int .u8 2, .int .u8 1] 5)) (.slice (some ⟨w.heap.size, 0, none⟩) 7 7) [42, 134, 72, 206, 61, 2, 1]) := HR
  clear HR ht
  go_enter Tryd.func9, Tryd.ntmps9
  go_wp2_with (first
    | (go_at_call 24; refine (HO.out _ _ ((Chg.refl _ _).alloc _) HR'.out).mono ?_; rintro e w1 ⟨rfl, hc1⟩)
    | (go_at_call 28; refine (putTime_any 2524608000 _).mono ?_))
  rintro e w2 ⟨v2, rfl, ⟨l, hv2, hp⟩⟩
  have hl := hp.unique time_head
  subst hl
  have hs := run_str w2 v2 _ hv2.rd
  have hs' : (convert 22 9 v2).run Tryd.prog w2 = .ok (.string ⟨#[24, 15, 50, 48, 53, 48, 48, 49, 48, 49, 48, 48, 48, 48, 48, 48, 90]⟩) w2 := hs
  obtain ⟨ao, n, c, rfl, -, -, -⟩ := hv2.rd.shape
  have HC : Hid (Chg Non w w2) := (((Chg.refl _ _).alloc _).two hc1).two hv2.chg
  clear hs hv2 hp
  go_wp2
  go_ret
  exact ⟨rfl, HC.out⟩
end Go.Proofs.YtnidfbcninkglaaDoor
