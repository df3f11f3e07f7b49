/-
  ChainHosts, walked.
-/
import Derived.Test.YtbbopehpmnebiaaGreatDoorRm
import Derived.Test.YtbbopehpmnebiaaGreatDoorCk
namespace Go.Proofs.YtbbopehpmnebiaaGreatDoor
open Go.RowKit Go.Shelf
set_option linter.unusedVariables false
set_option maxRecDepth 100000

theorem live1 : mat [42, 46, 97, 46, 98] [88, 46, 97, 46, 66] = true := by decide +kernel
theorem live2 : mat [42, 46, 97, 46, 98] [97, 46, 98] = false := by decide +kernel

set_option maxHeartbeats 4000000 in
theorem head_any (w : World) : Calls Tryz.prog 4 #[] w fun e w' => e = .returned (.bool true) ∧ Chg Non w w' := by
  have H1 : Hid (∀ q, Calls Tryz.prog 7 #[.string ⟨#[42, 46, 97, 46, 98]⟩, .string ⟨#[88, 46, 97, 46, 66]⟩] q fun e w' => e = .returned (.bool true) ∧ Chg Non q w') := fun q => by
    have := Matches_any ⟨#[42, 46, 97, 46, 98]⟩ ⟨#[88, 46, 97, 46, 66]⟩ q
    rw [show mat _ _ = true from live1] at this
    exact this
  have H2 : Hid (∀ q, Calls Tryz.prog 7 #[.string ⟨#[42, 46, 97, 46, 98]⟩, .string ⟨#[97, 46, 98]⟩] q fun e w' => e = .returned (.bool false) ∧ Chg Non q w') := fun q => by
    have := Matches_any ⟨#[42, 46, 97, 46, 98]⟩ ⟨#[97, 46, 98]⟩ q
    rw [show mat _ _ = false from live2] at this
    exact this
  go_enter Tryz.func4, Tryz.ntmps4
  go_wp2_with (go_at_call 9; refine (check_nil _).mono ?_)
  rintro e w1 ⟨rfl, hc1⟩
  have C1 : Hid (Chg Non w w1) := hc1
  clear hc1
  go_wp2_with (go_at_call 7; refine (H1.out _).mono ?_)
  rintro e w2 ⟨rfl, hc2⟩
  have C2 : Hid (Chg Non w w2) := C1.out.trans hc2 (fun _ _ x => x)
  clear hc2
  go_wp2_with (go_at_call 7; refine (H2.out _).mono ?_)
  rintro e w3 ⟨rfl, hc3⟩
  have C3 : Hid (Chg Non w w3) := C2.out.trans hc3 (fun _ _ x => x)
  clear hc3
  go_wp2
  go_ret
  exact ⟨rfl, C3.out⟩

set_option maxHeartbeats 8000000 in
theorem hosts_walk (p n : ByteArray) (w : World) (hp : p.size ≤ 140737488355328) : Calls Tryz.prog 3 #[.string p, .string n] w fun e w' => e = .returned (.bool true) ∧ Chg Non w w' := by
  obtain ⟨A, hA⟩ : ∃ A, A = decide (0 < cnt n.data.toList) := ⟨_, rfl⟩
  obtain ⟨B, hB⟩ : ∃ B, B = decide (0 < cnt p.data.toList) := ⟨_, rfl⟩
  obtain ⟨M, hM⟩ : ∃ M, M = mat p.data.toList n.data.toList := ⟨_, rfl⟩
  have HA : Hid (∀ q, Calls Tryz.prog 5 #[.string n] q fun e w' => e = .returned (.bool A) ∧ Chg Non q w') := fun q => by rw [hA]; exact Host_any n q
  have HB : Hid (∀ q, Calls Tryz.prog 5 #[.string p] q fun e w' => e = .returned (.bool B) ∧ Chg Non q w') := fun q => by rw [hB]; exact Host_any p q
  have RA : Hid (∀ q, Calls Tryz.prog 6 #[.string n] q fun e w' => e = .returned (.bool A) ∧ w' = q) := fun q => by rw [hA]; exact rHost_any n q
  have RB : Hid (∀ q, Calls Tryz.prog 6 #[.string p] q fun e w' => e = .returned (.bool B) ∧ w' = q) := fun q => by rw [hB]; exact rHost_any p q
  have HM : Hid (∀ q, Calls Tryz.prog 7 #[.string p, .string n] q fun e w' => e = .returned (.bool M) ∧ Chg Non q w') := fun q => by rw [hM]; exact Matches_any p n q
  have RM : Hid (∀ q, Calls Tryz.prog 8 #[.string p, .string n] q fun e w' => e = .returned (.bool M) ∧ Chg Non q w') := fun q => by rw [hM]; exact rMatches_any p n q hp
  clear hA hB hM hp
  go_enter Tryz.func3, Tryz.ntmps3
  go_wp2_with (go_at_call 4; refine (head_any _).mono ?_)
  rintro e w1 ⟨rfl, hc1⟩
  have C1 : Hid (Chg Non w w1) := hc1
  clear hc1
  go_wp2_with (go_at_call 5; refine (HA.out _).mono ?_)
  rintro e w2 ⟨rfl, hc2⟩
  have C2 : Hid (Chg Non w w2) := C1.out.trans hc2 (fun _ _ x => x)
  clear hc2
  go_wp2_with (go_at_call 6; refine (RA.out _).mono ?_)
  rintro e w3 ⟨rfl, hw⟩
  rw [hw]
  clear hw
  go_wp2_with (go_at_call 5; refine (HB.out _).mono ?_)
  rintro e w4 ⟨rfl, hc4⟩
  have C4 : Hid (Chg Non w w4) := C2.out.trans hc4 (fun _ _ x => x)
  clear hc4
  go_wp2_with (go_at_call 6; refine (RB.out _).mono ?_)
  rintro e w5 ⟨rfl, hw⟩
  rw [hw]
  clear hw
  go_wp2_with (go_at_call 7; refine (HM.out _).mono ?_)
  rintro e w6 ⟨rfl, hc6⟩
  have C6 : Hid (Chg Non w w6) := C4.out.trans hc6 (fun _ _ x => x)
  clear hc6
  go_wp2_with (go_at_call 8; refine (RM.out _).mono ?_)
  rintro e w7 ⟨rfl, hc7⟩
  have C7 : Hid (Chg Non w w7) := C6.out.trans hc7 (fun _ _ x => x)
  clear hc7
  go_wp2
  go_ret
  exact ⟨rfl, C7.out⟩
end Go.Proofs.YtbbopehpmnebiaaGreatDoor
