/-
  The live question of layer 10: its answer, reckoned.
-/
import Derived.Test.YtobglgddbhddnaaFac
import Derived.Test.YtobglgddbhddnaaAsk
import Derived.Test.YtobglgddbhddnaaGh
namespace Go.Proofs.Ytobglgddbhddnaa
open Go.RowKit
set_option linter.unusedVariables false

set_option maxRecDepth 100000 in
set_option maxHeartbeats 4000000 in
theorem shead_any (w : World) : Calls Try.prog 5 #[] w fun r w' => r = .returned (.bool true) ∧ Chg w w' := by
  have hz := zero38.1
  have hmk : ∀ u, (Instr.makeSlice 35 (.int .i64 16) (.int .i64 16)).run Try.prog u = .ok (.slice (some ⟨u.heap.size, 0, none⟩) 16 16) (u.alloc (.cells (ba 16 zB) 5)) := mk22 16 (by decide)
  go_enter Try.func5, Try.ntmps5
  go_wp2_with fail
  obtain ⟨w1, hw1⟩ : ∃ w1, w1 = w.alloc (.cells (ba 16 zB) 5) := ⟨_, rfl⟩
  have Z1 : Hid (Chg w w1 ∧ Bs w1 w.heap.size 0 16 zB) := by
    rw [hw1]
    exact ⟨(Chg.refl w).alloc _, Ar.bs (Ar.new w _ _)⟩
  rw [← hw1]
  clear hw1
  go_at_call 16
  have HC := sealG_face 4865 1 16 (.slice (some ⟨w.heap.size, 0, none⟩) 16 16) zB (.slice none 0 0) (.slice none 0 0) w1 (fun v e u => e = 0 ∧ Ap.Rd u v (nums 16 gAns) ∧ Chg w1 u) (fun u => find_any 4865 u) (fun u hu => by
    refine (sealG_fwd 1 16 (some ⟨w.heap.size, 0, none⟩) 16 16 zB (.slice none 0 0) (.slice none 0 0) u (fun v u => Ap.Rd u v (nums 16 gAns)) (fun v u u' h k => Rd.chg h k) 0 rfl (fun u2 hu2 => ?_)).mono ?_
    · refine (seal_any w.heap.size 0 16 16 4 10 zB zB zB zB 0 0 (.slice none 0 0) (.slice none 0 0) u2 (Bs.chg Z1.out.2 (hu.trans hu2)) rfl (.inl rfl) rfl (Nat.le_refl _) (by decide) (Ap.Rd.nil _) (Ap.Rd.nil _) (by decide) (by decide)).mono ?_
      rintro r w2 ⟨k, v, rfl, ho, hks⟩
      have hr := ho.own.rd
      rw [show 0 + 16 = 16 from rfl, head_tag hks] at hr
      exact ⟨v, rfl, hr, ho.chg⟩
    · rintro r w2 ⟨v, rfl, h1, h2⟩
      exact ⟨v, 0, rfl, rfl, h1, hu.trans h2⟩)
  refine HC.mono ?_
  rintro r w2 ⟨v, e, rfl, rfl, hr, hc⟩
  obtain ⟨ao, m, c, rfl, hm, -⟩ := hr.shape
  rw [nums_len] at hm
  subst hm
  obtain ⟨kb, ko, c', heq, -, -, hb⟩ := Rd.bs hr (by decide)
  cases heq
  have c0 : w2.cell? ⟨kb, ko, none⟩ = some (.int .u8 88) := hb 0 (by decide)
  have c15 : w2.cell? ⟨kb, ko + 15, none⟩ = some (.int .u8 90) := hb 15 (by decide)
  have Z2 : Hid (Chg w w2) := Z1.out.1.trans hc
  clear HC hb hr hc Z1
  go_wp2_with (first | (go_at_call 10; refine (skeyLen_any 4866 _).mono ?_; rintro r w3 ⟨rfl, hw3⟩))
  go_ret
  exact ⟨rfl, Z2.out.trans hw3⟩
end Go.Proofs.Ytobglgddbhddnaa
