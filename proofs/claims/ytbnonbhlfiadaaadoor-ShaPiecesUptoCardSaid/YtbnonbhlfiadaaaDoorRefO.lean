/-
  The document's Of: the sum of bytes, by each function.
-/
import Derived.Test.YtbnonbhlfiadaaaDoorM32
import Derived.Test.YtbnonbhlfiadaaaDoorLnk2
import Derived.Test.YtbnonbhlfiadaaaDoorLnk3
namespace Go.Proofs.YtbnonbhlfiadaaaDoor
open Go.RowKit
set_option linter.unusedVariables false

/-- The bytes of a sum. -/
def sumL (q : Int) (xs : List Int) : List Int := (List.range (sizeOfH q)).map (sumByte q (sumSt q xs))
theorem Rd.take {w : World} {ao : Option Addr} {n c k : Nat} {xs : List Int} (h : Ap.Rd w (.slice ao n c) xs) (hk : k ≤ n) : Ap.Rd w (.slice ao k c) (xs.take k) := by
  obtain ⟨ao', n', c', e, hn, hc, hmx, h0, hx⟩ := h
  injection e with e1 e2 e3
  subst e1 e2 e3
  refine ⟨_, _, _, rfl, by rw [List.length_take]; omega, by omega, hmx, h0, fun x e j u hj => hx x e j u ?_⟩
  rw [List.getElem?_take] at hj
  split at hj
  · exact hj
  · cases hj
theorem start2 : (#[.int .u64 14680500436340154072, .int .u64 7105036623409894663, .int .u64 10473403895298186519, .int .u64 1526699215303891257, .int .u64 7436329637833083697, .int .u64 10282925794625328401, .int .u64 15784041429090275239, .int .u64 5167115440072839076] : Array Value) = arr .u64 8 (startOf 2) := by kernel_rfl
theorem start3 : (#[.int .u64 7640891576956012808, .int .u64 13503953896175478587, .int .u64 4354685564936845355, .int .u64 11912009170470909681, .int .u64 5840696475078001361, .int .u64 11170449401992604703, .int .u64 2270897969802886507, .int .u64 6620516959819538809] : Array Value) = arr .u64 8 (startOf 3) := by kernel_rfl

set_option maxRecDepth 100000 in
theorem refOf_any (q : Int) (v : Value) (xs : List Int) (w : World) (hv : Valid q) (hr : Ap.Rd w v xs) (hx : ∀ x ∈ xs, 0 ≤ x ∧ x < 256) (hl : xs.length ≤ 140737488351232) :
    Calls Tryd.prog 9 #[.int .i64 q, v] w fun r w' => ∃ v', r = .returned v' ∧ Chg w w' ∧ Ap.Rd w' v' (sumL q xs) := by
  rcases hv with rfl | rfl | rfl
  · have H : Hid (Calls Tryd.prog 21 #[v] w fun e w' => ∃ v', e = .returned v' ∧ Chg w w' ∧ Ap.Rd w' v' (sumL 1 xs)) := by
      refine (sum32_any v xs w hr hl).mono ?_
      rintro e w' ⟨v', rfl, o⟩
      rw [out32 xs hx] at o
      exact ⟨v', rfl, Chg.ofAp o.chg, o.own.rd⟩
    clear hr hx hl
    go_enter Tryd.func9, Tryd.ntmps9
    go_wp2_with (go_at_call 21; (refine H.out.mono ?_; rintro e w1 ⟨v1, rfl, c1, r1⟩))
    go_ret
    exact ⟨_, rfl, c1, r1⟩
  · have H : Hid (Calls Tryd.prog 22 #[v, .agg #[.int .u64 14680500436340154072, .int .u64 7105036623409894663, .int .u64 10473403895298186519, .int .u64 1526699215303891257, .int .u64 7436329637833083697, .int .u64 10282925794625328401, .int .u64 15784041429090275239, .int .u64 5167115440072839076]] w fun e w' => ∃ g off cap, e = .returned (.slice (some ⟨g, off, none⟩) 64 cap) ∧ 64 ≤ cap ∧ Chg w w' ∧ Ap.Rd w' (.slice (some ⟨g, off, none⟩) 64 cap) ((List.range 64).map (sumByte 2 (sumSt 2 xs)))) := by
      rw [start2]
      refine (sum64_any v xs (startOf 2) w hr hl).mono ?_
      rintro e w' ⟨v', rfl, o⟩
      rw [sum64_eq 2 (.inl rfl) xs] at o
      rcases o.own with ⟨_, e⟩ | ⟨g, off, n, cap, rfl, ow⟩
      · simp at e
      · have hn : n = 64 := by rw [← ow.len]; simp
        subst hn
        exact ⟨g, off, cap, rfl, ow.le, Chg.ofAp o.chg, ow.rd⟩
    clear hr hx hl
    go_enter Tryd.func9, Tryd.ntmps9
    go_wp2_with (go_at_call 22; (refine H.out.mono ?_; rintro e w1 ⟨g, off, cap, rfl, hcap, c1, r1⟩; have hcap' : (48 : Int) ≤ cap := by omega))
    go_ret
    refine ⟨_, rfl, c1, ?_⟩
    have := Rd.take r1 (k := 48) (by omega)
    rw [← List.map_take, List.take_range] at this
    exact this
  · have H : Hid (Calls Tryd.prog 22 #[v, .agg #[.int .u64 7640891576956012808, .int .u64 13503953896175478587, .int .u64 4354685564936845355, .int .u64 11912009170470909681, .int .u64 5840696475078001361, .int .u64 11170449401992604703, .int .u64 2270897969802886507, .int .u64 6620516959819538809]] w fun e w' => ∃ v', e = .returned v' ∧ Chg w w' ∧ Ap.Rd w' v' (sumL 3 xs)) := by
      rw [start3]
      refine (sum64_any v xs (startOf 3) w hr hl).mono ?_
      rintro e w' ⟨v', rfl, o⟩
      rw [sum64_eq 3 (.inr rfl) xs] at o
      exact ⟨v', rfl, Chg.ofAp o.chg, o.own.rd⟩
    clear hr hx hl
    go_enter Tryd.func9, Tryd.ntmps9
    go_wp2_with (go_at_call 22; (refine H.out.mono ?_; rintro e w1 ⟨v1, rfl, c1, r1⟩))
    go_ret
    exact ⟨_, rfl, c1, r1⟩

set_option maxRecDepth 100000 in
theorem refOf_none (q : Int) (v : Value) (w : World) (hv : ¬ Valid q) :
    Calls Tryd.prog 9 #[.int .i64 q, v] w fun r w' => r = .returned (.slice none 0 0) ∧ w' = w := by
  have h1 : ¬ q = 1 := fun e => hv (.inl e)
  have h2 : ¬ q = 2 := fun e => hv (.inr (.inl e))
  have h3 : ¬ q = 3 := fun e => hv (.inr (.inr e))
  go_enter Tryd.func9, Tryd.ntmps9
  go_wp2_with fail
  go_ret
  exact ⟨rfl, rfl⟩
end Go.Proofs.YtbnonbhlfiadaaaDoor
