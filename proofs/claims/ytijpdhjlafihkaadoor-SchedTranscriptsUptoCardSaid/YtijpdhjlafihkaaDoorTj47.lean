/-
  The document's states and bytes by 64 bits are the program's: plain facts.
-/
import Derived.Test.YtijpdhjlafihkaaDoorTj46
import Derived.Test.YtijpdhjlafihkaaDoorTj41
import Derived.Test.YtijpdhjlafihkaaDoorTj40
import Derived.Test.YtijpdhjlafihkaaDoorTj16
namespace Go.Proofs.YtijpdhjlafihkaaDoor
open Go.RowKit
set_option linter.unusedVariables false
set_option maxRecDepth 100000

theorem block23 {q : Int} (hq : q = 2 ∨ q = 3) : blockOf q = 128 := by rcases hq with rfl | rfl <;> rfl
theorem ref64_eq (q : Int) (hq : q = 2 ∨ q = 3) (f : Nat → Int) (k : Nat) : ref64 (startOf q) f k = stN q f k := by
  induction k with
  | zero => rfl
  | succ k ih => rw [ref64, stN, ih, mixH, if_neg (by rcases hq with rfl | rfl <;> decide), block23 hq]
theorem out64_eq (q : Int) (hq : q = 2 ∨ q = 3) (s : Nat → Int) : out64 s 8 = (List.range 64).map (sumByte q s) := by
  have e : ∀ i, sumByte q s i = IntKind.u8.wrap (s (i / 8) / 2 ^ (8 * (7 - i % 8))) := fun i => by
    unfold sumByte
    rw [block23 hq]
  simp only [List.range, List.range.loop, List.map_cons, List.map_nil, e, out64, byt64]
  simp
theorem sum64_eq (q : Int) (hq : q = 2 ∨ q = 3) (xs : List Int) : out64 (ref64 (startOf q) (fun j => (xs ++ padL 128 xs.length).getD j 0) ((xs ++ padL 128 xs.length).length / 128)) 8 = (List.range 64).map (sumByte q (sumSt q xs)) := by
  have hp : padL 128 xs.length = endL q xs := by
    have := pad_end q (.inr hq) xs
    rw [block23 hq] at this
    exact this
  rw [ref64_eq q hq, out64_eq q hq, hp]
  unfold sumSt stOf
  rw [block23 hq]
  rfl
end Go.Proofs.YtijpdhjlafihkaaDoor
namespace Go.Proofs.YtijpdhjlafihkaaDoor
open Go.RowKit
set_option linter.unusedVariables false
set_option maxRecDepth 100000

theorem Rd.take {w : World} {ao : Option Addr} {n c k : Nat} {xs : List Int} (h : Ap.Rd w (.slice ao n c) xs) (hk : k ≤ n) : Ap.Rd w (.slice ao k c) (xs.take k) := by
  obtain ⟨ao', n', c', e, hn, hc, hmx, h0, hx⟩ := h
  injection e with e1 e2 e3
  subst e1 e2 e3
  refine ⟨_, _, _, rfl, by rw [List.length_take]; omega, by omega, hmx, h0, fun x e j u hj => hx x e j u ?_⟩
  rw [List.getElem?_take] at hj
  split at hj
  · exact hj
  · cases hj
theorem start2 : (#[.int .u64 14680500436340154072, .int .u64 7105036623409894663, .int .u64 10473403895298186519, .int .u64 1526699215303891257, .int .u64 7436329637833083697, .int .u64 10282925794625328401, .int .u64 15784041429090275239, .int .u64 5167115440072839076] : Array Value) = arr .u64 8 (startOf 2) := by kernel_rfl
theorem start3 : (#[.int .u64 7640891576956012808, .int .u64 13503953896175478587, .int .u64 4354685564936845355, .int .u64 11912009170470909681, .int .u64 5840696475078001361, .int .u64 11170449401992604703, .int .u64 2270897969802886507, .int .u64 6620516959819538809] : Array Value) = arr .u64 8 (startOf 3) := by kernel_rfl

set_option maxRecDepth 100000 in
theorem refOf_any (q : Int) (v : Value) (xs : List Int) (w : World) (hv : Valid q) (hr : Ap.Rd w v xs) (hx : ∀ x ∈ xs, 0 ≤ x ∧ x < 256) (hl : xs.length ≤ 140737488353280) :
    Calls Tryd.prog 35 #[.int .i64 q, v] w fun r w' => ∃ v', r = .returned v' ∧ Chg w w' ∧ Ap.Rd w' v' (sumL q xs) ∧ ∀ k, v'.ownBlock = some k → w.heap.size ≤ k := by
  rcases hv with rfl | rfl | rfl
  · have H : Hid (Calls Tryd.prog 47 #[v] w fun e w' => ∃ v', e = .returned v' ∧ Chg w w' ∧ Ap.Rd w' v' (sumL 1 xs) ∧ ∀ k, v'.ownBlock = some k → w.heap.size ≤ k) := by
      refine (sum32_any v xs w hr hl).mono ?_
      rintro e w' ⟨v', rfl, o⟩
      rw [out32 xs hx] at o
      exact ⟨v', rfl, Chg.ofAp o.chg, o.own.rd, o.new⟩
    clear hr hx hl
    go_enter Tryd.func35, Tryd.ntmps35
    go_wp2_with (go_at_call 47; (refine H.out.mono ?_; rintro e w1 ⟨v1, rfl, c1, r1, n1⟩))
    go_ret
    exact ⟨_, rfl, c1, r1, n1⟩
  · have H : Hid (Calls Tryd.prog 48 #[v, .agg #[.int .u64 14680500436340154072, .int .u64 7105036623409894663, .int .u64 10473403895298186519, .int .u64 1526699215303891257, .int .u64 7436329637833083697, .int .u64 10282925794625328401, .int .u64 15784041429090275239, .int .u64 5167115440072839076]] w fun e w' => ∃ g off cap, e = .returned (.slice (some ⟨g, off, none⟩) 64 cap) ∧ 64 ≤ cap ∧ Chg w w' ∧ Ap.Rd w' (.slice (some ⟨g, off, none⟩) 64 cap) ((List.range 64).map (sumByte 2 (sumSt 2 xs))) ∧ w.heap.size ≤ g) := by
      rw [start2]
      refine (sum64_any v xs (startOf 2) w hr hl).mono ?_
      rintro e w' ⟨v', rfl, o⟩
      rw [sum64_eq 2 (.inl rfl) xs] at o
      rcases o.own with ⟨_, e⟩ | ⟨g, off, n, cap, rfl, ow⟩
      · simp at e
      · have hn : n = 64 := by rw [← ow.len]; simp
        subst hn
        exact ⟨g, off, cap, rfl, ow.le, Chg.ofAp o.chg, ow.rd, o.new g rfl⟩
    clear hr hx hl
    go_enter Tryd.func35, Tryd.ntmps35
    go_wp2_with (go_at_call 48; (refine H.out.mono ?_; rintro e w1 ⟨g, off, cap, rfl, hcap, c1, r1, n1⟩; have hcap' : (48 : Int) ≤ cap := by omega))
    go_ret
    refine ⟨_, rfl, c1, ?_, fun k e => by simp [Value.ownBlock] at e; omega⟩
    have := Rd.take r1 (k := 48) (by omega)
    rw [← List.map_take, List.take_range] at this
    exact this
  · have H : Hid (Calls Tryd.prog 48 #[v, .agg #[.int .u64 7640891576956012808, .int .u64 13503953896175478587, .int .u64 4354685564936845355, .int .u64 11912009170470909681, .int .u64 5840696475078001361, .int .u64 11170449401992604703, .int .u64 2270897969802886507, .int .u64 6620516959819538809]] w fun e w' => ∃ v', e = .returned v' ∧ Chg w w' ∧ Ap.Rd w' v' (sumL 3 xs) ∧ ∀ k, v'.ownBlock = some k → w.heap.size ≤ k) := by
      rw [start3]
      refine (sum64_any v xs (startOf 3) w hr hl).mono ?_
      rintro e w' ⟨v', rfl, o⟩
      rw [sum64_eq 3 (.inr rfl) xs] at o
      exact ⟨v', rfl, Chg.ofAp o.chg, o.own.rd, o.new⟩
    clear hr hx hl
    go_enter Tryd.func35, Tryd.ntmps35
    go_wp2_with (go_at_call 48; (refine H.out.mono ?_; rintro e w1 ⟨v1, rfl, c1, r1, n1⟩))
    go_ret
    exact ⟨_, rfl, c1, r1, n1⟩

set_option maxRecDepth 100000 in
theorem refOf_none (q : Int) (v : Value) (w : World) (hv : ¬ Valid q) :
    Calls Tryd.prog 35 #[.int .i64 q, v] w fun r w' => r = .returned (.slice none 0 0) ∧ w' = w := by
  have h1 : ¬ q = 1 := fun e => hv (.inl e)
  have h2 : ¬ q = 2 := fun e => hv (.inr (.inl e))
  have h3 : ¬ q = 3 := fun e => hv (.inr (.inr e))
  go_enter Tryd.func35, Tryd.ntmps35
  go_wp2_with fail
  go_ret
  exact ⟨rfl, rfl⟩
end Go.Proofs.YtijpdhjlafihkaaDoor
