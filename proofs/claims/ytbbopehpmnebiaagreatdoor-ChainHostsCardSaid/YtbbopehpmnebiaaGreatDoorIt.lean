/-
  The iterator over a name's labels, and a loop over it.
-/
import Derived.Test.YtbbopehpmnebiaaGreatDoorIl
import Derived.Deep.Cut
import Derived.RangeFuncNested
import Derived.RangeFuncBound
import Derived.RangeFuncCalls
import Derived.RangeFuncLeaves
import Derived.Shelf.Abstract
import Derived.Shelf.RegionOpen
import Derived.WalkKit
import Derived.OwnWalkIn
import Derived.TacticsInMore
import Derived.LoopNIn
import Derived.LoopIn
namespace Go.Proofs.YtbbopehpmnebiaaGreatDoor
open Go.RowKit Go.Shelf
set_option linter.unusedVariables false
set_option maxRecDepth 100000

def mLab : Value → Value → Nat
  | .string r, .bool true => r.size + 1
  | _, _ => 0

set_option maxHeartbeats 1600000 in
theorem labels_any (s : ByteArray) (w : World) :
    Calls Tryz.prog 20 #[.string s] w fun e w' => e = .returned (.func (.func 43) #[] #[.pointer (some ⟨w.heap.size, 0, none⟩)]) ∧ w' = w.alloc (.cells #[.string s] 9) := by
  go_enter Tryz.func20, Tryz.ntmps20
  go_wp2
  go_ret
  exact ⟨rfl, rfl⟩

theorem cutL_no (r : List UInt8) (h : ∀ b ∈ r, b ≠ 46) (w : World) :
    Calls Tryz.prog 14 #[.string ⟨r.toArray⟩, .string ⟨#[46]⟩] w fun e w' => e = .returned (.tuple #[.string ⟨r.toArray⟩, .string ⟨#[]⟩, .bool false]) ∧ Chg Non w w' := cut_no ⟨r.toArray⟩ (by simpa using h) w
theorem cutL_yes (p r : List UInt8) (h : ∀ b ∈ p, b ≠ 46) (hz : (p ++ 46 :: r).length ≤ 253) (w : World) :
    Calls Tryz.prog 14 #[.string ⟨(p ++ 46 :: r).toArray⟩, .string ⟨#[46]⟩] w fun e w' => e = .returned (.tuple #[.string ⟨p.toArray⟩, .string ⟨r.toArray⟩, .bool true]) ∧ Chg Non w w' := cut_yes ⟨(p ++ 46 :: r).toArray⟩ p r (by simp) h (by rw [Lib.size_eq]; simp at hz ⊢; omega) w

set_option maxHeartbeats 8000000 in
theorem lab1_any (n l B : Nat) (s : List UInt8) (hs : s.length ≤ 253)
    (J : List (List UInt8) → World → Prop) (Jx : World → Prop)
    (hA : ∀ d W W', J d W → Chg Non W W' → J d W')
    (hR : ∀ d W, J d W → W.cell? ⟨B, 0, none⟩ = some (.string ⟨s.toArray⟩))
    (hY : ∀ d p t W, J d W → spl s = d ++ p :: t → isLab p = true → YieldAt Fence.wide (n - 1) Tryz.prog l #[.string ⟨p.toArray⟩] W fun e W' => e = .returned (.bool true) ∧ J (d ++ [p]) W')
    (hE : ∀ d p t W, J d W → spl s = d ++ p :: t → isLab p = false → YieldAt Fence.wide (n - 1) Tryz.prog l #[.string ⟨p.toArray⟩] W fun e W' => e = .returned (.bool false) ∧ Jx W')
    (W : World) (h0 : J [] W) :
    CallsIn Fence.wide n Tryz.prog 43 #[.func (.yield l) #[] #[], .pointer (some ⟨B, 0, none⟩)] W fun e W' => (∃ u, e = .returned u) ∧ (J (spl s) W' ∨ Jx W') := by
  have hbx := hR _ _ h0
  have HA : Hid (∀ d W W', J d W → Chg Non W W' → J d W') := hA
  have HY : Hid (∀ d p t W, J d W → spl s = d ++ p :: t → isLab p = true → YieldAt Fence.wide (n - 1) Tryz.prog l #[.string ⟨p.toArray⟩] W fun e W' => e = .returned (.bool true) ∧ J (d ++ [p]) W') := hY
  have HE : Hid (∀ d p t W, J d W → spl s = d ++ p :: t → isLab p = false → YieldAt Fence.wide (n - 1) Tryz.prog l #[.string ⟨p.toArray⟩] W fun e W' => e = .returned (.bool false) ∧ Jx W') := hE
  have HS : Hid (s.length ≤ 253) := hs
  obtain ⟨S0, hS0⟩ : ∃ S0 : ByteArray, S0 = ⟨s.toArray⟩ := ⟨_, rfl⟩
  rw [← hS0] at hbx
  have HS0 : Hid (S0 = ⟨s.toArray⟩) := hS0
  clear hA hR hY hE hs hS0
  refine callsIn_of_wp Tryz.func43 rfl trivial ?_ rfl
  simp only [Tryz.ntmps43, List.size_toArray, List.length_cons, List.length_nil, Nat.reduceAdd, Nat.reduceSub, Array.replicate_succ, Array.replicate_zero, List.push_toArray, List.append_toArray, List.nil_append, List.cons_append]
  gi_wp2
  gi_loopw [3, 4] (fun rs mo wr => ∃ (d : List (List UInt8)) (r : List UInt8) (R : ByteArray) (m : Bool), rs = .string R ∧ mo = .bool m ∧ Hid (R = ⟨r.toArray⟩ ∧ r.length ≤ 253 ∧ J d wr ∧ spl s = d ++ (if m then spl r else []))) (fun rs mo _ => mLab rs mo)
  case atStart => exact ⟨[], s, S0, true, rfl, rfl, HS0.out, HS.out, h0, by simp⟩
  case round =>
    obtain ⟨d, r, R, m, rfl, rfl, hI⟩ := hrel
    cases m with
    | false =>
      have HJ : Hid (J (spl s) wr) := by
        obtain ⟨-, -, h3, h4⟩ := hI.out
        simp at h4
        rw [h4]; exact h3
      clear hI
      gi_wp2
      go_end0
      exact ⟨⟨_, rfl⟩, .inl HJ.out⟩
    | true =>
      obtain ⟨p, r', m', hcall, hspl, hr2, hr3⟩ : ∃ (p r' : List UInt8) (m' : Bool), (∀ q, Calls Tryz.prog 14 #[.string R, .string ⟨#[46]⟩] q fun e w' => e = .returned (.tuple #[.string ⟨p.toArray⟩, .string ⟨r'.toArray⟩, .bool m']) ∧ Chg Non q w') ∧ spl r = p :: (if m' then spl r' else []) ∧ r'.length ≤ 253 ∧ (m' = true → r'.length < r.length) := by
        obtain ⟨h1, h2, -, -⟩ := hI.out
        rw [h1]
        rcases dot_cases r with h | ⟨p, r', rfl, h⟩
        · exact ⟨r, [], false, fun q => cutL_no r h q, by rw [spl_end r h]; rfl, by simp, fun e => by cases e⟩
        · exact ⟨p, r', true, fun q => cutL_yes p r' h h2 q, by rw [spl_app_dot p r' h]; rfl, by simp at h2; omega, fun _ => by simp; omega⟩
      obtain ⟨PB, hPB⟩ : ∃ PB : ByteArray, PB = ⟨p.toArray⟩ := ⟨_, rfl⟩
      obtain ⟨RB, hRB⟩ : ∃ RB : ByteArray, RB = ⟨r'.toArray⟩ := ⟨_, rfl⟩
      rw [← hPB, ← hRB] at hcall
      have HPB : Hid (PB = ⟨p.toArray⟩ ∧ RB = ⟨r'.toArray⟩) := ⟨hPB, hRB⟩
      have HC : Hid (∀ q, Calls Tryz.prog 14 #[.string R, .string ⟨#[46]⟩] q fun e w' => e = .returned (.tuple #[.string PB, .string RB, .bool m']) ∧ Chg Non q w') := hcall
      have HSP : Hid (spl s = d ++ p :: (if m' then spl r' else [])) := by
        show _ = _
        have := hI.out.2.2.2
        rw [if_pos rfl, hspl] at this
        exact this
      have HR2 : Hid (r'.length ≤ 253 ∧ mLab (.string RB) (.bool m') < mLab (.string R) (.bool true)) := by
        refine ⟨hr2, ?_⟩
        have e1 : R.size = r.length := by rw [hI.out.1, Lib.size_eq]
        have e2 : RB.size = r'.length := by rw [hRB, Lib.size_eq]
        cases m' with
        | false => simp [mLab]
        | true =>
          have := hr3 rfl
          simp [mLab, e1, e2]
          omega
      have HJ : Hid (J d wr) := hI.out.2.2.1
      clear hcall hspl hr2 hr3 hPB hRB hI
      gi_wp2
      refine ⟨trivial, (fun h => by cases h), (callsIn_wide.2 (HC.out _)).mono ?_⟩
      rintro e w3 ⟨rfl, hc3⟩
      have C3 : Hid (Chg Non wr w3) := hc3
      clear hc3
      cases hlb : isLab p with
      | true =>
        obtain ⟨fn, tmps, assign, body, hy, hRd⟩ := HY.out d p _ w3 (HA.out _ _ _ HJ.out C3.out) HSP.out hlb
        have HRd : Hid (RoundIn Fence.wide (n - 1) Tryz.prog l fn tmps assign body w3 fun e W' => e = .returned (.bool true) ∧ J (d ++ [p]) W') := hRd
        rw [← HPB.out.1] at hy
        clear hRd hlb
        gi_wp2
        refine ⟨(fun h => by cases h), HRd.out.mono ?_⟩
        rintro e W5 ⟨rfl, hJ5⟩
        have HJ5 : Hid (J (d ++ [p]) W5) := hJ5
        clear hJ5 hy HRd
        gi_wp2
        go_roundw
        case rel => exact ⟨d ++ [p], r', RB, m', rfl, rfl, HPB.out.2, HR2.out.1, HJ5.out, by rw [HSP.out]; simp⟩
        case measure => exact HR2.out.2
      | false =>
        obtain ⟨fn, tmps, assign, body, hy, hRd⟩ := HE.out d p _ w3 (HA.out _ _ _ HJ.out C3.out) HSP.out hlb
        have HRd : Hid (RoundIn Fence.wide (n - 1) Tryz.prog l fn tmps assign body w3 fun e W' => e = .returned (.bool false) ∧ Jx W') := hRd
        rw [← HPB.out.1] at hy
        clear hRd hlb
        gi_wp2
        refine ⟨(fun h => by cases h), HRd.out.mono ?_⟩
        rintro e W5 ⟨rfl, hJ5⟩
        have HJ5 : Hid (Jx W5) := hJ5
        clear hJ5 hy HRd
        gi_wp2
        refine bodyPost_ret (results_none rfl _ _ _) rfl ?_
        exact ⟨⟨_, rfl⟩, .inr HJ5.out⟩
end Go.Proofs.YtbbopehpmnebiaaGreatDoor
