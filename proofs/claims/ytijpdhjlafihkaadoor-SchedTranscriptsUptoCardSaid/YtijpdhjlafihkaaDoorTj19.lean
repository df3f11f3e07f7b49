/-
  under, Of and Extract: codes under a key.
-/
import Derived.Test.YtijpdhjlafihkaaDoorTj17
import Derived.Test.YtijpdhjlafihkaaDoorTj18
namespace Go.Proofs.YtijpdhjlafihkaaDoor
open Go.RowKit
set_option linter.unusedVariables false
set_option maxRecDepth 100000

/-- What a key's closure keeps: two digests that the key has begun. -/
structure Cl (w : World) (q : Int) (key : List Int) (P1 P2 : Nat) : Prop where
  dig : ∃ D1 D2, w.cell? ⟨P1, 0, none⟩ = some (.pointer (some ⟨D1, 0, none⟩)) ∧ w.cell? ⟨P2, 0, none⟩ = some (.pointer (some ⟨D2, 0, none⟩)) ∧ DgC w D1 q (blkK q key 54) (cnt (blkK q key 54)) ∧ DgC w D2 q (blkK q key 92) (cnt (blkK q key 92))
theorem Cl.chg {w w' : World} {q : Int} {key : List Int} {P1 P2 : Nat} (h : Cl w q key P1 P2) (k : Chg w w') : Cl w' q key P1 P2 := by
  obtain ⟨D1, D2, a, b, c, d⟩ := h.dig
  exact ⟨D1, D2, cell_at k a, cell_at k b, c.chg k, d.chg k⟩
theorem mkf (fn : Fn) (first cap : Array Value) (w : World) : (Instr.makeFunc fn first cap).run Tryd.prog w = .ok (.func fn first cap) w := rfl

set_option maxRecDepth 100000 in
set_option maxHeartbeats 4000000 in
theorem under_any (q : Int) (vk : Value) (key : List Int) (w : World) (hv : Valid q) (ht : Tabs w) (hk : Ap.Rd w vk key) (hkl : key.length ≤ 140737488351232) :
    Calls Tryd.prog 40 #[.int .i64 q, vk] w fun r w' => ∃ P1 P2, r = .returned (.func (.func 55) #[] #[.pointer (some ⟨P1, 0, none⟩), .pointer (some ⟨P2, 0, none⟩)]) ∧ Chg w w' ∧ Cl w' q key P1 P2 := by
  have HX : Hid (Valid q ∧ Tabs w ∧ Ap.Rd w vk key ∧ key.length ≤ 140737488351232) := ⟨hv, ht, hk, hkl⟩
  clear hv ht hk hkl
  have hmf := mkf
  go_enter Tryd.func40, Tryd.ntmps40
  go_wp2_with fail
  refine (begun_any q vk key 54 w HX.out.1 HX.out.2.1 HX.out.2.2.1 HX.out.2.2.2).mono ?_
  rintro e w1 ⟨D1, rfl, hD1, hc1, hd1⟩
  have z1 : Hid (Chg w w1 ∧ DgC w1 D1 q (blkK q key 54) (cnt (blkK q key 54))) := ⟨hc1, hd1⟩
  clear hD1 hc1 hd1
  go_wp2_with fail
  refine (begun_any q vk key 92 w1 HX.out.1 (HX.out.2.1.chg z1.out.1) (Rd.chg HX.out.2.2.1 z1.out.1) HX.out.2.2.2).mono ?_
  rintro e w2 ⟨D2, rfl, hD2, hc2, hd2⟩
  have z2 : Hid (Chg w w2 ∧ DgC w2 D1 q (blkK q key 54) (cnt (blkK q key 54)) ∧ DgC w2 D2 q (blkK q key 92) (cnt (blkK q key 92))) := ⟨z1.out.1.trans hc2, z1.out.2.chg hc2, hd2⟩
  clear hD2 hc2 hd2 z1
  go_wp2_with fail
  go_ret
  have q3 : Chg w2 ((w2.alloc (.cells #[.pointer (some ⟨D1, 0, none⟩)] 75)).alloc (.cells #[.pointer (some ⟨D2, 0, none⟩)] 75)) := ((Chg.refl w2).alloc _).alloc _
  refine ⟨_, _, rfl, z2.out.1.trans q3, ⟨D1, D2, ?_, ?_, z2.out.2.1.chg q3, z2.out.2.2.chg q3⟩⟩
  · exact ((Ar.new w2 _ _).alloc _).cell 0
  · exact (Ar.new1 w2 _ _ _).cell 0
/-- The closure under a key: what it makes of parts. -/
theorem closure_any (q : Int) (v : Value) (xss : List (List Int)) (P1 P2 : Nat) (key : List Int) (w : World) (hv : Valid q) (ht : Tabs w) (hp : Pt w v xss) (hc : Cl w q key P1 P2) :
    Calls Tryd.prog 55 #[v, .pointer (some ⟨P1, 0, none⟩), .pointer (some ⟨P2, 0, none⟩)] w fun r w' => ∃ b, r = .returned (.slice (some ⟨b, 0, none⟩) (sizeOfH q) (sizeOfH q)) ∧ w.heap.size ≤ b ∧ Chg w w' ∧ Ar w' b (arr .u8 (sizeOfH q) (sumByte q (sumSt q (blkK q key 92 ++ sumL q (blkK q key 54 ++ xss.flatten))))) := by
  obtain ⟨D1, D2, h1, h2, h3, h4⟩ := hc.dig
  exact code_any q v xss P1 P2 D1 D2 _ _ w hv ht hp h1 h2 h3 h4

set_option maxRecDepth 100000 in
set_option maxHeartbeats 4000000 in
theorem mac_any (q : Int) (vk v : Value) (key : List Int) (xss : List (List Int)) (w : World) (hv : Valid q) (ht : Tabs w) (hk : Ap.Rd w vk key) (hkl : key.length ≤ 140737488351232) (hp : Pt w v xss) :
    Calls Tryd.prog 25 #[.int .i64 q, vk, v] w fun r w' => ∃ b, r = .returned (.slice (some ⟨b, 0, none⟩) (sizeOfH q) (sizeOfH q)) ∧ w.heap.size ≤ b ∧ Chg w w' ∧ Ar w' b (arr .u8 (sizeOfH q) (sumByte q (sumSt q (blkK q key 92 ++ sumL q (blkK q key 54 ++ xss.flatten))))) := by
  have HX : Hid (Valid q ∧ Tabs w ∧ Ap.Rd w vk key ∧ key.length ≤ 140737488351232 ∧ Pt w v xss) := ⟨hv, ht, hk, hkl, hp⟩
  obtain ⟨S, hS⟩ : ∃ S, S = sizeOfH q := ⟨_, rfl⟩
  have hS0 : ¬ (S : Int) = 0 := by
    rw [hS]
    rcases hv with rfl | rfl | rfl <;> decide
  have HSz : Hid (∀ u, Calls Tryd.prog 20 #[.int .i64 q] u fun r w' => r = .returned (.int .i64 S) ∧ w' = u) := by
    intro u
    rw [hS]
    exact size_any q u
  have HS : Hid (S = sizeOfH q) := hS
  rw [← hS]
  clear hv ht hk hkl hp hS
  go_enter Tryd.func25, Tryd.ntmps25
  go_wp2_with (go_at_call 20; (refine (HSz.out _).mono ?_; rintro r' w5 ⟨rfl, hw5⟩; rw [hw5]; clear hw5 w5))
  refine (under_any q vk key w HX.out.1 HX.out.2.1 HX.out.2.2.1 HX.out.2.2.2.1).mono ?_
  rintro e w1 ⟨P1, P2, rfl, hc1, hcl⟩
  have z1 : Hid (Chg w w1 ∧ Cl w1 q key P1 P2) := ⟨hc1, hcl⟩
  clear hc1 hcl
  go_wp2_with fail
  refine (closure_any q v xss P1 P2 key w1 HX.out.1 (HX.out.2.1.chg z1.out.1) (HX.out.2.2.2.2.chg z1.out.1) z1.out.2).mono ?_
  rintro e w2 ⟨b, rfl, hb, hc2, ha2⟩
  rw [← HS.out] at ha2 ⊢
  have z2 : Hid (w.heap.size ≤ b ∧ Chg w w2 ∧ Ar w2 b (arr .u8 S (sumByte q (sumSt q (blkK q key 92 ++ sumL q (blkK q key 54 ++ xss.flatten)))))) := ⟨Nat.le_trans z1.out.1.size hb, z1.out.1.trans hc2, ha2⟩
  clear hb hc2 ha2 z1
  go_wp2_with fail
  go_ret
  exact ⟨b, rfl, z2.out⟩

set_option maxRecDepth 100000 in
theorem mac_none (q : Int) (vk v : Value) (w : World) (hv : ¬ Valid q) :
    Calls Tryd.prog 25 #[.int .i64 q, vk, v] w fun r w' => r = .returned (.slice none 0 0) ∧ w' = w := by
  have hS : sizeOfH q = 0 := by
    unfold sizeOfH
    rw [if_neg (fun e => hv (.inl e)), if_neg (fun e => hv (.inr (.inl e))), if_neg (fun e => hv (.inr (.inr e)))]
  have HSz : Hid (∀ u, Calls Tryd.prog 20 #[.int .i64 q] u fun r w' => r = .returned (.int .i64 0) ∧ w' = u) := by
    intro u
    have := size_any q u
    rw [hS] at this
    exact this
  clear hv hS
  go_enter Tryd.func25, Tryd.ntmps25
  go_wp2_with (go_at_call 20; (refine (HSz.out _).mono ?_; rintro r' w5 ⟨rfl, hw5⟩; rw [hw5]; clear hw5 w5))
  go_ret
  exact ⟨rfl, rfl⟩

/-- A slice whose bytes make a string, here and in whatever comes of this world. -/
def TxV (w : World) (v : Value) (s : ByteArray) : Prop := ∀ w', Chg w w' → (convert 23 9 v).run Tryd.prog w' = .ok (.string s) w'
theorem TxV.chg {w w' : World} {v : Value} {s : ByteArray} (h : TxV w v s) (k : Chg w w') : TxV w' v s := fun u hu => h u (k.trans hu)
theorem sumL_none {q : Int} (hv : ¬ Valid q) (xs : List Int) : sumL q xs = [] := by
  have : sizeOfH q = 0 := by
    unfold sizeOfH
    rw [if_neg (fun e => hv (.inl e)), if_neg (fun e => hv (.inr (.inl e))), if_neg (fun e => hv (.inr (.inr e)))]
  rw [sumL, this]
  rfl
/-- The code of parts under a key, of any hash or none: a slice that can be read. -/
theorem mac_both (q : Int) (vk v : Value) (key : List Int) (xss : List (List Int)) (w : World) (ht : Tabs w) (hk : Ap.Rd w vk key) (hkl : key.length ≤ 140737488351232) (hp : Pt w v xss) :
    Calls Tryd.prog 25 #[.int .i64 q, vk, v] w fun r w' => ∃ o n c, r = .returned (.slice o n c) ∧ Chg w w' ∧ Ap.Rd w' (.slice o n c) (macL q key xss.flatten) := by
  by_cases hv : Valid q
  · refine (mac_any q vk v key xss w hv ht hk hkl hp).mono ?_
    rintro r w' ⟨b, rfl, _, k2, k3⟩
    exact ⟨_, _, _, rfl, k2, Rd.ofArr k3 (Nat.le_trans (size_le q) (by omega))⟩
  · refine (mac_none q vk v w hv).mono ?_
    rintro r w' ⟨rfl, rfl⟩
    refine ⟨_, _, _, rfl, Chg.refl _, ?_⟩
    rw [macL, sumL_none hv]
    exact Ap.Rd.nil _

set_option maxRecDepth 100000 in
set_option maxHeartbeats 4000000 in
theorem extract_any (q : Int) (vs v : Value) (salt xs : List Int) (w : World) (ht : Tabs w) (hs : Ap.Rd w vs salt) (hsl : salt.length ≤ 140737488351232) (hx : Ap.Rd w v xs) (hxl : xs.length < 4611686018427387904) :
    Calls Tryd.prog 27 #[.int .i64 q, vs, v] w fun r w' => ∃ o n c, r = .returned (.slice o n c) ∧ Chg w w' ∧ Ap.Rd w' (.slice o n c) (macL q salt xs) := by
  obtain ⟨xo, xn, xc, rfl, -⟩ := hx.shape
  have q1 : Chg w (w.alloc (.cells #[.slice xo xn xc] 23)) := (Chg.refl w).alloc _
  have HM : Hid (Calls Tryd.prog 25 #[.int .i64 q, vs, .slice (some ⟨w.heap.size, 0, none⟩) 1 1] (w.alloc (.cells #[.slice xo xn xc] 23)) fun r w' => ∃ o n c, r = .returned (.slice o n c) ∧ Chg w w' ∧ Ap.Rd w' (.slice o n c) (macL q salt xs)) := by
    refine (mac_both q vs _ salt [xs] _ (ht.chg q1) (Rd.chg hs q1) hsl (Pt.made1 (Chg.refl w) (Rd.slA hx hxl) 23)).mono ?_
    rintro r w' ⟨o, n, c, rfl, k1, k2⟩
    rw [show [xs].flatten = xs by simp] at k2
    exact ⟨o, n, c, rfl, q1.trans k1, k2⟩
  clear ht hs hsl hx hxl q1
  go_enter Tryd.func27, Tryd.ntmps27
  go_wp2_with (go_at_call 25; (refine HM.out.mono ?_; rintro e w1 ⟨o, n, c, rfl, c1, r1⟩))
  go_ret
  exact ⟨o, n, c, rfl, c1, r1⟩
end Go.Proofs.YtijpdhjlafihkaaDoor
