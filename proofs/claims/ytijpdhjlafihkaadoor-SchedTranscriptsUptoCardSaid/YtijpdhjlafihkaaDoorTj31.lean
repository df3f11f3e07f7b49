/-
  The schedule's steps, as closures over a hash: labelled, Derive, Update, Finished, Early.
-/
import Derived.Test.YtijpdhjlafihkaaDoorTj30
import Derived.Test.YtijpdhjlafihkaaDoorTj15
import Derived.Laws.EntriesVeiled
namespace Go.Proofs.YtijpdhjlafihkaaDoor
open Go.RowKit
set_option linter.unusedVariables false
set_option maxRecDepth 100000

def zer (n : Nat) : List Int := (List.range n).map fun _ => 0
theorem zer_len (n : Nat) : (zer n).length = n := by simp [zer]
theorem expL_le (q : Int) (key S : List Int) (n : Nat) : (expL q key S n).length ≤ n := by
  unfold expL
  rw [List.length_take]
  omega
/-- A label's secret of a sum's length. -/
def drL (q : Int) (key : List Int) (S : ByteArray) (ctx : List Int) : List Int := exL q key S ctx (sizeOfH q)
theorem drL_le (q : Int) (key : List Int) (S : ByteArray) (ctx : List Int) : (drL q key S ctx).length ≤ 64 := by
  unfold drL exL
  have h := size_le q
  split
  · simp
  · have := expL_le q key (Ap.bI (Ap.infoB S ctx ((sizeOfH q : Int)).toNat)) ((sizeOfH q : Int)).toNat
    omega

set_option maxHeartbeats 1000000 in
theorem zeros_any (q : Int) (w : World) : Calls Tryd.prog 39 #[.int .i64 q] w fun e w' => ∃ g m c, e = .returned (.slice (some ⟨g, 0, none⟩) m c) ∧ Chg w w' ∧ Ap.Rd w' (.slice (some ⟨g, 0, none⟩) m c) (zer (sizeOfH q)) := by
  have hs := size_any q w
  have hn := size_le q
  obtain ⟨S, hS⟩ : ∃ S, S = sizeOfH q := ⟨_, rfl⟩
  rw [← hS] at hs hn ⊢
  have hmk := mk8 S (by omega) w
  clear hS
  go_enter Tryd.func39, Tryd.ntmps39
  go_wp2_with (go_at_call 20; refine hs.mono ?_; rintro e w1 ⟨rfl, rfl⟩)
  go_ret
  exact ⟨_, _, _, rfl, (Chg.refl _).alloc _, Rd.ofArr (Ar.new w1 _ _) (by omega)⟩

/-- The closure of a label. -/
def LA (w : World) (v : Value) (q : Int) (S : ByteArray) : Prop :=
  ∃ A B C, v = .func (.func 46) #[] #[.pointer (some ⟨A, 0, none⟩), .pointer (some ⟨B, 0, none⟩), .pointer (some ⟨C, 0, none⟩)] ∧ w.cell? ⟨A, 0, none⟩ = some (.int .i64 q) ∧ w.cell? ⟨B, 0, none⟩ = some (.string S) ∧ w.cell? ⟨C, 0, none⟩ = some (.int .i64 (sizeOfH q))
theorem LA.chg {w w' : World} {v : Value} {q : Int} {S : ByteArray} (h : LA w v q S) (k : Chg w w') : LA w' v q S := by
  obtain ⟨A, B, C, e, a, b, c⟩ := h
  exact ⟨A, B, C, e, cell_at k a, cell_at k b, cell_at k c⟩

set_option maxHeartbeats 2000000 in
theorem labelled_any (q : Int) (S : ByteArray) (w : World) : Calls Tryd.prog 34 #[.int .i64 q, .string S] w fun e w' => ∃ v, e = .returned v ∧ Chg w w' ∧ LA w' v q S := by
  obtain ⟨W, hW⟩ : ∃ W, W = (w.alloc (.cells #[.int .i64 q] 22)).alloc (.cells #[.string S] 9) := ⟨_, rfl⟩
  have c1 : W.cell? ⟨w.heap.size, 0, none⟩ = some (.int .i64 q) := by
    rw [hW]
    exact ((Ar.new w _ _).alloc _).cell 0
  have c2 : W.cell? ⟨w.heap.size + 1, 0, none⟩ = some (.string S) := by
    rw [hW]
    exact (Ar.new1 w _ _ _).cell 0
  have hc : Chg w W := by rw [hW]; exact ((Chg.refl w).alloc _).alloc _
  have hs := size_any q W
  obtain ⟨Z, hZ⟩ : ∃ Z, Z = sizeOfH q := ⟨_, rfl⟩
  rw [← hZ] at hs
  have H : Hid (Chg w W ∧ W.cell? ⟨w.heap.size, 0, none⟩ = some (.int .i64 q) ∧ W.cell? ⟨w.heap.size + 1, 0, none⟩ = some (.string S) ∧ Z = sizeOfH q) := ⟨hc, c1, c2, hZ⟩
  have HW : Hid (W = (w.alloc (.cells #[.int .i64 q] 22)).alloc (.cells #[.string S] 9)) := hW
  have hmf := mkf
  clear hW hc hZ c2
  go_enter Tryd.func34, Tryd.ntmps34
  go_wp2_with fail
  rw [← HW.out]
  refine hs.mono ?_
  rintro e w1 ⟨rfl, rfl⟩
  clear hs
  go_wp2_with fail
  go_ret
  obtain ⟨k1, k2, k3, k4⟩ := H.out
  have q3 : Chg w1 (w1.alloc (.cells #[.int .i64 Z] 3)) := (Chg.refl _).alloc _
  refine ⟨_, rfl, k1.trans q3, _, _, _, rfl, cell_at q3 k2, cell_at q3 k3, ?_⟩
  rw [← k4]
  exact (Ar.new w1 _ _).cell 0

/-- An answer that is a list of bytes. -/
def RL (xs : List Int) (w w' : World) (e : Ending) : Prop := ∃ o m c, e = .returned (.slice o m c) ∧ Chg w w' ∧ Ap.Rd w' (.slice o m c) xs

set_option maxHeartbeats 2000000 in
theorem lab1_any (q : Int) (S : ByteArray) (A B C : Nat) (vk vc : Value) (key ctx : List Int) (w : World) (ht : Tabs w) (hA : w.cell? ⟨A, 0, none⟩ = some (.int .i64 q)) (hB : w.cell? ⟨B, 0, none⟩ = some (.string S)) (hC : w.cell? ⟨C, 0, none⟩ = some (.int .i64 (sizeOfH q)))
    (hk : Ap.Rd w vk key) (hkl : key.length ≤ 140737488351232) (hc : Ap.Rd w vc ctx) :
    Calls Tryd.prog 46 #[vk, vc, .pointer (some ⟨A, 0, none⟩), .pointer (some ⟨B, 0, none⟩), .pointer (some ⟨C, 0, none⟩)] w fun e w' => RL (drL q key S ctx) w w' e := by
  have hp := sexp_any q vk vc key ctx S (sizeOfH q) w ht hk hkl hc
  obtain ⟨Z, hZ⟩ : ∃ Z, Z = sizeOfH q := ⟨_, rfl⟩
  unfold drL
  rw [← hZ] at hp hC ⊢
  clear ht hk hkl hc hZ
  go_enter Tryd.func46, Tryd.ntmps46
  go_wp2_with (go_at_call 7; refine hp.mono ?_)
  rintro e w1 ⟨⟨o, m, c, rfl, hr⟩, hc⟩
  have H : Hid (Chg w w1 ∧ Ap.Rd w1 (.slice o m c) (exL q key S ctx Z)) := ⟨hc, hr⟩
  clear hp hc hr hA hB hC
  go_wp2
  go_ret
  exact ⟨_, _, _, rfl, H.out⟩
theorem la_any {w : World} {v : Value} {q : Int} {S : ByteArray} (h : LA w v q S) : ∃ A B C, v = .func (.func 46) #[] #[.pointer (some ⟨A, 0, none⟩), .pointer (some ⟨B, 0, none⟩), .pointer (some ⟨C, 0, none⟩)] ∧ ∀ (vk vc : Value) (key ctx : List Int) (u : World), Chg w u → Tabs u → Ap.Rd u vk key → key.length ≤ 140737488351232 → Ap.Rd u vc ctx → Calls Tryd.prog 46 #[vk, vc, .pointer (some ⟨A, 0, none⟩), .pointer (some ⟨B, 0, none⟩), .pointer (some ⟨C, 0, none⟩)] u fun e w' => RL (drL q key S ctx) u w' e := by
  obtain ⟨A, B, C, e, a, b, c⟩ := h
  exact ⟨A, B, C, e, fun vk vc key ctx u hu ht hk hkl hc => lab1_any q S A B C vk vc key ctx u ht (cell_at hu a) (cell_at hu b) (cell_at hu c) hk hkl hc⟩

set_option maxHeartbeats 2000000 in
theorem derive_any (q : Int) (vk vc : Value) (key ctx : List Int) (S : ByteArray) (w : World) (ht : Tabs w) (hk : Ap.Rd w vk key) (hkl : key.length ≤ 140737488351232) (hc : Ap.Rd w vc ctx) :
    Calls Tryd.prog 9 #[.int .i64 q, vk, .string S, vc] w fun e w' => RL (drL q key S ctx) w w' e := by
  have hl := labelled_any q S w
  have HX : Hid (Tabs w ∧ Ap.Rd w vk key ∧ key.length ≤ 140737488351232 ∧ Ap.Rd w vc ctx) := ⟨ht, hk, hkl, hc⟩
  clear ht hk hkl hc
  go_enter Tryd.func9, Tryd.ntmps9
  go_wp2_with (go_at_call 34; refine hl.mono ?_)
  rintro e w1 ⟨v, rfl, hc1, hla⟩
  obtain ⟨A, B, C, rfl, hp⟩ := la_any hla
  have hp := hp vk vc key ctx w1 (Chg.refl _) (HX.out.1.chg hc1) (Rd.chg HX.out.2.1 hc1) HX.out.2.2.1 (Rd.chg HX.out.2.2.2 hc1)
  have H : Hid (Chg w w1) := hc1
  clear hl hla hc1
  go_wp2_with (go_at_call 46; refine hp.mono ?_)
  rintro e w2 ⟨o, m, c, rfl, hc2, hr2⟩
  have H2 : Hid (Chg w w2 ∧ Ap.Rd w2 (.slice o m c) (drL q key S ctx)) := ⟨H.out.trans hc2, hr2⟩
  clear hp hc2 hr2
  go_wp2
  go_ret
  exact ⟨_, _, _, rfl, H2.out⟩

def sUpd : ByteArray := ⟨#[116, 114, 97, 102, 102, 105, 99, 32, 117, 112, 100]⟩
def sFin : ByteArray := ⟨#[102, 105, 110, 105, 115, 104, 101, 100]⟩
def sDer : ByteArray := ⟨#[100, 101, 114, 105, 118, 101, 100]⟩

set_option maxHeartbeats 2000000 in
theorem update_any (q : Int) (vk : Value) (key : List Int) (w : World) (ht : Tabs w) (hk : Ap.Rd w vk key) (hkl : key.length ≤ 140737488351232) :
    Calls Tryd.prog 23 #[.int .i64 q, vk] w fun e w' => RL (drL q key sUpd []) w w' e := by
  have hl := labelled_any q sUpd w
  have HX : Hid (Tabs w ∧ Ap.Rd w vk key ∧ key.length ≤ 140737488351232) := ⟨ht, hk, hkl⟩
  unfold sUpd at hl
  clear ht hk hkl
  go_enter Tryd.func23, Tryd.ntmps23
  go_wp2_with (go_at_call 34; refine hl.mono ?_)
  rintro e w1 ⟨v, rfl, hc1, hla⟩
  obtain ⟨A, B, C, rfl, hp⟩ := la_any hla
  have hp := hp vk (.slice none 0 0) key [] w1 (Chg.refl _) (HX.out.1.chg hc1) (Rd.chg HX.out.2.1 hc1) HX.out.2.2 (Ap.Rd.nil _)
  have H : Hid (Chg w w1) := hc1
  clear hl hla hc1
  go_wp2_with (go_at_call 46; refine hp.mono ?_)
  rintro e w2 ⟨o, m, c, rfl, hc2, hr2⟩
  have H2 : Hid (Chg w w2 ∧ Ap.Rd w2 (.slice o m c) (drL q key sUpd [])) := ⟨H.out.trans hc2, hr2⟩
  clear hp hc2 hr2
  go_wp2
  go_ret
  exact ⟨_, _, _, rfl, H2.out⟩

set_option maxHeartbeats 2000000 in
theorem finished_any (q : Int) (vk vs : Value) (key sum : List Int) (w : World) (ht : Tabs w) (hk : Ap.Rd w vk key) (hkl : key.length ≤ 140737488351232) (hs : Ap.Rd w vs sum) (hsl : sum.length < 4611686018427387904) :
    Calls Tryd.prog 24 #[.int .i64 q, vk, vs] w fun e w' => RL (macL q (drL q key sFin []) sum) w w' e := by
  have hl := labelled_any q sFin w
  have HX : Hid (Tabs w ∧ Ap.Rd w vk key ∧ key.length ≤ 140737488351232 ∧ Ap.Rd w vs sum ∧ sum.length < 4611686018427387904) := ⟨ht, hk, hkl, hs, hsl⟩
  obtain ⟨so, sm, sc, rfl, -⟩ := hs.shape
  unfold sFin at hl
  clear ht hk hkl hs hsl
  go_enter Tryd.func24, Tryd.ntmps24
  go_wp2_with (go_at_call 34; refine hl.mono ?_)
  rintro e w1 ⟨v, rfl, hc1, hla⟩
  obtain ⟨A, B, C, rfl, hp⟩ := la_any hla
  have hp := hp vk (.slice none 0 0) key [] w1 (Chg.refl _) (HX.out.1.chg hc1) (Rd.chg HX.out.2.1 hc1) HX.out.2.2.1 (Ap.Rd.nil _)
  have H : Hid (Chg w w1) := hc1
  clear hl hla hc1
  go_wp2_with (go_at_call 46; refine hp.mono ?_)
  rintro e w2 ⟨o, m, c, rfl, hc2, hr2⟩
  have H2 : Hid (Chg w w2 ∧ Ap.Rd w2 (.slice o m c) (drL q key sFin [])) := ⟨H.out.trans hc2, hr2⟩
  clear hp hc2 hr2
  have q1 : Chg w2 (w2.alloc (.cells #[.slice so sm sc] 23)) := (Chg.refl w2).alloc _
  have hm := mac_both q (.slice o m c) (.slice (some ⟨w2.heap.size, 0, none⟩) 1 1) (drL q key sFin []) [sum] (w2.alloc (.cells #[.slice so sm sc] 23)) (HX.out.1.chg (H2.out.1.trans q1)) (Rd.chg H2.out.2 q1) (by have := drL_le q key sFin []; omega) (Pt.made1 (Chg.refl w2) (Rd.slA (Rd.chg HX.out.2.2.2.1 H2.out.1) HX.out.2.2.2.2) 23)
  rw [show [sum].flatten = sum by simp] at hm
  have Q1 : Hid (Chg w2 (w2.alloc (.cells #[.slice so sm sc] 23))) := q1
  clear q1
  go_wp2_with (go_at_call 25; refine hm.mono ?_)
  rintro e w3 ⟨o3, m3, c3, rfl, hc3, hr3⟩
  have H3 : Hid (Chg w w3 ∧ Ap.Rd w3 (.slice o3 m3 c3) (macL q (drL q key sFin []) sum)) := ⟨H2.out.1.trans (Q1.out.trans hc3), hr3⟩
  clear hm hc3 hr3
  go_wp2
  go_ret
  exact ⟨_, _, _, rfl, H3.out⟩

/-- The first secret. -/
def earlyL (q : Int) (psk : List Int) : List Int := macL q (zer (sizeOfH q)) (if psk.length = 0 then zer (sizeOfH q) else psk)
set_option maxHeartbeats 2000000 in
theorem early_any (q : Int) (vk : Value) (psk : List Int) (w : World) (ht : Tabs w) (hk : Ap.Rd w vk psk) (hkl : psk.length < 4611686018427387904) :
    Calls Tryd.prog 22 #[.int .i64 q, vk] w fun e w' => RL (earlyL q psk) w w' e := by
  obtain ⟨o, m, c, rfl, hm, -⟩ := hk.shape
  have hz := fun u => zeros_any q u
  have hn := size_le q
  have HX : Hid (Tabs w ∧ Ap.Rd w (.slice o m c) psk ∧ psk.length < 4611686018427387904 ∧ sizeOfH q ≤ 64) := ⟨ht, hk, hkl, hn⟩
  have HZ : Hid (∀ u, Calls Tryd.prog 39 #[.int .i64 q] u fun e w' => ∃ g m c, e = .returned (.slice (some ⟨g, 0, none⟩) m c) ∧ Chg u w' ∧ Ap.Rd w' (.slice (some ⟨g, 0, none⟩) m c) (zer (sizeOfH q))) := hz
  by_cases h0 : m = 0
  · have he : earlyL q psk = macL q (zer (sizeOfH q)) (zer (sizeOfH q)) := by unfold earlyL; rw [if_pos (by omega)]
    have HE : Hid (earlyL q psk = macL q (zer (sizeOfH q)) (zer (sizeOfH q))) := he
    subst h0
    clear ht hk hkl hn hz he hm
    go_enter Tryd.func22, Tryd.ntmps22
    go_wp2_with (go_at_call 39; refine (HZ.out _).mono ?_)
    rintro e w1 ⟨g1, m1, c1, rfl, hc1, hr1⟩
    have H1 : Hid (Chg w w1 ∧ Ap.Rd w1 (.slice (some ⟨g1, 0, none⟩) m1 c1) (zer (sizeOfH q))) := ⟨hc1, hr1⟩
    clear hc1 hr1
    go_wp2_with (go_at_call 39; refine (HZ.out _).mono ?_)
    rintro e w2 ⟨g2, m2, c2, rfl, hc2, hr2⟩
    have hx := extract_any q (.slice (some ⟨g2, 0, none⟩) m2 c2) (.slice (some ⟨g1, 0, none⟩) m1 c1) (zer (sizeOfH q)) (zer (sizeOfH q)) w2 (HX.out.1.chg (H1.out.1.trans hc2)) hr2 (by rw [zer_len]; have := HX.out.2.2.2; omega) (Rd.chg H1.out.2 hc2) (by rw [zer_len]; have := HX.out.2.2.2; omega)
    have H2 : Hid (Chg w w2) := H1.out.1.trans hc2
    clear hc2 hr2
    go_wp2_with (go_at_call 27; refine hx.mono ?_)
    rintro e w3 ⟨o3, m3, c3, rfl, hc3, hr3⟩
    have H3 : Hid (Chg w w3 ∧ Ap.Rd w3 (.slice o3 m3 c3) (earlyL q psk)) := ⟨H2.out.trans hc3, by rw [HE.out]; exact hr3⟩
    clear hx hc3 hr3
    go_wp2
    go_ret
    exact ⟨_, _, _, rfl, H3.out⟩
  · have he : earlyL q psk = macL q (zer (sizeOfH q)) psk := by unfold earlyL; rw [if_neg (by omega)]
    have HE : Hid (earlyL q psk = macL q (zer (sizeOfH q)) psk) := he
    have h00 : ¬ (m : Int) = 0 := by omega
    have hbq : ((m : Int) == 0) = false := by simpa using h00
    clear ht hk hkl hn hz he hm h0
    go_enter Tryd.func22, Tryd.ntmps22
    go_wp2_with (go_at_call 39; refine (HZ.out _).mono ?_)
    rintro e w2 ⟨g2, m2, c2, rfl, hc2, hr2⟩
    have hx := extract_any q (.slice (some ⟨g2, 0, none⟩) m2 c2) (.slice o m c) (zer (sizeOfH q)) psk w2 (HX.out.1.chg hc2) hr2 (by rw [zer_len]; have := HX.out.2.2.2; omega) (Rd.chg HX.out.2.1 hc2) HX.out.2.2.1
    have H2 : Hid (Chg w w2) := hc2
    clear hc2 hr2
    go_wp2_with (go_at_call 27; refine hx.mono ?_)
    rintro e w3 ⟨o3, m3, c3, rfl, hc3, hr3⟩
    have H3 : Hid (Chg w w3 ∧ Ap.Rd w3 (.slice o3 m3 c3) (earlyL q psk)) := ⟨H2.out.trans hc3, by rw [HE.out]; exact hr3⟩
    clear hx hc3 hr3
    go_wp2
    go_ret
    exact ⟨_, _, _, rfl, H3.out⟩
end Go.Proofs.YtijpdhjlafihkaaDoor
