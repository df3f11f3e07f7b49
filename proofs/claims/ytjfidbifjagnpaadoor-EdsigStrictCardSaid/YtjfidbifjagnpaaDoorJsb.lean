/-
  A digest's cells; the small functions: Size, Block, start, the kinds, mixInto, begin, New, Clone, Hash.
  A digest's cells; begin, New, Clone, Hash; mixInto.
  The kinds of words, mixInto, begin, New, Clone, Hash.
  What a digest has taken in: plain facts on lists of bytes, whole blocks, and what is left over.
  Bytes written into a digest: what the function Write does.
-/
import Derived.Test.YtjfidbifjagnpaaDoorSMix
import Derived.Laws.CopyRow
namespace Go.Proofs.YtjfidbifjagnpaaDoor.Sha
open Go.RowKit
set_option linter.unusedVariables false
set_option maxRecDepth 100000
def sizeOfH (h : Int) : Nat := if h = 1 then 32 else if h = 2 then 48 else if h = 3 then 64 else 0
def blockOf (h : Int) : Nat := if h = 1 then 64 else if h = 2 then 128 else if h = 3 then 128 else 0
def startOf (h : Int) (i : Nat) : Int := if h = 1 then root i / 4294967296 else if h = 2 then root (8 + i) else root i
def mixH (h : Int) (st d : Nat → Int) : Nat → Int := if h = 1 then mix32 st d else mix64 st d
theorem size_any (h : Int) (w : World) : Calls Tryd.prog 74 #[.int .i64 h] w fun r w' => r = .returned (.int .i64 (sizeOfH h)) ∧ w' = w := by
 unfold sizeOfH
 by_cases h1 : h = 1
 ·subst h1
  go_enter Tryd.func74, Tryd.ntmps74
  go_wp2
  go_ret
  exact ⟨rfl, rfl⟩
 ·by_cases h2 : h = 2
  ·subst h2
   go_enter Tryd.func74, Tryd.ntmps74
   go_wp2
   go_ret
   exact ⟨rfl, rfl⟩
  ·by_cases h3 : h = 3
   ·subst h3
    go_enter Tryd.func74, Tryd.ntmps74
    go_wp2
    go_ret
    exact ⟨rfl, rfl⟩
   ·simp only [h1, h2, h3, if_false]
    go_enter Tryd.func74, Tryd.ntmps74
    go_wp2
    go_ret
    exact ⟨rfl, rfl⟩
theorem block_any (h : Int) (w : World) : Calls Tryd.prog 72 #[.int .i64 h] w fun r w' => r = .returned (.int .i64 (blockOf h)) ∧ w' = w := by
 unfold blockOf
 by_cases h1 : h = 1
 ·subst h1
  go_enter Tryd.func72, Tryd.ntmps72
  go_wp2
  go_ret
  exact ⟨rfl, rfl⟩
 ·by_cases h2 : h = 2
  ·subst h2
   go_enter Tryd.func72, Tryd.ntmps72
   go_wp2
   go_ret
   exact ⟨rfl, rfl⟩
  ·by_cases h3 : h = 3
   ·subst h3
    go_enter Tryd.func72, Tryd.ntmps72
    go_wp2
    go_ret
    exact ⟨rfl, rfl⟩
   ·simp only [h1, h2, h3, if_false]
    go_enter Tryd.func72, Tryd.ntmps72
    go_wp2
    go_ret
    exact ⟨rfl, rfl⟩
theorem start_any (h : Int) (i : Nat) (w : World) (ht : Tabs w) (hi : i < 8) : Calls Tryd.prog 71 #[.int .i64 h, .int .i64 i] w fun r w' => r = .returned (.int .u64 (startOf h i)) ∧ w' = w := by
 have l1 : (i : Int) < 16 := by omega
 unfold startOf
 by_cases h1 : h = 1
 ·subst h1
  have c0 := ht.r i (by omega)
  obtain ⟨x, hx⟩ : ∃ x, x = root i := ⟨_, rfl⟩
  rw [← hx] at c0
  simp only [if_true, ← hx]
  clear hx ht
  go_enter Tryd.func71, Tryd.ntmps71
  go_wp2
  go_ret
  exact ⟨rfl, rfl⟩
 ·by_cases h2 : h = 2
  ·subst h2
   obtain ⟨q, hq⟩ : ∃ q : Nat, 8 + (i : Int) = q := ⟨8 + i, by omega⟩
   have hq' : 8 + i = q := by omega
   have hqw := wrap_i (x := (q : Int)) (by omega) (by omega)
   have c0 := ht.r q (by omega)
   obtain ⟨x, hx⟩ : ∃ x, x = root q := ⟨_, rfl⟩
   rw [← hx] at c0
   rw [hq', ← hx]
   simp only [h1, if_false, if_true]
   have l2 : (q : Int) < 16 := by omega
   clear hx ht hq'
   go_enter Tryd.func71, Tryd.ntmps71
   go_wp2
   go_ret
   exact ⟨rfl, rfl⟩
  ·have c0 := ht.r i (by omega)
   obtain ⟨x, hx⟩ : ∃ x, x = root i := ⟨_, rfl⟩
   rw [← hx] at c0
   simp only [h1, h2, if_false, ← hx]
   clear hx ht
   go_enter Tryd.func71, Tryd.ntmps71
   go_wp2
   go_ret
   exact ⟨rfl, rfl⟩
end Go.Proofs.YtjfidbifjagnpaaDoor.Sha
namespace Go.Proofs.YtjfidbifjagnpaaDoor.Sha
open Go.RowKit
set_option linter.unusedVariables false
set_option maxRecDepth 100000
def digF (h : Int) (st rest : Nat → Int) (held count : Int) (j : Nat) : Value :=
 if j = 0 then .int .i64 h else if j < 9 then .int .u64 (st (j - 1)) else if j < 137 then .int .u8 (rest (j - 9)) else if j = 137 then .int .i64 held else .int .u64 count
def dig (h : Int) (st rest : Nat → Int) (held count : Int) : Array Value := ((List.range 139).map (digF h st rest held count)).toArray
theorem dig_size (h : Int) (st rest : Nat → Int) (held count : Int) : (dig h st rest held count).size = 139 := by simp [dig]
theorem dig_get (h : Int) (st rest : Nat → Int) (held count : Int) {j : Nat} (hj : j < 139) : (dig h st rest held count)[j]? = some (digF h st rest held count j) := by simp [dig, hj]
theorem dig_eq {c : Array Value} {h : Int} {st rest : Nat → Int} {held count : Int} (hs : c.size = 139) (hc : ∀ j, j < 139 → c[j]? = some (digF h st rest held count j)) : c = dig h st rest held count := by
 apply Array.ext_getElem?
 intro j
 by_cases hj : j < 139
 ·rw [hc j hj, dig_get _ _ _ _ _ hj]
 ·rw [Array.getElem?_eq_none (by omega), Array.getElem?_eq_none (by rw [dig_size]; omega)]
theorem dig_one (h : Int) (st rest : Nat → Int) (held count : Int) : (dig h st rest held count).all (·.oneCell') = true := by
 rw [Array.all_eq_true_iff_forall_mem]
 intro v hv
 simp [dig] at hv
 obtain ⟨i, _, rfl⟩ := hv
 unfold digF
 repeat' split
 all_goals rfl
theorem dig_hash (h : Int) (st rest : Nat → Int) (held count : Int) : (dig h st rest held count)[0]? = some (.int .i64 h) := by rw [dig_get _ _ _ _ _ (by omega)]; rfl
theorem dig_st (h : Int) (st rest : Nat → Int) (held count : Int) {i : Nat} (hi : i < 8) : (dig h st rest held count)[1 + i]? = some (.int .u64 (st i)) := by
 rw [dig_get _ _ _ _ _ (by omega), digF, if_neg (by omega), if_pos (by omega), show 1 + i - 1 = i by omega]
theorem dig_rest (h : Int) (st rest : Nat → Int) (held count : Int) {i : Nat} (hi : i < 128) : (dig h st rest held count)[9 + i]? = some (.int .u8 (rest i)) := by
 rw [dig_get _ _ _ _ _ (by omega), digF, if_neg (by omega), if_neg (by omega), if_pos (by omega), show 9 + i - 9 = i by omega]
theorem dig_held (h : Int) (st rest : Nat → Int) (held count : Int) : (dig h st rest held count)[137]? = some (.int .i64 held) := by rw [dig_get _ _ _ _ _ (by omega)]; rfl
theorem dig_count (h : Int) (st rest : Nat → Int) (held count : Int) : (dig h st rest held count)[138]? = some (.int .u64 count) := by rw [dig_get _ _ _ _ _ (by omega)]; rfl
theorem dig_setHeld (h : Int) (st rest : Nat → Int) (held count x : Int) : (dig h st rest held count).setIfInBounds 137 (.int .i64 x) = dig h st rest x count := by
 refine dig_eq (by simp [dig_size]) fun j hj => ?_
 by_cases e : j = 137
 ·subst e
  rw [Array.getElem?_setIfInBounds_self_of_lt (by rw [dig_size]; omega)]
  rfl
 ·rw [Array.getElem?_setIfInBounds_ne (by omega), dig_get _ _ _ _ _ hj]
  simp [digF, e]
theorem dig_setCount (h : Int) (st rest : Nat → Int) (held count x : Int) : (dig h st rest held count).setIfInBounds 138 (.int .u64 x) = dig h st rest held x := by
 refine dig_eq (by simp [dig_size]) fun j hj => ?_
 by_cases e : j = 138
 ·subst e
  rw [Array.getElem?_setIfInBounds_self_of_lt (by rw [dig_size]; omega)]
  rfl
 ·rw [Array.getElem?_setIfInBounds_ne (by omega), dig_get _ _ _ _ _ hj]
  unfold digF
  repeat' split
  all_goals first | rfl | omega
theorem dig_setSt (h : Int) (st rest : Nat → Int) (held count x : Int) {i : Nat} (hi : i < 8) : (dig h st rest held count).setIfInBounds (1 + i) (.int .u64 x) = dig h (upd st i x) rest held count := by
 refine dig_eq (by simp [dig_size]) fun j hj => ?_
 by_cases e : j = 1 + i
 ·subst e
  rw [Array.getElem?_setIfInBounds_self_of_lt (by rw [dig_size]; omega), digF, if_neg (by omega), if_pos (by omega), show 1 + i - 1 = i by omega, upd_same]
 ·rw [Array.getElem?_setIfInBounds_ne (by omega), dig_get _ _ _ _ _ hj]
  unfold digF
  by_cases e0 : j = 0
  ·simp [e0]
  ·by_cases e9 : j < 9
   ·simp only [e0, e9, if_true, if_false]
    rw [upd_ne _ _ (by omega)]
   ·simp [e0, e9]
theorem dig_lay (h : Int) (st rest st' : Nat → Int) (held count : Int) : lay .u64 (dig h st rest held count) 1 st' 8 = dig h st' rest held count := by
 refine dig_eq (by rw [lay_size, dig_size]) fun j hj => ?_
 by_cases e : 1 ≤ j ∧ j < 9
 ·have : j = 1 + (j - 1) := by omega
  rw [this, lay_in _ _ _ _ _ _ (by omega) (by rw [dig_size]; omega), ← this, digF, if_neg (by omega), if_pos (by omega)]
 ·rw [lay_out _ _ _ _ _ _ (by omega), dig_get _ _ _ _ _ hj]
  unfold digF
  by_cases e0 : j = 0
  ·simp [e0]
  ·have e9 : ¬ j < 9 := by omega
   simp [e0, e9]
theorem dig_congr {h : Int} {st st' rest rest' : Nat → Int} {held count : Int} (hs : ∀ i, i < 8 → st i = st' i) (hr : ∀ i, i < 128 → rest i = rest' i) : dig h st rest held count = dig h st' rest' held count := by
 refine dig_eq (dig_size _ _ _ _ _) fun j hj => ?_
 rw [dig_get _ _ _ _ _ hj]
 unfold digF
 by_cases e0 : j = 0
 ·simp [e0]
 ·by_cases e9 : j < 9
  ·simp only [e0, e9, if_true, if_false]
   rw [hs _ (by omega)]
  ·by_cases e1 : j < 137
   ·simp only [e0, e9, e1, if_true, if_false]
    rw [hr _ (by omega)]
   ·simp [e0, e9, e1]
theorem zero44 : (∀ w, (zeroValue 83).run Tryd.prog w = .ok (.agg (dig 0 (fun _ => 0) (fun _ => 0) 0 0)) w) ∧ (Tryd.prog.info? 83).map (·.size) = some 139 := zero_of_info (by kernel_rfl)
end Go.Proofs.YtjfidbifjagnpaaDoor.Sha
namespace Go.Proofs.YtjfidbifjagnpaaDoor.Sha
open Go.RowKit
set_option linter.unusedVariables false
set_option maxRecDepth 100000
def isStr : TypeDesc → Bool
 | .struct _ => true
 | _ => false
theorem str_of {ty : TypeId} (h : (Tryd.prog.underlying ty).map isStr = some true) : ∃ f, Tryd.prog.underlying ty = some (.struct f) := by
 cases hq : Tryd.prog.underlying ty with
 | none => rw [hq] at h; cases h
 | some d =>
  rw [hq] at h
  have h := Option.some.inj h
  cases d <;> first | exact ⟨_, rfl⟩ | (exact absurd h (by simp [isStr]))
theorem str64 : ∃ f, Tryd.prog.underlying 119 = some (.struct f) := str_of (by kernel_rfl)
theorem str44 : ∃ f, Tryd.prog.underlying 83 = some (.struct f) := str_of (by kernel_rfl)
theorem bp_s {fn : Func} {R : Ending → World → Prop} {a : Act} {w : World} {p b : Nat} {ty : TypeId} {c : Array Value} (h : fn.results = #[.cell p ty]) (hd : a.defers = []) (hp : a.tmps.getD p undef = .pointer (some ⟨b, 0, none⟩)) (ha : Ar w b c)
  (hu : ∃ f, Tryd.prog.underlying ty = some (.struct f)) (hi : (Tryd.prog.info? ty).map (·.size) = some c.size) (hR : R (.returned (.agg c)) w) : bodyPost Tryd.prog fn R .ret a w := by
 obtain ⟨t, ha⟩ := ha
 obtain ⟨f, hu⟩ := hu
 refine bodyPost_ret (v := .agg c) ?_ hd hR
 exact results_cell_row h _ w b t c (0, 0) _ hp ha hu rfl hi
theorem size64 : (Tryd.prog.info? 119).map (·.size) = some 14 := by kernel_rfl
theorem short_any (w : World) : Calls Tryd.prog 89 #[] w fun r w' => r = .returned (.agg kind32) ∧ Chg w w' := by
 go_enter Tryd.func89, Tryd.ntmps89
 go_wp2
 refine bp_s (c := kind32) Tryd.results89 rfl rfl ?_ str64 size64 ⟨rfl, ?_⟩
 ·exact Ar.new _ _ _
 ·exact (Chg.refl w).alloc _
theorem long_any (w : World) : Calls Tryd.prog 91 #[] w fun r w' => r = .returned (.agg kind64) ∧ Chg w w' := by
 go_enter Tryd.func91, Tryd.ntmps91
 go_wp2
 refine bp_s (c := kind64) Tryd.results91 rfl rfl ?_ str64 size64 ⟨rfl, ?_⟩
 ·exact Ar.new _ _ _
 ·exact (Chg.refl w).alloc _
theorem Cb.of_low {b : Nat} {a w w' : World} (h : Chg a w) (k : Cb b w w') : Cb b a w' := (h.cb b).trans k
theorem mixInto_any (h : Int) (n sb so b o cap : Nat) (c : Array Value) (st d : Nat → Int) (w : World) (hn : n = blockOf h) (hv : h = 1 ∨ h = 2 ∨ h = 3) (ht : Tabs w) (hsb : 2 ≤ sb) (hs : Ar w sb c) (hc : so + 8 ≤ c.size) (hst : ∀ i, i < 8 → c[so + i]? = some (.int .u64 (st i)))
  (hb : Bs w b o n d) (hcap : n ≤ cap) (hcap' : cap < 9223372036854775808) :
  Calls Tryd.prog 73 #[.int .i64 h, .pointer (some ⟨sb, so, none⟩), .slice (some ⟨b, o, none⟩) n cap] w fun r w' => r = .returned (.tuple #[]) ∧ Cb sb w w' ∧ Ar w' sb (lay .u64 c so (mixH h st d) 8) := by
 by_cases h1 : h = 1
 ·subst h1
  have hn' : n = 64 := hn
  subst hn'
  have HK : Hid (∀ u, Chg w u → Calls Tryd.prog 88 #[.agg kind32, .pointer (some ⟨sb, so, none⟩), .slice (some ⟨b, o, none⟩) 64 cap] u fun r w' => r = .returned (.tuple #[]) ∧ Cb sb w w' ∧ Ar w' sb (lay .u64 c so (mixH 1 st d) 8)) := by
   intro u hu
   refine (mix32_any sb so b o cap c st d u (ht.chg hu) hsb (hs.chg hu) hc hst (hb.chg hu) hcap hcap').mono ?_
   rintro r w' ⟨rfl, k1, k2⟩
   exact ⟨rfl, Cb.of_low hu k1, k2⟩
  clear hv ht hsb hs hc hst hb hcap hcap' hn
  go_enter Tryd.func73, Tryd.ntmps73
  go_wp2_with (first | (go_at_call 89; (refine (short_any _).mono ?_; rintro r w1 ⟨rfl, hc1⟩)) | (go_at_call 88; (refine (HK.out _ hc1).mono ?_; rintro r w2 ⟨rfl, hc2, ha2⟩)))
  exact bodyPost_ret (v := .tuple #[]) (results_none Tryd.results73 _ _ _) rfl ⟨rfl, hc2, ha2⟩
 ·have hn' : n = 128 := by
   rw [hn, blockOf, if_neg h1]
   rcases hv with e | e | e
   ·exact absurd e h1
   ·rw [if_pos e]
   ·rw [if_neg (by omega), if_pos e]
  subst hn'
  have HK : Hid (∀ u, Chg w u → Calls Tryd.prog 90 #[.agg kind64, .pointer (some ⟨sb, so, none⟩), .slice (some ⟨b, o, none⟩) 128 cap] u fun r w' => r = .returned (.tuple #[]) ∧ Cb sb w w' ∧ Ar w' sb (lay .u64 c so (mixH h st d) 8)) := by
   intro u hu
   refine (mix64_any sb so b o cap c st d u (ht.chg hu) hsb (hs.chg hu) hc hst (hb.chg hu) hcap hcap').mono ?_
   rintro r w' ⟨rfl, k1, k2⟩
   rw [mixH, if_neg h1]
   exact ⟨rfl, Cb.of_low hu k1, k2⟩
  clear hv ht hsb hs hc hst hb hcap hcap' hn
  go_enter Tryd.func73, Tryd.ntmps73
  go_wp2_with (first | (go_at_call 91; (refine (long_any _).mono ?_; rintro r w1 ⟨rfl, hc1⟩)) | (go_at_call 90; (refine (HK.out _ hc1).mono ?_; rintro r w2 ⟨rfl, hc2, ha2⟩)))
  go_end0
  exact ⟨rfl, hc2, ha2⟩
theorem dig_setHash (h : Int) (st rest : Nat → Int) (held count x : Int) : (dig h st rest held count).setIfInBounds 0 (.int .i64 x) = dig x st rest held count := by
 refine dig_eq (by simp [dig_size]) fun j hj => ?_
 by_cases e : j = 0
 ·subst e
  rw [Array.getElem?_setIfInBounds_self_of_lt (by rw [dig_size]; omega)]
  rfl
 ·rw [Array.getElem?_setIfInBounds_ne (by omega), dig_get _ _ _ _ _ hj]
  simp [digF, e]
def startUp (h : Int) (i : Nat) : Nat → Int := fun j => if j < i then startOf h j else 0
set_option maxHeartbeats 4000000 in
theorem begin_any (q : Int) (w : World) (ht : Tabs w) : Calls Tryd.prog 57 #[.int .i64 q] w fun r w' => r = .returned (.agg (dig q (startOf q) (fun _ => 0) 0 0)) ∧ Chg w w' := by
 have HT : Hid (Tabs w) := ht
 clear ht
 have hz := zero44.1
 have hbt := dig_setHash 0 (fun _ => 0) (fun _ => 0) 0 0 q
 have hz' : (Tryd.prog.info? 83).map (·.size) = some (dig q (fun _ => 0) (fun _ => 0) 0 0).size := by rw [dig_size]; exact zero44.2
 have hl' : (dig 0 (fun _ => 0) (fun _ => 0) 0 0).size = (dig q (fun _ => 0) (fun _ => 0) 0 0).size := by rw [dig_size, dig_size]
 have ho' := dig_one q (fun _ => 0) (fun _ => 0) 0 0
 have HG : Hid (((w.alloc (.cells (dig 0 (fun _ => 0) (fun _ => 0) 0 0) 83)).alloc (.cells (dig 0 (fun _ => 0) (fun _ => 0) 0 0) 83)).heap[w.heap.size + 1]? = some (.cells (dig 0 (fun _ => 0) (fun _ => 0) 0 0) 83)) := heap_alloc2_new w _ _
 go_enter Tryd.func57, Tryd.ntmps57
 go_wp2_with (first | refine wpList_store_row rfl 83 _ _ rfl _ _ rfl rfl _ _ HG.out hz' hl' ho' ?_)
 obtain ⟨w1, hw1⟩ : ∃ w1, w1 = ((w.alloc (.cells (dig 0 (fun _ => 0) (fun _ => 0) 0 0) 83)).alloc (.cells (dig 0 (fun _ => 0) (fun _ => 0) 0 0) 83)).setRow (w.heap.size + 1) (dig q (fun _ => 0) (fun _ => 0) 0 0) := ⟨_, rfl⟩
 rw [← hw1]
 have z0 : Hid (Chg w w1 ∧ Ar w1 w.heap.size (dig 0 (fun _ => 0) (fun _ => 0) 0 0) ∧ Ar w1 (w.heap.size + 1) (dig q (startUp q 0) (fun _ => 0) 0 0)) := by
  rw [hw1]
  refine ⟨(((Chg.refl w).alloc _).alloc _).setRow (by omega) _, ((Ar.new w _ _).alloc _).rowOther (by omega) _, ?_⟩
  exact (Ar.new1 w _ _ _).row _
 clear hz hbt hz' hl' ho' HG hw1
 go_loopw [7] (fun v wr => ∃ (i : Nat), v = .int .i64 i ∧ i ≤ 8 ∧ Chg w wr ∧ Ar wr w.heap.size (dig 0 (fun _ => 0) (fun _ => 0) 0 0) ∧ Ar wr (w.heap.size + 1) (dig q (startUp q i) (fun _ => 0) 0 0)) (fun v wr => 8 - (intOf v).toNat)
 case atStart => exact ⟨0, rfl, by omega, z0.out.1, z0.out.2.1, z0.out.2.2⟩
 case round =>
  clear z0
  obtain ⟨i, rfl, hi, hch, h1, h2⟩ := hrel
  have HC : Hid (Chg w wr) := hch
  have H1 : Hid (Ar wr w.heap.size (dig 0 (fun _ => 0) (fun _ => 0) 0 0)) := h1
  have H2 : Hid (Ar wr (w.heap.size + 1) (dig q (startUp q i) (fun _ => 0) 0 0)) := h2
  by_cases hi8 : i < 8
  ·have hid : decide ((i : Int) < 8) = true := by simp; omega
   have hl8 : (i : Int) < 8 := by omega
   have c0 := (h2.cell (1 + i)).trans (dig_st q (startUp q i) (fun _ => 0) 0 0 hi8)
   have f0 := h2.frozen (1 + i)
   obtain ⟨x0, hx0⟩ : ∃ x, x = startUp q i i := ⟨_, rfl⟩
   rw [← hx0] at c0
   obtain ⟨x, hx⟩ : ∃ x, x = startOf q i := ⟨_, rfl⟩
   have HX : Hid (x = startOf q i) := hx
   have HS : Hid (Calls Tryd.prog 71 #[.int .i64 q, .int .i64 i] wr fun r w' => r = .returned (.int .u64 x) ∧ w' = wr) := by
    rw [hx]
    exact start_any q i wr (HT.out.chg hch) hi8
   clear hx0 hx hch h1 h2
   go_wp2_with (first | (go_at_call 71; (refine HS.out.mono ?_; rintro r w2 ⟨rfl, rfl⟩)))
   go_roundw
   case rel =>
    refine ⟨i + 1, by go_num, by omega, HC.out.setCell (by dsimp only; omega) _, H1.out.other (by dsimp only; omega) _, ?_⟩
    have hh := H2.out.set (1 + i) (.int .u64 x)
    rw [dig_setSt _ _ _ _ _ _ hi8] at hh
    have e : upd (startUp q i) i x = startUp q (i + 1) := by
     funext j
     unfold upd startUp
     by_cases hj : j = i
     ·subst hj; simp [HX.out]
     ·have e : (j < i + 1) ↔ j < i := by omega
      simp [hj, e]
    rw [e] at hh
    exact hh
   case measure => simp [intOf]; omega
  ·have hid : decide ((i : Int) < 8) = false := by simp; omega
   have hi8' : i = 8 := by omega
   have e : dig q (startUp q i) (fun _ => 0) 0 0 = dig q (startOf q) (fun _ => 0) 0 0 := dig_congr (fun j hj => by unfold startUp; rw [if_pos (by omega)]) (fun _ _ => rfl)
   have H2' : Hid (Ar wr (w.heap.size + 1) (dig q (startOf q) (fun _ => 0) 0 0)) := by
    show Ar _ _ _
    rw [← e]
    exact h2
   obtain ⟨f, hf⟩ := str44
   obtain ⟨t1, hg1⟩ := h1
   obtain ⟨t2, hg2⟩ := h2
   rw [e] at hg2
   have hz' : (Tryd.prog.info? 83).map (·.size) = some (dig q (startOf q) (fun _ => 0) 0 0).size := by rw [dig_size]; exact zero44.2
   have hl' : (dig 0 (fun _ => 0) (fun _ => 0) 0 0).size = (dig q (startOf q) (fun _ => 0) 0 0).size := by rw [dig_size, dig_size]
   have ho' := dig_one q (startOf q) (fun _ => 0) 0 0
   clear hch e hi8' H2
   go_wp2_with (first | refine wpList_load_row rfl 83 _ rfl _ rfl _ _ _ _ hg2 hf rfl hz' ?_ | refine wpList_store_row rfl 83 _ _ rfl _ _ rfl rfl _ _ hg1 hz' hl' ho' ?_)
   refine bp_s (c := dig q (startOf q) (fun _ => 0) 0 0) Tryd.results57 rfl rfl ?_ str44 hz' ⟨rfl, ?_⟩
   ·exact H1.out.row _
   ·exact HC.out.setRow (by omega) _
end Go.Proofs.YtjfidbifjagnpaaDoor.Sha
namespace Go.Proofs.YtjfidbifjagnpaaDoor.Sha
open Go.RowKit
set_option linter.unusedVariables false
set_option maxRecDepth 100000
def gd (l : List Int) (j : Nat) : Int := l.getD j 0
theorem gd_left (a b : List Int) {j : Nat} (h : j < a.length) : gd (a ++ b) j = gd a j := by
 unfold gd
 rw [List.getD_eq_getElem?_getD, List.getD_eq_getElem?_getD, List.getElem?_append_left h]
theorem gd_right (a b : List Int) {j : Nat} (h : a.length ≤ j) : gd (a ++ b) j = gd b (j - a.length) := by
 unfold gd
 rw [List.getD_eq_getElem?_getD, List.getD_eq_getElem?_getD, List.getElem?_append_right h]
theorem gd_take (a : List Int) {j n : Nat} (h : j < n) : gd (a.take n) j = gd a j := by
 unfold gd
 rw [List.getD_eq_getElem?_getD, List.getD_eq_getElem?_getD, List.getElem?_take, if_pos h]
theorem gd_drop (a : List Int) (j n : Nat) : gd (a.drop n) j = gd a (n + j) := by
 unfold gd
 rw [List.getD_eq_getElem?_getD, List.getD_eq_getElem?_getD, List.getElem?_drop]
def Valid (h : Int) : Prop := h = 1 ∨ h = 2 ∨ h = 3
theorem Valid.block {h : Int} (hv : Valid h) : blockOf h = 64 ∧ h = 1 ∨ blockOf h = 128 ∧ h ≠ 1 := by
 rcases hv with rfl | rfl | rfl
 ·exact .inl ⟨rfl, rfl⟩
 ·exact .inr ⟨rfl, by decide⟩
 ·exact .inr ⟨rfl, by decide⟩
theorem Valid.pos {h : Int} (hv : Valid h) : 64 ≤ blockOf h ∧ blockOf h ≤ 128 := by
 rcases hv.block with ⟨e, _⟩ | ⟨e, _⟩ <;> rw [e] <;> decide
theorem joinW_congr {κ : IntKind} {d e : Nat → Int} {n : Nat} (h : ∀ k, k < n → d k = e k) : joinW κ d n = joinW κ e n := by
 induction n with
 | zero => rfl
 | succ n ih => rw [joinW, joinW, ih (fun k hk => h k (by omega)), h n (by omega)]
theorem firstW_congr {κ : IntKind} {nb : Nat} {d e : Nat → Int} (h : ∀ k, k < nb * 16 → d k = e k) : firstW κ nb d 16 = firstW κ nb e 16 := by
 funext j
 unfold firstW
 by_cases hj : j < 16
 ·rw [if_pos hj, if_pos hj]
  unfold wordW
  refine joinW_congr fun k hk => h _ ?_
  have : nb * (j + 1) ≤ nb * 16 := Nat.mul_le_mul_left nb (by omega)
  rw [Nat.mul_add] at this
  omega
 ·rw [if_neg hj, if_neg hj]
theorem mixH_congr {h : Int} {st d e : Nat → Int} (hv : Valid h) (hd : ∀ j, j < blockOf h → d j = e j) : mixH h st d = mixH h st e := by
 unfold mixH
 rcases hv.block with ⟨e1, e2⟩ | ⟨e1, e2⟩
 ·rw [if_pos e2, if_pos e2]
  rw [e1] at hd
  unfold mix32 words32
  rw [firstW_congr (nb := 4) hd]
 ·rw [if_neg e2, if_neg e2]
  rw [e1] at hd
  unfold mix64 words64
  rw [firstW_congr (nb := 8) hd]
def stN (h : Int) (f : Nat → Int) : Nat → (Nat → Int)
 | 0 => startOf h
 | k + 1 => mixH h (stN h f k) (fun j => f (blockOf h * k + j))
theorem stN_congr {h : Int} (hv : Valid h) {f g : Nat → Int} {k : Nat} (e : ∀ j, j < blockOf h * k → f j = g j) : stN h f k = stN h g k := by
 induction k with
 | zero => rfl
 | succ k ih =>
  rw [Nat.mul_add, Nat.mul_one] at e
  rw [stN, stN, ih (fun j hj => e j (by omega))]
  exact mixH_congr hv fun j hj => e _ (by omega)
def stOf (h : Int) (all : List Int) : Nat → Int := stN h (gd all) (all.length / blockOf h)
theorem stOf_more {h : Int} (hv : Valid h) (all zs : List Int) (hr : all.length % blockOf h + zs.length < blockOf h) : stOf h (all ++ zs) = stOf h all ∧ (all ++ zs).length % blockOf h = all.length % blockOf h + zs.length ∧ (all ++ zs).length / blockOf h = all.length / blockOf h := by
 have hp := hv.pos
 have hd := Nat.div_add_mod all.length (blockOf h)
 have hlen : (all ++ zs).length = blockOf h * (all.length / blockOf h) + (all.length % blockOf h + zs.length) := by rw [List.length_append]; omega
 have e1 : (all ++ zs).length / blockOf h = all.length / blockOf h := by
  rw [hlen, Nat.mul_add_div (by omega), Nat.div_eq_of_lt hr]
  rfl
 have e2 : (all ++ zs).length % blockOf h = all.length % blockOf h + zs.length := by
  rw [hlen, Nat.mul_add_mod, Nat.mod_eq_of_lt hr]
 refine ⟨?_, e2, e1⟩
 unfold stOf
 rw [e1]
 exact stN_congr hv fun j hj => gd_left _ _ (by omega)
theorem stOf_block {h : Int} (hv : Valid h) (all zs : List Int) (d : Nat → Int) (hr : all.length % blockOf h + zs.length = blockOf h)
  (hd : ∀ j, j < blockOf h → d j = gd (all ++ zs) (blockOf h * (all.length / blockOf h) + j)) : stOf h (all ++ zs) = mixH h (stOf h all) d ∧ (all ++ zs).length % blockOf h = 0 := by
 have hp := hv.pos
 have hdm := Nat.div_add_mod all.length (blockOf h)
 have hlen : (all ++ zs).length = blockOf h * (all.length / blockOf h + 1) := by rw [List.length_append, Nat.mul_add, Nat.mul_one]; omega
 have e1 : (all ++ zs).length / blockOf h = all.length / blockOf h + 1 := by
  rw [hlen, Nat.mul_div_cancel_left _ (by omega)]
 have e2 : (all ++ zs).length % blockOf h = 0 := by rw [hlen, Nat.mul_mod_right]
 refine ⟨?_, e2⟩
 unfold stOf
 rw [e1, stN, stN_congr hv (g := gd all) (fun j hj => gd_left _ _ (by omega))]
 exact mixH_congr hv fun j hj => (hd j hj).symm
end Go.Proofs.YtjfidbifjagnpaaDoor.Sha
namespace Go.Proofs.YtjfidbifjagnpaaDoor.Sha
open Go.RowKit
set_option linter.unusedVariables false
set_option maxRecDepth 100000
def over (r : Nat) (zs : List Int) (rest : Nat → Int) : Nat → Int := fun j => if r ≤ j ∧ j < r + zs.length then gd zs (j - r) else rest j
theorem dig_copy (h : Int) (st rest : Nat → Int) (held count : Int) (r : Nat) (zs : List Int) (hr : r + zs.length ≤ 128) :
  ((dig h st rest held count).toList.take (9 + r) ++ zs.map (Value.int .u8) ++ (dig h st rest held count).toList.drop (9 + r + (zs.map (Value.int .u8)).length)).toArray = dig h st (over r zs rest) held count := by
 have hsz := dig_size h st rest held count
 have hll : (dig h st rest held count).toList.length = 139 := by simpa using hsz
 refine dig_eq (by simp [hsz]; omega) fun j hj => ?_
 have hg := dig_get h st rest held count hj
 rw [← Array.getElem?_toList] at hg
 rw [List.getElem?_toArray]
 by_cases h1 : j < 9 + r
 ·rw [List.append_assoc, List.getElem?_append_left (by simp; omega), List.getElem?_take, if_pos h1, hg]
  congr 1
  unfold digF
  by_cases e : 9 ≤ j ∧ j < 137
  ·have e0 : ¬ j = 0 := by omega
   have e1 : ¬ j < 9 := by omega
   have e2 : ¬ (r ≤ j - 9 ∧ j - 9 < r + zs.length) := by omega
   simp only [e0, e1, e.2, if_true, if_false, over, e2]
  ·by_cases e0 : j = 0
   ·simp [e0]
   ·have e1 : j < 9 ∨ ¬ j < 137 := by omega
    rcases e1 with e1 | e1
    ·simp [e0, e1]
    ·have e2 : ¬ j < 9 := by omega
     simp [e0, e1, e2]
 ·by_cases h2 : j < 9 + r + zs.length
  ·rw [List.getElem?_append_left (by simp; omega), List.getElem?_append_right (by simp; omega)]
   rw [List.length_take, hll, Nat.min_eq_left (by omega), List.getElem?_map]
   have hl : j - (9 + r) < zs.length := by omega
   rw [List.getElem?_eq_getElem hl]
   unfold digF
   rw [if_neg (by omega), if_neg (by omega), if_pos (by omega), over, if_pos (by omega)]
   rw [show j - 9 - r = j - (9 + r) by omega]
   simp [gd, List.getD_eq_getElem?_getD, List.getElem?_eq_getElem hl]
  ·rw [List.getElem?_append_right (by simp; omega), List.getElem?_drop]
   rw [show 9 + r + (zs.map (Value.int .u8)).length + (j - ((dig h st rest held count).toList.take (9 + r) ++ zs.map (Value.int .u8)).length) = j by simp; omega, hg]
   congr 1
   unfold digF
   by_cases e : j < 137
   ·have e0 : ¬ j = 0 := by omega
    have e1 : ¬ j < 9 := by omega
    have e2 : ¬ (r ≤ j - 9 ∧ j - 9 < r + zs.length) := by omega
    simp only [e0, e1, e, if_true, if_false, over, e2]
   ·have e0 : ¬ j = 0 := by omega
    have e1 : ¬ j < 9 := by omega
    simp [e0, e1, e]
theorem u23 : Tryd.prog.underlying 23 = some (.slice 5) := by kernel_rfl
theorem i5 : (Tryd.prog.info? 5).map (·.size) = some 1 := by kernel_rfl
theorem run_cpD (w : World) (D : Nat) (h : Int) (st rest : Nat → Int) (held count : Int) (r dl dc b o sl sc : Nat) (ys : List Int) (hd : Ar w D (dig h st rest held count)) (hs : Bs w b o sl (gd ys)) (hsl : sl = ys.length) (n : Nat) (hn : n = Nat.min sl dl) (hr : r + n ≤ 128) :
  (Builtin.copy_ #[23, 23] 3 #[.slice (some ⟨D, 9 + r, none⟩) dl dc, .slice (some ⟨b, o, none⟩) sl sc]).run Tryd.prog w = .ok (.int .i64 n) (w.setRow D (dig h st (over r (ys.take n) rest) held count)) := by
 obtain ⟨t, hg⟩ := hd
 have hmin : n ≤ ys.length := by
  rw [hn, ← hsl]
  exact Nat.min_le_left _ _
 have hl : ((ys.take n).map (Value.int .u8)).length = n := by simp; omega
 have := run_copy_row (P := Tryd.prog) w 23 23 3 5 D (9 + r) dl dc ⟨b, o, none⟩ sl sc _ t ((ys.take n).map (Value.int .u8)) u23 i5 hg (by rw [hl, hn]) (fun j v hv => ?_) (by rw [hl, dig_size]; omega) (fun v hv => ?_)
 ·rw [this, dig_copy _ _ _ _ _ _ _ (by rw [List.length_take]; omega), hl]
  rfl
 ·have hadd : (⟨b, o, none⟩ : Addr).add j = ⟨b, o + j, none⟩ := by unfold Addr.add; split <;> simp_all
  rw [List.getElem?_map] at hv
  have hj : j < n := by
   rcases Nat.lt_or_ge j n with hj | hj
   ·exact hj
   ·rw [List.getElem?_eq_none (by simp; omega)] at hv
    cases hv
  rw [hadd, hs j (by omega), ← hv, List.getElem?_take, if_pos hj, List.getElem?_eq_getElem (by omega)]
  simp [gd, List.getD_eq_getElem?_getD, List.getElem?_eq_getElem (show j < ys.length by omega)]
 ·obtain ⟨x, _, rfl⟩ := List.mem_map.1 hv
  rfl
theorem run_cpNil (w : World) (D o dl dc : Nat) : (Builtin.copy_ #[23, 23] 3 #[.slice (some ⟨D, o, none⟩) dl dc, .slice none 0 0]).run Tryd.prog w = .ok (.int .i64 0) w :=
 run_copy_nil Tryd.prog w 23 23 3 5 ⟨D, o, none⟩ dl dc u23 (by first | exact i5 | kernel_rfl)
theorem run_cpEmpty (w : World) (D o dl dc : Nat) (a : Addr) (cap : Nat) (c : Array Value) (hd : Ar w D c) (ho : o ≤ c.size) : (Builtin.copy_ #[23, 23] 3 #[.slice (some ⟨D, o, none⟩) dl dc, .slice (some a) 0 cap]).run Tryd.prog w = .ok (.int .i64 0) w := by
 obtain ⟨t, hg⟩ := hd
 have := run_copy_row (P := Tryd.prog) w 23 23 3 5 D o dl dc a 0 cap c t [] u23 i5 hg (by simp) (fun j v hv => by simp at hv) (by simpa using ho) (fun v hv => by simp at hv)
 rw [this]
 have e : (c.toList.take o ++ [] ++ c.toList.drop (o + ([] : List Value).length)).toArray = c := by simp
 rw [e, setRow_self w D c t (0, 0) hg]
 rfl
def Sl (w : World) (D : Nat) (v : Value) (xs : List Int) : Prop :=
 (v = .slice none 0 0 ∧ xs = []) ∨ (∃ a cap, v = .slice (some a) 0 cap ∧ xs = []) ∨ ∃ b o cap, v = .slice (some ⟨b, o, none⟩) xs.length cap ∧ xs.length ≤ cap ∧ (cap < 9223372036854775808 ∧ xs.length < 4611686018427387904) ∧ Bs w b o xs.length (gd xs) ∧ b ≠ D
theorem Bs.cb {D : Nat} {w w' : World} {b o n : Nat} {d : Nat → Int} (h : Bs w b o n d) (k : Cb D w w') (hb : b ≠ D) : Bs w' b o n d := fun j hj => cell_cb k hb (h j hj)
theorem Sl.cb {D : Nat} {w w' : World} {v : Value} {xs : List Int} (h : Sl w D v xs) (k : Cb D w w') : Sl w' D v xs := by
 rcases h with h | h | ⟨b, o, cap, h1, h2, h3, h4, h5⟩
 ·exact .inl h
 ·exact .inr (.inl h)
 ·exact .inr (.inr ⟨b, o, cap, h1, h2, h3, h4.cb k h5, h5⟩)
theorem Sl.chg {D : Nat} {w w' : World} {v : Value} {xs : List Int} (h : Sl w D v xs) (k : Chg w w') : Sl w' D v xs := h.cb (k.cb D)
def DgC (w : World) (D : Nat) (h : Int) (all : List Int) (count : Int) : Prop :=
 ∃ rest, Ar w D (dig h (stOf h all) rest ((all.length % blockOf h : Nat) : Int) count) ∧ ∀ j, j < all.length % blockOf h → rest j = gd all (blockOf h * (all.length / blockOf h) + j)
def cnt (l : List Int) : Int := ((l.length % 18446744073709551616 : Nat) : Int)
theorem DgC.lt {w : World} {D : Nat} {h : Int} {all : List Int} {c : Int} (k : DgC w D h all c) : D < w.heap.size := k.choose_spec.1.lt
theorem DgC.chg {w w' : World} {D : Nat} {h : Int} {all : List Int} {c : Int} (k : DgC w D h all c) (hc : Chg w w') : DgC w' D h all c := by
 obtain ⟨rest, k1, k2⟩ := k
 exact ⟨rest, k1.chg hc, k2⟩
theorem DgC.cb {w w' : World} {D E : Nat} {h : Int} {all : List Int} {c : Int} (k : DgC w D h all c) (hc : Cb E w w') (hn : D ≠ E) : DgC w' D h all c := by
 obtain ⟨rest, k1, k2⟩ := k
 exact ⟨rest, k1.cb hc hn, k2⟩
theorem Sl.drop {w : World} {D b o m cap k : Nat} {ys : List Int} (hm : m = ys.length) (h : Bs w b o m (gd ys)) (hb : b ≠ D) (hk : k ≤ m) (hc : m ≤ cap) (hc' : cap < 9223372036854775808 ∧ m < 4611686018427387904) : Sl w D (.slice (some ⟨b, o + k, none⟩) (m - k) (cap - k)) (ys.drop k) := by
 have hl : (ys.drop k).length = m - k := by rw [List.length_drop, hm]
 refine .inr (.inr ⟨b, o + k, cap - k, by rw [hl], by omega, by omega, fun j hj => ?_, hb⟩)
 rw [hl] at hj
 rw [gd_drop, Nat.add_assoc]
 exact h (k + j) (by omega)
theorem Sl.dropAll {w : World} {D b o m k : Nat} {ys : List Int} (hm : m = ys.length) (hb : b ≠ D) (hk : m = k) : Sl w D (.slice (some ⟨b, o, none⟩) (m - k) 0) (ys.drop k) := by
 have hl : (ys.drop k).length = m - k := by rw [List.length_drop, hm]
 refine .inr (.inr ⟨b, o, 0, by rw [hl], by omega, by omega, fun j hj => ?_, hb⟩)
 rw [hl] at hj
 omega
end Go.Proofs.YtjfidbifjagnpaaDoor.Sha
