/-
  append of so many noughts (of a make that is spread).
-/
import Derived.Test.YtlahfenjmpomhaaDoorHlp
namespace Go.Proofs.YtlahfenjmpomhaaDoor
open Go.RowKit
set_option linter.unusedVariables false

theorem zeros_cells (n : Nat) : Builtin.zeroCells (Value.int .u8 0).cells n = ((List.replicate n (0 : Int)).map (Value.int .u8)).toArray := by
  apply Array.ext_getElem?
  intro j
  by_cases hj : j < n
  · simp [Builtin.zeroCells, Value.cells, hj, Nat.mod_one]
  · simp [Builtin.zeroCells, Value.cells, hj]
theorem run_growZ (ty : TypeId) (w : World) (ao : Option Addr) (c n : Nat) (xs : List Int) (hv : Ap.Rd w (.slice ao xs.length c) xs) (hb : xs.length + n ≤ 140737488355328) (hr : ¬ xs.length + n ≤ c) :
    ∃ v' w', (Builtin.append_ #[23, 3] ty #[.slice ao xs.length c, .int .i64 n]).run Tryd.prog w = .ok v' w' ∧ Ap.OwnV w' v' (xs ++ List.replicate n 0) ∧ Ap.Chg Ap.Non w w' ∧ v'.ownBlock = some w.heap.size := by
  obtain ⟨i, hi, hz, hsz, hby⟩ := info_parts Ap.Tryd.info5
  have ht := Tryd.underlying23
  have h3 := Tryd.underlying3
  have hfv := Ap.run_first w.drew _ xs hv.drew
  have hge := grownCap_ge w (xs.length + n) c 5
  have hcm : grownCap w (xs.length + n) c 5 ≤ maxLen := grownCap_le_maxLen w (xs.length + n) c 5 (by unfold maxLen; omega)
  have hfit := growslice_fits (bytes := 1) (show c < xs.length + n by omega) (by simpa using hb)
  rw [← hby] at hfit
  have h63' : ¬ (9223372036854775807 < ((xs.length : Int) + (n : Int))) := by omega
  have h48' : ¬ (281474976710656 < Builtin.nextslicecap (xs.length + n) c * i.bytes) := by omega
  have wn := wrap_i (x := (n : Int)) (by omega) (by omega)
  have hn0 : ¬ (n : Int) < 0 := by omega
  have hn48 : ¬ 281474976710656 < (n : Int) * i.bytes := by rw [hby]; omega
  refine ⟨.slice (some ⟨w.heap.size, 0, none⟩) (xs.length + n) (grownCap w (xs.length + n) c 5),
    w.drew.alloc (.cells (((xs ++ List.replicate n 0).map (Value.int .u8)).toArray ++ Builtin.zeroCells (Value.int .u8 0).cells (grownCap w (xs.length + n) c 5 - (xs.length + n))) 5), ?_,
    .inr ⟨w.heap.size, 0, _, _, rfl, ⟨by simp, hge, hcm, _, heap_alloc_new w.drew _, ?_, ?_⟩⟩, ⟨rfl, rfl, rfl, by simp, fun k hk _ => Below.heap_alloc w.drew _ k hk⟩, rfl⟩
  · by_cases h0 : n = 0
    · exfalso
      obtain ⟨_, _, _, e, _, hle, _⟩ := hv
      injection e with _ e2 e3
      omega
    · simp [Builtin.append_, run_underlying ht, run_underlying h3, sizeOf, typeInfo, zeroValue, hi, hz, hsz, asInt, asIntOf, wn, hn0, hn48, h0, hr, h63', h48', Question.forced, hfv, newRow, grownCap, zeros_cells]
      congr 2
      apply Array.ext'
      simp
  · simp [size_zeroCells, Value.cells]; omega
  · simp only [List.drop_zero, Array.toList_append]
    rw [List.take_append_of_le_length (by simp), List.take_of_length_le (by simp)]
theorem run_roomZ (ty : TypeId) (w : World) (g off m cap n : Nat) (xs : List Int) (h : Ap.Own w g off m cap xs) (hn : n ≤ 1000000) (hr : m + n ≤ cap) :
    ∃ w', (Builtin.append_ #[23, 3] ty #[.slice (some ⟨g, off, none⟩) m cap, .int .i64 n]).run Tryd.prog w = .ok (.slice (some ⟨g, off, none⟩) (m + n) cap) w' ∧ Ap.Own w' g off (m + n) cap (xs ++ List.replicate n 0) ∧ Ap.Chg (Ap.One g) w w' := by
  obtain ⟨i, hi, hz, hsz, hby⟩ := info_parts Ap.Tryd.info5
  have ht := Tryd.underlying23
  have h3 := Tryd.underlying3
  have hlen := h.len
  subst hlen
  have wn := wrap_i (x := (n : Int)) (by omega) (by omega)
  have hn0 : ¬ (n : Int) < 0 := by omega
  have hn48 : ¬ 281474976710656 < (n : Int) * i.bytes := by rw [hby]; omega
  by_cases h0 : n = 0
  · subst h0
    refine ⟨w, ?_, by simpa using h, Ap.Chg.refl _ w⟩
    have hle := h.le
    simp [Builtin.append_, run_underlying ht, run_underlying h3, sizeOf, typeInfo, hi, asInt, asIntOf, IntKind.wrap_i64, hle, storeCells]
  obtain ⟨cur, hg, hsz', htk⟩ := h.blk
  have hst := run_storeCells_at Tryd.prog g (off + xs.length) 5 ((List.replicate n 0).map (Value.int .u8)) 0 cur w hg (by simp; omega) (ints_oneCell _ _)
  simp only [Nat.add_zero] at hst
  refine ⟨w.setRow g (cur.toList.take (off + xs.length) ++ (List.replicate n 0).map (Value.int .u8) ++ cur.toList.drop (off + xs.length + ((List.replicate n 0).map (Value.int .u8)).length)).toArray, ?_, ⟨by simp, hr, h.mx, _, setRow_heap w g cur _ 5 _ hg, ?_, ?_⟩, ⟨rfl, rfl, rfl, by simp [World.setRow], fun k _ hk => setRow_other w g k _ hk⟩⟩
  · simp [Builtin.append_, run_underlying ht, run_underlying h3, sizeOf, typeInfo, zeroValue, hi, hz, hsz, asInt, asIntOf, wn, hn0, hn48, h0, hr, Addr.add_lit, zeros_cells]
    simp at hst
    simp [hst]
  · simp; omega
  · have hd : (cur.toList.take (off + xs.length)).drop off = xs.map (Value.int .u8) := by
      rw [List.drop_take]
      simpa using htk
    rw [List.append_assoc, List.drop_append_of_le_length (by simp; omega), hd, ← List.append_assoc, ← List.map_append]
    rw [List.take_append_of_le_length (by simp), List.take_of_length_le (by simp)]
/-- append of so many noughts, onto a row of our own. -/
theorem run_appZ (ty : TypeId) (w : World) (v : Value) (n : Nat) (xs : List Int) (hv : Ap.OwnV w v xs) (hn : n ≤ 1000000) (hb : xs.length + n ≤ 140737488355328) :
    ∃ v' w', (Builtin.append_ #[23, 3] ty #[v, .int .i64 n]).run Tryd.prog w = .ok v' w' ∧ Ap.OwnV w' v' (xs ++ List.replicate n 0) ∧ Ap.Chg (fun k => v.ownBlock = some k) w w' ∧
      (v'.ownBlock = v.ownBlock ∨ v'.ownBlock = some w.heap.size) := by
  have hvr := hv.rd
  obtain ⟨ao, m, c, rfl, hm, hmc, hvm, hv0, hvx⟩ := hv.rd
  subst hm
  by_cases hr : xs.length + n ≤ c
  · rcases hv with ⟨e, rfl⟩ | ⟨g, off, n', cap, e, h⟩
    · cases e
      have hn0 : n = 0 := by simpa using hr
      subst hn0
      obtain ⟨i, hi, hz, hsz, hby⟩ := info_parts Ap.Tryd.info5
      refine ⟨.slice none 0 0, w, ?_, .inl ⟨rfl, by simp⟩, Ap.Chg.refl _ _, .inl rfl⟩
      simp [Builtin.append_, run_underlying Tryd.underlying23, run_underlying Tryd.underlying3, sizeOf, typeInfo, hi, asInt, asIntOf, IntKind.wrap_i64]
    · cases e
      obtain ⟨w', h1, h2, h3⟩ := run_roomZ ty w g off xs.length c n xs h hn hr
      exact ⟨_, w', h1, .inr ⟨g, off, _, c, rfl, h2⟩, h3.mono (fun k _ e => by cases e; rfl), .inl rfl⟩
  · obtain ⟨v', w', h1, h2, h3, h4⟩ := run_growZ ty w ao c n xs hvr hb hr
    exact ⟨v', w', h1, h2, h3.non _, .inr h4⟩
theorem wpList_appZ (w : World) {ops : Array Oper} {rest : List Oper} {o : Oper} {a : Act} {Q : Exit → Act → World → Prop}
    (hg : o.guard = none) (s x : Operand) (hop : o.op = Op.call { callee := Callee.builtin Builtin.append, args := #[s, x], argTypes := #[23, 3] })
    (v : Value) (n : Nat) (xs : List Int) (hs : a.eval s = v) (hx : a.eval x = .int .i64 n) (hv : Ap.OwnV w v xs) (hn : n ≤ 1000000) (hb : xs.length + n ≤ 140737488355328)
    (hK : ∀ v' w', Ap.OwnV w' v' (xs ++ List.replicate n 0) → Ap.Chg (fun k => v.ownBlock = some k) w w' → (v'.ownBlock = v.ownBlock ∨ v'.ownBlock = some w.heap.size) → wpList Tryd.prog ops Q rest (a.put o.dst v') w') :
    wpList Tryd.prog ops Q (o :: rest) a w := by
  refine wpList_plain hg fun K hK' => ?_
  obtain ⟨v', w', hrun, r1, r2, r3⟩ := run_appZ o.type w v n xs hv hn hb
  unfold Oper.wp
  simp [execOp, hop, resolve, invoke, builtin, hs, hx, hrun, Result.andThen]
  exact hK' _ _ (hK v' w' r1 r2 r3)
end Go.Proofs.YtlahfenjmpomhaaDoor
