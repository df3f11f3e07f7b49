/-
  A slice of texts in a row of our own, from a place of it on: what it holds, and append onto it.
-/
import Derived.Test.YtlhcadfcgibkdaaDoorBase
namespace Go.Proofs.YtlhcadfcgibkdaaDoor
open Go.RowKit
set_option maxRecDepth 100000
set_option linter.unusedVariables false

theorem strs_oneCell (ys : List ByteArray) : ∀ u ∈ ys.map Value.string, u.oneCell' = true := by
  intro u hu
  obtain ⟨s, _, rfl⟩ := List.mem_map.1 hu
  rfl

/-- A slice of bytes that can be read: xs. -/
def RdS (w : World) (v : Value) (xs : List ByteArray) : Prop :=
  ∃ ao n c, v = .slice ao n c ∧ n = xs.length ∧ n ≤ c ∧ c ≤ maxLen ∧ (ao = none → c = 0) ∧ ∀ x, ao = some x → ∀ j u, xs[j]? = some u → w.cell? (x.add j) = some (.string u)

theorem RdS.keep {w w' : World} {v : Value} {xs : List ByteArray} (h : RdS w v xs) (hk : ∀ k, v.ownBlock = some k → k < w.heap.size → w'.heap[k]? = w.heap[k]?) : RdS w' v xs := by
  obtain ⟨ao, n, c, rfl, hn, hc, hmx, h0, hx⟩ := h
  refine ⟨ao, n, c, rfl, hn, hc, hmx, h0, fun x e j u hj => ?_⟩
  subst e
  have h1 := hx x rfl j u hj
  have hb : (x.add j).block = x.block := by unfold Addr.add; split <;> rfl
  rw [← h1]
  apply World.cell?_of_block
  rw [hb]
  exact hk _ rfl (by have := World.block_lt_of_cell? w _ h1; rwa [hb] at this)

theorem RdS.nil (w : World) : RdS w (.slice none 0 0) [] := ⟨none, 0, 0, rfl, rfl, Nat.le_refl _, by decide, fun _ => rfl, fun _ h => by cases h⟩

/-- A slice of bytes in a row of our own, from a place of it on, with its spare room. -/
structure OwnS (w : World) (g off n cap : Nat) (xs : List ByteArray) : Prop where
  len : xs.length = n
  le : n ≤ cap
  mx : cap ≤ maxLen
  blk : ∃ cur : Array Value, w.heap[g]? = some (.cells cur 9 (0, 0)) ∧ off + cap ≤ cur.size ∧ (cur.toList.drop off).take n = xs.map (Value.string)

def OwnVS (w : World) (v : Value) (xs : List ByteArray) : Prop :=
  (v = .slice none 0 0 ∧ xs = []) ∨ ∃ g off n cap, v = .slice (some ⟨g, off, none⟩) n cap ∧ OwnS w g off n cap xs

theorem OwnS.lt {w : World} {g off n cap : Nat} {xs : List ByteArray} (h : OwnS w g off n cap xs) : g < w.heap.size := by
  obtain ⟨cur, hg, _⟩ := h.blk
  exact (Array.getElem?_eq_some_iff.1 hg).1

theorem OwnS.cell {w : World} {g off n cap : Nat} {xs : List ByteArray} (h : OwnS w g off n cap xs) : ∀ j u, xs[j]? = some u → w.cell? ⟨g, off + j, none⟩ = some (.string u) := by
  intro j u hj
  obtain ⟨cur, hg, hs, ht⟩ := h.blk
  have hlt := (List.getElem?_eq_some_iff.1 hj).1
  have e : ((cur.toList.drop off).take n)[j]? = (xs.map (Value.string))[j]? := by rw [ht]
  rw [List.getElem?_take, if_pos (by have := h.len; omega), List.getElem?_drop, List.getElem?_map, hj] at e
  rw [cell_of_row w g (off + j) cur 9 (0, 0) hg]
  simpa using e

theorem OwnS.rd {w : World} {g off n cap : Nat} {xs : List ByteArray} (h : OwnS w g off n cap xs) : RdS w (.slice (some ⟨g, off, none⟩) n cap) xs :=
  ⟨_, _, _, rfl, h.len.symm, h.le, h.mx, fun e => by (cases e), fun x e j u hj => by cases e; rw [Addr.add_lit]; exact h.cell j u hj⟩

theorem OwnVS.rd {w : World} {v : Value} {xs : List ByteArray} (h : OwnVS w v xs) : RdS w v xs := by
  rcases h with ⟨rfl, rfl⟩ | ⟨g, off, n, cap, rfl, h⟩
  · exact RdS.nil w
  · exact h.rd

theorem OwnVS.lt {w : World} {v : Value} {xs : List ByteArray} (h : OwnVS w v xs) : ∀ k, v.ownBlock = some k → k < w.heap.size := by
  intro k hk
  rcases h with ⟨rfl, rfl⟩ | ⟨g, off, n, cap, rfl, h⟩
  · simp [Value.ownBlock] at hk
  · simp [Value.ownBlock] at hk
    subst hk
    exact h.lt

theorem OwnS.keep {w w' : World} {g off n cap : Nat} {xs : List ByteArray} (h : OwnS w g off n cap xs) (hk : w'.heap[g]? = w.heap[g]?) : OwnS w' g off n cap xs :=
  ⟨h.len, h.le, h.mx, by rw [hk]; exact h.blk⟩

theorem OwnVS.keep {w w' : World} {v : Value} {xs : List ByteArray} (h : OwnVS w v xs) (hk : ∀ k, v.ownBlock = some k → w'.heap[k]? = w.heap[k]?) : OwnVS w' v xs := by
  rcases h with h | ⟨g, off, n, cap, rfl, h⟩
  · exact .inl h
  · exact .inr ⟨g, off, n, cap, rfl, h.keep (hk _ rfl)⟩

theorem Tryd.info9s : (Tryd.prog.info? 9).map (fun i => (i.zero, i.size, i.bytes)) = some (some (.string ⟨#[]⟩), 1, 16) := by kernel_rfl

theorem run_firstS (w : World) (v : Value) (xs : List ByteArray) (h : RdS w v xs) : (Builtin.firstCells 1 xs.length v).run Tryd.prog w = .ok (xs.map (Value.string)).toArray w := by
  obtain ⟨ao, n, c, rfl, hn, hc, hmx, h0, hx⟩ := h
  cases ao with
  | none =>
    have : xs = [] := List.eq_nil_of_length_eq_zero (by have := h0 rfl; omega)
    subst this
    simp [Builtin.firstCells]
  | some x =>
    have := run_loadCells_list (P := Tryd.prog) w x (xs.map (Value.string)) (fun j v hj => by
      rw [List.getElem?_map] at hj
      cases hu : xs[j]? with
      | none => rw [hu] at hj; cases hj
      | some u => rw [hu] at hj; cases hj; exact hx x rfl j u hu)
    simpa [Builtin.firstCells] using this

theorem RdS.drew {w : World} {v : Value} {xs : List ByteArray} (h : RdS w v xs) : RdS w.drew v xs := h.keep (fun _ _ _ => rfl)

/-- append that must grow, of whatever can be read: a new row. -/
theorem run_growS (ty : TypeId) (w : World) (ao : Option Addr) (c : Nat) (s : Value) (xs ys : List ByteArray) (hv : RdS w (.slice ao xs.length c) xs) (hs : RdS w s ys) (hb : (xs.length + ys.length) * 16 ≤ 140737488355328)
    (hr : ¬ xs.length + ys.length ≤ c) :
    ∃ v' w', (Builtin.append_ #[43, 43] ty #[.slice ao xs.length c, s]).run Tryd.prog w = .ok v' w' ∧ OwnVS w' v' (xs ++ ys) ∧ Chg Non w w' ∧ v'.ownBlock = some w.heap.size := by
  obtain ⟨i, hi, hz, hsz, hby⟩ := info_parts Tryd.info9s
  have ht := Tryd.underlying43
  have hfsd := run_firstS w.drew s ys hs.drew
  have hfv := run_firstS w.drew _ xs hv.drew
  obtain ⟨so, m, sc, rfl, hm, hmc, hsm, hs0, hsx⟩ := hs
  subst hm
  have hge := grownCap_ge w (xs.length + ys.length) c 9
  have hcm : grownCap w (xs.length + ys.length) c 9 ≤ maxLen := grownCap_le_maxLen w (xs.length + ys.length) c 9 (by unfold maxLen; omega)
  have hfit := growslice_fits (bytes := 16) (show c < xs.length + ys.length by omega) (by simpa using hb)
  rw [← hby] at hfit
  have h63' : ¬ (9223372036854775807 < ((xs.length : Int) + (ys.length : Int))) := by omega
  have h48' : ¬ (281474976710656 < Builtin.nextslicecap (xs.length + ys.length) c * i.bytes) := by omega
  refine ⟨.slice (some ⟨w.heap.size, 0, none⟩) (xs.length + ys.length) (grownCap w (xs.length + ys.length) c 9),
    w.drew.alloc (.cells (((xs ++ ys).map (Value.string)).toArray ++ Builtin.zeroCells (Value.string ⟨#[]⟩).cells (grownCap w (xs.length + ys.length) c 9 - (xs.length + ys.length))) 9), ?_,
    .inr ⟨w.heap.size, 0, _, _, rfl, ⟨by simp, hge, hcm, _, heap_alloc_new w.drew _, ?_, ?_⟩⟩, ⟨rfl, rfl, rfl, by simp, fun k hk _ => Below.heap_alloc w.drew _ k hk⟩, rfl⟩
  · simp [Builtin.append_, run_underlying ht, sizeOf, typeInfo, zeroValue, hi, hz, hsz, Builtin.lenOf, hr, h63', h48', Question.forced, hfsd, hfv, newRow, grownCap]
    congr 2
    apply Array.ext'
    simp
  · simp [size_zeroCells, Value.cells]; omega
  · simp only [List.drop_zero, Array.toList_append]
    rw [List.take_append_of_le_length (by simp), List.take_of_length_le (by simp)]

/-- append of nothing. -/
theorem run_nothingS (ty : TypeId) (w : World) (v s : Value) (xs : List ByteArray) (hv : RdS w v xs) (hs : RdS w s []) :
    (Builtin.append_ #[43, 43] ty #[v, s]).run Tryd.prog w = .ok v w := by
  obtain ⟨i, hi, hz, hsz, hby⟩ := info_parts Tryd.info9s
  have ht := Tryd.underlying43
  have hfs := run_firstS w s [] hs
  obtain ⟨so, m, sc, rfl, hm, hmc, hsm, hs0, hsx⟩ := hs
  subst hm
  obtain ⟨ao, n, c, rfl, hn, hnc, hvm, hv0, hvx⟩ := hv
  simp only [List.length_nil] at hfs
  cases ao <;> simp [Builtin.append_, run_underlying ht, sizeOf, typeInfo, hi, Builtin.lenOf, hsz, hfs, hnc, storeCells]

/-- append where there is room. -/
theorem run_roomS (ty : TypeId) (w : World) (g off n cap : Nat) (s : Value) (xs ys : List ByteArray) (h : OwnS w g off n cap xs) (hs : RdS w s ys) (hr : n + ys.length ≤ cap) :
    ∃ w', (Builtin.append_ #[43, 43] ty #[.slice (some ⟨g, off, none⟩) n cap, s]).run Tryd.prog w = .ok (.slice (some ⟨g, off, none⟩) (n + ys.length) cap) w' ∧ OwnS w' g off (n + ys.length) cap (xs ++ ys) ∧ Chg (One g) w w' := by
  obtain ⟨i, hi, hz, hsz, hby⟩ := info_parts Tryd.info9s
  have ht := Tryd.underlying43
  have hfs := run_firstS w s ys hs
  obtain ⟨so, m, sc, rfl, hm, hmc, hsm, hs0, hsx⟩ := hs
  subst hm
  have hlen := h.len
  subst hlen
  obtain ⟨cur, hg, hsz', htk⟩ := h.blk
  have hst := run_storeCells_at Tryd.prog g (off + xs.length) 9 (ys.map (Value.string)) 0 cur w hg (by simp; omega) (strs_oneCell _)
  simp only [Nat.add_zero] at hst
  refine ⟨w.setRow g (cur.toList.take (off + xs.length) ++ ys.map (Value.string) ++ cur.toList.drop (off + xs.length + (ys.map (Value.string)).length)).toArray, ?_, ⟨by simp, hr, h.mx, _, setRow_heap w g cur _ 9 _ hg, ?_, ?_⟩, ⟨rfl, rfl, rfl, by simp [World.setRow], fun k _ hk => setRow_other w g k _ hk⟩⟩
  · simp [Builtin.append_, run_underlying ht, sizeOf, typeInfo, hi, Builtin.lenOf, hsz, hfs, hr, Addr.add_lit, hst]
  · simp; omega
  · have hd : (cur.toList.take (off + xs.length)).drop off = xs.map (Value.string) := by
      rw [List.drop_take]
      simpa using htk
    rw [List.append_assoc, List.drop_append_of_le_length (by simp; omega), hd, ← List.append_assoc, ← List.map_append]
    rw [List.take_append_of_le_length (by simp), List.take_of_length_le (by simp)]

/-- append, onto a row of our own, of whatever can be read. -/
theorem run_appS (ty : TypeId) (w : World) (v s : Value) (xs ys : List ByteArray) (hv : OwnVS w v xs) (hs : RdS w s ys) (hb : (xs.length + ys.length) * 16 ≤ 140737488355328) :
    ∃ v' w', (Builtin.append_ #[43, 43] ty #[v, s]).run Tryd.prog w = .ok v' w' ∧ OwnVS w' v' (xs ++ ys) ∧ Chg (fun k => v.ownBlock = some k) w w' ∧
      (v'.ownBlock = v.ownBlock ∨ v'.ownBlock = some w.heap.size) := by
  have hvr := hv.rd
  obtain ⟨ao, n, c, rfl, hn, hnc, hvm, hv0, hvx⟩ := hv.rd
  subst hn
  by_cases hr : xs.length + ys.length ≤ c
  · rcases hv with ⟨e, rfl⟩ | ⟨g, off, n, cap, e, h⟩
    · cases e
      have : ys = [] := List.eq_nil_of_length_eq_zero (by simpa using hr)
      subst this
      exact ⟨.slice none 0 0, w, run_nothingS ty w _ s [] hvr hs, .inl ⟨rfl, rfl⟩, Chg.refl _ _, .inl rfl⟩
    · cases e
      obtain ⟨w', h1, h2, h3⟩ := run_roomS ty w g off xs.length c s xs ys h hs hr
      exact ⟨_, w', h1, .inr ⟨g, off, _, c, rfl, h2⟩, h3.mono (fun k _ e => by cases e; rfl), .inl rfl⟩
  · obtain ⟨v', w', h1, h2, h3, h4⟩ := run_growS ty w ao c s xs ys hvr hs hb hr
    exact ⟨v', w', h1, h2, h3.non _, .inr h4⟩

theorem wpList_appS (w : World) {ops : Array Oper} {rest : List Oper} {o : Oper} {a : Act} {Q : Exit → Act → World → Prop}
    (hg : o.guard = none) (s x : Operand) (hop : o.op = Op.call { callee := Callee.builtin Builtin.append, args := #[s, x], argTypes := #[43, 43] })
    (v sv : Value) (xs ys : List ByteArray) (hs : a.eval s = v) (hx : a.eval x = sv) (hv : OwnVS w v xs) (hr : RdS w sv ys) (hb : (xs.length + ys.length) * 16 ≤ 140737488355328)
    (hK : ∀ v' w', OwnVS w' v' (xs ++ ys) → Chg (fun k => v.ownBlock = some k) w w' → (v'.ownBlock = v.ownBlock ∨ v'.ownBlock = some w.heap.size) → wpList Tryd.prog ops Q rest (a.put o.dst v') w') :
    wpList Tryd.prog ops Q (o :: rest) a w := by
  refine wpList_plain hg fun K hK' => ?_
  obtain ⟨v', w', hrun, r1, r2, r3⟩ := run_appS o.type w v sv xs ys hv hr hb
  unfold Oper.wp
  simp [execOp, hop, resolve, invoke, builtin, hs, hx, hrun, Result.andThen]
  exact hK' _ _ (hK v' w' r1 r2 r3)

theorem wpList_roomS (w : World) {ops : Array Oper} {rest : List Oper} {o : Oper} {a : Act} {Q : Exit → Act → World → Prop}
    (hg : o.guard = none) (s x : Operand) (hop : o.op = Op.call { callee := Callee.builtin Builtin.append, args := #[s, x], argTypes := #[43, 43] })
    (g off n cap : Nat) (sv : Value) (xs ys : List ByteArray) (hs : a.eval s = .slice (some ⟨g, off, none⟩) n cap) (hx : a.eval x = sv) (hv : OwnS w g off n cap xs) (hr : RdS w sv ys) (m : Nat) (hm : m = ys.length) (hb : n + m ≤ cap)
    (hK : ∀ w', OwnS w' g off (n + m) cap (xs ++ ys) → Chg (One g) w w' → wpList Tryd.prog ops Q rest (a.put o.dst (.slice (some ⟨g, off, none⟩) (n + m) cap)) w') :
    wpList Tryd.prog ops Q (o :: rest) a w := by
  refine wpList_plain hg fun K hK' => ?_
  subst hm
  obtain ⟨w', hrun, r1, r2⟩ := run_roomS o.type w g off n cap sv xs ys hv hr hb
  unfold Oper.wp
  simp [execOp, hop, resolve, invoke, builtin, hs, hx, hrun, Result.andThen]
  exact hK' _ _ (hK w' r1 r2)

end Go.Proofs.YtlhcadfcgibkdaaDoor
