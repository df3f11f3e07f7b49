/-
  A list of slices of bytes among the arguments, opened; what the bound gives.
-/
import Derived.Test.YtijpdhjlafihkaaDoorTj15
import Derived.Test.YtijpdhjlafihkaaDoorTj23
import Derived.Deep.Slices
namespace Go.Proofs.YtijpdhjlafihkaaDoor
open Go.ChangeShapes Go.WideShapes Go.ChangeAt Go.RowKit Go.Deep
set_option linter.unusedVariables false
set_option maxRecDepth 100000

theorem cells23 : Tryd.prog.cellsOf 23 = 1 := by kernel_rfl
theorem bulk_append {H : Type} (l r : List (DataW H)) : Rows.uptoBulkAll (l ++ r) = Rows.uptoBulkAll l + Rows.uptoBulkAll r := by
  induction l with
  | nil => simp [Rows.uptoBulkAll]
  | cons x l ih => simp only [List.cons_append, Rows.uptoBulkAll, ih]; omega
theorem bulk_one {H : Type} (d : DataW H) : 1 ≤ Rows.uptoBulk d := by
  cases d with
  | lit l => cases l <;> simp [Rows.uptoBulk]
  | nil => simp [Rows.uptoBulk]
  | ptr d => simp [Rows.uptoBulk]
  | slice elems spare => simp [Rows.uptoBulk]
  | agg parts => simp [Rows.uptoBulk]
  | iface t d => simp [Rows.uptoBulk]
  | map entries => simp [Rows.uptoBulk]
  | held h => simp [Rows.uptoBulk]
theorem bulk_len {H : Type} (l : List (DataW H)) : l.length ≤ Rows.uptoBulkAll l := by
  induction l with
  | nil => simp [Rows.uptoBulkAll]
  | cons x r ih => have := bulk_one x; simp only [Rows.uptoBulkAll, List.length_cons]; omega
/-- The bytes of all parts together are no more than the list's bulk. -/
theorem bulk_parts {H : Type} (D : Nat → DataW H) (Y : Nat → List Int) : ∀ (len : Nat), (∀ i, i < len → (Y i).length + 1 ≤ Rows.uptoBulk (D i)) → ((List.range len).map Y).flatten.length + len ≤ Rows.uptoBulkAll ((List.range len).map D)
  | 0, _ => by simp [Rows.uptoBulkAll]
  | len + 1, h => by
    have ih := bulk_parts D Y len (fun i hi => h i (by omega))
    have hl := h len (by omega)
    rw [List.range_succ, List.map_append, List.map_append, bulk_append, List.flatten_append, List.length_append]
    simp only [List.map_cons, List.map_nil, Rows.uptoBulkAll, List.flatten_cons, List.flatten_nil, List.append_nil]
    omega

theorem open_parts {H : Type} {enc : TypeId × Value → H} {W : World} {fuel : Nat} {ad : Option Addr} {len cap : Nat} {x : DataW H × List MemPlace} (h : DataW.trod enc Tryd.prog W 0 (fun _ => true) true fuel 30 [.slice ad len cap] = some x) :
    (ad = none ∧ len = 0 ∧ cap = 0) ∨ ∃ (D : Nat → DataW H), (∃ a, ad = some a) ∧ len ≤ cap ∧ cap ≤ maxLen ∧ x.1 = .slice ((List.range len).map D) ((List.range (cap - len)).map fun j => D (len + j)) ∧
      ∀ i, i < len → ∃ ys : List Int, (∃ b off so sn sc, ad = some ⟨b, off, none⟩ ∧ W.cell? ⟨b, off + i, none⟩ = some (.slice so sn sc) ∧ Ap.Rd W (.slice so sn sc) ys ∧ ∀ y ∈ ys, 0 ≤ y ∧ y < 256) ∧ ys.length + 1 ≤ Rows.uptoBulk (D i) := by
  rcases open_slice Tryd.underlying30 h with ⟨h0, rfl⟩ | ⟨a, len', cap', m, n, D, Pl, e, hb, hl, hm, hmm, rfl, hx⟩
  · simp at h0
    exact .inl ⟨h0.1, h0.2.1, h0.2.2⟩
  · simp at e
    obtain ⟨rfl, rfl, rfl⟩ := e
    right
    simp only [if_true] at hmm
    subst hmm
    refine ⟨D, ⟨_, rfl⟩, hl, hm, rfl, fun i hi => ?_⟩
    obtain ⟨b, off, spot⟩ := a
    have hspot : spot = none := by
      obtain ⟨cs0, h1, _⟩ := hx 0 (by omega)
      rw [cells23] at h1
      obtain ⟨_, hlen, hcell⟩ := World.cells?_some h1
      have e0 := hcell 0 (by omega)
      have e1 : cs0[0]? = some (cs0[0]'(by omega)) := List.getElem?_eq_getElem (by omega)
      rw [e1] at e0
      have := World.cell?_spot e0
      simpa [Addr.add] using this
    subst hspot
    obtain ⟨cs', h1, h2⟩ := hx i (by omega)
    rw [cells23] at h1
    obtain ⟨_, hlen, hcell⟩ := World.cells?_some h1
    have e0 := hcell 0 (by omega)
    rw [add_add, add_plain] at e0
    rcases open_ints Tryd.underlying23 Tryd.underlying5 cells5 h2 with ⟨rfl, hy⟩ | ⟨xa, l, c, zs, rfl, _, hl3, hm3, hz3, hy, hcell3, hwz⟩
    · refine ⟨[], ⟨b, off, none, 0, 0, rfl, ?_, Ap.Rd.nil W, (fun y hy => absurd hy (by simp))⟩, ?_⟩
      · simpa using e0
      · have := bulk_one (D i)
        simpa using this
    · simp only [if_true] at hz3
      refine ⟨zs.take l, ⟨b, off, some xa, l, c, rfl, ?_, ⟨_, _, _, rfl, by simp; omega, hl3, hm3, (fun e => absurd e (by simp)), fun y e j u hj => ?_⟩, fun y hy => ?_⟩, ?_⟩
      · simpa using e0
      · injection e with e
        subst e
        rw [List.getElem?_take] at hj
        split at hj
        · rw [hcell3 j (by omega)]
          simp [List.getD, hj]
        · cases hj
      · have := hwz y (List.mem_of_mem_take hy)
        simp only [Lit.wf, Bool.and_eq_true, decide_eq_true_eq] at this
        have h0 : IntKind.u8.min = 0 := rfl
        have h1 : IntKind.u8.max = 255 := rfl
        omega
      · have hD : D i = .slice (lits .u8 (zs.take l)) (lits .u8 (zs.drop l)) := congrArg Prod.fst hy
        rw [hD]
        have h1 := bulk_len (lits (H := H) .u8 (zs.take l))
        simp only [Rows.uptoBulk]
        simp only [lits, List.length_map] at h1
        simp only [lits]
        omega

/-- A list of parts that came in: it can be read, its parts too, and together they are no more than its bulk. -/
theorem parts_in {H : Type} {enc : TypeId × Value → H} {W : World} {ad : Option Addr} {len cap : Nat} {d : DataW H} {ps : List MemPlace} (h : DataW.Trod enc Tryd.prog W 0 (fun _ => true) true 30 (.slice ad len cap) d ps) (hb : Rows.uptoBulk d ≤ 1048576) :
    ∃ xss : List (List Int), PtR W (.slice ad len cap) xss ∧ (∀ xs ∈ xss, ∀ x ∈ xs, 0 ≤ x ∧ x < 256) ∧ xss.flatten.length ≤ 1048576 ∧ xss.length ≤ 1048576 := by
  obtain ⟨fuel, hf⟩ := h
  rcases open_parts (by simpa [Value.cells] using hf) with ⟨rfl, rfl, rfl⟩ | ⟨D, hsome, hl, hm, hx, hrow⟩
  · exact ⟨[], .inl ⟨rfl, rfl⟩, (fun xs hx => absurd hx (by simp)), by simp, by simp⟩
  · have hd : d = .slice ((List.range len).map D) ((List.range (cap - len)).map fun j => D (len + j)) := hx
    subst hd
    obtain ⟨Y, hY⟩ := Go.Deep.choose_lt hrow
    have ht := bulk_parts D Y len (fun i hi => (hY i hi).2)
    simp only [Rows.uptoBulk] at hb
    refine ⟨(List.range len).map Y, ?_, fun xs hxs x hx => ?_, by omega, by simp; omega⟩
    · by_cases h0 : len = 0
      · subst h0
        obtain ⟨a, rfl⟩ := hsome
        exact .inr (.inl ⟨a, cap, rfl, rfl⟩)
      · obtain ⟨b, off, so, sn, sc, ha, _⟩ := (hY 0 (by omega)).1
        refine .inr (.inr ⟨b, off, cap, by rw [ha]; simp, by simp; omega, fun j xs hj => ?_⟩)
        have hjl : j < len := by
          rcases Nat.lt_or_ge j len with h' | h'
          · exact h'
          · rw [List.getElem?_eq_none (by simpa using h')] at hj
            cases hj
        rw [List.getElem?_map, List.getElem?_range hjl] at hj
        simp only [Option.map_some, Option.some.injEq] at hj
        obtain ⟨b', off', so', sn', sc', ha', hc', hr', _⟩ := (hY j hjl).1
        rw [ha] at ha'
        injection ha' with ha'
        injection ha' with e1 e2 _
        subst e1 e2
        exact ⟨_, hc', by rw [← hj]; exact hr'⟩
    · obtain ⟨i, hi, rfl⟩ := List.mem_map.1 hxs
      obtain ⟨b, off, so, sn, sc, _, _, _, hr⟩ := (hY i (List.mem_range.1 hi)).1
      exact hr x hx
/-- A slice of bytes that came in, no longer than its bulk. -/
theorem bytes_up {H : Type} {enc : TypeId × Value → H} {W : World} {d : DataW H} {a : Option Addr} {len cap : Nat} {ps : List MemPlace} (h : DataW.Trod enc Tryd.prog W 0 (fun _ => true) true 23 (.slice a len cap) d ps) (hb : Rows.uptoBulk d ≤ 1048576) : ∃ xs, Ap.Rd W (.slice a len cap) xs ∧ (∀ x ∈ xs, 0 ≤ x ∧ x < 256) ∧ xs.length ≤ 1048576 := by
  obtain ⟨fuel, hf⟩ := h
  rcases open_ints Tryd.underlying23 Tryd.underlying5 cells5 hf with ⟨hcs, _⟩ | ⟨x, l, c, zs, hcs, _, hl, hm, hz, hx, hcell, hwz⟩
  · simp [Value.cells] at hcs
    obtain ⟨rfl, rfl, rfl⟩ := hcs
    exact ⟨[], Ap.Rd.nil W, (fun x hx => absurd hx (by simp)), by simp⟩
  · simp [Value.cells] at hcs
    obtain ⟨rfl, rfl, rfl⟩ := hcs
    have hz' : zs.length = cap := by simpa using hz
    simp only [Prod.mk.injEq] at hx
    have hd' : d = .slice (lits .u8 (zs.take len)) (lits .u8 (zs.drop len)) := hx.1
    subst hd'
    have hlen : (zs.take len).length = len := by rw [List.length_take]; omega
    have h1 := bulk_len (lits (H := H) .u8 (zs.take len))
    simp only [Rows.uptoBulk] at hb
    simp only [lits, List.length_map] at h1 hb
    refine ⟨zs.take len, ⟨_, _, _, rfl, hlen.symm, hl, hm, (fun e => absurd e (by simp)), fun y e k u hk => ?_⟩, fun y hy => ?_, by omega⟩
    · injection e with e
      subst e
      rw [List.getElem?_take] at hk
      split at hk
      · have hkl : k < zs.length := by
          rcases Nat.lt_or_ge k zs.length with h | h
          · exact h
          · rw [List.getElem?_eq_none h] at hk
            cases hk
        rw [hcell k hkl, List.getD_eq_getElem?_getD, hk]
        rfl
      · cases hk
    · have := hwz y (List.mem_of_mem_take hy)
      simp only [Lit.wf, Bool.and_eq_true, decide_eq_true_eq] at this
      have h0 : IntKind.u8.min = 0 := rfl
      have h1 : IntKind.u8.max = 255 := rfl
      omega
end Go.Proofs.YtijpdhjlafihkaaDoor
