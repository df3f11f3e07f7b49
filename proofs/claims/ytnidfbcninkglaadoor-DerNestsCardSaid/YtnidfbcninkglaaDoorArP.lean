/-
  A list of slices of bytes among the arguments, opened.
-/
import Derived.Test.YtnidfbcninkglaaDoorArg
import Derived.Test.YtnidfbcninkglaaDoorPu
import Derived.Deep.Slices
namespace Go.Proofs.YtnidfbcninkglaaDoor
open Go.ChangeShapes Go.WideShapes Go.ChangeAt Go.RowKit Go.Deep
set_option linter.unusedVariables false
set_option maxRecDepth 100000

theorem cells22 : Tryd.prog.cellsOf 22 = 1 := by kernel_rfl
theorem bytes22 : Tryd.prog.bytesOf 22 = 24 := by kernel_rfl
theorem weightsAll_mem {H : Type} {P : Program} {e : TypeId} : ∀ {l : List (DataW H)} {d : DataW H}, d ∈ l → ∀ n ∈ d.weights P e, n ∈ DataW.weightsAll P e l
  | x :: r, d, hd, n, hn => by
    rw [DataW.weightsAll, List.mem_append]
    rcases List.mem_cons.1 hd with rfl | hd
    · exact .inl hn
    · exact .inr (weightsAll_mem hd n hn)
  | [], d, hd, n, hn => by cases hd

theorem open_parts {H : Type} {enc : TypeId × Value → H} {W : World} {fuel : Nat} {ad : Option Addr} {len cap : Nat} {x : DataW H × List MemPlace} (h : DataW.trod enc Tryd.prog W 0 (fun _ => true) true fuel 51 [.slice ad len cap] = some x) :
    (ad = none ∧ len = 0 ∧ cap = 0) ∨ ∃ (D : Nat → DataW H), len ≤ cap ∧ cap ≤ maxLen ∧ x.1 = .slice ((List.range len).map D) ((List.range (cap - len)).map fun j => D (len + j)) ∧
      ∀ i, i < len → ∃ ys : List Int, (∃ b off so sn sc, ad = some ⟨b, off, none⟩ ∧ W.cell? ⟨b, off + i, none⟩ = some (.slice so sn sc) ∧ Rd W (.slice so sn sc) ys ∧ ∀ y ∈ ys, 0 ≤ y ∧ y < 256) ∧ (ys = [] ∨ ∃ n, n ∈ (D i).weights Tryd.prog 22 ∧ ys.length ≤ n) := by
  rcases open_slice Tryd.underlying51 h with ⟨h0, rfl⟩ | ⟨a, len', cap', m, n, D, Pl, e, hb, hl, hm, hmm, rfl, hx⟩
  · simp at h0
    exact .inl ⟨h0.1, h0.2.1, h0.2.2⟩
  · simp at e
    obtain ⟨rfl, rfl, rfl⟩ := e
    right
    simp only [if_true] at hmm
    subst hmm
    refine ⟨D, hl, hm, rfl, fun i hi => ?_⟩
    obtain ⟨b, off, spot⟩ := a
    have hspot : spot = none := by
      obtain ⟨cs0, h1, _⟩ := hx 0 (by omega)
      rw [cells22] at h1
      obtain ⟨_, hlen, hcell⟩ := World.cells?_some h1
      have e0 := hcell 0 (by omega)
      have e1 : cs0[0]? = some (cs0[0]'(by omega)) := List.getElem?_eq_getElem (by omega)
      rw [e1] at e0
      have := World.cell?_spot e0
      simpa [Addr.add] using this
    subst hspot
    obtain ⟨cs', h1, h2⟩ := hx i (by omega)
    rw [cells22] at h1
    obtain ⟨_, hlen, hcell⟩ := World.cells?_some h1
    have e0 := hcell 0 (by omega)
    rw [add_add, add_plain] at e0
    rcases open_ints Tryd.underlying22 Tryd.underlying5 cells5 h2 with ⟨rfl, hy⟩ | ⟨xa, l, c, zs, rfl, _, hl3, hm3, hz3, hy, hcell3, hwz⟩
    · refine ⟨[], ⟨b, off, none, 0, 0, rfl, ?_, Rd.nil W, (fun y hy => absurd hy (by simp))⟩, .inl rfl⟩
      simpa using e0
    · simp only [if_true] at hz3
      refine ⟨zs.take l, ⟨b, off, some xa, l, c, rfl, ?_, ⟨_, _, _, rfl, by simp; omega, hl3, hm3, (fun e => absurd e (by simp)), fun y e j u hj => ?_⟩, fun y hy => ?_⟩, ?_⟩
      · simpa using e0
      · injection e with e
        subst e
        rw [List.getElem?_take] at hj
        split at hj
        · rw [hcell3 j (by omega)]
          simp [List.getD, hj]
        · cases hj
      · have := hwz y (List.mem_of_mem_take hy)
        simp only [Lit.wf, Bool.and_eq_true, decide_eq_true_eq] at this
        have h0 : IntKind.u8.min = 0 := rfl
        have h1 : IntKind.u8.max = 255 := rfl
        omega
      · have hD : D i = .slice (lits .u8 (zs.take l)) (lits .u8 (zs.drop l)) := congrArg Prod.fst hy
        right
        rw [hD]
        refine ⟨((lits (H := H) .u8 (zs.take l)).length + (lits (H := H) .u8 (zs.drop l)).length) * Tryd.prog.bytesOf 5, by simp [DataW.weights, Tryd.underlying22], ?_⟩
        rw [bytes5]
        simp only [lits, List.length_map]
        omega

theorem parts_rd {H : Type} {enc : TypeId × Value → H} {W : World} {ts : List TypeId} {ds : List (DataW H)} (hsz : (DataW.weightsEach Tryd.prog ts ds).all (· ≤ reachBytes) = true) {j : Nat} (hj : ts[j]? = some 51) {d : DataW H} (hd : ds[j]? = some d)
    {ad : Option Addr} {len cap : Nat} {ps : List MemPlace} (h : DataW.Trod enc Tryd.prog W 0 (fun _ => true) true 51 (.slice ad len cap) d ps) :
    ∃ xss : List (List Int), PtR W (.slice ad len cap) xss ∧ (∀ xs ∈ xss, ∀ x ∈ xs, 0 ≤ x ∧ x < 256) ∧ xss.length ≤ 140737488355328 ∧ ∀ xs ∈ xss, xs.length ≤ 140737488355328 := by
  obtain ⟨fuel, hf⟩ := h
  rcases open_parts (by simpa [Value.cells] using hf) with ⟨rfl, rfl, rfl⟩ | ⟨D, hl, hm, hx, hrow⟩
  · exact ⟨[], ⟨_, _, _, rfl, rfl, Nat.le_refl _, by decide, fun e => absurd rfl e⟩, (fun xs hx => absurd hx (by simp)), by simp, (fun xs hx => absurd hx (by simp))⟩
  · have hd' : d = .slice ((List.range len).map D) ((List.range (cap - len)).map fun j => D (len + j)) := hx
    subst hd'
    have hre := sized_slice hsz (j := j) (t := 51) (e := 22) hj hd Tryd.underlying51
    rw [bytes22] at hre
    simp only [List.length_map, List.length_range, reachBytes] at hre
    have hin : ∀ i, i < len → ∀ n ∈ (D i).weights Tryd.prog 22, n ≤ 140737488351232 := fun i hi n hn => by
      have := List.all_eq_true.1 hsz _ (DataW.weights_mem_each hj hd n (by
        simp only [DataW.weights, Tryd.underlying51, List.mem_cons, List.mem_append]
        exact .inr (.inl (weightsAll_mem (List.mem_map.2 ⟨i, List.mem_range.2 hi, rfl⟩) n hn))))
      have h2 := of_decide_eq_true this
      unfold reachBytes at h2
      omega
    obtain ⟨Y, hY⟩ := Go.Deep.choose_lt hrow
    refine ⟨(List.range len).map Y, ⟨_, _, _, rfl, by simp, hl, by simpa [maxLen] using hm, fun hne => ?_⟩, fun xs hxs x hx => ?_, by simp; omega, fun xs hxs => ?_⟩
    · have h0 : 0 < len := by
        rcases Nat.eq_zero_or_pos len with h | h
        · subst h; exact absurd rfl hne
        · exact h
      obtain ⟨b, off, so, sn, sc, ha, _⟩ := (hY 0 h0).1
      refine ⟨b, off, ha, fun j xs hj => ?_⟩
      have hjl : j < len := by
        rcases Nat.lt_or_ge j len with h' | h'
        · exact h'
        · rw [List.getElem?_eq_none (by simpa using h')] at hj
          cases hj
      rw [List.getElem?_map, List.getElem?_range hjl] at hj
      simp only [Option.map_some, Option.some.injEq] at hj
      obtain ⟨b', off', so', sn', sc', ha', hc', hr', _⟩ := (hY j hjl).1
      rw [ha] at ha'
      injection ha' with ha'
      injection ha' with e1 e2 _
      subst e1 e2
      exact ⟨_, hc', by rw [← hj]; exact hr'⟩
    · obtain ⟨i, hi, rfl⟩ := List.mem_map.1 hxs
      obtain ⟨b, off, so, sn, sc, _, _, _, hr⟩ := (hY i (List.mem_range.1 hi)).1
      exact hr x hx
    · obtain ⟨i, hi, rfl⟩ := List.mem_map.1 hxs
      rcases (hY i (List.mem_range.1 hi)).2 with e | ⟨n, hn, hle⟩
      · rw [e]; simp
      · have := hin i (List.mem_range.1 hi) n hn
        omega
end Go.Proofs.YtnidfbcninkglaaDoor
