/-
  A slice of bytes among the arguments can be read, and its bytes are bytes.
-/
import Derived.Test.YtijpdhjlafihkaaDoorTj13
import Derived.Test.YtijpdhjlafihkaaDoorTj14
import Derived.Test.YtijpdhjlafihkaaDoorTj12
namespace Go.Proofs.YtijpdhjlafihkaaDoor
open Go.ChangeShapes Go.WideShapes Go.ChangeAt Go.RowKit
set_option linter.unusedVariables false
set_option maxRecDepth 100000

theorem bytes_rd {H : Type} {enc : TypeId × Value → H} {W : World} {ts : List TypeId} {ds : List (DataW H)} (hsz : (DataW.weightsEach Tryd.prog ts ds).all (· ≤ reachBytes) = true) {j : Nat} (hj : ts[j]? = some 23) {d : DataW H} (hd : ds[j]? = some d)
    {a : Option Addr} {len cap : Nat} {ps : List MemPlace} (h : DataW.Trod enc Tryd.prog W 0 (fun _ => true) true 23 (.slice a len cap) d ps) : ∃ xs, Ap.Rd W (.slice a len cap) xs ∧ (∀ x ∈ xs, 0 ≤ x ∧ x < 256) ∧ xs.length ≤ 140737488351232 := by
  obtain ⟨fuel, hf⟩ := h
  rcases open_ints Tryd.underlying23 Tryd.underlying5 cells5 hf with ⟨hcs, _⟩ | ⟨x, l, c, zs, hcs, _, hl, hm, hz, hx, hcell, hwz⟩
  · simp [Value.cells] at hcs
    obtain ⟨rfl, rfl, rfl⟩ := hcs
    exact ⟨[], Ap.Rd.nil W, (fun x hx => absurd hx (by simp)), by simp⟩
  · simp [Value.cells] at hcs
    obtain ⟨rfl, rfl, rfl⟩ := hcs
    have hz' : zs.length = cap := by simpa using hz
    simp only [Prod.mk.injEq] at hx
    have hd' : d = .slice (lits .u8 (zs.take len)) (lits .u8 (zs.drop len)) := hx.1
    subst hd'
    have hre := sized_slice hsz (j := j) (t := 23) (e := 5) hj hd Tryd.underlying23
    rw [bytes5] at hre
    simp only [lits, List.length_map, List.length_take, List.length_drop, reachBytes] at hre
    have hlen : (zs.take len).length = len := by rw [List.length_take]; omega
    refine ⟨zs.take len, ⟨_, _, _, rfl, hlen.symm, hl, hm, (fun e => absurd e (by simp)), fun y e k u hk => ?_⟩, fun y hy => ?_, by omega⟩
    · injection e with e
      subst e
      rw [List.getElem?_take] at hk
      split at hk
      · have hkl : k < zs.length := by
          rcases Nat.lt_or_ge k zs.length with h | h
          · exact h
          · rw [List.getElem?_eq_none h] at hk
            cases hk
        rw [hcell k hkl, List.getD_eq_getElem?_getD, hk]
        rfl
      · cases hk
    · have := hwz y (List.mem_of_mem_take hy)
      simp only [Lit.wf, Bool.and_eq_true, decide_eq_true_eq] at this
      have h0 : IntKind.u8.min = 0 := rfl
      have h1 : IntKind.u8.max = 255 := rfl
      omega
end Go.Proofs.YtijpdhjlafihkaaDoor
namespace Go.Proofs.YtijpdhjlafihkaaDoor
open Go.RowKit
set_option linter.unusedVariables false
set_option maxRecDepth 100000

theorem Chg.ap {w0 w w' : World} {S : Nat → Prop} (h : Chg w0 w) (k : Ap.Chg S w w') (hS : ∀ i, S i → w0.heap.size ≤ i) : Chg w0 w' :=
  ⟨k.os.trans h.os, k.tape.trans h.tape, k.output.trans h.output, Nat.le_trans h.size k.size, fun i hi =>
    (k.block i (Nat.lt_of_lt_of_le hi h.size) (fun e => by have := hS i e; omega)).trans (h.block i hi)⟩
theorem Ar.ap {w w' : World} {b : Nat} {c : Array Value} {S : Nat → Prop} (h : Ar w b c) (k : Ap.Chg S w w') (hn : ¬ S b) : Ar w' b c := by
  have hl := h.lt
  obtain ⟨t, h⟩ := h
  exact ⟨t, (k.block b hl hn).trans h⟩
theorem DgC.ap {w w' : World} {D : Nat} {h : Int} {all : List Int} {c : Int} {S : Nat → Prop} (k : DgC w D h all c) (hc : Ap.Chg S w w') (hn : ¬ S D) : DgC w' D h all c := by
  obtain ⟨rest, k1, k2⟩ := k
  exact ⟨rest, k1.ap hc hn, k2⟩
theorem Chg.non {w w' : World} (h : Ap.Chg Ap.Non w w') : Chg w w' := (Chg.refl w).ap h (fun i e => e.elim)

theorem spot_none {w : World} {a : Addr} {v : Value} (h : w.cell? a = some v) : a.spot = none := by
  unfold World.cell? at h
  cases hs : a.spot with
  | none => rfl
  | some s =>
    exfalso
    revert h
    split
    · simp [hs]
    · simp

theorem Rd.chg {w w' : World} {v : Value} {xs : List Int} (h : Ap.Rd w v xs) (k : Chg w w') : Ap.Rd w' v xs := h.keep (fun i _ hi => k.block i hi)
theorem OwnV.chg {w w' : World} {v : Value} {xs : List Int} (h : Ap.OwnV w v xs) (k : Chg w w') : Ap.OwnV w' v xs := h.keep (fun i e => k.block i (h.lt i e))
theorem OwnV.cb {D : Nat} {w w' : World} {v : Value} {xs : List Int} (h : Ap.OwnV w v xs) (k : Cb D w w') (hn : ∀ i, v.ownBlock = some i → i ≠ D) : Ap.OwnV w' v xs := h.keep (fun i e => k.block i (h.lt i e) (hn i e))

theorem Rd.slA {w : World} {v : Value} {xs : List Int} (h : Ap.Rd w v xs) (hl : xs.length < 4611686018427387904) : SlA w v xs := by
  obtain ⟨ao, n, c, rfl, hn, hc, hmx, h0, hx⟩ := h
  have hm : c ≤ 9223372036854775807 := by simpa [maxLen] using hmx
  cases ao with
  | none =>
    have hc0 := h0 rfl
    have hn0 : n = 0 := by omega
    subst hn0 hc0
    exact .inl ⟨rfl, List.eq_nil_of_length_eq_zero hn.symm⟩
  | some x =>
    cases xs with
    | nil =>
      subst hn
      exact .inr (.inl ⟨_, _, rfl, rfl⟩)
    | cons y ys =>
      have h1 := hx x rfl 0 y rfl
      have hs := spot_none h1
      have hs' : x.spot = none := by
        unfold Addr.add at hs
        split at hs
        · assumption
        · simp_all
      obtain ⟨b, o, sp⟩ := x
      dsimp only at hs'
      subst hs'
      subst hn
      refine .inr (.inr ⟨b, o, c, rfl, hc, ⟨by omega, hl⟩, fun j hj => ?_⟩)
      have hadd : (⟨b, o, none⟩ : Addr).add j = ⟨b, o + j, none⟩ := by unfold Addr.add; split <;> simp_all
      have := hx _ rfl j ((y :: ys)[j]'hj) (List.getElem?_eq_getElem hj)
      rw [hadd] at this
      rw [this]
      simp [gd, List.getD_eq_getElem?_getD, List.getElem?_eq_getElem hj]

/-- A row of bytes that may be written. -/
def BRow (w : World) (g off n : Nat) : Prop := ∃ cur, Ar w g cur ∧ ∀ k, k < n → ∃ x, cur[off + k]? = some (.int .u8 x)
theorem BRow.lt {w : World} {g off n : Nat} (h : BRow w g off n) : g < w.heap.size := by
  obtain ⟨cur, h1, _⟩ := h
  exact h1.lt
theorem BRow.cell {w : World} {g off n : Nat} (h : BRow w g off n) {k : Nat} (hk : k < n) : (∃ x, w.cell? ⟨g, off + k, none⟩ = some (.int .u8 x)) ∧ w.frozen? ⟨g, off + k, none⟩ = false := by
  obtain ⟨cur, h1, h2⟩ := h
  obtain ⟨x, hx⟩ := h2 k hk
  exact ⟨⟨x, (h1.cell _).trans hx⟩, h1.frozen _⟩
theorem BRow.set {w : World} {g off n : Nat} (h : BRow w g off n) (j : Nat) (y : Int) : BRow (w.setCell ⟨g, j, none⟩ (.int .u8 y)) g off n := by
  obtain ⟨cur, h1, h2⟩ := h
  refine ⟨_, h1.set j (.int .u8 y), fun k hk => ?_⟩
  obtain ⟨x, hx⟩ := h2 k hk
  by_cases e : j = off + k
  · subst e
    have hl : off + k < cur.size := by
      rcases Nat.lt_or_ge (off + k) cur.size with h' | h'
      · exact h'
      · rw [Array.getElem?_eq_none h'] at hx
        cases hx
    exact ⟨y, Array.getElem?_setIfInBounds_self_of_lt hl⟩
  · exact ⟨x, by rw [Array.getElem?_setIfInBounds_ne e]; exact hx⟩
theorem BRow.of_own {w : World} {g off n cap : Nat} {xs : List Int} (h : Ap.Own w g off n cap xs) : BRow w g off n := by
  obtain ⟨cur, hg, hle, ht⟩ := h.blk
  refine ⟨cur, ⟨5, hg⟩, fun k hk => ?_⟩
  have hk' : k < xs.length := by rw [h.len]; exact hk
  refine ⟨xs[k], ?_⟩
  have e : ((cur.toList.drop off).take n)[k]? = (xs.map (Value.int .u8))[k]? := by rw [ht]
  rw [List.getElem?_take, if_pos hk, List.getElem?_drop, List.getElem?_map, List.getElem?_eq_getElem hk'] at e
  simpa using e
theorem BRow.of_arr {w : World} {b n : Nat} {f : Nat → Int} (h : Ar w b (arr .u8 n f)) : BRow w b 0 n :=
  ⟨_, h, fun k hk => ⟨f k, by rw [Nat.zero_add]; exact arr_get _ _ _ hk⟩⟩

/-- Parts that a slice shows, each of which can be read. -/
def PtR (w : World) (v : Value) (xss : List (List Int)) : Prop :=
  (v = .slice none 0 0 ∧ xss = []) ∨ (∃ a cap, v = .slice (some a) 0 cap ∧ xss = []) ∨ ∃ b o cap, v = .slice (some ⟨b, o, none⟩) xss.length cap ∧ xss.length < 281474976710657 ∧ ∀ j xs, xss[j]? = some xs → ∃ u, w.cell? ⟨b, o + j, none⟩ = some u ∧ Ap.Rd w u xs
theorem PtR.pt {w : World} {v : Value} {xss : List (List Int)} (h : PtR w v xss) (hl : ∀ xs ∈ xss, xs.length < 4611686018427387904) : Pt w v xss := by
  rcases h with h | h | ⟨b, o, cap, h1, h2, h3⟩
  · exact .inl h
  · exact .inr (.inl h)
  · refine .inr (.inr ⟨b, o, cap, h1, h2, fun j xs hj => ?_⟩)
    obtain ⟨u, k1, k2⟩ := h3 j xs hj
    exact ⟨u, k1, Rd.slA k2 (hl xs (List.mem_of_getElem? hj))⟩
theorem Pt.made1 {w u : World} (hu : Chg w u) {va : Value} {xa : List Int} (ha : SlA w va xa) (t : TypeId) : Pt (u.alloc (.cells #[va] t)) (.slice (some ⟨u.heap.size, 0, none⟩) 1 1) [xa] := by
  have hn := Ar.new u #[va] t
  refine .inr (.inr ⟨_, _, _, rfl, by simp, fun j xs hj => ?_⟩)
  match j, hj with
  | 0, hj =>
    simp at hj
    subst hj
    exact ⟨va, hn.cell 0, ha.chg (hu.alloc _)⟩
end Go.Proofs.YtijpdhjlafihkaaDoor
