/-
  A list of calls among the arguments, opened: its cells, each call's name and bytes, and how they read as data.
-/
import Derived.Test.YtpabijfamnghjaaPlaysWalk
import Derived.ProofKit
import Derived.OpenShut
import Derived.Deep.Slices
import Derived.SizedLaws
namespace Go.Proofs.Ytpabijfamnghjaa
open Go.ChangeShapes Go.WideShapes Go.ChangeAt Go.RowKit Go.Deep
set_option linter.unusedVariables false

theorem cells33 : Try.prog.cellsOf 33 = 4 := by kernel_rfl
theorem cells3 : Try.prog.cellsOf 3 = 1 := by kernel_rfl
theorem cells9 : Try.prog.cellsOf 9 = 1 := by kernel_rfl
theorem cells31 : Try.prog.cellsOf 31 = 1 := by kernel_rfl

/-- How a call's bytes read as data. -/
def BytesAs {H : Type} (q : DataW H) (sn sc : Nat) (ys : List Int) : Prop :=
  (q = .nil ∧ ys = [] ∧ sn = 0) ∨ ∃ zs : List Int, q = .slice (lits .u8 (zs.take sn)) (lits .u8 (zs.drop sn)) ∧ ys = zs.take sn ∧ zs.length = sc ∧ sn ≤ sc

theorem open_ops {H : Type} {enc : TypeId × Value → H} {W : World} {fuel : Nat} {ad : Option Addr} {len cap : Nat} {x : DataW H × List MemPlace} (h : DataW.trod enc Try.prog W 0 (fun _ => true) true fuel 22 [.slice ad len cap] = some x) :
    (ad = none ∧ len = 0 ∧ x.1 = .nil) ∨ ∃ (D : Nat → DataW H), len ≤ cap ∧ cap ≤ maxLen ∧ x.1 = .slice ((List.range len).map D) ((List.range (cap - len)).map fun j => D (len + j)) ∧
      ∀ i, i < len → ∃ b off call s so sn sc n ys q, ad = some ⟨b, off, none⟩ ∧ b < W.heap.size ∧ W.cell? ⟨b, off + i * 4, none⟩ = some (.int .i64 call) ∧ W.cell? ⟨b, off + i * 4 + 1, none⟩ = some (.string s) ∧
        W.cell? ⟨b, off + i * 4 + 2, none⟩ = some (.slice so sn sc) ∧ W.cell? ⟨b, off + i * 4 + 3, none⟩ = some (.int .i64 n) ∧ Rd W (.slice so sn sc) ys ∧ s.size ≤ maxLen ∧
        D i = .agg [.lit (.int .i64 call), .lit (.string s.data.toList), q, .lit (.int .i64 n)] ∧ BytesAs q sn sc ys := by
  rcases open_slice Try.underlying22 h with ⟨h0, rfl⟩ | ⟨a, len', cap', m, n, D, Pl, e, hb, hl, hm, hmm, rfl, hx⟩
  · simp at h0
    exact .inl ⟨h0.1, h0.2.1, rfl⟩
  · simp at e
    obtain ⟨rfl, rfl, rfl⟩ := e
    right
    simp only [if_true] at hmm
    subst hmm
    refine ⟨D, hl, hm, rfl, fun i hi => ?_⟩
    obtain ⟨b, off, spot⟩ := a
    have hspot : spot = none := by
      obtain ⟨cs0, h1, _⟩ := hx 0 (by omega)
      rw [cells33] at h1
      obtain ⟨_, hlen, hcell⟩ := World.cells?_some h1
      have e0 := hcell 0 (by omega)
      have e1 : cs0[0]? = some (cs0[0]'(by omega)) := List.getElem?_eq_getElem (by omega)
      rw [e1] at e0
      have := World.cell?_spot e0
      simpa [Addr.add] using this
    subst hspot
    obtain ⟨cs', h1, h2⟩ := hx i (by omega)
    rw [cells33] at h1
    obtain ⟨_, hlen, hcell⟩ := World.cells?_some h1
    obtain ⟨xs, k, hk, hxy, _, hxl, hf⟩ := DataW.trod_struct Try.underlying33 h2
    match xs, hxl, cs', hlen with
    | [y0, y1, y2, y3], _, [v0, v1, v2, v3], _ =>
      have g0 := hf 0 _ rfl
      have g1 := hf 1 _ rfl
      have g2 := hf 2 _ rfl
      have g3 := hf 3 _ rfl
      simp [cells3, cells9, cells31] at g0 g1 g2 g3
      have e0 := hcell 0 (by omega)
      have e1 := hcell 1 (by omega)
      have e2 := hcell 2 (by omega)
      have e3 := hcell 3 (by omega)
      rw [add_add] at e0 e1 e2 e3
      obtain ⟨call, ec, rfl, wc⟩ := DataW.trod_int Try.underlying3 g0
      obtain ⟨s, ea, rfl, ws⟩ := DataW.trod_string Try.underlying9 g1
      obtain ⟨nn, en, rfl, wn⟩ := DataW.trod_int Try.underlying3 g3
      simp at ec ea en
      subst ec
      subst ea
      subst en
      simp only [Prod.mk.injEq] at hxy
      obtain ⟨hD, -⟩ := hxy
      rw [add_plain] at e0 e1 e2 e3
      simp only [List.getElem?_cons_zero, List.getElem?_cons_succ, Nat.add_zero] at e0 e1 e2 e3
      rw [← Nat.add_assoc] at e1 e2 e3
      have hbl := World.block_lt_of_cell? W _ e0
      have hDi : D i = .agg [.lit (.int .i64 call), .lit (.string s.data.toList), y2.1, .lit (.int .i64 nn)] := by simpa using hD
      rcases open_ints Try.underlying31 Try.underlying5 (by kernel_rfl) g2 with ⟨hcs, hy⟩ | ⟨xa, l, c, zs, hcs, _, hl3, hm3, hz3, hy, hcell3, hwz⟩
      · simp at hcs
        subst hcs
        rw [hy] at hDi
        exact ⟨b, off, call, s, none, 0, 0, nn, [], .nil, rfl, hbl, e0, e1, e2, e3, Rd.nil W, ws, hDi, .inl ⟨rfl, rfl, rfl⟩⟩
      · simp at hcs
        subst hcs
        rw [hy] at hDi
        simp only [if_true] at hz3
        refine ⟨b, off, call, s, some xa, l, c, nn, zs.take l, _, rfl, hbl, e0, e1, e2, e3, ⟨_, _, _, rfl, by simp; omega, hl3, hm3, fun e => by (cases e), fun y e j u hj => ?_⟩, ws, hDi, .inr ⟨zs, rfl, rfl, hz3, hl3⟩⟩
        cases e
        rw [List.getElem?_take] at hj
        split at hj
        · rw [hcell3 j (by omega)]
          simp [List.getD, hj]
        · cases hj
end Go.Proofs.Ytpabijfamnghjaa
