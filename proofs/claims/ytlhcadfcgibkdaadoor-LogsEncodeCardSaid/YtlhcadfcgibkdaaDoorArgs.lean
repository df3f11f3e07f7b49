/-
  A line among the arguments, opened: its time, its event, its pairs; and the tables as the program's text lays them.
-/
import Derived.Test.YtlhcadfcgibkdaaDoorRows
import Derived.Test.YtlhcadfcgibkdaaDoorKey
import Derived.Test.YtlhcadfcgibkdaaDoorBld
import Derived.ProofKit
import Derived.OpenShut
import Derived.Deep.Slices
import Derived.SizedLaws
import Derived.LaidMore
import Derived.Stop.Joined
import Derived.Lib.LaidTab
import Derived.Stop.LaidErr
import Derived.Lib.ItoaMem
namespace Go.Proofs.YtlhcadfcgibkdaaDoor
open Go.ChangeShapes Go.WideShapes Go.ChangeAt Go.RowKit Go.Deep
set_option linter.unusedVariables false
set_option maxRecDepth 100000

theorem own : ownKnob Tryd.prog.godebug = none := by kernel_rfl
theorem laidOut : laidOutB Tryd.prog = true := by kernel_rfl
theorem cells28 : Tryd.prog.cellsOf 28 = 4 := by kernel_rfl
theorem cells25 : Tryd.prog.cellsOf 25 = 3 := by kernel_rfl
theorem cells9 : Tryd.prog.cellsOf 9 = 1 := by kernel_rfl
theorem cells4 : Tryd.prog.cellsOf 4 = 1 := by kernel_rfl
theorem cells22 : Tryd.prog.cellsOf 22 = 1 := by kernel_rfl
theorem cells23 : Tryd.prog.cellsOf 23 = 1 := by kernel_rfl
theorem bytes28 : Tryd.prog.bytesOf 28 = 48 := by kernel_rfl

def laidL : List (String × DataW Unit) := [("math/bits.deBruijn32tab", Rows.laid_math_bits_deBruijn32tab), ("math/bits.deBruijn64tab", Rows.laid_math_bits_deBruijn64tab), ("internal/strconv.uint64pow10", Rows.laid_internal_strconv_uint64pow10)]

theorem door_met (os : Os) (args : Array Value) : laidMetH Tryd.prog laidL ((World.doorLaid Tryd.prog 400 os).forCall (fun _ _ => 0) ⟨#[], args, []⟩).memory :=
  laidMetH_of_parts3 (fuel := 8) (laidMet_of_run' 8 (by kernel_rfl) (by kernel_rfl)) (by kernel_rfl) (by kernel_rfl)

theorem typeTab : (Tryd.prog.globals[1]?).map (·.type) = some 124 := by kernel_rfl

theorem tab_of {W : World} (h : laidMetH Tryd.prog laidL W) : Tab W := by
  rw [MakeChecks.laidMetH_plain _ _ _ (by kernel_rfl)] at h
  exact Lib.tabIs_of_head gTab typeTab Tryd.underlying124 Tryd.underlying22 cells22 (by kernel_rfl) h.tail.tail

theorem open_pairs {H : Type} {enc : TypeId × Value → H} {W : World} {fuel : Nat} {ad : Option Addr} {len cap : Nat} {x : DataW H × List MemPlace} (h : DataW.trod enc Tryd.prog W 0 (fun _ => true) true fuel 23 [.slice ad len cap] = some x) :
    (∃ ps, PRd W (.slice ad len cap) ps) ∧ (ad = none → cap = 0) ∧ ((x.1 = .nil ∧ len = 0) ∨ ∃ a b, x.1 = .slice a b ∧ a.length + b.length = cap ∧ len ≤ cap) := by
  rcases open_slice Tryd.underlying23 h with ⟨h0, rfl⟩ | ⟨a, len', cap', m, n, D, Pl, e, hb, hl, hm, hmm, rfl, hx⟩
  · simp at h0
    obtain ⟨rfl, rfl, rfl⟩ := h0
    exact ⟨⟨[], none, 0, 0, rfl, rfl, Nat.le_refl _, by decide, fun i p hp => by simp at hp⟩, fun _ => rfl, .inl ⟨rfl, rfl⟩⟩
  · simp at e
    obtain ⟨rfl, rfl, rfl⟩ := e
    simp only [if_true] at hmm
    subst hmm
    refine ⟨?_, fun e => (by cases e), .inr ⟨_, _, rfl, by simp; omega, hl⟩⟩
    have hall : ∀ i, i < len → ∃ p : PairD, p.Ok ∧ ∃ g off, a = ⟨g, off, none⟩ ∧ g < W.heap.size ∧ W.cell? ⟨g, off + i * 4, none⟩ = some (.string p.key) ∧
        W.cell? ⟨g, off + i * 4 + 1, none⟩ = some (.bool p.isNum) ∧ W.cell? ⟨g, off + i * 4 + 2, none⟩ = some (.int .u64 p.num) ∧ W.cell? ⟨g, off + i * 4 + 3, none⟩ = some (.string p.text) := by
      intro i hi
      obtain ⟨b, off, spot⟩ := a
      have hspot : spot = none := by
        obtain ⟨cs0, h1, _⟩ := hx 0 (by omega)
        rw [cells28] at h1
        obtain ⟨_, hlen, hcell⟩ := World.cells?_some h1
        have e0 := hcell 0 (by omega)
        have e1 : cs0[0]? = some (cs0[0]'(by omega)) := List.getElem?_eq_getElem (by omega)
        rw [e1] at e0
        have := World.cell?_spot e0
        simpa [Addr.add] using this
      subst hspot
      obtain ⟨cs', h1, h2⟩ := hx i (by omega)
      rw [cells28] at h1
      obtain ⟨_, hlen, hcell⟩ := World.cells?_some h1
      obtain ⟨xs, k, hk, hxy, _, hxl, hf⟩ := DataW.trod_struct Tryd.underlying28 h2
      match xs, hxl, cs', hlen with
      | [y0, y1, y2, y3], _, [v0, v1, v2, v3], _ =>
        have g0 := hf 0 _ rfl
        have g1 := hf 1 _ rfl
        have g2 := hf 2 _ rfl
        have g3 := hf 3 _ rfl
        simp [cells4, cells9, cells22] at g0 g1 g2 g3
        have e0 := hcell 0 (by omega)
        have e1 := hcell 1 (by omega)
        have e2 := hcell 2 (by omega)
        have e3 := hcell 3 (by omega)
        rw [add_add] at e0 e1 e2 e3
        obtain ⟨key, ec, rfl, wk⟩ := DataW.trod_string Tryd.underlying9 g0
        obtain ⟨bn, eb, rfl⟩ := DataW.trod_bool Tryd.underlying4 g1
        obtain ⟨nn, en, rfl, wn⟩ := DataW.trod_int Tryd.underlying22 g2
        obtain ⟨tx, et, rfl, wt⟩ := DataW.trod_string Tryd.underlying9 g3
        simp at ec eb en et
        subst ec
        subst eb
        subst en
        subst et
        rw [add_plain] at e0 e1 e2 e3
        simp only [List.getElem?_cons_zero, List.getElem?_cons_succ, Nat.add_zero] at e0 e1 e2 e3
        rw [← Nat.add_assoc] at e1 e2 e3
        have hbl := World.block_lt_of_cell? W _ e0
        have hnn : 0 ≤ nn ∧ nn < 18446744073709551616 := by
          simp [Lit.wf, IntKind.min, IntKind.max, IntKind.signed, IntKind.bits] at wn
          omega
        obtain ⟨m, rfl⟩ : ∃ m : Nat, nn = m := ⟨nn.toNat, by omega⟩
        exact ⟨⟨key, bn, m, tx⟩, ⟨by show m < _; omega, wk, wt⟩, b, off, rfl, hbl, e0, e1, e2, e3⟩
    have hch : ∃ f : Nat → PairD, ∀ i, i < len → (f i).Ok ∧ ∃ g off, a = ⟨g, off, none⟩ ∧ g < W.heap.size ∧ W.cell? ⟨g, off + i * 4, none⟩ = some (.string (f i).key) ∧
        W.cell? ⟨g, off + i * 4 + 1, none⟩ = some (.bool (f i).isNum) ∧ W.cell? ⟨g, off + i * 4 + 2, none⟩ = some (.int .u64 (f i).num) ∧ W.cell? ⟨g, off + i * 4 + 3, none⟩ = some (.string (f i).text) := by
      refine ⟨fun i => if hi : i < len then (hall i hi).choose else ⟨⟨#[]⟩, false, 0, ⟨#[]⟩⟩, fun i hi => ?_⟩
      simp only [hi, dif_pos]
      exact (hall i hi).choose_spec
    obtain ⟨f, hf⟩ := hch
    refine ⟨(List.range len).map f, some a, len, _, rfl, by simp, hl, hm, fun i p hp => ?_⟩
    rw [List.getElem?_map] at hp
    have hi : i < len := by
      rcases Nat.lt_or_ge i len with x | x
      · exact x
      · rw [List.getElem?_eq_none (by simpa using x)] at hp; cases hp
    rw [List.getElem?_range hi] at hp
    cases hp
    obtain ⟨h1, g, off, rfl, h2⟩ := hf i hi
    exact ⟨h1, g, off, rfl, h2⟩

/-- A line's three cells, opened. -/
theorem open_line {H : Type} {enc : TypeId × Value → H} {W : World} {fuel : Nat} {cs : List Value} {x : DataW H × List MemPlace} (h : DataW.trod enc Tryd.prog W 0 (fun _ => true) true fuel 25 cs = some x) :
    ∃ (time : Nat) (event : ByteArray) (ad : Option Addr) (len cap : Nat) (ps : List PairD) (y : DataW H), cs = [.int .u64 time, .string event, .slice ad len cap] ∧ time < 18446744073709551616 ∧ event.size ≤ maxLen ∧ PRd W (.slice ad len cap) ps ∧ (ad = none → cap = 0) ∧
      x.1 = .agg [.lit (.int .u64 time), .lit (.string event.data.toList), y] ∧ ((y = .nil ∧ len = 0) ∨ ∃ a b, y = .slice a b ∧ a.length + b.length = cap ∧ len ≤ cap) := by
  obtain ⟨xs, k, hk, hxy, hcl, hxl, hf⟩ := DataW.trod_struct Tryd.underlying25 h
  rw [cells25] at hcl
  match xs, hxl, cs, hcl with
  | [y0, y1, y2], _, [v0, v1, v2], _ =>
    have g0 := hf 0 _ rfl
    have g1 := hf 1 _ rfl
    have g2 := hf 2 _ rfl
    simp [cells9, cells22, cells23] at g0 g1 g2
    obtain ⟨nn, en, rfl, wn⟩ := DataW.trod_int Tryd.underlying22 g0
    obtain ⟨ev, ee, rfl, we⟩ := DataW.trod_string Tryd.underlying9 g1
    simp at en ee
    subst en
    subst ee
    have hnn : 0 ≤ nn ∧ nn < 18446744073709551616 := by
      simp [Lit.wf, IntKind.min, IntKind.max, IntKind.signed, IntKind.bits] at wn
      omega
    obtain ⟨m, rfl⟩ : ∃ m : Nat, nn = m := ⟨nn.toNat, by omega⟩
    have hsl : ∃ ad len cap, v2 = .slice ad len cap := by
      rcases open_slice Tryd.underlying23 g2 with ⟨h0, _⟩ | ⟨a, len', cap', _, _, _, _, e, _⟩
      · simp at h0; exact ⟨_, _, _, h0⟩
      · simp at e; exact ⟨_, _, _, e⟩
    obtain ⟨ad, len, cap, rfl⟩ := hsl
    obtain ⟨⟨ps, hps⟩, h0, hy⟩ := open_pairs g2
    refine ⟨m, ev, ad, len, cap, ps, y2.1, rfl, by omega, we, hps, h0, ?_, hy⟩
    rw [hxy]
    simp
end Go.Proofs.YtlhcadfcgibkdaaDoor
