/-
  What the bound gives: slices of bytes among the arguments, no longer than it; a nonce.
-/
import Derived.Test.YtobglgddbhddnaaArgs
import Derived.JoinedCond
namespace Go.Proofs.Ytobglgddbhddnaa
open Go.ChangeShapes Go.WideShapes Go.ChangeAt Go.RowKit
set_option linter.unusedVariables false
set_option maxRecDepth 100000

theorem cells38 : Try.prog.cellsOf 24 = 12 := by kernel_rfl
theorem bulk_one {H : Type} (d : DataW H) : 1 ≤ Rows.uptoBulk d := by
  cases d with
  | lit l => cases l <;> simp [Rows.uptoBulk]
  | nil => simp [Rows.uptoBulk]
  | ptr d => simp [Rows.uptoBulk]
  | slice elems spare => simp [Rows.uptoBulk]
  | agg parts => simp [Rows.uptoBulk]
  | iface t d => simp [Rows.uptoBulk]
  | map entries => simp [Rows.uptoBulk]
  | held h => simp [Rows.uptoBulk]
theorem bulk_len {H : Type} (l : List (DataW H)) : l.length ≤ Rows.uptoBulkAll l := by
  induction l with
  | nil => simp [Rows.uptoBulkAll]
  | cons x r ih => have := bulk_one x; simp only [Rows.uptoBulkAll, List.length_cons]; omega
theorem bulk_in {H : Type} {l : List (DataW H)} {d : DataW H} (h : d ∈ l) : Rows.uptoBulk d ≤ Rows.uptoBulkAll l := by
  induction l with
  | nil => cases h
  | cons x r ih =>
    simp only [Rows.uptoBulkAll]
    rcases List.mem_cons.1 h with rfl | h
    · omega
    · have := ih h
      omega

/-- A slice of bytes that came in, no longer than its bulk. -/
theorem bytes_up {H : Type} {enc : TypeId × Value → H} {W : World} {d : DataW H} (hb : Rows.uptoBulk d ≤ 1048576)
    {a : Option Addr} {len cap : Nat} {ps : List MemPlace} (h : DataW.Trod enc Try.prog W 0 (fun _ => true) true 35 (.slice a len cap) d ps) : ∃ f, Ap.Rd W (.slice a len cap) (nums len f) ∧ len ≤ 1048576 := by
  obtain ⟨fuel, hf⟩ := h
  rcases open_ints Try.underlying35 Try.underlying5 cells5 hf with ⟨hcs, _⟩ | ⟨x, l, c, zs, hcs, _, hl, hm, hz, hx, hcell, hwz⟩
  · simp [Value.cells] at hcs
    obtain ⟨rfl, rfl, rfl⟩ := hcs
    exact ⟨zB, Ap.Rd.nil W, by simp⟩
  · simp [Value.cells] at hcs
    obtain ⟨rfl, rfl, rfl⟩ := hcs
    have hz' : zs.length = cap := by simpa using hz
    simp only [Prod.mk.injEq] at hx
    have hd' : d = .slice (lits .u8 (zs.take len)) (lits .u8 (zs.drop len)) := hx.1
    subst hd'
    have hlen : (zs.take len).length = len := by rw [List.length_take]; omega
    have h1 := bulk_len (lits (H := H) .u8 (zs.take len))
    simp only [Rows.uptoBulk] at hb
    simp only [lits, List.length_map] at h1 hb
    have hby : ∀ y ∈ zs.take len, 0 ≤ y ∧ y < 256 := fun y hy => by
      have := hwz y (List.mem_of_mem_take hy)
      simp only [Lit.wf, Bool.and_eq_true, decide_eq_true_eq] at this
      have h0 : IntKind.u8.min = 0 := rfl
      have h1 : IntKind.u8.max = 255 := rfl
      omega
    refine ⟨fList (zs.take len), ?_, by omega⟩
    have e := fList_nums _ hby
    rw [hlen] at e
    rw [e]
    refine ⟨_, _, _, rfl, hlen.symm, hl, hm, (fun e => absurd e (by simp)), fun y e k u hk => ?_⟩
    injection e with e
    subst e
    rw [List.getElem?_take] at hk
    split at hk
    · have hkl : k < zs.length := by
        rcases Nat.lt_or_ge k zs.length with h | h
        · exact h
        · rw [List.getElem?_eq_none h] at hk
          cases hk
      rw [hcell k hkl, List.getD_eq_getElem?_getD, hk]
      rfl
    · cases hk

/-- A nonce that came in. -/
theorem nonce_in {H : Type} {enc : TypeId × Value → H} {W : World} {b0 : Nat} {v : Value} (hv : Value.okWide Try.prog W .any b0 24 v) {d : DataW H} {ps : List MemPlace} (h : DataW.Trod enc Try.prog W 0 (fun _ => true) true 24 v d ps) : ∃ f, v = .agg (ba 12 f) := by
  obtain ⟨cs, rfl, hsz, _⟩ : ∃ cs, v = .agg cs ∧ cs.size = Try.prog.cellsOf 24 ∧ Row.okWide Try.prog W .any b0 24 cs := by
    simpa [Value.okWide, Try.underlying24] using hv
  rw [cells38] at hsz
  obtain ⟨fuel, hf⟩ := h
  obtain ⟨xs, m, _, _, _, hxl, hx⟩ := DataW.trod_array Try.underlying24 hf
  have key : ∀ i, i < 12 → ∃ y : Int, cs[i]? = some (.int .u8 y) ∧ 0 ≤ y ∧ y < 256 := by
    intro i hi
    have h1 := hx i hi
    rw [cells5, List.getElem?_eq_getElem (by omega)] at h1
    obtain ⟨y, e0, _, hw⟩ := DataW.trod_int Try.underlying5 h1
    simp only [Lit.wf, Bool.and_eq_true, decide_eq_true_eq] at hw
    have u0 : IntKind.u8.min = 0 := rfl
    have u1 : IntKind.u8.max = 255 := rfl
    refine ⟨y, ?_, by omega, by omega⟩
    have e2 : (((Value.agg cs).cells.toList.drop (i * 1)).take 1)[0]? = some (.int .u8 y) := by rw [e0]; rfl
    rw [List.getElem?_take, if_pos (by decide), List.getElem?_drop] at e2
    simpa [Value.cells] using e2
  refine ⟨fun i => match cs[i]? with | some (.int _ y) => BitVec.ofNat 8 y.toNat | _ => 0#8, ?_⟩
  congr 1
  apply Array.ext_getElem?
  intro i
  by_cases hi : i < 12
  · obtain ⟨y, e, h0, h1⟩ := key i hi
    rw [ba_get 12 _ hi, e]
    simp only [BitVec.toNat_ofNat]
    congr 2
    omega
  · rw [Array.getElem?_eq_none (by omega)]
    simp [ba, arr, hi]
end Go.Proofs.Ytobglgddbhddnaa
