/-
  Strings of bytes; a byte of a slice written anew.
-/
import Derived.Test.YtijpdhjlafihkaaDoorTj19
import Derived.Test.YtijpdhjlafihkaaDoorTj20
import Derived.Test.YtijpdhjlafihkaaDoorTj22
import Derived.Lib.Bytes
namespace Go.Proofs.YtijpdhjlafihkaaDoor
open Go.RowKit
set_option linter.unusedVariables false
set_option maxRecDepth 100000

theorem str_inj {a b : List Int} (ha : ∀ x ∈ a, Byte x) (hb : ∀ x ∈ b, Byte x) : (strOfNums a).toList = (strOfNums b).toList ↔ a = b := by
  refine ⟨fun h1 => ?_, fun h => by rw [h]⟩
  rw [Lib.strOfNums_toList, Lib.strOfNums_toList] at h1
  unfold Lib.bytesOf at h1
  induction a generalizing b with
  | nil =>
    cases b with
    | nil => rfl
    | cons y b => simp at h1
  | cons x a ih =>
    cases b with
    | nil => simp at h1
    | cons y b =>
      simp only [List.map_cons, List.cons.injEq] at h1
      have hx := ha x List.mem_cons_self
      have hy := hb y List.mem_cons_self
      have e : x.toNat = y.toNat := by
        have := congrArg UInt8.toNat h1.1
        rw [UInt8.toNat_ofNat', UInt8.toNat_ofNat'] at this
        have h1 := hx.1
        have h2 := hx.2
        have h3 := hy.1
        have h4 := hy.2
        omega
      have e2 : x = y := by
        have h1 := hx.1
        have h3 := hy.1
        omega
      rw [e2, ih (fun z hz => ha z (List.mem_cons_of_mem _ hz)) (fun z hz => hb z (List.mem_cons_of_mem _ hz)) h1.2]
theorem Own.setRd {w : World} {g off n cap : Nat} {xs : List Int} (h : Ap.Own w g off n cap xs) {k : Nat} (hk : k < xs.length) (y : Int) : Ap.Rd (w.setCell ⟨g, off + k, none⟩ (.int .u8 y)) (.slice (some ⟨g, off, none⟩) n cap) (xs.set k y) := by
  obtain ⟨ao, n', c', e, hn, hc, hmx, h0, hx⟩ := h.rd
  injection e with e1 e2 e3
  subst e1 e2 e3
  obtain ⟨cur, hg, hle, ht⟩ := h.blk
  have A : Ar w g cur := ⟨5, hg⟩
  refine ⟨_, _, _, rfl, by rw [List.length_set]; exact hn, hc, hmx, h0, fun x e j u hj => ?_⟩
  injection e with e
  subst e
  have ha : (⟨g, off, none⟩ : Addr).add j = ⟨g, off + j, none⟩ := by unfold Addr.add; split <;> simp_all
  rw [ha, (A.set (off + k) (.int .u8 y)).cell (off + j)]
  by_cases hjk : j = k
  · subst hjk
    have hcur : off + j < cur.size := by
      have := h.cell j xs[j] (List.getElem?_eq_getElem hk)
      rw [A.cell (off + j)] at this
      rcases Nat.lt_or_ge (off + j) cur.size with h' | h'
      · exact h'
      · rw [Array.getElem?_eq_none h'] at this
        cases this
    rw [Array.getElem?_setIfInBounds_self_of_lt hcur]
    rw [List.getElem?_set_self hk] at hj
    injection hj with hj
    rw [hj]
  · rw [Array.getElem?_setIfInBounds_ne (by omega), ← A.cell (off + j)]
    rw [List.getElem?_set_ne (by omega)] at hj
    exact h.cell j u hj

theorem str_beq {a b : List Int} (ha : ∀ x ∈ a, Byte x) (hb : ∀ x ∈ b, Byte x) : ((strOfNums a).toList == (strOfNums b).toList) = decide (a = b) := by
  have := str_inj ha hb
  by_cases e : a = b
  · simp [e]
  · have : ¬ (strOfNums a).toList = (strOfNums b).toList := fun h => e (this.1 h)
    simp [e, this]
/-- A slice whose string is known in whatever comes of this world. -/
theorem TxV.of {w : World} {v : Value} {xs : List Int} (h : Ap.Rd w v xs) : TxV w v (strOfNums xs) := fun u hu => Ap.run_str u _ _ (Rd.chg h hu)
/-- append, in a region that draws its order, behind a guard. -/
theorem step_appG {ops : Array Oper} {o : Oper} {a : Act} {w : World} {K : Act → World → Prop} {Q : Exit → Act → World → Prop} {E : Prop}
    (hw : Region.wanted o (yielded ops a.tmps) = true) (s x : Operand) (hop : o.op = Op.call { callee := Callee.builtin Builtin.append, args := #[s, x], argTypes := #[23, 23] })
    (v sv : Value) (xs ys : List Int) (hs : a.eval s = v) (hx : a.eval x = sv) (hv : Ap.OwnV w v xs) (hr : Ap.Rd w sv ys) (hb : xs.length + ys.length ≤ 140737488355328)
    (hK : ∀ v' w', Ap.OwnV w' v' (xs ++ ys) → Ap.Chg (fun k => v.ownBlock = some k) w w' → (v'.ownBlock = v.ownBlock ∨ v'.ownBlock = some w.heap.size) → K (a.put o.dst v') w') :
    if Region.wanted o (yielded ops a.tmps) = true then Oper.wp Tryd.prog o a w K Q else E := by
  rw [if_pos hw]
  obtain ⟨v', w', hrun, r1, r2, r3⟩ := Ap.run_app o.type w v sv xs ys hv hr hb
  unfold Oper.wp
  simp [execOp, hop, resolve, invoke, builtin, hs, hx, hrun, Result.andThen]
  exact hK v' w' r1 r2 r3
/-- An empty slice that was just made. -/
theorem OwnV.empty (u : World) : Ap.OwnV (u.alloc (.cells #[] 5)) (.slice (some ⟨u.heap.size, 0, none⟩) 0 0) [] :=
  .inr ⟨u.heap.size, 0, 0, 0, rfl, rfl, Nat.le_refl _, by decide, #[], heap_alloc_last u _, by simp, by simp⟩
theorem Chg.app {w u u' : World} (h : Chg w u) (k : Ap.Chg (fun k => (Value.slice (some ⟨u.heap.size, 0, none⟩) 0 0).ownBlock = some k) (u.alloc (.cells #[] 5)) u') : Chg w u' :=
  Chg.ap (h.alloc _) k (fun i e => by simp [Value.ownBlock] at e; have := h.size; omega)
end Go.Proofs.YtijpdhjlafihkaaDoor
namespace Go.Proofs.YtijpdhjlafihkaaDoor
open Go.RowKit
set_option linter.unusedVariables false
set_option maxRecDepth 100000

theorem PtR.chg {w w' : World} {v : Value} {xss : List (List Int)} (h : PtR w v xss) (k : Chg w w') : PtR w' v xss := by
  rcases h with h | h | ⟨b, o, cap, h1, h2, h3⟩
  · exact .inl h
  · exact .inr (.inl h)
  · refine .inr (.inr ⟨b, o, cap, h1, h2, fun j xs hj => ?_⟩)
    obtain ⟨u, g1, g2⟩ := h3 j xs hj
    exact ⟨u, cell_at k g1, Rd.chg g2 k⟩
theorem PtR.shape {w : World} {v : Value} {xss : List (List Int)} (h : PtR w v xss) : ∃ n p cap, n = xss.length ∧ v = .slice p n cap ∧ n < 281474976710657 := by
  rcases h with ⟨e1, e2⟩ | ⟨a, cap, e1, e2⟩ | ⟨b, o, cap, e1, e2, _⟩
  · exact ⟨0, none, 0, by rw [e2]; rfl, e1, by decide⟩
  · exact ⟨0, some a, cap, by rw [e2]; rfl, e1, by decide⟩
  · exact ⟨_, _, _, rfl, e1, e2⟩
/-- One of the parts. -/
theorem PtR.part {w : World} {p : Option Addr} {n cap : Nat} {xss : List (List Int)} (h : PtR w (.slice p n cap) xss) {i : Nat} (hi : i < xss.length) : ∃ b o u, p = some ⟨b, o, none⟩ ∧ n = xss.length ∧ w.cell? ⟨b, o + i, none⟩ = some u ∧ Ap.Rd w u xss[i] := by
  rcases h with ⟨e1, e2⟩ | ⟨a, cap, e1, e2⟩ | ⟨b, o, cap, e1, e2, e3⟩
  · rw [e2] at hi
    exact absurd hi (Nat.not_lt_zero i)
  · rw [e2] at hi
    exact absurd hi (Nat.not_lt_zero i)
  · injection e1 with e4 e5 e6
    obtain ⟨u, g1, g2⟩ := e3 i xss[i] (List.getElem?_eq_getElem hi)
    exact ⟨b, o, u, e4, e5, g1, g2⟩
theorem flat_take {xss : List (List Int)} {i : Nat} (hi : i < xss.length) : (xss.take (i + 1)).flatten = (xss.take i).flatten ++ xss[i] := by
  rw [List.take_add_one, List.getElem?_eq_getElem hi, List.flatten_append]
  simp
theorem flat_le (xss : List (List Int)) (i : Nat) : (xss.take i).flatten.length ≤ xss.flatten.length := by
  have : xss.flatten = (xss.take i).flatten ++ (xss.drop i).flatten := by rw [← List.flatten_append, List.take_append_drop]
  rw [this, List.length_append]
  omega

theorem flat_mem {xss : List (List Int)} {xs : List Int} (h : xs ∈ xss) : xs.length ≤ xss.flatten.length := by
  induction xss with
  | nil => cases h
  | cons a l ih =>
    rw [List.flatten_cons, List.length_append]
    rcases List.mem_cons.1 h with rfl | h
    · omega
    · have := ih h
      omega
theorem flat_range {xss : List (List Int)} (h : ∀ xs ∈ xss, ∀ x ∈ xs, 0 ≤ x ∧ x < 256) : ∀ x ∈ xss.flatten, 0 ≤ x ∧ x < 256 := by
  intro x hx
  obtain ⟨xs, h1, h2⟩ := List.mem_flatten.1 hx
  exact h xs h1 x h2
end Go.Proofs.YtijpdhjlafihkaaDoor
