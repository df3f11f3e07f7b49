/-
  WireMessages is proved in its second form: for every stream of bytes, certificate message, ticket and signature of bulk at most 1048576 the law returns true and leaves its arguments as they were. No condition beside the form's own.
-/
import Derived.Test.YtdhckndehijemaaAu
import Derived.Test.YtdhckndehijemaaMl
namespace Go.Proofs.Ytdhckndehijemaa
open Go.Deep
set_option linter.unusedVariables false
theorem Rel.byt1 {F : Nat → Prop} {w : World} {us : List Value} {x : List Int} (h : Rel .byt F w us x) : ∃ a l c, us = [.slice a l c] := by
  obtain ⟨v, rfl, h3, -⟩ := h
  obtain ⟨ao, n, c, rfl, -⟩ := h3.shape
  exact ⟨ao, n, c, rfl⟩
theorem Rel.lst1 {e : Ty} {F : Nat → Prop} {w : World} {us : List Value} {x : List e.Dat} (h : Rel (.lst e) F w us x) : ∃ a l c, us = [.slice a l c] := by
  obtain ⟨ao, n, c, rfl, -⟩ := h
  exact ⟨ao, n, c, rfl⟩
theorem Rel.num1 {k : IntKind} {F : Nat → Prop} {w : World} {us : List Value} {x : (Ty.num k).Dat} (h : Rel (.num k) F w us x) : ∃ n : Int, us = [.int k n] := ⟨x, h.1⟩
theorem Rel.str1 {F : Nat → Prop} {w : World} {us : List Value} {x : List Int} (h : Rel .str F w us x) : ∃ S, us = [.string S] := ⟨_, h.1⟩
end Go.Proofs.Ytdhckndehijemaa
namespace Go.Proofs.Ytdhckndehijemaa.wireMessages
open Go.ChangeShapes Go.WideShapes Go.ChangeAt Go.RowKit Go.Deep
set_option linter.unusedVariables false

theorem agg_of {cs : Array Value} {l : List Value} (h : cs.toList = l) : cs = l.toArray := by
  cases cs
  simp at h
  rw [h]

set_option maxRecDepth 100000 in
theorem bytes_bt {H : Type} {enc : TypeId × Value → H} {W : World} {d : DataW H}
    {a : Option Addr} {len cap : Nat} {ps : List MemPlace} {base : Nat} (hv : Value.okWide Try.prog W .any base 23 (.slice a len cap)) (h : DataW.Trod enc Try.prog W 0 (fun _ => true) true 23 (.slice a len cap) d ps) : ∃ xs, Bt (Bel W.heap.size) W (.slice a len cap) xs := by
  obtain ⟨fuel, hf⟩ := h
  rcases open_ints Try.underlying23 Try.underlying5 cells5 hf with ⟨hcs, _⟩ | ⟨x, l, c, zs, hcs, _, hl, hm, hz, hx, hcell, hwz⟩
  · simp [Value.cells] at hcs
    obtain ⟨rfl, rfl, rfl⟩ := hcs
    exact ⟨[], Rd.nil W, Byt.nil, fun k e => by cases e⟩
  · simp [Value.cells] at hcs
    obtain ⟨rfl, rfl, rfl⟩ := hcs
    have hz' : zs.length = cap := by simpa using hz
    have hlen : (zs.take len).length = len := by rw [List.length_take]; omega
    have hby : Byt (zs.take len) := fun y hy => by
      have := hwz y (List.mem_of_mem_take hy)
      simp only [Lit.wf, Bool.and_eq_true, decide_eq_true_eq] at this
      have h0 : IntKind.u8.min = 0 := rfl
      have h1 : IntKind.u8.max = 255 := rfl
      omega
    refine ⟨zs.take len, ⟨_, _, _, rfl, hlen.symm, hl, hm, (fun e => absurd e (by simp)), fun y e k u hk => ?_⟩, hby, fun k e => ?_⟩
    · injection e with e
      subst e
      rw [List.getElem?_take] at hk
      split at hk
      · have hkl : k < zs.length := by
          rcases Nat.lt_or_ge k zs.length with h | h
          · exact h
          · rw [List.getElem?_eq_none h] at hk
            cases hk
        rw [hcell k hkl, List.getD_eq_getElem?_getD, hk]
        rfl
      · cases hk
    · injection e with e
      subst e
      exact slice_lt hv

set_option maxRecDepth 100000 in
theorem contract (H : Type) (enc : TypeId × Value → H) (W : World) (base : Nat) (args : Array Value) (ds gs : List (DataW H)) (before : List MemPlace)
    (hval0 : ∀ (j : Nat) t v, Try.f5.params[j]? = some t → args[j]? = some v → Value.okWide Try.prog W .any base t v)
    (hW : DataW.Whole enc Try.prog Try.f5.params.toList Rows.wireMessagesSpec.vars false W args.toList ds gs before) (hk : Rows.uptoSmall H (ds ++ gs) = true) :
    Calls Try.prog 5 args W fun e W' => ∃ v, e = .returned v ∧ Rows.wireMessagesSpec.post enc Try.prog Try.f5 false true false false W args v W' := by
  have hval : ∀ (j : Nat) t v, Try.f5.params[j]? = some t → args[j]? = some v → Value.okWide Try.prog W .any base t v := hval0
  have hW' := hW
  obtain ⟨p, q, hA0, hV, rfl, hfz, hnd⟩ := hW
  have hA : DataW.TrodAll enc Try.prog W 0 (fun _ => true) true Try.f5.params.toList args.toList ds p := hA0
  rw [Try.params5] at hA hval
  obtain ⟨v0, vs0, d0, ds0, p0, q0, hargs, rfl, rfl, h0, r0⟩ := trodAll_cons hA
  obtain ⟨v1, vs1, d1, ds1, p1, q1, rfl, rfl, rfl, h1, r1⟩ := trodAll_cons r0
  obtain ⟨v2, vs2, d2, ds2, p2, q2, rfl, rfl, rfl, h2, r2⟩ := trodAll_cons r1
  obtain ⟨v3, vs3, d3, ds3, p3, q3, rfl, rfl, rfl, h3, r3⟩ := trodAll_cons r2
  obtain ⟨rfl, rfl, rfl⟩ := trodAll_nil r3
  obtain rfl : args = #[v0, v1, v2, v3] := by cases args; simp_all
  obtain ⟨rfl, rfl⟩ := trodVars_none hV
  obtain ⟨a0, len0, cap0, rfl⟩ := okWide_slice Try.underlying23 (hval 0 23 v0 rfl rfl)
  obtain ⟨c1, rfl, -⟩ := okWide_struct Try.underlying44 (hval 1 44 v1 rfl rfl)
  obtain ⟨c2, rfl, -⟩ := okWide_struct Try.underlying47 (hval 2 47 v2 rfl rfl)
  obtain ⟨c3, rfl, -⟩ := okWide_struct Try.underlying49 (hval 3 49 v3 rfl rfl)
  have lt0 : ∀ x ∈ p0, x.block < W.heap.size := by obtain ⟨m, hm⟩ := h0; exact DataW.trod_lt m _ _ _ hm
  have lt1 : ∀ x ∈ p1, x.block < W.heap.size := by obtain ⟨m, hm⟩ := h1; exact DataW.trod_lt m _ _ _ hm
  have lt2 : ∀ x ∈ p2, x.block < W.heap.size := by obtain ⟨m, hm⟩ := h2; exact DataW.trod_lt m _ _ _ hm
  have lt3 : ∀ x ∈ p3, x.block < W.heap.size := by obtain ⟨m, hm⟩ := h3; exact DataW.trod_lt m _ _ _ hm
  have hbulk : Rows.uptoBulkAll ([d0, d1, d2, d3] ++ []) ≤ 1048576 := of_decide_eq_true hk
  obtain ⟨x0, g0⟩ := bytes_bt (hval 0 23 _ rfl rfl) h0
  obtain ⟨x1, g1, s1⟩ := arg_up (Nat.le_trans (bulk_mem (by simp)) hbulk) tru44 h1
  obtain ⟨x2, g2, s2⟩ := arg_up (Nat.le_trans (bulk_mem (by simp)) hbulk) tru47 h2
  obtain ⟨x3, g3, -⟩ := arg_up (Nat.le_trans (bulk_mem (by simp)) hbulk) tru49 h3
  have g1' : Rel tCert (Bel W.heap.size) W c1.toList x1 := g1
  have g2' : Rel tTick (Bel W.heap.size) W c2.toList x2 := g2
  have g3' : Rel tExt (Bel W.heap.size) W c3.toList x3 := g3
  have l1 : List.length (α := Entry) x1.2 ≤ 1048576 := s1.2.1
  have l2 : ∀ (j : Nat) (z : Entry), (show List Entry from x1.2)[j]? = some z → List.length (α := Ext) z.2 ≤ 1048576 := fun j z hz => (s1.2.2 z (List.mem_of_getElem? hz)).2.1
  have l3 : List.length (α := Ext) x2.2.2.2.2 ≤ 1048576 := s2.2.2.2.2.1
  clear g1 g2 g3 s1 s2 hA0 hval0
  obtain ⟨a1, b1, e1, i1, i2⟩ := g1'
  obtain ⟨_, _, _, rfl⟩ := i1.byt1
  obtain ⟨_, _, _, rfl⟩ := i2.lst1
  obtain ⟨a2, b2, e2, j1, j2⟩ := g2'
  obtain ⟨a3, b3, rfl, j2, j3⟩ := j2
  obtain ⟨a4, b4, rfl, j3, j4⟩ := j3
  obtain ⟨a5, b5, rfl, j4, j5⟩ := j4
  obtain ⟨_, rfl⟩ := j1.num1
  obtain ⟨_, rfl⟩ := j2.num1
  obtain ⟨_, _, _, rfl⟩ := j3.byt1
  obtain ⟨_, _, _, rfl⟩ := j4.byt1
  obtain ⟨_, _, _, rfl⟩ := j5.lst1
  obtain ⟨a6, b6, e3, k1, k2⟩ := g3'
  obtain ⟨_, rfl⟩ := k1.num1
  obtain ⟨_, _, _, rfl⟩ := k2.byt1
  obtain rfl := agg_of e1
  obtain rfl := agg_of e2
  obtain rfl := agg_of e3
  refine (msgs_law _ _ _ _ _ _ _ _ _ _ _ _ _ _ _ _ _ _ _ _ _ _ _ _ x0 x1 x2 x3 W g0 ⟨_, _, rfl, i1, i2⟩ ⟨_, _, rfl, j1, _, _, rfl, j2, _, _, rfl, j3, _, _, rfl, j4, j5⟩ ⟨_, _, rfl, k1, k2⟩ l1 l2 l3).mono fun e W' ⟨he, chg⟩ => ?_
  subst he
  have bel := below chg
  exact ⟨_, rfl, _, _, _, [], _, [], hW', trodAll_mk1 (shut_bool Try.underlying4 _), (trodAll_cons_mk (Below.trod laidOut (by kernel_rfl) (of_decide_eq_true (by kernel_rfl)) h0 bel lt0) (trodAll_cons_mk (Below.trod laidOut (by kernel_rfl) (of_decide_eq_true (by kernel_rfl)) h1 bel lt1) (trodAll_cons_mk (Below.trod laidOut (by kernel_rfl) (of_decide_eq_true (by kernel_rfl)) h2 bel lt2) (trodAll_cons_mk (Below.trod laidOut (by kernel_rfl) (of_decide_eq_true (by kernel_rfl)) h3 bel lt3) trodAll_mk0)))), rfl, bel.frame _, fun h => by cases h⟩

set_option maxRecDepth 100000 in
theorem lifted (os : Os) (started : os.Started) (H : Type) (enc : TypeId × Value → H) (F : Stop.Interp) :
    ReturnsInHanded {} Try.checked os 5 .any ((Rows.OpenSpec.upto Rows.wireMessagesSpec).pre6 enc Try.prog Try.f5 Rows.wireMessagesUptoRow.domain false) (((Rows.OpenSpec.upto Rows.wireMessagesSpec).at F).post enc Try.prog Try.f5 false true false false) := by
  refine returnsInHanded_of_cond (C := Try.checked) (s := Rows.OpenSpec.upto Rows.wireMessagesSpec) (k := Rows.uptoSmall) rfl own started (by kernel_rfl) Try.func5
    (OpenSpec.witness (enc := enc) (C := Try.checked) (s := Rows.OpenSpec.upto Rows.wireMessagesSpec) (k := Rows.uptoSmall) rfl false ⟨#[], #[.slice none 0 0, .agg #[.slice none 0 0, .slice none 0 0], .agg #[.int .u32 0, .int .u32 0, .slice none 0 0, .slice none 0 0, .slice none 0 0], .agg #[.int .u16 0, .slice none 0 0]], []⟩ 8 (by kernel_rfl) (by kernel_rfl) (by kernel_rfl)
      (x := ([.nil, .agg [.nil, .nil], .agg [.lit (.int .u32 0), .lit (.int .u32 0), .nil, .nil, .nil], .agg [.lit (.int .u16 0), .nil]], [], [])) (by kernel_rfl) rfl (by kernel_rfl)) ?_
  intro W base args ds gs before hval hW _ hk _
  exact contract H enc W base args ds gs before hval hW hk

theorem proved : Rows.WireMessagesUptoSaid :=
  OpenClaim.holds_of_cond 5 Try.f5 rfl rfl rfl rfl rfl rfl rfl ⟨rfl, rfl, rfl, rfl, rfl⟩ rfl rfl rfl rfl rfl (by kernel_rfl) Try.func5 (by kernel_rfl)
    (of_decide_eq_true (by kernel_rfl)) (by unfold Func.isWrapper; first | (rw [if_pos (by decide +kernel)]; kernel_rfl) | (rw [if_neg (by decide +kernel)]; exact ⟨rfl, rfl⟩))
    (fun os started H enc _ F => lifted os started H enc F)
end Go.Proofs.Ytdhckndehijemaa.wireMessages
namespace Go.Proofs.Ytdhckndehijemaa
theorem wireMessagesUpto_holds : Rows.WireMessagesUptoSaid := wireMessages.proved
end Go.Proofs.Ytdhckndehijemaa
