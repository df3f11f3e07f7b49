/-
  WirePuts is proved in its second form: for all data of extensions of bulk at most 1048576 the law returns true and leaves its arguments as they were. No condition beside the form's own.
-/
import Derived.Test.YtdhckndehijemaaAu
import Derived.Test.YtdhckndehijemaaYg
namespace Go.Proofs.Ytdhckndehijemaa
open Go.ChangeShapes Go.WideShapes Go.ChangeAt Go.RowKit Go.Deep
set_option maxRecDepth 100000
set_option linter.unusedVariables false
theorem tru98 : TrU tDatW 98 := tru_struct (ts := [.str, .lst (.num .u16), .lst .str, .byt, .lst tExt, .lst tPSK, .lst tExt, .num .u16]) Try.underlying98
  ⟨rfl, by kernel_rfl, tru9, rfl, by kernel_rfl, tru33, rfl, by kernel_rfl, tru76, rfl, by kernel_rfl, tru23, rfl, by kernel_rfl, tru82, rfl, by kernel_rfl, tru92, rfl, by kernel_rfl, tru34, rfl, by kernel_rfl, tru32, trivial⟩ (by simp) (by kernel_rfl)
theorem Rel.byt1 {F : Nat → Prop} {w : World} {us : List Value} {x : List Int} (h : Rel .byt F w us x) : ∃ a l c, us = [.slice a l c] := by
  obtain ⟨v, rfl, h3, -⟩ := h
  obtain ⟨ao, n, c, rfl, -⟩ := h3.shape
  exact ⟨ao, n, c, rfl⟩
theorem Rel.lst1 {e : Ty} {F : Nat → Prop} {w : World} {us : List Value} {x : List e.Dat} (h : Rel (.lst e) F w us x) : ∃ a l c, us = [.slice a l c] := by
  obtain ⟨ao, n, c, rfl, -⟩ := h
  exact ⟨ao, n, c, rfl⟩
theorem Rel.num1 {k : IntKind} {F : Nat → Prop} {w : World} {us : List Value} {x : (Ty.num k).Dat} (h : Rel (.num k) F w us x) : ∃ n : Int, us = [.int k n] := ⟨x, h.1⟩
theorem Rel.str1 {F : Nat → Prop} {w : World} {us : List Value} {x : List Int} (h : Rel .str F w us x) : ∃ S, us = [.string S] := ⟨_, h.1⟩
end Go.Proofs.Ytdhckndehijemaa
namespace Go.Proofs.Ytdhckndehijemaa.wirePuts
open Go.ChangeShapes Go.WideShapes Go.ChangeAt Go.RowKit Go.Deep
set_option linter.unusedVariables false

theorem agg_of {cs : Array Value} {l : List Value} (h : cs.toList = l) : cs = l.toArray := by
  cases cs
  simp at h
  rw [h]

set_option maxRecDepth 100000 in
theorem contract (H : Type) (enc : TypeId × Value → H) (W : World) (base : Nat) (args : Array Value) (ds gs : List (DataW H)) (before : List MemPlace)
    (hval0 : ∀ (j : Nat) t v, Try.f7.params[j]? = some t → args[j]? = some v → Value.okWide Try.prog W .any base t v)
    (hW : DataW.Whole enc Try.prog Try.f7.params.toList Rows.wirePutsSpec.vars false W args.toList ds gs before) (hk : Rows.uptoSmall H (ds ++ gs) = true) :
    Calls Try.prog 7 args W fun e W' => ∃ v, e = .returned v ∧ Rows.wirePutsSpec.post enc Try.prog Try.f7 false true false false W args v W' := by
  have hval : ∀ (j : Nat) t v, Try.f7.params[j]? = some t → args[j]? = some v → Value.okWide Try.prog W .any base t v := hval0
  have hW' := hW
  obtain ⟨p, q, hA0, hV, rfl, hfz, hnd⟩ := hW
  have hA : DataW.TrodAll enc Try.prog W 0 (fun _ => true) true Try.f7.params.toList args.toList ds p := hA0
  rw [Try.params7] at hA hval
  obtain ⟨v0, vs0, d0, ds0, p0, q0, hargs, rfl, rfl, h0, r0⟩ := trodAll_cons hA
  obtain ⟨rfl, rfl, rfl⟩ := trodAll_nil r0
  obtain rfl : args = #[v0] := by cases args; simp_all
  obtain ⟨rfl, rfl⟩ := trodVars_none hV
  obtain ⟨c0, rfl, -⟩ := okWide_struct Try.underlying98 (hval 0 98 v0 rfl rfl)
  have lt0 : ∀ x ∈ p0, x.block < W.heap.size := by obtain ⟨m, hm⟩ := h0; exact DataW.trod_lt m _ _ _ hm
  have hbulk : Rows.uptoBulkAll ([d0] ++ []) ≤ 1048576 := of_decide_eq_true hk
  obtain ⟨x0, g0, s0⟩ := arg_up (Nat.le_trans (bulk_mem (by simp)) hbulk) tru98 h0
  have g0' : Rel tDatW (Bel W.heap.size) W c0.toList x0 := g0
  have b0 : List.length (α := Int) x0.1 ≤ 140737488355328 := Nat.le_trans s0.1 (by decide)
  have b1 : List.length (α := Int) x0.2.1 ≤ 1048576 := s0.2.1.1
  have b2 : List.length (α := List Int) x0.2.2.1 ≤ 1048576 := s0.2.2.1.1
  have b3 : ∀ a ∈ (show List (List Int) from x0.2.2.1), List.length (α := Int) a ≤ 140737488355328 := fun a ha => Nat.le_trans (s0.2.2.1.2 a ha) (by decide)
  have b4 : List.length (α := Ext) x0.2.2.2.2.1 ≤ 1048576 := s0.2.2.2.2.1.1
  have b5 : List.length (α := PSKW) x0.2.2.2.2.2.1 ≤ 1048576 := s0.2.2.2.2.2.1.1
  have b6 : ∀ a ∈ (show List Ext from x0.2.2.2.2.2.2.1), List.length (α := Int) a.2 ≤ 140737488355328 := fun a ha => Nat.le_trans (s0.2.2.2.2.2.2.1.2 a ha).2 (by decide)
  clear g0 s0 hA0 hval0
  obtain ⟨u1, v1, e1, i1, j1⟩ := g0'
  obtain ⟨u2, v2, rfl, i2, j2⟩ := j1
  obtain ⟨u3, v3, rfl, i3, j3⟩ := j2
  obtain ⟨u4, v4, rfl, i4, j4⟩ := j3
  obtain ⟨u5, v5, rfl, i5, j5⟩ := j4
  obtain ⟨u6, v6, rfl, i6, j6⟩ := j5
  obtain ⟨u7, v7, rfl, i7, i8⟩ := j6
  obtain ⟨_, rfl⟩ := i1.str1
  obtain ⟨_, _, _, rfl⟩ := i2.lst1
  obtain ⟨_, _, _, rfl⟩ := i3.lst1
  obtain ⟨_, _, _, rfl⟩ := i4.byt1
  obtain ⟨_, _, _, rfl⟩ := i5.lst1
  obtain ⟨_, _, _, rfl⟩ := i6.lst1
  obtain ⟨_, _, _, rfl⟩ := i7.lst1
  obtain ⟨_, rfl⟩ := i8.num1
  obtain rfl := agg_of e1
  refine (puts_law _ _ _ _ _ _ _ _ _ _ _ _ _ _ _ _ _ _ _ _ x0 W ⟨_, _, rfl, i1, _, _, rfl, i2, _, _, rfl, i3, _, _, rfl, i4, _, _, rfl, i5, _, _, rfl, i6, _, _, rfl, i7, i8⟩ b0 b1 b2 b3 b4 b5 b6).mono fun e W' ⟨he, chg⟩ => ?_
  subst he
  have bel := below chg
  exact ⟨_, rfl, _, _, _, [], _, [], hW', trodAll_mk1 (shut_bool Try.underlying4 _), (trodAll_cons_mk (Below.trod laidOut (by kernel_rfl) (of_decide_eq_true (by kernel_rfl)) h0 bel lt0) trodAll_mk0), rfl, bel.frame _, fun h => by cases h⟩

set_option maxRecDepth 100000 in
theorem lifted (os : Os) (started : os.Started) (H : Type) (enc : TypeId × Value → H) (F : Stop.Interp) :
    ReturnsInHanded {} Try.checked os 7 .any ((Rows.OpenSpec.upto Rows.wirePutsSpec).pre6 enc Try.prog Try.f7 Rows.wirePutsUptoRow.domain false) (((Rows.OpenSpec.upto Rows.wirePutsSpec).at F).post enc Try.prog Try.f7 false true false false) := by
  refine returnsInHanded_of_cond (C := Try.checked) (s := Rows.OpenSpec.upto Rows.wirePutsSpec) (k := Rows.uptoSmall) rfl own started (by kernel_rfl) Try.func7
    (OpenSpec.witness (enc := enc) (C := Try.checked) (s := Rows.OpenSpec.upto Rows.wirePutsSpec) (k := Rows.uptoSmall) rfl false ⟨#[], #[.agg #[.string ⟨#[]⟩, .slice none 0 0, .slice none 0 0, .slice none 0 0, .slice none 0 0, .slice none 0 0, .slice none 0 0, .int .u16 0]], []⟩ 8 (by kernel_rfl) (by kernel_rfl) (by kernel_rfl)
      (x := ([.agg [.lit (.string []), .nil, .nil, .nil, .nil, .nil, .nil, .lit (.int .u16 0)]], [], [])) (by kernel_rfl) rfl (by kernel_rfl)) ?_
  intro W base args ds gs before hval hW _ hk _
  exact contract H enc W base args ds gs before hval hW hk

theorem proved : Rows.WirePutsUptoSaid :=
  OpenClaim.holds_of_cond 7 Try.f7 rfl rfl rfl rfl rfl rfl rfl ⟨rfl, rfl, rfl, rfl, rfl⟩ rfl rfl rfl rfl rfl (by kernel_rfl) Try.func7 (by kernel_rfl)
    (of_decide_eq_true (by kernel_rfl)) (by unfold Func.isWrapper; first | (rw [if_pos (by decide +kernel)]; kernel_rfl) | (rw [if_neg (by decide +kernel)]; exact ⟨rfl, rfl⟩))
    (fun os started H enc _ F => lifted os started H enc F)
end Go.Proofs.Ytdhckndehijemaa.wirePuts
namespace Go.Proofs.Ytdhckndehijemaa
theorem wirePutsUpto_holds : Rows.WirePutsUptoSaid := wirePuts.proved
end Go.Proofs.Ytdhckndehijemaa
