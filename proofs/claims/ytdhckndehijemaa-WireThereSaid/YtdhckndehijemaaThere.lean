/-
  WireThere is proved: for every certificate message, ticket, signature and extensions' data the law returns true and leaves its arguments as they were. No condition beside the form's own.
-/
import Derived.Test.YtdhckndehijemaaAt
namespace Go.Proofs.Ytdhckndehijemaa.wireThere
open Go.ChangeShapes Go.WideShapes Go.ChangeAt Go.RowKit
set_option linter.unusedVariables false

theorem agg_of {cs : Array Value} {l : List Value} (h : cs.toList = l) : cs = l.toArray := by
  cases cs
  simp at h
  rw [h]

set_option maxRecDepth 100000 in
theorem lifted (os : Os) (started : os.Started) (H : Type) (enc : TypeId × Value → H) :
    ReturnsInHanded {} Try.checked os 9 .any (Rows.wireThereSpec.pre6 enc Try.prog Try.f9 Rows.wireThereRow.domain false) (Rows.wireThereSpec.post enc Try.prog Try.f9 false true false false) := by
  refine returnsInHanded_of_change_sized (C := Try.checked) own started (by kernel_rfl) Try.func9
    (ChangeSpec.witness6 (enc := enc) (C := Try.checked) false ⟨#[], #[.agg #[.slice none 0 0, .slice none 0 0], .agg #[.int .u32 0, .int .u32 0, .slice none 0 0, .slice none 0 0, .slice none 0 0], .agg #[.int .u16 0, .slice none 0 0], .agg #[.string ⟨#[]⟩, .slice none 0 0, .slice none 0 0, .slice none 0 0, .slice none 0 0, .slice none 0 0, .slice none 0 0, .int .u16 0]], []⟩ 8 (by kernel_rfl) (by kernel_rfl) (by kernel_rfl) (by kernel_rfl)) ?_
  intro W base args ds gs before hval0 hW hcnd hsz0 _
  have hsz : (DataW.weightsEach Try.prog (Try.f9.params.toList ++ Rows.wireThereSpec.plain.varTypes Try.prog) (ds ++ gs)).all (· ≤ reachBytes) = true := hsz0
  clear hsz0
  have hval : ∀ (j : Nat) t v, Try.f9.params[j]? = some t → args[j]? = some v → Value.okWide Try.prog W .any base t v := hval0
  have hW' := hW
  obtain ⟨p, q, hA0, hV, rfl, hfz, hnd⟩ := hW
  have hA : DataW.TrodAll enc Try.prog W 0 (fun _ => true) true Try.f9.params.toList args.toList ds p := hA0
  rw [Try.params9] at hA hval hsz
  obtain ⟨v0, vs0, d0, ds0, p0, q0, hargs, rfl, rfl, h0, r0⟩ := trodAll_cons hA
  obtain ⟨v1, vs1, d1, ds1, p1, q1, rfl, rfl, rfl, h1, r1⟩ := trodAll_cons r0
  obtain ⟨v2, vs2, d2, ds2, p2, q2, rfl, rfl, rfl, h2, r2⟩ := trodAll_cons r1
  obtain ⟨v3, vs3, d3, ds3, p3, q3, rfl, rfl, rfl, h3, r3⟩ := trodAll_cons r2
  obtain ⟨rfl, rfl, rfl⟩ := trodAll_nil r3
  obtain rfl : args = #[v0, v1, v2, v3] := by cases args; simp_all
  obtain ⟨rfl, rfl⟩ := trodVars_none hV
  obtain ⟨c0, rfl, -⟩ := okWide_struct Try.underlying44 (hval 0 44 v0 rfl rfl)
  obtain ⟨c1, rfl, -⟩ := okWide_struct Try.underlying47 (hval 1 47 v1 rfl rfl)
  obtain ⟨c2, rfl, -⟩ := okWide_struct Try.underlying49 (hval 2 49 v2 rfl rfl)
  obtain ⟨c3, rfl, -⟩ := okWide_struct Try.underlying98 (hval 3 98 v3 rfl rfl)
  have lt0 : ∀ x ∈ p0, x.block < W.heap.size := by obtain ⟨m, hm⟩ := h0; exact DataW.trod_lt m _ _ _ hm
  have lt1 : ∀ x ∈ p1, x.block < W.heap.size := by obtain ⟨m, hm⟩ := h1; exact DataW.trod_lt m _ _ _ hm
  have lt2 : ∀ x ∈ p2, x.block < W.heap.size := by obtain ⟨m, hm⟩ := h2; exact DataW.trod_lt m _ _ _ hm
  have lt3 : ∀ x ∈ p3, x.block < W.heap.size := by obtain ⟨m, hm⟩ := h3; exact DataW.trod_lt m _ _ _ hm
  obtain ⟨x0, g0, -⟩ := arg_in hsz (j := 0) rfl rfl trr44 h0
  obtain ⟨x1, g1, -⟩ := arg_in hsz (j := 1) rfl rfl trr47 h1
  obtain ⟨x2, g2, -⟩ := arg_in hsz (j := 2) rfl rfl trr49 h2
  obtain ⟨x3, g3, s3⟩ := arg_in hsz (j := 3) rfl rfl trr98 h3
  have g0' : Rel tCert (Bel W.heap.size) W c0.toList x0 := g0
  have g1' : Rel tTick (Bel W.heap.size) W c1.toList x1 := g1
  have g2' : Rel tExt (Bel W.heap.size) W c2.toList x2 := g2
  have g3' : Rel tData (Bel W.heap.size) W c3.toList x3 := g3
  clear g0 g1 g2 g3
  obtain ⟨a1, b1, e0, i1, i2⟩ := g0'
  obtain ⟨_, _, _, rfl⟩ := i1.byt1
  obtain ⟨_, _, _, rfl⟩ := i2.lst1
  obtain ⟨a2, b2, e1, j1, j2⟩ := g1'
  obtain ⟨a3, b3, rfl, j2, j3⟩ := j2
  obtain ⟨a4, b4, rfl, j3, j4⟩ := j3
  obtain ⟨a5, b5, rfl, j4, j5⟩ := j4
  obtain ⟨_, rfl⟩ := j1.num1
  obtain ⟨_, rfl⟩ := j2.num1
  obtain ⟨_, _, _, rfl⟩ := j3.byt1
  obtain ⟨_, _, _, rfl⟩ := j4.byt1
  obtain ⟨_, _, _, rfl⟩ := j5.lst1
  obtain ⟨a6, b6, e2, k1, k2⟩ := g2'
  obtain ⟨_, rfl⟩ := k1.num1
  obtain ⟨_, _, _, rfl⟩ := k2.byt1
  obtain ⟨a7, b7, e3, l0, l1⟩ := g3'
  obtain ⟨a8, b8, rfl, l1, l2⟩ := l1
  obtain ⟨a9, b9, rfl, l2, l3⟩ := l2
  obtain ⟨a10, b10, rfl, l3, l4⟩ := l3
  obtain ⟨a11, b11, rfl, l4, l5⟩ := l4
  obtain ⟨a12, b12, rfl, l5, l6⟩ := l5
  obtain ⟨a13, b13, rfl, l6, l7⟩ := l6
  obtain ⟨_, rfl⟩ := l0.str1
  obtain ⟨_, _, _, rfl⟩ := l1.lst1
  obtain ⟨_, _, _, rfl⟩ := l2.lst1
  obtain ⟨_, _, _, rfl⟩ := l3.byt1
  obtain ⟨_, _, _, rfl⟩ := l4.lst1
  obtain ⟨_, _, _, rfl⟩ := l5.lst1
  obtain ⟨_, _, _, rfl⟩ := l6.lst1
  obtain ⟨_, rfl⟩ := l7.num1
  obtain rfl := agg_of e0
  obtain rfl := agg_of e1
  obtain rfl := agg_of e2
  obtain rfl := agg_of e3
  have lh : List.length (α := Int) x3.1 ≤ 140737488355328 := Nat.le_trans s3.1 (by decide)
  have lt : ∀ a ∈ (show List (List Int) from x3.2.2.1), List.length (α := Int) a ≤ 140737488355328 := fun a ha => Nat.le_trans (s3.2.2.1.2 a ha) (by decide)
  clear hA0 hval0
  refine (there_any _ _ _ _ _ _ _ _ _ _ _ _ _ _ _ _ _ _ _ _ _ _ _ _ _ _ _ _ _ _ _ _ _ _ _ _ _ _ _ _ _ x0 x1 x2 x3 W ⟨_, _, rfl, i1, i2⟩ ⟨_, _, rfl, j1, _, _, rfl, j2, _, _, rfl, j3, _, _, rfl, j4, j5⟩ ⟨_, _, rfl, k1, k2⟩ ⟨_, _, rfl, l0, _, _, rfl, l1, _, _, rfl, l2, _, _, rfl, l3, _, _, rfl, l4, _, _, rfl, l5, _, _, rfl, l6, l7⟩ lh lt).mono fun e W' ⟨he, chg⟩ => ?_
  subst he
  have bel := below chg
  exact ⟨_, rfl, _, _, _, [], _, [], hW', trodAll_mk1 (shut_bool Try.underlying4 _), (trodAll_cons_mk (Below.trod laidOut (by kernel_rfl) (of_decide_eq_true (by kernel_rfl)) h0 bel lt0) (trodAll_cons_mk (Below.trod laidOut (by kernel_rfl) (of_decide_eq_true (by kernel_rfl)) h1 bel lt1) (trodAll_cons_mk (Below.trod laidOut (by kernel_rfl) (of_decide_eq_true (by kernel_rfl)) h2 bel lt2) (trodAll_cons_mk (Below.trod laidOut (by kernel_rfl) (of_decide_eq_true (by kernel_rfl)) h3 bel lt3) trodAll_mk0)))), rfl, bel.frame _, fun h => by cases h⟩

theorem over : Rows.wireThereRow.holds Try.pinned (OpenSpec.ofChange Rows.wireThereSpec) :=
  OpenClaim.holds_of_wide 9 Try.f9 rfl rfl rfl rfl rfl rfl rfl ⟨rfl, rfl, rfl, rfl, rfl⟩ rfl rfl rfl rfl rfl (by kernel_rfl) Try.func9 (by kernel_rfl)
    (of_decide_eq_true (by kernel_rfl)) (by unfold Func.isWrapper; first | (rw [if_pos (by decide +kernel)]; kernel_rfl) | (rw [if_neg (by decide +kernel)]; exact ⟨rfl, rfl⟩))
    (fun os started H enc _ => lifted os started H enc)

theorem proved : Rows.WireThereSaid := over
end Go.Proofs.Ytdhckndehijemaa.wireThere
namespace Go.Proofs.Ytdhckndehijemaa
theorem wireThere_holds : Rows.WireThereSaid := wireThere.proved
end Go.Proofs.Ytdhckndehijemaa
