/-
  WorldPipes is proved in its second form: where room and the list of calls are together of bulk at most 1048576, for every such room and list the law returns true and leaves its arguments as they were.
  The bound is the given one alone; it pays for a list that is filled by Alter and Move again and again, whose bytes no memory bears where calls are more than any machine holds.
  The walk is YtiegofelidnnlaaPipesWalk's, the opening of the list of calls YtiegofelidnnlaaOps's.
-/
import Derived.Test.YtiegofelidnnlaaRows
import Derived.Test.YtiegofelidnnlaaPipesWalk
import Derived.Test.YtiegofelidnnlaaOps
import Derived.WalkKit
import Derived.ProofKit
import Derived.OpenShut
import Derived.JoinedCond
import Derived.Below
namespace Go.Proofs.Ytiegofelidnnlaa.worldPipes
open Go.ChangeShapes Go.WideShapes Go.ChangeAt Go.RowKit
set_option linter.unusedVariables false

theorem own : ownKnob Try.prog.godebug = none := by kernel_rfl
theorem laidOut : laidOutB Try.prog = true := by kernel_rfl

theorem bulk_append {H : Type} (l r : List (DataW H)) : Rows.uptoBulkAll (l ++ r) = Rows.uptoBulkAll l + Rows.uptoBulkAll r := by
  induction l with
  | nil => simp [Rows.uptoBulkAll]
  | cons x l ih => simp only [List.cons_append, Rows.uptoBulkAll, ih]; omega

theorem bulk_one {H : Type} (d : DataW H) : 1 ≤ Rows.uptoBulk d := by
  cases d with
  | lit l => cases l <;> simp [Rows.uptoBulk]
  | nil => simp [Rows.uptoBulk]
  | ptr d => simp [Rows.uptoBulk]
  | slice elems spare => simp [Rows.uptoBulk]
  | agg parts => simp [Rows.uptoBulk]
  | iface t d => simp [Rows.uptoBulk]
  | map entries => simp [Rows.uptoBulk]
  | held h => simp [Rows.uptoBulk]

theorem bulk_len {H : Type} (l : List (DataW H)) : l.length ≤ Rows.uptoBulkAll l := by
  induction l with
  | nil => simp [Rows.uptoBulkAll]
  | cons x r ih => have := bulk_one x; simp only [Rows.uptoBulkAll, List.length_cons]; omega

/-- A call's bytes are no more than its bulk. -/
theorem bulk_call {H : Type} {q : DataW H} {sn sc : Nat} {ys : List Int} {x y z : DataW H} (hq : BytesAs q sn sc ys) : ys.length + 1 ≤ Rows.uptoBulk (DataW.agg [x, y, z, q]) := by
  have hqb : ys.length ≤ Rows.uptoBulk q := by
    rcases hq with ⟨rfl, rfl⟩ | ⟨zs, rfl, rfl, _, _⟩
    · simp
    · have h1 := bulk_len (lits (H := H) .u8 (zs.take sn))
      simp only [Rows.uptoBulk]
      simp only [lits, List.length_map] at h1
      simp only [lits]
      omega
  simp only [Rows.uptoBulk, Rows.uptoBulkAll]
  omega

/-- The bytes of all calls together are no more than the list's bulk. -/
theorem bulk_tot {H : Type} (D : Nat → DataW H) (Y : Nat → List Int) : ∀ (len : Nat), (∀ i, i < len → (Y i).length + 1 ≤ Rows.uptoBulk (D i)) → tot Y len + len ≤ Rows.uptoBulkAll ((List.range len).map D)
  | 0, _ => by simp [tot, Rows.uptoBulkAll]
  | len + 1, h => by
    have ih := bulk_tot D Y len (fun i hi => h i (by omega))
    have hl := h len (by omega)
    rw [List.range_succ, List.map_append, bulk_append]
    simp only [List.map_cons, List.map_nil, Rows.uptoBulkAll, tot]
    omega

theorem contract (H : Type) (enc : TypeId × Value → H) (W : World) (base : Nat) (args : Array Value) (ds gs : List (DataW H)) (before : List MemPlace)
    (hval : ∀ (j : Nat) t v, Try.f6.params[j]? = some t → args[j]? = some v → Value.okWide Try.prog W .any base t v)
    (hW : DataW.Whole enc Try.prog Try.f6.params.toList Rows.worldPipesSpec.vars false W args.toList ds gs before) (hk : Rows.uptoSmall H (ds ++ gs) = true) :
    Calls Try.prog 6 args W fun e W' => ∃ v, e = .returned v ∧ Rows.worldPipesSpec.post enc Try.prog Try.f6 false true false false W args v W' := by
  have hW' := hW
  obtain ⟨p, q, hA0, hV, rfl, hfz, hnd⟩ := hW
  have hA : DataW.TrodAll enc Try.prog W 0 (fun _ => true) true Try.f6.params.toList args.toList ds p := hA0
  rw [Try.params6] at hA hval
  obtain ⟨v0, vs0, d0, ds0, p0, q0, hargs, rfl, rfl, h0, r0⟩ := trodAll_cons hA
  obtain ⟨v1, vs1, d1, ds1, p1, q1, rfl, rfl, rfl, h1, r1⟩ := trodAll_cons r0
  obtain ⟨rfl, rfl, rfl⟩ := trodAll_nil r1
  obtain rfl : args = #[v0, v1] := by cases args; simp_all
  obtain ⟨rfl, rfl⟩ := trodVars_none hV
  obtain ⟨a0, rfl, rfl, rfl, w0⟩ := open_int Try.underlying3 (hval 0 3 v0 rfl rfl) h0
  obtain ⟨a1, len1, cap1, rfl⟩ := okWide_slice Try.underlying42 (hval 1 42 v1 rfl rfl)
  have k1 := h1
  have lt1 : ∀ x ∈ p1, x.block < W.heap.size := by obtain ⟨m, hm⟩ := k1; exact DataW.trod_lt m _ _ _ hm
  have hbulk : Rows.uptoBulkAll ([DataW.lit (.int .i64 a0), d1] ++ []) ≤ 1048576 := of_decide_eq_true hk
  have row : ∃ Y, len1 ≤ 2932031007402 ∧ OpRow W a1 len1 Y ∧ tot Y len1 ≤ 1048576 := by
    obtain ⟨fuel, hf⟩ := h1
    rcases open_ops (by simpa [Value.cells] using hf) with ⟨rfl, rfl, _⟩ | ⟨D, hl, hm, hx, hrow⟩
    · exact ⟨fun _ => [], by omega, fun j hj => by omega, by simp [tot]⟩
    · have hd : d1 = .slice ((List.range len1).map D) ((List.range (cap1 - len1)).map fun j => D (len1 + j)) := hx
      subst hd
      simp only [List.append_nil, Rows.uptoBulkAll, Rows.uptoBulk] at hbulk
      have each : ∀ i, i < len1 → ∃ ys : List Int, (∃ b off call at' n so sn sc, a1 = some ⟨b, off, none⟩ ∧ b < W.heap.size ∧ W.cell? ⟨b, off + i * 4, none⟩ = some (.int .i64 call) ∧ W.cell? ⟨b, off + i * 4 + 1, none⟩ = some (.int .i64 at') ∧
          W.cell? ⟨b, off + i * 4 + 2, none⟩ = some (.int .i64 n) ∧ W.cell? ⟨b, off + i * 4 + 3, none⟩ = some (.slice so sn sc) ∧ Rd W (.slice so sn sc) ys ∧
          (-9223372036854775808 ≤ at' ∧ at' ≤ 9223372036854775807) ∧ (-9223372036854775808 ≤ n ∧ n ≤ 9223372036854775807) ∧ (-9223372036854775808 ≤ call ∧ call ≤ 9223372036854775807)) ∧ ys.length + 1 ≤ Rows.uptoBulk (D i) := by
        intro i hi
        obtain ⟨b, off, call, at', n, so, sn, sc, ys, q, g1, g2, g3, g4, g5, g6, g7, g8, g9, g10, hDi, hq⟩ := hrow i hi
        exact ⟨ys, ⟨b, off, call, at', n, so, sn, sc, g1, g2, g3, g4, g5, g6, g7, g8, g9, g10⟩, by rw [hDi]; exact bulk_call hq⟩
      obtain ⟨Y, hY⟩ := Go.Deep.choose_lt each
      have ht := bulk_tot D Y len1 (fun i hi => (hY i hi).2)
      have htl : tot Y len1 ≤ 1048576 := by omega
      refine ⟨Y, by omega, fun j hj => ?_, htl⟩
      obtain ⟨b, off, call, at', n, so, sn, sc, g1, g2, g3, g4, g5, g6, g7, g8, g9, g10⟩ := (hY j hj).1
      have hyj : (Y j).length ≤ 1048576 := by
        have := tot_le Y (k := j + 1) (m := len1) (by omega)
        simp only [tot] at this
        omega
      exact ⟨b, off, call, at', n, so, sn, sc, g1, g2, g3, g4, g5, g6, g7, by omega, g8, g9, g10⟩
  obtain ⟨Y, hlen, hrow, htot⟩ := row
  clear hA0
  refine (pipes_walk a0 a1 len1 cap1 Y W hlen hrow htot).mono fun e W' ⟨he, bel⟩ => ?_
  subst he
  exact ⟨_, rfl, _, _, _, [], _, [], hW', trodAll_mk1 (shut_bool Try.underlying4 _), (trodAll_cons_mk (shut_int Try.underlying3 w0) (trodAll_cons_mk (Below.trod laidOut (by kernel_rfl) (of_decide_eq_true (by kernel_rfl)) k1 bel lt1) trodAll_mk0)), rfl, bel.frame _, fun h => by cases h⟩

set_option maxRecDepth 100000 in
theorem lifted (os : Os) (started : os.Started) (H : Type) (enc : TypeId × Value → H) (F : Stop.Interp) :
    ReturnsInHanded {} Try.checked os 6 .any ((Rows.OpenSpec.upto Rows.worldPipesSpec).pre6 enc Try.prog Try.f6 Rows.worldPipesUptoRow.domain false) (((Rows.OpenSpec.upto Rows.worldPipesSpec).at F).post enc Try.prog Try.f6 false true false false) := by
  refine returnsInHanded_of_cond (C := Try.checked) (s := Rows.OpenSpec.upto Rows.worldPipesSpec) (k := Rows.uptoSmall) rfl own started (by kernel_rfl) Try.func6
    (OpenSpec.witness (enc := enc) (C := Try.checked) (s := Rows.OpenSpec.upto Rows.worldPipesSpec) (k := Rows.uptoSmall) rfl false ⟨#[], #[.int .i64 0, .slice none 0 0], []⟩ 8 (by kernel_rfl) (by kernel_rfl) (by kernel_rfl)
      (x := ([.lit (.int .i64 0), .nil], [], [])) (by kernel_rfl) rfl (by kernel_rfl)) ?_
  intro W base args ds gs before hval hW _ hk _
  exact contract H enc W base args ds gs before hval hW hk

theorem proved : Rows.WorldPipesUptoSaid :=
  OpenClaim.holds_of_cond 6 Try.f6 rfl rfl rfl rfl rfl rfl rfl ⟨rfl, rfl, rfl, rfl, rfl⟩ rfl rfl rfl rfl rfl (by kernel_rfl) Try.func6 (by kernel_rfl)
    (of_decide_eq_true (by kernel_rfl)) (by unfold Func.isWrapper; first | (rw [if_pos (by decide +kernel)]; kernel_rfl) | (rw [if_neg (by decide +kernel)]; exact ⟨rfl, rfl⟩))
    (fun os started H enc _ F => lifted os started H enc F)
end Go.Proofs.Ytiegofelidnnlaa.worldPipes
namespace Go.Proofs.Ytiegofelidnnlaa
theorem worldPipesUpto_holds : Rows.WorldPipesUptoSaid := worldPipes.proved
end Go.Proofs.Ytiegofelidnnlaa
