/-
  FilesPlays is proved: for every list of calls the law returns true and leaves its argument as it was. No condition beside the form's own.
-/
import Derived.Test.YtpabijfamnghjaaFrame
import Derived.Test.YtpabijfamnghjaaOps
namespace Go.Proofs.Ytpabijfamnghjaa.filesPlays
open Go.ChangeShapes Go.WideShapes Go.ChangeAt Go.RowKit
open Go.ChangeMaps (open_string shut_string)
set_option linter.unusedVariables false

theorem bytes33 : Try.prog.bytesOf 33 = 56 := by kernel_rfl

theorem weightsAll_mem {H : Type} {P : Program} {e : TypeId} : ∀ {ds : List (DataW H)} {d : DataW H}, d ∈ ds → ∀ n ∈ d.weights P e, n ∈ DataW.weightsAll P e ds
  | d0 :: ds, d, hd, n, hn => by
    simp only [DataW.weightsAll, List.mem_append]
    rcases List.mem_cons.1 hd with rfl | hd
    · exact .inl hn
    · exact .inr (weightsAll_mem hd n hn)

set_option maxRecDepth 100000 in
theorem lifted (os : Os) (started : os.Started) (H : Type) (enc : TypeId × Value → H) :
    ReturnsInHanded {} Try.checked os 3 .any (Rows.filesPlaysSpec.pre6 enc Try.prog Try.f3 Rows.filesPlaysRow.domain false) (Rows.filesPlaysSpec.post enc Try.prog Try.f3 false true false false) := by
  refine returnsInHanded_of_change_sized (C := Try.checked) own started (by kernel_rfl) Try.func3
    (ChangeSpec.witness6 (enc := enc) (C := Try.checked) false ⟨#[], #[.slice none 0 0], []⟩ 8 (by kernel_rfl) (by kernel_rfl) (by kernel_rfl) (by kernel_rfl)) ?_
  intro W base args ds gs before hval0 hW hcnd hsz0 _
  have hsz : (DataW.weightsEach Try.prog (Try.f3.params.toList ++ Rows.filesPlaysSpec.plain.varTypes Try.prog) (ds ++ gs)).all (· ≤ reachBytes) = true := hsz0
  clear hsz0
  have hval : ∀ (j : Nat) t v, Try.f3.params[j]? = some t → args[j]? = some v → Value.okWide Try.prog W .any base t v := hval0
  have hW' := hW
  obtain ⟨p, q, hA0, hV, rfl, hfz, hnd⟩ := hW
  have hA : DataW.TrodAll enc Try.prog W 0 (fun _ => true) true Try.f3.params.toList args.toList ds p := hA0
  rw [Try.params3] at hA hval hsz
  obtain ⟨v1, vs1, d1, ds1, p1, q1, hargs, rfl, rfl, h1, r1⟩ := trodAll_cons hA
  obtain ⟨rfl, rfl, rfl⟩ := trodAll_nil r1
  obtain rfl : args = #[v1] := by cases args; simp_all
  obtain ⟨rfl, rfl⟩ := trodVars_none hV
  obtain ⟨a1, len1, cap1, rfl⟩ := okWide_slice Try.underlying22 (hval 0 22 v1 rfl rfl)
  have k1 := h1
  have lt1 : ∀ x ∈ p1, x.block < W.heap.size := by obtain ⟨m, hm⟩ := k1; exact DataW.trod_lt m _ _ _ hm
  have row : len1 ≤ 2932031007402 ∧ OpRow W a1 len1 := by
    obtain ⟨fuel, hf⟩ := h1
    rcases open_ops (by simpa [Value.cells] using hf) with ⟨rfl, rfl, _⟩ | ⟨D, hl, hm, hx, hrow⟩
    · exact ⟨by omega, fun j hj => by omega⟩
    · have hd : d1 = .slice ((List.range len1).map D) ((List.range (cap1 - len1)).map fun j => D (len1 + j)) := hx
      subst hd
      have hre := sized_slice hsz (j := 0) (t := 22) (e := 33) rfl rfl Try.underlying22
      rw [bytes33] at hre
      simp only [List.length_map, List.length_range, reachBytes] at hre
      refine ⟨by omega, fun i hi => ?_⟩
      obtain ⟨b, off, call, s, so, sn, sc, n, ys, q, g1, g2, g3, g4, g5, g6, g7, g8, hDi, hq⟩ := hrow i hi
      refine ⟨b, off, call, s, so, sn, sc, n, ys, g1, g2, g3, g4, g5, g6, g7, ?_, g8⟩
      rcases hq with ⟨_, _, rfl⟩ | ⟨zs, rfl, rfl, hzl, hsl⟩
      · omega
      · have hw : ((lits (H := H) .u8 (zs.take sn)).length + (lits (H := H) .u8 (zs.drop sn)).length) * Try.prog.bytesOf 5 ∈ DataW.weights Try.prog 22 (DataW.slice ((List.range len1).map D) ((List.range (cap1 - len1)).map fun j => D (len1 + j))) := by
          simp only [DataW.weights, Try.underlying22, List.mem_cons, List.mem_append]
          refine .inr (.inl (weightsAll_mem (d := D i) (List.mem_map.2 ⟨i, List.mem_range.2 hi, rfl⟩) _ ?_))
          rw [hDi]
          simp only [DataW.weights, Try.underlying33]
          exact DataW.weights_mem_each (j := 2) (t := 31) rfl rfl _ (by simp [DataW.weights, Try.underlying31])
        have := List.all_eq_true.1 hsz _ (DataW.weights_mem_each (j := 0) (t := 22) rfl rfl _ hw)
        rw [bytes5] at this
        simp [lits, reachBytes] at this
        omega
  obtain ⟨hlen, hrow⟩ := row
  clear hA0 hval0
  refine (plays_walk a1 len1 cap1 W hlen hrow).mono fun e W' ⟨he, bel⟩ => ?_
  subst he
  exact ⟨_, rfl, _, _, _, [], _, [], hW', trodAll_mk1 (shut_bool Try.underlying4 _), (trodAll_cons_mk (Below.trod laidOut (by kernel_rfl) (of_decide_eq_true (by kernel_rfl)) k1 bel lt1) trodAll_mk0), rfl, bel.frame _, fun h => by cases h⟩

theorem over : Rows.filesPlaysRow.holds Try.pinned (OpenSpec.ofChange Rows.filesPlaysSpec) :=
  OpenClaim.holds_of_wide 3 Try.f3 rfl rfl rfl rfl rfl rfl rfl ⟨rfl, rfl, rfl, rfl, rfl⟩ rfl rfl rfl rfl rfl (by kernel_rfl) Try.func3 (by kernel_rfl)
    (of_decide_eq_true (by kernel_rfl)) (by unfold Func.isWrapper; first | (rw [if_pos (by decide +kernel)]; kernel_rfl) | (rw [if_neg (by decide +kernel)]; exact ⟨rfl, rfl⟩))
    (fun os started H enc _ => lifted os started H enc)

theorem proved : Rows.FilesPlaysSaid := over
end Go.Proofs.Ytpabijfamnghjaa.filesPlays
namespace Go.Proofs.Ytpabijfamnghjaa
theorem filesPlays_holds : Rows.FilesPlaysSaid := filesPlays.proved
end Go.Proofs.Ytpabijfamnghjaa
