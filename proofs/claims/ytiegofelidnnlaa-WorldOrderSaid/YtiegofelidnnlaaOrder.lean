/-
  WorldOrder is proved: for every room and every list of calls the law returns true and leaves its arguments as they were. No condition beside the form's own.
  The frame follows the kit's shell for a law over slices; the walk is YtiegofelidnnlaaOrderWalk's, the opening of the list of calls YtiegofelidnnlaaOps's.
-/
import Derived.Test.YtiegofelidnnlaaRows
import Derived.Test.YtiegofelidnnlaaOps
import Derived.WalkKit
import Derived.ProofKit
import Derived.OpenShut
import Derived.ShutString
import Derived.ChangeOld
import Derived.Below
import Derived.SizedLaws
namespace Go.Proofs.Ytiegofelidnnlaa.worldOrder
open Go.ChangeShapes Go.WideShapes Go.ChangeAt Go.RowKit
open Go.ChangeMaps (open_string shut_string)
set_option linter.unusedVariables false

theorem own : ownKnob Try.prog.godebug = none := by kernel_rfl
theorem laidOut : laidOutB Try.prog = true := by kernel_rfl
theorem bytes5 : Try.prog.bytesOf 5 = 1 := by kernel_rfl
theorem bytes52 : Try.prog.bytesOf 52 = 48 := by kernel_rfl

theorem weightsAll_mem {H : Type} {P : Program} {e : TypeId} : ∀ {ds : List (DataW H)} {d : DataW H}, d ∈ ds → ∀ n ∈ d.weights P e, n ∈ DataW.weightsAll P e ds
  | d0 :: ds, d, hd, n, hn => by
    simp only [DataW.weightsAll, List.mem_append]
    rcases List.mem_cons.1 hd with rfl | hd
    · exact .inl hn
    · exact .inr (weightsAll_mem hd n hn)

set_option maxRecDepth 100000 in
theorem lifted (os : Os) (started : os.Started) (H : Type) (enc : TypeId × Value → H) :
    ReturnsInHanded {} Try.checked os 7 .any (Rows.worldOrderSpec.pre6 enc Try.prog Try.f7 Rows.worldOrderRow.domain false) (Rows.worldOrderSpec.post enc Try.prog Try.f7 false true false false) := by
  refine returnsInHanded_of_change_sized (C := Try.checked) own started (by kernel_rfl) Try.func7
    (ChangeSpec.witness6 (enc := enc) (C := Try.checked) false ⟨#[], #[.int .i64 0, .slice none 0 0], []⟩ 8 (by kernel_rfl) (by kernel_rfl) (by kernel_rfl) (by kernel_rfl)) ?_
  intro W base args ds gs before hval0 hW hcnd hsz0 _
  have hsz : (DataW.weightsEach Try.prog (Try.f7.params.toList ++ Rows.worldOrderSpec.plain.varTypes Try.prog) (ds ++ gs)).all (· ≤ reachBytes) = true := hsz0
  clear hsz0
  have hval : ∀ (j : Nat) t v, Try.f7.params[j]? = some t → args[j]? = some v → Value.okWide Try.prog W .any base t v := hval0
  have hW' := hW
  obtain ⟨p, q, hA0, hV, rfl, hfz, hnd⟩ := hW
  have hA : DataW.TrodAll enc Try.prog W 0 (fun _ => true) true Try.f7.params.toList args.toList ds p := hA0
  rw [Try.params7] at hA hval hsz
  obtain ⟨v0, vs0, d0, ds0, p0, q0, hargs, rfl, rfl, h0, r0⟩ := trodAll_cons hA
  obtain ⟨v1, vs1, d1, ds1, p1, q1, rfl, rfl, rfl, h1, r1⟩ := trodAll_cons r0
  obtain ⟨rfl, rfl, rfl⟩ := trodAll_nil r1
  obtain rfl : args = #[v0, v1] := by cases args; simp_all
  obtain ⟨rfl, rfl⟩ := trodVars_none hV
  obtain ⟨a0, rfl, rfl, rfl, w0⟩ := open_int Try.underlying3 (hval 0 3 v0 rfl rfl) h0
  obtain ⟨a1, len1, cap1, rfl⟩ := okWide_slice Try.underlying42 (hval 1 42 v1 rfl rfl)
  have k1 := h1
  have lt1 : ∀ x ∈ p1, x.block < W.heap.size := by obtain ⟨m, hm⟩ := k1; exact DataW.trod_lt m _ _ _ hm
  have row : ∃ Y, len1 ≤ 2932031007402 ∧ OpRow W a1 len1 Y := by
    obtain ⟨fuel, hf⟩ := h1
    rcases open_ops (by simpa [Value.cells] using hf) with ⟨rfl, rfl, _⟩ | ⟨D, hl, hm, hx, hrow⟩
    · exact ⟨fun _ => [], by omega, fun j hj => by omega⟩
    · have hd : d1 = .slice ((List.range len1).map D) ((List.range (cap1 - len1)).map fun j => D (len1 + j)) := hx
      subst hd
      have hre := sized_slice hsz (j := 1) (t := 42) (e := 52) rfl rfl Try.underlying42
      rw [bytes52] at hre
      simp only [List.length_map, List.length_range, reachBytes] at hre
      have each : ∀ i, i < len1 → ∃ ys : List Int, ∃ b off call at' n so sn sc, a1 = some ⟨b, off, none⟩ ∧ b < W.heap.size ∧ W.cell? ⟨b, off + i * 4, none⟩ = some (.int .i64 call) ∧ W.cell? ⟨b, off + i * 4 + 1, none⟩ = some (.int .i64 at') ∧
          W.cell? ⟨b, off + i * 4 + 2, none⟩ = some (.int .i64 n) ∧ W.cell? ⟨b, off + i * 4 + 3, none⟩ = some (.slice so sn sc) ∧ Rd W (.slice so sn sc) ys ∧ ys.length ≤ 140737488351232 ∧
          (-9223372036854775808 ≤ at' ∧ at' ≤ 9223372036854775807) ∧ (-9223372036854775808 ≤ n ∧ n ≤ 9223372036854775807) ∧ (-9223372036854775808 ≤ call ∧ call ≤ 9223372036854775807) := by
        intro i hi
        obtain ⟨b, off, call, at', n, so, sn, sc, ys, q, g1, g2, g3, g4, g5, g6, g7, g8, g9, g10, hDi, hq⟩ := hrow i hi
        refine ⟨ys, b, off, call, at', n, so, sn, sc, g1, g2, g3, g4, g5, g6, g7, ?_, g8, g9, g10⟩
        rcases hq with ⟨_, rfl⟩ | ⟨zs, rfl, rfl, hzl, hsl⟩
        · simp
        · have hw : ((lits (H := H) .u8 (zs.take sn)).length + (lits (H := H) .u8 (zs.drop sn)).length) * Try.prog.bytesOf 5 ∈ DataW.weights Try.prog 42 (DataW.slice ((List.range len1).map D) ((List.range (cap1 - len1)).map fun j => D (len1 + j))) := by
            simp only [DataW.weights, Try.underlying42, List.mem_cons, List.mem_append]
            refine .inr (.inl (weightsAll_mem (d := D i) (List.mem_map.2 ⟨i, List.mem_range.2 hi, rfl⟩) _ ?_))
            rw [hDi]
            simp only [DataW.weights, Try.underlying52]
            exact DataW.weights_mem_each (j := 3) (t := 32) rfl rfl _ (by simp [DataW.weights, Try.underlying32])
          have := List.all_eq_true.1 hsz _ (DataW.weights_mem_each (j := 1) (t := 42) rfl rfl _ hw)
          rw [bytes5] at this
          simp [lits, reachBytes] at this
          simp
          omega
      have hch : ∃ Y : Nat → List Int, ∀ i, i < len1 → ∃ b off call at' n so sn sc, a1 = some ⟨b, off, none⟩ ∧ b < W.heap.size ∧ W.cell? ⟨b, off + i * 4, none⟩ = some (.int .i64 call) ∧ W.cell? ⟨b, off + i * 4 + 1, none⟩ = some (.int .i64 at') ∧
          W.cell? ⟨b, off + i * 4 + 2, none⟩ = some (.int .i64 n) ∧ W.cell? ⟨b, off + i * 4 + 3, none⟩ = some (.slice so sn sc) ∧ Rd W (.slice so sn sc) (Y i) ∧ (Y i).length ≤ 140737488351232 ∧
          (-9223372036854775808 ≤ at' ∧ at' ≤ 9223372036854775807) ∧ (-9223372036854775808 ≤ n ∧ n ≤ 9223372036854775807) ∧ (-9223372036854775808 ≤ call ∧ call ≤ 9223372036854775807) := Go.Deep.choose_lt each
      obtain ⟨Y, hY⟩ := hch
      exact ⟨Y, by omega, hY⟩
  obtain ⟨Y, hlen, hrow⟩ := row
  clear hA0 hval0
  refine (order_walk a0 a1 len1 cap1 Y W hlen hrow (bounds_i64 w0)).mono fun e W' ⟨he, bel⟩ => ?_
  subst he
  exact ⟨_, rfl, _, _, _, [], _, [], hW', trodAll_mk1 (shut_bool Try.underlying4 _), (trodAll_cons_mk (shut_int Try.underlying3 w0) (trodAll_cons_mk (Below.trod laidOut (by kernel_rfl) (of_decide_eq_true (by kernel_rfl)) k1 bel lt1) trodAll_mk0)), rfl, bel.frame _, fun h => by cases h⟩

theorem over : Rows.worldOrderRow.holds Try.pinned (OpenSpec.ofChange Rows.worldOrderSpec) :=
  OpenClaim.holds_of_wide 7 Try.f7 rfl rfl rfl rfl rfl rfl rfl ⟨rfl, rfl, rfl, rfl, rfl⟩ rfl rfl rfl rfl rfl (by kernel_rfl) Try.func7 (by kernel_rfl)
    (of_decide_eq_true (by kernel_rfl)) (by unfold Func.isWrapper; first | (rw [if_pos (by decide +kernel)]; kernel_rfl) | (rw [if_neg (by decide +kernel)]; exact ⟨rfl, rfl⟩))
    (fun os started H enc _ => lifted os started H enc)

theorem proved : Rows.WorldOrderSaid := over
end Go.Proofs.Ytiegofelidnnlaa.worldOrder
namespace Go.Proofs.Ytiegofelidnnlaa
theorem worldOrder_holds : Rows.WorldOrderSaid := worldOrder.proved
end Go.Proofs.Ytiegofelidnnlaa
