/-
  LogsEncode is proved: for every line the law returns true and leaves its argument as it was. No condition beside the form's own; the tables that it lists are tied to the program's text.
-/
import Derived.Test.YtlhcadfcgibkdaaDoorCards
import Derived.Test.YtlhcadfcgibkdaaDoorTie
import Derived.Test.YtlhcadfcgibkdaaDoorArgs
import Derived.Test.YtlhcadfcgibkdaaDoorEncWalk
import Derived.SevenTiedAt
namespace Go.Proofs.YtlhcadfcgibkdaaDoor.logsEncode
open Go.ChangeShapes Go.WideShapes Go.ChangeAt Go.RowKit
set_option linter.unusedVariables false

set_option maxRecDepth 100000 in
theorem lifted (os : Os) (started : os.Started) (H : Type) (enc : TypeId × Value → H) :
    ReturnsInHanded {} Tryd.checked os 3 .any (fun w args => (Rows.logsEncodeSpec.pre enc Tryd.prog Tryd.f3 [] false w args ∧ laidMetH Tryd.prog laidL w) ∧ sizedMet enc Tryd.prog Tryd.f3 (OpenSpec.ofChange Rows.logsEncodeSpec) false w args)
      (Rows.logsEncodeSpec.post enc Tryd.prog Tryd.f3 false true false false) := by
  refine returnsInHanded_of_change_and (C := Tryd.checked) (X := fun w _ => laidMetH Tryd.prog laidL w) (fun _ _ _ hh h => h.of_heap hh) own started (by kernel_rfl) Tryd.func3
    (ChangeSpec.witness_shaped (enc := enc) (C := Tryd.checked) (os := os) (X := fun w _ => laidMetH Tryd.prog laidL w) false (World.doorLaid Tryd.prog 400 os) #[.agg #[.int .u64 0, .string ⟨#[]⟩, .slice none 0 0]] 8 rfl (World.shaped_of_RefB (by kernel_rfl) (by kernel_rfl)) (by kernel_rfl) (by kernel_rfl) (by kernel_rfl) (door_met os _)) ?_
  intro W base args ds gs before hval0 hW hcnd hsz0 hL _
  have hsz : (DataW.weightsEach Tryd.prog (Tryd.f3.params.toList ++ Rows.logsEncodeSpec.plain.varTypes Tryd.prog) (ds ++ gs)).all (· ≤ reachBytes) = true := hsz0
  clear hsz0
  have hval : ∀ (j : Nat) t v, Tryd.f3.params[j]? = some t → args[j]? = some v → Value.okWide Tryd.prog W .any base t v := hval0
  have hW' := hW
  obtain ⟨p, q, hA0, hV, rfl, hfz, hnd⟩ := hW
  have hA : DataW.TrodAll enc Tryd.prog W 0 (fun _ => true) true Tryd.f3.params.toList args.toList ds p := hA0
  rw [Tryd.params3] at hA hval hsz
  obtain ⟨v1, vs1, d1, ds1, p1, q1, hargs, rfl, rfl, h1, r1⟩ := trodAll_cons hA
  obtain ⟨rfl, rfl, rfl⟩ := trodAll_nil r1
  obtain rfl : args = #[v1] := by cases args; simp_all
  obtain ⟨rfl, rfl⟩ := trodVars_none hV
  obtain ⟨cs, rfl, hcs⟩ := okWide_struct Tryd.underlying25 (hval 0 25 v1 rfl rfl)
  have k1 := h1
  have lt1 : ∀ x ∈ p1, x.block < W.heap.size := by obtain ⟨m, hm⟩ := k1; exact DataW.trod_lt m _ _ _ hm
  obtain ⟨fuel, hf⟩ := h1
  obtain ⟨time, event, ad, len, cap, ps, y, hcs3, htime, hev, hps, h0, hx, hy⟩ := open_line (cs := cs.toList) (by simpa [Value.cells] using hf)
  obtain rfl : cs = #[.int .u64 time, .string event, .slice ad len cap] := by
    obtain ⟨l⟩ := cs
    have hl : l = [.int .u64 time, .string event, .slice ad len cap] := hcs3
    rw [hl]
  have hlen : len ≤ 2932031007317 := by
    rcases hy with ⟨_, rfl⟩ | ⟨a, b, rfl, hab, hle⟩
    · omega
    · have hd : d1 = .agg [.lit (.int .u64 time), .lit (.string event.data.toList), .slice a b] := hx
      subst hd
      have hw : (a.length + b.length) * Tryd.prog.bytesOf 28 ∈ DataW.weights Tryd.prog 25 (DataW.agg [.lit (.int .u64 time), .lit (.string event.data.toList), .slice a b]) := by
        simp only [DataW.weights, Tryd.underlying25]
        exact DataW.weights_mem_each (j := 2) (t := 23) rfl rfl _ (by simp [DataW.weights, Tryd.underlying23])
      have := List.all_eq_true.1 hsz _ (DataW.weights_mem_each (j := 0) (t := 25) rfl rfl _ hw)
      rw [bytes28, hab] at this
      have h5 : cap * 48 ≤ 140737488351232 := of_decide_eq_true this
      omega
  clear hA0 hval0
  refine (encode_walk time event ad len cap ps W (tab_of hL) htime hev hps h0 (by omega)).mono fun e W' ⟨he, bel⟩ => ?_
  subst he
  exact ⟨_, rfl, _, _, _, [], _, [], hW', trodAll_mk1 (shut_bool Tryd.underlying4 _), (trodAll_cons_mk (Below.trod laidOut (by kernel_rfl) (of_decide_eq_true (by kernel_rfl)) k1 bel lt1) trodAll_mk0), rfl, bel.frame _, fun h => by cases h⟩

theorem row_holds : Rows.LogsEncodeSaid :=
  OpenClaim.holds_of_wide 3 Tryd.f3 rfl rfl rfl rfl rfl rfl rfl ⟨rfl, rfl, rfl, rfl, rfl⟩ rfl rfl rfl rfl rfl (by kernel_rfl) Tryd.func3 (by kernel_rfl)
    (of_decide_eq_true (by kernel_rfl)) (by unfold Func.isWrapper; first | (rw [if_pos (by decide +kernel)]; kernel_rfl) | (rw [if_neg (by decide +kernel)]; exact ⟨rfl, rfl⟩))
    (fun os started H enc _ => lifted os started H enc)

theorem card_holds : Rows.LogsEncodeCardSaid :=
  Claim7.holds_tied_plain_at .later [] [.data, .data, .data] true (true, "b30952057cad864e611bf4f8ee3b3ff8d2ef88a083e86a2e86b8c5be08b276f7") false
    row_holds (fun _ h => by cases h) (by kernel_rfl) (fun _ h => by cases h) logsEncode_row_tie rfl ⟨rfl, rfl⟩ (by kernel_rfl) rfl
    (fun f fn hf hfn => by
      obtain rfl : f = 3 := Option.some.inj ((show Tryd.prog.funcNamed "drawbridge/drawbridgelaw03.LogsEncode" = some 3 by kernel_rfl).symm.trans hf) |>.symm
      obtain rfl : fn = Tryd.f3 := (Option.some.inj (Tryd.func3.symm.trans hfn)).symm
      exact ⟨by kernel_rfl, fun j t ht => by
        rw [Tryd.params3] at ht
        have hm : t ∈ [25] := by simpa using Array.mem_of_getElem? ht
        have hall : ([25].all fun u => !Tryd.prog.wantsStandIn u) = true := by kernel_rfl
        exact (show Tryd.prog.wantsStandIn t = false by simpa using List.all_eq_true.1 hall t hm)⟩)
    (by kernel_rfl)
end Go.Proofs.YtlhcadfcgibkdaaDoor.logsEncode
namespace Go.Proofs.YtlhcadfcgibkdaaDoor
theorem logsEncode_holds : Rows.LogsEncodeCardSaid := logsEncode.card_holds
end Go.Proofs.YtlhcadfcgibkdaaDoor
