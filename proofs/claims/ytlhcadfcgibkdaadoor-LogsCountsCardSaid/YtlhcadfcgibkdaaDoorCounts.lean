/-
  LogsCounts is proved: for every list of steps the law returns true and leaves its arguments as they were. No condition beside the form's own; the tables that it lists are tied to the program's text.
-/
import Derived.Test.YtlhcadfcgibkdaaDoorCards
import Derived.Test.YtlhcadfcgibkdaaDoorTie
import Derived.Test.YtlhcadfcgibkdaaDoorArgs
import Derived.Test.YtlhcadfcgibkdaaDoorCntWalk
import Derived.SevenTiedAt
namespace Go.Proofs.YtlhcadfcgibkdaaDoor.logsCounts
open Go.ChangeShapes Go.WideShapes Go.ChangeAt Go.RowKit Go.Deep
set_option linter.unusedVariables false
set_option maxRecDepth 100000

theorem bytes53 : Tryd.prog.bytesOf 53 = 24 := by kernel_rfl
theorem cells53 : Tryd.prog.cellsOf 53 = 2 := by kernel_rfl

/-- A step's two cells, opened. -/
theorem open_step {H : Type} {enc : TypeId × Value → H} {W : World} {fuel : Nat} {cs : List Value} {x : DataW H × List MemPlace} (h : DataW.trod enc Tryd.prog W 0 (fun _ => true) true fuel 53 cs = some x) :
    ∃ (s : ByteArray) (n : Nat), cs = [.string s, .int .u64 n] ∧ s.size ≤ maxLen ∧ n < 18446744073709551616 := by
  obtain ⟨xs, k, hk, hxy, hcl, hxl, hf⟩ := DataW.trod_struct Tryd.underlying53 h
  rw [cells53] at hcl
  match xs, hxl, cs, hcl with
  | [y0, y1], _, [v0, v1], _ =>
    have g0 := hf 0 _ rfl
    have g1 := hf 1 _ rfl
    simp [cells9, cells22] at g0 g1
    obtain ⟨ev, ee, rfl, we⟩ := DataW.trod_string Tryd.underlying9 g0
    obtain ⟨nn, en, rfl, wn⟩ := DataW.trod_int Tryd.underlying22 g1
    simp at en ee
    subst en
    subst ee
    have hnn : 0 ≤ nn ∧ nn < 18446744073709551616 := by
      simp [Lit.wf, IntKind.min, IntKind.max, IntKind.signed, IntKind.bits] at wn
      omega
    obtain ⟨m, rfl⟩ : ∃ m : Nat, nn = m := ⟨nn.toNat, by omega⟩
    exact ⟨ev, m, rfl, we, by omega⟩

theorem open_steps {H : Type} {enc : TypeId × Value → H} {W : World} {fuel : Nat} {ad : Option Addr} {len cap : Nat} {x : DataW H × List MemPlace} (h : DataW.trod enc Tryd.prog W 0 (fun _ => true) true fuel 48 [.slice ad len cap] = some x) :
    StepRow W ad len ∧ ((x.1 = .nil ∧ len = 0) ∨ ∃ a b, x.1 = .slice a b ∧ a.length + b.length = cap ∧ len ≤ cap) := by
  rcases open_slice Tryd.underlying48 h with ⟨h0, rfl⟩ | ⟨a, len', cap', m, n, D, Pl, e, hb, hl, hm, hmm, rfl, hx⟩
  · simp at h0
    obtain ⟨rfl, rfl, rfl⟩ := h0
    exact ⟨fun i hi => by omega, .inl ⟨rfl, rfl⟩⟩
  · simp at e
    obtain ⟨rfl, rfl, rfl⟩ := e
    simp only [if_true] at hmm
    subst hmm
    refine ⟨fun i hi => ?_, .inr ⟨_, _, rfl, by simp; omega, hl⟩⟩
    obtain ⟨b, off, spot⟩ := a
    have hspot : spot = none := by
      obtain ⟨cs0, h1, _⟩ := hx 0 (by omega)
      rw [cells53] at h1
      obtain ⟨_, hlen, hcell⟩ := World.cells?_some h1
      have e0 := hcell 0 (by omega)
      have e1 : cs0[0]? = some (cs0[0]'(by omega)) := List.getElem?_eq_getElem (by omega)
      rw [e1] at e0
      have := World.cell?_spot e0
      simpa [Addr.add] using this
    subst hspot
    obtain ⟨cs', h1, h2⟩ := hx i (by omega)
    rw [cells53] at h1
    obtain ⟨_, hlen, hcell⟩ := World.cells?_some h1
    obtain ⟨s, n, rfl, hs, hn⟩ := open_step h2
    have e0 := hcell 0 (by omega)
    have e1 := hcell 1 (by omega)
    rw [add_add] at e0 e1
    rw [add_plain] at e0 e1
    simp only [List.getElem?_cons_zero, List.getElem?_cons_succ, Nat.add_zero] at e0 e1
    rw [← Nat.add_assoc] at e1
    exact ⟨b, off, s, n, rfl, World.block_lt_of_cell? W _ e0, e0, e1, hs, hn⟩

theorem lifted (os : Os) (started : os.Started) (H : Type) (enc : TypeId × Value → H) :
    ReturnsInHanded {} Tryd.checked os 7 .any (fun w args => (Rows.logsCountsSpec.pre enc Tryd.prog Tryd.f7 [] false w args ∧ laidMetH Tryd.prog laidL w) ∧ sizedMet enc Tryd.prog Tryd.f7 (OpenSpec.ofChange Rows.logsCountsSpec) false w args)
      (Rows.logsCountsSpec.post enc Tryd.prog Tryd.f7 false true false false) := by
  refine returnsInHanded_of_change_and (C := Tryd.checked) (X := fun w _ => laidMetH Tryd.prog laidL w) (fun _ _ _ hh h => h.of_heap hh) own started (by kernel_rfl) Tryd.func7
    (ChangeSpec.witness_shaped (enc := enc) (C := Tryd.checked) (os := os) (X := fun w _ => laidMetH Tryd.prog laidL w) false (World.doorLaid Tryd.prog 400 os) #[.slice none 0 0] 8 rfl (World.shaped_of_RefB (by kernel_rfl) (by kernel_rfl)) (by kernel_rfl) (by kernel_rfl) (by kernel_rfl) (door_met os _)) ?_
  intro W base args ds gs before hval0 hW hcnd hsz0 hL _
  have hsz : (DataW.weightsEach Tryd.prog (Tryd.f7.params.toList ++ Rows.logsCountsSpec.plain.varTypes Tryd.prog) (ds ++ gs)).all (· ≤ reachBytes) = true := hsz0
  clear hsz0
  have hval : ∀ (j : Nat) t v, Tryd.f7.params[j]? = some t → args[j]? = some v → Value.okWide Tryd.prog W .any base t v := hval0
  have hW' := hW
  obtain ⟨p, q, hA0, hV, rfl, hfz, hnd⟩ := hW
  have hA : DataW.TrodAll enc Tryd.prog W 0 (fun _ => true) true Tryd.f7.params.toList args.toList ds p := hA0
  rw [Tryd.params7] at hA hval hsz
  obtain ⟨v2, vs2, d2, ds2, p2, q2, hargs, rfl, rfl, h2, r2⟩ := trodAll_cons hA
  obtain ⟨rfl, rfl, rfl⟩ := trodAll_nil r2
  obtain rfl : args = #[v2] := by cases args; simp_all
  obtain ⟨rfl, rfl⟩ := trodVars_none hV
  obtain ⟨a1, len1, cap1, rfl⟩ := okWide_slice Tryd.underlying48 (hval 0 48 v2 rfl rfl)
  have k2 := h2
  have lt2 : ∀ x ∈ p2, x.block < W.heap.size := by obtain ⟨m, hm⟩ := k2; exact DataW.trod_lt m _ _ _ hm
  have row : len1 * 24 ≤ 140737488355328 ∧ StepRow W a1 len1 := by
    obtain ⟨fuel, hf⟩ := h2
    obtain ⟨hr, hd⟩ := open_steps (by simpa [Value.cells] using hf)
    refine ⟨?_, hr⟩
    rcases hd with ⟨_, rfl⟩ | ⟨a, b, hx, hab, hle⟩
    · omega
    · have hd : d2 = .slice a b := hx
      subst hd
      have hre := sized_slice hsz (j := 0) (t := 48) (e := 53) rfl rfl Tryd.underlying48
      rw [bytes53] at hre
      simp only [reachBytes] at hre
      omega
  obtain ⟨hlen, hrow⟩ := row
  clear hA0 hval0
  refine (counts_walk a1 len1 cap1 W (tab_of hL) hlen hrow).mono fun e W' ⟨he, bel⟩ => ?_
  subst he
  exact ⟨_, rfl, _, _, _, [], _, [], hW', trodAll_mk1 (shut_bool Tryd.underlying4 _), (trodAll_cons_mk (Below.trod laidOut (by kernel_rfl) (of_decide_eq_true (by kernel_rfl)) k2 bel lt2) trodAll_mk0), rfl, bel.frame _, fun h => by cases h⟩

theorem row_holds : Rows.LogsCountsSaid :=
  OpenClaim.holds_of_wide 7 Tryd.f7 rfl rfl rfl rfl rfl rfl rfl ⟨rfl, rfl, rfl, rfl, rfl⟩ rfl rfl rfl rfl rfl (by kernel_rfl) Tryd.func7 (by kernel_rfl)
    (of_decide_eq_true (by kernel_rfl)) (by unfold Func.isWrapper; first | (rw [if_pos (by decide +kernel)]; kernel_rfl) | (rw [if_neg (by decide +kernel)]; exact ⟨rfl, rfl⟩))
    (fun os started H enc _ => lifted os started H enc)

theorem card_holds : Rows.LogsCountsCardSaid :=
  Claim7.holds_tied_plain_at .later [] [.data, .data, .data] true (true, "b30952057cad864e611bf4f8ee3b3ff8d2ef88a083e86a2e86b8c5be08b276f7") false
    row_holds (fun _ h => by cases h) (by kernel_rfl) (fun _ h => by cases h) logsCounts_row_tie rfl ⟨rfl, rfl⟩ (by kernel_rfl) rfl
    (fun f fn hf hfn => by
      obtain rfl : f = 7 := Option.some.inj ((show Tryd.prog.funcNamed "drawbridge/drawbridgelaw03.LogsCounts" = some 7 by kernel_rfl).symm.trans hf) |>.symm
      obtain rfl : fn = Tryd.f7 := (Option.some.inj (Tryd.func7.symm.trans hfn)).symm
      exact ⟨by kernel_rfl, fun j t ht => by
        rw [Tryd.params7] at ht
        have hm : t ∈ [48] := by simpa using Array.mem_of_getElem? ht
        have hall : ([48].all fun u => !Tryd.prog.wantsStandIn u) = true := by kernel_rfl
        exact (show Tryd.prog.wantsStandIn t = false by simpa using List.all_eq_true.1 hall t hm)⟩)
    (by kernel_rfl)
end Go.Proofs.YtlhcadfcgibkdaaDoor.logsCounts
namespace Go.Proofs.YtlhcadfcgibkdaaDoor
theorem logsCounts_holds : Rows.LogsCountsCardSaid := logsCounts.card_holds
end Go.Proofs.YtlhcadfcgibkdaaDoor
