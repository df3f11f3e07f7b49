/-
  AesCounts is proved: for every list of bytes as a key, every block, every text and every byte the law returns true and leaves its arguments as they were. No condition beside the form's own.
-/
import Derived.Test.YtpbnejgoppkghaaArgs
import Derived.Test.YtpbnejgoppkghaaCtW
namespace Go.Proofs.Ytpbnejgoppkghaa.aesCounts
open Go.ChangeShapes Go.WideShapes Go.ChangeAt Go.RowKit
set_option linter.unusedVariables false

theorem walk (v v2 : Value) (L n c : Nat) (key a txt : Nat → By) (w : World) (hv : Ap.Rd w v (nums L key)) (ht : Ap.Rd w v2 (nums n txt)) (hn : n ≤ 140737488351232) (hc : c < 256) : Calls Try.prog 6 #[v, .agg (ba 16 a), v2, .int .u8 (c : Int)] w fun e w' => e = .returned (.bool true) ∧ Chg w w' := by
  obtain ⟨ao2, n2, c2, rfl, hn2, _⟩ := ht.shape
  rw [nums_len] at hn2
  subst hn2
  by_cases h : L = 16 ∨ L = 32
  · obtain ⟨kb, ko, cc, rfl, h1, h2, h3⟩ := Rd.bs hv (by omega)
    rcases h with rfl | rfl
    · exact counts_walk kb ko cc 16 4 10 _ c2 c ao2 key a txt w h3 rfl (.inl rfl) rfl h1 h2 ht hn hc
    · exact counts_walk kb ko cc 32 8 14 _ c2 c ao2 key a txt w h3 rfl (.inr rfl) rfl h1 h2 ht hn hc
  · obtain ⟨ao, m, cc, rfl, hm, _⟩ := hv.shape
    rw [nums_len] at hm
    subst hm
    exact countsBad_walk ao m cc a _ c w (by omega) (by omega)

set_option maxRecDepth 100000 in
theorem lifted (os : Os) (started : os.Started) (H : Type) (enc : TypeId × Value → H) :
    ReturnsInHanded {} Try.checked os 6 .any (Rows.aesCountsSpec.pre6 enc Try.prog Try.f6 Rows.aesCountsRow.domain false) (Rows.aesCountsSpec.post enc Try.prog Try.f6 false true false false) := by
  refine returnsInHanded_of_change_sized (C := Try.checked) own started (by kernel_rfl) Try.func6
    (ChangeSpec.witness6 (enc := enc) (C := Try.checked) false ⟨#[], #[.slice none 0 0, .agg (ba 16 zB), .slice none 0 0, .int .u8 0], []⟩ 8 (by kernel_rfl) (by kernel_rfl) (by kernel_rfl) (by kernel_rfl)) ?_
  intro W base args ds gs before hval0 hW hcnd hsz0 _
  have hsz : (DataW.weightsEach Try.prog (Try.f6.params.toList ++ Rows.aesCountsSpec.plain.varTypes Try.prog) (ds ++ gs)).all (· ≤ reachBytes) = true := hsz0
  clear hsz0
  have hval : ∀ (j : Nat) t v, Try.f6.params[j]? = some t → args[j]? = some v → Value.okWide Try.prog W .any base t v := hval0
  have hW' := hW
  obtain ⟨p, q, hA0, hV, rfl, hfz, hnd⟩ := hW
  have hA : DataW.TrodAll enc Try.prog W 0 (fun _ => true) true Try.f6.params.toList args.toList ds p := hA0
  rw [Try.params6] at hA hval hsz
  obtain ⟨v0, vs0, d0, ds0, p0, q0, hargs, rfl, rfl, h0, r0⟩ := trodAll_cons hA
  obtain ⟨v1, vs1, d1, ds1, p1, q1, rfl, rfl, rfl, h1, r1⟩ := trodAll_cons r0
  obtain ⟨v2, vs2, d2, ds2, p2, q2, rfl, rfl, rfl, h2, r2⟩ := trodAll_cons r1
  obtain ⟨v3, vs3, d3, ds3, p3, q3, rfl, rfl, rfl, h3, r3⟩ := trodAll_cons r2
  obtain ⟨rfl, rfl, rfl⟩ := trodAll_nil r3
  obtain rfl : args = #[v0, v1, v2, v3] := by cases args; simp_all
  obtain ⟨rfl, rfl⟩ := trodVars_none hV
  obtain ⟨a0, len0, cap0, rfl⟩ := okWide_slice Try.underlying22 (hval 0 22 v0 rfl rfl)
  obtain ⟨a2, len2, cap2, rfl⟩ := okWide_slice Try.underlying22 (hval 2 22 v2 rfl rfl)
  obtain ⟨a3, rfl, rfl, rfl, w3⟩ := open_int Try.underlying5 (hval 3 5 v3 rfl rfl) h3
  have lt0 : ∀ x ∈ p0, x.block < W.heap.size := by obtain ⟨m, hm⟩ := h0; exact DataW.trod_lt m _ _ _ hm
  have lt1 : ∀ x ∈ p1, x.block < W.heap.size := by obtain ⟨m, hm⟩ := h1; exact DataW.trod_lt m _ _ _ hm
  have lt2 : ∀ x ∈ p2, x.block < W.heap.size := by obtain ⟨m, hm⟩ := h2; exact DataW.trod_lt m _ _ _ hm
  obtain ⟨key, w0, l0⟩ := bytes_in hsz (j := 0) rfl rfl h0
  obtain ⟨a, ha⟩ := block_in (hval 1 32 v1 rfl rfl) h1
  obtain ⟨txt, w2, l2⟩ := bytes_in hsz (j := 2) rfl rfl h2
  have u2 : IntKind.u8.min = 0 := rfl
  have u3 : IntKind.u8.max = 255 := rfl
  have r3' := w3
  simp only [Lit.wf, Bool.and_eq_true, decide_eq_true_eq] at r3'
  obtain ⟨m3, rfl⟩ : ∃ m : Nat, a3 = m := ⟨a3.toNat, by omega⟩
  clear hA0 hval0
  subst ha
  refine (walk _ _ len0 len2 m3 key a txt W w0 w2 l2 (by omega)).mono fun e W' ⟨he, chg⟩ => ?_
  subst he
  have bel := below chg
  exact ⟨_, rfl, _, _, _, [], _, [], hW', trodAll_mk1 (shut_bool Try.underlying4 _), (trodAll_cons_mk (Below.trod laidOut (by kernel_rfl) (of_decide_eq_true (by kernel_rfl)) h0 bel lt0) (trodAll_cons_mk (Below.trod laidOut (by kernel_rfl) (of_decide_eq_true (by kernel_rfl)) h1 bel lt1) (trodAll_cons_mk (Below.trod laidOut (by kernel_rfl) (of_decide_eq_true (by kernel_rfl)) h2 bel lt2) (trodAll_cons_mk (shut_int Try.underlying5 w3) trodAll_mk0)))), rfl, bel.frame _, fun h => by cases h⟩

theorem over : Rows.aesCountsRow.holds Try.pinned (OpenSpec.ofChange Rows.aesCountsSpec) :=
  OpenClaim.holds_of_wide 6 Try.f6 rfl rfl rfl rfl rfl rfl rfl ⟨rfl, rfl, rfl, rfl, rfl⟩ rfl rfl rfl rfl rfl (by kernel_rfl) Try.func6 (by kernel_rfl)
    (of_decide_eq_true (by kernel_rfl)) (by unfold Func.isWrapper; first | (rw [if_pos (by decide +kernel)]; kernel_rfl) | (rw [if_neg (by decide +kernel)]; exact ⟨rfl, rfl⟩))
    (fun os started H enc _ => lifted os started H enc)

theorem proved : Rows.AesCountsSaid := over
end Go.Proofs.Ytpbnejgoppkghaa.aesCounts
namespace Go.Proofs.Ytpbnejgoppkghaa
theorem aesCounts_holds : Rows.AesCountsSaid := aesCounts.proved
end Go.Proofs.Ytpbnejgoppkghaa
