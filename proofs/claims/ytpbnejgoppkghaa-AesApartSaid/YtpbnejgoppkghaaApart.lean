/-
  AesApart is proved: for every list of bytes as a key and every two blocks the law returns true and leaves its arguments as they were. No condition beside the form's own.
-/
import Derived.Test.YtpbnejgoppkghaaArgs
import Derived.Test.YtpbnejgoppkghaaApW
namespace Go.Proofs.Ytpbnejgoppkghaa.aesApart
open Go.ChangeShapes Go.WideShapes Go.ChangeAt Go.RowKit
set_option linter.unusedVariables false

theorem walk (v : Value) (L : Nat) (key a b : Nat → By) (w : World) (hv : Ap.Rd w v (nums L key)) : Calls Try.prog 5 #[v, .agg (ba 16 a), .agg (ba 16 b)] w fun e w' => e = .returned (.bool true) ∧ Chg w w' := by
  by_cases h : L = 16 ∨ L = 32
  · obtain ⟨kb, ko, c, rfl, h1, h2, h3⟩ := Rd.bs hv (by omega)
    rcases h with rfl | rfl
    · exact apart_walk kb ko c 16 4 10 key a b w h3 rfl (.inl rfl) rfl h1 h2
    · exact apart_walk kb ko c 32 8 14 key a b w h3 rfl (.inr rfl) rfl h1 h2
  · obtain ⟨ao, n, c, rfl, hn, _⟩ := hv.shape
    rw [nums_len] at hn
    subst hn
    exact apartBad_walk ao n c a b w (by omega) (by omega)

set_option maxRecDepth 100000 in
theorem lifted (os : Os) (started : os.Started) (H : Type) (enc : TypeId × Value → H) :
    ReturnsInHanded {} Try.checked os 5 .any (Rows.aesApartSpec.pre6 enc Try.prog Try.f5 Rows.aesApartRow.domain false) (Rows.aesApartSpec.post enc Try.prog Try.f5 false true false false) := by
  refine returnsInHanded_of_change_sized (C := Try.checked) own started (by kernel_rfl) Try.func5
    (ChangeSpec.witness6 (enc := enc) (C := Try.checked) false ⟨#[], #[.slice none 0 0, .agg (ba 16 zB), .agg (ba 16 zB)], []⟩ 8 (by kernel_rfl) (by kernel_rfl) (by kernel_rfl) (by kernel_rfl)) ?_
  intro W base args ds gs before hval0 hW hcnd hsz0 _
  have hsz : (DataW.weightsEach Try.prog (Try.f5.params.toList ++ Rows.aesApartSpec.plain.varTypes Try.prog) (ds ++ gs)).all (· ≤ reachBytes) = true := hsz0
  clear hsz0
  have hval : ∀ (j : Nat) t v, Try.f5.params[j]? = some t → args[j]? = some v → Value.okWide Try.prog W .any base t v := hval0
  have hW' := hW
  obtain ⟨p, q, hA0, hV, rfl, hfz, hnd⟩ := hW
  have hA : DataW.TrodAll enc Try.prog W 0 (fun _ => true) true Try.f5.params.toList args.toList ds p := hA0
  rw [Try.params5] at hA hval hsz
  obtain ⟨v0, vs0, d0, ds0, p0, q0, hargs, rfl, rfl, h0, r0⟩ := trodAll_cons hA
  obtain ⟨v1, vs1, d1, ds1, p1, q1, rfl, rfl, rfl, h1, r1⟩ := trodAll_cons r0
  obtain ⟨v2, vs2, d2, ds2, p2, q2, rfl, rfl, rfl, h2, r2⟩ := trodAll_cons r1
  obtain ⟨rfl, rfl, rfl⟩ := trodAll_nil r2
  obtain rfl : args = #[v0, v1, v2] := by cases args; simp_all
  obtain ⟨rfl, rfl⟩ := trodVars_none hV
  obtain ⟨a0, len0, cap0, rfl⟩ := okWide_slice Try.underlying22 (hval 0 22 v0 rfl rfl)
  have lt0 : ∀ x ∈ p0, x.block < W.heap.size := by obtain ⟨m, hm⟩ := h0; exact DataW.trod_lt m _ _ _ hm
  have lt1 : ∀ x ∈ p1, x.block < W.heap.size := by obtain ⟨m, hm⟩ := h1; exact DataW.trod_lt m _ _ _ hm
  have lt2 : ∀ x ∈ p2, x.block < W.heap.size := by obtain ⟨m, hm⟩ := h2; exact DataW.trod_lt m _ _ _ hm
  obtain ⟨key, w0, l0⟩ := bytes_in hsz (j := 0) rfl rfl h0
  obtain ⟨a, ha⟩ := block_in (hval 1 32 v1 rfl rfl) h1
  obtain ⟨b, hb⟩ := block_in (hval 2 32 v2 rfl rfl) h2
  clear hA0 hval0
  subst ha hb
  refine (walk _ len0 key a b W w0).mono fun e W' ⟨he, chg⟩ => ?_
  subst he
  have bel := below chg
  exact ⟨_, rfl, _, _, _, [], _, [], hW', trodAll_mk1 (shut_bool Try.underlying4 _), (trodAll_cons_mk (Below.trod laidOut (by kernel_rfl) (of_decide_eq_true (by kernel_rfl)) h0 bel lt0) (trodAll_cons_mk (Below.trod laidOut (by kernel_rfl) (of_decide_eq_true (by kernel_rfl)) h1 bel lt1) (trodAll_cons_mk (Below.trod laidOut (by kernel_rfl) (of_decide_eq_true (by kernel_rfl)) h2 bel lt2) trodAll_mk0))), rfl, bel.frame _, fun h => by cases h⟩

theorem over : Rows.aesApartRow.holds Try.pinned (OpenSpec.ofChange Rows.aesApartSpec) :=
  OpenClaim.holds_of_wide 5 Try.f5 rfl rfl rfl rfl rfl rfl rfl ⟨rfl, rfl, rfl, rfl, rfl⟩ rfl rfl rfl rfl rfl (by kernel_rfl) Try.func5 (by kernel_rfl)
    (of_decide_eq_true (by kernel_rfl)) (by unfold Func.isWrapper; first | (rw [if_pos (by decide +kernel)]; kernel_rfl) | (rw [if_neg (by decide +kernel)]; exact ⟨rfl, rfl⟩))
    (fun os started H enc _ => lifted os started H enc)

theorem proved : Rows.AesApartSaid := over
end Go.Proofs.Ytpbnejgoppkghaa.aesApart
namespace Go.Proofs.Ytpbnejgoppkghaa
theorem aesApart_holds : Rows.AesApartSaid := aesApart.proved
end Go.Proofs.Ytpbnejgoppkghaa
