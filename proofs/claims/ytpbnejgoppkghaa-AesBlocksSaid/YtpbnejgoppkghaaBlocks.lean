/-
  AesBlocks is proved: for every list of bytes as a key and every list of blocks the law returns true and leaves its arguments as they were. No condition beside the form's own.
-/
import Derived.Test.YtpbnejgoppkghaaArgL
import Derived.Test.YtpbnejgoppkghaaBkW
namespace Go.Proofs.Ytpbnejgoppkghaa.aesBlocks
open Go.ChangeShapes Go.WideShapes Go.ChangeAt Go.RowKit
set_option linter.unusedVariables false

theorem walk (v : Value) (L n c2 : Nat) (lo : Option Addr) (key : Nat → By) (g : Nat → Nat → By) (w : World) (hv : Ap.Rd w v (nums L key)) (hL : L ≤ 140737488351232) (hl : LsB w lo n g) : Calls Try.prog 3 #[v, .slice lo n c2] w fun e w' => e = .returned (.bool true) ∧ Chg w w' := by
  by_cases h : L = 16 ∨ L = 32
  · obtain ⟨kb, ko, cc, rfl, h1, h2, h3⟩ := Rd.bs hv (by omega)
    rcases h with rfl | rfl
    · exact blocks_walk kb ko cc 16 4 10 n c2 lo key g w h3 rfl (.inl rfl) rfl h1 h2 hl
    · exact blocks_walk kb ko cc 32 8 14 n c2 lo key g w h3 rfl (.inr rfl) rfl h1 h2 hl
  · obtain ⟨ao, m, cc, rfl, hm, _⟩ := hv.shape
    rw [nums_len] at hm
    subst hm
    exact blocksBad_walk ao cc m n c2 lo key w hv hL (by omega) (by omega)

set_option maxRecDepth 100000 in
theorem lifted (os : Os) (started : os.Started) (H : Type) (enc : TypeId × Value → H) :
    ReturnsInHanded {} Try.checked os 3 .any (Rows.aesBlocksSpec.pre6 enc Try.prog Try.f3 Rows.aesBlocksRow.domain false) (Rows.aesBlocksSpec.post enc Try.prog Try.f3 false true false false) := by
  refine returnsInHanded_of_change_sized (C := Try.checked) own started (by kernel_rfl) Try.func3
    (ChangeSpec.witness6 (enc := enc) (C := Try.checked) false ⟨#[], #[.slice none 0 0, .slice none 0 0], []⟩ 8 (by kernel_rfl) (by kernel_rfl) (by kernel_rfl) (by kernel_rfl)) ?_
  intro W base args ds gs before hval0 hW hcnd hsz0 _
  have hsz : (DataW.weightsEach Try.prog (Try.f3.params.toList ++ Rows.aesBlocksSpec.plain.varTypes Try.prog) (ds ++ gs)).all (· ≤ reachBytes) = true := hsz0
  clear hsz0
  have hval : ∀ (j : Nat) t v, Try.f3.params[j]? = some t → args[j]? = some v → Value.okWide Try.prog W .any base t v := hval0
  have hW' := hW
  obtain ⟨p, q, hA0, hV, rfl, hfz, hnd⟩ := hW
  have hA : DataW.TrodAll enc Try.prog W 0 (fun _ => true) true Try.f3.params.toList args.toList ds p := hA0
  rw [Try.params3] at hA hval hsz
  obtain ⟨v0, vs0, d0, ds0, p0, q0, hargs, rfl, rfl, h0, r0⟩ := trodAll_cons hA
  obtain ⟨v1, vs1, d1, ds1, p1, q1, rfl, rfl, rfl, h1, r1⟩ := trodAll_cons r0
  obtain ⟨rfl, rfl, rfl⟩ := trodAll_nil r1
  obtain rfl : args = #[v0, v1] := by cases args; simp_all
  obtain ⟨rfl, rfl⟩ := trodVars_none hV
  obtain ⟨a0, len0, cap0, rfl⟩ := okWide_slice Try.underlying22 (hval 0 22 v0 rfl rfl)
  obtain ⟨a1, len1, cap1, rfl⟩ := okWide_slice Try.underlying23 (hval 1 23 v1 rfl rfl)
  have lt0 : ∀ x ∈ p0, x.block < W.heap.size := by obtain ⟨m, hm⟩ := h0; exact DataW.trod_lt m _ _ _ hm
  have lt1 : ∀ x ∈ p1, x.block < W.heap.size := by obtain ⟨m, hm⟩ := h1; exact DataW.trod_lt m _ _ _ hm
  obtain ⟨key, w0, l0⟩ := bytes_in hsz (j := 0) rfl rfl h0
  obtain ⟨g, hg⟩ := blocks_in h1
  clear hA0 hval0
  refine (walk _ len0 len1 cap1 a1 key g W w0 l0 hg).mono fun e W' ⟨he, chg⟩ => ?_
  subst he
  have bel := below chg
  exact ⟨_, rfl, _, _, _, [], _, [], hW', trodAll_mk1 (shut_bool Try.underlying4 _), (trodAll_cons_mk (Below.trod laidOut (by kernel_rfl) (of_decide_eq_true (by kernel_rfl)) h0 bel lt0) (trodAll_cons_mk (Below.trod laidOut (by kernel_rfl) (of_decide_eq_true (by kernel_rfl)) h1 bel lt1) trodAll_mk0)), rfl, bel.frame _, fun h => by cases h⟩

theorem over : Rows.aesBlocksRow.holds Try.pinned (OpenSpec.ofChange Rows.aesBlocksSpec) :=
  OpenClaim.holds_of_wide 3 Try.f3 rfl rfl rfl rfl rfl rfl rfl ⟨rfl, rfl, rfl, rfl, rfl⟩ rfl rfl rfl rfl rfl (by kernel_rfl) Try.func3 (by kernel_rfl)
    (of_decide_eq_true (by kernel_rfl)) (by unfold Func.isWrapper; first | (rw [if_pos (by decide +kernel)]; kernel_rfl) | (rw [if_neg (by decide +kernel)]; exact ⟨rfl, rfl⟩))
    (fun os started H enc _ => lifted os started H enc)

theorem proved : Rows.AesBlocksSaid := over
end Go.Proofs.Ytpbnejgoppkghaa.aesBlocks
namespace Go.Proofs.Ytpbnejgoppkghaa
theorem aesBlocks_holds : Rows.AesBlocksSaid := aesBlocks.proved
end Go.Proofs.Ytpbnejgoppkghaa
