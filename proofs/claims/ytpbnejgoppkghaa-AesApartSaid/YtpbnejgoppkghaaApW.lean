/-
  The law AesApart, walked.
-/
import Derived.Test.YtpbnejgoppkghaaHd
import Derived.Test.YtpbnejgoppkghaaRgn
namespace Go.Proofs.Ytpbnejgoppkghaa
open Go.RowKit
set_option linter.unusedVariables false

theorem eqB_enc (R : Nat) (k a b : Nat → By) : eqB (enc R k a) (enc R k b) = eqB a b := by
  by_cases h : E16 a b
  · rw [(eqB_iff a b).2 h, (eqB_iff _ _).2 (E16.enc (fun _ _ => rfl) h)]
  · have h1 : ¬ E16 (enc R k a) (enc R k b) := fun e => h e.of_enc
    have h2 : eqB a b = false := by
      cases e : eqB a b with
      | false => rfl
      | true => exact absurd ((eqB_iff a b).1 e) h
    have h3 : eqB (enc R k a) (enc R k b) = false := by
      cases e : eqB (enc R k a) (enc R k b) with
      | false => rfl
      | true => exact absurd ((eqB_iff _ _).1 e) h1
    rw [h2, h3]

set_option maxRecDepth 100000 in
set_option maxHeartbeats 4000000 in
theorem apartBad_walk (ao : Option Addr) (L cap : Nat) (a b : Nat → By) (w : World) (h1 : L ≠ 16) (h2 : L ≠ 32) :
    Calls Try.prog 5 #[.slice ao L cap, .agg (ba 16 a), .agg (ba 16 b)] w fun r w' => r = .returned (.bool true) ∧ Chg w w' := by
  have hsA := ba_size 16 a
  have hsB := ba_size 16 b
  obtain ⟨A, hA⟩ : ∃ A, A = ba 16 a := ⟨_, rfl⟩
  obtain ⟨B, hB⟩ : ∃ B, B = ba 16 b := ⟨_, rfl⟩
  rw [← hA] at hsA ⊢
  rw [← hB] at hsB ⊢
  clear hA hB
  have e1 : ((L : Int) != 16) = true := by simp; omega
  have e2 : ((L : Int) != 32) = true := by simp; omega
  have HN : Hid (∀ u, Calls Try.prog 8 #[.slice ao L cap] u fun r w' => r = .returned (.tuple #[.pointer none, .int .i64 1]) ∧ w' = u) := fun u => newBad_any ao L cap u h1 h2
  go_enter Try.func5, Try.ntmps5
  go_wp2_with (first | (go_at_call 7; refine (head_any _).mono ?_; rintro r w1 ⟨rfl, hc1⟩) | (go_at_call 8; refine (HN.out _).mono ?_; rintro r w2 ⟨rfl, hw2⟩; rw [hw2]))
  go_ret
  exact ⟨rfl, (((Chg.refl w).alloc _).alloc _).trans hc1⟩

set_option maxRecDepth 100000 in
set_option maxHeartbeats 4000000 in
theorem apart_walk (kb ko cap L n R : Nat) (key a b : Nat → By) (w : World) (hv : Bs w kb ko L key) (hL : L = 4 * n) (hn : n = 4 ∨ n = 8) (hR : R = n + 6) (hcap : L ≤ cap) (hcap' : cap ≤ 9223372036854775807) :
    Calls Try.prog 5 #[.slice (some ⟨kb, ko, none⟩) L cap, .agg (ba 16 a), .agg (ba 16 b)] w fun r w' => r = .returned (.bool true) ∧ Chg w w' := by
  have hsA := ba_size 16 a
  have hsB := ba_size 16 b
  obtain ⟨A, hA⟩ : ∃ A, A = ba 16 a := ⟨_, rfl⟩
  obtain ⟨B, hB⟩ : ∃ B, B = ba 16 b := ⟨_, rfl⟩
  have HAB : Hid (A = ba 16 a ∧ B = ba 16 b) := ⟨hA, hB⟩
  rw [← hA] at hsA ⊢
  rw [← hB] at hsB ⊢
  clear hA hB
  have HN : Hid (∀ u, Chg w u → Calls Try.prog 8 #[.slice (some ⟨kb, ko, none⟩) L cap] u fun r w' => ∃ K k, r = .returned (.tuple #[.pointer (some ⟨K, 0, none⟩), .int .i64 0]) ∧ u.heap.size ≤ K ∧ Chg u w' ∧ Ar w' K (keyC R k) ∧ Ks n (4 * (R + 1)) key k) := fun u hu => new_any kb ko cap L n R key u (hv.chg hu) hL hn hR hcap hcap'
  have HR : Hid (R = 10 ∨ R = 14) := by show R = 10 ∨ R = 14; omega
  clear hv hL hn hR hcap hcap'
  go_enter Try.func5, Try.ntmps5
  go_wp2_with fail
  go_at_call 7
  refine (head_any _).mono ?_
  rintro r w1 ⟨rfl, hc1⟩
  have Z1 : Hid (Chg w w1 ∧ Ar w1 w.heap.size (ba 16 a) ∧ Ar w1 (w.heap.size + 1) (ba 16 b)) := by
    rw [← HAB.out.1, ← HAB.out.2]
    exact ⟨(((Chg.refl w).alloc _).alloc _).trans hc1, ((Ar.new w _ _).alloc _).chg hc1, (Ar.new1 w _ _ _).chg hc1⟩
  clear hc1
  go_wp2_with fail
  go_at_call 8
  refine (HN.out _ Z1.out.1).mono ?_
  rintro r w2 ⟨K, k, rfl, hK, hc2, hA, hks⟩
  have Z : Hid (Chg w w2 ∧ Ar w2 w.heap.size (ba 16 a) ∧ Ar w2 (w.heap.size + 1) (ba 16 b) ∧ Ar w2 K (keyC R k) ∧ (R = 10 ∨ R = 14)) := ⟨Z1.out.1.trans hc2, Z1.out.2.1.chg hc2, Z1.out.2.2.chg hc2, hA, HR.out⟩
  clear hK hc2 hA hks Z1 HN
  go_upto_region 5 with fail
  have hinj := eqB_enc R k a b
  refine wp_region_vals 11 (fun j => match j with
    | 0 => .pointer (some ⟨K, 0, none⟩)
    | 1 => .agg (ba 16 a)
    | 2 => .agg (ba 16 (enc R k a))
    | 3 => .pointer (some ⟨K, 0, none⟩)
    | 4 => .agg (ba 16 b)
    | 5 => .agg (ba 16 (enc R k b))
    | 6 => .bool (eqB (enc R k a) (enc R k b))
    | 7 => .agg (ba 16 a)
    | 8 => .agg (ba 16 b)
    | 9 => .bool (eqB a b)
    | _ => .bool true) (by kernel_rfl) (by kernel_rfl) (by kernel_rfl) (by kernel_rfl) (by kernel_rfl) (by kernel_rfl) ?_ ?_
  · intro i o ac u hi ho hf hg hc
    have hcs : i = 0 ∨ i = 1 ∨ i = 2 ∨ i = 3 ∨ i = 4 ∨ i = 5 ∨ i = 6 ∨ i = 7 ∨ i = 8 ∨ i = 9 ∨ i = 10 := by omega
    rcases hcs with rfl | rfl | rfl | rfl | rfl | rfl | rfl | rfl | rfl | rfl | rfl
    · injection ho with ho
      subst ho
      have e1 : ac.eval (.tmp 8) = .pointer (some ⟨K, 0, none⟩) := hf 8 (by kernel_rfl)
      exact op_val (by simp [execOp, e1]) (Chg.refl _)
    · injection ho with ho
      subst ho
      have e1 : ac.eval (.tmp 4) = .pointer (some ⟨w.heap.size, 0, none⟩) := hf 4 (by kernel_rfl)
      exact wp_load_mid 32 (.tmp 4) rfl _ _ e1 (bl (a)) _ (rangeB (Ar.chg (w := w2.drew) Z.out.2.1 hc)) und32 rfl (bl_info _) ⟨rfl, Chg.refl _⟩
    · injection ho with ho
      subst ho
      have e1 : ac.eval (.tmp 41) = .pointer (some ⟨K, 0, none⟩) := hg 0 (by kernel_rfl) (by decide)
      have e2 : ac.eval (.tmp 42) = .agg (ba 16 a) := hg 1 (by kernel_rfl) (by decide)
      exact op_go 10 Try.f10 #[.tmp 41, .tmp 42] #[25, 32] rfl Try.func10 (by kernel_rfl) (by kernel_rfl) (by simp [e1, e2]) (encrypt_any K R k a _ (Ar.chg (w := w2.drew) Z.out.2.2.2.1 hc) Z.out.2.2.2.2)
    · injection ho with ho
      subst ho
      have e1 : ac.eval (.tmp 8) = .pointer (some ⟨K, 0, none⟩) := hf 8 (by kernel_rfl)
      exact op_val (by simp [execOp, e1]) (Chg.refl _)
    · injection ho with ho
      subst ho
      have e1 : ac.eval (.tmp 5) = .pointer (some ⟨w.heap.size + 1, 0, none⟩) := hf 5 (by kernel_rfl)
      exact wp_load_mid 32 (.tmp 5) rfl _ _ e1 (bl (b)) _ (rangeB (Ar.chg (w := w2.drew) Z.out.2.2.1 hc)) und32 rfl (bl_info _) ⟨rfl, Chg.refl _⟩
    · injection ho with ho
      subst ho
      have e1 : ac.eval (.tmp 44) = .pointer (some ⟨K, 0, none⟩) := hg 3 (by kernel_rfl) (by decide)
      have e2 : ac.eval (.tmp 45) = .agg (ba 16 b) := hg 4 (by kernel_rfl) (by decide)
      exact op_go 10 Try.f10 #[.tmp 44, .tmp 45] #[25, 32] rfl Try.func10 (by kernel_rfl) (by kernel_rfl) (by simp [e1, e2]) (encrypt_any K R k b _ (Ar.chg (w := w2.drew) Z.out.2.2.2.1 hc) Z.out.2.2.2.2)
    · injection ho with ho
      subst ho
      have e1 : ac.eval (.tmp 43) = .agg (ba 16 (enc R k a)) := hg 2 (by kernel_rfl) (by decide)
      have e2 : ac.eval (.tmp 46) = .agg (ba 16 (enc R k b)) := hg 5 (by kernel_rfl) (by decide)
      exact op_val (by revert e1 e2; generalize ac.eval = ρ; intro e1 e2; simp [go_sem, execOp, e1, e2, run_eqB]) (Chg.refl _)
    · injection ho with ho
      subst ho
      have e1 : ac.eval (.tmp 4) = .pointer (some ⟨w.heap.size, 0, none⟩) := hf 4 (by kernel_rfl)
      exact wp_load_mid 32 (.tmp 4) rfl _ _ e1 (bl (a)) _ (rangeB (Ar.chg (w := w2.drew) Z.out.2.1 hc)) und32 rfl (bl_info _) ⟨rfl, Chg.refl _⟩
    · injection ho with ho
      subst ho
      have e1 : ac.eval (.tmp 5) = .pointer (some ⟨w.heap.size + 1, 0, none⟩) := hf 5 (by kernel_rfl)
      exact wp_load_mid 32 (.tmp 5) rfl _ _ e1 (bl (b)) _ (rangeB (Ar.chg (w := w2.drew) Z.out.2.2.1 hc)) und32 rfl (bl_info _) ⟨rfl, Chg.refl _⟩
    · injection ho with ho
      subst ho
      have e1 : ac.eval (.tmp 48) = .agg (ba 16 a) := hg 7 (by kernel_rfl) (by decide)
      have e2 : ac.eval (.tmp 49) = .agg (ba 16 b) := hg 8 (by kernel_rfl) (by decide)
      exact op_val (by revert e1 e2; generalize ac.eval = ρ; intro e1 e2; simp [go_sem, execOp, e1, e2, run_eqB]) (Chg.refl _)
    · injection ho with ho
      subst ho
      have e1 : ac.eval (.tmp 47) = .bool (eqB (enc R k a) (enc R k b)) := hg 6 (by kernel_rfl) (by decide)
      have e2 : ac.eval (.tmp 50) = .bool (eqB a b) := hg 9 (by kernel_rfl) (by decide)
      exact op_val (by revert e1 e2; generalize ac.eval = ρ; intro e1 e2; simp [go_sem, execOp, e1, e2, hinj]) (Chg.refl _)
  · intro o u ho hc
    injection ho with ho
    subst ho
    refine op_val1 (v := .bool true) rfl ?_
    change (_ : Act → World → Prop) ⟨#[.slice (some ⟨kb, ko, none⟩) L cap, .agg A, .agg B, undef, .pointer (some ⟨w.heap.size, 0, none⟩), .pointer (some ⟨w.heap.size + 1, 0, none⟩), .bool true, .bool true, .pointer (some ⟨K, 0, none⟩), .int .i64 0, .bool true, .tuple #[.pointer (some ⟨K, 0, none⟩), .int .i64 0], .slice (some ⟨kb, ko, none⟩) L cap, .tuple #[.pointer (some ⟨K, 0, none⟩), .int .i64 0], .pointer (some ⟨K, 0, none⟩), .int .i64 0, .bool true, .bool false, .bool false, .int .i64 0, .bool false, .bool false, .bool false, .pointer (some ⟨K, 0, none⟩), .bool false, .bool false, undef, undef, undef, undef, undef, undef, undef, undef, undef, undef, undef, undef, undef, undef, undef, .pointer (some ⟨K, 0, none⟩), .agg (ba 16 a), .agg (ba 16 (enc R k a)), .pointer (some ⟨K, 0, none⟩), .agg (ba 16 b), .agg (ba 16 (enc R k b)), .bool (eqB (enc R k a) (enc R k b)), .agg (ba 16 a), .agg (ba 16 b), .bool (eqB a b), .bool true], []⟩ _
    dsimp only
    go_wp2_with fail
    go_ret
    exact ⟨rfl, Z.out.1.drew.trans hc⟩
end Go.Proofs.Ytpbnejgoppkghaa
