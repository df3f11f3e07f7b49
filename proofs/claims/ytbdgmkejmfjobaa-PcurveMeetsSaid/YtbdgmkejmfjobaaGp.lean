/-
  Sums and multiples of points of the curve; the order.
-/
import Derived.Test.YtbdgmkejmfjobaaEn
namespace Go.Proofs.Ytbdgmkejmfjobaa
open Go.RowKit
set_option linter.unusedVariables false
set_option maxRecDepth 100000
theorem addR_P {A B : PQt} (hA : ONW A) (hB : ONW B) : addR (zP A) (xP A) (yP A) (zP B) (xP B) (yP B) = AW A B := by
 unfold addR
 rw [onR_P hA, onR_P hB, toP_P, toP_P]
 rfl
theorem mulR_P {A : PQt} (hA : ONW A) (n : Int) : mulR n (zP A) (xP A) (yP A) = MW A n.toNat := by
 unfold mulR
 rw [onR_P hA, toP_P]
 rfl
theorem padQP_any {A B S : PQt} (hA : ONW A) (hB : ONW B) (h : AW A B = S) (w : World) : Calls Try.prog 9 #[.agg (pt (zP A) (xP A) (yP A)), .agg (pt (zP B) (xP B) (yP B))] w fun r w' => r = .returned (.agg (pt (zP S) (xP S) (yP S))) ∧ Chg w w' :=
 padQ_any _ _ _ _ _ _ (xP_N _) (yP_N _) (xP_N _) (yP_N _) S (by rw [addR_P hA hB, h]) w
theorem multQP_any {A S : PQt} {n : Int} (hA : ONW A) (hn : N256 n) (h : MW A n.toNat = S) (w : World) : Calls Try.prog 11 #[.agg (num n), .agg (pt (zP A) (xP A) (yP A))] w fun r w' => r = .returned (.agg (pt (zP S) (xP S) (yP S))) ∧ Chg w w' :=
 multQ_any _ _ _ _ hn (xP_N _) (yP_N _) S (by rw [mulR_P hA, h]) w
theorem multQG_any {S : PQt} {n : Int} (hn : N256 n) (h : MW GW n.toNat = S) (w : World) : Calls Try.prog 11 #[.agg (num n), .agg (pt false gX gY)] w fun r w' => r = .returned (.agg (pt (zP S) (xP S) (yP S))) ∧ Chg w w' :=
 multQ_any _ _ _ _ hn N_gX N_gY S (by rw [mulR_g, h]) w
theorem padSP_any {A B S : PQt} (hA : ONW A) (hB : ONW B) (h : AW A B = S) (w : World) : Calls Try.prog 10 #[.agg (pt (zP A) (xP A) (yP A)), .agg (pt (zP B) (xP B) (yP B))] w fun r w' => r = .returned (.agg (pt (zP S) (xP S) (yP S))) ∧ Chg w w' :=
 padS_any _ _ _ _ _ _ (xP_N _) (yP_N _) (xP_N _) (yP_N _) S (by rw [addR_P hA hB, h]) w
theorem multSP_any {A S : PQt} {n : Int} (hA : ONW A) (hn : N256 n) (h : MW A n.toNat = S) (w : World) : Calls Try.prog 12 #[.agg (num n), .agg (pt (zP A) (xP A) (yP A))] w fun r w' => r = .returned (.agg (pt (zP S) (xP S) (yP S))) ∧ Chg w w' :=
 multS_any _ _ _ _ hn (xP_N _) (yP_N _) S (by rw [mulR_P hA, h]) w
theorem multSG_any {S : PQt} {n : Int} (hn : N256 n) (h : MW GW n.toNat = S) (w : World) : Calls Try.prog 12 #[.agg (num n), .agg (pt false gX gY)] w fun r w' => r = .returned (.agg (pt (zP S) (xP S) (yP S))) ∧ Chg w w' :=
 multS_any _ _ _ _ hn N_gX N_gY S (by rw [mulR_g, h]) w
theorem MW_none : ∀ n, MW none n = none
 | 0 => rfl
 | n + 1 => by
  have h : ONW none := trivial
  rw [MW_succ h, MW_none n]
  rfl
theorem MW_mod (m : Nat) : MW GW (m % nQ) = MW GW m := by
 have e : MW GW m = AW (MW GW (nQ * (m / nQ))) (MW GW (m % nQ)) := by rw [← MW_add on_G, Nat.div_add_mod]
 rw [e, ← MW_mul on_G, mw_N, MW_none]
 rfl
theorem mo_3 : mo 3 = (nQ : Int) := by decide +kernel
theorem md_3 (x : Int) : md 3 x = x % (nQ : Int) := by rw [md_in (.inr (.inr (.inl rfl))), mo_3]
theorem MW_md3 {x : Int} (hx : 0 ≤ x) : MW GW (md 3 x).toNat = MW GW x.toNat := by
 obtain ⟨m, rfl⟩ := Int.eq_ofNat_of_zero_le hx
 rw [md_3, ← Int.natCast_emod, Int.toNat_natCast, Int.toNat_natCast, MW_mod]
theorem MW_sum {a b : Int} (ha : 0 ≤ a) (hb : 0 ≤ b) : MW GW (md 3 (a + b)).toNat = AW (MW GW a.toNat) (MW GW b.toNat) := by
 rw [MW_md3 (by omega), ← MW_add on_G]
 congr 1
 omega
theorem MW_ord (n : Nat) : MW (MW GW n) (mo 3).toNat = none := by
 rw [mo_3, Int.toNat_natCast, MW_mul on_G, Nat.mul_comm, ← MW_mul on_G, mw_N, MW_none]
theorem MW_turn (m n : Nat) : MW (MW GW m) n = MW (MW GW n) m := by rw [MW_mul on_G, MW_mul on_G, Nat.mul_comm]
end Go.Proofs.Ytbdgmkejmfjobaa
