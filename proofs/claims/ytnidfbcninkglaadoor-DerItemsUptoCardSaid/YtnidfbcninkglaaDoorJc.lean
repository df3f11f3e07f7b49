/-
  The document's Next, where there is an item.
-/
import Derived.Test.YtnidfbcninkglaaDoorJb
import Derived.Deep.RegionLaw
namespace Go.Proofs.YtnidfbcninkglaaDoor
open Go.RowKit
set_option linter.unusedVariables false
set_option maxRecDepth 100000

set_option maxHeartbeats 16000000 in
theorem ro_1 {w : World} {b o c N k : Nat} {xs : List Int} {t y : Int} {r : List Int} (A : At w b o c N k xs t (129 :: y :: r)) (ht : t % 32 ≠ 31) (h1 : 128 ≤ y) (h2 : y ≤ (r.length : Int)) :
    Calls Tryd.prog 11 #[.slice (some ⟨b, o, none⟩) N c, .int .i64 k] w fun e w' => ∃ v', e = .returned (.tuple #[itemV t v' k (1 + 2 + (y).toNat : Nat), .int .i64 0]) ∧ ReadP w w' v' (r.take (y).toNat) := by
  unfold itemV
  have dt : (t % 32 == 31) = false := by simpa using ht
  obtain ⟨w1, hw1, C1, f0, f1, f2, f3, ff⟩ := box_new w
  have HC1 : Hid (Chg Non w w1) := C1
  have HW1 : Hid (w1 = w.alloc (.cells #[.int .u8 0, .slice none 0 0, .int .i64 0, .int .i64 0] 25)) := hw1
  have B := A.chg C1
  have kt := B.bs.at0
  obtain ⟨t0, t1⟩ := B.byt.head
  have hlen := B.len
  try simp only [List.length_cons] at hlen
  have hk : k < N := by omega
  have hN := B.nb
  have hNc := B.nc
  have hc63 := B.c63
  obtain ⟨K1, hK1⟩ : ∃ K1, K1 = k + 1 := ⟨_, rfl⟩
  have hv1 : IntKind.i64.wrap ((k : Int) + 1) = (K1 : Int) := by rw [IntKind.wrap_i64]; omega
  obtain ⟨K2, hK2⟩ : ∃ K2, K2 = k + 2 := ⟨_, rfl⟩
  have kx : w1.cell? ⟨b, o + K1, none⟩ = some (.int .u8 129) := by have := B.bs.at1; rw [Nat.add_assoc, ← hK1] at this; exact this
  have hv2 : IntKind.i64.wrap ((k : Int) + 2) = (K2 : Int) := by rw [IntKind.wrap_i64]; omega
  have d1 : K1 < N := by omega
  obtain ⟨K3, hK3⟩ : ∃ K3, K3 = k + 3 := ⟨_, rfl⟩
  have hv3 : IntKind.i64.wrap ((K2 : Int) + 1) = (K3 : Int) := by rw [IntKind.wrap_i64]; omega
  have ky : w1.cell? ⟨b, o + K2, none⟩ = some (.int .u8 y) := by have := B.bs.tail.at1; rw [show o + k + 1 + 1 = o + K2 by omega] at this; exact this
  obtain ⟨y0, y1⟩ := B.byt.tail.tail.head
  have d2 : K2 < N := by omega
  obtain ⟨R, hR⟩ : ∃ R, R = N - K2 := ⟨_, rfl⟩
  have hvR : IntKind.i64.wrap ((N : Int) - (K2 : Int)) = (R : Int) := by rw [IntKind.wrap_i64]; omega
  obtain ⟨S, hS⟩ : ∃ S, S = N - K3 := ⟨_, rfl⟩
  have hvS : IntKind.i64.wrap ((N : Int) - (K3 : Int)) = (S : Int) := by rw [IntKind.wrap_i64]; omega
  have e1 : decide ((R : Int) < 1) = false := by simp; omega
  have e2 : decide (y < 128) = false := by simpa using h1
  have hy1 : IntKind.i64.wrap y = y := by rw [IntKind.wrap_i64]; omega
  have e3 : decide ((S : Int) < y) = false := by simp; omega
  obtain ⟨m, hm⟩ : ∃ m : Nat, m = (y).toNat := ⟨_, rfl⟩
  have hmI : (m : Int) = y := by omega
  rw [← hm]
  obtain ⟨ED, hED⟩ : ∃ ED, ED = K3 + m := ⟨_, rfl⟩
  have hvE : IntKind.i64.wrap ((K3 : Int) + y) = (ED : Int) := by rw [IntKind.wrap_i64]; omega
  obtain ⟨LL, hLL⟩ : ∃ LL : Nat, LL = 1 + 2 + m := ⟨_, rfl⟩
  have hvL : IntKind.i64.wrap ((ED : Int) - (k : Int)) = (LL : Int) := by rw [IntKind.wrap_i64]; omega
  rw [← hLL]
  have g1 : K3 ≤ ED := by omega
  have g2 : ED ≤ N := by omega
  have g3 : ED ≤ c := by omega
  have HRr : Hid (∀ u, Chg Non w1 u → Rd u (.slice (if c = K3 then some ⟨b, o, none⟩ else some ⟨b, o + K3, none⟩) (ED - K3) (c - K3)) (r.take m)) := fun u hu => by
    by_cases hcb : c = K3
    · have hm0 : m = 0 := by omega
      rw [if_pos hcb, hm0]
      exact ⟨_, _, _, rfl, by simp; omega, by omega, by unfold maxLen; omega, (fun e => by cases e), fun x e j q hj => by simp at hj⟩
    · rw [if_neg hcb]
      have h9 := (B.bs.tail.tail.tail).chg hu
      rw [show o + k + 1 + 1 + 1 = o + K3 by omega] at h9
      exact (h9.take m).rd (by rw [List.length_take]; omega) (by omega) (by omega)
  have HC4 : Hid (∀ u, Chg Non w1 u → u.cell? ⟨w.heap.size, 0, none⟩ = some (.int .u8 0) ∧ u.cell? ⟨w.heap.size, 1, none⟩ = some (.slice none 0 0) ∧ u.cell? ⟨w.heap.size, 2, none⟩ = some (.int .i64 0) ∧ u.cell? ⟨w.heap.size, 3, none⟩ = some (.int .i64 0) ∧ ∀ j, u.frozen? ⟨w.heap.size, j, none⟩ = false) := fun u hu => cells4 (four (w := w) (u := u) (by rw [← hw1]; exact hu))
  have HKT : Hid (∀ u, Chg Non w1 u → u.cell? ⟨b, o + k, none⟩ = some (.int .u8 t)) := fun u hu => (B.bs.chg hu).at0
  have kt3 := HKT.out (w1.alloc (.cells #[] 5)) ((Chg.refl _ _).alloc _)
  have HSZ : Hid (w1.heap.size = w.heap.size + 1) := by show _ = _; rw [hw1]; simp
  have HLE : Hid ((r.take m).length ≤ 140737488355328 ∧ k < N) := ⟨by rw [List.length_take]; omega, hk⟩
  clear ht A B C1 hw1 hlen hm hmI hED hLL hK1 hK2 hK3 hR hS h1 h2
  go_enter Tryd.func11, Tryd.ntmps11
  go_upto_region 1 with fail
  rw [← HW1.out]
  go_wp2
  refine wp_loop_rounds 2 ?_
  rw [rounds_succ]
  go_wp2
  rw [rounds_succ]
  go_wp2_with fail
  go_region_law (refine step_app rfl (.tmp 102) (.tmp 108) rfl _ _ [] (r.take m) rfl rfl ?_ ?_ ?_ ?_; (exact (OwnV.empty w1).keep (fun _ _ => rfl)); (exact HRr.out _ (((Chg.refl _ _).alloc _).drew)); (have := HLE.out.1; simpa using this); intro v2 w2 ho2 hc2 hk2; have hA2 : OwnN w1 w2 v2 (r.take m) := OwnN.more (OwnN.start w1 w1 (Chg.refl _ _)) ho2 ⟨hc2.os, hc2.tape, hc2.output, hc2.size, hc2.block⟩ (by first | exact hk2 | (rw [World.size_alloc]; exact hk2)); obtain ⟨ao2, n2, cc2, rfl, -, -, -⟩ := ho2.rd.shape; obtain ⟨p0, p1, p2, p3, pf⟩ := HC4.out w2 hA2.chg; have kt2 := HKT.out w2 hA2.chg)
  all_goals
    have HA2 : Hid (OwnN w1 w2 (.slice ao2 n2 cc2) (r.take m)) := hA2
    clear hA2 ho2 hc2 hk2
    go_wp2
    all_goals
      refine bodyPost_ret (v := .tuple #[.agg #[.int .u8 t, .slice ao2 n2 cc2, .int .i64 k, .int .i64 LL], .int .i64 0]) ?_ rfl ⟨_, rfl, ⟨⟨HA2.out.own.keep (fun i e => ?_), fun i e => ?_, Chg.four (HC1.out.two HA2.out.chg) _ _ _ _⟩⟩⟩
      · simp [results, Tryd.results11, go_sem, p0, p1, p2, p3]
      · exact keep4 _ _ _ _ _ (by have h7 : w1.heap.size ≤ i := HA2.out.new i e; have h8 := HSZ.out; omega)
      · exact Nat.le_trans HC1.out.size (HA2.out.new i e)

end Go.Proofs.YtnidfbcninkglaaDoor
