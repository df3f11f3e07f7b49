/-
  The live question that all statements of layer 2 ask first is answered by true.
-/
import Derived.Test.YtpabijfamnghjaaStore3
import Derived.Lib.SlBytesConst
namespace Go.Proofs.Ytpabijfamnghjaa
open Go.RowKit
set_option linter.unusedVariables false

theorem Rd.lit (w : World) (xs : List Int) (fr : Nat × Nat) (h : xs.length ≤ maxLen) : Rd (w.alloc (.cells (xs.map (Value.int .u8)).toArray 5 fr)) (.slice (some ⟨w.heap.size, 0, none⟩) xs.length xs.length) xs := by
  refine ⟨_, _, _, rfl, rfl, Nat.le_refl _, h, fun e => by (cases e), fun x e j u hj => ?_⟩
  cases e
  rw [Addr.add_lit, cell_of_row _ w.heap.size (0 + j) _ 5 _ (heap_alloc_new w _)]
  simp [hj]

theorem head_str : strOfNums [88, 89, 99, 100, 101, 102] = ⟨#[88, 89, 99, 100, 101, 102]⟩ := by rfl

set_option maxHeartbeats 1000000 in
theorem head_any (w : World) : Calls Try.prog 7 #[] w fun e w' => e = .returned (.bool true) ∧ Chg Non w w' := by
  have hcv := fun (w : World) (C : Array Value) (n c : Nat) => Lib.run_convert_bytes_const (P := Try.prog) w 31 5 C n c Try.underlying31 Try.underlying5
  go_enter Try.func7, Try.ntmps7
  go_wp2_with fail
  refine (new_any _).mono ?_
  rintro e w1 ⟨p, b, rfl, hs, hc, hp, hb⟩
  have H1 : Hid (St w1 p b [] ∧ Chg Non w w1 ∧ w.heap.size ≤ b) := ⟨hs, hc, hb⟩
  clear hs hc hp hb
  go_wp2_with fail
  refine (put_post p b [] ⟨#[97]⟩ _ [97, 98, 99, 100, 101, 102] _ (H1.out.1.non ((Chg.refl _ _).alloc _)) (by decide) (Rd.lit w1 [97, 98, 99, 100, 101, 102] (6, 7) (by decide))).mono ?_
  rintro e w2 ⟨he, hpost⟩
  obtain rfl := he.trans (ret_int (b := 0) (by rfl))
  clear he
  obtain ⟨v, hst, -⟩ := hpost.yes (by rfl)
  have H2 : Hid (St w2 p b [fresh [97] v [97, 98, 99, 100, 101, 102]] ∧ Chg Non w w2 ∧ w.heap.size ≤ b) := ⟨hst, (H1.out.2.1.alloc _).trans hpost.chg (fun i hi e => by cases e; have := H1.out.2.2; omega), H1.out.2.2⟩
  clear hpost hst H1
  go_wp2_with fail
  refine (tear_any p b _ ⟨#[97]⟩ _ [88, 89, 90] _ _ (H2.out.1.non ((Chg.refl _ _).alloc _)) (by decide) (Rd.lit w2 [88, 89, 90] (3, 4) (by decide))).mono ?_
  rintro e w3 ⟨he, hpost⟩
  obtain rfl := he.trans (ret_int (b := 0) (by rfl))
  clear he
  obtain ⟨v2, hst, -⟩ := hpost.yes (by rfl)
  have H3 : Hid (St w3 p b [⟨[97], v, [97, 98, 99, 100, 101, 102], true, v2, [88, 89, 90], 2⟩] ∧ Chg Non w w3 ∧ w.heap.size ≤ b) := ⟨hst, (H2.out.2.1.alloc _).trans hpost.chg (fun i hi e => by cases e; have := H2.out.2.2; omega), H2.out.2.2⟩
  clear hpost hst H2
  go_wp2_with fail
  refine (read_any p b _ ⟨#[97]⟩ _ H3.out.1 (by decide)).mono ?_
  rintro e w4 ⟨v4, he, ho4, hc4, -⟩
  obtain ⟨ao, an, ac, rfl, -⟩ := ho4.shape
  obtain rfl : e = .returned (.tuple #[.slice ao an ac, .int .i64 0]) := he
  have hstr := run_str w4 _ [88, 89, 99, 100, 101, 102] ho4.rd
  rw [head_str] at hstr
  have H4 : Hid (Chg Non w w4) := H3.out.2.1.trans hc4 (fun _ _ x => x)
  clear ho4 hc4 H3
  go_wp2
  go_ret
  exact ⟨rfl, H4.out⟩
end Go.Proofs.Ytpabijfamnghjaa
