/-
  Numbers that a writer writes.
-/
import Derived.Test.YtdhckndehijemaaWa
namespace Go.Proofs.Ytdhckndehijemaa
open Go.RowKit
set_option linter.unusedVariables false
set_option maxRecDepth 100000

theorem row_one (w : World) (b : Int) : Rd (w.alloc (.cells #[.int .u8 b] 5)) (.slice (some ⟨w.heap.size, 0, none⟩) 1 1) [b] := Rd.one w b

set_option maxHeartbeats 6400000 in
theorem wdigits_any (r n : Nat) (x : Int) (hn : n ≤ 4) (hx0 : 0 ≤ x) (hx1 : x < 4294967296) (v : Value) (no : Bool) (xs : List Int) (w : World) (h : WM w r v no xs) (hl : xs.length ≤ 1000000000000) :
    Calls Try.prog 227 #[.pointer (some ⟨r, 0, none⟩), .int .i64 n, .int .u32 x] w fun e w' => ∃ v', e = .returned (.tuple #[]) ∧ WP r v w w' v' no (xs ++ putD n x) := by
  have H : Hid (WM w r v no xs) := h
  have HL : Hid (xs.length ≤ 1000000000000 ∧ (putD n x).length = n) := ⟨hl, putD_len n x⟩
  have HD : Hid (∀ m, m < n → (putD n x)[m]? = some (x / 256 ^ (n - 1 - m) % 256)) := putD_get n x
  have HB : Hid (Byt (putD n x)) := putD_byt n x
  obtain ⟨D, hD⟩ : ∃ D, D = putD n x := ⟨_, rfl⟩
  rw [← hD] at HD HB HL ⊢
  clear h hl hD
  go_enter Try.func227, Try.ntmps227
  go_wp2
  go_loopw [6] (fun i wr => ∃ (m : Nat) (vr : Value), m ≤ n ∧ i = .int .i64 ((n : Int) - 1 - (m : Int)) ∧ Hid (WP r v w wr vr no (xs ++ D.take m))) (fun i _ => (intOf i + 1).toNat)
  case atStart => exact ⟨0, v, Nat.zero_le _, by simp, by show WP _ _ _ _ _ _ _; simpa using WP.refl H.out⟩
  case round =>
    obtain ⟨m, vr, hm, rfl, hP⟩ := hrel
    by_cases hlt : m < n
    · obtain ⟨i, hi⟩ : ∃ i, i = n - 1 - m := ⟨_, rfl⟩
      have hi' : (n : Int) - 1 - (m : Int) = (i : Int) := by omega
      have hd := HD.out m hlt
      rw [← hi] at hd
      have HN : Hid (D.take (m + 1) = D.take m ++ [x / 256 ^ i % 256]) := take_snoc hd
      have HLE : Hid ((xs ++ D.take m).length + 1 ≤ 140737488355328) := by
        show _ ≤ _
        rw [List.length_append, List.length_take]
        have := HL.out
        omega
      have hi4 : i ≤ 3 := by omega
      have HI : Hid (i = n - 1 - m ∧ m < n) := ⟨hi, hlt⟩
      obtain ⟨z0, z1, f0, f1⟩ := hP.out.wm.facts
      have hb0 : 0 ≤ x / 256 ^ i % 256 := Int.emod_nonneg _ (by decide)
      have hb1 : x / 256 ^ i % 256 < 256 := Int.emod_lt_of_pos _ (by decide)
      have HBY : Hid (Byt [x / 256 ^ i % 256]) := Byt.cons hb0 hb1 Byt.nil
      obtain ⟨B, hB⟩ : ∃ B, B = x / 256 ^ i % 256 := ⟨_, rfl⟩
      rw [← hB] at HN HBY
      obtain ⟨aor, nr, cr, rfl, -, -, -⟩ := hP.out.wm.own.rd.shape
      have hrl : r < wr.heap.size := hP.out.wm.lt
      have HR1 := row_one wr B
      have HR2 : Hid (Rd (wr.alloc (.cells #[.int .u8 B] 5)) (.slice (some ⟨wr.heap.size, 0, none⟩) 1 1) [B]) := HR1
      have HO : Hid (OwnV (wr.alloc (.cells #[.int .u8 B] 5)) (.slice aor nr cr) (xs ++ D.take m)) := hP.out.wm.own.chg ((Chg.refl _ _).alloc _)
      clear hd hi hb0 hb1 hlt HR1
      have h4 : i = 0 ∨ i = 1 ∨ i = 2 ∨ i = 3 := by omega
      rcases h4 with h4 | h4 | h4 | h4
      · have e4 : (n : Int) - 1 - (m : Int) = 0 := by omega
        have hq : IntKind.u8.wrap (x) = B := by rw [IntKind.wrap_u8, hB, h4]; first | rfl | simp
        have w8 : IntKind.i64.wrap 0 = 0 := by decide
        have HI4 : Hid (n - 1 - m = 0) := by show _ = _; omega
        rw [e4]
        clear hB e4 hi'
        go_wp2_with fail
        go_region_law (refine step_app rfl (.tmp 17) (.tmp 23) rfl _ _ (xs ++ D.take m) [B] rfl rfl ?_ ?_ ?_ ?_; (exact HO.out.keep (fun _ _ => rfl)); (exact HR2.out.keep (fun _ _ _ => rfl)); (exact HLE.out); intro v2 w2 ho2 hc2 hk2; obtain ⟨ao2, n2, cc2, rfl, -, -, -⟩ := ho2.rd.shape; obtain ⟨k1, k2⟩ := WM.app hP.out.wm ho2 ⟨hc2.os, hc2.tape, hc2.output, hc2.size, hc2.block⟩ (by first | exact hk2 | exact hk2.imp id (fun e => e.trans (congrArg some (World.size_alloc _ _)))) HBY.out; have k3 := frozen_of_row w2 r 0 _ _ k2; have k4 := (cell2 k2).1; have K1 : Hid (WP r (.slice aor nr cr) wr (w2.setCell ⟨r, 0, none⟩ (.slice ao2 n2 cc2)) (.slice ao2 n2 cc2) no ((xs ++ D.take m) ++ [B])) := k1; clear ho2 hc2 hk2 k1 k2)
        all_goals
          go_wp2
          go_roundw
          case rel => exact ⟨m + 1, .slice ao2 n2 cc2, by have := HI.out.2; omega, by have := HI4.out; have := HI.out.2; go_num, by show WP _ _ _ _ _ _ _; rw [HN.out, ← List.append_assoc]; exact hP.out.trans K1.out⟩
          case measure => simp [intOf]
      · have e4 : (n : Int) - 1 - (m : Int) = 1 := by omega
        have hq : IntKind.u8.wrap (x / 256) = B := by rw [IntKind.wrap_u8, hB, h4]; first | rfl | simp
        have w8 : IntKind.i64.wrap 8 = 8 := by decide
        have HI4 : Hid (n - 1 - m = 1) := by show _ = _; omega
        rw [e4]
        clear hB e4 hi'
        go_wp2_with fail
        go_region_law (refine step_app rfl (.tmp 17) (.tmp 23) rfl _ _ (xs ++ D.take m) [B] rfl rfl ?_ ?_ ?_ ?_; (exact HO.out.keep (fun _ _ => rfl)); (exact HR2.out.keep (fun _ _ _ => rfl)); (exact HLE.out); intro v2 w2 ho2 hc2 hk2; obtain ⟨ao2, n2, cc2, rfl, -, -, -⟩ := ho2.rd.shape; obtain ⟨k1, k2⟩ := WM.app hP.out.wm ho2 ⟨hc2.os, hc2.tape, hc2.output, hc2.size, hc2.block⟩ (by first | exact hk2 | exact hk2.imp id (fun e => e.trans (congrArg some (World.size_alloc _ _)))) HBY.out; have k3 := frozen_of_row w2 r 0 _ _ k2; have k4 := (cell2 k2).1; have K1 : Hid (WP r (.slice aor nr cr) wr (w2.setCell ⟨r, 0, none⟩ (.slice ao2 n2 cc2)) (.slice ao2 n2 cc2) no ((xs ++ D.take m) ++ [B])) := k1; clear ho2 hc2 hk2 k1 k2)
        all_goals
          go_wp2
          go_roundw
          case rel => exact ⟨m + 1, .slice ao2 n2 cc2, by have := HI.out.2; omega, by have := HI4.out; have := HI.out.2; go_num, by show WP _ _ _ _ _ _ _; rw [HN.out, ← List.append_assoc]; exact hP.out.trans K1.out⟩
          case measure => simp [intOf]
      · have e4 : (n : Int) - 1 - (m : Int) = 2 := by omega
        have hq : IntKind.u8.wrap (x / 65536) = B := by rw [IntKind.wrap_u8, hB, h4]; first | rfl | simp
        have w8 : IntKind.i64.wrap 16 = 16 := by decide
        have HI4 : Hid (n - 1 - m = 2) := by show _ = _; omega
        rw [e4]
        clear hB e4 hi'
        go_wp2_with fail
        go_region_law (refine step_app rfl (.tmp 17) (.tmp 23) rfl _ _ (xs ++ D.take m) [B] rfl rfl ?_ ?_ ?_ ?_; (exact HO.out.keep (fun _ _ => rfl)); (exact HR2.out.keep (fun _ _ _ => rfl)); (exact HLE.out); intro v2 w2 ho2 hc2 hk2; obtain ⟨ao2, n2, cc2, rfl, -, -, -⟩ := ho2.rd.shape; obtain ⟨k1, k2⟩ := WM.app hP.out.wm ho2 ⟨hc2.os, hc2.tape, hc2.output, hc2.size, hc2.block⟩ (by first | exact hk2 | exact hk2.imp id (fun e => e.trans (congrArg some (World.size_alloc _ _)))) HBY.out; have k3 := frozen_of_row w2 r 0 _ _ k2; have k4 := (cell2 k2).1; have K1 : Hid (WP r (.slice aor nr cr) wr (w2.setCell ⟨r, 0, none⟩ (.slice ao2 n2 cc2)) (.slice ao2 n2 cc2) no ((xs ++ D.take m) ++ [B])) := k1; clear ho2 hc2 hk2 k1 k2)
        all_goals
          go_wp2
          go_roundw
          case rel => exact ⟨m + 1, .slice ao2 n2 cc2, by have := HI.out.2; omega, by have := HI4.out; have := HI.out.2; go_num, by show WP _ _ _ _ _ _ _; rw [HN.out, ← List.append_assoc]; exact hP.out.trans K1.out⟩
          case measure => simp [intOf]
      · have e4 : (n : Int) - 1 - (m : Int) = 3 := by omega
        have hq : IntKind.u8.wrap (x / 16777216) = B := by rw [IntKind.wrap_u8, hB, h4]; first | rfl | simp
        have w8 : IntKind.i64.wrap 24 = 24 := by decide
        have HI4 : Hid (n - 1 - m = 3) := by show _ = _; omega
        rw [e4]
        clear hB e4 hi'
        go_wp2_with fail
        go_region_law (refine step_app rfl (.tmp 17) (.tmp 23) rfl _ _ (xs ++ D.take m) [B] rfl rfl ?_ ?_ ?_ ?_; (exact HO.out.keep (fun _ _ => rfl)); (exact HR2.out.keep (fun _ _ _ => rfl)); (exact HLE.out); intro v2 w2 ho2 hc2 hk2; obtain ⟨ao2, n2, cc2, rfl, -, -, -⟩ := ho2.rd.shape; obtain ⟨k1, k2⟩ := WM.app hP.out.wm ho2 ⟨hc2.os, hc2.tape, hc2.output, hc2.size, hc2.block⟩ (by first | exact hk2 | exact hk2.imp id (fun e => e.trans (congrArg some (World.size_alloc _ _)))) HBY.out; have k3 := frozen_of_row w2 r 0 _ _ k2; have k4 := (cell2 k2).1; have K1 : Hid (WP r (.slice aor nr cr) wr (w2.setCell ⟨r, 0, none⟩ (.slice ao2 n2 cc2)) (.slice ao2 n2 cc2) no ((xs ++ D.take m) ++ [B])) := k1; clear ho2 hc2 hk2 k1 k2)
        all_goals
          go_wp2
          go_roundw
          case rel => exact ⟨m + 1, .slice ao2 n2 cc2, by have := HI.out.2; omega, by have := HI4.out; have := HI.out.2; go_num, by show WP _ _ _ _ _ _ _; rw [HN.out, ← List.append_assoc]; exact hP.out.trans K1.out⟩
          case measure => simp [intOf]
    · have hmn : m = n := by omega
      subst hmn
      go_wp2
      go_end0
      have := hP.out
      rw [List.take_of_length_le (by rw [HL.out.2]; exact Nat.le_refl _)] at this
      exact ⟨vr, rfl, this⟩
end Go.Proofs.Ytdhckndehijemaa
