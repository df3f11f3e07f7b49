/-
  A number at a text's beginning: the document's.
-/
import Derived.Test.YtnidfbcninkglaaDoorWg
import Derived.Test.YtnidfbcninkglaaDoorSm
import Derived.Lib.Strings
import Derived.Lib.Hide
namespace Go.Proofs.YtnidfbcninkglaaDoor
open Go.RowKit
set_option linter.unusedVariables false
set_option maxRecDepth 100000

/-- How many digits stand at a text's beginning, eleven at most. -/
def runD : Nat → List UInt8 → Nat
  | 0, _ => 0
  | _, [] => 0
  | f + 1, b :: r => if isDg b = true then runD f r + 1 else 0
def numD (l : List UInt8) : Nat × Nat := if 10 < runD 11 l ∨ (1 < runD 11 l ∧ l.head? = some 48) then (0, 0) else (valD (l.take (runD 11 l)), runD 11 l)

theorem runD_stop : ∀ (f k : Nat) (l : List UInt8), k ≤ f → (∀ j b, j < k → l[j]? = some b → isDg b = true) → k ≤ l.length → (k = f ∨ k = l.length ∨ ∃ b, l[k]? = some b ∧ isDg b = false) → runD f l = k
  | 0, k, l, h1, _, _, _ => by
    have : k = 0 := by omega
    subst this
    cases l <;> rfl
  | f + 1, 0, l, _, _, _, h4 => by
    cases l with
    | nil => rfl
    | cons b r =>
      rcases h4 with h | h | ⟨c, h, hc⟩
      · omega
      · simp at h
      · simp at h
        subst h
        rw [runD, hc]
        rfl
  | f + 1, k + 1, l, h1, h2, h3, h4 => by
    cases l with
    | nil => simp at h3
    | cons b r =>
      have hb := h2 0 b (by omega) rfl
      rw [runD, if_pos hb, runD_stop f k r (by omega) (fun j c hj hc => h2 (j + 1) c (by omega) (by simpa using hc)) (by simpa using h3) ?_]
      rcases h4 with h | h | ⟨c, h, hc⟩
      · exact .inl (by omega)
      · exact .inr (.inl (by simpa using h))
      · exact .inr (.inr ⟨c, by simpa using h, hc⟩)
theorem bget (s : ByteArray) (k : Nat) (h : k < s.size) : s.data.toList[k]? = some (s[k]'h) := by
  rw [Array.getElem?_toList]
  exact Array.getElem?_eq_getElem h
theorem valD_lt : ∀ (k : Nat) (l : List UInt8), l.length = k → l.all isDg = true → valD l < 10 ^ k := by
  intro k
  induction k with
  | zero => intro l hl _; rw [List.eq_nil_of_length_eq_zero hl]; simp [valD, valF]
  | succ k ih =>
    intro l hl ha
    have hne : l ≠ [] := by rintro rfl; cases hl
    have hs := (List.dropLast_concat_getLast hne).symm
    obtain ⟨m, hm⟩ : ∃ m, m = l.dropLast := ⟨_, rfl⟩
    obtain ⟨b, hb⟩ : ∃ b, b = l.getLast hne := ⟨_, rfl⟩
    rw [← hm, ← hb] at hs
    clear hm hb
    subst hs
    rw [List.all_append, Bool.and_eq_true] at ha
    have h1 := ih m (by simpa using hl) ha.1
    have hb2 : isDg b = true := by simpa using ha.2
    unfold isDg at hb2
    simp at hb2
    rw [valD_snoc, Nat.pow_succ]
    omega
theorem dg_int {b : UInt8} : isDg b = (decide (48 ≤ ((b.toNat : Nat) : Int)) && decide (((b.toNat : Nat) : Int) ≤ 57)) := by
  unfold isDg
  rw [Bool.eq_iff_iff]
  simp
  omega

set_option maxHeartbeats 8000000 in
theorem rnumber_any (s : ByteArray) (w : World) : Calls Tryd.prog 58 #[.string s] w fun e w' => e = .returned (.tuple #[.int .u64 (numD s.data.toList).1, .int .i64 (numD s.data.toList).2]) ∧ w' = w := by
  have HSL : Hid (s.size = s.data.toList.length) := Lib.size_eq s
  obtain ⟨V, hV⟩ : ∃ V, V = (numD s.data.toList).1 := ⟨_, rfl⟩
  obtain ⟨K, hK⟩ : ∃ K, K = (numD s.data.toList).2 := ⟨_, rfl⟩
  rw [← hV, ← hK]
  have HVK : Hid (V = (numD s.data.toList).1 ∧ K = (numD s.data.toList).2) := ⟨hV, hK⟩
  clear hV hK
  go_enter Tryd.func58, Tryd.ntmps58
  go_wp2
  go_loop [4, 5] (fun a i => ∃ (k : Nat) (N : Int), k ≤ s.size ∧ k ≤ 11 ∧ a = .int .u64 N ∧ i = .int .i64 k ∧ 0 ≤ N ∧ N < 100000000000 ∧ Hid (N = (valD (s.data.toList.take k) : Int) ∧ (s.data.toList.take k).all isDg = true)) (fun _ i => s.size - (intOf i).toNat)
  case atStart => exact ⟨0, 0, Nat.zero_le _, Nat.zero_le _, rfl, rfl, by omega, by omega, rfl, rfl⟩
  case round =>
    obtain ⟨k, N, hk, hk11, rfl, rfl, hN0, hN1, hI⟩ := hrel
    have HDG : Hid (∀ j b, j < k → s.data.toList[j]? = some b → isDg b = true) := fun j b hj hb => List.all_eq_true.1 hI.out.2 b (List.mem_of_getElem? (by rw [List.getElem?_take, if_pos hj]; exact hb))
    by_cases hgo : ∃ hlt : k < s.size, k < 11 ∧ isDg (s[k]'hlt) = true
    · obtain ⟨hlt, h11, hd⟩ := hgo
      have GK : Hid (s.data.toList[k]? = some (s[k]'hlt)) := bget s k hlt
      have hd2 := hd
      rw [dg_int] at hd2
      simp at hd2
      obtain ⟨c, hc⟩ : ∃ c : Int, c = ((s[k]'hlt).toNat : Int) := ⟨_, rfl⟩
      obtain ⟨M, hM⟩ : ∃ M : Int, M = 10 * N + (((s[k]'hlt).toNat : Int) - 48) := ⟨_, rfl⟩
      have HI2 : Hid (M = (valD (s.data.toList.take (k + 1)) : Int) ∧ (s.data.toList.take (k + 1)).all isDg = true) := by
        have e : s.data.toList.take (k + 1) = s.data.toList.take k ++ [s[k]'hlt] := by rw [List.take_add_one, GK.out]; rfl
        refine ⟨?_, by rw [e, List.all_append, hI.out.2]; simp [hd]⟩
        rw [e, valD_snoc, hM, hI.out.1]
        omega
      have hM1 : M < 100000000000 := by
        have h := valD_lt (k + 1) (s.data.toList.take (k + 1)) (by rw [List.length_take]; have := HSL.out; omega) HI2.out.2
        have h2 : 10 ^ (k + 1) ≤ 10 ^ 11 := Nat.pow_le_pow_right (by omega) (by omega)
        have h3 := HI2.out.1
        omega
      have hM0 : 0 ≤ M := by omega
      have w1 : IntKind.u64.wrap (10 * N) = 10 * N := by simp [IntKind.wrap, IntKind.bits, IntKind.signed]; omega
      have w2 : IntKind.u8.wrap (((s[k]'hlt).toNat : Int) - 48) = ((s[k]'hlt).toNat : Int) - 48 := by simp [IntKind.wrap, IntKind.bits, IntKind.signed]; omega
      have w3 : IntKind.u64.wrap (((s[k]'hlt).toNat : Int) - 48) = ((s[k]'hlt).toNat : Int) - 48 := by simp [IntKind.wrap, IntKind.bits, IntKind.signed]; omega
      have w4 : IntKind.u64.wrap (10 * N + (((s[k]'hlt).toNat : Int) - 48)) = M := by rw [← hM]; simp [IntKind.wrap, IntKind.bits, IntKind.signed]; omega
      have t1 : (48 : Int) ≤ ((s[k]'hlt).toNat : Int) := by omega
      have t2 : ((s[k]'hlt).toNat : Int) ≤ 57 := by omega
      clear hM hc hd hd2 hI HDG
      go_wp2
      exact ⟨⟨k + 1, M, by omega, by omega, rfl, by go_num, hM0, hM1, HI2⟩, by simp [intOf]; omega⟩
    · have HRUN : Hid (runD 11 s.data.toList = k) := runD_stop 11 k _ hk11 HDG.out (by have := HSL.out; omega) (by
        by_cases hlt : k < s.size
        · by_cases h11 : k < 11
          · refine .inr (.inr ⟨_, bget s k hlt, ?_⟩)
            cases hx : isDg (s[k]'hlt) with
            | false => rfl
            | true => exact absurd ⟨hlt, h11, hx⟩ hgo
          · exact .inl (by omega)
        · exact .inr (.inl (by have := HSL.out; omega)))
      have HNV : Hid (N = (valD (s.data.toList.take k) : Int)) := hI.out.1
      have HNO : Hid (¬ ∃ hlt : k < s.size, k < 11 ∧ isDg (s[k]'hlt) = true) := hgo
      clear hgo hI HDG
      go_upto_region 3 with fail
      go_cut [25] from 6 to 25 (fun v25 wc => v25 = .bool false ∧ wc = w)
      case first =>
        by_cases hlt : k < s.size
        · by_cases h11 : k < 11
          · have hnd : isDg (s[k]'hlt) = false := by
              cases hx : isDg (s[k]'hlt) with
              | false => rfl
              | true => exact absurd ⟨hlt, h11, hx⟩ HNO.out
            rw [dg_int] at hnd
            by_cases h48 : (48 : Int) ≤ ((s[k]'hlt).toNat : Int)
            · have h57 : ¬ ((s[k]'hlt).toNat : Int) ≤ 57 := fun h => by simp [h48, h] at hnd
              clear hnd
              go_wp2
              go_meet
              exact ⟨by first | rfl | simp_all, rfl⟩
            · clear hnd
              go_wp2
              go_meet
              exact ⟨by first | rfl | simp_all, rfl⟩
          · go_wp2
            go_meet
            exact ⟨by first | rfl | simp_all, rfl⟩
        · go_wp2
          go_meet
          exact ⟨by first | rfl | simp_all, rfl⟩
      case rest =>
        obtain ⟨rfl, hwc⟩ := hcut
        subst hwc
        by_cases h10 : 10 < k
        · have HZ : Hid (V = 0 ∧ K = 0) := by rw [HVK.out.1, HVK.out.2]; unfold numD; rw [HRUN.out, if_pos (.inl h10)]; exact ⟨rfl, rfl⟩
          go_wp2
          go_ret2
          exact ⟨by rw [HZ.out.1, HZ.out.2]; rfl, rfl⟩
        · by_cases h1 : 1 < k
          · have h0s : 0 < s.size := by omega
            have G0 : Hid (s.data.toList[0]? = some (s[0]'h0s)) := bget s 0 h0s
            by_cases hz : (s[0]'h0s) = 48
            · have HZ : Hid (V = 0 ∧ K = 0) := by rw [HVK.out.1, HVK.out.2]; unfold numD; rw [HRUN.out, if_pos (.inr ⟨h1, by rw [List.head?_eq_getElem?, G0.out, hz]⟩)]; exact ⟨rfl, rfl⟩
              have d1 : ((((s[0]'h0s).toNat : Nat) : Int) == 48) = true := by rw [hz]; rfl
              clear hz
              go_wp2
              go_ret2
              exact ⟨by rw [HZ.out.1, HZ.out.2]; rfl, rfl⟩
            · have HZ : Hid ((V : Int) = N ∧ K = k) := by
                rw [HVK.out.1, HVK.out.2, HNV.out]
                unfold numD
                rw [HRUN.out, if_neg (by rintro (h | ⟨-, h⟩); exact h10 h; rw [List.head?_eq_getElem?, G0.out] at h; exact hz (Option.some.inj h))]
                exact ⟨rfl, rfl⟩
              have d1 : ((((s[0]'h0s).toNat : Nat) : Int) == 48) = false := by
                simp
                intro e
                have e2 : (s[0]'h0s).toNat = 48 := by omega
                exact hz (UInt8.toNat_inj.1 e2)
              clear hz
              go_wp2
              go_ret2
              exact ⟨by rw [HZ.out.1, HZ.out.2]; rfl, rfl⟩
          · have HZ : Hid ((V : Int) = N ∧ K = k) := by
              rw [HVK.out.1, HVK.out.2, HNV.out]
              unfold numD
              rw [HRUN.out, if_neg (by rintro (h | ⟨h, -⟩); exact h10 h; exact h1 h)]
              exact ⟨rfl, rfl⟩
            go_wp2
            go_ret2
            exact ⟨by rw [HZ.out.1, HZ.out.2]; rfl, rfl⟩
end Go.Proofs.YtnidfbcninkglaaDoor
