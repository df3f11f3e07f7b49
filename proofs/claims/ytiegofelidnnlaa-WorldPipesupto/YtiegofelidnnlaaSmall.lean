/-
  The small calls of package world: After, between, next, cut, join, newList, bytesOf, NewRand; and the document's After.
-/
import Derived.Test.YtiegofelidnnlaaBase
namespace Go.Proofs.Ytiegofelidnnlaa
open Go.RowKit
set_option linter.unusedVariables false

theorem ret_int {k : IntKind} {a b : Int} (h : a = b) : Ending.returned (.int k a) = .returned (.int k b) := by rw [h]

def after (now n : Int) : Int := if 9223372036854775807 < now + n then 9223372036854775807 else now + n

set_option maxHeartbeats 400000 in
theorem after_any (a b : Int) (w : World) (ha : 0 ≤ a) (hb : 0 ≤ b) :
    Calls Try.prog 12 #[.int .u64 a, .int .u64 b] w fun e w' => e = .returned (.int .u64 (after a b)) ∧ w' = w := by
  by_cases h1 : 9223372036854775807 ≤ a
  · go_enter Try.func12, Try.ntmps12
    go_wp2
    all_goals (go_ret; exact ⟨ret_int (by unfold after; split <;> omega), rfl⟩)
  · by_cases h2 : 9223372036854775807 - a < b
    · go_enter Try.func12, Try.ntmps12
      go_wp2
      all_goals (go_ret; exact ⟨ret_int (by unfold after; split <;> omega), rfl⟩)
    · go_enter Try.func12, Try.ntmps12
      go_wp2
      all_goals (go_ret; exact ⟨ret_int (by unfold after; split <;> omega), rfl⟩)

set_option maxHeartbeats 400000 in
theorem rafter_any (a b : Int) (w : World) (ha : 0 ≤ a) (hb : 0 ≤ b) :
    Calls Try.prog 11 #[.int .u64 a, .int .u64 b] w fun e w' => e = .returned (.int .u64 (after a b)) ∧ w' = w := by
  by_cases h1 : 9223372036854775807 < a
  · go_enter Try.func11, Try.ntmps11
    go_wp2
    all_goals (go_ret; exact ⟨ret_int (by unfold after; split <;> omega), rfl⟩)
  · by_cases h2 : 9223372036854775807 - a < b
    · go_enter Try.func11, Try.ntmps11
      go_wp2
      all_goals (go_ret; exact ⟨ret_int (by unfold after; split <;> omega), rfl⟩)
    · go_enter Try.func11, Try.ntmps11
      go_wp2
      all_goals (go_ret; exact ⟨ret_int (by unfold after; split <;> omega), rfl⟩)

set_option maxHeartbeats 400000 in
theorem between_any (a b : Int) (w : World) :
    Calls Try.prog 26 #[.int .i64 a, .int .i64 b] w fun e w' => e = .returned (.int .i64 (max 0 (min a b))) ∧ w' = w := by
  go_enter Try.func26, Try.ntmps26
  go_wp2
  all_goals (go_ret; exact ⟨ret_int (by omega), rfl⟩)

def nst (st : Int) : Int := IntKind.u64.wrap (st + 11400714819323198485)
def mixA (z : Int) : Int := IntKind.u64.wrap (bits BinOp.xor IntKind.u64 z (z / 1073741824) * 13787848793156543929)
def mixB (z : Int) : Int := IntKind.u64.wrap (bits BinOp.xor IntKind.u64 z (z / 134217728) * 10723151780598845931)
def mixC (z : Int) : Int := bits BinOp.xor IntKind.u64 z (z / 2147483648)
def num (st : Int) : Int := mixC (mixB (mixA (nst st)))

set_option maxHeartbeats 400000 in
theorem next_any (r : Nat) (st : Int) (w : World) (h0 : w.cell? ⟨r, 1, none⟩ = some (.int .u64 st)) (h1 : w.frozen? ⟨r, 1, none⟩ = false) :
    Calls Try.prog 28 #[.pointer (some ⟨r, 0, none⟩)] w fun e w' => e = .returned (.int .u64 (num st)) ∧ w' = w.setCell ⟨r, 1, none⟩ (.int .u64 (nst st)) := by
  go_enter Try.func28, Try.ntmps28
  go_wp2
  go_ret
  exact ⟨ret_int (by unfold num mixC mixB mixA nst; rfl), rfl⟩

set_option maxHeartbeats 400000 in
theorem cut_nil (v : Value) (f : Int) (w : World) :
    Calls Try.prog 29 #[v, .int .i64 f, .int .i64 f] w fun e w' => e = .returned (.slice none 0 0) ∧ w' = w := by
  go_enter Try.func29, Try.ntmps29
  go_wp2
  all_goals (go_ret; exact ⟨rfl, rfl⟩)

set_option maxHeartbeats 400000 in
theorem cut_some (x : Addr) (n c f t : Nat) (w : World) (h1 : f < t) (h2 : t ≤ c) (h3 : c ≤ 9223372036854775807) :
    Calls Try.prog 29 #[.slice (some x) n c, .int .i64 f, .int .i64 t] w fun e w' => e = .returned (.slice (some (x.add f)) (t - f) (t - f)) ∧ w' = w := by
  have hne : ((f : Int) == (t : Int)) = false := by simp; omega
  have hne2 : ¬ t = f := by omega
  go_enter Try.func29, Try.ntmps29
  go_wp2
  all_goals (go_ret; exact ⟨by simp, rfl⟩)

/-- cut, of whatever can be read. -/
theorem cut_rd (v : Value) (xs : List Int) (f t : Int) (w : World) (hv : Rd w v xs) (h0 : 0 ≤ f) (h1 : f ≤ t) (h2 : t ≤ xs.length) :
    Calls Try.prog 29 #[v, .int .i64 f, .int .i64 t] w fun e w' => ∃ v', e = .returned v' ∧ w' = w ∧ Tight w v' ((xs.drop f.toNat).take (t.toNat - f.toNat)) ∧ ∀ k, v'.ownBlock = some k → v.ownBlock = some k := by
  obtain ⟨f, rfl⟩ := Int.eq_ofNat_of_zero_le h0
  obtain ⟨t, rfl⟩ := Int.eq_ofNat_of_zero_le (Int.le_trans h0 h1)
  simp only [Int.toNat_natCast]
  by_cases hft : f = t
  · subst hft
    refine (cut_nil v f w).mono ?_
    rintro e w' ⟨rfl, rfl⟩
    exact ⟨_, rfl, rfl, .inl ⟨rfl, by simp⟩, fun k hk => by simp [Value.ownBlock] at hk⟩
  · obtain ⟨ao, n, c, rfl, hn, hc, hmx, h0, hx⟩ := hv
    unfold maxLen at hmx
    cases ao with
    | none => have := h0 rfl; omega
    | some x =>
      refine (cut_some x n c f t w (by omega) (by omega) (by omega)).mono ?_
      rintro e w' ⟨rfl, rfl⟩
      have hb : (x.add f).block = x.block := by unfold Addr.add; split <;> rfl
      refine ⟨_, rfl, rfl, .inr ⟨_, _, rfl, by simp; omega, by omega, by unfold maxLen; omega, fun j u hj => ?_⟩, fun k hk => ?_⟩
      · rw [List.getElem?_take] at hj
        split at hj
        · rw [List.getElem?_drop] at hj
          have := hx x rfl (f + j) u hj
          rw [← this]
          congr 1
          unfold Addr.add
          by_cases hf0 : f = 0 <;> by_cases hj0 : j = 0 <;> simp [hf0, hj0, Nat.add_assoc]
        · cases hj
      · simp only [Value.ownBlock, hb] at hk ⊢
        exact hk

set_option maxHeartbeats 400000 in
theorem join_any (v s : Value) (xs ys : List Int) (w : World) (hv : Tight w v xs) (hs : Rd w s ys) (hb : xs.length + ys.length ≤ 140737488355328) :
    Calls Try.prog 45 #[v, s] w fun e w' => ∃ v', e = .returned v' ∧ Tight w' v' (xs ++ ys) ∧ Chg Non w w' ∧ ∀ k, v'.ownBlock = some k → v.ownBlock = some k ∨ w.heap.size ≤ k := by
  go_enter Try.func45, Try.ntmps45
  go_wp2_with (at_builtin; refine wpList_tight _ rfl (.tmp 6) (.tmp 7) rfl v s xs ys rfl rfl hv hs hb ?_)
  intro v' w' hr hc ho
  generalize hz : xs ++ ys = zs at *
  obtain ⟨ao, n, c, rfl, hn, hnc, hmx, h0, hx⟩ := hr
  have HR : Hid (Rd w' (.slice ao n c) zs) := ⟨ao, n, c, rfl, hn, hnc, hmx, h0, hx⟩
  have hl : n ≤ 140737488355328 := by rw [hn, ← hz]; simpa using hb
  have HN : Hid (n = zs.length) := hn
  have HZ : Hid (xs ++ ys = zs) := hz
  clear hn hx h0 hmx hz
  go_wp2_with fail
  refine (cut_rd _ zs _ _ _ HR.out (by omega) (by omega) (by have := HN.out; omega)).mono ?_
  rintro e w2 ⟨v2, rfl, rfl, ht, hk⟩
  go_wp2
  go_ret
  refine ⟨v2, rfl, ?_, hc, fun k e => ?_⟩
  · rw [HZ.out]
    simpa [HN.out] using ht
  · rcases ho with ho | ho
    · exact .inl (ho ▸ hk k e)
    · exact .inr (by have := hk k e; rw [ho] at this; cases this; exact Nat.le_refl _)

set_option maxHeartbeats 400000 in
theorem newList_any (s : Value) (ys : List Int) (w : World) (hs : Rd w s ys) (hb : ys.length ≤ 140737488355328) :
    Calls Try.prog 25 #[s] w fun e w' => ∃ v', e = .returned v' ∧ Tight w' v' ys ∧ Chg Non w w' ∧ ∀ k, v'.ownBlock = some k → w.heap.size ≤ k := by
  go_enter Try.func25, Try.ntmps25
  go_wp2_with fail
  refine (join_any _ _ [] ys _ (.inl ⟨rfl, rfl⟩) hs (by simpa using hb)).mono ?_
  rintro e w2 ⟨v2, rfl, ht, hc, hk⟩
  go_wp2
  go_ret
  refine ⟨v2, rfl, ht, hc, fun k e => ?_⟩
  rcases hk k e with h | h
  · simp [Value.ownBlock] at h
  · exact h

/-- A source of the program's: what comes next, and its state. -/
def RandA (w : World) (r : Nat) (v : Value) (xs : List Int) (st : Int) : Prop :=
  w.heap[r]? = some (.cells #[v, .int .u64 st] 62 (0, 0)) ∧ Tight w v xs

set_option maxHeartbeats 400000 in
theorem newRand_any (s : Value) (ys : List Int) (st : Int) (w : World) (hs : Rd w s ys) (hb : ys.length ≤ 140737488355328) :
    Calls Try.prog 13 #[s, .int .u64 st] w fun e w' => ∃ r v, e = .returned (.pointer (some ⟨r, 0, none⟩)) ∧ RandA w' r v ys st ∧ Chg Non w w' ∧ w.heap.size ≤ r ∧ ∀ k, v.ownBlock = some k → w.heap.size ≤ k ∧ k ≠ r := by
  go_enter Try.func13, Try.ntmps13
  go_wp2_with fail
  refine (newList_any _ ys _ hs hb).mono ?_
  rintro e w2 ⟨v2, rfl, ht, hc, hk⟩
  obtain ⟨ao, n, rfl⟩ := ht.shape
  have HK : Hid (∀ k, (Value.slice ao n n).ownBlock = some k → w.heap.size ≤ k) := hk
  clear hk
  go_wp2
  go_ret
  refine ⟨_, _, rfl, ⟨heap_alloc_new w2 _, ht.keep (fun k e => Below.heap_alloc _ _ _ (ht.lt k e))⟩, hc.alloc _, hc.size, fun k e => ⟨HK.out k e, ?_⟩⟩
  have := ht.lt k e
  omega

def u8At (z : Int) (k : Nat) : Int := z / 2 ^ (8 * k) % 256

set_option maxHeartbeats 400000 in
theorem bytesOf_any (z : Int) (w : World) (hz : 0 ≤ z) :
    Calls Try.prog 27 #[.int .u64 z] w fun e w' => e = .returned (.slice (some ⟨w.heap.size, 0, none⟩) 8 8) ∧ Own w' w.heap.size 0 8 8 ((List.range 8).map (u8At z)) ∧ Chg Non w w' := by
  go_enter Try.func27, Try.ntmps27
  have hmk : ∀ w : World, (Instr.makeSlice 32 (.int .i64 0) (.int .i64 8)).run Try.prog w = .ok (.slice (some ⟨w.heap.size, 0, none⟩) 0 8) (w.alloc (.cells #[.int .u8 0, .int .u8 0, .int .u8 0, .int .u8 0, .int .u8 0, .int .u8 0, .int .u8 0, .int .u8 0] 5)) := fun _ => by kernel_rfl
  go_wp2
  clear hmk
  go_loopw [3, 6] (fun v i wr => ∃ k : Nat, k ≤ 8 ∧ i = .int .i64 k ∧ v = .slice (some ⟨w.heap.size, 0, none⟩) k 8 ∧ Own wr w.heap.size 0 k 8 ((List.range k).map (u8At z)) ∧ Chg Non w wr)
    (fun _ i _ => 8 - (intOf i).toNat)
  case atStart => exact ⟨0, by omega, rfl, rfl, ⟨rfl, by omega, by decide, _, heap_alloc_new w _, by simp, by simp⟩, (Chg.refl _ _).alloc _⟩
  case round =>
    obtain ⟨k, hk, rfl, rfl, ho, hc⟩ := hrel
    have hgt : w.heap.size < wr.heap.size := ho.lt
    by_cases hlt : k < 8
    · have HO : Hid (Own wr w.heap.size 0 k 8 ((List.range k).map (u8At z))) := ho
      clear ho
      go_wp2_with (at_builtin; refine wpList_room _ rfl (.tmp 9) (.tmp 15) rfl w.heap.size 0 k 8 _ _ [u8At z k] rfl rfl (HO.out.keep (Below.heap_alloc _ _ _ (by omega))) (Rd.one _ _) 1 rfl (by omega) ?_)
      intro w1 ho1 hc1
      have HO1 : Hid (Own w1 w.heap.size 0 (k + 1) 8 (List.map (u8At z) (List.range k) ++ [u8At z k])) := ho1
      have HC1 : Hid (Chg Non w w1) := (hc.alloc _).trans hc1 (fun i hi e => by cases e; omega)
      clear ho1 hc1 HO
      go_wp2
      go_roundw
      case rel => exact ⟨k + 1, by omega, by go_num, rfl, by rw [List.range_succ, List.map_append]; exact HO1.out, HC1.out⟩
      case measure => simp [intOf]; omega
    · have : k = 8 := by omega
      subst this
      go_wp2
      go_ret
      exact ⟨rfl, ho, hc⟩
end Go.Proofs.Ytiegofelidnnlaa
