/-
  Bytes of labels; a text's beginning; a text cut at a point.
-/
import Derived.Test.YtbbopehpmnebiaaGreatDoorBase
import Derived.Test.YtbbopehpmnebiaaGreatDoorPl
import Derived.Lib.Bytealg
import Derived.Lib.Strings
import Derived.Laws.Strings3
import Derived.Shelf.RegionOpenPlain
import Derived.Lib.Hide
import Derived.Lib.CutLaws
namespace Go.Proofs.YtbbopehpmnebiaaGreatDoor
open Go.RowKit Go.Shelf
set_option linter.unusedVariables false
set_option maxRecDepth 100000

theorem ret_bool {a b : Bool} (h : a = b) : Ending.returned (.bool a) = .returned (.bool b) := by rw [h]

set_option maxHeartbeats 2000000 in
theorem isLabelByte_any (c : Int) (w : World) : Calls Tryz.prog 44 #[.int .u8 c] w fun e w' => e = .returned (.bool (lbI c)) ∧ w' = w := by
  go_enter Tryz.func44, Tryz.ntmps44
  go_wp2
  all_goals (go_ret; exact ⟨ret_bool (by rw [Bool.eq_iff_iff]; simp [lbI]; omega), rfl⟩)

set_option maxHeartbeats 2000000 in
theorem letter_any (c : Int) (w : World) : Calls Tryz.prog 22 #[.int .u8 c] w fun e w' => e = .returned (.bool (lbI c)) ∧ w' = w := by
  go_enter Tryz.func22, Tryz.ntmps22
  go_wp2
  all_goals (go_ret; exact ⟨ret_bool (by rw [Bool.eq_iff_iff]; simp [lbI]; omega), rfl⟩)

theorem hasP_raw (s : ByteArray) : Lib.hasPrefix s.data.toList [42, 46] = true ↔ ∃ u, s.data.toList = 42 :: 46 :: u := by
  unfold Lib.hasPrefix
  constructor
  · intro h
    obtain ⟨u, hu⟩ := List.isPrefixOf_iff_prefix.1 h
    exact ⟨u, hu.symm⟩
  · rintro ⟨u, hu⟩
    rw [hu]
    rfl
set_option maxHeartbeats 1000000 in
theorem hasPrefix_any (s p : ByteArray) (w : World) :
    Calls Tryz.prog 45 #[.string s, .string p] w fun e w' => e = .returned (.bool (Lib.hasPrefix s.data.toList p.data.toList)) ∧ w' = w := by
  rw [← Lib.hasPrefix_of_take, ← Lib.size_eq, ← Lib.size_eq]
  go_enter Tryz.func45, Tryz.ntmps45
  go_wp2
  · rename_i h
    go_ret
    refine ⟨?_, rfl⟩
    show Ending.returned (Value.bool ((s.extract 0 p.size).toList == p.toList)) = _
    rw [Lib.extract_toList, Lib.toList_data]
    simp [h]
  · rename_i h
    go_ret
    refine ⟨?_, rfl⟩
    show Ending.returned (Value.bool false) = _
    simp [h]

theorem ba_ext {a b : ByteArray} (h : a.data.toList = b.data.toList) : a = b := by
  cases a with | mk x => cases b with | mk y =>
    congr 1
    exact Array.toList_inj.1 h

set_option maxHeartbeats 1000000 in
theorem cutPrefix_no (s : ByteArray) (h : ∀ u, s.data.toList ≠ 42 :: 46 :: u) (w : World) :
    Calls Tryz.prog 12 #[.string s, .string ⟨#[42, 46]⟩] w fun e w' => e = .returned (.tuple #[.string s, .bool false]) ∧ w' = w := by
  have hh : Lib.hasPrefix s.data.toList (⟨#[42, 46]⟩ : ByteArray).data.toList = false := by
    cases hx : Lib.hasPrefix s.data.toList (⟨#[42, 46]⟩ : ByteArray).data.toList with
    | false => rfl
    | true => obtain ⟨u, hu⟩ := (hasP_raw s).1 hx; exact absurd hu (h u)
  have HH : Hid (Lib.hasPrefix s.data.toList (⟨#[42, 46]⟩ : ByteArray).data.toList = false) := hh
  clear hh h
  go_enter Tryz.func12, Tryz.ntmps12
  go_wp2_with (first | (go_at_call 45; refine (hasPrefix_any _ _ _).mono ?_; rintro e w' ⟨rfl, hw⟩; rw [hw, HH.out]) | go_in)
  go_ret2
  exact ⟨rfl, rfl⟩

set_option maxHeartbeats 1000000 in
theorem cutPrefix_yes (s : ByteArray) (u : List UInt8) (h : s.data.toList = 42 :: 46 :: u) (w : World) :
    Calls Tryz.prog 12 #[.string s, .string ⟨#[42, 46]⟩] w fun e w' => e = .returned (.tuple #[.string ⟨u.toArray⟩, .bool true]) ∧ w' = w := by
  have HH : Hid (Lib.hasPrefix s.data.toList (⟨#[42, 46]⟩ : ByteArray).data.toList = true) := (hasP_raw s).2 ⟨u, h⟩
  have hs : 2 ≤ s.size := by rw [Lib.size_eq, h]; simp
  have HE : Hid (s.extract 2 s.size = ⟨u.toArray⟩) := by
    refine ba_ext ?_
    rw [Lib.extract_to_end, h]
    rfl
  clear h
  go_enter Tryz.func12, Tryz.ntmps12
  go_wp2_with (first | (go_at_call 45; refine (hasPrefix_any _ _ _).mono ?_; rintro e w' ⟨rfl, hw⟩; rw [hw, HH.out]) | go_in)
  go_ret2
  exact ⟨by rw [← HE.out]; rfl, rfl⟩

theorem idx_no : ∀ (l : List UInt8), (∀ b ∈ l, b ≠ 46) → Lib.indexByte l 46 = -1
  | [], _ => rfl
  | b :: l, h => by
    have hb : (b == 46) = false := by simpa using h b List.mem_cons_self
    rw [Lib.indexByte, hb, idx_no l (fun x hx => h x (List.mem_cons_of_mem _ hx))]
    rfl
theorem idx_yes : ∀ (p r : List UInt8), (∀ b ∈ p, b ≠ 46) → Lib.indexByte (p ++ 46 :: r) 46 = p.length
  | [], r, _ => rfl
  | b :: p, r, h => by
    have hb : (b == 46) = false := by simpa using h b List.mem_cons_self
    have ih := idx_yes p r (fun x hx => h x (List.mem_cons_of_mem _ hx))
    rw [List.cons_append, Lib.indexByte, hb, ih]
    have : ((p.length : Int) == -1) = false := by simp
    rw [this]
    simp
theorem dot_cases (l : List UInt8) : (∀ b ∈ l, b ≠ 46) ∨ ∃ p r, l = p ++ 46 :: r ∧ ∀ b ∈ p, b ≠ 46 := by
  induction l with
  | nil => exact .inl (fun b hb => by cases hb)
  | cons c l ih =>
    by_cases hc : c = 46
    · subst hc
      exact .inr ⟨[], l, rfl, fun b hb => by cases hb⟩
    · rcases ih with h | ⟨p, r, rfl, h⟩
      · exact .inl (fun b hb => by rcases List.mem_cons.1 hb with rfl | hb; exact hc; exact h b hb)
      · exact .inr ⟨c :: p, r, rfl, fun b hb => by rcases List.mem_cons.1 hb with rfl | hb; exact hc; exact h b hb⟩

set_option maxHeartbeats 1000000 in
theorem indexByte_any (s : ByteArray) (c : Int) (w : World) :
    Calls Tryz.prog 65 #[.string s, .int .u8 c] w fun e w' => e = .returned (.int .i64 (Lib.indexByte s.data.toList c.toNat.toUInt8)) ∧ w' = w := by
  go_enter Tryz.func65, Tryz.ntmps65
  go_wp2
  rw [run_callFunc_extern Tryz.func76 (by kernel_rfl) (by kernel_rfl) (by kernel_rfl) (e := Extern.BytealgIndexByte.indexByte) (by kernel_rfl), Lib.run_indexByteString]
  simp only [Result.andThen]
  rw [Oper.upon_value]
  go_wp2
  go_ret
  exact ⟨rfl, rfl⟩

set_option maxHeartbeats 1000000 in
theorem index_any (s : ByteArray) (hne : s.data.toList ≠ [46]) (w : World) :
    Calls Tryz.prog 52 #[.string s, .string ⟨#[46]⟩] w fun e w' => e = .returned (.int .i64 (Lib.indexByte s.data.toList 46)) ∧ w' = w := by
  have hq : ([46] == s.toList) = false := by
    rw [Lib.toList_data]
    simpa using fun e => hne e.symm
  go_enter Tryz.func52, Tryz.ntmps52
  go_wp2_with (go_at_call 65; refine (indexByte_any _ _ _).mono ?_; rintro e w' ⟨rfl, rfl⟩)
  go_ret
  exact ⟨rfl, rfl⟩
theorem index_dot (s : ByteArray) (w : World) :
    Calls Tryz.prog 52 #[.string s, .string ⟨#[46]⟩] w fun e w' => e = .returned (.int .i64 (Lib.indexByte s.data.toList 46)) ∧ w' = w := by
  by_cases hne : s.data.toList = [46]
  · have hs : s = ⟨#[46]⟩ := ba_ext hne
    subst hs
    go_enter Tryz.func52, Tryz.ntmps52
    go_wp2
    go_ret
    exact ⟨rfl, rfl⟩
  · exact index_any s hne w

set_option maxHeartbeats 1000000 in
theorem cutl_no (s : ByteArray) (h : ∀ b ∈ s.data.toList, b ≠ 46) (w : World) :
    Calls Tryz.prog 25 #[.string s, .string ⟨#[46]⟩] w fun e w' => e = .returned (.tuple #[.string s, .string ⟨#[]⟩, .bool false]) ∧ Chg Non w w' := by
  have HI : Hid (Calls Tryz.prog 52 #[.string s, .string ⟨#[46]⟩] w fun e w' => e = .returned (.int .i64 (-1)) ∧ w' = w) := by
    have := index_dot s w
    rw [idx_no _ h] at this
    exact this
  clear h
  go_enter Tryz.func25, Tryz.ntmps25
  go_wp2_with (go_at_call 52; refine HI.out.mono ?_; rintro e w' ⟨rfl, rfl⟩)
  go_ret3
  exact ⟨rfl, Chg.refl _ _⟩

set_option maxHeartbeats 1000000 in
theorem cutl_yes (s : ByteArray) (p r : List UInt8) (hl : s.data.toList = p ++ 46 :: r) (h : ∀ b ∈ p, b ≠ 46) (hz : s.size ≤ 140737488355328) (w : World) :
    Calls Tryz.prog 25 #[.string s, .string ⟨#[46]⟩] w fun e w' => e = .returned (.tuple #[.string ⟨p.toArray⟩, .string ⟨r.toArray⟩, .bool true]) ∧ Chg Non w w' := by
  obtain ⟨k, hk⟩ : ∃ k, k = p.length := ⟨_, rfl⟩
  have hsz : s.size = k + 1 + r.length := by rw [Lib.size_eq, hl, hk]; simp; omega
  have HI : Hid (Calls Tryz.prog 52 #[.string s, .string ⟨#[46]⟩] w fun e w' => e = .returned (.int .i64 k) ∧ w' = w) := by
    have := index_dot s w
    rw [hl, idx_yes _ _ h, ← hk] at this
    exact this
  have HE1 : Hid (s.extract 0 k = ⟨p.toArray⟩) := by
    refine ba_ext ?_
    rw [Lib.extract_data, hl, hk]
    simp
  have HE2 : Hid (s.extract (k + 1) s.size = ⟨r.toArray⟩) := by
    refine ba_ext ?_
    rw [Lib.extract_to_end, hl, hk]
    simp
  have k1 : ((k : Int)) ≤ (s.size : Int) := by omega
  have k2 : ((k : Int) + 1) ≤ (s.size : Int) := by omega
  have k0 : (0 : Int) ≤ (k : Int) := by omega
  have k3 : (0 : Int) ≤ (k : Int) + 1 := by omega
  clear hl h hk hsz
  go_enter Tryz.func25, Tryz.ntmps25
  go_wp2_with (go_at_call 52; refine HI.out.mono ?_; rintro e w' ⟨rfl, rfl⟩)
  go_region
  go_wp2
  go_ret3
  exact ⟨by rw [← HE1.out, ← HE2.out]; rfl, (Chg.refl _ _).drew⟩

set_option maxHeartbeats 1000000 in
theorem cut_no (s : ByteArray) (h : ∀ b ∈ s.data.toList, b ≠ 46) (w : World) :
    Calls Tryz.prog 14 #[.string s, .string ⟨#[46]⟩] w fun e w' => e = .returned (.tuple #[.string s, .string ⟨#[]⟩, .bool false]) ∧ Chg Non w w' := by
  have HI : Hid (Calls Tryz.prog 25 #[.string s, .string ⟨#[46]⟩] w fun e w' => e = .returned (.tuple #[.string s, .string ⟨#[]⟩, .bool false]) ∧ Chg Non w w') := cutl_no s h w
  clear h
  go_enter Tryz.func14, Tryz.ntmps14
  go_wp2_with (go_at_call 25; refine HI.out.mono ?_)
  rintro e w' ⟨rfl, hc⟩
  go_wp2
  go_ret3
  exact ⟨rfl, hc⟩
set_option maxHeartbeats 1000000 in
theorem cut_yes (s : ByteArray) (p r : List UInt8) (hl : s.data.toList = p ++ 46 :: r) (h : ∀ b ∈ p, b ≠ 46) (hz : s.size ≤ 140737488355328) (w : World) :
    Calls Tryz.prog 14 #[.string s, .string ⟨#[46]⟩] w fun e w' => e = .returned (.tuple #[.string ⟨p.toArray⟩, .string ⟨r.toArray⟩, .bool true]) ∧ Chg Non w w' := by
  have HI : Hid (Calls Tryz.prog 25 #[.string s, .string ⟨#[46]⟩] w fun e w' => e = .returned (.tuple #[.string ⟨p.toArray⟩, .string ⟨r.toArray⟩, .bool true]) ∧ Chg Non w w') := cutl_yes s p r hl h hz w
  clear hl h
  go_enter Tryz.func14, Tryz.ntmps14
  go_wp2_with (go_at_call 25; refine HI.out.mono ?_)
  rintro e w' ⟨rfl, hc⟩
  go_wp2
  go_ret3
  exact ⟨rfl, hc⟩
end Go.Proofs.YtbbopehpmnebiaaGreatDoor
