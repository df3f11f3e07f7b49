/-
  The live question.
-/
import Derived.Test.YtdhckndehijemaaHn
import Derived.Test.YtdhckndehijemaaMj23
namespace Go.Proofs.Ytdhckndehijemaa
open Go.RowKit
set_option linter.unusedVariables false
set_option maxRecDepth 100000


set_option maxHeartbeats 800000 in
theorem getList_any (v : Value) (xs : List Int) (w : World) (h : Bt (Bel w.heap.size) w v xs) : Calls Try.prog 51 #[v] w fun e w' => ∃ ao L c al, e = .returned (.tuple #[.slice ao L c, .int .i64 al]) ∧ GP (.lst (.num .u16)) (pList 2 1 16777216 (pDig 2)) [] w w' xs [.slice ao L c] al := by
  have hp := getN_any v xs w h
  clear h
  go_enter Try.func51, Try.ntmps51
  go_wp2_with (go_at_call 142; refine hp.mono ?_)
  rintro e w2 ⟨ao, L, c, al, rfl, hq⟩
  have HQ : Hid (GP (.lst (.num .u16)) (pList 2 1 16777216 (pDig 2)) [] w w2 xs [.slice ao L c] al) := hq
  clear hq hp
  go_wp2
  go_ret2
  exact ⟨ao, L, c, al, rfl, HQ.out⟩

theorem head_get : outc (pList 2 1 16777216 (pDig 2)) [] [0, 0] = (([] : List Int), (50 : Int)) := by decide +kernel
theorem head_put : (wName [97, 46, 98]).getD [] = [0, 6, 0, 0, 3, 97, 46, 98] := by decide +kernel

set_option maxHeartbeats 3200000 in
theorem head_any (w : World) : Calls Try.prog 10 #[] w fun e w' => e = .returned (.bool true) ∧ Chg Non w w' := by
  obtain ⟨w1, hw1⟩ : ∃ w1, w1 = w.alloc (.cells #[.int .u8 0, .int .u8 0] 5) := ⟨_, rfl⟩
  have hr : Bt (Bel w1.heap.size) w1 (.slice (some ⟨w.heap.size, 0, none⟩) 2 2) [0, 0] := by
    have h := row_rd w [0, 0] 2 rfl (by decide)
    refine ⟨?_, ?_, fun k e => ?_⟩
    · rw [hw1]; exact h
    · intro x hx; simp at hx; omega
    · injection e with e
      rw [hw1]
      show k < _
      rw [← e]
      simp
  have hg := getList_any _ _ w1 hr
  have HW1 : Hid (w1 = w.alloc (.cells #[.int .u8 0, .int .u8 0] 5)) := hw1
  have C1 : Hid (Chg Non w w1) := by rw [hw1]; exact (Chg.refl _ _).alloc _
  clear hr hw1
  go_enter Try.func10, Try.ntmps10
  go_wp2_with fail
  rw [← HW1.out]
  refine hg.mono ?_
  rintro e w2 ⟨ao, L, c, al, rfl, hq⟩
  obtain ⟨x, q1, q2⟩ := hq.out
  have hal : al = 50 := by
    have h := congrArg Prod.snd (head_get.symm.trans q1)
    exact h.symm
  subst hal
  have C2 : Hid (Chg Non w w2) := C1.out.two hq.chg
  have hp := putName_any ⟨#[97, 46, 98]⟩ [97, 46, 98] w2 ⟨rfl, by intro x hx; simp at hx; omega⟩ (by simp)
  clear hq q1 q2 hg
  go_wp2_with (go_at_call 75; refine hp.mono ?_)
  rintro e w3 ⟨v, rfl, ho⟩
  have hs := run_str w3 v _ ho.own.rd
  rw [head_put] at hs
  have hs' : (convert 23 9 v).run Try.prog w3 = .ok (.string ⟨#[0, 6, 0, 0, 3, 97, 46, 98]⟩) w3 := hs
  obtain ⟨ao3, n3, c3, rfl⟩ := ho.shape
  have C3 : Hid (Chg Non w w3) := C2.out.two ho.chg
  clear ho hp hs
  go_wp2
  go_ret
  exact ⟨rfl, C3.out⟩
end Go.Proofs.Ytdhckndehijemaa
namespace Go.Proofs.Ytdhckndehijemaa
open Go.RowKit
set_option linter.unusedVariables false
set_option maxRecDepth 100000

/-- A writer: its bytes, whether something is wrong. -/
structure VM (w : World) (r : Nat) (v : Value) (no : Bool) (xs : List Int) : Prop where
  blk : w.heap[r]? = some (.cells #[v, .bool no] 115)
  own : OwnV w v xs
  new : ∀ k, v.ownBlock = some k → k ≠ r
  byt : Byt xs

theorem VM.lt {w : World} {r : Nat} {v : Value} {no : Bool} {xs : List Int} (h : VM w r v no xs) : r < w.heap.size := (Array.getElem?_eq_some_iff.1 h.blk).1
theorem VM.facts {w : World} {r : Nat} {v : Value} {no : Bool} {xs : List Int} (h : VM w r v no xs) : w.cell? ⟨r, 0, none⟩ = some v ∧ w.cell? ⟨r, 1, none⟩ = some (.bool no) ∧ w.frozen? ⟨r, 0, none⟩ = false ∧ w.frozen? ⟨r, 1, none⟩ = false :=
  ⟨(cell2 h.blk).1, (cell2 h.blk).2, frozen_of_row w r 0 _ _ h.blk, frozen_of_row w r 1 _ _ h.blk⟩
theorem VM.keep {S : Nat → Prop} {w w' : World} {r : Nat} {v : Value} {no : Bool} {xs : List Int} (h : VM w r v no xs) (c : Chg S w w') (hr : ¬ S r) (hS : ∀ k, v.ownBlock = some k → ¬ S k) : VM w' r v no xs :=
  ⟨by rw [c.block r h.lt hr]; exact h.blk, h.own.keep (fun k e => c.block k (h.own.lt k e) (hS k e)), h.new, h.byt⟩
theorem VM.non {w w' : World} {r : Nat} {v : Value} {no : Bool} {xs : List Int} (h : VM w r v no xs) (c : Chg Non w w') : VM w' r v no xs := h.keep c (fun s => s) (fun k e s => s)

structure VP (r : Nat) (v : Value) (w w' : World) (v' : Value) (no : Bool) (xs : List Int) : Prop where
  wm : VM w' r v' no xs
  chg : Chg (Wr r v) w w'
  gr : Gr r v v' w.heap.size

theorem VP.refl {w : World} {r : Nat} {v : Value} {no : Bool} {xs : List Int} (h : VM w r v no xs) : VP r v w w v no xs := ⟨h, Chg.refl _ _, .inl rfl⟩
theorem VP.trans {r : Nat} {v v1 v2 : Value} {a b c : World} {no no' : Bool} {xs ys : List Int} (h : VP r v a b v1 no xs) (k : VP r v1 b c v2 no' ys) : VP r v a c v2 no' ys := by
  refine ⟨k.wm, h.chg.trans k.chg (fun i hi q => ?_), ?_⟩
  · rcases q with q | q
    · exact .inl q
    · rcases h.gr with g | ⟨g, g1, g2⟩
      · rw [g] at q; exact .inr q
      · rw [g1] at q; injection q with q; omega
  · rcases k.gr with g | ⟨g, g1, g2⟩
    · rcases h.gr with g' | ⟨g', g1', g2'⟩
      · exact .inl (g.trans g')
      · exact .inr ⟨g', g.trans g1', g2'⟩
    · exact .inr ⟨g, g1, Nat.le_trans h.chg.size g2⟩
theorem VP.ahead {r : Nat} {v v1 : Value} {a b c : World} {no : Bool} {xs : List Int} (h : VP r v b c v1 no xs) (k : Chg Non a b) : VP r v a c v1 no xs :=
  ⟨h.wm, (k.non _).trans h.chg (fun _ _ q => q), by rcases h.gr with g | ⟨g, g1, g2⟩; exact .inl g; exact .inr ⟨g, g1, Nat.le_trans k.size g2⟩⟩
theorem VP.after {r : Nat} {v v1 : Value} {a b c : World} {no : Bool} {xs : List Int} (h : VP r v a b v1 no xs) (k : Chg Non b c) : VP r v a c v1 no xs :=
  ⟨h.wm.non k, h.chg.trans k (fun _ _ q => q.elim), h.gr⟩

theorem VM.bad {w : World} {r : Nat} {v : Value} {no : Bool} {xs : List Int} (h : VM w r v no xs) : VP r v w (w.setCell ⟨r, 1, none⟩ (.bool true)) v true xs := by
  have c := chg_rest w r 1 (.bool true)
  exact ⟨⟨set_two1 _ h.blk, h.own.keep (fun k e => c.block k (h.own.lt k e) (fun s => by have s' : k = r := s; have := h.new k e; omega)), h.new, h.byt⟩, c.mono (fun _ _ q => .inl q), .inl rfl⟩

/-- A byte more. -/
theorem VM.app {w w2 : World} {r : Nat} {v v2 : Value} {no : Bool} {xs ys : List Int} {o : Obj} (h : VM w r v no xs) (h2 : OwnV w2 v2 (xs ++ ys)) (c : Chg (fun k => v.ownBlock = some k) (w.alloc o) w2) (g : v2.ownBlock = v.ownBlock ∨ v2.ownBlock = some (w.heap.size + 1)) (hb : Byt ys) :
    VP r v w (w2.setCell ⟨r, 0, none⟩ v2) v2 no (xs ++ ys) ∧ w2.heap[r]? = some (.cells #[v, .bool no] 115) := by
  have c1 : Chg (fun k => v.ownBlock = some k) w w2 := ((Chg.refl _ _).alloc o).trans c (fun _ _ q => q)
  have hr := h.lt
  have hne : ¬ v.ownBlock = some r := fun e => by have := h.new r e; omega
  have hb2 : w2.heap[r]? = some (.cells #[v, .bool no] 115) := by rw [c1.block r hr hne]; exact h.blk
  have cs := chg_rest w2 r 0 v2
  have hnew : ∀ k, v2.ownBlock = some k → k ≠ r := fun k e => by
    rcases g with g | g
    · rw [g] at e; exact h.new k e
    · rw [g] at e; injection e with e; omega
  refine ⟨⟨⟨set_two0 _ hb2, h2.keep (fun k e => cs.block k (h2.lt k e) (fun s => by have s' : k = r := s; have := hnew k e; omega)), hnew, h.byt.append hb⟩, ?_, ?_⟩, hb2⟩
  · exact (c1.mono (fun _ _ q => .inr q)).trans cs (fun i hi q => .inl q)
  · rcases g with g | g
    · exact .inl g
    · exact .inr ⟨_, g, by omega⟩
end Go.Proofs.Ytdhckndehijemaa
namespace Go.Proofs.Ytdhckndehijemaa
open Go.RowKit
set_option linter.unusedVariables false
set_option maxRecDepth 100000

set_option maxHeartbeats 6400000 in
theorem vnumber_any (r n : Nat) (x : Int) (hn : n ≤ 4) (hx0 : 0 ≤ x) (hx1 : x < 4294967296) (v : Value) (no : Bool) (xs : List Int) (w : World) (h : VM w r v no xs) (hl : xs.length ≤ 70000000000000) :
    Calls Try.prog 110 #[.pointer (some ⟨r, 0, none⟩), .int .i64 n, .int .i64 x] w fun e w' => ∃ v', e = .returned (.tuple #[]) ∧ VP r v w w' v' no (xs ++ putD n x) := by
  have H : Hid (VM w r v no xs) := h
  have HL : Hid (xs.length ≤ 70000000000000 ∧ (putD n x).length = n) := ⟨hl, putD_len n x⟩
  have HD : Hid (∀ m, m < n → (putD n x)[m]? = some (x / 256 ^ (n - 1 - m) % 256)) := putD_get n x
  have HB : Hid (Byt (putD n x)) := putD_byt n x
  obtain ⟨D, hD⟩ : ∃ D, D = putD n x := ⟨_, rfl⟩
  rw [← hD] at HD HB HL ⊢
  clear h hl hD
  go_enter Try.func110, Try.ntmps110
  go_wp2
  go_loopw [6] (fun i wr => ∃ (m : Nat) (vr : Value), m ≤ n ∧ i = .int .i64 ((n : Int) - 1 - (m : Int)) ∧ Hid (VP r v w wr vr no (xs ++ D.take m))) (fun i _ => (intOf i + 1).toNat)
  case atStart => exact ⟨0, v, Nat.zero_le _, by simp, by show VP _ _ _ _ _ _ _; simpa using VP.refl H.out⟩
  case round =>
    obtain ⟨m, vr, hm, rfl, hP⟩ := hrel
    by_cases hlt : m < n
    · obtain ⟨i, hi⟩ : ∃ i, i = n - 1 - m := ⟨_, rfl⟩
      have hi' : (n : Int) - 1 - (m : Int) = (i : Int) := by omega
      have hd := HD.out m hlt
      rw [← hi] at hd
      have HN : Hid (D.take (m + 1) = D.take m ++ [x / 256 ^ i % 256]) := take_snoc hd
      have HLE : Hid ((xs ++ D.take m).length + 1 ≤ 140737488355328) := by
        show _ ≤ _
        rw [List.length_append, List.length_take]
        have := HL.out
        omega
      have hi4 : i ≤ 3 := by omega
      have HI : Hid (i = n - 1 - m ∧ m < n) := ⟨hi, hlt⟩
      obtain ⟨z0, z1, f0, f1⟩ := hP.out.wm.facts
      have hb0 : 0 ≤ x / 256 ^ i % 256 := Int.emod_nonneg _ (by decide)
      have hb1 : x / 256 ^ i % 256 < 256 := Int.emod_lt_of_pos _ (by decide)
      have HBY : Hid (Byt [x / 256 ^ i % 256]) := Byt.cons hb0 hb1 Byt.nil
      obtain ⟨B, hB⟩ : ∃ B, B = x / 256 ^ i % 256 := ⟨_, rfl⟩
      rw [← hB] at HN HBY
      obtain ⟨aor, nr, cr, rfl, -, -, -⟩ := hP.out.wm.own.rd.shape
      have hrl : r < wr.heap.size := hP.out.wm.lt
      have HR1 := row_one wr B
      have HR2 : Hid (Rd (wr.alloc (.cells #[.int .u8 B] 5)) (.slice (some ⟨wr.heap.size, 0, none⟩) 1 1) [B]) := HR1
      have HO : Hid (OwnV (wr.alloc (.cells #[.int .u8 B] 5)) (.slice aor nr cr) (xs ++ D.take m)) := hP.out.wm.own.chg ((Chg.refl _ _).alloc _)
      clear hd hi hb0 hb1 hlt HR1
      have h4 : i = 0 ∨ i = 1 ∨ i = 2 ∨ i = 3 := by omega
      rcases h4 with h4 | h4 | h4 | h4
      · have e4 : (n : Int) - 1 - (m : Int) = 0 := by omega
        have hq : IntKind.u8.wrap (x) = B := by rw [IntKind.wrap_u8, hB, h4]; first | rfl | simp
        have w8 : IntKind.i64.wrap 0 = 0 := by decide
        have HI4 : Hid (n - 1 - m = 0) := by show _ = _; omega
        rw [e4]
        clear hB e4 hi'
        go_wp2_with fail
        go_region_law (refine step_app rfl (.tmp 17) (.tmp 23) rfl _ _ (xs ++ D.take m) [B] rfl rfl ?_ ?_ ?_ ?_; (exact HO.out.keep (fun _ _ => rfl)); (exact HR2.out.keep (fun _ _ _ => rfl)); (exact HLE.out); intro v2 w2 ho2 hc2 hk2; obtain ⟨ao2, n2, cc2, rfl, -, -, -⟩ := ho2.rd.shape; obtain ⟨k1, k2⟩ := VM.app hP.out.wm ho2 ⟨hc2.os, hc2.tape, hc2.output, hc2.size, hc2.block⟩ (by first | exact hk2 | exact hk2.imp id (fun e => e.trans (congrArg some (World.size_alloc _ _)))) HBY.out; have k3 := frozen_of_row w2 r 0 _ _ k2; have k4 := (cell2 k2).1; have K1 : Hid (VP r (.slice aor nr cr) wr (w2.setCell ⟨r, 0, none⟩ (.slice ao2 n2 cc2)) (.slice ao2 n2 cc2) no ((xs ++ D.take m) ++ [B])) := k1; clear ho2 hc2 hk2 k1 k2)
        all_goals
          go_wp2
          go_roundw
          case rel => exact ⟨m + 1, .slice ao2 n2 cc2, by have := HI.out.2; omega, by have := HI4.out; have := HI.out.2; go_num, by show VP _ _ _ _ _ _ _; rw [HN.out, ← List.append_assoc]; exact hP.out.trans K1.out⟩
          case measure => simp [intOf]
      · have e4 : (n : Int) - 1 - (m : Int) = 1 := by omega
        have hq : IntKind.u8.wrap (x / 256) = B := by rw [IntKind.wrap_u8, hB, h4]; first | rfl | simp
        have w8 : IntKind.i64.wrap 8 = 8 := by decide
        have HI4 : Hid (n - 1 - m = 1) := by show _ = _; omega
        rw [e4]
        clear hB e4 hi'
        go_wp2_with fail
        go_region_law (refine step_app rfl (.tmp 17) (.tmp 23) rfl _ _ (xs ++ D.take m) [B] rfl rfl ?_ ?_ ?_ ?_; (exact HO.out.keep (fun _ _ => rfl)); (exact HR2.out.keep (fun _ _ _ => rfl)); (exact HLE.out); intro v2 w2 ho2 hc2 hk2; obtain ⟨ao2, n2, cc2, rfl, -, -, -⟩ := ho2.rd.shape; obtain ⟨k1, k2⟩ := VM.app hP.out.wm ho2 ⟨hc2.os, hc2.tape, hc2.output, hc2.size, hc2.block⟩ (by first | exact hk2 | exact hk2.imp id (fun e => e.trans (congrArg some (World.size_alloc _ _)))) HBY.out; have k3 := frozen_of_row w2 r 0 _ _ k2; have k4 := (cell2 k2).1; have K1 : Hid (VP r (.slice aor nr cr) wr (w2.setCell ⟨r, 0, none⟩ (.slice ao2 n2 cc2)) (.slice ao2 n2 cc2) no ((xs ++ D.take m) ++ [B])) := k1; clear ho2 hc2 hk2 k1 k2)
        all_goals
          go_wp2
          go_roundw
          case rel => exact ⟨m + 1, .slice ao2 n2 cc2, by have := HI.out.2; omega, by have := HI4.out; have := HI.out.2; go_num, by show VP _ _ _ _ _ _ _; rw [HN.out, ← List.append_assoc]; exact hP.out.trans K1.out⟩
          case measure => simp [intOf]
      · have e4 : (n : Int) - 1 - (m : Int) = 2 := by omega
        have hq : IntKind.u8.wrap (x / 65536) = B := by rw [IntKind.wrap_u8, hB, h4]; first | rfl | simp
        have w8 : IntKind.i64.wrap 16 = 16 := by decide
        have HI4 : Hid (n - 1 - m = 2) := by show _ = _; omega
        rw [e4]
        clear hB e4 hi'
        go_wp2_with fail
        go_region_law (refine step_app rfl (.tmp 17) (.tmp 23) rfl _ _ (xs ++ D.take m) [B] rfl rfl ?_ ?_ ?_ ?_; (exact HO.out.keep (fun _ _ => rfl)); (exact HR2.out.keep (fun _ _ _ => rfl)); (exact HLE.out); intro v2 w2 ho2 hc2 hk2; obtain ⟨ao2, n2, cc2, rfl, -, -, -⟩ := ho2.rd.shape; obtain ⟨k1, k2⟩ := VM.app hP.out.wm ho2 ⟨hc2.os, hc2.tape, hc2.output, hc2.size, hc2.block⟩ (by first | exact hk2 | exact hk2.imp id (fun e => e.trans (congrArg some (World.size_alloc _ _)))) HBY.out; have k3 := frozen_of_row w2 r 0 _ _ k2; have k4 := (cell2 k2).1; have K1 : Hid (VP r (.slice aor nr cr) wr (w2.setCell ⟨r, 0, none⟩ (.slice ao2 n2 cc2)) (.slice ao2 n2 cc2) no ((xs ++ D.take m) ++ [B])) := k1; clear ho2 hc2 hk2 k1 k2)
        all_goals
          go_wp2
          go_roundw
          case rel => exact ⟨m + 1, .slice ao2 n2 cc2, by have := HI.out.2; omega, by have := HI4.out; have := HI.out.2; go_num, by show VP _ _ _ _ _ _ _; rw [HN.out, ← List.append_assoc]; exact hP.out.trans K1.out⟩
          case measure => simp [intOf]
      · have e4 : (n : Int) - 1 - (m : Int) = 3 := by omega
        have hq : IntKind.u8.wrap (x / 16777216) = B := by rw [IntKind.wrap_u8, hB, h4]; first | rfl | simp
        have w8 : IntKind.i64.wrap 24 = 24 := by decide
        have HI4 : Hid (n - 1 - m = 3) := by show _ = _; omega
        rw [e4]
        clear hB e4 hi'
        go_wp2_with fail
        go_region_law (refine step_app rfl (.tmp 17) (.tmp 23) rfl _ _ (xs ++ D.take m) [B] rfl rfl ?_ ?_ ?_ ?_; (exact HO.out.keep (fun _ _ => rfl)); (exact HR2.out.keep (fun _ _ _ => rfl)); (exact HLE.out); intro v2 w2 ho2 hc2 hk2; obtain ⟨ao2, n2, cc2, rfl, -, -, -⟩ := ho2.rd.shape; obtain ⟨k1, k2⟩ := VM.app hP.out.wm ho2 ⟨hc2.os, hc2.tape, hc2.output, hc2.size, hc2.block⟩ (by first | exact hk2 | exact hk2.imp id (fun e => e.trans (congrArg some (World.size_alloc _ _)))) HBY.out; have k3 := frozen_of_row w2 r 0 _ _ k2; have k4 := (cell2 k2).1; have K1 : Hid (VP r (.slice aor nr cr) wr (w2.setCell ⟨r, 0, none⟩ (.slice ao2 n2 cc2)) (.slice ao2 n2 cc2) no ((xs ++ D.take m) ++ [B])) := k1; clear ho2 hc2 hk2 k1 k2)
        all_goals
          go_wp2
          go_roundw
          case rel => exact ⟨m + 1, .slice ao2 n2 cc2, by have := HI.out.2; omega, by have := HI4.out; have := HI.out.2; go_num, by show VP _ _ _ _ _ _ _; rw [HN.out, ← List.append_assoc]; exact hP.out.trans K1.out⟩
          case measure => simp [intOf]
    · have hmn : m = n := by omega
      subst hmn
      go_wp2
      go_end0
      have := hP.out
      rw [List.take_of_length_le (by rw [HL.out.2]; exact Nat.le_refl _)] at this
      exact ⟨vr, rfl, this⟩
end Go.Proofs.Ytdhckndehijemaa
