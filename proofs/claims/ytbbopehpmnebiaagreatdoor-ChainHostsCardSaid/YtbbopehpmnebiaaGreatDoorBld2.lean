/-
  What a builder's WriteByte and WriteString write.
-/
import Derived.Test.YtbbopehpmnebiaaGreatDoorBld
namespace Go.Proofs.YtbbopehpmnebiaaGreatDoor
open Go.RowKit
set_option linter.unusedVariables false
set_option maxRecDepth 100000

theorem copyCheck_any (b : Nat) (v : Value) (xs : List UInt8) (w : World) (h : Bld w b v xs) :
    Calls Tryz.prog 58 #[.pointer (some ⟨b, 0, none⟩)] w fun e w' => e = .returned (.tuple #[]) ∧ w'.heap[b]? = some (.cells #[.pointer (some ⟨b, 0, none⟩), v] 62 (0, 0)) ∧ w'.ownsRow 0 5 1 v xs.length (Lib.byteCells xs) ∧ Chg (One b) w w' := by
  obtain ⟨p, hp, hb⟩ := h.blk
  rcases hp with rfl | rfl
  · refine (copyCheck_fresh b w (by rw [Lib.cell_of_heap hb]; rfl) (by simp [World.shape?, hb]) (Lib.frozen_of_heap hb 0)).mono ?_
    rintro e w' ⟨rfl, rfl⟩
    refine ⟨rfl, by simp [World.setCell, Array.getElem?_modify, hb], ?_, Chg.setCell (S := One b) (Chg.refl _ _) (p := ⟨b, 0, none⟩) (fun _ => rfl) _⟩
    exact h.own.kept (row := some b) ⟨rfl, rfl, rfl, by simp [World.setCell], fun k _ hk => Below.heap_setCell _ _ _ _ (fun e => hk (by simp [e]))⟩ (Or.inr h.ne)
  · refine (copyCheck_used b w (by rw [Lib.cell_of_heap hb]; rfl)).mono ?_
    rintro e w' ⟨rfl, rfl⟩
    exact ⟨rfl, hb, h.own, Chg.refl _ _⟩

theorem own_put {w : World} {b : Nat} {p v v' : Value} {xs : List UInt8} (hb : w.heap[b]? = some (.cells #[p, v] 62 (0, 0))) (hp : p = .pointer none ∨ p = .pointer (some ⟨b, 0, none⟩)) (hown : w.ownsRow 0 5 1 v' xs.length (Lib.byteCells xs)) (hh : ∀ k, BS b v' k → 0 ≤ k) :
    Bld (w.setCell ⟨b, 1, none⟩ v') b v' xs := by
  refine ⟨⟨p, hp, by simp [World.setCell, Array.getElem?_modify, hb]⟩, hown.kept (row := some b) ⟨rfl, rfl, rfl, by simp [World.setCell], fun k _ hk => Below.heap_setCell _ _ _ _ (fun e => hk (by simp [e]))⟩ (Or.inr ?_), hh⟩
  intro e
  obtain ⟨c, hc⟩ := row5 hown b e
  rw [hb] at hc
  simp at hc

theorem app_str (ty : TypeId) (w : World) (v : Value) (n : Nat) (xs : List Value) (hown : w.ownsRow 0 5 1 v n xs) (s : ByteArray) (h63 : n + s.size ≤ maxLen) (hb : n + s.size ≤ 140737488355328) :
    ∃ v' w', (Builtin.append_ #[40, 9] ty #[v, .string s]).run Tryz.prog w = .ok v' w' ∧ w'.ownsRow 0 5 1 v' (n + s.size) (xs ++ Lib.strCells s) ∧ w.grownBy w' v.ownBlock ∧ (∀ k, v'.ownBlock = some k → v.ownBlock = some k ∨ w.heap.size ≤ k) := by
  obtain ⟨i0, hi, hz0, hz1, hz2⟩ := info_parts Tryz.info5
  obtain ⟨v', w', hr, h2, h3, h4⟩ := Lib.run_append_own_string (P := Tryz.prog) w 0 40 9 ty 5 i0 Tryz.underlying40 Tryz.underlying9 hi hz0 hz1 hz2 v n xs hown s h63 hb (Nat.zero_le _)
  refine ⟨v', w', hr, h2, h3, fun k hk => ?_⟩
  rcases hown.2 with ⟨rfl, rfl⟩ | ⟨g, cap, cur, rfl, hbg, hg, hnc, hcm, hcs, htake⟩
  · obtain ⟨v2, w2, hr2, g2, g3, g4⟩ := Lib.run_append_own_string (P := Tryz.prog) w w.heap.size 40 9 ty 5 i0 Tryz.underlying40 Tryz.underlying9 hi hz0 hz1 hz2 (.slice none 0 0) 0 xs ⟨hown.1, .inl ⟨rfl, rfl⟩⟩ s h63 hb (Nat.le_refl _)
    rw [hr] at hr2
    cases hr2
    rcases g2.2 with ⟨rfl, _⟩ | ⟨g, cap, cur, rfl, hbg, _⟩
    · simp [Value.ownBlock] at hk
    · simp only [Value.ownBlock, Option.some.injEq] at hk
      exact .inr (by omega)
  · by_cases hroom : n + s.size ≤ cap
    · have hcs' : cur.size = cap := by simpa using hcs
      have hr2 := Lib.run_append_room_string (P := Tryz.prog) w 40 9 ty 5 i0 Tryz.underlying40 Tryz.underlying9 hi hz1 g n cap cur hg s hroom (by omega)
      rw [hr] at hr2
      cases hr2
      exact .inl hk
    · have hxl : xs.length = n := by simpa using hown.1
      have hsm : n + s.size ≤ 9223372036854775807 := by simp only [maxLen] at h63; omega
      have hr2 := Lib.run_append_grow_string (P := Tryz.prog) w 40 9 ty 5 i0 (.int .u8 0) Tryz.underlying40 Tryz.underlying9 hi hz0 ⟨g, 0, none⟩ n cap xs (by rw [hz1]; simpa using hxl) (hown.cells (g := g) rfl) s (by omega) (by omega) (by rw [hz2]; exact growslice_fits (by omega) (by omega))
      rw [hr] at hr2
      cases hr2
      simp only [Value.ownBlock, Option.some.injEq] at hk
      exact .inr (by omega)

theorem app_one (ty : TypeId) (w : World) (v : Value) (n : Nat) (xs : List Value) (hown : w.ownsRow 0 5 1 v n xs) (a : Addr) (c : Int) (hc : w.cell? (a.add 0) = some (.int .u8 c)) (h63 : n + 1 ≤ maxLen) (hb : n + 1 ≤ 140737488355328) :
    ∃ v' w', (Builtin.append_ #[40, 40] ty #[v, .slice (some a) 1 1]).run Tryz.prog w = .ok v' w' ∧ w'.ownsRow 0 5 1 v' (n + 1) (xs ++ [.int .u8 c]) ∧ w.grownBy w' v.ownBlock ∧ (∀ k, v'.ownBlock = some k → v.ownBlock = some k ∨ w.heap.size ≤ k) := by
  obtain ⟨i0, hi, hz0, hz1, hz2⟩ := info_parts Tryz.info5
  have hnews : ∀ j u, [Value.int .u8 c][j]? = some u → w.cell? (a.add j) = some u := by
    intro j u hj
    match j, hj with
    | 0, hj => simp at hj; subst hj; exact hc
  have hone : ∀ u ∈ [Value.int .u8 c], u.oneCell' = true := by
    intro u hu; simp at hu; subst hu; rfl
  obtain ⟨v', w', hr, h2, h3, h4⟩ := run_append_own (P := Tryz.prog) w 0 40 ty 5 i0 (.int .u8 0) 1 1 Tryz.underlying40 hi hz0 hz1 hz2 rfl (by decide) v n xs hown a 1 1 [.int .u8 c] rfl hnews hone h63 (by omega) (Nat.zero_le _)
  refine ⟨v', w', hr, h2, h3, fun k hk => ?_⟩
  rcases hown.2 with ⟨rfl, rfl⟩ | ⟨g, cap, cur, rfl, hbg, hg, hnc, hcm, hcs, htake⟩
  · obtain ⟨v2, w2, hr2, g2, g3, g4⟩ := run_append_own (P := Tryz.prog) w w.heap.size 40 ty 5 i0 (.int .u8 0) 1 1 Tryz.underlying40 hi hz0 hz1 hz2 rfl (by decide) (.slice none 0 0) 0 xs ⟨hown.1, .inl ⟨rfl, rfl⟩⟩ a 1 1 [.int .u8 c] rfl hnews hone h63 (by omega) (Nat.le_refl _)
    rw [hr] at hr2
    cases hr2
    rcases g2.2 with ⟨rfl, _⟩ | ⟨g, cap, cur, rfl, hbg, _⟩
    · simp [Value.ownBlock] at hk
    · simp only [Value.ownBlock, Option.some.injEq] at hk
      exact .inr (by omega)
  · by_cases hroom : n + 1 ≤ cap
    · have hcs' : cur.size = cap := by simpa using hcs
      have hr2 := run_append_room (P := Tryz.prog) w 40 ty 5 i0 Tryz.underlying40 hi g n cap cur hg a 1 1 [.int .u8 c] (by rw [hz1]; rfl) hnews hone hroom (by rw [hz1]; simp; omega)
      rw [hr] at hr2
      cases hr2
      exact .inl hk
    · have hsm : n + 1 ≤ 9223372036854775807 := by simp only [maxLen] at h63; omega
      have hr2 := run_append_grow (P := Tryz.prog) w 40 ty 5 i0 (.int .u8 0) Tryz.underlying40 hi hz0 ⟨g, 0, none⟩ n cap xs (by rw [hz1]; exact hown.1) (hown.cells (g := g) rfl) a 1 1 [.int .u8 c] (by rw [hz1]; rfl) hnews (by omega) (by omega) (by rw [hz2]; exact growslice_fits (by omega) (by omega))
      rw [hr] at hr2
      cases hr2
      simp only [Value.ownBlock, Option.some.injEq] at hk
      exact .inr (by omega)

theorem wpList_str (w : World) {ops : Array Oper} {rest : List Oper} {o : Oper} {a : Act} {Q : Exit → Act → World → Prop}
    (hg : o.guard = none) (sl x : Operand) (hop : o.op = Op.call { callee := Callee.builtin Builtin.append, args := #[sl, x], argTypes := #[40, 9] })
    (v : Value) (n : Nat) (xs : List Value) (s : ByteArray) (hs : a.eval sl = v) (hx : a.eval x = .string s) (hown : w.ownsRow 0 5 1 v n xs) (h63 : n + s.size ≤ maxLen) (hb : n + s.size ≤ 140737488355328)
    (hK : ∀ v' w', w'.ownsRow 0 5 1 v' (n + s.size) (xs ++ Lib.strCells s) → w.grownBy w' v.ownBlock → (∀ k, v'.ownBlock = some k → v.ownBlock = some k ∨ w.heap.size ≤ k) → wpList Tryz.prog ops Q rest (a.put o.dst v') w') :
    wpList Tryz.prog ops Q (o :: rest) a w := by
  refine wpList_plain hg fun K hK' => ?_
  obtain ⟨v', w', hrun, r1, r2, r3⟩ := app_str o.type w v n xs hown s h63 hb
  unfold Oper.wp
  simp [execOp, hop, resolve, invoke, builtin, hs, hx, hrun, Result.andThen]
  exact hK' _ _ (hK v' w' r1 r2 r3)

theorem wpList_one (w : World) {ops : Array Oper} {rest : List Oper} {o : Oper} {a : Act} {Q : Exit → Act → World → Prop}
    (hg : o.guard = none) (sl x : Operand) (hop : o.op = Op.call { callee := Callee.builtin Builtin.append, args := #[sl, x], argTypes := #[40, 40] })
    (v : Value) (n : Nat) (xs : List Value) (ad : Addr) (c : Int) (hs : a.eval sl = v) (hx : a.eval x = .slice (some ad) 1 1) (hc : w.cell? (ad.add 0) = some (.int .u8 c)) (hown : w.ownsRow 0 5 1 v n xs) (h63 : n + 1 ≤ maxLen) (hb : n + 1 ≤ 140737488355328)
    (hK : ∀ v' w', w'.ownsRow 0 5 1 v' (n + 1) (xs ++ [.int .u8 c]) → w.grownBy w' v.ownBlock → (∀ k, v'.ownBlock = some k → v.ownBlock = some k ∨ w.heap.size ≤ k) → wpList Tryz.prog ops Q rest (a.put o.dst v') w') :
    wpList Tryz.prog ops Q (o :: rest) a w := by
  refine wpList_plain hg fun K hK' => ?_
  obtain ⟨v', w', hrun, r1, r2, r3⟩ := app_one o.type w v n xs hown ad c hc h63 hb
  unfold Oper.wp
  simp [execOp, hop, resolve, invoke, builtin, hs, hx, hrun, Result.andThen]
  exact hK' _ _ (hK v' w' r1 r2 r3)

set_option maxHeartbeats 2000000 in
theorem writeString_any (b : Nat) (v : Value) (xs : List UInt8) (s : ByteArray) (w : World) (h : Bld w b v xs) (hlen : xs.length + s.size ≤ 140737488355328) :
    Calls Tryz.prog 47 #[.pointer (some ⟨b, 0, none⟩), .string s] w fun e w' => e = .returned (.tuple #[.int .i64 s.size, .nilIface]) ∧ ∃ v', Wrote w b v w' v' (xs ++ s.data.toList) := by
  go_enter Tryz.func47, Tryz.ntmps47
  go_wp2_with (go_at_call 58; refine (copyCheck_any b v xs _ h).mono ?_)
  rintro e w1 ⟨rfl, hbk, hown, hc1⟩
  have c0 : w1.cell? ⟨b, 0, none⟩ = some (.pointer (some ⟨b, 0, none⟩)) := by rw [Lib.cell_of_heap hbk]; rfl
  have c1 : w1.cell? ⟨b, 1, none⟩ = some v := by rw [Lib.cell_of_heap hbk]; rfl
  go_wp2_with (at_builtin; refine wpList_str _ rfl _ _ rfl _ _ _ s rfl rfl hown ?c3 ?c4 ?_)
  case c3 => unfold maxLen; omega
  case c4 => omega
  intro v' w2 hown' hgrow hrow
  have hlt : b < w1.heap.size := (Array.getElem?_eq_some_iff.1 hbk).1
  have hne : v.ownBlock ≠ some b := h.ne
  have hb2 : w2.heap[b]? = some (.cells #[.pointer (some ⟨b, 0, none⟩), v] 62 (0, 0)) := by
    rw [hgrow.block b hlt (fun e => hne e.symm)]
    exact hbk
  have d0 : w2.cell? ⟨b, 0, none⟩ = some (.pointer (some ⟨b, 0, none⟩)) := by rw [Lib.cell_of_heap hb2]; rfl
  have d1 : w2.cell? ⟨b, 1, none⟩ = some v := by rw [Lib.cell_of_heap hb2]; rfl
  have f1 : w2.frozen? ⟨b, 1, none⟩ = false := Lib.frozen_of_heap hb2 1
  obtain ⟨ao, n', cap, rfl⟩ : ∃ ao n' cap, v' = .slice ao n' cap := by
    rcases hown'.2 with ⟨hv, _⟩ | ⟨g, cap, cur, hv, _⟩
    · exact ⟨_, _, _, hv⟩
    · exact ⟨_, _, _, hv⟩
  go_wp2
  go_ret2
  have hw : w2.ownsRow 0 5 1 (.slice ao n' cap) (xs ++ s.data.toList).length (Lib.byteCells (xs ++ s.data.toList)) := by
    rw [Lib.byteCells_append, ← Lib.strCells_eq, List.length_append]
    have : s.data.toList.length = s.size := by simp
    rw [this]
    exact hown'
  refine ⟨rfl, .slice ao n' cap, own_put hb2 (.inr rfl) hw (fun k e => ?_), ?_, fun k e => ?_⟩
  · rcases e with e | e
    · exact h.high k (.inl e)
    · rcases hrow k e with x | x
      · exact h.high k (.inr x)
      · have h2 := hc1.size
        have h3 := h.high b (.inl rfl)
        have h4 := h.lt
        have h5 : w1.heap.size ≤ k := by omega
        omega
  · refine Chg.setCell ((hc1.mono (S' := BS b v) (fun i _ e => .inl e)).trans (Chg.of_grown hgrow) (fun i _ e => .inr e)) (fun _ => .inl rfl) _
  · rcases hrow k e with x | x
    · exact .inl x
    · have := hc1.size; exact .inr (by omega)

set_option maxHeartbeats 2000000 in
theorem writeByte_any (b : Nat) (v : Value) (xs : List UInt8) (c : UInt8) (w : World) (h : Bld w b v xs) (hlen : xs.length + 1 ≤ 140737488355328) :
    Calls Tryz.prog 48 #[.pointer (some ⟨b, 0, none⟩), .int .u8 c.toNat] w fun e w' => e = .returned .nilIface ∧ ∃ v', Wrote w b v w' v' (xs ++ [c]) := by
  obtain ⟨ci, hci⟩ : ∃ ci : Int, ci = (c.toNat : Int) := ⟨_, rfl⟩
  rw [← hci]
  have HCI : Hid (ci = (c.toNat : Int)) := hci
  clear hci
  go_enter Tryz.func48, Tryz.ntmps48
  go_wp2_with (go_at_call 58; refine (copyCheck_any b v xs _ h).mono ?_)
  rintro e w1 ⟨rfl, hbk, hown, hc1⟩
  have c0 : w1.cell? ⟨b, 0, none⟩ = some (.pointer (some ⟨b, 0, none⟩)) := by rw [Lib.cell_of_heap hbk]; rfl
  have c1 : w1.cell? ⟨b, 1, none⟩ = some v := by rw [Lib.cell_of_heap hbk]; rfl
  go_wp2_with (at_builtin; refine wpList_one _ rfl _ _ rfl _ _ _ ⟨w1.heap.size, 0, none⟩ ci rfl rfl ?c1 (hown.alloc _) ?c3 ?c4 ?_)
  case c1 => simp [Addr.add]
  case c3 => unfold maxLen; omega
  case c4 => omega
  intro v' w2 hown' hgrow hrow
  have hlt : b < w1.heap.size := (Array.getElem?_eq_some_iff.1 hbk).1
  have hne : v.ownBlock ≠ some b := h.ne
  have hb2 : w2.heap[b]? = some (.cells #[.pointer (some ⟨b, 0, none⟩), v] 62 (0, 0)) := by
    rw [hgrow.block b (by simp; omega) (fun e => hne e.symm), Lib.alloc_old w1 _ b hlt]
    exact hbk
  have d0 : w2.cell? ⟨b, 0, none⟩ = some (.pointer (some ⟨b, 0, none⟩)) := by rw [Lib.cell_of_heap hb2]; rfl
  have d1 : w2.cell? ⟨b, 1, none⟩ = some v := by rw [Lib.cell_of_heap hb2]; rfl
  have f1 : w2.frozen? ⟨b, 1, none⟩ = false := Lib.frozen_of_heap hb2 1
  obtain ⟨ao, n', cap, rfl⟩ : ∃ ao n' cap, v' = .slice ao n' cap := by
    rcases hown'.2 with ⟨hv, _⟩ | ⟨g, cap, cur, hv, _⟩
    · exact ⟨_, _, _, hv⟩
    · exact ⟨_, _, _, hv⟩
  go_wp2
  go_ret
  have hw : w2.ownsRow 0 5 1 (.slice ao n' cap) (xs ++ [c]).length (Lib.byteCells (xs ++ [c])) := by
    rw [Lib.byteCells_append, List.length_append]
    rw [HCI.out] at hown'
    exact hown'
  refine ⟨rfl, .slice ao n' cap, own_put hb2 (.inr rfl) hw (fun k e => ?_), ?_, fun k e => ?_⟩
  · rcases e with e | e
    · exact h.high k (.inl e)
    · rcases hrow k e with x | x
      · exact h.high k (.inr x)
      · have h2 := hc1.size
        have h3 := h.high b (.inl rfl)
        have h4 := h.lt
        have h5 : w1.heap.size ≤ k := by omega
        omega
  · refine Chg.setCell (((hc1.mono (S' := BS b v) (fun i _ e => .inl e)).alloc _).trans (Chg.of_grown hgrow) (fun i _ e => .inr e)) (fun _ => .inl rfl) _
  · rcases hrow k e with x | x
    · exact .inl x
    · have := hc1.size
      have x2 : (w1.alloc (.cells #[.int .u8 ci] 5)).heap.size = w1.heap.size + 1 := by simp
      exact .inr (by omega)
end Go.Proofs.YtbbopehpmnebiaaGreatDoor
