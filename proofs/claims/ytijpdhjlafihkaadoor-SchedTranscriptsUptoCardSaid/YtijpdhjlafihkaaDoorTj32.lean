/-
  The schedule's steps, as closures over a hash: mixed, Handshake, Master.
-/
import Derived.Test.YtijpdhjlafihkaaDoorTj31
import Derived.Deep.CutBlock
import Derived.Deep.CutRange
import Derived.Deep.RegionHeld3
namespace Go.Proofs.YtijpdhjlafihkaaDoor
open Go.RowKit
set_option linter.unusedVariables false
set_option maxRecDepth 100000

theorem wpAnyH_imp {P : Program} {ops : Array Oper} {Q : Exit → Act → World → Prop} {md : Region.Mode} {S S' : World → Prop} (hi : ∀ w, S' w → S w) : ∀ (fuel : Nat) (listed : Array Bool) (a : Act) (w : World), wpAnyH P md ops Q S' fuel listed a w → wpAnyH P md ops Q S fuel listed a w
  | 0, _, _, _, h => h
  | fuel + 1, _, _, _, h => ⟨h.1, fun i hr => wpOp_mono (fun a' w' h' => ⟨hi _ h'.1, wpAnyH_imp hi fuel _ a' w' h'.2⟩) (h.2 i hr)⟩
theorem lt_blk {W : World} {P : Nat} {o : Obj} (h : W.heap[P]? = some o) : P < W.heap.size := (Array.getElem?_eq_some_iff.1 h).1
theorem blk_ne {W : World} {P R : Nat} {a b : Array Value} {s t : TypeId} {f g : Nat × Nat} (h : W.heap[P]? = some (.cells a s f)) (k : W.heap[R]? = some (.cells b t g)) (hn : s ≠ t) : P ≠ R := fun e => by
  rw [e, k] at h
  injection h with h
  injection h with _ h _
  exact hn h.symm
theorem cellb_set {W : World} {P : Nat} {z : Value} {ty : TypeId} (hb : W.heap[P]? = some (.cells #[z] ty (0, 0))) {a : Addr} {x u : Value} (h : W.cell? a = some x) (hx : x ≠ z) : (W.setCell ⟨P, 0, none⟩ u).cell? a = some x := by
  have hne : a ≠ ⟨P, 0, none⟩ := fun e => by
    rw [e, Lib.cell_of_heap hb] at h
    injection h with h
    exact hx h.symm
  rw [← h]
  exact World.cell?_setCell_other W _ _ _ hne.symm
theorem la_shape {W : World} {v : Value} {q : Int} {S : ByteArray} (h : LA W v q S) : ∃ A B C : Nat, v = .func (.func 46) #[] #[.pointer (some ⟨A, 0, none⟩), .pointer (some ⟨B, 0, none⟩), .pointer (some ⟨C, 0, none⟩)] := by
  obtain ⟨A, B, C, e, -⟩ := h
  exact ⟨A, B, C, e⟩
theorem la_set {W : World} {v : Value} {q : Int} {S : ByteArray} (h : LA W v q S) {P : Nat} {z : Value} {ty : TypeId} (hb : W.heap[P]? = some (.cells #[z] ty (0, 0))) (hz : z = .nilFunc ∨ z = .slice none 0 0) (u : Value) : LA (W.setCell ⟨P, 0, none⟩ u) v q S := by
  obtain ⟨A, B, C, e, a, b, c⟩ := h
  refine ⟨A, B, C, e, cellb_set hb a ?_, cellb_set hb b ?_, cellb_set hb c ?_⟩ <;> (rcases hz with rfl | rfl <;> exact (fun e => by cases e))
theorem rd_set {W : World} {v : Value} {xs : List Int} (h : Ap.Rd W v xs) {P : Nat} {z : Value} {ty : TypeId} (hb : W.heap[P]? = some (.cells #[z] ty (0, 0))) (hz : z = .nilFunc ∨ z = .slice none 0 0) (u : Value) : Ap.Rd (W.setCell ⟨P, 0, none⟩ u) v xs := by
  obtain ⟨ao, n, c, e, h1, h2, h3, h4, h5⟩ := h
  refine ⟨ao, n, c, e, h1, h2, h3, h4, fun a e j y hj => cellb_set hb (h5 a e j y hj) ?_⟩
  rcases hz with rfl | rfl <;> exact (fun e => by cases e)

theorem ofn_any (q : Int) (w : World) (ht : Tabs w) : Calls Tryd.prog 21 #[.int .i64 q, .slice none 0 0] w fun e w' => RL (sumL q []) w w' e := by
  by_cases hv : Valid q
  · refine (of_any q (.slice none 0 0) [] w hv ht (.inl ⟨rfl, rfl⟩)).mono ?_
    rintro r w' ⟨b, rfl, _, k2, k3⟩
    exact ⟨_, _, _, rfl, k2, Rd.ofArr k3 (Nat.le_trans (size_le q) (by omega))⟩
  · refine (of_none q (.slice none 0 0) [] w hv ht (.inl ⟨rfl, rfl⟩)).mono ?_
    rintro r w' ⟨rfl, k2⟩
    refine ⟨_, _, _, rfl, k2, ?_⟩
    rw [sumL_none hv]
    exact Ap.Rd.nil _

/-- The closure of a step. -/
def MA (w : World) (v : Value) (q : Int) : Prop :=
  ∃ A B C f o m c, v = .func (.func 57) #[] #[.pointer (some ⟨A, 0, none⟩), .pointer (some ⟨B, 0, none⟩), .pointer (some ⟨C, 0, none⟩)] ∧ w.cell? ⟨A, 0, none⟩ = some (.int .i64 q) ∧ w.cell? ⟨B, 0, none⟩ = some f ∧ LA w f q sDer ∧ w.cell? ⟨C, 0, none⟩ = some (.slice o m c) ∧ Ap.Rd w (.slice o m c) (sumL q [])
theorem MA.chg {w w' : World} {v : Value} {q : Int} (h : MA w v q) (k : Chg w w') : MA w' v q := by
  obtain ⟨A, B, C, f, o, m, c, e, h1, h2, h3, h4, h5⟩ := h
  exact ⟨A, B, C, f, o, m, c, e, cell_at k h1, cell_at k h2, h3.chg k, cell_at k h4, Rd.chg h5 k⟩

set_option maxHeartbeats 12800000 in
theorem mixed_any (q : Int) (w : World) (ht : Tabs w) : Calls Tryd.prog 41 #[.int .i64 q] w fun e w' => ∃ v, e = .returned v ∧ Chg w w' ∧ MA w' v q := by
  have hL := fun u => labelled_any q sDer u
  have hO := fun u (h : Tabs u) => ofn_any q u h
  unfold sDer at hL
  have HL : Hid (∀ u, Calls Tryd.prog 34 #[.int .i64 q, .string ⟨#[100, 101, 114, 105, 118, 101, 100]⟩] u fun e w' => ∃ v, e = .returned v ∧ Chg u w' ∧ LA w' v q sDer) := hL
  have HO : Hid (∀ u, Tabs u → Calls Tryd.prog 21 #[.int .i64 q, .slice none 0 0] u fun e w' => RL (sumL q []) u w' e) := hO
  obtain ⟨WB, hWB⟩ : ∃ WB, WB = w.alloc (.cells #[.int .i64 q] 22) := ⟨_, rfl⟩
  have hC : Chg w WB := by rw [hWB]; exact (Chg.refl w).alloc _
  have hA : WB.cell? ⟨w.heap.size, 0, none⟩ = some (.int .i64 q) := by rw [hWB]; exact (Ar.new w _ _).cell 0
  have HC : Hid (Chg w WB ∧ WB.cell? ⟨w.heap.size, 0, none⟩ = some (.int .i64 q)) := ⟨hC, hA⟩
  have HT : Hid (Tabs WB) := ht.chg hC
  have HWB : Hid (WB = w.alloc (.cells #[.int .i64 q] 22)) := hWB
  have hmf := mkf
  clear ht hL hO hWB hC hA
  go_enter Tryd.func41, Tryd.ntmps41
  go_upto_region 1 with fail
  rw [← HWB.out]
  go_cut [3, 4] from 5 to 8 (fun u3 u4 wc => ∃ P4 P5 f o m c, u3 = .pointer (some ⟨P4, 0, none⟩) ∧ u4 = .pointer (some ⟨P5, 0, none⟩) ∧ Chg WB wc ∧ wc.cell? ⟨P4, 0, none⟩ = some f ∧ LA wc f q sDer ∧ wc.cell? ⟨P5, 0, none⟩ = some (.slice o m c) ∧ Ap.Rd wc (.slice o m c) (sumL q []))
  case first =>
    have c0 : Chg WB WB.drew := (Chg.refl WB).drew
    refine wp_region_held_drew (S := fun u => Chg WB u) (by kernel_rfl) c0 (fun _ => ?_)
    refine wpAnyH_take (i := 0) (oi := { dst := some 5, op := Go.Op.load 22 (Go.Operand.tmp 1), type := 22, pos := "step.go:23", after := #[], guard := none }) (v := ?_) rfl (by kernel_rfl) (by kernel_rfl) (by kernel_rfl) (fun _ _ _ h => h) (Or.inl ⟨by rfl, ?_⟩) c0 ?_
    rotate_left
    · intro u hu
      have hu : Chg WB u := hu
      have hc := cell_at hu HC.out.2
      go_simp
      try with_reducible rfl
    try simp only [Act.put, List.setIfInBounds_toArray, List.set_cons_zero, List.set_cons_succ]
    refine wpAnyH_take (i := 2) (oi := { dst := some 7, op := Go.Op.load 22 (Go.Operand.tmp 1), type := 22, pos := "step.go:23", after := #[], guard := none }) (v := ?_) rfl (by kernel_rfl) (by kernel_rfl) (by kernel_rfl) (fun _ _ _ h => h) (Or.inl ⟨by rfl, ?_⟩) c0 ?_
    rotate_left
    · intro u hu
      have hu : Chg WB u := hu
      have hc := cell_at hu HC.out.2
      go_simp
      try with_reducible rfl
    try simp only [Act.put, List.setIfInBounds_toArray, List.set_cons_zero, List.set_cons_succ]
    generalize WB.drew = WD at c0 ⊢
    refine wpAnyH_ready (rs := [1, 4, 5]) (by kernel_rfl) (by simp) ?_
    refine AllReadyH.cons (o := { dst := some 6, op := Go.Op.call { callee := Go.Callee.value (Go.Operand.func 34), args := #[Go.Operand.tmp 5, Go.Operand.const (Go.Value.string { data := #[100, 101, 114, 105, 118, 101, 100] })], argTypes := #[22, 9] }, type := 51, pos := "step.go:23", after := #[{ on := 0, ground := Go.Ground.data }], guard := none }) rfl (fun K hK => ?_) ?_
    · skip
      go_simp
      go_at_call 34
      refine (HL.out WD).mono ?_
      rintro e x1 ⟨v3, rfl, s4, f5⟩
      obtain ⟨a6, b7, c8, rfl⟩ := la_shape f5
      have c2 := c0.trans s4
      refine hK.out _ _ c2 (fun _ => ?_)
      clear hK K
      try simp only [Act.put, List.setIfInBounds_toArray, List.set_cons_zero, List.set_cons_succ]
      refine wpAnyH_ready (rs := [3, 4, 5]) (by kernel_rfl) (by simp) ?_
      refine AllReadyH.cons (o := { dst := some 8, op := Go.Op.call { callee := Go.Callee.value (Go.Operand.func 21), args := #[Go.Operand.tmp 7, Go.Operand.const (Go.Value.slice none 0 0)], argTypes := #[22, 30] }, type := 23, pos := "step.go:23", after := #[{ on := 2, ground := Go.Ground.data }, { on := 1, ground := Go.Ground.chain }], guard := none }) rfl (fun K hK => ?_) ?_
      · skip
        go_simp
        go_at_call 21
        refine (HO.out x1 (HT.out.chg c2)).mono ?_
        rintro e x9 ⟨o13, m14, n15, rfl, s11, r12⟩
        have f16 := f5.chg s11
        have c10 := c2.trans s11
        refine hK.out _ _ c10 (fun _ => ?_)
        clear hK K
        try simp only [Act.put, List.setIfInBounds_toArray, List.set_cons_zero, List.set_cons_succ]
        refine wpAnyH_ready (rs := [4, 5]) (by kernel_rfl) (by simp) ?_
        refine AllReadyH.cons (o := { dst := some 3, op := Go.Op.alloc 51, type := 0, pos := "step.go:23", after := #[], guard := none }) rfl (fun K hK => ?_) ?_
        · skip
          go_simp
          obtain ⟨x17, e19⟩ : ∃ x, x = x9.alloc (.cells #[.nilFunc] 51) := ⟨_, rfl⟩
          have s20 : Chg x9 x17 := by rw [e19]; exact (Chg.refl _).alloc _
          have b21 : x17.heap[x9.heap.size]? = some (.cells #[.nilFunc] 51 (0, 0)) := by rw [e19]; exact heap_alloc_last x9 _
          have c18 := c10.trans s20
          rw [← e19]
          have f22 := f16.chg s20
          have r23 := Rd.chg r12 s20
          have z24 : WB.heap.size ≤ x9.heap.size := c10.size
          clear e19
          refine hK.out _ _ c18 (fun _ => ?_)
          clear hK K
          try simp only [Act.put, List.setIfInBounds_toArray, List.set_cons_zero, List.set_cons_succ]
          refine wpAnyH_ready (rs := [5]) (by kernel_rfl) (by simp) ?_
          refine AllReadyH.cons (o := { dst := some 4, op := Go.Op.alloc 23, type := 0, pos := "step.go:23", after := #[], guard := none }) rfl (fun K hK => ?_) ?_
          · skip
            go_simp
            obtain ⟨x25, e27⟩ : ∃ x, x = x17.alloc (.cells #[.slice none 0 0] 23) := ⟨_, rfl⟩
            have s28 : Chg x17 x25 := by rw [e27]; exact (Chg.refl _).alloc _
            have b29 : x25.heap[x17.heap.size]? = some (.cells #[.slice none 0 0] 23 (0, 0)) := by rw [e27]; exact heap_alloc_last x17 _
            have c26 := c18.trans s28
            rw [← e27]
            have b30 := (s28.block _ (lt_blk b21)).trans b21
            have f31 := f22.chg s28
            have r32 := Rd.chg r23 s28
            have z33 : WB.heap.size ≤ x17.heap.size := c18.size
            clear e27
            refine hK.out _ _ c26 (fun _ => ?_)
            clear hK K
            try simp only [Act.put, List.setIfInBounds_toArray, List.set_cons_zero, List.set_cons_succ]
            refine wpAnyH_ready (rs := [6]) (by kernel_rfl) (by simp) ?_
            refine AllReadyH.cons (o := { dst := none, op := Go.Op.store 51 (Go.Operand.tmp 3) (Go.Operand.tmp 6), type := 0, pos := "step.go:23", after := #[{ on := 4, ground := Go.Ground.data }, { on := 1, ground := Go.Ground.data }, { on := 3, ground := Go.Ground.chain }, { on := 0, ground := Go.Ground.phase }, { on := 1, ground := Go.Ground.phase }, { on := 2, ground := Go.Ground.textOnly Go.Departure.lateStores }, { on := 3, ground := Go.Ground.textOnly Go.Departure.lateStoresUnsure }, { on := 4, ground := Go.Ground.phase }, { on := 5, ground := Go.Ground.phase }], guard := none }) rfl (fun K hK => ?_) ?_
            · skip
              have k36 : x25.cell? ⟨x9.heap.size, 0, none⟩ = some (.nilFunc) := by rw [Lib.cell_of_heap b30]; rfl
              have k37 : x25.frozen? ⟨x9.heap.size, 0, none⟩ = false := Lib.frozen_of_heap b30 0
              go_simp
              obtain ⟨x34, e38⟩ : ∃ x, x = x25.setCell ⟨x9.heap.size, 0, none⟩ (.func (.func 46) #[] #[.pointer (some ⟨a6, 0, none⟩), .pointer (some ⟨b7, 0, none⟩), .pointer (some ⟨c8, 0, none⟩)]) := ⟨_, rfl⟩
              have c35 : Chg WB x34 := by rw [e38]; exact c26.setCell z24 _
              have b39 : x34.heap[x9.heap.size]? = some (.cells #[.func (.func 46) #[] #[.pointer (some ⟨a6, 0, none⟩), .pointer (some ⟨b7, 0, none⟩), .pointer (some ⟨c8, 0, none⟩)]] 51 (0, 0)) := by rw [e38]; simp [World.setCell, Array.getElem?_modify, b30]
              have b40 : x34.heap[x17.heap.size]? = some (.cells #[.slice none 0 0] 23 (0, 0)) := by rw [e38, Below.heap_setCell _ _ _ _ (fun q => blk_ne b30 b29 (by decide) q.symm)]; exact b29
              have f41 : LA x34 (.func (.func 46) #[] #[.pointer (some ⟨a6, 0, none⟩), .pointer (some ⟨b7, 0, none⟩), .pointer (some ⟨c8, 0, none⟩)]) q sDer := by rw [e38]; exact la_set f31 b30 (by first | exact .inl rfl | exact .inr rfl) _
              have r42 : Ap.Rd x34 (.slice o13 m14 n15) (sumL q []) := by rw [e38]; exact rd_set r32 b30 (by first | exact .inl rfl | exact .inr rfl) _
              rw [← e38]
              clear e38 k36 k37
              refine hK.out _ _ c35 (fun _ => ?_)
              clear hK K
              try simp only [Act.put, List.setIfInBounds_toArray, List.set_cons_zero, List.set_cons_succ]
              refine wpAnyH_ready (rs := [7]) (by kernel_rfl) (by simp) ?_
              refine AllReadyH.cons (o := { dst := none, op := Go.Op.store 23 (Go.Operand.tmp 4) (Go.Operand.tmp 8), type := 0, pos := "step.go:23", after := #[{ on := 5, ground := Go.Ground.data }, { on := 3, ground := Go.Ground.data }, { on := 6, ground := Go.Ground.chain }, { on := 0, ground := Go.Ground.phase }, { on := 1, ground := Go.Ground.phase }, { on := 2, ground := Go.Ground.phase }, { on := 3, ground := Go.Ground.phase }, { on := 4, ground := Go.Ground.phase }, { on := 5, ground := Go.Ground.phase }, { on := 6, ground := Go.Ground.phase }], guard := none }) rfl (fun K hK => ?_) ?_
              · skip
                have k45 : x34.cell? ⟨x17.heap.size, 0, none⟩ = some (.slice none 0 0) := by rw [Lib.cell_of_heap b40]; rfl
                have k46 : x34.frozen? ⟨x17.heap.size, 0, none⟩ = false := Lib.frozen_of_heap b40 0
                go_simp
                obtain ⟨x43, e47⟩ : ∃ x, x = x34.setCell ⟨x17.heap.size, 0, none⟩ (.slice o13 m14 n15) := ⟨_, rfl⟩
                have c44 : Chg WB x43 := by rw [e47]; exact c35.setCell z33 _
                have b48 : x43.heap[x17.heap.size]? = some (.cells #[.slice o13 m14 n15] 23 (0, 0)) := by rw [e47]; simp [World.setCell, Array.getElem?_modify, b40]
                have b49 : x43.heap[x9.heap.size]? = some (.cells #[.func (.func 46) #[] #[.pointer (some ⟨a6, 0, none⟩), .pointer (some ⟨b7, 0, none⟩), .pointer (some ⟨c8, 0, none⟩)]] 51 (0, 0)) := by rw [e47, Below.heap_setCell _ _ _ _ (fun q => blk_ne b40 b39 (by decide) q.symm)]; exact b39
                have f50 : LA x43 (.func (.func 46) #[] #[.pointer (some ⟨a6, 0, none⟩), .pointer (some ⟨b7, 0, none⟩), .pointer (some ⟨c8, 0, none⟩)]) q sDer := by rw [e47]; exact la_set f41 b40 (by first | exact .inl rfl | exact .inr rfl) _
                have r51 : Ap.Rd x43 (.slice o13 m14 n15) (sumL q []) := by rw [e47]; exact rd_set r42 b40 (by first | exact .inl rfl | exact .inr rfl) _
                rw [← e47]
                clear e47 k45 k46
                refine hK.out _ _ c44 (fun _ => ?_)
                clear hK K
                try simp only [Act.put, List.setIfInBounds_toArray, List.set_cons_zero, List.set_cons_succ]
                refine wpAnyH_done (by kernel_rfl) ?_ _
                go_wp2_with fail
                go_meet
                case rel => exact ⟨x9.heap.size, x17.heap.size, _, _, _, _, rfl, rfl, c44, (by rw [Lib.cell_of_heap b49]; rfl), f50, (by rw [Lib.cell_of_heap b48]; rfl), r51⟩
              exact AllReadyH.nil
            exact AllReadyH.nil
          exact AllReadyH.nil
        refine AllReadyH.cons (o := { dst := some 4, op := Go.Op.alloc 23, type := 0, pos := "step.go:23", after := #[], guard := none }) rfl (fun K hK => ?_) ?_
        · skip
          go_simp
          obtain ⟨x52, e54⟩ : ∃ x, x = x9.alloc (.cells #[.slice none 0 0] 23) := ⟨_, rfl⟩
          have s55 : Chg x9 x52 := by rw [e54]; exact (Chg.refl _).alloc _
          have b56 : x52.heap[x9.heap.size]? = some (.cells #[.slice none 0 0] 23 (0, 0)) := by rw [e54]; exact heap_alloc_last x9 _
          have c53 := c10.trans s55
          rw [← e54]
          have f57 := f16.chg s55
          have r58 := Rd.chg r12 s55
          have z59 : WB.heap.size ≤ x9.heap.size := c10.size
          clear e54
          refine hK.out _ _ c53 (fun _ => ?_)
          clear hK K
          try simp only [Act.put, List.setIfInBounds_toArray, List.set_cons_zero, List.set_cons_succ]
          refine wpAnyH_ready (rs := [4]) (by kernel_rfl) (by simp) ?_
          refine AllReadyH.cons (o := { dst := some 3, op := Go.Op.alloc 51, type := 0, pos := "step.go:23", after := #[], guard := none }) rfl (fun K hK => ?_) ?_
          · skip
            go_simp
            obtain ⟨x60, e62⟩ : ∃ x, x = x52.alloc (.cells #[.nilFunc] 51) := ⟨_, rfl⟩
            have s63 : Chg x52 x60 := by rw [e62]; exact (Chg.refl _).alloc _
            have b64 : x60.heap[x52.heap.size]? = some (.cells #[.nilFunc] 51 (0, 0)) := by rw [e62]; exact heap_alloc_last x52 _
            have c61 := c53.trans s63
            rw [← e62]
            have b65 := (s63.block _ (lt_blk b56)).trans b56
            have f66 := f57.chg s63
            have r67 := Rd.chg r58 s63
            have z68 : WB.heap.size ≤ x52.heap.size := c53.size
            clear e62
            refine hK.out _ _ c61 (fun _ => ?_)
            clear hK K
            try simp only [Act.put, List.setIfInBounds_toArray, List.set_cons_zero, List.set_cons_succ]
            refine wpAnyH_ready (rs := [6]) (by kernel_rfl) (by simp) ?_
            refine AllReadyH.cons (o := { dst := none, op := Go.Op.store 51 (Go.Operand.tmp 3) (Go.Operand.tmp 6), type := 0, pos := "step.go:23", after := #[{ on := 4, ground := Go.Ground.data }, { on := 1, ground := Go.Ground.data }, { on := 3, ground := Go.Ground.chain }, { on := 0, ground := Go.Ground.phase }, { on := 1, ground := Go.Ground.phase }, { on := 2, ground := Go.Ground.textOnly Go.Departure.lateStores }, { on := 3, ground := Go.Ground.textOnly Go.Departure.lateStoresUnsure }, { on := 4, ground := Go.Ground.phase }, { on := 5, ground := Go.Ground.phase }], guard := none }) rfl (fun K hK => ?_) ?_
            · skip
              have k71 : x60.cell? ⟨x52.heap.size, 0, none⟩ = some (.nilFunc) := by rw [Lib.cell_of_heap b64]; rfl
              have k72 : x60.frozen? ⟨x52.heap.size, 0, none⟩ = false := Lib.frozen_of_heap b64 0
              go_simp
              obtain ⟨x69, e73⟩ : ∃ x, x = x60.setCell ⟨x52.heap.size, 0, none⟩ (.func (.func 46) #[] #[.pointer (some ⟨a6, 0, none⟩), .pointer (some ⟨b7, 0, none⟩), .pointer (some ⟨c8, 0, none⟩)]) := ⟨_, rfl⟩
              have c70 : Chg WB x69 := by rw [e73]; exact c61.setCell z68 _
              have b74 : x69.heap[x52.heap.size]? = some (.cells #[.func (.func 46) #[] #[.pointer (some ⟨a6, 0, none⟩), .pointer (some ⟨b7, 0, none⟩), .pointer (some ⟨c8, 0, none⟩)]] 51 (0, 0)) := by rw [e73]; simp [World.setCell, Array.getElem?_modify, b64]
              have b75 : x69.heap[x9.heap.size]? = some (.cells #[.slice none 0 0] 23 (0, 0)) := by rw [e73, Below.heap_setCell _ _ _ _ (fun q => blk_ne b64 b65 (by decide) q.symm)]; exact b65
              have f76 : LA x69 (.func (.func 46) #[] #[.pointer (some ⟨a6, 0, none⟩), .pointer (some ⟨b7, 0, none⟩), .pointer (some ⟨c8, 0, none⟩)]) q sDer := by rw [e73]; exact la_set f66 b64 (by first | exact .inl rfl | exact .inr rfl) _
              have r77 : Ap.Rd x69 (.slice o13 m14 n15) (sumL q []) := by rw [e73]; exact rd_set r67 b64 (by first | exact .inl rfl | exact .inr rfl) _
              rw [← e73]
              clear e73 k71 k72
              refine hK.out _ _ c70 (fun _ => ?_)
              clear hK K
              try simp only [Act.put, List.setIfInBounds_toArray, List.set_cons_zero, List.set_cons_succ]
              refine wpAnyH_ready (rs := [7]) (by kernel_rfl) (by simp) ?_
              refine AllReadyH.cons (o := { dst := none, op := Go.Op.store 23 (Go.Operand.tmp 4) (Go.Operand.tmp 8), type := 0, pos := "step.go:23", after := #[{ on := 5, ground := Go.Ground.data }, { on := 3, ground := Go.Ground.data }, { on := 6, ground := Go.Ground.chain }, { on := 0, ground := Go.Ground.phase }, { on := 1, ground := Go.Ground.phase }, { on := 2, ground := Go.Ground.phase }, { on := 3, ground := Go.Ground.phase }, { on := 4, ground := Go.Ground.phase }, { on := 5, ground := Go.Ground.phase }, { on := 6, ground := Go.Ground.phase }], guard := none }) rfl (fun K hK => ?_) ?_
              · skip
                have k80 : x69.cell? ⟨x9.heap.size, 0, none⟩ = some (.slice none 0 0) := by rw [Lib.cell_of_heap b75]; rfl
                have k81 : x69.frozen? ⟨x9.heap.size, 0, none⟩ = false := Lib.frozen_of_heap b75 0
                go_simp
                obtain ⟨x78, e82⟩ : ∃ x, x = x69.setCell ⟨x9.heap.size, 0, none⟩ (.slice o13 m14 n15) := ⟨_, rfl⟩
                have c79 : Chg WB x78 := by rw [e82]; exact c70.setCell z59 _
                have b83 : x78.heap[x9.heap.size]? = some (.cells #[.slice o13 m14 n15] 23 (0, 0)) := by rw [e82]; simp [World.setCell, Array.getElem?_modify, b75]
                have b84 : x78.heap[x52.heap.size]? = some (.cells #[.func (.func 46) #[] #[.pointer (some ⟨a6, 0, none⟩), .pointer (some ⟨b7, 0, none⟩), .pointer (some ⟨c8, 0, none⟩)]] 51 (0, 0)) := by rw [e82, Below.heap_setCell _ _ _ _ (fun q => blk_ne b75 b74 (by decide) q.symm)]; exact b74
                have f85 : LA x78 (.func (.func 46) #[] #[.pointer (some ⟨a6, 0, none⟩), .pointer (some ⟨b7, 0, none⟩), .pointer (some ⟨c8, 0, none⟩)]) q sDer := by rw [e82]; exact la_set f76 b75 (by first | exact .inl rfl | exact .inr rfl) _
                have r86 : Ap.Rd x78 (.slice o13 m14 n15) (sumL q []) := by rw [e82]; exact rd_set r77 b75 (by first | exact .inl rfl | exact .inr rfl) _
                rw [← e82]
                clear e82 k80 k81
                refine hK.out _ _ c79 (fun _ => ?_)
                clear hK K
                try simp only [Act.put, List.setIfInBounds_toArray, List.set_cons_zero, List.set_cons_succ]
                refine wpAnyH_done (by kernel_rfl) ?_ _
                go_wp2_with fail
                go_meet
                case rel => exact ⟨x52.heap.size, x9.heap.size, _, _, _, _, rfl, rfl, c79, (by rw [Lib.cell_of_heap b84]; rfl), f85, (by rw [Lib.cell_of_heap b83]; rfl), r86⟩
              exact AllReadyH.nil
            exact AllReadyH.nil
          exact AllReadyH.nil
        exact AllReadyH.nil
      refine AllReadyH.cons (o := { dst := some 3, op := Go.Op.alloc 51, type := 0, pos := "step.go:23", after := #[], guard := none }) rfl (fun K hK => ?_) ?_
      · skip
        go_simp
        obtain ⟨x87, e89⟩ : ∃ x, x = x1.alloc (.cells #[.nilFunc] 51) := ⟨_, rfl⟩
        have s90 : Chg x1 x87 := by rw [e89]; exact (Chg.refl _).alloc _
        have b91 : x87.heap[x1.heap.size]? = some (.cells #[.nilFunc] 51 (0, 0)) := by rw [e89]; exact heap_alloc_last x1 _
        have c88 := c2.trans s90
        rw [← e89]
        have f92 := f5.chg s90
        have z93 : WB.heap.size ≤ x1.heap.size := c2.size
        clear e89
        refine hK.out _ _ c88 (fun _ => ?_)
        clear hK K
        try simp only [Act.put, List.setIfInBounds_toArray, List.set_cons_zero, List.set_cons_succ]
        refine wpAnyH_ready (rs := [3, 5]) (by kernel_rfl) (by simp) ?_
        refine AllReadyH.cons (o := { dst := some 8, op := Go.Op.call { callee := Go.Callee.value (Go.Operand.func 21), args := #[Go.Operand.tmp 7, Go.Operand.const (Go.Value.slice none 0 0)], argTypes := #[22, 30] }, type := 23, pos := "step.go:23", after := #[{ on := 2, ground := Go.Ground.data }, { on := 1, ground := Go.Ground.chain }], guard := none }) rfl (fun K hK => ?_) ?_
        · skip
          go_simp
          go_at_call 21
          refine (HO.out x87 (HT.out.chg c88)).mono ?_
          rintro e x94 ⟨o98, m99, n100, rfl, s96, r97⟩
          have b101 := (s96.block _ (lt_blk b91)).trans b91
          have f102 := f92.chg s96
          have c95 := c88.trans s96
          refine hK.out _ _ c95 (fun _ => ?_)
          clear hK K
          try simp only [Act.put, List.setIfInBounds_toArray, List.set_cons_zero, List.set_cons_succ]
          refine wpAnyH_ready (rs := [5]) (by kernel_rfl) (by simp) ?_
          refine AllReadyH.cons (o := { dst := some 4, op := Go.Op.alloc 23, type := 0, pos := "step.go:23", after := #[], guard := none }) rfl (fun K hK => ?_) ?_
          · skip
            go_simp
            obtain ⟨x103, e105⟩ : ∃ x, x = x94.alloc (.cells #[.slice none 0 0] 23) := ⟨_, rfl⟩
            have s106 : Chg x94 x103 := by rw [e105]; exact (Chg.refl _).alloc _
            have b107 : x103.heap[x94.heap.size]? = some (.cells #[.slice none 0 0] 23 (0, 0)) := by rw [e105]; exact heap_alloc_last x94 _
            have c104 := c95.trans s106
            rw [← e105]
            have b108 := (s106.block _ (lt_blk b101)).trans b101
            have f109 := f102.chg s106
            have r110 := Rd.chg r97 s106
            have z111 : WB.heap.size ≤ x94.heap.size := c95.size
            clear e105
            refine hK.out _ _ c104 (fun _ => ?_)
            clear hK K
            try simp only [Act.put, List.setIfInBounds_toArray, List.set_cons_zero, List.set_cons_succ]
            refine wpAnyH_ready (rs := [6]) (by kernel_rfl) (by simp) ?_
            refine AllReadyH.cons (o := { dst := none, op := Go.Op.store 51 (Go.Operand.tmp 3) (Go.Operand.tmp 6), type := 0, pos := "step.go:23", after := #[{ on := 4, ground := Go.Ground.data }, { on := 1, ground := Go.Ground.data }, { on := 3, ground := Go.Ground.chain }, { on := 0, ground := Go.Ground.phase }, { on := 1, ground := Go.Ground.phase }, { on := 2, ground := Go.Ground.textOnly Go.Departure.lateStores }, { on := 3, ground := Go.Ground.textOnly Go.Departure.lateStoresUnsure }, { on := 4, ground := Go.Ground.phase }, { on := 5, ground := Go.Ground.phase }], guard := none }) rfl (fun K hK => ?_) ?_
            · skip
              have k114 : x103.cell? ⟨x1.heap.size, 0, none⟩ = some (.nilFunc) := by rw [Lib.cell_of_heap b108]; rfl
              have k115 : x103.frozen? ⟨x1.heap.size, 0, none⟩ = false := Lib.frozen_of_heap b108 0
              go_simp
              obtain ⟨x112, e116⟩ : ∃ x, x = x103.setCell ⟨x1.heap.size, 0, none⟩ (.func (.func 46) #[] #[.pointer (some ⟨a6, 0, none⟩), .pointer (some ⟨b7, 0, none⟩), .pointer (some ⟨c8, 0, none⟩)]) := ⟨_, rfl⟩
              have c113 : Chg WB x112 := by rw [e116]; exact c104.setCell z93 _
              have b117 : x112.heap[x1.heap.size]? = some (.cells #[.func (.func 46) #[] #[.pointer (some ⟨a6, 0, none⟩), .pointer (some ⟨b7, 0, none⟩), .pointer (some ⟨c8, 0, none⟩)]] 51 (0, 0)) := by rw [e116]; simp [World.setCell, Array.getElem?_modify, b108]
              have b118 : x112.heap[x94.heap.size]? = some (.cells #[.slice none 0 0] 23 (0, 0)) := by rw [e116, Below.heap_setCell _ _ _ _ (fun q => blk_ne b108 b107 (by decide) q.symm)]; exact b107
              have f119 : LA x112 (.func (.func 46) #[] #[.pointer (some ⟨a6, 0, none⟩), .pointer (some ⟨b7, 0, none⟩), .pointer (some ⟨c8, 0, none⟩)]) q sDer := by rw [e116]; exact la_set f109 b108 (by first | exact .inl rfl | exact .inr rfl) _
              have r120 : Ap.Rd x112 (.slice o98 m99 n100) (sumL q []) := by rw [e116]; exact rd_set r110 b108 (by first | exact .inl rfl | exact .inr rfl) _
              rw [← e116]
              clear e116 k114 k115
              refine hK.out _ _ c113 (fun _ => ?_)
              clear hK K
              try simp only [Act.put, List.setIfInBounds_toArray, List.set_cons_zero, List.set_cons_succ]
              refine wpAnyH_ready (rs := [7]) (by kernel_rfl) (by simp) ?_
              refine AllReadyH.cons (o := { dst := none, op := Go.Op.store 23 (Go.Operand.tmp 4) (Go.Operand.tmp 8), type := 0, pos := "step.go:23", after := #[{ on := 5, ground := Go.Ground.data }, { on := 3, ground := Go.Ground.data }, { on := 6, ground := Go.Ground.chain }, { on := 0, ground := Go.Ground.phase }, { on := 1, ground := Go.Ground.phase }, { on := 2, ground := Go.Ground.phase }, { on := 3, ground := Go.Ground.phase }, { on := 4, ground := Go.Ground.phase }, { on := 5, ground := Go.Ground.phase }, { on := 6, ground := Go.Ground.phase }], guard := none }) rfl (fun K hK => ?_) ?_
              · skip
                have k123 : x112.cell? ⟨x94.heap.size, 0, none⟩ = some (.slice none 0 0) := by rw [Lib.cell_of_heap b118]; rfl
                have k124 : x112.frozen? ⟨x94.heap.size, 0, none⟩ = false := Lib.frozen_of_heap b118 0
                go_simp
                obtain ⟨x121, e125⟩ : ∃ x, x = x112.setCell ⟨x94.heap.size, 0, none⟩ (.slice o98 m99 n100) := ⟨_, rfl⟩
                have c122 : Chg WB x121 := by rw [e125]; exact c113.setCell z111 _
                have b126 : x121.heap[x94.heap.size]? = some (.cells #[.slice o98 m99 n100] 23 (0, 0)) := by rw [e125]; simp [World.setCell, Array.getElem?_modify, b118]
                have b127 : x121.heap[x1.heap.size]? = some (.cells #[.func (.func 46) #[] #[.pointer (some ⟨a6, 0, none⟩), .pointer (some ⟨b7, 0, none⟩), .pointer (some ⟨c8, 0, none⟩)]] 51 (0, 0)) := by rw [e125, Below.heap_setCell _ _ _ _ (fun q => blk_ne b118 b117 (by decide) q.symm)]; exact b117
                have f128 : LA x121 (.func (.func 46) #[] #[.pointer (some ⟨a6, 0, none⟩), .pointer (some ⟨b7, 0, none⟩), .pointer (some ⟨c8, 0, none⟩)]) q sDer := by rw [e125]; exact la_set f119 b118 (by first | exact .inl rfl | exact .inr rfl) _
                have r129 : Ap.Rd x121 (.slice o98 m99 n100) (sumL q []) := by rw [e125]; exact rd_set r120 b118 (by first | exact .inl rfl | exact .inr rfl) _
                rw [← e125]
                clear e125 k123 k124
                refine hK.out _ _ c122 (fun _ => ?_)
                clear hK K
                try simp only [Act.put, List.setIfInBounds_toArray, List.set_cons_zero, List.set_cons_succ]
                refine wpAnyH_done (by kernel_rfl) ?_ _
                go_wp2_with fail
                go_meet
                case rel => exact ⟨x1.heap.size, x94.heap.size, _, _, _, _, rfl, rfl, c122, (by rw [Lib.cell_of_heap b127]; rfl), f128, (by rw [Lib.cell_of_heap b126]; rfl), r129⟩
              exact AllReadyH.nil
            exact AllReadyH.nil
          exact AllReadyH.nil
        refine AllReadyH.cons (o := { dst := some 4, op := Go.Op.alloc 23, type := 0, pos := "step.go:23", after := #[], guard := none }) rfl (fun K hK => ?_) ?_
        · skip
          go_simp
          obtain ⟨x130, e132⟩ : ∃ x, x = x87.alloc (.cells #[.slice none 0 0] 23) := ⟨_, rfl⟩
          have s133 : Chg x87 x130 := by rw [e132]; exact (Chg.refl _).alloc _
          have b134 : x130.heap[x87.heap.size]? = some (.cells #[.slice none 0 0] 23 (0, 0)) := by rw [e132]; exact heap_alloc_last x87 _
          have c131 := c88.trans s133
          rw [← e132]
          have b135 := (s133.block _ (lt_blk b91)).trans b91
          have f136 := f92.chg s133
          have z137 : WB.heap.size ≤ x87.heap.size := c88.size
          clear e132
          refine hK.out _ _ c131 (fun _ => ?_)
          clear hK K
          try simp only [Act.put, List.setIfInBounds_toArray, List.set_cons_zero, List.set_cons_succ]
          refine wpAnyH_ready (rs := [3]) (by kernel_rfl) (by simp) ?_
          refine AllReadyH.cons (o := { dst := some 8, op := Go.Op.call { callee := Go.Callee.value (Go.Operand.func 21), args := #[Go.Operand.tmp 7, Go.Operand.const (Go.Value.slice none 0 0)], argTypes := #[22, 30] }, type := 23, pos := "step.go:23", after := #[{ on := 2, ground := Go.Ground.data }, { on := 1, ground := Go.Ground.chain }], guard := none }) rfl (fun K hK => ?_) ?_
          · skip
            go_simp
            go_at_call 21
            refine (HO.out x130 (HT.out.chg c131)).mono ?_
            rintro e x138 ⟨o142, m143, n144, rfl, s140, r141⟩
            have b145 := (s140.block _ (lt_blk b135)).trans b135
            have b146 := (s140.block _ (lt_blk b134)).trans b134
            have f147 := f136.chg s140
            have c139 := c131.trans s140
            refine hK.out _ _ c139 (fun _ => ?_)
            clear hK K
            try simp only [Act.put, List.setIfInBounds_toArray, List.set_cons_zero, List.set_cons_succ]
            refine wpAnyH_ready (rs := [6]) (by kernel_rfl) (by simp) ?_
            refine AllReadyH.cons (o := { dst := none, op := Go.Op.store 51 (Go.Operand.tmp 3) (Go.Operand.tmp 6), type := 0, pos := "step.go:23", after := #[{ on := 4, ground := Go.Ground.data }, { on := 1, ground := Go.Ground.data }, { on := 3, ground := Go.Ground.chain }, { on := 0, ground := Go.Ground.phase }, { on := 1, ground := Go.Ground.phase }, { on := 2, ground := Go.Ground.textOnly Go.Departure.lateStores }, { on := 3, ground := Go.Ground.textOnly Go.Departure.lateStoresUnsure }, { on := 4, ground := Go.Ground.phase }, { on := 5, ground := Go.Ground.phase }], guard := none }) rfl (fun K hK => ?_) ?_
            · skip
              have k150 : x138.cell? ⟨x1.heap.size, 0, none⟩ = some (.nilFunc) := by rw [Lib.cell_of_heap b145]; rfl
              have k151 : x138.frozen? ⟨x1.heap.size, 0, none⟩ = false := Lib.frozen_of_heap b145 0
              go_simp
              obtain ⟨x148, e152⟩ : ∃ x, x = x138.setCell ⟨x1.heap.size, 0, none⟩ (.func (.func 46) #[] #[.pointer (some ⟨a6, 0, none⟩), .pointer (some ⟨b7, 0, none⟩), .pointer (some ⟨c8, 0, none⟩)]) := ⟨_, rfl⟩
              have c149 : Chg WB x148 := by rw [e152]; exact c139.setCell z93 _
              have b153 : x148.heap[x1.heap.size]? = some (.cells #[.func (.func 46) #[] #[.pointer (some ⟨a6, 0, none⟩), .pointer (some ⟨b7, 0, none⟩), .pointer (some ⟨c8, 0, none⟩)]] 51 (0, 0)) := by rw [e152]; simp [World.setCell, Array.getElem?_modify, b145]
              have b154 : x148.heap[x87.heap.size]? = some (.cells #[.slice none 0 0] 23 (0, 0)) := by rw [e152, Below.heap_setCell _ _ _ _ (fun q => blk_ne b145 b146 (by decide) q.symm)]; exact b146
              have f155 : LA x148 (.func (.func 46) #[] #[.pointer (some ⟨a6, 0, none⟩), .pointer (some ⟨b7, 0, none⟩), .pointer (some ⟨c8, 0, none⟩)]) q sDer := by rw [e152]; exact la_set f147 b145 (by first | exact .inl rfl | exact .inr rfl) _
              have r156 : Ap.Rd x148 (.slice o142 m143 n144) (sumL q []) := by rw [e152]; exact rd_set r141 b145 (by first | exact .inl rfl | exact .inr rfl) _
              rw [← e152]
              clear e152 k150 k151
              refine hK.out _ _ c149 (fun _ => ?_)
              clear hK K
              try simp only [Act.put, List.setIfInBounds_toArray, List.set_cons_zero, List.set_cons_succ]
              refine wpAnyH_ready (rs := [7]) (by kernel_rfl) (by simp) ?_
              refine AllReadyH.cons (o := { dst := none, op := Go.Op.store 23 (Go.Operand.tmp 4) (Go.Operand.tmp 8), type := 0, pos := "step.go:23", after := #[{ on := 5, ground := Go.Ground.data }, { on := 3, ground := Go.Ground.data }, { on := 6, ground := Go.Ground.chain }, { on := 0, ground := Go.Ground.phase }, { on := 1, ground := Go.Ground.phase }, { on := 2, ground := Go.Ground.phase }, { on := 3, ground := Go.Ground.phase }, { on := 4, ground := Go.Ground.phase }, { on := 5, ground := Go.Ground.phase }, { on := 6, ground := Go.Ground.phase }], guard := none }) rfl (fun K hK => ?_) ?_
              · skip
                have k159 : x148.cell? ⟨x87.heap.size, 0, none⟩ = some (.slice none 0 0) := by rw [Lib.cell_of_heap b154]; rfl
                have k160 : x148.frozen? ⟨x87.heap.size, 0, none⟩ = false := Lib.frozen_of_heap b154 0
                go_simp
                obtain ⟨x157, e161⟩ : ∃ x, x = x148.setCell ⟨x87.heap.size, 0, none⟩ (.slice o142 m143 n144) := ⟨_, rfl⟩
                have c158 : Chg WB x157 := by rw [e161]; exact c149.setCell z137 _
                have b162 : x157.heap[x87.heap.size]? = some (.cells #[.slice o142 m143 n144] 23 (0, 0)) := by rw [e161]; simp [World.setCell, Array.getElem?_modify, b154]
                have b163 : x157.heap[x1.heap.size]? = some (.cells #[.func (.func 46) #[] #[.pointer (some ⟨a6, 0, none⟩), .pointer (some ⟨b7, 0, none⟩), .pointer (some ⟨c8, 0, none⟩)]] 51 (0, 0)) := by rw [e161, Below.heap_setCell _ _ _ _ (fun q => blk_ne b154 b153 (by decide) q.symm)]; exact b153
                have f164 : LA x157 (.func (.func 46) #[] #[.pointer (some ⟨a6, 0, none⟩), .pointer (some ⟨b7, 0, none⟩), .pointer (some ⟨c8, 0, none⟩)]) q sDer := by rw [e161]; exact la_set f155 b154 (by first | exact .inl rfl | exact .inr rfl) _
                have r165 : Ap.Rd x157 (.slice o142 m143 n144) (sumL q []) := by rw [e161]; exact rd_set r156 b154 (by first | exact .inl rfl | exact .inr rfl) _
                rw [← e161]
                clear e161 k159 k160
                refine hK.out _ _ c158 (fun _ => ?_)
                clear hK K
                try simp only [Act.put, List.setIfInBounds_toArray, List.set_cons_zero, List.set_cons_succ]
                refine wpAnyH_done (by kernel_rfl) ?_ _
                go_wp2_with fail
                go_meet
                case rel => exact ⟨x1.heap.size, x87.heap.size, _, _, _, _, rfl, rfl, c158, (by rw [Lib.cell_of_heap b163]; rfl), f164, (by rw [Lib.cell_of_heap b162]; rfl), r165⟩
              exact AllReadyH.nil
            exact AllReadyH.nil
          exact AllReadyH.nil
        exact AllReadyH.nil
      refine AllReadyH.cons (o := { dst := some 4, op := Go.Op.alloc 23, type := 0, pos := "step.go:23", after := #[], guard := none }) rfl (fun K hK => ?_) ?_
      · skip
        go_simp
        obtain ⟨x166, e168⟩ : ∃ x, x = x1.alloc (.cells #[.slice none 0 0] 23) := ⟨_, rfl⟩
        have s169 : Chg x1 x166 := by rw [e168]; exact (Chg.refl _).alloc _
        have b170 : x166.heap[x1.heap.size]? = some (.cells #[.slice none 0 0] 23 (0, 0)) := by rw [e168]; exact heap_alloc_last x1 _
        have c167 := c2.trans s169
        rw [← e168]
        have f171 := f5.chg s169
        have z172 : WB.heap.size ≤ x1.heap.size := c2.size
        clear e168
        refine hK.out _ _ c167 (fun _ => ?_)
        clear hK K
        try simp only [Act.put, List.setIfInBounds_toArray, List.set_cons_zero, List.set_cons_succ]
        refine wpAnyH_ready (rs := [3, 4]) (by kernel_rfl) (by simp) ?_
        refine AllReadyH.cons (o := { dst := some 8, op := Go.Op.call { callee := Go.Callee.value (Go.Operand.func 21), args := #[Go.Operand.tmp 7, Go.Operand.const (Go.Value.slice none 0 0)], argTypes := #[22, 30] }, type := 23, pos := "step.go:23", after := #[{ on := 2, ground := Go.Ground.data }, { on := 1, ground := Go.Ground.chain }], guard := none }) rfl (fun K hK => ?_) ?_
        · skip
          go_simp
          go_at_call 21
          refine (HO.out x166 (HT.out.chg c167)).mono ?_
          rintro e x173 ⟨o177, m178, n179, rfl, s175, r176⟩
          have b180 := (s175.block _ (lt_blk b170)).trans b170
          have f181 := f171.chg s175
          have c174 := c167.trans s175
          refine hK.out _ _ c174 (fun _ => ?_)
          clear hK K
          try simp only [Act.put, List.setIfInBounds_toArray, List.set_cons_zero, List.set_cons_succ]
          refine wpAnyH_ready (rs := [4]) (by kernel_rfl) (by simp) ?_
          refine AllReadyH.cons (o := { dst := some 3, op := Go.Op.alloc 51, type := 0, pos := "step.go:23", after := #[], guard := none }) rfl (fun K hK => ?_) ?_
          · skip
            go_simp
            obtain ⟨x182, e184⟩ : ∃ x, x = x173.alloc (.cells #[.nilFunc] 51) := ⟨_, rfl⟩
            have s185 : Chg x173 x182 := by rw [e184]; exact (Chg.refl _).alloc _
            have b186 : x182.heap[x173.heap.size]? = some (.cells #[.nilFunc] 51 (0, 0)) := by rw [e184]; exact heap_alloc_last x173 _
            have c183 := c174.trans s185
            rw [← e184]
            have b187 := (s185.block _ (lt_blk b180)).trans b180
            have f188 := f181.chg s185
            have r189 := Rd.chg r176 s185
            have z190 : WB.heap.size ≤ x173.heap.size := c174.size
            clear e184
            refine hK.out _ _ c183 (fun _ => ?_)
            clear hK K
            try simp only [Act.put, List.setIfInBounds_toArray, List.set_cons_zero, List.set_cons_succ]
            refine wpAnyH_ready (rs := [6]) (by kernel_rfl) (by simp) ?_
            refine AllReadyH.cons (o := { dst := none, op := Go.Op.store 51 (Go.Operand.tmp 3) (Go.Operand.tmp 6), type := 0, pos := "step.go:23", after := #[{ on := 4, ground := Go.Ground.data }, { on := 1, ground := Go.Ground.data }, { on := 3, ground := Go.Ground.chain }, { on := 0, ground := Go.Ground.phase }, { on := 1, ground := Go.Ground.phase }, { on := 2, ground := Go.Ground.textOnly Go.Departure.lateStores }, { on := 3, ground := Go.Ground.textOnly Go.Departure.lateStoresUnsure }, { on := 4, ground := Go.Ground.phase }, { on := 5, ground := Go.Ground.phase }], guard := none }) rfl (fun K hK => ?_) ?_
            · skip
              have k193 : x182.cell? ⟨x173.heap.size, 0, none⟩ = some (.nilFunc) := by rw [Lib.cell_of_heap b186]; rfl
              have k194 : x182.frozen? ⟨x173.heap.size, 0, none⟩ = false := Lib.frozen_of_heap b186 0
              go_simp
              obtain ⟨x191, e195⟩ : ∃ x, x = x182.setCell ⟨x173.heap.size, 0, none⟩ (.func (.func 46) #[] #[.pointer (some ⟨a6, 0, none⟩), .pointer (some ⟨b7, 0, none⟩), .pointer (some ⟨c8, 0, none⟩)]) := ⟨_, rfl⟩
              have c192 : Chg WB x191 := by rw [e195]; exact c183.setCell z190 _
              have b196 : x191.heap[x173.heap.size]? = some (.cells #[.func (.func 46) #[] #[.pointer (some ⟨a6, 0, none⟩), .pointer (some ⟨b7, 0, none⟩), .pointer (some ⟨c8, 0, none⟩)]] 51 (0, 0)) := by rw [e195]; simp [World.setCell, Array.getElem?_modify, b186]
              have b197 : x191.heap[x1.heap.size]? = some (.cells #[.slice none 0 0] 23 (0, 0)) := by rw [e195, Below.heap_setCell _ _ _ _ (fun q => blk_ne b186 b187 (by decide) q.symm)]; exact b187
              have f198 : LA x191 (.func (.func 46) #[] #[.pointer (some ⟨a6, 0, none⟩), .pointer (some ⟨b7, 0, none⟩), .pointer (some ⟨c8, 0, none⟩)]) q sDer := by rw [e195]; exact la_set f188 b186 (by first | exact .inl rfl | exact .inr rfl) _
              have r199 : Ap.Rd x191 (.slice o177 m178 n179) (sumL q []) := by rw [e195]; exact rd_set r189 b186 (by first | exact .inl rfl | exact .inr rfl) _
              rw [← e195]
              clear e195 k193 k194
              refine hK.out _ _ c192 (fun _ => ?_)
              clear hK K
              try simp only [Act.put, List.setIfInBounds_toArray, List.set_cons_zero, List.set_cons_succ]
              refine wpAnyH_ready (rs := [7]) (by kernel_rfl) (by simp) ?_
              refine AllReadyH.cons (o := { dst := none, op := Go.Op.store 23 (Go.Operand.tmp 4) (Go.Operand.tmp 8), type := 0, pos := "step.go:23", after := #[{ on := 5, ground := Go.Ground.data }, { on := 3, ground := Go.Ground.data }, { on := 6, ground := Go.Ground.chain }, { on := 0, ground := Go.Ground.phase }, { on := 1, ground := Go.Ground.phase }, { on := 2, ground := Go.Ground.phase }, { on := 3, ground := Go.Ground.phase }, { on := 4, ground := Go.Ground.phase }, { on := 5, ground := Go.Ground.phase }, { on := 6, ground := Go.Ground.phase }], guard := none }) rfl (fun K hK => ?_) ?_
              · skip
                have k202 : x191.cell? ⟨x1.heap.size, 0, none⟩ = some (.slice none 0 0) := by rw [Lib.cell_of_heap b197]; rfl
                have k203 : x191.frozen? ⟨x1.heap.size, 0, none⟩ = false := Lib.frozen_of_heap b197 0
                go_simp
                obtain ⟨x200, e204⟩ : ∃ x, x = x191.setCell ⟨x1.heap.size, 0, none⟩ (.slice o177 m178 n179) := ⟨_, rfl⟩
                have c201 : Chg WB x200 := by rw [e204]; exact c192.setCell z172 _
                have b205 : x200.heap[x1.heap.size]? = some (.cells #[.slice o177 m178 n179] 23 (0, 0)) := by rw [e204]; simp [World.setCell, Array.getElem?_modify, b197]
                have b206 : x200.heap[x173.heap.size]? = some (.cells #[.func (.func 46) #[] #[.pointer (some ⟨a6, 0, none⟩), .pointer (some ⟨b7, 0, none⟩), .pointer (some ⟨c8, 0, none⟩)]] 51 (0, 0)) := by rw [e204, Below.heap_setCell _ _ _ _ (fun q => blk_ne b197 b196 (by decide) q.symm)]; exact b196
                have f207 : LA x200 (.func (.func 46) #[] #[.pointer (some ⟨a6, 0, none⟩), .pointer (some ⟨b7, 0, none⟩), .pointer (some ⟨c8, 0, none⟩)]) q sDer := by rw [e204]; exact la_set f198 b197 (by first | exact .inl rfl | exact .inr rfl) _
                have r208 : Ap.Rd x200 (.slice o177 m178 n179) (sumL q []) := by rw [e204]; exact rd_set r199 b197 (by first | exact .inl rfl | exact .inr rfl) _
                rw [← e204]
                clear e204 k202 k203
                refine hK.out _ _ c201 (fun _ => ?_)
                clear hK K
                try simp only [Act.put, List.setIfInBounds_toArray, List.set_cons_zero, List.set_cons_succ]
                refine wpAnyH_done (by kernel_rfl) ?_ _
                go_wp2_with fail
                go_meet
                case rel => exact ⟨x173.heap.size, x1.heap.size, _, _, _, _, rfl, rfl, c201, (by rw [Lib.cell_of_heap b206]; rfl), f207, (by rw [Lib.cell_of_heap b205]; rfl), r208⟩
              exact AllReadyH.nil
            exact AllReadyH.nil
          exact AllReadyH.nil
        refine AllReadyH.cons (o := { dst := some 3, op := Go.Op.alloc 51, type := 0, pos := "step.go:23", after := #[], guard := none }) rfl (fun K hK => ?_) ?_
        · skip
          go_simp
          obtain ⟨x209, e211⟩ : ∃ x, x = x166.alloc (.cells #[.nilFunc] 51) := ⟨_, rfl⟩
          have s212 : Chg x166 x209 := by rw [e211]; exact (Chg.refl _).alloc _
          have b213 : x209.heap[x166.heap.size]? = some (.cells #[.nilFunc] 51 (0, 0)) := by rw [e211]; exact heap_alloc_last x166 _
          have c210 := c167.trans s212
          rw [← e211]
          have b214 := (s212.block _ (lt_blk b170)).trans b170
          have f215 := f171.chg s212
          have z216 : WB.heap.size ≤ x166.heap.size := c167.size
          clear e211
          refine hK.out _ _ c210 (fun _ => ?_)
          clear hK K
          try simp only [Act.put, List.setIfInBounds_toArray, List.set_cons_zero, List.set_cons_succ]
          refine wpAnyH_ready (rs := [3]) (by kernel_rfl) (by simp) ?_
          refine AllReadyH.cons (o := { dst := some 8, op := Go.Op.call { callee := Go.Callee.value (Go.Operand.func 21), args := #[Go.Operand.tmp 7, Go.Operand.const (Go.Value.slice none 0 0)], argTypes := #[22, 30] }, type := 23, pos := "step.go:23", after := #[{ on := 2, ground := Go.Ground.data }, { on := 1, ground := Go.Ground.chain }], guard := none }) rfl (fun K hK => ?_) ?_
          · skip
            go_simp
            go_at_call 21
            refine (HO.out x209 (HT.out.chg c210)).mono ?_
            rintro e x217 ⟨o221, m222, n223, rfl, s219, r220⟩
            have b224 := (s219.block _ (lt_blk b213)).trans b213
            have b225 := (s219.block _ (lt_blk b214)).trans b214
            have f226 := f215.chg s219
            have c218 := c210.trans s219
            refine hK.out _ _ c218 (fun _ => ?_)
            clear hK K
            try simp only [Act.put, List.setIfInBounds_toArray, List.set_cons_zero, List.set_cons_succ]
            refine wpAnyH_ready (rs := [6]) (by kernel_rfl) (by simp) ?_
            refine AllReadyH.cons (o := { dst := none, op := Go.Op.store 51 (Go.Operand.tmp 3) (Go.Operand.tmp 6), type := 0, pos := "step.go:23", after := #[{ on := 4, ground := Go.Ground.data }, { on := 1, ground := Go.Ground.data }, { on := 3, ground := Go.Ground.chain }, { on := 0, ground := Go.Ground.phase }, { on := 1, ground := Go.Ground.phase }, { on := 2, ground := Go.Ground.textOnly Go.Departure.lateStores }, { on := 3, ground := Go.Ground.textOnly Go.Departure.lateStoresUnsure }, { on := 4, ground := Go.Ground.phase }, { on := 5, ground := Go.Ground.phase }], guard := none }) rfl (fun K hK => ?_) ?_
            · skip
              have k229 : x217.cell? ⟨x166.heap.size, 0, none⟩ = some (.nilFunc) := by rw [Lib.cell_of_heap b224]; rfl
              have k230 : x217.frozen? ⟨x166.heap.size, 0, none⟩ = false := Lib.frozen_of_heap b224 0
              go_simp
              obtain ⟨x227, e231⟩ : ∃ x, x = x217.setCell ⟨x166.heap.size, 0, none⟩ (.func (.func 46) #[] #[.pointer (some ⟨a6, 0, none⟩), .pointer (some ⟨b7, 0, none⟩), .pointer (some ⟨c8, 0, none⟩)]) := ⟨_, rfl⟩
              have c228 : Chg WB x227 := by rw [e231]; exact c218.setCell z216 _
              have b232 : x227.heap[x166.heap.size]? = some (.cells #[.func (.func 46) #[] #[.pointer (some ⟨a6, 0, none⟩), .pointer (some ⟨b7, 0, none⟩), .pointer (some ⟨c8, 0, none⟩)]] 51 (0, 0)) := by rw [e231]; simp [World.setCell, Array.getElem?_modify, b224]
              have b233 : x227.heap[x1.heap.size]? = some (.cells #[.slice none 0 0] 23 (0, 0)) := by rw [e231, Below.heap_setCell _ _ _ _ (fun q => blk_ne b224 b225 (by decide) q.symm)]; exact b225
              have f234 : LA x227 (.func (.func 46) #[] #[.pointer (some ⟨a6, 0, none⟩), .pointer (some ⟨b7, 0, none⟩), .pointer (some ⟨c8, 0, none⟩)]) q sDer := by rw [e231]; exact la_set f226 b224 (by first | exact .inl rfl | exact .inr rfl) _
              have r235 : Ap.Rd x227 (.slice o221 m222 n223) (sumL q []) := by rw [e231]; exact rd_set r220 b224 (by first | exact .inl rfl | exact .inr rfl) _
              rw [← e231]
              clear e231 k229 k230
              refine hK.out _ _ c228 (fun _ => ?_)
              clear hK K
              try simp only [Act.put, List.setIfInBounds_toArray, List.set_cons_zero, List.set_cons_succ]
              refine wpAnyH_ready (rs := [7]) (by kernel_rfl) (by simp) ?_
              refine AllReadyH.cons (o := { dst := none, op := Go.Op.store 23 (Go.Operand.tmp 4) (Go.Operand.tmp 8), type := 0, pos := "step.go:23", after := #[{ on := 5, ground := Go.Ground.data }, { on := 3, ground := Go.Ground.data }, { on := 6, ground := Go.Ground.chain }, { on := 0, ground := Go.Ground.phase }, { on := 1, ground := Go.Ground.phase }, { on := 2, ground := Go.Ground.phase }, { on := 3, ground := Go.Ground.phase }, { on := 4, ground := Go.Ground.phase }, { on := 5, ground := Go.Ground.phase }, { on := 6, ground := Go.Ground.phase }], guard := none }) rfl (fun K hK => ?_) ?_
              · skip
                have k238 : x227.cell? ⟨x1.heap.size, 0, none⟩ = some (.slice none 0 0) := by rw [Lib.cell_of_heap b233]; rfl
                have k239 : x227.frozen? ⟨x1.heap.size, 0, none⟩ = false := Lib.frozen_of_heap b233 0
                go_simp
                obtain ⟨x236, e240⟩ : ∃ x, x = x227.setCell ⟨x1.heap.size, 0, none⟩ (.slice o221 m222 n223) := ⟨_, rfl⟩
                have c237 : Chg WB x236 := by rw [e240]; exact c228.setCell z172 _
                have b241 : x236.heap[x1.heap.size]? = some (.cells #[.slice o221 m222 n223] 23 (0, 0)) := by rw [e240]; simp [World.setCell, Array.getElem?_modify, b233]
                have b242 : x236.heap[x166.heap.size]? = some (.cells #[.func (.func 46) #[] #[.pointer (some ⟨a6, 0, none⟩), .pointer (some ⟨b7, 0, none⟩), .pointer (some ⟨c8, 0, none⟩)]] 51 (0, 0)) := by rw [e240, Below.heap_setCell _ _ _ _ (fun q => blk_ne b233 b232 (by decide) q.symm)]; exact b232
                have f243 : LA x236 (.func (.func 46) #[] #[.pointer (some ⟨a6, 0, none⟩), .pointer (some ⟨b7, 0, none⟩), .pointer (some ⟨c8, 0, none⟩)]) q sDer := by rw [e240]; exact la_set f234 b233 (by first | exact .inl rfl | exact .inr rfl) _
                have r244 : Ap.Rd x236 (.slice o221 m222 n223) (sumL q []) := by rw [e240]; exact rd_set r235 b233 (by first | exact .inl rfl | exact .inr rfl) _
                rw [← e240]
                clear e240 k238 k239
                refine hK.out _ _ c237 (fun _ => ?_)
                clear hK K
                try simp only [Act.put, List.setIfInBounds_toArray, List.set_cons_zero, List.set_cons_succ]
                refine wpAnyH_done (by kernel_rfl) ?_ _
                go_wp2_with fail
                go_meet
                case rel => exact ⟨x166.heap.size, x1.heap.size, _, _, _, _, rfl, rfl, c237, (by rw [Lib.cell_of_heap b242]; rfl), f243, (by rw [Lib.cell_of_heap b241]; rfl), r244⟩
              exact AllReadyH.nil
            exact AllReadyH.nil
          exact AllReadyH.nil
        exact AllReadyH.nil
      exact AllReadyH.nil
    refine AllReadyH.cons (o := { dst := some 3, op := Go.Op.alloc 51, type := 0, pos := "step.go:23", after := #[], guard := none }) rfl (fun K hK => ?_) ?_
    · skip
      go_simp
      obtain ⟨x245, e247⟩ : ∃ x, x = WD.alloc (.cells #[.nilFunc] 51) := ⟨_, rfl⟩
      have s248 : Chg WD x245 := by rw [e247]; exact (Chg.refl _).alloc _
      have b249 : x245.heap[WD.heap.size]? = some (.cells #[.nilFunc] 51 (0, 0)) := by rw [e247]; exact heap_alloc_last WD _
      have c246 := c0.trans s248
      rw [← e247]
      have z250 : WB.heap.size ≤ WD.heap.size := c0.size
      clear e247
      refine hK.out _ _ c246 (fun _ => ?_)
      clear hK K
      try simp only [Act.put, List.setIfInBounds_toArray, List.set_cons_zero, List.set_cons_succ]
      refine wpAnyH_ready (rs := [1, 5]) (by kernel_rfl) (by simp) ?_
      refine AllReadyH.cons (o := { dst := some 6, op := Go.Op.call { callee := Go.Callee.value (Go.Operand.func 34), args := #[Go.Operand.tmp 5, Go.Operand.const (Go.Value.string { data := #[100, 101, 114, 105, 118, 101, 100] })], argTypes := #[22, 9] }, type := 51, pos := "step.go:23", after := #[{ on := 0, ground := Go.Ground.data }], guard := none }) rfl (fun K hK => ?_) ?_
      · skip
        go_simp
        go_at_call 34
        refine (HL.out x245).mono ?_
        rintro e x251 ⟨v253, rfl, s254, f255⟩
        obtain ⟨a256, b257, c258, rfl⟩ := la_shape f255
        have b259 := (s254.block _ (lt_blk b249)).trans b249
        have c252 := c246.trans s254
        refine hK.out _ _ c252 (fun _ => ?_)
        clear hK K
        try simp only [Act.put, List.setIfInBounds_toArray, List.set_cons_zero, List.set_cons_succ]
        refine wpAnyH_ready (rs := [3, 5]) (by kernel_rfl) (by simp) ?_
        refine AllReadyH.cons (o := { dst := some 8, op := Go.Op.call { callee := Go.Callee.value (Go.Operand.func 21), args := #[Go.Operand.tmp 7, Go.Operand.const (Go.Value.slice none 0 0)], argTypes := #[22, 30] }, type := 23, pos := "step.go:23", after := #[{ on := 2, ground := Go.Ground.data }, { on := 1, ground := Go.Ground.chain }], guard := none }) rfl (fun K hK => ?_) ?_
        · skip
          go_simp
          go_at_call 21
          refine (HO.out x251 (HT.out.chg c252)).mono ?_
          rintro e x260 ⟨o264, m265, n266, rfl, s262, r263⟩
          have b267 := (s262.block _ (lt_blk b259)).trans b259
          have f268 := f255.chg s262
          have c261 := c252.trans s262
          refine hK.out _ _ c261 (fun _ => ?_)
          clear hK K
          try simp only [Act.put, List.setIfInBounds_toArray, List.set_cons_zero, List.set_cons_succ]
          refine wpAnyH_ready (rs := [5]) (by kernel_rfl) (by simp) ?_
          refine AllReadyH.cons (o := { dst := some 4, op := Go.Op.alloc 23, type := 0, pos := "step.go:23", after := #[], guard := none }) rfl (fun K hK => ?_) ?_
          · skip
            go_simp
            obtain ⟨x269, e271⟩ : ∃ x, x = x260.alloc (.cells #[.slice none 0 0] 23) := ⟨_, rfl⟩
            have s272 : Chg x260 x269 := by rw [e271]; exact (Chg.refl _).alloc _
            have b273 : x269.heap[x260.heap.size]? = some (.cells #[.slice none 0 0] 23 (0, 0)) := by rw [e271]; exact heap_alloc_last x260 _
            have c270 := c261.trans s272
            rw [← e271]
            have b274 := (s272.block _ (lt_blk b267)).trans b267
            have f275 := f268.chg s272
            have r276 := Rd.chg r263 s272
            have z277 : WB.heap.size ≤ x260.heap.size := c261.size
            clear e271
            refine hK.out _ _ c270 (fun _ => ?_)
            clear hK K
            try simp only [Act.put, List.setIfInBounds_toArray, List.set_cons_zero, List.set_cons_succ]
            refine wpAnyH_ready (rs := [6]) (by kernel_rfl) (by simp) ?_
            refine AllReadyH.cons (o := { dst := none, op := Go.Op.store 51 (Go.Operand.tmp 3) (Go.Operand.tmp 6), type := 0, pos := "step.go:23", after := #[{ on := 4, ground := Go.Ground.data }, { on := 1, ground := Go.Ground.data }, { on := 3, ground := Go.Ground.chain }, { on := 0, ground := Go.Ground.phase }, { on := 1, ground := Go.Ground.phase }, { on := 2, ground := Go.Ground.textOnly Go.Departure.lateStores }, { on := 3, ground := Go.Ground.textOnly Go.Departure.lateStoresUnsure }, { on := 4, ground := Go.Ground.phase }, { on := 5, ground := Go.Ground.phase }], guard := none }) rfl (fun K hK => ?_) ?_
            · skip
              have k280 : x269.cell? ⟨WD.heap.size, 0, none⟩ = some (.nilFunc) := by rw [Lib.cell_of_heap b274]; rfl
              have k281 : x269.frozen? ⟨WD.heap.size, 0, none⟩ = false := Lib.frozen_of_heap b274 0
              go_simp
              obtain ⟨x278, e282⟩ : ∃ x, x = x269.setCell ⟨WD.heap.size, 0, none⟩ (.func (.func 46) #[] #[.pointer (some ⟨a256, 0, none⟩), .pointer (some ⟨b257, 0, none⟩), .pointer (some ⟨c258, 0, none⟩)]) := ⟨_, rfl⟩
              have c279 : Chg WB x278 := by rw [e282]; exact c270.setCell z250 _
              have b283 : x278.heap[WD.heap.size]? = some (.cells #[.func (.func 46) #[] #[.pointer (some ⟨a256, 0, none⟩), .pointer (some ⟨b257, 0, none⟩), .pointer (some ⟨c258, 0, none⟩)]] 51 (0, 0)) := by rw [e282]; simp [World.setCell, Array.getElem?_modify, b274]
              have b284 : x278.heap[x260.heap.size]? = some (.cells #[.slice none 0 0] 23 (0, 0)) := by rw [e282, Below.heap_setCell _ _ _ _ (fun q => blk_ne b274 b273 (by decide) q.symm)]; exact b273
              have f285 : LA x278 (.func (.func 46) #[] #[.pointer (some ⟨a256, 0, none⟩), .pointer (some ⟨b257, 0, none⟩), .pointer (some ⟨c258, 0, none⟩)]) q sDer := by rw [e282]; exact la_set f275 b274 (by first | exact .inl rfl | exact .inr rfl) _
              have r286 : Ap.Rd x278 (.slice o264 m265 n266) (sumL q []) := by rw [e282]; exact rd_set r276 b274 (by first | exact .inl rfl | exact .inr rfl) _
              rw [← e282]
              clear e282 k280 k281
              refine hK.out _ _ c279 (fun _ => ?_)
              clear hK K
              try simp only [Act.put, List.setIfInBounds_toArray, List.set_cons_zero, List.set_cons_succ]
              refine wpAnyH_ready (rs := [7]) (by kernel_rfl) (by simp) ?_
              refine AllReadyH.cons (o := { dst := none, op := Go.Op.store 23 (Go.Operand.tmp 4) (Go.Operand.tmp 8), type := 0, pos := "step.go:23", after := #[{ on := 5, ground := Go.Ground.data }, { on := 3, ground := Go.Ground.data }, { on := 6, ground := Go.Ground.chain }, { on := 0, ground := Go.Ground.phase }, { on := 1, ground := Go.Ground.phase }, { on := 2, ground := Go.Ground.phase }, { on := 3, ground := Go.Ground.phase }, { on := 4, ground := Go.Ground.phase }, { on := 5, ground := Go.Ground.phase }, { on := 6, ground := Go.Ground.phase }], guard := none }) rfl (fun K hK => ?_) ?_
              · skip
                have k289 : x278.cell? ⟨x260.heap.size, 0, none⟩ = some (.slice none 0 0) := by rw [Lib.cell_of_heap b284]; rfl
                have k290 : x278.frozen? ⟨x260.heap.size, 0, none⟩ = false := Lib.frozen_of_heap b284 0
                go_simp
                obtain ⟨x287, e291⟩ : ∃ x, x = x278.setCell ⟨x260.heap.size, 0, none⟩ (.slice o264 m265 n266) := ⟨_, rfl⟩
                have c288 : Chg WB x287 := by rw [e291]; exact c279.setCell z277 _
                have b292 : x287.heap[x260.heap.size]? = some (.cells #[.slice o264 m265 n266] 23 (0, 0)) := by rw [e291]; simp [World.setCell, Array.getElem?_modify, b284]
                have b293 : x287.heap[WD.heap.size]? = some (.cells #[.func (.func 46) #[] #[.pointer (some ⟨a256, 0, none⟩), .pointer (some ⟨b257, 0, none⟩), .pointer (some ⟨c258, 0, none⟩)]] 51 (0, 0)) := by rw [e291, Below.heap_setCell _ _ _ _ (fun q => blk_ne b284 b283 (by decide) q.symm)]; exact b283
                have f294 : LA x287 (.func (.func 46) #[] #[.pointer (some ⟨a256, 0, none⟩), .pointer (some ⟨b257, 0, none⟩), .pointer (some ⟨c258, 0, none⟩)]) q sDer := by rw [e291]; exact la_set f285 b284 (by first | exact .inl rfl | exact .inr rfl) _
                have r295 : Ap.Rd x287 (.slice o264 m265 n266) (sumL q []) := by rw [e291]; exact rd_set r286 b284 (by first | exact .inl rfl | exact .inr rfl) _
                rw [← e291]
                clear e291 k289 k290
                refine hK.out _ _ c288 (fun _ => ?_)
                clear hK K
                try simp only [Act.put, List.setIfInBounds_toArray, List.set_cons_zero, List.set_cons_succ]
                refine wpAnyH_done (by kernel_rfl) ?_ _
                go_wp2_with fail
                go_meet
                case rel => exact ⟨WD.heap.size, x260.heap.size, _, _, _, _, rfl, rfl, c288, (by rw [Lib.cell_of_heap b293]; rfl), f294, (by rw [Lib.cell_of_heap b292]; rfl), r295⟩
              exact AllReadyH.nil
            exact AllReadyH.nil
          exact AllReadyH.nil
        refine AllReadyH.cons (o := { dst := some 4, op := Go.Op.alloc 23, type := 0, pos := "step.go:23", after := #[], guard := none }) rfl (fun K hK => ?_) ?_
        · skip
          go_simp
          obtain ⟨x296, e298⟩ : ∃ x, x = x251.alloc (.cells #[.slice none 0 0] 23) := ⟨_, rfl⟩
          have s299 : Chg x251 x296 := by rw [e298]; exact (Chg.refl _).alloc _
          have b300 : x296.heap[x251.heap.size]? = some (.cells #[.slice none 0 0] 23 (0, 0)) := by rw [e298]; exact heap_alloc_last x251 _
          have c297 := c252.trans s299
          rw [← e298]
          have b301 := (s299.block _ (lt_blk b259)).trans b259
          have f302 := f255.chg s299
          have z303 : WB.heap.size ≤ x251.heap.size := c252.size
          clear e298
          refine hK.out _ _ c297 (fun _ => ?_)
          clear hK K
          try simp only [Act.put, List.setIfInBounds_toArray, List.set_cons_zero, List.set_cons_succ]
          refine wpAnyH_ready (rs := [3]) (by kernel_rfl) (by simp) ?_
          refine AllReadyH.cons (o := { dst := some 8, op := Go.Op.call { callee := Go.Callee.value (Go.Operand.func 21), args := #[Go.Operand.tmp 7, Go.Operand.const (Go.Value.slice none 0 0)], argTypes := #[22, 30] }, type := 23, pos := "step.go:23", after := #[{ on := 2, ground := Go.Ground.data }, { on := 1, ground := Go.Ground.chain }], guard := none }) rfl (fun K hK => ?_) ?_
          · skip
            go_simp
            go_at_call 21
            refine (HO.out x296 (HT.out.chg c297)).mono ?_
            rintro e x304 ⟨o308, m309, n310, rfl, s306, r307⟩
            have b311 := (s306.block _ (lt_blk b301)).trans b301
            have b312 := (s306.block _ (lt_blk b300)).trans b300
            have f313 := f302.chg s306
            have c305 := c297.trans s306
            refine hK.out _ _ c305 (fun _ => ?_)
            clear hK K
            try simp only [Act.put, List.setIfInBounds_toArray, List.set_cons_zero, List.set_cons_succ]
            refine wpAnyH_ready (rs := [6]) (by kernel_rfl) (by simp) ?_
            refine AllReadyH.cons (o := { dst := none, op := Go.Op.store 51 (Go.Operand.tmp 3) (Go.Operand.tmp 6), type := 0, pos := "step.go:23", after := #[{ on := 4, ground := Go.Ground.data }, { on := 1, ground := Go.Ground.data }, { on := 3, ground := Go.Ground.chain }, { on := 0, ground := Go.Ground.phase }, { on := 1, ground := Go.Ground.phase }, { on := 2, ground := Go.Ground.textOnly Go.Departure.lateStores }, { on := 3, ground := Go.Ground.textOnly Go.Departure.lateStoresUnsure }, { on := 4, ground := Go.Ground.phase }, { on := 5, ground := Go.Ground.phase }], guard := none }) rfl (fun K hK => ?_) ?_
            · skip
              have k316 : x304.cell? ⟨WD.heap.size, 0, none⟩ = some (.nilFunc) := by rw [Lib.cell_of_heap b311]; rfl
              have k317 : x304.frozen? ⟨WD.heap.size, 0, none⟩ = false := Lib.frozen_of_heap b311 0
              go_simp
              obtain ⟨x314, e318⟩ : ∃ x, x = x304.setCell ⟨WD.heap.size, 0, none⟩ (.func (.func 46) #[] #[.pointer (some ⟨a256, 0, none⟩), .pointer (some ⟨b257, 0, none⟩), .pointer (some ⟨c258, 0, none⟩)]) := ⟨_, rfl⟩
              have c315 : Chg WB x314 := by rw [e318]; exact c305.setCell z250 _
              have b319 : x314.heap[WD.heap.size]? = some (.cells #[.func (.func 46) #[] #[.pointer (some ⟨a256, 0, none⟩), .pointer (some ⟨b257, 0, none⟩), .pointer (some ⟨c258, 0, none⟩)]] 51 (0, 0)) := by rw [e318]; simp [World.setCell, Array.getElem?_modify, b311]
              have b320 : x314.heap[x251.heap.size]? = some (.cells #[.slice none 0 0] 23 (0, 0)) := by rw [e318, Below.heap_setCell _ _ _ _ (fun q => blk_ne b311 b312 (by decide) q.symm)]; exact b312
              have f321 : LA x314 (.func (.func 46) #[] #[.pointer (some ⟨a256, 0, none⟩), .pointer (some ⟨b257, 0, none⟩), .pointer (some ⟨c258, 0, none⟩)]) q sDer := by rw [e318]; exact la_set f313 b311 (by first | exact .inl rfl | exact .inr rfl) _
              have r322 : Ap.Rd x314 (.slice o308 m309 n310) (sumL q []) := by rw [e318]; exact rd_set r307 b311 (by first | exact .inl rfl | exact .inr rfl) _
              rw [← e318]
              clear e318 k316 k317
              refine hK.out _ _ c315 (fun _ => ?_)
              clear hK K
              try simp only [Act.put, List.setIfInBounds_toArray, List.set_cons_zero, List.set_cons_succ]
              refine wpAnyH_ready (rs := [7]) (by kernel_rfl) (by simp) ?_
              refine AllReadyH.cons (o := { dst := none, op := Go.Op.store 23 (Go.Operand.tmp 4) (Go.Operand.tmp 8), type := 0, pos := "step.go:23", after := #[{ on := 5, ground := Go.Ground.data }, { on := 3, ground := Go.Ground.data }, { on := 6, ground := Go.Ground.chain }, { on := 0, ground := Go.Ground.phase }, { on := 1, ground := Go.Ground.phase }, { on := 2, ground := Go.Ground.phase }, { on := 3, ground := Go.Ground.phase }, { on := 4, ground := Go.Ground.phase }, { on := 5, ground := Go.Ground.phase }, { on := 6, ground := Go.Ground.phase }], guard := none }) rfl (fun K hK => ?_) ?_
              · skip
                have k325 : x314.cell? ⟨x251.heap.size, 0, none⟩ = some (.slice none 0 0) := by rw [Lib.cell_of_heap b320]; rfl
                have k326 : x314.frozen? ⟨x251.heap.size, 0, none⟩ = false := Lib.frozen_of_heap b320 0
                go_simp
                obtain ⟨x323, e327⟩ : ∃ x, x = x314.setCell ⟨x251.heap.size, 0, none⟩ (.slice o308 m309 n310) := ⟨_, rfl⟩
                have c324 : Chg WB x323 := by rw [e327]; exact c315.setCell z303 _
                have b328 : x323.heap[x251.heap.size]? = some (.cells #[.slice o308 m309 n310] 23 (0, 0)) := by rw [e327]; simp [World.setCell, Array.getElem?_modify, b320]
                have b329 : x323.heap[WD.heap.size]? = some (.cells #[.func (.func 46) #[] #[.pointer (some ⟨a256, 0, none⟩), .pointer (some ⟨b257, 0, none⟩), .pointer (some ⟨c258, 0, none⟩)]] 51 (0, 0)) := by rw [e327, Below.heap_setCell _ _ _ _ (fun q => blk_ne b320 b319 (by decide) q.symm)]; exact b319
                have f330 : LA x323 (.func (.func 46) #[] #[.pointer (some ⟨a256, 0, none⟩), .pointer (some ⟨b257, 0, none⟩), .pointer (some ⟨c258, 0, none⟩)]) q sDer := by rw [e327]; exact la_set f321 b320 (by first | exact .inl rfl | exact .inr rfl) _
                have r331 : Ap.Rd x323 (.slice o308 m309 n310) (sumL q []) := by rw [e327]; exact rd_set r322 b320 (by first | exact .inl rfl | exact .inr rfl) _
                rw [← e327]
                clear e327 k325 k326
                refine hK.out _ _ c324 (fun _ => ?_)
                clear hK K
                try simp only [Act.put, List.setIfInBounds_toArray, List.set_cons_zero, List.set_cons_succ]
                refine wpAnyH_done (by kernel_rfl) ?_ _
                go_wp2_with fail
                go_meet
                case rel => exact ⟨WD.heap.size, x251.heap.size, _, _, _, _, rfl, rfl, c324, (by rw [Lib.cell_of_heap b329]; rfl), f330, (by rw [Lib.cell_of_heap b328]; rfl), r331⟩
              exact AllReadyH.nil
            exact AllReadyH.nil
          exact AllReadyH.nil
        exact AllReadyH.nil
      refine AllReadyH.cons (o := { dst := some 4, op := Go.Op.alloc 23, type := 0, pos := "step.go:23", after := #[], guard := none }) rfl (fun K hK => ?_) ?_
      · skip
        go_simp
        obtain ⟨x332, e334⟩ : ∃ x, x = x245.alloc (.cells #[.slice none 0 0] 23) := ⟨_, rfl⟩
        have s335 : Chg x245 x332 := by rw [e334]; exact (Chg.refl _).alloc _
        have b336 : x332.heap[x245.heap.size]? = some (.cells #[.slice none 0 0] 23 (0, 0)) := by rw [e334]; exact heap_alloc_last x245 _
        have c333 := c246.trans s335
        rw [← e334]
        have b337 := (s335.block _ (lt_blk b249)).trans b249
        have z338 : WB.heap.size ≤ x245.heap.size := c246.size
        clear e334
        refine hK.out _ _ c333 (fun _ => ?_)
        clear hK K
        try simp only [Act.put, List.setIfInBounds_toArray, List.set_cons_zero, List.set_cons_succ]
        refine wpAnyH_ready (rs := [1]) (by kernel_rfl) (by simp) ?_
        refine AllReadyH.cons (o := { dst := some 6, op := Go.Op.call { callee := Go.Callee.value (Go.Operand.func 34), args := #[Go.Operand.tmp 5, Go.Operand.const (Go.Value.string { data := #[100, 101, 114, 105, 118, 101, 100] })], argTypes := #[22, 9] }, type := 51, pos := "step.go:23", after := #[{ on := 0, ground := Go.Ground.data }], guard := none }) rfl (fun K hK => ?_) ?_
        · skip
          go_simp
          go_at_call 34
          refine (HL.out x332).mono ?_
          rintro e x339 ⟨v341, rfl, s342, f343⟩
          obtain ⟨a344, b345, c346, rfl⟩ := la_shape f343
          have b347 := (s342.block _ (lt_blk b337)).trans b337
          have b348 := (s342.block _ (lt_blk b336)).trans b336
          have c340 := c333.trans s342
          refine hK.out _ _ c340 (fun _ => ?_)
          clear hK K
          try simp only [Act.put, List.setIfInBounds_toArray, List.set_cons_zero, List.set_cons_succ]
          refine wpAnyH_ready (rs := [3]) (by kernel_rfl) (by simp) ?_
          refine AllReadyH.cons (o := { dst := some 8, op := Go.Op.call { callee := Go.Callee.value (Go.Operand.func 21), args := #[Go.Operand.tmp 7, Go.Operand.const (Go.Value.slice none 0 0)], argTypes := #[22, 30] }, type := 23, pos := "step.go:23", after := #[{ on := 2, ground := Go.Ground.data }, { on := 1, ground := Go.Ground.chain }], guard := none }) rfl (fun K hK => ?_) ?_
          · skip
            go_simp
            go_at_call 21
            refine (HO.out x339 (HT.out.chg c340)).mono ?_
            rintro e x349 ⟨o353, m354, n355, rfl, s351, r352⟩
            have b356 := (s351.block _ (lt_blk b347)).trans b347
            have b357 := (s351.block _ (lt_blk b348)).trans b348
            have f358 := f343.chg s351
            have c350 := c340.trans s351
            refine hK.out _ _ c350 (fun _ => ?_)
            clear hK K
            try simp only [Act.put, List.setIfInBounds_toArray, List.set_cons_zero, List.set_cons_succ]
            refine wpAnyH_ready (rs := [6]) (by kernel_rfl) (by simp) ?_
            refine AllReadyH.cons (o := { dst := none, op := Go.Op.store 51 (Go.Operand.tmp 3) (Go.Operand.tmp 6), type := 0, pos := "step.go:23", after := #[{ on := 4, ground := Go.Ground.data }, { on := 1, ground := Go.Ground.data }, { on := 3, ground := Go.Ground.chain }, { on := 0, ground := Go.Ground.phase }, { on := 1, ground := Go.Ground.phase }, { on := 2, ground := Go.Ground.textOnly Go.Departure.lateStores }, { on := 3, ground := Go.Ground.textOnly Go.Departure.lateStoresUnsure }, { on := 4, ground := Go.Ground.phase }, { on := 5, ground := Go.Ground.phase }], guard := none }) rfl (fun K hK => ?_) ?_
            · skip
              have k361 : x349.cell? ⟨WD.heap.size, 0, none⟩ = some (.nilFunc) := by rw [Lib.cell_of_heap b356]; rfl
              have k362 : x349.frozen? ⟨WD.heap.size, 0, none⟩ = false := Lib.frozen_of_heap b356 0
              go_simp
              obtain ⟨x359, e363⟩ : ∃ x, x = x349.setCell ⟨WD.heap.size, 0, none⟩ (.func (.func 46) #[] #[.pointer (some ⟨a344, 0, none⟩), .pointer (some ⟨b345, 0, none⟩), .pointer (some ⟨c346, 0, none⟩)]) := ⟨_, rfl⟩
              have c360 : Chg WB x359 := by rw [e363]; exact c350.setCell z250 _
              have b364 : x359.heap[WD.heap.size]? = some (.cells #[.func (.func 46) #[] #[.pointer (some ⟨a344, 0, none⟩), .pointer (some ⟨b345, 0, none⟩), .pointer (some ⟨c346, 0, none⟩)]] 51 (0, 0)) := by rw [e363]; simp [World.setCell, Array.getElem?_modify, b356]
              have b365 : x359.heap[x245.heap.size]? = some (.cells #[.slice none 0 0] 23 (0, 0)) := by rw [e363, Below.heap_setCell _ _ _ _ (fun q => blk_ne b356 b357 (by decide) q.symm)]; exact b357
              have f366 : LA x359 (.func (.func 46) #[] #[.pointer (some ⟨a344, 0, none⟩), .pointer (some ⟨b345, 0, none⟩), .pointer (some ⟨c346, 0, none⟩)]) q sDer := by rw [e363]; exact la_set f358 b356 (by first | exact .inl rfl | exact .inr rfl) _
              have r367 : Ap.Rd x359 (.slice o353 m354 n355) (sumL q []) := by rw [e363]; exact rd_set r352 b356 (by first | exact .inl rfl | exact .inr rfl) _
              rw [← e363]
              clear e363 k361 k362
              refine hK.out _ _ c360 (fun _ => ?_)
              clear hK K
              try simp only [Act.put, List.setIfInBounds_toArray, List.set_cons_zero, List.set_cons_succ]
              refine wpAnyH_ready (rs := [7]) (by kernel_rfl) (by simp) ?_
              refine AllReadyH.cons (o := { dst := none, op := Go.Op.store 23 (Go.Operand.tmp 4) (Go.Operand.tmp 8), type := 0, pos := "step.go:23", after := #[{ on := 5, ground := Go.Ground.data }, { on := 3, ground := Go.Ground.data }, { on := 6, ground := Go.Ground.chain }, { on := 0, ground := Go.Ground.phase }, { on := 1, ground := Go.Ground.phase }, { on := 2, ground := Go.Ground.phase }, { on := 3, ground := Go.Ground.phase }, { on := 4, ground := Go.Ground.phase }, { on := 5, ground := Go.Ground.phase }, { on := 6, ground := Go.Ground.phase }], guard := none }) rfl (fun K hK => ?_) ?_
              · skip
                have k370 : x359.cell? ⟨x245.heap.size, 0, none⟩ = some (.slice none 0 0) := by rw [Lib.cell_of_heap b365]; rfl
                have k371 : x359.frozen? ⟨x245.heap.size, 0, none⟩ = false := Lib.frozen_of_heap b365 0
                go_simp
                obtain ⟨x368, e372⟩ : ∃ x, x = x359.setCell ⟨x245.heap.size, 0, none⟩ (.slice o353 m354 n355) := ⟨_, rfl⟩
                have c369 : Chg WB x368 := by rw [e372]; exact c360.setCell z338 _
                have b373 : x368.heap[x245.heap.size]? = some (.cells #[.slice o353 m354 n355] 23 (0, 0)) := by rw [e372]; simp [World.setCell, Array.getElem?_modify, b365]
                have b374 : x368.heap[WD.heap.size]? = some (.cells #[.func (.func 46) #[] #[.pointer (some ⟨a344, 0, none⟩), .pointer (some ⟨b345, 0, none⟩), .pointer (some ⟨c346, 0, none⟩)]] 51 (0, 0)) := by rw [e372, Below.heap_setCell _ _ _ _ (fun q => blk_ne b365 b364 (by decide) q.symm)]; exact b364
                have f375 : LA x368 (.func (.func 46) #[] #[.pointer (some ⟨a344, 0, none⟩), .pointer (some ⟨b345, 0, none⟩), .pointer (some ⟨c346, 0, none⟩)]) q sDer := by rw [e372]; exact la_set f366 b365 (by first | exact .inl rfl | exact .inr rfl) _
                have r376 : Ap.Rd x368 (.slice o353 m354 n355) (sumL q []) := by rw [e372]; exact rd_set r367 b365 (by first | exact .inl rfl | exact .inr rfl) _
                rw [← e372]
                clear e372 k370 k371
                refine hK.out _ _ c369 (fun _ => ?_)
                clear hK K
                try simp only [Act.put, List.setIfInBounds_toArray, List.set_cons_zero, List.set_cons_succ]
                refine wpAnyH_done (by kernel_rfl) ?_ _
                go_wp2_with fail
                go_meet
                case rel => exact ⟨WD.heap.size, x245.heap.size, _, _, _, _, rfl, rfl, c369, (by rw [Lib.cell_of_heap b374]; rfl), f375, (by rw [Lib.cell_of_heap b373]; rfl), r376⟩
              exact AllReadyH.nil
            exact AllReadyH.nil
          exact AllReadyH.nil
        exact AllReadyH.nil
      exact AllReadyH.nil
    refine AllReadyH.cons (o := { dst := some 4, op := Go.Op.alloc 23, type := 0, pos := "step.go:23", after := #[], guard := none }) rfl (fun K hK => ?_) ?_
    · skip
      go_simp
      obtain ⟨x377, e379⟩ : ∃ x, x = WD.alloc (.cells #[.slice none 0 0] 23) := ⟨_, rfl⟩
      have s380 : Chg WD x377 := by rw [e379]; exact (Chg.refl _).alloc _
      have b381 : x377.heap[WD.heap.size]? = some (.cells #[.slice none 0 0] 23 (0, 0)) := by rw [e379]; exact heap_alloc_last WD _
      have c378 := c0.trans s380
      rw [← e379]
      have z382 : WB.heap.size ≤ WD.heap.size := c0.size
      clear e379
      refine hK.out _ _ c378 (fun _ => ?_)
      clear hK K
      try simp only [Act.put, List.setIfInBounds_toArray, List.set_cons_zero, List.set_cons_succ]
      refine wpAnyH_ready (rs := [1, 4]) (by kernel_rfl) (by simp) ?_
      refine AllReadyH.cons (o := { dst := some 6, op := Go.Op.call { callee := Go.Callee.value (Go.Operand.func 34), args := #[Go.Operand.tmp 5, Go.Operand.const (Go.Value.string { data := #[100, 101, 114, 105, 118, 101, 100] })], argTypes := #[22, 9] }, type := 51, pos := "step.go:23", after := #[{ on := 0, ground := Go.Ground.data }], guard := none }) rfl (fun K hK => ?_) ?_
      · skip
        go_simp
        go_at_call 34
        refine (HL.out x377).mono ?_
        rintro e x383 ⟨v385, rfl, s386, f387⟩
        obtain ⟨a388, b389, c390, rfl⟩ := la_shape f387
        have b391 := (s386.block _ (lt_blk b381)).trans b381
        have c384 := c378.trans s386
        refine hK.out _ _ c384 (fun _ => ?_)
        clear hK K
        try simp only [Act.put, List.setIfInBounds_toArray, List.set_cons_zero, List.set_cons_succ]
        refine wpAnyH_ready (rs := [3, 4]) (by kernel_rfl) (by simp) ?_
        refine AllReadyH.cons (o := { dst := some 8, op := Go.Op.call { callee := Go.Callee.value (Go.Operand.func 21), args := #[Go.Operand.tmp 7, Go.Operand.const (Go.Value.slice none 0 0)], argTypes := #[22, 30] }, type := 23, pos := "step.go:23", after := #[{ on := 2, ground := Go.Ground.data }, { on := 1, ground := Go.Ground.chain }], guard := none }) rfl (fun K hK => ?_) ?_
        · skip
          go_simp
          go_at_call 21
          refine (HO.out x383 (HT.out.chg c384)).mono ?_
          rintro e x392 ⟨o396, m397, n398, rfl, s394, r395⟩
          have b399 := (s394.block _ (lt_blk b391)).trans b391
          have f400 := f387.chg s394
          have c393 := c384.trans s394
          refine hK.out _ _ c393 (fun _ => ?_)
          clear hK K
          try simp only [Act.put, List.setIfInBounds_toArray, List.set_cons_zero, List.set_cons_succ]
          refine wpAnyH_ready (rs := [4]) (by kernel_rfl) (by simp) ?_
          refine AllReadyH.cons (o := { dst := some 3, op := Go.Op.alloc 51, type := 0, pos := "step.go:23", after := #[], guard := none }) rfl (fun K hK => ?_) ?_
          · skip
            go_simp
            obtain ⟨x401, e403⟩ : ∃ x, x = x392.alloc (.cells #[.nilFunc] 51) := ⟨_, rfl⟩
            have s404 : Chg x392 x401 := by rw [e403]; exact (Chg.refl _).alloc _
            have b405 : x401.heap[x392.heap.size]? = some (.cells #[.nilFunc] 51 (0, 0)) := by rw [e403]; exact heap_alloc_last x392 _
            have c402 := c393.trans s404
            rw [← e403]
            have b406 := (s404.block _ (lt_blk b399)).trans b399
            have f407 := f400.chg s404
            have r408 := Rd.chg r395 s404
            have z409 : WB.heap.size ≤ x392.heap.size := c393.size
            clear e403
            refine hK.out _ _ c402 (fun _ => ?_)
            clear hK K
            try simp only [Act.put, List.setIfInBounds_toArray, List.set_cons_zero, List.set_cons_succ]
            refine wpAnyH_ready (rs := [6]) (by kernel_rfl) (by simp) ?_
            refine AllReadyH.cons (o := { dst := none, op := Go.Op.store 51 (Go.Operand.tmp 3) (Go.Operand.tmp 6), type := 0, pos := "step.go:23", after := #[{ on := 4, ground := Go.Ground.data }, { on := 1, ground := Go.Ground.data }, { on := 3, ground := Go.Ground.chain }, { on := 0, ground := Go.Ground.phase }, { on := 1, ground := Go.Ground.phase }, { on := 2, ground := Go.Ground.textOnly Go.Departure.lateStores }, { on := 3, ground := Go.Ground.textOnly Go.Departure.lateStoresUnsure }, { on := 4, ground := Go.Ground.phase }, { on := 5, ground := Go.Ground.phase }], guard := none }) rfl (fun K hK => ?_) ?_
            · skip
              have k412 : x401.cell? ⟨x392.heap.size, 0, none⟩ = some (.nilFunc) := by rw [Lib.cell_of_heap b405]; rfl
              have k413 : x401.frozen? ⟨x392.heap.size, 0, none⟩ = false := Lib.frozen_of_heap b405 0
              go_simp
              obtain ⟨x410, e414⟩ : ∃ x, x = x401.setCell ⟨x392.heap.size, 0, none⟩ (.func (.func 46) #[] #[.pointer (some ⟨a388, 0, none⟩), .pointer (some ⟨b389, 0, none⟩), .pointer (some ⟨c390, 0, none⟩)]) := ⟨_, rfl⟩
              have c411 : Chg WB x410 := by rw [e414]; exact c402.setCell z409 _
              have b415 : x410.heap[x392.heap.size]? = some (.cells #[.func (.func 46) #[] #[.pointer (some ⟨a388, 0, none⟩), .pointer (some ⟨b389, 0, none⟩), .pointer (some ⟨c390, 0, none⟩)]] 51 (0, 0)) := by rw [e414]; simp [World.setCell, Array.getElem?_modify, b405]
              have b416 : x410.heap[WD.heap.size]? = some (.cells #[.slice none 0 0] 23 (0, 0)) := by rw [e414, Below.heap_setCell _ _ _ _ (fun q => blk_ne b405 b406 (by decide) q.symm)]; exact b406
              have f417 : LA x410 (.func (.func 46) #[] #[.pointer (some ⟨a388, 0, none⟩), .pointer (some ⟨b389, 0, none⟩), .pointer (some ⟨c390, 0, none⟩)]) q sDer := by rw [e414]; exact la_set f407 b405 (by first | exact .inl rfl | exact .inr rfl) _
              have r418 : Ap.Rd x410 (.slice o396 m397 n398) (sumL q []) := by rw [e414]; exact rd_set r408 b405 (by first | exact .inl rfl | exact .inr rfl) _
              rw [← e414]
              clear e414 k412 k413
              refine hK.out _ _ c411 (fun _ => ?_)
              clear hK K
              try simp only [Act.put, List.setIfInBounds_toArray, List.set_cons_zero, List.set_cons_succ]
              refine wpAnyH_ready (rs := [7]) (by kernel_rfl) (by simp) ?_
              refine AllReadyH.cons (o := { dst := none, op := Go.Op.store 23 (Go.Operand.tmp 4) (Go.Operand.tmp 8), type := 0, pos := "step.go:23", after := #[{ on := 5, ground := Go.Ground.data }, { on := 3, ground := Go.Ground.data }, { on := 6, ground := Go.Ground.chain }, { on := 0, ground := Go.Ground.phase }, { on := 1, ground := Go.Ground.phase }, { on := 2, ground := Go.Ground.phase }, { on := 3, ground := Go.Ground.phase }, { on := 4, ground := Go.Ground.phase }, { on := 5, ground := Go.Ground.phase }, { on := 6, ground := Go.Ground.phase }], guard := none }) rfl (fun K hK => ?_) ?_
              · skip
                have k421 : x410.cell? ⟨WD.heap.size, 0, none⟩ = some (.slice none 0 0) := by rw [Lib.cell_of_heap b416]; rfl
                have k422 : x410.frozen? ⟨WD.heap.size, 0, none⟩ = false := Lib.frozen_of_heap b416 0
                go_simp
                obtain ⟨x419, e423⟩ : ∃ x, x = x410.setCell ⟨WD.heap.size, 0, none⟩ (.slice o396 m397 n398) := ⟨_, rfl⟩
                have c420 : Chg WB x419 := by rw [e423]; exact c411.setCell z382 _
                have b424 : x419.heap[WD.heap.size]? = some (.cells #[.slice o396 m397 n398] 23 (0, 0)) := by rw [e423]; simp [World.setCell, Array.getElem?_modify, b416]
                have b425 : x419.heap[x392.heap.size]? = some (.cells #[.func (.func 46) #[] #[.pointer (some ⟨a388, 0, none⟩), .pointer (some ⟨b389, 0, none⟩), .pointer (some ⟨c390, 0, none⟩)]] 51 (0, 0)) := by rw [e423, Below.heap_setCell _ _ _ _ (fun q => blk_ne b416 b415 (by decide) q.symm)]; exact b415
                have f426 : LA x419 (.func (.func 46) #[] #[.pointer (some ⟨a388, 0, none⟩), .pointer (some ⟨b389, 0, none⟩), .pointer (some ⟨c390, 0, none⟩)]) q sDer := by rw [e423]; exact la_set f417 b416 (by first | exact .inl rfl | exact .inr rfl) _
                have r427 : Ap.Rd x419 (.slice o396 m397 n398) (sumL q []) := by rw [e423]; exact rd_set r418 b416 (by first | exact .inl rfl | exact .inr rfl) _
                rw [← e423]
                clear e423 k421 k422
                refine hK.out _ _ c420 (fun _ => ?_)
                clear hK K
                try simp only [Act.put, List.setIfInBounds_toArray, List.set_cons_zero, List.set_cons_succ]
                refine wpAnyH_done (by kernel_rfl) ?_ _
                go_wp2_with fail
                go_meet
                case rel => exact ⟨x392.heap.size, WD.heap.size, _, _, _, _, rfl, rfl, c420, (by rw [Lib.cell_of_heap b425]; rfl), f426, (by rw [Lib.cell_of_heap b424]; rfl), r427⟩
              exact AllReadyH.nil
            exact AllReadyH.nil
          exact AllReadyH.nil
        refine AllReadyH.cons (o := { dst := some 3, op := Go.Op.alloc 51, type := 0, pos := "step.go:23", after := #[], guard := none }) rfl (fun K hK => ?_) ?_
        · skip
          go_simp
          obtain ⟨x428, e430⟩ : ∃ x, x = x383.alloc (.cells #[.nilFunc] 51) := ⟨_, rfl⟩
          have s431 : Chg x383 x428 := by rw [e430]; exact (Chg.refl _).alloc _
          have b432 : x428.heap[x383.heap.size]? = some (.cells #[.nilFunc] 51 (0, 0)) := by rw [e430]; exact heap_alloc_last x383 _
          have c429 := c384.trans s431
          rw [← e430]
          have b433 := (s431.block _ (lt_blk b391)).trans b391
          have f434 := f387.chg s431
          have z435 : WB.heap.size ≤ x383.heap.size := c384.size
          clear e430
          refine hK.out _ _ c429 (fun _ => ?_)
          clear hK K
          try simp only [Act.put, List.setIfInBounds_toArray, List.set_cons_zero, List.set_cons_succ]
          refine wpAnyH_ready (rs := [3]) (by kernel_rfl) (by simp) ?_
          refine AllReadyH.cons (o := { dst := some 8, op := Go.Op.call { callee := Go.Callee.value (Go.Operand.func 21), args := #[Go.Operand.tmp 7, Go.Operand.const (Go.Value.slice none 0 0)], argTypes := #[22, 30] }, type := 23, pos := "step.go:23", after := #[{ on := 2, ground := Go.Ground.data }, { on := 1, ground := Go.Ground.chain }], guard := none }) rfl (fun K hK => ?_) ?_
          · skip
            go_simp
            go_at_call 21
            refine (HO.out x428 (HT.out.chg c429)).mono ?_
            rintro e x436 ⟨o440, m441, n442, rfl, s438, r439⟩
            have b443 := (s438.block _ (lt_blk b432)).trans b432
            have b444 := (s438.block _ (lt_blk b433)).trans b433
            have f445 := f434.chg s438
            have c437 := c429.trans s438
            refine hK.out _ _ c437 (fun _ => ?_)
            clear hK K
            try simp only [Act.put, List.setIfInBounds_toArray, List.set_cons_zero, List.set_cons_succ]
            refine wpAnyH_ready (rs := [6]) (by kernel_rfl) (by simp) ?_
            refine AllReadyH.cons (o := { dst := none, op := Go.Op.store 51 (Go.Operand.tmp 3) (Go.Operand.tmp 6), type := 0, pos := "step.go:23", after := #[{ on := 4, ground := Go.Ground.data }, { on := 1, ground := Go.Ground.data }, { on := 3, ground := Go.Ground.chain }, { on := 0, ground := Go.Ground.phase }, { on := 1, ground := Go.Ground.phase }, { on := 2, ground := Go.Ground.textOnly Go.Departure.lateStores }, { on := 3, ground := Go.Ground.textOnly Go.Departure.lateStoresUnsure }, { on := 4, ground := Go.Ground.phase }, { on := 5, ground := Go.Ground.phase }], guard := none }) rfl (fun K hK => ?_) ?_
            · skip
              have k448 : x436.cell? ⟨x383.heap.size, 0, none⟩ = some (.nilFunc) := by rw [Lib.cell_of_heap b443]; rfl
              have k449 : x436.frozen? ⟨x383.heap.size, 0, none⟩ = false := Lib.frozen_of_heap b443 0
              go_simp
              obtain ⟨x446, e450⟩ : ∃ x, x = x436.setCell ⟨x383.heap.size, 0, none⟩ (.func (.func 46) #[] #[.pointer (some ⟨a388, 0, none⟩), .pointer (some ⟨b389, 0, none⟩), .pointer (some ⟨c390, 0, none⟩)]) := ⟨_, rfl⟩
              have c447 : Chg WB x446 := by rw [e450]; exact c437.setCell z435 _
              have b451 : x446.heap[x383.heap.size]? = some (.cells #[.func (.func 46) #[] #[.pointer (some ⟨a388, 0, none⟩), .pointer (some ⟨b389, 0, none⟩), .pointer (some ⟨c390, 0, none⟩)]] 51 (0, 0)) := by rw [e450]; simp [World.setCell, Array.getElem?_modify, b443]
              have b452 : x446.heap[WD.heap.size]? = some (.cells #[.slice none 0 0] 23 (0, 0)) := by rw [e450, Below.heap_setCell _ _ _ _ (fun q => blk_ne b443 b444 (by decide) q.symm)]; exact b444
              have f453 : LA x446 (.func (.func 46) #[] #[.pointer (some ⟨a388, 0, none⟩), .pointer (some ⟨b389, 0, none⟩), .pointer (some ⟨c390, 0, none⟩)]) q sDer := by rw [e450]; exact la_set f445 b443 (by first | exact .inl rfl | exact .inr rfl) _
              have r454 : Ap.Rd x446 (.slice o440 m441 n442) (sumL q []) := by rw [e450]; exact rd_set r439 b443 (by first | exact .inl rfl | exact .inr rfl) _
              rw [← e450]
              clear e450 k448 k449
              refine hK.out _ _ c447 (fun _ => ?_)
              clear hK K
              try simp only [Act.put, List.setIfInBounds_toArray, List.set_cons_zero, List.set_cons_succ]
              refine wpAnyH_ready (rs := [7]) (by kernel_rfl) (by simp) ?_
              refine AllReadyH.cons (o := { dst := none, op := Go.Op.store 23 (Go.Operand.tmp 4) (Go.Operand.tmp 8), type := 0, pos := "step.go:23", after := #[{ on := 5, ground := Go.Ground.data }, { on := 3, ground := Go.Ground.data }, { on := 6, ground := Go.Ground.chain }, { on := 0, ground := Go.Ground.phase }, { on := 1, ground := Go.Ground.phase }, { on := 2, ground := Go.Ground.phase }, { on := 3, ground := Go.Ground.phase }, { on := 4, ground := Go.Ground.phase }, { on := 5, ground := Go.Ground.phase }, { on := 6, ground := Go.Ground.phase }], guard := none }) rfl (fun K hK => ?_) ?_
              · skip
                have k457 : x446.cell? ⟨WD.heap.size, 0, none⟩ = some (.slice none 0 0) := by rw [Lib.cell_of_heap b452]; rfl
                have k458 : x446.frozen? ⟨WD.heap.size, 0, none⟩ = false := Lib.frozen_of_heap b452 0
                go_simp
                obtain ⟨x455, e459⟩ : ∃ x, x = x446.setCell ⟨WD.heap.size, 0, none⟩ (.slice o440 m441 n442) := ⟨_, rfl⟩
                have c456 : Chg WB x455 := by rw [e459]; exact c447.setCell z382 _
                have b460 : x455.heap[WD.heap.size]? = some (.cells #[.slice o440 m441 n442] 23 (0, 0)) := by rw [e459]; simp [World.setCell, Array.getElem?_modify, b452]
                have b461 : x455.heap[x383.heap.size]? = some (.cells #[.func (.func 46) #[] #[.pointer (some ⟨a388, 0, none⟩), .pointer (some ⟨b389, 0, none⟩), .pointer (some ⟨c390, 0, none⟩)]] 51 (0, 0)) := by rw [e459, Below.heap_setCell _ _ _ _ (fun q => blk_ne b452 b451 (by decide) q.symm)]; exact b451
                have f462 : LA x455 (.func (.func 46) #[] #[.pointer (some ⟨a388, 0, none⟩), .pointer (some ⟨b389, 0, none⟩), .pointer (some ⟨c390, 0, none⟩)]) q sDer := by rw [e459]; exact la_set f453 b452 (by first | exact .inl rfl | exact .inr rfl) _
                have r463 : Ap.Rd x455 (.slice o440 m441 n442) (sumL q []) := by rw [e459]; exact rd_set r454 b452 (by first | exact .inl rfl | exact .inr rfl) _
                rw [← e459]
                clear e459 k457 k458
                refine hK.out _ _ c456 (fun _ => ?_)
                clear hK K
                try simp only [Act.put, List.setIfInBounds_toArray, List.set_cons_zero, List.set_cons_succ]
                refine wpAnyH_done (by kernel_rfl) ?_ _
                go_wp2_with fail
                go_meet
                case rel => exact ⟨x383.heap.size, WD.heap.size, _, _, _, _, rfl, rfl, c456, (by rw [Lib.cell_of_heap b461]; rfl), f462, (by rw [Lib.cell_of_heap b460]; rfl), r463⟩
              exact AllReadyH.nil
            exact AllReadyH.nil
          exact AllReadyH.nil
        exact AllReadyH.nil
      refine AllReadyH.cons (o := { dst := some 3, op := Go.Op.alloc 51, type := 0, pos := "step.go:23", after := #[], guard := none }) rfl (fun K hK => ?_) ?_
      · skip
        go_simp
        obtain ⟨x464, e466⟩ : ∃ x, x = x377.alloc (.cells #[.nilFunc] 51) := ⟨_, rfl⟩
        have s467 : Chg x377 x464 := by rw [e466]; exact (Chg.refl _).alloc _
        have b468 : x464.heap[x377.heap.size]? = some (.cells #[.nilFunc] 51 (0, 0)) := by rw [e466]; exact heap_alloc_last x377 _
        have c465 := c378.trans s467
        rw [← e466]
        have b469 := (s467.block _ (lt_blk b381)).trans b381
        have z470 : WB.heap.size ≤ x377.heap.size := c378.size
        clear e466
        refine hK.out _ _ c465 (fun _ => ?_)
        clear hK K
        try simp only [Act.put, List.setIfInBounds_toArray, List.set_cons_zero, List.set_cons_succ]
        refine wpAnyH_ready (rs := [1]) (by kernel_rfl) (by simp) ?_
        refine AllReadyH.cons (o := { dst := some 6, op := Go.Op.call { callee := Go.Callee.value (Go.Operand.func 34), args := #[Go.Operand.tmp 5, Go.Operand.const (Go.Value.string { data := #[100, 101, 114, 105, 118, 101, 100] })], argTypes := #[22, 9] }, type := 51, pos := "step.go:23", after := #[{ on := 0, ground := Go.Ground.data }], guard := none }) rfl (fun K hK => ?_) ?_
        · skip
          go_simp
          go_at_call 34
          refine (HL.out x464).mono ?_
          rintro e x471 ⟨v473, rfl, s474, f475⟩
          obtain ⟨a476, b477, c478, rfl⟩ := la_shape f475
          have b479 := (s474.block _ (lt_blk b468)).trans b468
          have b480 := (s474.block _ (lt_blk b469)).trans b469
          have c472 := c465.trans s474
          refine hK.out _ _ c472 (fun _ => ?_)
          clear hK K
          try simp only [Act.put, List.setIfInBounds_toArray, List.set_cons_zero, List.set_cons_succ]
          refine wpAnyH_ready (rs := [3]) (by kernel_rfl) (by simp) ?_
          refine AllReadyH.cons (o := { dst := some 8, op := Go.Op.call { callee := Go.Callee.value (Go.Operand.func 21), args := #[Go.Operand.tmp 7, Go.Operand.const (Go.Value.slice none 0 0)], argTypes := #[22, 30] }, type := 23, pos := "step.go:23", after := #[{ on := 2, ground := Go.Ground.data }, { on := 1, ground := Go.Ground.chain }], guard := none }) rfl (fun K hK => ?_) ?_
          · skip
            go_simp
            go_at_call 21
            refine (HO.out x471 (HT.out.chg c472)).mono ?_
            rintro e x481 ⟨o485, m486, n487, rfl, s483, r484⟩
            have b488 := (s483.block _ (lt_blk b479)).trans b479
            have b489 := (s483.block _ (lt_blk b480)).trans b480
            have f490 := f475.chg s483
            have c482 := c472.trans s483
            refine hK.out _ _ c482 (fun _ => ?_)
            clear hK K
            try simp only [Act.put, List.setIfInBounds_toArray, List.set_cons_zero, List.set_cons_succ]
            refine wpAnyH_ready (rs := [6]) (by kernel_rfl) (by simp) ?_
            refine AllReadyH.cons (o := { dst := none, op := Go.Op.store 51 (Go.Operand.tmp 3) (Go.Operand.tmp 6), type := 0, pos := "step.go:23", after := #[{ on := 4, ground := Go.Ground.data }, { on := 1, ground := Go.Ground.data }, { on := 3, ground := Go.Ground.chain }, { on := 0, ground := Go.Ground.phase }, { on := 1, ground := Go.Ground.phase }, { on := 2, ground := Go.Ground.textOnly Go.Departure.lateStores }, { on := 3, ground := Go.Ground.textOnly Go.Departure.lateStoresUnsure }, { on := 4, ground := Go.Ground.phase }, { on := 5, ground := Go.Ground.phase }], guard := none }) rfl (fun K hK => ?_) ?_
            · skip
              have k493 : x481.cell? ⟨x377.heap.size, 0, none⟩ = some (.nilFunc) := by rw [Lib.cell_of_heap b488]; rfl
              have k494 : x481.frozen? ⟨x377.heap.size, 0, none⟩ = false := Lib.frozen_of_heap b488 0
              go_simp
              obtain ⟨x491, e495⟩ : ∃ x, x = x481.setCell ⟨x377.heap.size, 0, none⟩ (.func (.func 46) #[] #[.pointer (some ⟨a476, 0, none⟩), .pointer (some ⟨b477, 0, none⟩), .pointer (some ⟨c478, 0, none⟩)]) := ⟨_, rfl⟩
              have c492 : Chg WB x491 := by rw [e495]; exact c482.setCell z470 _
              have b496 : x491.heap[x377.heap.size]? = some (.cells #[.func (.func 46) #[] #[.pointer (some ⟨a476, 0, none⟩), .pointer (some ⟨b477, 0, none⟩), .pointer (some ⟨c478, 0, none⟩)]] 51 (0, 0)) := by rw [e495]; simp [World.setCell, Array.getElem?_modify, b488]
              have b497 : x491.heap[WD.heap.size]? = some (.cells #[.slice none 0 0] 23 (0, 0)) := by rw [e495, Below.heap_setCell _ _ _ _ (fun q => blk_ne b488 b489 (by decide) q.symm)]; exact b489
              have f498 : LA x491 (.func (.func 46) #[] #[.pointer (some ⟨a476, 0, none⟩), .pointer (some ⟨b477, 0, none⟩), .pointer (some ⟨c478, 0, none⟩)]) q sDer := by rw [e495]; exact la_set f490 b488 (by first | exact .inl rfl | exact .inr rfl) _
              have r499 : Ap.Rd x491 (.slice o485 m486 n487) (sumL q []) := by rw [e495]; exact rd_set r484 b488 (by first | exact .inl rfl | exact .inr rfl) _
              rw [← e495]
              clear e495 k493 k494
              refine hK.out _ _ c492 (fun _ => ?_)
              clear hK K
              try simp only [Act.put, List.setIfInBounds_toArray, List.set_cons_zero, List.set_cons_succ]
              refine wpAnyH_ready (rs := [7]) (by kernel_rfl) (by simp) ?_
              refine AllReadyH.cons (o := { dst := none, op := Go.Op.store 23 (Go.Operand.tmp 4) (Go.Operand.tmp 8), type := 0, pos := "step.go:23", after := #[{ on := 5, ground := Go.Ground.data }, { on := 3, ground := Go.Ground.data }, { on := 6, ground := Go.Ground.chain }, { on := 0, ground := Go.Ground.phase }, { on := 1, ground := Go.Ground.phase }, { on := 2, ground := Go.Ground.phase }, { on := 3, ground := Go.Ground.phase }, { on := 4, ground := Go.Ground.phase }, { on := 5, ground := Go.Ground.phase }, { on := 6, ground := Go.Ground.phase }], guard := none }) rfl (fun K hK => ?_) ?_
              · skip
                have k502 : x491.cell? ⟨WD.heap.size, 0, none⟩ = some (.slice none 0 0) := by rw [Lib.cell_of_heap b497]; rfl
                have k503 : x491.frozen? ⟨WD.heap.size, 0, none⟩ = false := Lib.frozen_of_heap b497 0
                go_simp
                obtain ⟨x500, e504⟩ : ∃ x, x = x491.setCell ⟨WD.heap.size, 0, none⟩ (.slice o485 m486 n487) := ⟨_, rfl⟩
                have c501 : Chg WB x500 := by rw [e504]; exact c492.setCell z382 _
                have b505 : x500.heap[WD.heap.size]? = some (.cells #[.slice o485 m486 n487] 23 (0, 0)) := by rw [e504]; simp [World.setCell, Array.getElem?_modify, b497]
                have b506 : x500.heap[x377.heap.size]? = some (.cells #[.func (.func 46) #[] #[.pointer (some ⟨a476, 0, none⟩), .pointer (some ⟨b477, 0, none⟩), .pointer (some ⟨c478, 0, none⟩)]] 51 (0, 0)) := by rw [e504, Below.heap_setCell _ _ _ _ (fun q => blk_ne b497 b496 (by decide) q.symm)]; exact b496
                have f507 : LA x500 (.func (.func 46) #[] #[.pointer (some ⟨a476, 0, none⟩), .pointer (some ⟨b477, 0, none⟩), .pointer (some ⟨c478, 0, none⟩)]) q sDer := by rw [e504]; exact la_set f498 b497 (by first | exact .inl rfl | exact .inr rfl) _
                have r508 : Ap.Rd x500 (.slice o485 m486 n487) (sumL q []) := by rw [e504]; exact rd_set r499 b497 (by first | exact .inl rfl | exact .inr rfl) _
                rw [← e504]
                clear e504 k502 k503
                refine hK.out _ _ c501 (fun _ => ?_)
                clear hK K
                try simp only [Act.put, List.setIfInBounds_toArray, List.set_cons_zero, List.set_cons_succ]
                refine wpAnyH_done (by kernel_rfl) ?_ _
                go_wp2_with fail
                go_meet
                case rel => exact ⟨x377.heap.size, WD.heap.size, _, _, _, _, rfl, rfl, c501, (by rw [Lib.cell_of_heap b506]; rfl), f507, (by rw [Lib.cell_of_heap b505]; rfl), r508⟩
              exact AllReadyH.nil
            exact AllReadyH.nil
          exact AllReadyH.nil
        exact AllReadyH.nil
      exact AllReadyH.nil
    exact AllReadyH.nil
  case rest =>
  obtain ⟨P4, P5, f, o, m, c, rfl, rfl, h1, h2, h3, h4, h5⟩ := hcut
  have H : Hid (Chg w wc ∧ MA wc (.func (.func 57) #[] #[.pointer (some ⟨w.heap.size, 0, none⟩), .pointer (some ⟨P4, 0, none⟩), .pointer (some ⟨P5, 0, none⟩)]) q) := ⟨HC.out.1.trans h1, _, _, _, f, o, m, c, rfl, cell_at h1 HC.out.2, h2, h3, h4, h5⟩
  clear h1 h2 h3 h4 h5
  go_wp2_with fail
  go_ret
  exact ⟨_, rfl, H.out⟩
end Go.Proofs.YtijpdhjlafihkaaDoor
