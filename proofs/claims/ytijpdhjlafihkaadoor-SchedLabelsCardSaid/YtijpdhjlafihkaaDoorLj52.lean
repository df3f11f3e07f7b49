/-
  SchedLabels, walked.
-/
import Derived.Test.YtijpdhjlafihkaaDoorLj34
import Derived.Test.YtijpdhjlafihkaaDoorLj51
import Derived.Deep.RegionHeld3
namespace Go.Proofs.YtijpdhjlafihkaaDoor
open Go.RowKit
set_option linter.unusedVariables false
set_option maxRecDepth 100000

set_option maxHeartbeats 12800000 in
theorem labels_law (q : Int) (vk vc : Value) (key ctx : List Int) (S : ByteArray) (n : Int) (w : World) (ht : Tabs w) (hk : Ap.Rd w vk key) (hkx : ∀ x ∈ key, 0 ≤ x ∧ x < 256) (hkl : key.length ≤ 140737488351232) (hc : Ap.Rd w vc ctx) (hcx : ∀ x ∈ ctx, 0 ≤ x ∧ x < 256) :
    Calls Tryd.prog 3 #[.int .i64 q, vk, .string S, vc, .int .i64 n] w fun e w' => e = .returned (.bool true) ∧ Chg w w' := by
  have HX : Hid (Tabs w ∧ Ap.Rd w vk key ∧ (∀ x ∈ key, 0 ≤ x ∧ x < 256) ∧ key.length ≤ 140737488351232 ∧ Ap.Rd w vc ctx ∧ ∀ x ∈ ctx, 0 ≤ x ∧ x < 256) := ⟨ht, hk, hkx, hkl, hc, hcx⟩
  have hd := head_any w ht
  clear ht hk hkx hkl hc hcx
  go_enter Tryd.func3, Tryd.ntmps3
  go_wp2_with fail
  refine hd.mono ?_
  rintro e w0 ⟨rfl, hc0⟩
  have K0 : Hid (Chg w w0) := hc0
  clear hd hc0
  have hx := sexp_any q vk vc key ctx S n w0 (HX.out.1.chg K0.out) (Rd.chg HX.out.2.1 K0.out) HX.out.2.2.2.1 (Rd.chg HX.out.2.2.2.2.1 K0.out)
  obtain ⟨E, hE⟩ : ∃ E, E = exE q S ctx n := ⟨_, rfl⟩
  go_wp2_with (go_at_call 7; refine hx.mono ?_)
  rintro e w1 ⟨⟨o1, m1, n1, rfl, hr1⟩, hc1⟩
  have H1 : Hid (Chg w0 w1 ∧ Ap.Rd w1 (.slice o1 m1 n1) (exL q key S ctx n)) := ⟨hc1, hr1⟩
  have K1 : Hid (Chg w w1) := K0.out.trans hc1
  rw [← hE]
  clear hx hc1 hr1
  have hx := refExp_any q vk vc key ctx S n w1 (Rd.chg HX.out.2.1 K1.out) HX.out.2.2.1 HX.out.2.2.2.1 (Rd.chg HX.out.2.2.2.2.1 K1.out) HX.out.2.2.2.2.2
  go_wp2_with (go_at_call 8; refine hx.mono ?_)
  rintro e W0 ⟨⟨o2, m2, n2, rfl, hr2⟩, hc2⟩
  have KW : Hid (Chg w W0) := K1.out.trans hc2
  have HN1 : Hid (∀ u, Chg W0 u → (convert 23 9 (.slice o1 m1 n1)).run Tryd.prog u = .ok (.string (strOfNums (exL q key S ctx n))) u) := fun u hu => Ap.run_str u _ _ (Rd.chg H1.out.2 (hc2.trans hu))
  have HN2 : Hid (∀ u, Chg W0 u → (convert 23 9 (.slice o2 m2 n2)).run Tryd.prog u = .ok (.string (strOfNums (exL q key S ctx n))) u) := fun u hu => Ap.run_str u _ _ (Rd.chg hr2 hu)
  rw [← hE]
  have HE : Hid (E = exE q S ctx n) := hE
  clear hx hc2 hr2 hE
  have HD : Hid (∀ u, Chg W0 u → Calls Tryd.prog 9 #[.int .i64 q, vk, .string S, vc] u fun e w' => RL (drL q key S ctx) u w' e) := fun u hu => derive_any q vk vc key ctx S u (HX.out.1.chg (KW.out.trans hu)) (Rd.chg HX.out.2.1 (KW.out.trans hu)) HX.out.2.2.2.1 (Rd.chg HX.out.2.2.2.2.1 (KW.out.trans hu))
  have HRD : Hid (∀ u, Chg W0 u → Calls Tryd.prog 10 #[.int .i64 q, vk, .string S, vc] u fun e w' => RL (drL q key S ctx) u w' e) := fun u hu => rderive_any q vk vc key ctx S u (Rd.chg HX.out.2.1 (KW.out.trans hu)) HX.out.2.2.1 HX.out.2.2.2.1 (Rd.chg HX.out.2.2.2.2.1 (KW.out.trans hu)) HX.out.2.2.2.2.2
  have KC : Hid (Chg W0 W0) := Chg.refl _
  go_upto_region 4 with fail
  have c0 : Chg W0 W0.drew := KC.out.drew
  refine wp_region_held_drew (S := fun u => Chg W0 u) (by kernel_rfl) c0 (fun _ => ?_)
  generalize W0.drew = WD at c0 ⊢
  refine wpAnyH_take (i := 0) (oi := { dst := some 35, op := Go.Op.move (Go.Operand.tmp 11), type := 4, pos := "law.go:23", after := #[], guard := none }) (v := ?_) rfl (by kernel_rfl) (by kernel_rfl) (by kernel_rfl) (fun _ _ _ h => h) (Or.inl ⟨by rfl, ?_⟩) c0 ?_
  rotate_left
  · intro u hu
    have hu : Chg W0 u := hu
    go_simp
    try with_reducible rfl
  try simp only [Act.put, List.setIfInBounds_toArray, List.set_cons_zero, List.set_cons_succ]
  refine wpAnyH_take (i := 1) (oi := { dst := some 36, op := Go.Op.move (Go.Operand.tmp 35), type := 4, pos := "law.go:23", after := #[{ on := 0, ground := Go.Ground.data }], guard := none }) (v := ?_) rfl (by kernel_rfl) (by kernel_rfl) (by kernel_rfl) (fun _ _ _ h => h) (Or.inl ⟨by rfl, ?_⟩) c0 ?_
  rotate_left
  · intro u hu
    have hu : Chg W0 u := hu
    go_simp
    try with_reducible rfl
  try simp only [Act.put, List.setIfInBounds_toArray, List.set_cons_zero, List.set_cons_succ]
  refine wpAnyH_take (i := 2) (oi := { dst := some 37, op := Go.Op.move (Go.Operand.tmp 12), type := 23, pos := "law.go:23", after := #[{ on := 1, ground := Go.Ground.guard }], guard := some (1, true) }) (v := ?_) rfl (by kernel_rfl) (by kernel_rfl) (by kernel_rfl) (fun _ _ _ h => h) (Or.inl ⟨by rfl, ?_⟩) c0 ?_
  rotate_left
  · intro u hu
    have hu : Chg W0 u := hu
    go_simp
    try with_reducible rfl
  try simp only [Act.put, List.setIfInBounds_toArray, List.set_cons_zero, List.set_cons_succ]
  refine wpAnyH_take (i := 3) (oi := { dst := some 38, op := Go.Op.convert 23 9 (Go.Operand.tmp 37), type := 9, pos := "law.go:23", after := #[{ on := 2, ground := Go.Ground.data }, { on := 1, ground := Go.Ground.guard }], guard := some (1, true) }) (v := ?_) rfl (by kernel_rfl) (by kernel_rfl) (by kernel_rfl) (fun _ _ _ h => h) (Or.inl ⟨by rfl, ?_⟩) c0 ?_
  rotate_left
  · intro u hu
    have hu : Chg W0 u := hu
    have hcv := HN1.out u hu
    go_simp
    try with_reducible rfl
  try simp only [Act.put, List.setIfInBounds_toArray, List.set_cons_zero, List.set_cons_succ]
  refine wpAnyH_take (i := 4) (oi := { dst := some 39, op := Go.Op.move (Go.Operand.tmp 14), type := 23, pos := "law.go:23", after := #[{ on := 1, ground := Go.Ground.guard }], guard := some (1, true) }) (v := ?_) rfl (by kernel_rfl) (by kernel_rfl) (by kernel_rfl) (fun _ _ _ h => h) (Or.inl ⟨by rfl, ?_⟩) c0 ?_
  rotate_left
  · intro u hu
    have hu : Chg W0 u := hu
    go_simp
    try with_reducible rfl
  try simp only [Act.put, List.setIfInBounds_toArray, List.set_cons_zero, List.set_cons_succ]
  refine wpAnyH_take (i := 5) (oi := { dst := some 40, op := Go.Op.convert 23 9 (Go.Operand.tmp 39), type := 9, pos := "law.go:23", after := #[{ on := 4, ground := Go.Ground.data }, { on := 1, ground := Go.Ground.guard }], guard := some (1, true) }) (v := ?_) rfl (by kernel_rfl) (by kernel_rfl) (by kernel_rfl) (fun _ _ _ h => h) (Or.inl ⟨by rfl, ?_⟩) c0 ?_
  rotate_left
  · intro u hu
    have hu : Chg W0 u := hu
    have hcv := HN2.out u hu
    go_simp
    try with_reducible rfl
  try simp only [Act.put, List.setIfInBounds_toArray, List.set_cons_zero, List.set_cons_succ]
  refine wpAnyH_take (i := 6) (oi := { dst := some 41, op := Go.Op.binOp Go.BinOp.eql 9 (Go.Operand.tmp 38) (Go.Operand.tmp 40) 9, type := 4, pos := "law.go:23", after := #[{ on := 3, ground := Go.Ground.data }, { on := 5, ground := Go.Ground.data }, { on := 1, ground := Go.Ground.guard }], guard := some (1, true) }) (v := ?_) rfl (by kernel_rfl) (by kernel_rfl) (by kernel_rfl) (fun _ _ _ h => h) (Or.inl ⟨by rfl, ?_⟩) c0 ?_
  rotate_left
  · intro u hu
    have hu : Chg W0 u := hu
    go_simp
    try with_reducible rfl
  try simp only [Act.put, List.setIfInBounds_toArray, List.set_cons_zero, List.set_cons_succ]
  refine wpAnyH_take (i := 7) (oi := { dst := some 42, op := Go.Op.pick (Go.Operand.tmp 36) (Go.Operand.tmp 41) (Go.Operand.const (Go.Value.bool false)), type := 4, pos := "law.go:23", after := #[{ on := 1, ground := Go.Ground.data }, { on := 6, ground := Go.Ground.data }], guard := none }) (v := ?_) rfl (by kernel_rfl) (by kernel_rfl) (by kernel_rfl) (fun _ _ _ h => h) (Or.inl ⟨by rfl, ?_⟩) c0 ?_
  rotate_left
  · intro u hu
    have hu : Chg W0 u := hu
    go_simp
    try with_reducible rfl
  try simp only [Act.put, List.setIfInBounds_toArray, List.set_cons_zero, List.set_cons_succ]
  refine wpAnyH_take (i := 8) (oi := { dst := some 43, op := Go.Op.move (Go.Operand.tmp 42), type := 4, pos := "law.go:23", after := #[{ on := 7, ground := Go.Ground.data }, { on := 1, ground := Go.Ground.chain }], guard := none }) (v := ?_) rfl (by kernel_rfl) (by kernel_rfl) (by kernel_rfl) (fun _ _ _ h => h) (Or.inl ⟨by rfl, ?_⟩) c0 ?_
  rotate_left
  · intro u hu
    have hu : Chg W0 u := hu
    go_simp
    try with_reducible rfl
  try simp only [Act.put, List.setIfInBounds_toArray, List.set_cons_zero, List.set_cons_succ]
  refine wpAnyH_take (i := 9) (oi := { dst := some 44, op := Go.Op.move (Go.Operand.tmp 13), type := 25, pos := "law.go:23", after := #[{ on := 8, ground := Go.Ground.guard }], guard := some (8, true) }) (v := ?_) rfl (by kernel_rfl) (by kernel_rfl) (by kernel_rfl) (fun _ _ _ h => h) (Or.inl ⟨by rfl, ?_⟩) c0 ?_
  rotate_left
  · intro u hu
    have hu : Chg W0 u := hu
    go_simp
    try with_reducible rfl
  try simp only [Act.put, List.setIfInBounds_toArray, List.set_cons_zero, List.set_cons_succ]
  refine wpAnyH_take (i := 10) (oi := { dst := some 45, op := Go.Op.move (Go.Operand.tmp 15), type := 25, pos := "law.go:23", after := #[{ on := 8, ground := Go.Ground.guard }], guard := some (8, true) }) (v := ?_) rfl (by kernel_rfl) (by kernel_rfl) (by kernel_rfl) (fun _ _ _ h => h) (Or.inl ⟨by rfl, ?_⟩) c0 ?_
  rotate_left
  · intro u hu
    have hu : Chg W0 u := hu
    go_simp
    try with_reducible rfl
  try simp only [Act.put, List.setIfInBounds_toArray, List.set_cons_zero, List.set_cons_succ]
  refine wpAnyH_take (i := 11) (oi := { dst := some 46, op := Go.Op.binOp Go.BinOp.eql 25 (Go.Operand.tmp 44) (Go.Operand.tmp 45) 25, type := 4, pos := "law.go:23", after := #[{ on := 9, ground := Go.Ground.data }, { on := 10, ground := Go.Ground.data }, { on := 8, ground := Go.Ground.guard }], guard := some (8, true) }) (v := ?_) rfl (by kernel_rfl) (by kernel_rfl) (by kernel_rfl) (fun _ _ _ h => h) (Or.inl ⟨by rfl, ?_⟩) c0 ?_
  rotate_left
  · intro u hu
    have hu : Chg W0 u := hu
    go_simp
    try with_reducible rfl
  try simp only [Act.put, List.setIfInBounds_toArray, List.set_cons_zero, List.set_cons_succ]
  refine wpAnyH_take (i := 12) (oi := { dst := some 47, op := Go.Op.pick (Go.Operand.tmp 43) (Go.Operand.tmp 46) (Go.Operand.const (Go.Value.bool false)), type := 4, pos := "law.go:23", after := #[{ on := 8, ground := Go.Ground.data }, { on := 11, ground := Go.Ground.data }], guard := none }) (v := ?_) rfl (by kernel_rfl) (by kernel_rfl) (by kernel_rfl) (fun _ _ _ h => h) (Or.inl ⟨by rfl, ?_⟩) c0 ?_
  rotate_left
  · intro u hu
    have hu : Chg W0 u := hu
    go_simp
    try with_reducible rfl
  try simp only [Act.put, List.setIfInBounds_toArray, List.set_cons_zero, List.set_cons_succ]
  refine wpAnyH_take (i := 13) (oi := { dst := some 48, op := Go.Op.move (Go.Operand.tmp 47), type := 4, pos := "law.go:23", after := #[{ on := 12, ground := Go.Ground.data }, { on := 8, ground := Go.Ground.chain }], guard := none }) (v := ?_) rfl (by kernel_rfl) (by kernel_rfl) (by kernel_rfl) (fun _ _ _ h => h) (Or.inl ⟨by rfl, ?_⟩) c0 ?_
  rotate_left
  · intro u hu
    have hu : Chg W0 u := hu
    go_simp
    try with_reducible rfl
  try simp only [Act.put, List.setIfInBounds_toArray, List.set_cons_zero, List.set_cons_succ]
  refine wpAnyH_take (i := 14) (oi := { dst := some 49, op := Go.Op.move (Go.Operand.tmp 0), type := 22, pos := "law.go:23", after := #[{ on := 13, ground := Go.Ground.guard }], guard := some (13, true) }) (v := ?_) rfl (by kernel_rfl) (by kernel_rfl) (by kernel_rfl) (fun _ _ _ h => h) (Or.inl ⟨by rfl, ?_⟩) c0 ?_
  rotate_left
  · intro u hu
    have hu : Chg W0 u := hu
    go_simp
    try with_reducible rfl
  try simp only [Act.put, List.setIfInBounds_toArray, List.set_cons_zero, List.set_cons_succ]
  refine wpAnyH_take (i := 15) (oi := { dst := some 50, op := Go.Op.move (Go.Operand.tmp 1), type := 23, pos := "law.go:23", after := #[{ on := 13, ground := Go.Ground.guard }], guard := some (13, true) }) (v := ?_) rfl (by kernel_rfl) (by kernel_rfl) (by kernel_rfl) (fun _ _ _ h => h) (Or.inl ⟨by rfl, ?_⟩) c0 ?_
  rotate_left
  · intro u hu
    have hu : Chg W0 u := hu
    go_simp
    try with_reducible rfl
  try simp only [Act.put, List.setIfInBounds_toArray, List.set_cons_zero, List.set_cons_succ]
  refine wpAnyH_take (i := 16) (oi := { dst := some 51, op := Go.Op.move (Go.Operand.tmp 2), type := 9, pos := "law.go:23", after := #[{ on := 13, ground := Go.Ground.guard }], guard := some (13, true) }) (v := ?_) rfl (by kernel_rfl) (by kernel_rfl) (by kernel_rfl) (fun _ _ _ h => h) (Or.inl ⟨by rfl, ?_⟩) c0 ?_
  rotate_left
  · intro u hu
    have hu : Chg W0 u := hu
    go_simp
    try with_reducible rfl
  try simp only [Act.put, List.setIfInBounds_toArray, List.set_cons_zero, List.set_cons_succ]
  refine wpAnyH_take (i := 17) (oi := { dst := some 52, op := Go.Op.move (Go.Operand.tmp 3), type := 23, pos := "law.go:23", after := #[{ on := 13, ground := Go.Ground.guard }], guard := some (13, true) }) (v := ?_) rfl (by kernel_rfl) (by kernel_rfl) (by kernel_rfl) (fun _ _ _ h => h) (Or.inl ⟨by rfl, ?_⟩) c0 ?_
  rotate_left
  · intro u hu
    have hu : Chg W0 u := hu
    go_simp
    try with_reducible rfl
  try simp only [Act.put, List.setIfInBounds_toArray, List.set_cons_zero, List.set_cons_succ]
  refine wpAnyH_take (i := 20) (oi := { dst := some 55, op := Go.Op.move (Go.Operand.tmp 0), type := 22, pos := "law.go:23", after := #[{ on := 13, ground := Go.Ground.guard }], guard := some (13, true) }) (v := ?_) rfl (by kernel_rfl) (by kernel_rfl) (by kernel_rfl) (fun _ _ _ h => h) (Or.inl ⟨by rfl, ?_⟩) c0 ?_
  rotate_left
  · intro u hu
    have hu : Chg W0 u := hu
    go_simp
    try with_reducible rfl
  try simp only [Act.put, List.setIfInBounds_toArray, List.set_cons_zero, List.set_cons_succ]
  refine wpAnyH_take (i := 21) (oi := { dst := some 56, op := Go.Op.move (Go.Operand.tmp 1), type := 23, pos := "law.go:23", after := #[{ on := 13, ground := Go.Ground.guard }], guard := some (13, true) }) (v := ?_) rfl (by kernel_rfl) (by kernel_rfl) (by kernel_rfl) (fun _ _ _ h => h) (Or.inl ⟨by rfl, ?_⟩) c0 ?_
  rotate_left
  · intro u hu
    have hu : Chg W0 u := hu
    go_simp
    try with_reducible rfl
  try simp only [Act.put, List.setIfInBounds_toArray, List.set_cons_zero, List.set_cons_succ]
  refine wpAnyH_take (i := 22) (oi := { dst := some 57, op := Go.Op.move (Go.Operand.tmp 2), type := 9, pos := "law.go:23", after := #[{ on := 13, ground := Go.Ground.guard }], guard := some (13, true) }) (v := ?_) rfl (by kernel_rfl) (by kernel_rfl) (by kernel_rfl) (fun _ _ _ h => h) (Or.inl ⟨by rfl, ?_⟩) c0 ?_
  rotate_left
  · intro u hu
    have hu : Chg W0 u := hu
    go_simp
    try with_reducible rfl
  try simp only [Act.put, List.setIfInBounds_toArray, List.set_cons_zero, List.set_cons_succ]
  refine wpAnyH_take (i := 23) (oi := { dst := some 58, op := Go.Op.move (Go.Operand.tmp 3), type := 23, pos := "law.go:23", after := #[{ on := 13, ground := Go.Ground.guard }], guard := some (13, true) }) (v := ?_) rfl (by kernel_rfl) (by kernel_rfl) (by kernel_rfl) (fun _ _ _ h => h) (Or.inl ⟨by rfl, ?_⟩) c0 ?_
  rotate_left
  · intro u hu
    have hu : Chg W0 u := hu
    go_simp
    try with_reducible rfl
  try simp only [Act.put, List.setIfInBounds_toArray, List.set_cons_zero, List.set_cons_succ]
  refine wpAnyH_ready (rs := [18]) (by kernel_rfl) (by simp) ?_
  refine AllReadyH.cons (o := { dst := some 53, op := Go.Op.call { callee := Go.Callee.value (Go.Operand.func 9), args := #[Go.Operand.tmp 49, Go.Operand.tmp 50, Go.Operand.tmp 51, Go.Operand.tmp 52], argTypes := #[22, 23, 9, 23] }, type := 23, pos := "law.go:23", after := #[{ on := 14, ground := Go.Ground.data }, { on := 15, ground := Go.Ground.data }, { on := 16, ground := Go.Ground.data }, { on := 17, ground := Go.Ground.data }, { on := 13, ground := Go.Ground.chain }, { on := 13, ground := Go.Ground.guard }], guard := some (13, true) }) rfl (fun K hK => ?_) ?_
  · skip
    go_simp
    go_at_call 9
    refine (HD.out WD c0).mono ?_
    rintro e x1 ⟨o4, m5, n6, rfl, s2, r3⟩
    have c7 : Chg W0 x1 := c0.trans s2
    have t9 := TxV.of r3
    have y8 : Chg W0 x1 := c0.trans s2
    refine hK.out _ _ y8 (fun _ => wpAnyH_imp (S' := fun u => Chg x1 u) (fun u hu => y8.trans hu) _ _ _ _ ?_)
    have y10 : Chg x1 x1 := Chg.refl _
    clear hK K
    try simp only [Act.put, List.setIfInBounds_toArray, List.set_cons_zero, List.set_cons_succ]
    refine wpAnyH_take (i := 19) (oi := { dst := some 54, op := Go.Op.convert 23 9 (Go.Operand.tmp 53), type := 9, pos := "law.go:23", after := #[{ on := 18, ground := Go.Ground.data }, { on := 13, ground := Go.Ground.guard }], guard := some (13, true) }) (v := ?_) rfl (by kernel_rfl) (by kernel_rfl) (by kernel_rfl) (fun _ _ _ h => h) (Or.inl ⟨by rfl, ?_⟩) y10 ?_
    rotate_left
    · intro u hu
      have hu : Chg x1 u := hu
      have hcv := t9 u hu
      go_simp
      try with_reducible rfl
    try simp only [Act.put, List.setIfInBounds_toArray, List.set_cons_zero, List.set_cons_succ]
    refine wpAnyH_ready (rs := [24]) (by kernel_rfl) (by simp) ?_
    refine AllReadyH.cons (o := { dst := some 59, op := Go.Op.call { callee := Go.Callee.value (Go.Operand.func 10), args := #[Go.Operand.tmp 55, Go.Operand.tmp 56, Go.Operand.tmp 57, Go.Operand.tmp 58], argTypes := #[22, 23, 9, 23] }, type := 23, pos := "law.go:23", after := #[{ on := 20, ground := Go.Ground.data }, { on := 21, ground := Go.Ground.data }, { on := 22, ground := Go.Ground.data }, { on := 23, ground := Go.Ground.data }, { on := 18, ground := Go.Ground.chain }, { on := 13, ground := Go.Ground.guard }], guard := some (13, true) }) rfl (fun K hK => ?_) ?_
    · skip
      go_simp
      go_at_call 10
      refine (HRD.out x1 c7).mono ?_
      rintro e x11 ⟨o14, m15, n16, rfl, s12, r13⟩
      have c17 : Chg W0 x11 := c7.trans s12
      have t19 := TxV.of r13
      have y18 : Chg x1 x11 := y10.trans s12
      refine hK.out _ _ y18 (fun _ => wpAnyH_imp (S' := fun u => Chg x11 u) (fun u hu => y18.trans hu) _ _ _ _ ?_)
      have y20 : Chg x11 x11 := Chg.refl _
      clear hK K
      try simp only [Act.put, List.setIfInBounds_toArray, List.set_cons_zero, List.set_cons_succ]
      refine wpAnyH_take (i := 25) (oi := { dst := some 60, op := Go.Op.convert 23 9 (Go.Operand.tmp 59), type := 9, pos := "law.go:23", after := #[{ on := 24, ground := Go.Ground.data }, { on := 13, ground := Go.Ground.guard }], guard := some (13, true) }) (v := ?_) rfl (by kernel_rfl) (by kernel_rfl) (by kernel_rfl) (fun _ _ _ h => h) (Or.inl ⟨by rfl, ?_⟩) y20 ?_
      rotate_left
      · intro u hu
        have hu : Chg x11 u := hu
        have hcv := t19 u hu
        go_simp
        try with_reducible rfl
      try simp only [Act.put, List.setIfInBounds_toArray, List.set_cons_zero, List.set_cons_succ]
      refine wpAnyH_take (i := 26) (oi := { dst := some 61, op := Go.Op.binOp Go.BinOp.eql 9 (Go.Operand.tmp 54) (Go.Operand.tmp 60) 9, type := 4, pos := "law.go:23", after := #[{ on := 19, ground := Go.Ground.data }, { on := 25, ground := Go.Ground.data }, { on := 13, ground := Go.Ground.guard }], guard := some (13, true) }) (v := ?_) rfl (by kernel_rfl) (by kernel_rfl) (by kernel_rfl) (fun _ _ _ h => h) (Or.inl ⟨by rfl, ?_⟩) y20 ?_
      rotate_left
      · intro u hu
        have hu : Chg x11 u := hu
        go_simp
        try with_reducible rfl
      try simp only [Act.put, List.setIfInBounds_toArray, List.set_cons_zero, List.set_cons_succ]
      refine wpAnyH_take (i := 27) (oi := { dst := some 62, op := Go.Op.pick (Go.Operand.tmp 48) (Go.Operand.tmp 61) (Go.Operand.const (Go.Value.bool false)), type := 4, pos := "law.go:23", after := #[{ on := 13, ground := Go.Ground.data }, { on := 26, ground := Go.Ground.data }], guard := none }) (v := ?_) rfl (by kernel_rfl) (by kernel_rfl) (by kernel_rfl) (fun _ _ _ h => h) (Or.inl ⟨by rfl, ?_⟩) y20 ?_
      rotate_left
      · intro u hu
        have hu : Chg x11 u := hu
        go_simp
        try with_reducible rfl
      try simp only [Act.put, List.setIfInBounds_toArray, List.set_cons_zero, List.set_cons_succ]
      refine wpAnyH_take (i := 28) (oi := { dst := some 10, op := Go.Op.assign (Go.Operand.tmp 62), type := 4, pos := "law.go:23", after := #[{ on := 27, ground := Go.Ground.data }, { on := 24, ground := Go.Ground.chain }, { on := 0, ground := Go.Ground.phase }, { on := 1, ground := Go.Ground.phase }, { on := 2, ground := Go.Ground.phase }, { on := 3, ground := Go.Ground.phase }, { on := 4, ground := Go.Ground.phase }, { on := 5, ground := Go.Ground.phase }, { on := 6, ground := Go.Ground.phase }, { on := 7, ground := Go.Ground.phase }, { on := 8, ground := Go.Ground.phase }, { on := 9, ground := Go.Ground.phase }, { on := 10, ground := Go.Ground.phase }, { on := 11, ground := Go.Ground.phase }, { on := 12, ground := Go.Ground.phase }, { on := 13, ground := Go.Ground.phase }, { on := 14, ground := Go.Ground.phase }, { on := 15, ground := Go.Ground.phase }, { on := 16, ground := Go.Ground.phase }, { on := 17, ground := Go.Ground.phase }, { on := 18, ground := Go.Ground.phase }, { on := 19, ground := Go.Ground.phase }, { on := 20, ground := Go.Ground.phase }, { on := 21, ground := Go.Ground.phase }, { on := 22, ground := Go.Ground.phase }, { on := 23, ground := Go.Ground.phase }, { on := 24, ground := Go.Ground.phase }, { on := 25, ground := Go.Ground.phase }, { on := 26, ground := Go.Ground.phase }, { on := 27, ground := Go.Ground.phase }], guard := none }) (v := ?_) rfl (by kernel_rfl) (by kernel_rfl) (by kernel_rfl) (fun _ _ _ h => h) (Or.inl ⟨by rfl, ?_⟩) y20 ?_
      rotate_left
      · intro u hu
        have hu : Chg x11 u := hu
        go_simp
        try with_reducible rfl
      try simp only [Act.put, List.setIfInBounds_toArray, List.set_cons_zero, List.set_cons_succ]
      refine wpAnyH_done (by kernel_rfl) ?_ _
      go_wp2_with fail
      go_ret
      exact ⟨rfl, KW.out.trans c17⟩
    exact AllReadyH.nil
  exact AllReadyH.nil
end Go.Proofs.YtijpdhjlafihkaaDoor
