/-
  The schedule's steps: what comes of a step's closure; Handshake, Master; the law's live question.
-/
import Derived.Test.YtijpdhjlafihkaaDoorTj32
import Derived.Test.YtijpdhjlafihkaaDoorTj33
namespace Go.Proofs.YtijpdhjlafihkaaDoor
open Go.RowKit
set_option linter.unusedVariables false
set_option maxRecDepth 100000

/-- What is mixed of a secret and of what comes to it. -/
def mixL (q : Int) (key more : List Int) : List Int := macL q (drL q key sDer (sumL q [])) more
set_option maxHeartbeats 4000000 in
theorem mix1_any (q : Int) (v : Value) (vk vm : Value) (key more : List Int) (w : World) (h : MA w v q) (ht : Tabs w) (hk : Ap.Rd w vk key) (hkl : key.length ≤ 140737488351232) (hm : Ap.Rd w vm more) (hml : more.length < 4611686018427387904) :
    ∃ A B C : Nat, v = .func (.func 57) #[] #[.pointer (some ⟨A, 0, none⟩), .pointer (some ⟨B, 0, none⟩), .pointer (some ⟨C, 0, none⟩)] ∧ Calls Tryd.prog 57 #[vk, vm, .pointer (some ⟨A, 0, none⟩), .pointer (some ⟨B, 0, none⟩), .pointer (some ⟨C, 0, none⟩)] w fun e w' => RL (mixL q key more) w w' e := by
  obtain ⟨A, B, C, f, o, m, c, rfl, h1, h2, h3, h4, h5⟩ := h
  obtain ⟨a1, b1, c1, rfl, hla⟩ := la_any h3
  refine ⟨A, B, C, rfl, ?_⟩
  have HC : Hid (w.cell? ⟨A, 0, none⟩ = some (.int .i64 q) ∧ w.cell? ⟨B, 0, none⟩ = some (.func (.func 46) #[] #[.pointer (some ⟨a1, 0, none⟩), .pointer (some ⟨b1, 0, none⟩), .pointer (some ⟨c1, 0, none⟩)]) ∧ w.cell? ⟨C, 0, none⟩ = some (.slice o m c)) := ⟨h1, h2, h4⟩
  have HL : Hid (∀ u, Chg w u → Calls Tryd.prog 46 #[vk, .slice o m c, .pointer (some ⟨a1, 0, none⟩), .pointer (some ⟨b1, 0, none⟩), .pointer (some ⟨c1, 0, none⟩)] u fun e w' => RL (drL q key sDer (sumL q [])) u w' e) := fun u hu => hla vk (.slice o m c) key _ u hu (ht.chg hu) (Rd.chg hk hu) hkl (Rd.chg h5 hu)
  have HX : Hid (∀ u vs, Chg w u → Ap.Rd u vs (drL q key sDer (sumL q [])) → Calls Tryd.prog 27 #[.int .i64 q, vs, vm] u fun r w' => ∃ o n c, r = .returned (.slice o n c) ∧ Chg u w' ∧ Ap.Rd w' (.slice o n c) (mixL q key more)) := fun u vs hu hs => extract_any q vs vm _ more u (ht.chg hu) hs (by have := drL_le q key sDer (sumL q []); omega) (Rd.chg hm hu) hml
  clear ht hk hkl hm hml h1 h2 h3 h4 h5 hla
  go_enter Tryd.func57, Tryd.ntmps57
  go_upto_region 1 with fail
  have c0 : Chg w w.drew := (Chg.refl w).drew
  refine wp_region_held_drew (S := fun u => Chg w u) (by kernel_rfl) c0 (fun _ => ?_)
  refine wpAnyH_take (i := 0) (oi := { dst := some 8, op := Go.Op.load 22 (Go.Operand.tmp 2), type := 22, pos := "step.go:25", after := #[], guard := none }) (v := ?_) rfl (by kernel_rfl) (by kernel_rfl) (by kernel_rfl) (fun _ _ _ h => h) (Or.inl ⟨by rfl, ?_⟩) c0 ?_
  rotate_left
  · intro u hu
    have hu : Chg w u := hu
    have hc1 := cell_at hu HC.out.1
    have hc2 := cell_at hu HC.out.2.1
    have hc3 := cell_at hu HC.out.2.2
    go_simp
    try with_reducible rfl
  try simp only [Act.put, List.setIfInBounds_toArray, List.set_cons_zero, List.set_cons_succ]
  refine wpAnyH_take (i := 1) (oi := { dst := some 9, op := Go.Op.load 51 (Go.Operand.tmp 3), type := 51, pos := "step.go:25", after := #[], guard := none }) (v := ?_) rfl (by kernel_rfl) (by kernel_rfl) (by kernel_rfl) (fun _ _ _ h => h) (Or.inl ⟨by rfl, ?_⟩) c0 ?_
  rotate_left
  · intro u hu
    have hu : Chg w u := hu
    have hc1 := cell_at hu HC.out.1
    have hc2 := cell_at hu HC.out.2.1
    have hc3 := cell_at hu HC.out.2.2
    go_simp
    try with_reducible rfl
  try simp only [Act.put, List.setIfInBounds_toArray, List.set_cons_zero, List.set_cons_succ]
  refine wpAnyH_take (i := 2) (oi := { dst := some 10, op := Go.Op.move (Go.Operand.tmp 0), type := 23, pos := "step.go:25", after := #[], guard := none }) (v := ?_) rfl (by kernel_rfl) (by kernel_rfl) (by kernel_rfl) (fun _ _ _ h => h) (Or.inl ⟨by rfl, ?_⟩) c0 ?_
  rotate_left
  · intro u hu
    have hu : Chg w u := hu
    go_simp
    try with_reducible rfl
  try simp only [Act.put, List.setIfInBounds_toArray, List.set_cons_zero, List.set_cons_succ]
  refine wpAnyH_take (i := 3) (oi := { dst := some 11, op := Go.Op.load 23 (Go.Operand.tmp 4), type := 23, pos := "step.go:25", after := #[], guard := none }) (v := ?_) rfl (by kernel_rfl) (by kernel_rfl) (by kernel_rfl) (fun _ _ _ h => h) (Or.inl ⟨by rfl, ?_⟩) c0 ?_
  rotate_left
  · intro u hu
    have hu : Chg w u := hu
    have hc1 := cell_at hu HC.out.1
    have hc2 := cell_at hu HC.out.2.1
    have hc3 := cell_at hu HC.out.2.2
    go_simp
    try with_reducible rfl
  try simp only [Act.put, List.setIfInBounds_toArray, List.set_cons_zero, List.set_cons_succ]
  refine wpAnyH_take (i := 5) (oi := { dst := some 13, op := Go.Op.move (Go.Operand.tmp 1), type := 23, pos := "step.go:25", after := #[], guard := none }) (v := ?_) rfl (by kernel_rfl) (by kernel_rfl) (by kernel_rfl) (fun _ _ _ h => h) (Or.inl ⟨by rfl, ?_⟩) c0 ?_
  rotate_left
  · intro u hu
    have hu : Chg w u := hu
    go_simp
    try with_reducible rfl
  try simp only [Act.put, List.setIfInBounds_toArray, List.set_cons_zero, List.set_cons_succ]
  generalize w.drew = WD at c0 ⊢
  refine wpAnyH_ready (rs := [4]) (by kernel_rfl) (by simp) ?_
  refine AllReadyH.cons (o := { dst := some 12, op := Go.Op.call { callee := Go.Callee.value (Go.Operand.tmp 9), args := #[Go.Operand.tmp 10, Go.Operand.tmp 11], argTypes := #[23, 23] }, type := 23, pos := "step.go:25", after := #[{ on := 1, ground := Go.Ground.data }, { on := 2, ground := Go.Ground.data }, { on := 3, ground := Go.Ground.data }], guard := none }) rfl (fun K hK => ?_) AllReadyH.nil
  go_simp
  go_at_call 46
  refine (HL.out WD c0).mono ?_
  rintro e x1 ⟨o1, m1, n1, rfl, s1, r1⟩
  have c1 : Chg w x1 := c0.trans s1
  refine hK.out _ _ c1 (fun _ => ?_)
  clear hK K
  try simp only [Act.put, List.setIfInBounds_toArray, List.set_cons_zero, List.set_cons_succ]
  refine wpAnyH_ready (rs := [6]) (by kernel_rfl) (by simp) ?_
  refine AllReadyH.cons (o := { dst := some 14, op := Go.Op.call { callee := Go.Callee.value (Go.Operand.func 27), args := #[Go.Operand.tmp 8, Go.Operand.tmp 12, Go.Operand.tmp 13], argTypes := #[22, 23, 23] }, type := 23, pos := "step.go:25", after := #[{ on := 0, ground := Go.Ground.data }, { on := 4, ground := Go.Ground.data }, { on := 5, ground := Go.Ground.data }, { on := 4, ground := Go.Ground.chain }], guard := none }) rfl (fun K hK => ?_) AllReadyH.nil
  go_simp
  go_at_call 27
  refine (HX.out x1 _ c1 r1).mono ?_
  rintro e x2 ⟨o2, m2, n2, rfl, s2, r2⟩
  have c2 : Chg w x2 := c1.trans s2
  refine hK.out _ _ c2 (fun _ => ?_)
  clear hK K
  try simp only [Act.put, List.setIfInBounds_toArray, List.set_cons_zero, List.set_cons_succ]
  refine wpAnyH_take (i := 7) (oi := { dst := some 7, op := Go.Op.assign (Go.Operand.tmp 14), type := 23, pos := "step.go:25", after := #[{ on := 6, ground := Go.Ground.data }, { on := 6, ground := Go.Ground.chain }, { on := 0, ground := Go.Ground.phase }, { on := 1, ground := Go.Ground.phase }, { on := 2, ground := Go.Ground.phase }, { on := 3, ground := Go.Ground.phase }, { on := 4, ground := Go.Ground.phase }, { on := 5, ground := Go.Ground.phase }, { on := 6, ground := Go.Ground.phase }], guard := none }) (v := ?_) rfl (by kernel_rfl) (by kernel_rfl) (by kernel_rfl) (fun _ _ _ h => h) (Or.inl ⟨by rfl, ?_⟩) c2 ?_
  rotate_left
  · intro u hu
    have hu : Chg w u := hu
    go_simp
    try with_reducible rfl
  try simp only [Act.put, List.setIfInBounds_toArray, List.set_cons_zero, List.set_cons_succ]
  refine wpAnyH_done (by kernel_rfl) ?_ _
  go_wp2_with fail
  go_ret
  exact ⟨_, _, _, rfl, c2, r2⟩

set_option maxHeartbeats 2000000 in
theorem handshake_any (q : Int) (vk vm : Value) (key more : List Int) (w : World) (ht : Tabs w) (hk : Ap.Rd w vk key) (hkl : key.length ≤ 140737488351232) (hm : Ap.Rd w vm more) (hml : more.length < 4611686018427387904) :
    Calls Tryd.prog 26 #[.int .i64 q, vk, vm] w fun e w' => RL (mixL q key more) w w' e := by
  have hx := mixed_any q w ht
  have HX : Hid (Tabs w ∧ Ap.Rd w vk key ∧ key.length ≤ 140737488351232 ∧ Ap.Rd w vm more ∧ more.length < 4611686018427387904) := ⟨ht, hk, hkl, hm, hml⟩
  clear ht hk hkl hm hml
  go_enter Tryd.func26, Tryd.ntmps26
  go_wp2_with (go_at_call 41; refine hx.mono ?_)
  rintro e w1 ⟨v, rfl, hc1, hma⟩
  obtain ⟨A, B, C, rfl, hp⟩ := mix1_any q v vk vm key more w1 hma (HX.out.1.chg hc1) (Rd.chg HX.out.2.1 hc1) HX.out.2.2.1 (Rd.chg HX.out.2.2.2.1 hc1) HX.out.2.2.2.2
  have H : Hid (Chg w w1) := hc1
  clear hx hma hc1
  go_wp2_with (go_at_call 57; refine hp.mono ?_)
  rintro e w2 ⟨o, m, c, rfl, hc2, hr2⟩
  have H2 : Hid (Chg w w2 ∧ Ap.Rd w2 (.slice o m c) (mixL q key more)) := ⟨H.out.trans hc2, hr2⟩
  clear hp hc2 hr2
  go_wp2
  go_ret
  exact ⟨_, _, _, rfl, H2.out⟩

set_option maxHeartbeats 2000000 in
theorem master_any (q : Int) (vk : Value) (key : List Int) (w : World) (ht : Tabs w) (hk : Ap.Rd w vk key) (hkl : key.length ≤ 140737488351232) :
    Calls Tryd.prog 28 #[.int .i64 q, vk] w fun e w' => RL (mixL q key (zer (sizeOfH q))) w w' e := by
  have hx := mixed_any q w ht
  have hz := fun u => zeros_any q u
  have HZ : Hid (∀ u, Calls Tryd.prog 39 #[.int .i64 q] u fun e w' => ∃ g m c, e = .returned (.slice (some ⟨g, 0, none⟩) m c) ∧ Chg u w' ∧ Ap.Rd w' (.slice (some ⟨g, 0, none⟩) m c) (zer (sizeOfH q))) := hz
  have HX : Hid (Tabs w ∧ Ap.Rd w vk key ∧ key.length ≤ 140737488351232) := ⟨ht, hk, hkl⟩
  clear ht hk hkl hz
  go_enter Tryd.func28, Tryd.ntmps28
  go_wp2_with (go_at_call 41; refine hx.mono ?_)
  rintro e w1 ⟨v, rfl, hc1, hma⟩
  have H : Hid (Chg w w1 ∧ MA w1 v q) := ⟨hc1, hma⟩
  clear hx hma hc1
  go_wp2_with (go_at_call 39; refine (HZ.out _).mono ?_)
  rintro e w2 ⟨g2, m2, n2, rfl, hc2, hr2⟩
  obtain ⟨A, B, C, rfl, hp⟩ := mix1_any q v vk (.slice (some ⟨g2, 0, none⟩) m2 n2) key (zer (sizeOfH q)) w2 (H.out.2.chg hc2) (HX.out.1.chg (H.out.1.trans hc2)) (Rd.chg HX.out.2.1 (H.out.1.trans hc2)) HX.out.2.2 hr2 (by rw [zer_len]; have := size_le q; omega)
  have H1 : Hid (Chg w w2) := H.out.1.trans hc2
  clear hc2 hr2
  go_wp2_with (go_at_call 57; refine hp.mono ?_)
  rintro e w3 ⟨o, m, c, rfl, hc3, hr3⟩
  have H2 : Hid (Chg w w3 ∧ Ap.Rd w3 (.slice o m c) (mixL q key (zer (sizeOfH q)))) := ⟨H1.out.trans hc3, hr3⟩
  clear hp hc3 hr3
  go_wp2
  go_ret
  exact ⟨_, _, _, rfl, H2.out⟩

set_option maxHeartbeats 4000000 in
theorem newT_any (w : World) : Calls Tryd.prog 11 #[] w fun e w' => e = .returned (.pointer (some ⟨w.heap.size, 0, none⟩)) ∧ w' = w.alloc (.cells #[.slice none 0 0] 54) := by
  go_enter Tryd.func11, Tryd.ntmps11
  go_wp2
  go_ret
  exact ⟨rfl, rfl⟩

set_option maxHeartbeats 8000000 in
theorem head_any (w : World) (ht : Tabs w) : Calls Tryd.prog 6 #[] w fun e w' => e = .returned (.bool true) ∧ Chg w w' := by
  have hp := early_any 1 (.slice none 0 0) [] w ht (Ap.Rd.nil _) (by decide)
  have he : earlyL 1 [] = (List.range 32).map (sumByte 1 (gd js4)) := early_eq
  rw [he] at hp
  have hn := fun u => newT_any u
  have HN : Hid (∀ u, Calls Tryd.prog 11 #[] u fun e w' => e = .returned (.pointer (some ⟨u.heap.size, 0, none⟩)) ∧ w' = u.alloc (.cells #[.slice none 0 0] 54)) := hn
  clear ht hn he
  go_enter Tryd.func6, Tryd.ntmps6
  go_wp2_with (go_at_call 22; refine hp.mono ?_)
  rintro e w1 ⟨o, m, c, rfl, hc1, hr1⟩
  have hl : ((List.range 32).map (sumByte 1 (gd js4))).length = 32 := by simp
  have hm : m = 32 ∧ 32 ≤ c ∧ c ≤ 9223372036854775807 := by
    obtain ⟨ao, n, c', e, h1, h2, h3, -⟩ := hr1
    injection e with e1 e2 e3
    subst e1 e2 e3
    have : maxLen = 9223372036854775807 := rfl
    omega
  obtain ⟨g, off, rfl, d0⟩ := Rd.cell hr1 (by omega) (i := 0) (by omega)
  obtain ⟨g1, off1, ea, d1⟩ := Rd.cell hr1 (by omega) (i := 1) (by omega)
  injection ea with ea
  injection ea with e1 e2 _
  subst e1 e2
  obtain ⟨g1, off1, ea, d2⟩ := Rd.cell hr1 (by omega) (i := 2) (by omega)
  injection ea with ea
  injection ea with e1 e2 _
  subst e1 e2
  obtain ⟨g1, off1, ea, d3⟩ := Rd.cell hr1 (by omega) (i := 3) (by omega)
  injection ea with ea
  injection ea with e1 e2 _
  subst e1 e2
  have z : ∀ j x, j < 32 → sumByte 1 (gd js4) j = x → gd ((List.range 32).map (sumByte 1 (gd js4))) j = x := fun j x hj hx => by
    rw [← hx]
    simp [gd, List.getD_eq_getElem?_getD, hj]
  rw [z 0 51 (by decide) early_0, Nat.add_zero] at d0
  rw [z 1 173 (by decide) early_1] at d1
  rw [z 2 10 (by decide) early_2] at d2
  rw [z 3 28 (by decide) early_3] at d3
  obtain ⟨rfl, hmc, hcm⟩ := hm
  clear z hl
  have H : Hid (Chg w w1) := hc1
  clear hp hc1 hr1
  go_wp2_with (go_at_call 11; refine (HN.out _).mono ?_; rintro e w2 ⟨rfl, rfl⟩)
  go_ret
  exact ⟨rfl, H.out.trans ((Chg.refl _).alloc _)⟩
end Go.Proofs.YtijpdhjlafihkaaDoor
