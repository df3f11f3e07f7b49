/-
  DerTimes, walked.
-/
import Derived.Test.YtnidfbcninkglaaDoorTr6
import Derived.Test.YtnidfbcninkglaaDoorTb
import Derived.Test.YtnidfbcninkglaaDoorHd
import Derived.Test.YtnidfbcninkglaaDoorDq
import Derived.Test.YtnidfbcninkglaaDoorRd2
namespace Go.Proofs.YtnidfbcninkglaaDoor
open Go.RowKit
set_option linter.unusedVariables false
set_option maxRecDepth 100000

set_option maxHeartbeats 6400000 in
theorem times_walk (tg : Int) (h0 : 0 ≤ tg) (h1 : tg ≤ 255) (v : Value) (xs : List Int) (t : Int) (t0 : -9223372036854775808 ≤ t) (t1 : t ≤ 9223372036854775807) (w : World) (ht : Tab w) (hv : Rd w v xs) (hb : Byt xs) (hl : xs.length ≤ 140737488355328) :
    Calls Tryd.prog 6 #[.int .u8 tg, v, .int .i64 t] w fun e w' => e = .returned (.bool true) ∧ Chg Non w w' := by
  have HT : Hid (Tab w) := ht
  obtain ⟨X, hX⟩ : ∃ X, X = (tim tg xs).1 := ⟨_, rfl⟩
  obtain ⟨E, hE⟩ : ∃ E, E = (tim tg xs).2 := ⟨_, rfl⟩
  have K26 : Hid (∀ u, Chg Non w u → Calls Tryd.prog 26 #[.int .u8 tg, v] u fun e w' => e = .returned (.tuple #[.int .i64 X, .int .i64 E]) ∧ Chg Non u w') := fun u hu => by rw [hX, hE]; exact time_any tg v xs u (hv.chg hu)
  have K27 : Hid (∀ u, Chg Non w u → Calls Tryd.prog 27 #[.int .u8 tg, v] u fun e w' => e = .returned (.tuple #[.int .i64 X, .int .i64 E]) ∧ Chg Non u w') := fun u hu => by rw [hX, hE]; exact rtime_any tg v xs hb u (hv.chg hu)
  clear hX hE ht hv hb hl h0 h1
  go_enter Tryd.func6, Tryd.ntmps6
  go_wp2_with (first
    | (go_at_call 9; refine (head_any _ HT.out).mono ?_; rintro e w1 ⟨rfl, hc1⟩; have C1 : Hid (Chg Non w w1) := hc1; clear hc1)
    | (go_at_call 26; refine (K26.out _ C1.out).mono ?_; rintro e w2 ⟨rfl, hc2⟩; have C2 : Hid (Chg Non w w2) := C1.out.two hc2; clear hc2)
    | (go_at_call 27; refine (K27.out _ C2.out).mono ?_; rintro e w3 ⟨rfl, hc3⟩; have C3 : Hid (Chg Non w w3) := C2.out.two hc3; clear hc3)
    | (go_at_call 28; refine (putTime_any t _).mono ?_))
  rintro e w4 ⟨v4, rfl, hp4⟩
  obtain ⟨l, ho4, hq4⟩ := hp4.ex
  have C4 : Hid (Chg Non w w4) := C3.out.two ho4.chg
  obtain ⟨sx, hsx⟩ : ∃ sx, sx = strOfNums l := ⟨_, rfl⟩
  have HS4 : Hid (∀ q, Chg Non w4 q → (convert 22 9 v4).run Tryd.prog q = .ok (.string sx) q) := fun q hq => by rw [hsx]; exact run_str q _ _ (ho4.rd.chg hq)
  have K29 : Hid (∀ u, Calls Tryd.prog 29 #[.int .i64 t] u fun e w' => ∃ v', e = .returned v' ∧ ((∃ ao n c, v' = .slice ao n c) ∧ (convert 22 9 v').run Tryd.prog w' = .ok (.string sx) w') ∧ Chg Non u w') := fun u => by
    refine (rputTime_any t u).mono ?_
    rintro e w' ⟨v', rfl, hp⟩
    obtain ⟨l', ho, hq⟩ := hp.ex
    obtain rfl := hq4.unique hq
    obtain ⟨ao, n, c, rfl, -, -, -⟩ := ho.rd.shape
    exact ⟨_, rfl, ⟨⟨_, _, _, rfl⟩, by rw [hsx]; exact run_str w' _ _ ho.rd⟩, ho.chg⟩
  have HR4 : Hid (Rd w4 v4 l) := ho4.rd
  obtain ⟨ao4, n4, c4, rfl, hn4, -, -⟩ := ho4.rd.shape
  have HQ4 : Hid (PutT t l) := hq4
  have HN4 : Hid (n4 = l.length) := hn4
  clear ho4 hq4 hp4 hn4 hsx K26 K27
  go_upto_region 5 with fail
  go_cut [49] from 30 to 49 (fun v49 wc => v49 = .bool false ∧ Hid (Chg Non w4 wc))
  case first =>
    have k4 := HS4.out w4.drew (Chg.refl _ _).drew
    have k4' := HS4.out w4 (Chg.refl _ _)
    refine wp_region_noPanic ?_
    refine wp_region_held_drew (S := fun w' => (convert 22 9 (.slice ao4 n4 c4)).run Tryd.prog w' = .ok (.string sx) w') (by kernel_rfl) (HS4.out _ (Chg.refl _ _).drew) (fun hHeld => ?_)
    refine wpAnyH_take (i := 0) (oi := { dst := some 30, op := Op.move (Operand.tmp 7), type := 4, pos := "law.go:85", after := #[], guard := none }) (v := ?_) rfl (by kernel_rfl) (by kernel_rfl) (by kernel_rfl) (fun _ _ _ h => h) (Or.inl ⟨by rfl, ?_⟩) (by assumption) ?_
    case refine_2 => (intro w hSw; (try dsimp only at hSw); go_simp; try with_reducible rfl)
    try simp only [Act.put, List.setIfInBounds_toArray, List.set_cons_zero, List.set_cons_succ]
    refine wpAnyH_take (i := 1) (oi := { dst := some 31, op := Op.unOp UnOp.not 4 (Operand.tmp 30), type := 4, pos := "law.go:85", after := #[{ on := 0, ground := Ground.data }], guard := none }) (v := ?_) rfl (by kernel_rfl) (by kernel_rfl) (by kernel_rfl) (fun _ _ _ h => h) (Or.inl ⟨by rfl, ?_⟩) (by assumption) ?_
    case refine_2 => (intro w hSw; (try dsimp only at hSw); go_simp; try with_reducible rfl)
    try simp only [Act.put, List.setIfInBounds_toArray, List.set_cons_zero, List.set_cons_succ]
    refine wpAnyH_take (i := 2) (oi := { dst := some 32, op := Op.move (Operand.tmp 31), type := 4, pos := "law.go:85", after := #[{ on := 1, ground := Ground.data }], guard := none }) (v := ?_) rfl (by kernel_rfl) (by kernel_rfl) (by kernel_rfl) (fun _ _ _ h => h) (Or.inl ⟨by rfl, ?_⟩) (by assumption) ?_
    case refine_2 => (intro w hSw; (try dsimp only at hSw); go_simp; try with_reducible rfl)
    try simp only [Act.put, List.setIfInBounds_toArray, List.set_cons_zero, List.set_cons_succ]
    refine wpAnyH_take (i := 3) (oi := { dst := some 33, op := Op.move (Operand.tmp 8), type := 2, pos := "law.go:85", after := #[{ on := 2, ground := Ground.guard }], guard := some (2, false) }) (v := ?_) rfl (by kernel_rfl) (by kernel_rfl) (by kernel_rfl) (fun _ _ _ h => h) (Or.inl ⟨by rfl, ?_⟩) (by assumption) ?_
    case refine_2 => (intro w hSw; (try dsimp only at hSw); go_simp; try with_reducible rfl)
    try simp only [Act.put, List.setIfInBounds_toArray, List.set_cons_zero, List.set_cons_succ]
    refine wpAnyH_take (i := 4) (oi := { dst := some 34, op := Op.move (Operand.tmp 10), type := 2, pos := "law.go:85", after := #[{ on := 2, ground := Ground.guard }], guard := some (2, false) }) (v := ?_) rfl (by kernel_rfl) (by kernel_rfl) (by kernel_rfl) (fun _ _ _ h => h) (Or.inl ⟨by rfl, ?_⟩) (by assumption) ?_
    case refine_2 => (intro w hSw; (try dsimp only at hSw); go_simp; try with_reducible rfl)
    try simp only [Act.put, List.setIfInBounds_toArray, List.set_cons_zero, List.set_cons_succ]
    refine wpAnyH_take (i := 5) (oi := { dst := some 35, op := Op.binOp BinOp.neq 2 (Operand.tmp 33) (Operand.tmp 34) 2, type := 4, pos := "law.go:85", after := #[{ on := 3, ground := Ground.data }, { on := 4, ground := Ground.data }, { on := 2, ground := Ground.guard }], guard := some (2, false) }) (v := ?_) rfl (by kernel_rfl) (by kernel_rfl) (by kernel_rfl) (fun _ _ _ h => h) (Or.inl ⟨by rfl, ?_⟩) (by assumption) ?_
    case refine_2 => (intro w hSw; (try dsimp only at hSw); go_simp; try with_reducible rfl)
    try simp only [Act.put, List.setIfInBounds_toArray, List.set_cons_zero, List.set_cons_succ]
    refine wpAnyH_take (i := 6) (oi := { dst := some 36, op := Op.pick (Operand.tmp 32) (Operand.const (Value.bool true)) (Operand.tmp 35), type := 4, pos := "law.go:85", after := #[{ on := 2, ground := Ground.data }, { on := 5, ground := Ground.data }], guard := none }) (v := ?_) rfl (by kernel_rfl) (by kernel_rfl) (by kernel_rfl) (fun _ _ _ h => h) (Or.inl ⟨by rfl, ?_⟩) (by assumption) ?_
    case refine_2 => (intro w hSw; (try dsimp only at hSw); go_simp; try with_reducible rfl)
    try simp only [Act.put, List.setIfInBounds_toArray, List.set_cons_zero, List.set_cons_succ]
    refine wpAnyH_take (i := 7) (oi := { dst := some 37, op := Op.move (Operand.tmp 36), type := 4, pos := "law.go:85", after := #[{ on := 6, ground := Ground.data }, { on := 2, ground := Ground.chain }], guard := none }) (v := ?_) rfl (by kernel_rfl) (by kernel_rfl) (by kernel_rfl) (fun _ _ _ h => h) (Or.inl ⟨by rfl, ?_⟩) (by assumption) ?_
    case refine_2 => (intro w hSw; (try dsimp only at hSw); go_simp; try with_reducible rfl)
    try simp only [Act.put, List.setIfInBounds_toArray, List.set_cons_zero, List.set_cons_succ]
    refine wpAnyH_take (i := 8) (oi := { dst := some 38, op := Op.move (Operand.tmp 9), type := 26, pos := "law.go:85", after := #[{ on := 7, ground := Ground.guard }], guard := some (7, false) }) (v := ?_) rfl (by kernel_rfl) (by kernel_rfl) (by kernel_rfl) (fun _ _ _ h => h) (Or.inl ⟨by rfl, ?_⟩) (by assumption) ?_
    case refine_2 => (intro w hSw; (try dsimp only at hSw); go_simp; try with_reducible rfl)
    try simp only [Act.put, List.setIfInBounds_toArray, List.set_cons_zero, List.set_cons_succ]
    refine wpAnyH_take (i := 9) (oi := { dst := some 39, op := Op.move (Operand.tmp 11), type := 26, pos := "law.go:85", after := #[{ on := 7, ground := Ground.guard }], guard := some (7, false) }) (v := ?_) rfl (by kernel_rfl) (by kernel_rfl) (by kernel_rfl) (fun _ _ _ h => h) (Or.inl ⟨by rfl, ?_⟩) (by assumption) ?_
    case refine_2 => (intro w hSw; (try dsimp only at hSw); go_simp; try with_reducible rfl)
    try simp only [Act.put, List.setIfInBounds_toArray, List.set_cons_zero, List.set_cons_succ]
    refine wpAnyH_take (i := 10) (oi := { dst := some 40, op := Op.binOp BinOp.neq 26 (Operand.tmp 38) (Operand.tmp 39) 26, type := 4, pos := "law.go:85", after := #[{ on := 8, ground := Ground.data }, { on := 9, ground := Ground.data }, { on := 7, ground := Ground.guard }], guard := some (7, false) }) (v := ?_) rfl (by kernel_rfl) (by kernel_rfl) (by kernel_rfl) (fun _ _ _ h => h) (Or.inl ⟨by rfl, ?_⟩) (by assumption) ?_
    case refine_2 => (intro w hSw; (try dsimp only at hSw); go_simp; try with_reducible rfl)
    try simp only [Act.put, List.setIfInBounds_toArray, List.set_cons_zero, List.set_cons_succ]
    refine wpAnyH_take (i := 11) (oi := { dst := some 41, op := Op.pick (Operand.tmp 37) (Operand.const (Value.bool true)) (Operand.tmp 40), type := 4, pos := "law.go:85", after := #[{ on := 7, ground := Ground.data }, { on := 10, ground := Ground.data }], guard := none }) (v := ?_) rfl (by kernel_rfl) (by kernel_rfl) (by kernel_rfl) (fun _ _ _ h => h) (Or.inl ⟨by rfl, ?_⟩) (by assumption) ?_
    case refine_2 => (intro w hSw; (try dsimp only at hSw); go_simp; try with_reducible rfl)
    try simp only [Act.put, List.setIfInBounds_toArray, List.set_cons_zero, List.set_cons_succ]
    refine wpAnyH_take (i := 12) (oi := { dst := some 42, op := Op.move (Operand.tmp 41), type := 4, pos := "law.go:85", after := #[{ on := 11, ground := Ground.data }, { on := 7, ground := Ground.chain }], guard := none }) (v := ?_) rfl (by kernel_rfl) (by kernel_rfl) (by kernel_rfl) (fun _ _ _ h => h) (Or.inl ⟨by rfl, ?_⟩) (by assumption) ?_
    case refine_2 => (intro w hSw; (try dsimp only at hSw); go_simp; try with_reducible rfl)
    try simp only [Act.put, List.setIfInBounds_toArray, List.set_cons_zero, List.set_cons_succ]
    refine wpAnyH_take (i := 13) (oi := { dst := some 43, op := Op.move (Operand.tmp 12), type := 22, pos := "law.go:85", after := #[{ on := 12, ground := Ground.guard }], guard := some (12, false) }) (v := ?_) rfl (by kernel_rfl) (by kernel_rfl) (by kernel_rfl) (fun _ _ _ h => h) (Or.inl ⟨by rfl, ?_⟩) (by assumption) ?_
    case refine_2 => (intro w hSw; (try dsimp only at hSw); go_simp; try with_reducible rfl)
    try simp only [Act.put, List.setIfInBounds_toArray, List.set_cons_zero, List.set_cons_succ]
    refine wpAnyH_take (i := 14) (oi := { dst := some 44, op := Op.convert 22 9 (Operand.tmp 43), type := 9, pos := "law.go:85", after := #[{ on := 13, ground := Ground.data }, { on := 12, ground := Ground.guard }], guard := some (12, false) }) (v := ?_) rfl (by kernel_rfl) (by kernel_rfl) (by kernel_rfl) (fun _ _ _ h => h) (Or.inl ⟨by rfl, ?_⟩) (by assumption) ?_
    case refine_2 => (intro w hSw; (try dsimp only at hSw); go_simp; try with_reducible rfl)
    try simp only [Act.put, List.setIfInBounds_toArray, List.set_cons_zero, List.set_cons_succ]
    refine wpAnyH_take (i := 15) (oi := { dst := some 45, op := Op.move (Operand.tmp 2), type := 2, pos := "law.go:85", after := #[{ on := 12, ground := Ground.guard }], guard := some (12, false) }) (v := ?_) rfl (by kernel_rfl) (by kernel_rfl) (by kernel_rfl) (fun _ _ _ h => h) (Or.inl ⟨by rfl, ?_⟩) (by assumption) ?_
    case refine_2 => (intro w hSw; (try dsimp only at hSw); go_simp; try with_reducible rfl)
    try simp only [Act.put, List.setIfInBounds_toArray, List.set_cons_zero, List.set_cons_succ]
    refine wpAnyH_ready (rs := [16]) (by kernel_rfl) (by simp) ?_
    refine AllReadyH.cons (o := { dst := some 46, op := Op.call { callee := Callee.value (Operand.func 29), args := #[Operand.tmp 45], argTypes := #[2] }, type := 22, pos := "law.go:85", after := #[{ on := 15, ground := Ground.data }, { on := 12, ground := Ground.chain }, { on := 12, ground := Ground.guard }], guard := some (12, false) }) rfl (fun K hK => ?_) AllReadyH.nil
    go_simp
    go_at_call 29
    refine (K29.out _).mono ?_
    rintro e w5 ⟨v5, rfl, ⟨⟨ao5, n5, c5, rfl⟩, k5⟩, hc5⟩
    have hw5 : Chg Non w4 w5 := Chg.two (Chg.refl _ _).drew hc5
    refine hK.out _ _ (HS4.out _ hw5) (fun hHeld2 => ?_)
    clear hK K
    try simp only [Act.put, List.setIfInBounds_toArray, List.set_cons_zero, List.set_cons_succ]
    refine wpAnyH_ready (rs := [17]) (by kernel_rfl) (by simp) ?_
    refine AllReadyH.cons (o := { dst := some 47, op := Op.convert 22 9 (Operand.tmp 46), type := 9, pos := "law.go:85", after := #[{ on := 16, ground := Ground.data }, { on := 12, ground := Ground.guard }], guard := some (12, false) }) rfl (fun K hK => ?_) AllReadyH.nil
    go_simp
    refine hK.out _ _ (HS4.out _ hw5) (fun hHeld3 => ?_)
    clear hK K
    try simp only [Act.put, List.setIfInBounds_toArray, List.set_cons_zero, List.set_cons_succ]
    refine wpAnyH_take (i := 18) (oi := { dst := some 48, op := Op.binOp BinOp.neq 9 (Operand.tmp 44) (Operand.tmp 47) 9, type := 4, pos := "law.go:85", after := #[{ on := 14, ground := Ground.data }, { on := 17, ground := Ground.data }, { on := 12, ground := Ground.guard }], guard := some (12, false) }) (v := ?_) rfl (by kernel_rfl) (by kernel_rfl) (by kernel_rfl) (fun _ _ _ h => h) (Or.inl ⟨by rfl, ?_⟩) (by assumption) ?_
    case refine_2 => (intro w hSw; (try dsimp only at hSw); go_simp; try with_reducible rfl)
    try simp only [Act.put, List.setIfInBounds_toArray, List.set_cons_zero, List.set_cons_succ]
    refine wpAnyH_take (i := 19) (oi := { dst := some 49, op := Op.pick (Operand.tmp 42) (Operand.const (Value.bool true)) (Operand.tmp 48), type := 4, pos := "law.go:85", after := #[{ on := 12, ground := Ground.data }, { on := 18, ground := Ground.data }], guard := none }) (v := ?_) rfl (by kernel_rfl) (by kernel_rfl) (by kernel_rfl) (fun _ _ _ h => h) (Or.inl ⟨by rfl, ?_⟩) (by assumption) ?_
    case refine_2 => (intro w hSw; (try dsimp only at hSw); go_simp; try with_reducible rfl)
    try simp only [Act.put, List.setIfInBounds_toArray, List.set_cons_zero, List.set_cons_succ]
    refine wpAnyH_done (by kernel_rfl) ?_ _
    refine NoPanic.normal ?_
    all_goals
      go_wp2_with fail
      go_meet
      exact ⟨by simp, hw5⟩
  case rest =>
  obtain ⟨rfl, hwc⟩ := hcut
  have C5 : Hid (Chg Non w wc) := C4.out.two hwc.out
  clear HS4 K29
  rcases HQ4.out.back with ⟨hnil, hout⟩ | ⟨g, n, body, hlb, hb13, hb15, htim⟩
  · have hn0 : n4 = 0 := by rw [HN4.out, hnil]; rfl
    subst hn0
    clear hnil
    by_cases e1 : t < -62135596800
    · have d1 : decide (t < -62135596800) = true := by simpa using e1
      clear hout e1
      go_wp2
      go_ret
      exact ⟨rfl, C5.out⟩
    · have d1 : decide (t < -62135596800) = false := by simpa using e1
      have d2 : decide (253402300799 < t) = true := by simp; omega
      clear hout e1
      go_wp2
      go_ret
      exact ⟨rfl, C5.out⟩
  · obtain ⟨b, o, c, hsl, g1, g2, h3⟩ := HR4.out.bs (by rw [hlb]; simp)
    injection hsl with e1 e2 e3
    subst e1
    subst e3
    rw [← HN4.out] at g1
    have hn15 : 15 ≤ n4 := by rw [HN4.out, hlb]; simp; omega
    have H3 : Hid (∀ q, Chg Non w4 q → q.cell? ⟨b, o, none⟩ = some (.int .u8 g)) := fun q hq => (h3.chg hq) 0 g (by rw [hlb]; rfl)
    have K26' : Hid (∀ q, Chg Non w4 q → Calls Tryd.prog 26 #[.int .u8 g, .slice (some ⟨b, o + 2, none⟩) (n4 - 2) (c4 - 2)] q fun e w' => e = .returned (.tuple #[.int .i64 t, .int .i64 0]) ∧ Chg Non q w') := fun q hq => by
      have := time_any g _ body q (by
        have h6 := drop_own (n := n4) (c := c4) (h3.chg hq) HN4.out g1 g2 2 (by omega)
        rw [hlb] at h6
        exact h6)
      rw [htim] at this
      exact this
    have hc2 : ¬ c4 = 2 := by omega
    have m1 : (0 : Int) < (n4 : Int) := by omega
    have m2 : (2 : Int) ≤ (n4 : Int) := by omega
    have m3 : 2 ≤ n4 := by omega
    have m4 : 2 ≤ c4 := by omega
    have m5 : ((n4 : Int) == 0) = false := by simp; omega
    have m6 : 0 < n4 := by omega
    clear hlb h3 htim hb13 hb15 HR4 e2 HQ4
    have k6 := H3.out _ hwc.out
    go_upto_region 9 with fail
    refine wp_region_noPanic ?_
    go_region_held3 (fun w' => w'.cell? ⟨b, o, none⟩ = some (.int .u8 g))
      (first | exact H3.out _ hwc.out.drew | exact H3.out _ hw6 | exact H3.out _ hw6.drew)
      ((go_at_call 26; refine (K26'.out _ (by first | exact hwc.out.drew | exact hwc.out)).mono ?_; rintro e w6 ⟨rfl, hc6⟩; have hw6 : Chg Non w4 w6 := Chg.two (by first | exact hwc.out.drew | exact hwc.out) hc6))
    refine NoPanic.normal ?_
    go_wp2_with fail
    go_ret
    exact ⟨by simp, C4.out.two hw6⟩
end Go.Proofs.YtnidfbcninkglaaDoor
