/-
  get of names, of texts, of shares.
-/
import Derived.Test.YtdhckndehijemaaGa
import Derived.Test.YtdhckndehijemaaLx
import Derived.Test.YtdhckndehijemaaLs
namespace Go.Proofs.Ytdhckndehijemaa
open Go.RowKit
set_option linter.unusedVariables false
set_option maxRecDepth 100000

set_option maxHeartbeats 1600000 in
theorem name_any (r : Nat) (s : St) (w : World) (h : RS w r s) : Calls Try.prog 141 #[.pointer (some ⟨r, 0, none⟩)] w fun e w' => ∃ S x, e = .returned (.string S) ∧ RP .str pName w w' r s [.string S] x := by
  go_enter Try.func141, Try.ntmps141
  go_wp2_with (go_at_call 187; refine (exactly_any 1 2 w).mono ?_)
  first | (rintro e w2 rfl hc) | (rintro e w2 ⟨rfl, hc⟩)
  have h2 := listH_any r 2 1 1 2 1 1 rfl rfl rfl (by decide) (by decide) s w2 (h.non hc)
  have C2 : Hid (Chg Non w w2) := hc
  clear hc h
  go_wp2_with (go_at_call 210; refine h2.mono ?_)
  rintro e w3 ⟨v, x0, rfl, hx⟩
  obtain ⟨x, hxx⟩ : ∃ x : List (List Int), x = x0 := ⟨_, rfl⟩
  subst hxx
  obtain ⟨ao, L, c, rfl⟩ := hx.slice
  have H2 : Hid (RP (.lst .str) (pList 2 1 1 pHost) w w3 r s [.slice ao L c] x) := hx.ahead C2.out
  have hr := hx.rel
  clear hx h2
  cases x with
  | nil =>
    obtain ⟨ao', c', e'⟩ := hr.lstNil
    injection e' with e1 e2 e3
    subst e2
    clear hr e1 e3
    go_wp2
    go_ret
    exact ⟨⟨#[]⟩, [], rfl, ⟨rfl, Byt.nil⟩, H2.out.ps.map (fun l : List (List Int) => l.headD [])⟩
  | cons y l =>
    obtain ⟨N, hN⟩ : ∃ N, N = (y :: l).length := ⟨_, rfl⟩
    have hp : 0 < N := by rw [hN]; simp
    obtain ⟨b, o, c', e', q1, q2, -, q3⟩ := hr.at hN hp (by decide)
    injection e' with e1 e2 e3
    subst e1; subst e2; subst e3
    obtain ⟨us, r1, r2⟩ := q3 0 y rfl
    obtain ⟨rfl, hb⟩ := r1
    obtain ⟨T, hT⟩ : ∃ T, T = strOfNums y := ⟨_, rfl⟩
    rw [← hT] at r2
    have HT : Hid (T = strOfNums y ∧ Byt y) := ⟨hT, hb⟩
    have g0 : w3.cell? ⟨b, o, none⟩ = some (.string T) := by have := r2 0 _ rfl; simpa using this
    have d0 : ¬ L = 0 := by omega
    have hb0 : (0 : Int) < (L : Int) := by omega
    clear hr q3 r2 hb hT hN
    go_wp2
    go_ret
    exact ⟨T, y, rfl, ⟨by rw [HT.out.1], HT.out.2⟩, H2.out.ps.map (fun l : List (List Int) => l.headD [])⟩


set_option maxHeartbeats 3200000 in
theorem getNm_any (v : Value) (xs : List Int) (w : World) (h : Bt (Bel w.heap.size) w v xs) : Calls Try.prog 140 #[v, .func (.func 141) #[] #[]] w fun e w' => ∃ S al, e = .returned (.tuple #[.string S, .int .i64 al]) ∧ GP (.str) (pName) [] w w' xs [.string S] al := by
  obtain ⟨w1, hw1⟩ : ∃ w1, w1 = w.alloc (.cells #[v, .int .i64 0] 227) := ⟨_, rfl⟩
  have R1 : RS w1 w.heap.size (some (xs, false)) := by rw [hw1]; exact RS.begin h
  have C1 : Hid (Chg Non w w1) := by rw [hw1]; exact (Chg.refl _ _).alloc _
  have HW1 : Hid (w1 = w.alloc (.cells #[v, .int .i64 0] 227)) := hw1
  obtain ⟨ao0, N0, c0, rfl⟩ : ∃ ao n c, v = .slice ao n c := by
    obtain ⟨h1, -⟩ := h
    obtain ⟨ao, n, c, e, -⟩ := h1.shape
    exact ⟨ao, n, c, e⟩
  have HP := name_any w.heap.size (some (xs, false)) w1 R1
  clear h R1 hw1
  go_enter Try.func140, Try.ntmps140
  go_wp2_with fail
  rw [← HW1.out]
  refine HP.mono ?_
  rintro e w2 ⟨S, x, rfl, hx⟩
  obtain ⟨s', q1, q2⟩ := hx.ps.st
  obtain ⟨vr, al, ys, m1, m2⟩ := q1
  obtain ⟨ao9, N, c9, rfl, hN, -, -⟩ := m1.rd.shape
  obtain ⟨z0, z1, f0, f1⟩ := m1.facts
  have HX : Hid (RP (.str) (pName) w1 w2 w.heap.size (some (xs, false)) [.string S] x ∧ Res (pName) (some (xs, false)) x s' ∧ AB s' ys al ∧ N = ys.length) := ⟨hx, q2, m2, hN⟩
  have HR := refuse_any w.heap.size 50 _ al ys w2 m1
  rw [tell50] at HR
  clear hx q2 m2 hN m1 HP
  by_cases hz : N = 0
  · subst hz
    have HE : Hid (ys = []) := List.eq_nil_of_length_eq_zero HX.out.2.2.2.symm
    by_cases ha : al = 0
    · subst ha
      clear HR
      go_wp2_with fail
      go_ret2
      have hk := HX.out.2.2.1
      rw [HE.out] at hk
      exact ⟨S, 0, rfl, GP.ok HX.out.1 HX.out.2.1 hk C1.out (Chg.refl _ _)⟩
    · have d1 : (al != 0) = true := by simpa using ha
      have HA : Hid (al ≠ 0) := ha
      clear HR ha
      go_wp2_with fail
      go_quiet (fail)
      go_wp2_with fail
      go_ret2
      exact ⟨⟨#[]⟩, al, rfl, GP.bad HX.out.1 HX.out.2.1 HX.out.2.2.1 C1.out ((Chg.refl _ _).drewN _) (.inr ⟨HE.out, HA.out, rfl⟩) (Rel.empty _ _)⟩
  · have d0 : decide (0 < N) = true := by simp; omega
    have HE : Hid (ys ≠ []) := by intro e; have := HX.out.2.2.2; rw [e] at this; exact hz this
    clear hz
    go_wp2_with (go_at_call 182; refine HR.mono ?_)
    rintro e w3 ⟨rfl, k1, k2⟩
    have HK : Hid (Chg (One w.heap.size) w2 w3) := k2
    clear z0 z1 f0 f1 HR k2
    obtain ⟨z0, z1, f0, f1⟩ := k1.facts
    clear k1
    go_wp2_with fail
    go_quiet (fail)
    go_wp2_with fail
    go_ret2
    exact ⟨⟨#[]⟩, 50, rfl, GP.bad HX.out.1 HX.out.2.1 HX.out.2.2.1 C1.out (HK.out.drewN _) (.inl ⟨HE.out, rfl⟩) (Rel.empty _ _)⟩

set_option maxHeartbeats 800000 in
theorem getName_any (v : Value) (xs : List Int) (w : World) (h : Bt (Bel w.heap.size) w v xs) : Calls Try.prog 49 #[v] w fun e w' => ∃ S al, e = .returned (.tuple #[.string S, .int .i64 al]) ∧ GP (.str) (pName) [] w w' xs [.string S] al := by
  have hp := getNm_any v xs w h
  clear h
  go_enter Try.func49, Try.ntmps49
  go_wp2_with (go_at_call 140; refine hp.mono ?_)
  rintro e w2 ⟨S, al, rfl, hq⟩
  have HQ : Hid (GP (.str) (pName) [] w w2 xs [.string S] al) := hq
  clear hq hp
  go_wp2
  go_ret2
  exact ⟨S, al, rfl, HQ.out⟩

set_option maxHeartbeats 3200000 in
theorem getTs_any (v : Value) (xs : List Int) (w : World) (h : Bt (Bel w.heap.size) w v xs) : Calls Try.prog 146 #[v, .func (.func 147) #[] #[]] w fun e w' => ∃ ao L c al, e = .returned (.tuple #[.slice ao L c, .int .i64 al]) ∧ GP (.lst .str) (pList 2 1 16777216 (pBytes 1 1 16777216)) [] w w' xs [.slice ao L c] al := by
  obtain ⟨w1, hw1⟩ : ∃ w1, w1 = w.alloc (.cells #[v, .int .i64 0] 227) := ⟨_, rfl⟩
  have R1 : RS w1 w.heap.size (some (xs, false)) := by rw [hw1]; exact RS.begin h
  have C1 : Hid (Chg Non w w1) := by rw [hw1]; exact (Chg.refl _ _).alloc _
  have HW1 : Hid (w1 = w.alloc (.cells #[v, .int .i64 0] 227)) := hw1
  obtain ⟨ao0, N0, c0, rfl⟩ : ∃ ao n c, v = .slice ao n c := by
    obtain ⟨h1, -⟩ := h
    obtain ⟨ao, n, c, e, -⟩ := h1.shape
    exact ⟨ao, n, c, e⟩
  have HP := protocols_any w.heap.size (some (xs, false)) w1 R1
  clear h R1 hw1
  go_enter Try.func146, Try.ntmps146
  go_wp2_with fail
  rw [← HW1.out]
  refine HP.mono ?_
  rintro e w2 ⟨ao, L, c, x, rfl, hx⟩
  obtain ⟨s', q1, q2⟩ := hx.ps.st
  obtain ⟨vr, al, ys, m1, m2⟩ := q1
  obtain ⟨ao9, N, c9, rfl, hN, -, -⟩ := m1.rd.shape
  obtain ⟨z0, z1, f0, f1⟩ := m1.facts
  have HX : Hid (RP (.lst .str) (pList 2 1 16777216 (pBytes 1 1 16777216)) w1 w2 w.heap.size (some (xs, false)) [.slice ao L c] x ∧ Res (pList 2 1 16777216 (pBytes 1 1 16777216)) (some (xs, false)) x s' ∧ AB s' ys al ∧ N = ys.length) := ⟨hx, q2, m2, hN⟩
  have HR := refuse_any w.heap.size 50 _ al ys w2 m1
  rw [tell50] at HR
  clear hx q2 m2 hN m1 HP
  by_cases hz : N = 0
  · subst hz
    have HE : Hid (ys = []) := List.eq_nil_of_length_eq_zero HX.out.2.2.2.symm
    by_cases ha : al = 0
    · subst ha
      clear HR
      go_wp2_with fail
      go_ret2
      have hk := HX.out.2.2.1
      rw [HE.out] at hk
      exact ⟨ao, L, c, 0, rfl, GP.ok HX.out.1 HX.out.2.1 hk C1.out (Chg.refl _ _)⟩
    · have d1 : (al != 0) = true := by simpa using ha
      have HA : Hid (al ≠ 0) := ha
      clear HR ha
      go_wp2_with fail
      go_quiet (fail)
      go_wp2_with fail
      go_ret2
      exact ⟨none, 0, 0, al, rfl, GP.bad HX.out.1 HX.out.2.1 HX.out.2.2.1 C1.out ((Chg.refl _ _).drewN _) (.inr ⟨HE.out, HA.out, rfl⟩) (Rel.nil _ _ _)⟩
  · have d0 : decide (0 < N) = true := by simp; omega
    have HE : Hid (ys ≠ []) := by intro e; have := HX.out.2.2.2; rw [e] at this; exact hz this
    clear hz
    go_wp2_with (go_at_call 182; refine HR.mono ?_)
    rintro e w3 ⟨rfl, k1, k2⟩
    have HK : Hid (Chg (One w.heap.size) w2 w3) := k2
    clear z0 z1 f0 f1 HR k2
    obtain ⟨z0, z1, f0, f1⟩ := k1.facts
    clear k1
    go_wp2_with fail
    go_quiet (fail)
    go_wp2_with fail
    go_ret2
    exact ⟨none, 0, 0, 50, rfl, GP.bad HX.out.1 HX.out.2.1 HX.out.2.2.1 C1.out (HK.out.drewN _) (.inl ⟨HE.out, rfl⟩) (Rel.nil _ _ _)⟩

set_option maxHeartbeats 800000 in
theorem getALPN_any (v : Value) (xs : List Int) (w : World) (h : Bt (Bel w.heap.size) w v xs) : Calls Try.prog 56 #[v] w fun e w' => ∃ ao L c al, e = .returned (.tuple #[.slice ao L c, .int .i64 al]) ∧ GP (.lst .str) (pList 2 1 16777216 (pBytes 1 1 16777216)) [] w w' xs [.slice ao L c] al := by
  have hp := getTs_any v xs w h
  clear h
  go_enter Try.func56, Try.ntmps56
  go_wp2_with (go_at_call 146; refine hp.mono ?_)
  rintro e w2 ⟨ao, L, c, al, rfl, hq⟩
  have HQ : Hid (GP (.lst .str) (pList 2 1 16777216 (pBytes 1 1 16777216)) [] w w2 xs [.slice ao L c] al) := hq
  clear hq hp
  go_wp2
  go_ret2
  exact ⟨ao, L, c, al, rfl, HQ.out⟩

set_option maxHeartbeats 3200000 in
theorem getSs_any (v : Value) (xs : List Int) (w : World) (h : Bt (Bel w.heap.size) w v xs) : Calls Try.prog 150 #[v, .func (.func 151) #[] #[]] w fun e w' => ∃ ao L c al, e = .returned (.tuple #[.slice ao L c, .int .i64 al]) ∧ GP (.lst tExt) (pList 2 0 16777216 pShare) [] w w' xs [.slice ao L c] al := by
  obtain ⟨w1, hw1⟩ : ∃ w1, w1 = w.alloc (.cells #[v, .int .i64 0] 227) := ⟨_, rfl⟩
  have R1 : RS w1 w.heap.size (some (xs, false)) := by rw [hw1]; exact RS.begin h
  have C1 : Hid (Chg Non w w1) := by rw [hw1]; exact (Chg.refl _ _).alloc _
  have HW1 : Hid (w1 = w.alloc (.cells #[v, .int .i64 0] 227)) := hw1
  obtain ⟨ao0, N0, c0, rfl⟩ : ∃ ao n c, v = .slice ao n c := by
    obtain ⟨h1, -⟩ := h
    obtain ⟨ao, n, c, e, -⟩ := h1.shape
    exact ⟨ao, n, c, e⟩
  have HP := shares_any w.heap.size (some (xs, false)) w1 R1
  clear h R1 hw1
  go_enter Try.func150, Try.ntmps150
  go_wp2_with fail
  rw [← HW1.out]
  refine HP.mono ?_
  rintro e w2 ⟨ao, L, c, x, rfl, hx⟩
  obtain ⟨s', q1, q2⟩ := hx.ps.st
  obtain ⟨vr, al, ys, m1, m2⟩ := q1
  obtain ⟨ao9, N, c9, rfl, hN, -, -⟩ := m1.rd.shape
  obtain ⟨z0, z1, f0, f1⟩ := m1.facts
  have HX : Hid (RP (.lst tExt) (pList 2 0 16777216 pShare) w1 w2 w.heap.size (some (xs, false)) [.slice ao L c] x ∧ Res (pList 2 0 16777216 pShare) (some (xs, false)) x s' ∧ AB s' ys al ∧ N = ys.length) := ⟨hx, q2, m2, hN⟩
  have HR := refuse_any w.heap.size 50 _ al ys w2 m1
  rw [tell50] at HR
  clear hx q2 m2 hN m1 HP
  by_cases hz : N = 0
  · subst hz
    have HE : Hid (ys = []) := List.eq_nil_of_length_eq_zero HX.out.2.2.2.symm
    by_cases ha : al = 0
    · subst ha
      clear HR
      go_wp2_with fail
      go_ret2
      have hk := HX.out.2.2.1
      rw [HE.out] at hk
      exact ⟨ao, L, c, 0, rfl, GP.ok HX.out.1 HX.out.2.1 hk C1.out (Chg.refl _ _)⟩
    · have d1 : (al != 0) = true := by simpa using ha
      have HA : Hid (al ≠ 0) := ha
      clear HR ha
      go_wp2_with fail
      go_quiet (fail)
      go_wp2_with fail
      go_ret2
      exact ⟨none, 0, 0, al, rfl, GP.bad HX.out.1 HX.out.2.1 HX.out.2.2.1 C1.out ((Chg.refl _ _).drewN _) (.inr ⟨HE.out, HA.out, rfl⟩) (Rel.nil _ _ _)⟩
  · have d0 : decide (0 < N) = true := by simp; omega
    have HE : Hid (ys ≠ []) := by intro e; have := HX.out.2.2.2; rw [e] at this; exact hz this
    clear hz
    go_wp2_with (go_at_call 182; refine HR.mono ?_)
    rintro e w3 ⟨rfl, k1, k2⟩
    have HK : Hid (Chg (One w.heap.size) w2 w3) := k2
    clear z0 z1 f0 f1 HR k2
    obtain ⟨z0, z1, f0, f1⟩ := k1.facts
    clear k1
    go_wp2_with fail
    go_quiet (fail)
    go_wp2_with fail
    go_ret2
    exact ⟨none, 0, 0, 50, rfl, GP.bad HX.out.1 HX.out.2.1 HX.out.2.2.1 C1.out (HK.out.drewN _) (.inl ⟨HE.out, rfl⟩) (Rel.nil _ _ _)⟩

set_option maxHeartbeats 800000 in
theorem getShares_any (v : Value) (xs : List Int) (w : World) (h : Bt (Bel w.heap.size) w v xs) : Calls Try.prog 61 #[v] w fun e w' => ∃ ao L c al, e = .returned (.tuple #[.slice ao L c, .int .i64 al]) ∧ GP (.lst tExt) (pList 2 0 16777216 pShare) [] w w' xs [.slice ao L c] al := by
  have hp := getSs_any v xs w h
  clear h
  go_enter Try.func61, Try.ntmps61
  go_wp2_with (go_at_call 150; refine hp.mono ?_)
  rintro e w2 ⟨ao, L, c, al, rfl, hq⟩
  have HQ : Hid (GP (.lst tExt) (pList 2 0 16777216 pShare) [] w w2 xs [.slice ao L c] al) := hq
  clear hq hp
  go_wp2
  go_ret2
  exact ⟨ao, L, c, al, rfl, HQ.out⟩
end Go.Proofs.Ytdhckndehijemaa
