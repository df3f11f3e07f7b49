/-
  The document's Time, for any bytes.
-/
import Derived.Test.YtnidfbcninkglaaDoorTr2
import Derived.Test.YtnidfbcninkglaaDoorTr3
import Derived.Test.YtnidfbcninkglaaDoorTr4
import Derived.Test.YtnidfbcninkglaaDoorTr5
namespace Go.Proofs.YtnidfbcninkglaaDoor
open Go.RowKit
set_option linter.unusedVariables false
set_option maxRecDepth 100000

set_option maxHeartbeats 1600000 in
theorem rt_tag (t : Int) (v : Value) (w : World) (h1 : ¬ t = 23) (h2 : ¬ t = 24) :
    Calls Tryd.prog 27 #[.int .u8 t, v] w fun e w' => e = .returned (.tuple #[.int .i64 0, .int .i64 144]) ∧ Chg Non w w' := by
  have d1 : (t == 24) = false := by simpa using h2
  have d2 : (t != 23) = true := by simpa using h1
  have d3 : (t != 24) = true := by simpa using h2
  clear h1 h2
  go_enter Tryd.func27, Tryd.ntmps27
  go_wp2
  go_ret2
  exact ⟨rfl, Chg.refl _ _⟩


set_option maxHeartbeats 1600000 in
theorem rt_len23 (ao : Option Addr) (n c : Nat) (w : World) (h1 : ¬ n = 13) :
    Calls Tryd.prog 27 #[.int .u8 23, .slice ao n c] w fun e w' => e = .returned (.tuple #[.int .i64 0, .int .i64 144]) ∧ Chg Non w w' := by
  have d1 : ((n : Int) != 13) = true := by simp; omega
  clear h1
  go_enter Tryd.func27, Tryd.ntmps27
  go_wp2
  go_ret2
  exact ⟨rfl, Chg.refl _ _⟩

set_option maxHeartbeats 1600000 in
theorem rt_zed23 (b o c : Nat) (z : Int) (w : World) (hc : 13 ≤ c) (h1 : w.cell? ⟨b, o + 12, none⟩ = some (.int .u8 z)) (h2 : ¬ z = 90) :
    Calls Tryd.prog 27 #[.int .u8 23, .slice (some ⟨b, o, none⟩) 13 c] w fun e w' => e = .returned (.tuple #[.int .i64 0, .int .i64 144]) ∧ Chg Non w w' := by
  have d1 : (z != 90) = true := by simpa using h2
  clear h2
  go_enter Tryd.func27, Tryd.ntmps27
  go_wp2
  go_ret2
  exact ⟨rfl, Chg.refl _ _⟩


set_option maxHeartbeats 1600000 in
theorem rt_len24 (ao : Option Addr) (n c : Nat) (w : World) (h1 : ¬ n = 15) :
    Calls Tryd.prog 27 #[.int .u8 24, .slice ao n c] w fun e w' => e = .returned (.tuple #[.int .i64 0, .int .i64 144]) ∧ Chg Non w w' := by
  have d1 : ((n : Int) != 15) = true := by simp; omega
  clear h1
  go_enter Tryd.func27, Tryd.ntmps27
  go_wp2
  go_ret2
  exact ⟨rfl, Chg.refl _ _⟩

set_option maxHeartbeats 1600000 in
theorem rt_zed24 (b o c : Nat) (z : Int) (w : World) (hc : 15 ≤ c) (h1 : w.cell? ⟨b, o + 14, none⟩ = some (.int .u8 z)) (h2 : ¬ z = 90) :
    Calls Tryd.prog 27 #[.int .u8 24, .slice (some ⟨b, o, none⟩) 15 c] w fun e w' => e = .returned (.tuple #[.int .i64 0, .int .i64 144]) ∧ Chg Non w w' := by
  have d1 : (z != 90) = true := by simpa using h2
  clear h2
  go_enter Tryd.func27, Tryd.ntmps27
  go_wp2
  go_ret2
  exact ⟨rfl, Chg.refl _ _⟩


theorem tim_zero : timL [0, 0, 0, 0, 0, 0, 0, 0, 0, 0, 0, 0, 0, 0, 0] = (0, 144) := by
  rw [timL_eq, show okT [0, 0, 0, 0, 0, 0, 0, 0, 0, 0, 0, 0, 0, 0, 0] = false by decide]
  rfl
theorem timL_no {t0 t1 t2 t3 t4 t5 t6 t7 t8 t9 t10 t11 t12 t13 t14 : Int} (h : okT [t0, t1, t2, t3, t4, t5, t6, t7, t8, t9, t10, t11, t12, t13, t14] = false) : timL [t0, t1, t2, t3, t4, t5, t6, t7, t8, t9, t10, t11, t12, t13, t14] = (0, 144) := by
  rw [timL_eq, h]
  rfl
theorem okT_z {t0 t1 t2 t3 t4 t5 t6 t7 t8 t9 t10 t11 t12 t13 t14 : Int} (h : ¬ t14 = 90) : okT [t0, t1, t2, t3, t4, t5, t6, t7, t8, t9, t10, t11, t12, t13, t14] = false := by
  simp [okT, h]
theorem okT_yes {t0 t1 t2 t3 t4 t5 t6 t7 t8 t9 t10 t11 t12 t13 t14 : Int} (d0 : isDg t0 = true) (d1 : isDg t1 = true) (d2 : isDg t2 = true) (d3 : isDg t3 = true) (d4 : isDg t4 = true) (d5 : isDg t5 = true) (d6 : isDg t6 = true) (d7 : isDg t7 = true) (d8 : isDg t8 = true) (d9 : isDg t9 = true) (d10 : isDg t10 = true) (d11 : isDg t11 = true) (d12 : isDg t12 = true) (d13 : isDg t13 = true) (h : t14 = 90) : okT [t0, t1, t2, t3, t4, t5, t6, t7, t8, t9, t10, t11, t12, t13, t14] = true := by
  simp [okT, h, d0, d1, d2, d3, d4, d5, d6, d7, d8, d9, d10, d11, d12, d13]

theorem long_any (t0 t1 t2 t3 t4 t5 t6 t7 t8 t9 t10 t11 t12 t13 t14 : Int) (hb : Byt [t0, t1, t2, t3, t4, t5, t6, t7, t8, t9, t10, t11, t12, t13, t14]) (v : Value) (w : World) (hv : Rd w v [t0, t1, t2, t3, t4, t5, t6, t7, t8, t9, t10, t11, t12, t13, t14]) :
    Calls Tryd.prog 27 #[.int .u8 24, v] w fun e w' => e = .returned (.tuple #[.int .i64 (timL [t0, t1, t2, t3, t4, t5, t6, t7, t8, t9, t10, t11, t12, t13, t14]).1, .int .i64 (timL [t0, t1, t2, t3, t4, t5, t6, t7, t8, t9, t10, t11, t12, t13, t14]).2]) ∧ Chg Non w w' := by
  by_cases hz : t14 = 90
  · have hR0 : ∀ i, i < 14 → isDg (gD [t0, t1, t2, t3, t4, t5, t6, t7, t8, t9, t10, t11, t12, t13, t14] i) = false → timL [t0, t1, t2, t3, t4, t5, t6, t7, t8, t9, t10, t11, t12, t13, t14] = (0, 144) := by
      intro i hi h
      refine timL_no (okT_no (x := gD [t0, t1, t2, t3, t4, t5, t6, t7, t8, t9, t10, t11, t12, t13, t14] i) hi ?_ h)
      unfold gD
      rw [List.getD_eq_getElem?_getD, List.getElem?_eq_getElem (by simp; omega)]
      rfl
    have hR1 : (∀ i, i < 14 → isDg (gD [t0, t1, t2, t3, t4, t5, t6, t7, t8, t9, t10, t11, t12, t13, t14] i) = true) → timL [t0, t1, t2, t3, t4, t5, t6, t7, t8, t9, t10, t11, t12, t13, t14] = (if rightB (100 * cv [t0, t1, t2, t3, t4, t5, t6, t7, t8, t9, t10, t11, t12, t13, t14] 14 0 + cv [t0, t1, t2, t3, t4, t5, t6, t7, t8, t9, t10, t11, t12, t13, t14] 14 1) (cv [t0, t1, t2, t3, t4, t5, t6, t7, t8, t9, t10, t11, t12, t13, t14] 14 2) (cv [t0, t1, t2, t3, t4, t5, t6, t7, t8, t9, t10, t11, t12, t13, t14] 14 3) (cv [t0, t1, t2, t3, t4, t5, t6, t7, t8, t9, t10, t11, t12, t13, t14] 14 4) (cv [t0, t1, t2, t3, t4, t5, t6, t7, t8, t9, t10, t11, t12, t13, t14] 14 5) (cv [t0, t1, t2, t3, t4, t5, t6, t7, t8, t9, t10, t11, t12, t13, t14] 14 6) then (secT (100 * cv [t0, t1, t2, t3, t4, t5, t6, t7, t8, t9, t10, t11, t12, t13, t14] 14 0 + cv [t0, t1, t2, t3, t4, t5, t6, t7, t8, t9, t10, t11, t12, t13, t14] 14 1) (cv [t0, t1, t2, t3, t4, t5, t6, t7, t8, t9, t10, t11, t12, t13, t14] 14 2) (cv [t0, t1, t2, t3, t4, t5, t6, t7, t8, t9, t10, t11, t12, t13, t14] 14 3) (cv [t0, t1, t2, t3, t4, t5, t6, t7, t8, t9, t10, t11, t12, t13, t14] 14 4) (cv [t0, t1, t2, t3, t4, t5, t6, t7, t8, t9, t10, t11, t12, t13, t14] 14 5) (cv [t0, t1, t2, t3, t4, t5, t6, t7, t8, t9, t10, t11, t12, t13, t14] 14 6), 0) else (0, 144)) := by
      intro h
      have d0 : isDg t0 = true := h 0 (by omega)
      have d1 : isDg t1 = true := h 1 (by omega)
      have d2 : isDg t2 = true := h 2 (by omega)
      have d3 : isDg t3 = true := h 3 (by omega)
      have d4 : isDg t4 = true := h 4 (by omega)
      have d5 : isDg t5 = true := h 5 (by omega)
      have d6 : isDg t6 = true := h 6 (by omega)
      have d7 : isDg t7 = true := h 7 (by omega)
      have d8 : isDg t8 = true := h 8 (by omega)
      have d9 : isDg t9 = true := h 9 (by omega)
      have d10 : isDg t10 = true := h 10 (by omega)
      have d11 : isDg t11 = true := h 11 (by omega)
      have d12 : isDg t12 = true := h 12 (by omega)
      have d13 : isDg t13 = true := h 13 (by omega)
      rw [timL_eq, okT_yes d0 d1 d2 d3 d4 d5 d6 d7 d8 d9 d10 d11 d12 d13 hz]
      rfl
    by_cases hF : cv [t0, t1, t2, t3, t4, t5, t6, t7, t8, t9, t10, t11, t12, t13, t14] 14 0 < 50
    · exact rt_l0 [t0, t1, t2, t3, t4, t5, t6, t7, t8, t9, t10, t11, t12, t13, t14] hb rfl hz v w hv _ hF hR0 hR1
    · exact rt_l1 [t0, t1, t2, t3, t4, t5, t6, t7, t8, t9, t10, t11, t12, t13, t14] hb rfl hz v w hv _ (by omega) hR0 hR1
  · rw [timL_no (okT_z hz)]
    obtain ⟨b, o, c, rfl, g1, g2, h3⟩ := hv.bs (by simp)
    exact rt_zed24 b o c t14 w g1 (h3 14 t14 rfl) hz

theorem short_any' (t2 t3 t4 t5 t6 t7 t8 t9 t10 t11 t12 t13 t14 : Int) (hb : Byt [t2, t3, t4, t5, t6, t7, t8, t9, t10, t11, t12, t13, t14]) (v : Value) (w : World) (hv : Rd w v [t2, t3, t4, t5, t6, t7, t8, t9, t10, t11, t12, t13, t14]) :
    Calls Tryd.prog 27 #[.int .u8 23, v] w fun e w' => e = .returned (.tuple #[.int .i64 (timL (if t2 < 53 then 50 :: 48 :: [t2, t3, t4, t5, t6, t7, t8, t9, t10, t11, t12, t13, t14] else 49 :: 57 :: [t2, t3, t4, t5, t6, t7, t8, t9, t10, t11, t12, t13, t14])).1, .int .i64 (timL (if t2 < 53 then 50 :: 48 :: [t2, t3, t4, t5, t6, t7, t8, t9, t10, t11, t12, t13, t14] else 49 :: 57 :: [t2, t3, t4, t5, t6, t7, t8, t9, t10, t11, t12, t13, t14])).2]) ∧ Chg Non w w' := by
  by_cases hz : t14 = 90
  · have hR0 : ∀ i, i < 12 → isDg (gD [t2, t3, t4, t5, t6, t7, t8, t9, t10, t11, t12, t13, t14] i) = false → timL (if t2 < 53 then 50 :: 48 :: [t2, t3, t4, t5, t6, t7, t8, t9, t10, t11, t12, t13, t14] else 49 :: 57 :: [t2, t3, t4, t5, t6, t7, t8, t9, t10, t11, t12, t13, t14]) = (0, 144) := by
      intro i hi h
      have hx : [t2, t3, t4, t5, t6, t7, t8, t9, t10, t11, t12, t13, t14][i]? = some (gD [t2, t3, t4, t5, t6, t7, t8, t9, t10, t11, t12, t13, t14] i) := by
        unfold gD
        rw [List.getD_eq_getElem?_getD, List.getElem?_eq_getElem (by simp; omega)]
        rfl
      split
      · exact timL_no (okT_no (i := i + 2) (x := gD [t2, t3, t4, t5, t6, t7, t8, t9, t10, t11, t12, t13, t14] i) (by omega) hx h)
      · exact timL_no (okT_no (i := i + 2) (x := gD [t2, t3, t4, t5, t6, t7, t8, t9, t10, t11, t12, t13, t14] i) (by omega) hx h)
    by_cases hF : cv [t2, t3, t4, t5, t6, t7, t8, t9, t10, t11, t12, t13, t14] 12 0 < 50
    · refine rt_s0 [t2, t3, t4, t5, t6, t7, t8, t9, t10, t11, t12, t13, t14] hb rfl hz v w hv _ hF hR0 (fun h => ?_)
      have d2 : isDg t2 = true := h 0 (by omega)
      have d3 : isDg t3 = true := h 1 (by omega)
      have d4 : isDg t4 = true := h 2 (by omega)
      have d5 : isDg t5 = true := h 3 (by omega)
      have d6 : isDg t6 = true := h 4 (by omega)
      have d7 : isDg t7 = true := h 5 (by omega)
      have d8 : isDg t8 = true := h 6 (by omega)
      have d9 : isDg t9 = true := h 7 (by omega)
      have d10 : isDg t10 = true := h 8 (by omega)
      have d11 : isDg t11 = true := h 9 (by omega)
      have d12 : isDg t12 = true := h 10 (by omega)
      have d13 : isDg t13 = true := h 11 (by omega)
      have e53 : t2 < 53 := by
        have hF' : twoI t2 t3 < 50 := hF
        simp [isDg] at d2 d3
        unfold twoI at hF'
        omega
      rw [if_pos e53, timL_eq, okT_yes (by decide) (by decide) d2 d3 d4 d5 d6 d7 d8 d9 d10 d11 d12 d13 hz]
      have ey : 100 * twoI 50 48 + twoI t2 t3 = 2000 + cv [t2, t3, t4, t5, t6, t7, t8, t9, t10, t11, t12, t13, t14] 12 0 := by show _ = 2000 + twoI t2 t3; simp [twoI]
      rw [ey]
      rfl
    · refine rt_s1 [t2, t3, t4, t5, t6, t7, t8, t9, t10, t11, t12, t13, t14] hb rfl hz v w hv _ (by omega) hR0 (fun h => ?_)
      have d2 : isDg t2 = true := h 0 (by omega)
      have d3 : isDg t3 = true := h 1 (by omega)
      have d4 : isDg t4 = true := h 2 (by omega)
      have d5 : isDg t5 = true := h 3 (by omega)
      have d6 : isDg t6 = true := h 4 (by omega)
      have d7 : isDg t7 = true := h 5 (by omega)
      have d8 : isDg t8 = true := h 6 (by omega)
      have d9 : isDg t9 = true := h 7 (by omega)
      have d10 : isDg t10 = true := h 8 (by omega)
      have d11 : isDg t11 = true := h 9 (by omega)
      have d12 : isDg t12 = true := h 10 (by omega)
      have d13 : isDg t13 = true := h 11 (by omega)
      have e53 : ¬ t2 < 53 := by
        have hF' : ¬ twoI t2 t3 < 50 := hF
        simp [isDg] at d2 d3
        unfold twoI at hF'
        omega
      rw [if_neg e53, timL_eq, okT_yes (by decide) (by decide) d2 d3 d4 d5 d6 d7 d8 d9 d10 d11 d12 d13 hz]
      have ey : 100 * twoI 49 57 + twoI t2 t3 = 1900 + cv [t2, t3, t4, t5, t6, t7, t8, t9, t10, t11, t12, t13, t14] 12 0 := by show _ = 1900 + twoI t2 t3; simp [twoI]
      rw [ey]
      rfl
  · have E : timL (if t2 < 53 then 50 :: 48 :: [t2, t3, t4, t5, t6, t7, t8, t9, t10, t11, t12, t13, t14] else 49 :: 57 :: [t2, t3, t4, t5, t6, t7, t8, t9, t10, t11, t12, t13, t14]) = (0, 144) := by
      split
      · exact timL_no (okT_z hz)
      · exact timL_no (okT_z hz)
    rw [E]
    obtain ⟨b, o, c, rfl, g1, g2, h3⟩ := hv.bs (by simp)
    exact rt_zed23 b o c t14 w g1 (h3 12 t14 rfl) hz

theorem rtime_any (t : Int) (v : Value) (xs : List Int) (hb : Byt xs) (w : World) (hv : Rd w v xs) :
    Calls Tryd.prog 27 #[.int .u8 t, v] w fun e w' => e = .returned (.tuple #[.int .i64 (tim t xs).1, .int .i64 (tim t xs).2]) ∧ Chg Non w w' := by
  unfold tim lng
  by_cases h1 : t = 23 ∧ xs.length = 13
  · rw [if_pos h1]
    obtain ⟨rfl, hl⟩ := h1
    obtain ⟨t2, t3, t4, t5, t6, t7, t8, t9, t10, t11, t12, t13, t14, rfl⟩ := list13 hl
    exact short_any' t2 t3 t4 t5 t6 t7 t8 t9 t10 t11 t12 t13 t14 hb v w hv
  · rw [if_neg h1]
    by_cases h2 : t = 24 ∧ xs.length = 15
    · rw [if_pos h2]
      obtain ⟨rfl, hl⟩ := h2
      obtain ⟨t0, t1, t2, t3, t4, t5, t6, t7, t8, t9, t10, t11, t12, t13, t14, rfl⟩ := list15 hl
      exact long_any t0 t1 t2 t3 t4 t5 t6 t7 t8 t9 t10 t11 t12 t13 t14 hb v w hv
    · rw [if_neg h2, tim_zero]
      by_cases h3 : t = 23
      · subst h3
        obtain ⟨ao, n, c, rfl, hn, -, -, -, -⟩ := hv
        exact rt_len23 ao n c w (by omega)
      · by_cases h4 : t = 24
        · subst h4
          obtain ⟨ao, n, c, rfl, hn, -, -, -, -⟩ := hv
          exact rt_len24 ao n c w (by omega)
        · exact rt_tag t v w h3 h4
end Go.Proofs.YtnidfbcninkglaaDoor
