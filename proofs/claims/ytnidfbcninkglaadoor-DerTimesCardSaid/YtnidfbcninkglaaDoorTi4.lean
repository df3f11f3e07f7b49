/-
  longText, walked.
-/
import Derived.Test.YtnidfbcninkglaaDoorTi3
namespace Go.Proofs.YtnidfbcninkglaaDoor
open Go.RowKit
set_option linter.unusedVariables false
set_option maxRecDepth 100000

def isDg (t : Int) : Bool := decide (48 ≤ t) && decide (t ≤ 57)
def okT (ts : List Int) : Bool := (ts.take 14).all isDg && (ts[14]? == some 90)
theorem okT_no {ts : List Int} {i : Nat} {x : Int} (hi : i < 14) (hx : ts[i]? = some x) (h : isDg x = false) : okT ts = false := by
  unfold okT
  have : (ts.take 14).all isDg = false := by
    rw [List.all_eq_false]
    refine ⟨x, ?_, by simp [h]⟩
    refine List.mem_of_getElem? (i := i) ?_
    rw [List.getElem?_take, if_pos hi, hx]
  rw [this]
  rfl
theorem okT_all {ts : List Int} (h : ∀ j x, j < 14 → ts[j]? = some x → isDg x = true) : okT ts = (ts[14]? == some 90) := by
  unfold okT
  have : (ts.take 14).all isDg = true := by
    rw [List.all_eq_true]
    intro x hx
    obtain ⟨j, hj⟩ := List.getElem?_of_mem hx
    rw [List.getElem?_take] at hj
    split at hj
    · exact h j x (by assumption) hj
    · cases hj
  rw [this]
  rfl
theorem Blk.frozen {w w' : World} {P : Nat} {ts : List Int} (h : Blk w w' P ts) (j : Nat) : w'.frozen? ⟨P, j, none⟩ = false := by
  simp [World.frozen?, h.heap]
theorem chg15 {w u : World} {P : Nat} {ts : List Int} (h : Blk w u P ts) (v0 v1 v2 v3 v4 v5 v6 v7 v8 v9 v10 v11 v12 v13 v14 : Value) : Chg Non w ((((((((((((((((u.setCell ⟨P, 0, none⟩ v0).setCell ⟨P, 1, none⟩ v1).setCell ⟨P, 2, none⟩ v2).setCell ⟨P, 3, none⟩ v3).setCell ⟨P, 4, none⟩ v4).setCell ⟨P, 5, none⟩ v5).setCell ⟨P, 6, none⟩ v6).setCell ⟨P, 7, none⟩ v7).setCell ⟨P, 8, none⟩ v8).setCell ⟨P, 9, none⟩ v9).setCell ⟨P, 10, none⟩ v10).setCell ⟨P, 11, none⟩ v11).setCell ⟨P, 12, none⟩ v12).setCell ⟨P, 13, none⟩ v13).setCell ⟨P, 14, none⟩ v14)) :=
  (Chg.setCell (p := ⟨P, 14, none⟩) (Chg.setCell (p := ⟨P, 13, none⟩) (Chg.setCell (p := ⟨P, 12, none⟩) (Chg.setCell (p := ⟨P, 11, none⟩) (Chg.setCell (p := ⟨P, 10, none⟩) (Chg.setCell (p := ⟨P, 9, none⟩) (Chg.setCell (p := ⟨P, 8, none⟩) (Chg.setCell (p := ⟨P, 7, none⟩) (Chg.setCell (p := ⟨P, 6, none⟩) (Chg.setCell (p := ⟨P, 5, none⟩) (Chg.setCell (p := ⟨P, 4, none⟩) (Chg.setCell (p := ⟨P, 3, none⟩) (Chg.setCell (p := ⟨P, 2, none⟩) (Chg.setCell (p := ⟨P, 1, none⟩) (Chg.setCell (p := ⟨P, 0, none⟩) h.chg (fun g => absurd g (Nat.not_lt.2 h.le)) _) (fun g => absurd g (Nat.not_lt.2 h.le)) _) (fun g => absurd g (Nat.not_lt.2 h.le)) _) (fun g => absurd g (Nat.not_lt.2 h.le)) _) (fun g => absurd g (Nat.not_lt.2 h.le)) _) (fun g => absurd g (Nat.not_lt.2 h.le)) _) (fun g => absurd g (Nat.not_lt.2 h.le)) _) (fun g => absurd g (Nat.not_lt.2 h.le)) _) (fun g => absurd g (Nat.not_lt.2 h.le)) _) (fun g => absurd g (Nat.not_lt.2 h.le)) _) (fun g => absurd g (Nat.not_lt.2 h.le)) _) (fun g => absurd g (Nat.not_lt.2 h.le)) _) (fun g => absurd g (Nat.not_lt.2 h.le)) _) (fun g => absurd g (Nat.not_lt.2 h.le)) _) (fun g => absurd g (Nat.not_lt.2 h.le)) _)
structure LtP (w w' : World) (e : Ending) (ts : List Int) (v : Value) : Prop where
  ex : e = .returned (.tuple #[v, .bool (okT ts)])
  chg : Chg Non w w'


set_option maxHeartbeats 6400000 in
theorem lt_long (t0 t1 t2 t3 t4 t5 t6 t7 t8 t9 t10 t11 t12 t13 t14 : Int) (v : Value) (w : World) (hv : Rd w v [t0, t1, t2, t3, t4, t5, t6, t7, t8, t9, t10, t11, t12, t13, t14]) :
    Calls Tryd.prog 46 #[.int .u8 24, v] w fun e w' => LtP w w' e [t0, t1, t2, t3, t4, t5, t6, t7, t8, t9, t10, t11, t12, t13, t14] (arrV t0 t1 t2 t3 t4 t5 t6 t7 t8 t9 t10 t11 t12 t13 t14) := by
  unfold arrV
  obtain ⟨b, o, c, rfl, h1, h2, h3⟩ := hv.bs (by simp)
  show Calls Tryd.prog 46 #[.int .u8 24, .slice (some ⟨b, o, none⟩) 15 c] w _
  replace h1 : 15 ≤ c := h1
  obtain ⟨ts, hts⟩ : ∃ ts, ts = [t0, t1, t2, t3, t4, t5, t6, t7, t8, t9, t10, t11, t12, t13, t14] := ⟨_, rfl⟩
  rw [← hts] at h3 ⊢
  have hl : 15 = ts.length := by rw [hts]; rfl
  go_enter Tryd.func46, Tryd.ntmps46
  go_upto_region 2 with fail
  obtain ⟨w1, hw1⟩ : ∃ w1, w1 = w.alloc (.cells #[.int .u8 0, .int .u8 0, .int .u8 0, .int .u8 0, .int .u8 0, .int .u8 0, .int .u8 0, .int .u8 0, .int .u8 0, .int .u8 0, .int .u8 0, .int .u8 0, .int .u8 0, .int .u8 0, .int .u8 0] 80) := ⟨_, rfl⟩
  have hb1 := Blk.new w
  rw [← hw1] at hb1 ⊢
  obtain ⟨P, hP⟩ : ∃ P, P = w.heap.size := ⟨_, rfl⟩
  rw [← hP] at hb1 ⊢
  clear hw1 hP
  obtain ⟨w4, r4, hb4⟩ := hb1.cpB rfl 0 b o 15 c 15 ts h3 hl rfl (by omega)
  replace r4 : (Builtin.copy_ #[22, 22] 3 #[.slice (some ⟨P, 0, none⟩) 15 15, .slice (some ⟨b, o, none⟩) 15 c]).run Tryd.prog w1 = .ok (.int .i64 15) w4 := r4
  replace hb4 : Blk w w4 P ts := by simpa using hb4
  clear hb1 h3 hl
  have HTS : Hid (ts = [t0, t1, t2, t3, t4, t5, t6, t7, t8, t9, t10, t11, t12, t13, t14]) := hts
  have HL : Hid (ts.length = 15) := by show _ = _; rw [hts]; rfl
  have k0 : w4.cell? ⟨P, 0, none⟩ = some (.int .u8 t0) := hb4.cell (j := 0) (by rw [hts]; rfl)
  have k1 : w4.cell? ⟨P, 1, none⟩ = some (.int .u8 t1) := hb4.cell (j := 1) (by rw [hts]; rfl)
  have k2 : w4.cell? ⟨P, 2, none⟩ = some (.int .u8 t2) := hb4.cell (j := 2) (by rw [hts]; rfl)
  have k3 : w4.cell? ⟨P, 3, none⟩ = some (.int .u8 t3) := hb4.cell (j := 3) (by rw [hts]; rfl)
  have k4 : w4.cell? ⟨P, 4, none⟩ = some (.int .u8 t4) := hb4.cell (j := 4) (by rw [hts]; rfl)
  have k5 : w4.cell? ⟨P, 5, none⟩ = some (.int .u8 t5) := hb4.cell (j := 5) (by rw [hts]; rfl)
  have k6 : w4.cell? ⟨P, 6, none⟩ = some (.int .u8 t6) := hb4.cell (j := 6) (by rw [hts]; rfl)
  have k7 : w4.cell? ⟨P, 7, none⟩ = some (.int .u8 t7) := hb4.cell (j := 7) (by rw [hts]; rfl)
  have k8 : w4.cell? ⟨P, 8, none⟩ = some (.int .u8 t8) := hb4.cell (j := 8) (by rw [hts]; rfl)
  have k9 : w4.cell? ⟨P, 9, none⟩ = some (.int .u8 t9) := hb4.cell (j := 9) (by rw [hts]; rfl)
  have k10 : w4.cell? ⟨P, 10, none⟩ = some (.int .u8 t10) := hb4.cell (j := 10) (by rw [hts]; rfl)
  have k11 : w4.cell? ⟨P, 11, none⟩ = some (.int .u8 t11) := hb4.cell (j := 11) (by rw [hts]; rfl)
  have k12 : w4.cell? ⟨P, 12, none⟩ = some (.int .u8 t12) := hb4.cell (j := 12) (by rw [hts]; rfl)
  have k13 : w4.cell? ⟨P, 13, none⟩ = some (.int .u8 t13) := hb4.cell (j := 13) (by rw [hts]; rfl)
  have k14 : w4.cell? ⟨P, 14, none⟩ = some (.int .u8 t14) := hb4.cell (j := 14) (by rw [hts]; rfl)
  have HBL : Hid (Blk w w4 P ts) := hb4
  have HCH : Hid (Chg Non w w4) := hb4.chg
  have cf : ∀ j, w4.frozen? ⟨P, j, none⟩ = false := fun j => hb4.frozen j
  clear hts hb4
  go_wp2
  go_loop [38] (fun x => ∃ i : Nat, i ≤ 14 ∧ x = .int .i64 (i : Int) ∧ Hid (∀ j x, j < i → ts[j]? = some x → isDg x = true)) (fun x => 14 - (intOf x).toNat)
  case atStart => exact ⟨0, by omega, rfl, fun j x hj => absurd hj (Nat.not_lt_zero _)⟩
  case round =>
    obtain ⟨i, hi, rfl, HD⟩ := hrel
    by_cases hlt : i < 14
    · obtain ⟨x, hx⟩ : ∃ x, ts[i]? = some x := ⟨_, List.getElem?_eq_getElem (by rw [HL.out]; omega)⟩
      have cx : w4.cell? ⟨P, i, none⟩ = some (.int .u8 x) := HBL.out.cell hx
      have HX : Hid (ts[i]? = some x) := hx
      have li : (i : Int) < 14 := by omega
      have li2 : (i : Int) < 15 := by omega
      clear hx
      by_cases g0 : x < 48
      · have d0 : decide (x < 48) = true := by simpa using g0
        have HN : Hid (okT ts = false) := okT_no hlt HX.out (by simp [isDg]; omega)
        clear g0
        go_wp2
        refine bodyPost_ret (v := .tuple #[.agg #[.int .u8 t0, .int .u8 t1, .int .u8 t2, .int .u8 t3, .int .u8 t4, .int .u8 t5, .int .u8 t6, .int .u8 t7, .int .u8 t8, .int .u8 t9, .int .u8 t10, .int .u8 t11, .int .u8 t12, .int .u8 t13, .int .u8 t14], .bool false]) ?_ rfl ⟨by rw [HN.out], chg15 HBL.out _ _ _ _ _ _ _ _ _ _ _ _ _ _ _⟩
        simp [results, Tryd.results46, go_sem, k0, k1, k2, k3, k4, k5, k6, k7, k8, k9, k10, k11, k12, k13, k14]
      · have d0 : decide (x < 48) = false := by simpa using g0
        by_cases g1 : 57 < x
        · have d1 : decide (57 < x) = true := by simpa using g1
          have HN : Hid (okT ts = false) := okT_no hlt HX.out (by simp [isDg]; omega)
          clear g1 g0
          go_wp2
          refine bodyPost_ret (v := .tuple #[.agg #[.int .u8 t0, .int .u8 t1, .int .u8 t2, .int .u8 t3, .int .u8 t4, .int .u8 t5, .int .u8 t6, .int .u8 t7, .int .u8 t8, .int .u8 t9, .int .u8 t10, .int .u8 t11, .int .u8 t12, .int .u8 t13, .int .u8 t14], .bool false]) ?_ rfl ⟨by rw [HN.out], chg15 HBL.out _ _ _ _ _ _ _ _ _ _ _ _ _ _ _⟩
          simp [results, Tryd.results46, go_sem, k0, k1, k2, k3, k4, k5, k6, k7, k8, k9, k10, k11, k12, k13, k14]
        · have d1 : decide (57 < x) = false := by simpa using g1
          have HD' : Hid (∀ j x, j < i + 1 → ts[j]? = some x → isDg x = true) := by
            intro j y hj hy
            by_cases e : j = i
            · subst e
              have := HX.out
              rw [hy] at this
              injection this with this
              subst this
              simp [isDg]
              omega
            · exact HD.out j y (by omega) hy
          clear g0 g1
          go_wp2
          go_round
          case rel => exact ⟨i + 1, by omega, by simp, HD'⟩
          case measure => simp [intOf]; omega
    · have hi14 : i = 14 := by omega
      subst hi14
      have HN : Hid (okT ts = (t14 == 90)) := by show _ = _; rw [okT_all HD.out, HTS.out]; simp
      clear hlt
      go_wp2
      refine bodyPost_ret (v := .tuple #[.agg #[.int .u8 t0, .int .u8 t1, .int .u8 t2, .int .u8 t3, .int .u8 t4, .int .u8 t5, .int .u8 t6, .int .u8 t7, .int .u8 t8, .int .u8 t9, .int .u8 t10, .int .u8 t11, .int .u8 t12, .int .u8 t13, .int .u8 t14], .bool (t14 == 90)]) ?_ rfl ⟨by rw [HN.out], chg15 HBL.out _ _ _ _ _ _ _ _ _ _ _ _ _ _ _⟩
      simp [results, Tryd.results46, go_sem, k0, k1, k2, k3, k4, k5, k6, k7, k8, k9, k10, k11, k12, k13, k14]


set_option maxHeartbeats 6400000 in
theorem lt_s20 (t0 t1 t2 t3 t4 t5 t6 t7 t8 t9 t10 t11 t12 t13 t14 : Int) (h0 : t0 = 50) (h1 : t1 = 48) (hx : t2 < 53) (v : Value) (w : World) (hv : Rd w v [t2, t3, t4, t5, t6, t7, t8, t9, t10, t11, t12, t13, t14]) :
    Calls Tryd.prog 46 #[.int .u8 23, v] w fun e w' => LtP w w' e [t0, t1, t2, t3, t4, t5, t6, t7, t8, t9, t10, t11, t12, t13, t14] (arrV t0 t1 t2 t3 t4 t5 t6 t7 t8 t9 t10 t11 t12 t13 t14) := by
  unfold arrV
  obtain ⟨b, o, c, rfl, g1, g2, h3⟩ := hv.bs (by simp)
  show Calls Tryd.prog 46 #[.int .u8 23, .slice (some ⟨b, o, none⟩) 13 c] w _
  replace g1 : 13 ≤ c := g1
  obtain ⟨ts, hts⟩ : ∃ ts, ts = [t0, t1, t2, t3, t4, t5, t6, t7, t8, t9, t10, t11, t12, t13, t14] := ⟨_, rfl⟩
  obtain ⟨xs, hxs⟩ : ∃ xs, xs = [t2, t3, t4, t5, t6, t7, t8, t9, t10, t11, t12, t13, t14] := ⟨_, rfl⟩
  rw [← hxs] at h3
  rw [← hts]
  have hl : 13 = xs.length := by rw [hxs]; rfl
  have dx : decide (53 ≤ t2) = false := by simp; omega
  go_enter Tryd.func46, Tryd.ntmps46
  go_upto_region 2 with fail
  obtain ⟨w1, hw1⟩ : ∃ w1, w1 = w.alloc (.cells #[.int .u8 0, .int .u8 0, .int .u8 0, .int .u8 0, .int .u8 0, .int .u8 0, .int .u8 0, .int .u8 0, .int .u8 0, .int .u8 0, .int .u8 0, .int .u8 0, .int .u8 0, .int .u8 0, .int .u8 0] 80) := ⟨_, rfl⟩
  have hb1 := Blk.new w
  rw [← hw1] at hb1 ⊢
  obtain ⟨P, hP⟩ : ∃ P, P = w.heap.size := ⟨_, rfl⟩
  rw [← hP] at hb1 ⊢
  clear hw1 hP hv
  obtain ⟨w3, r2, hb2⟩ := hb1.cpS rfl 50 48
  have hb3 : Blk w w3 P [t0, t1, 0, 0, 0, 0, 0, 0, 0, 0, 0, 0, 0, 0, 0] := by rw [h0, h1]; exact hb2
  have kx : w3.cell? ⟨b, o, none⟩ = some (.int .u8 t2) := (h3.chg hb3.chg) 0 t2 (by rw [hxs]; rfl)
  clear hb2
  obtain ⟨w4, r4, hb4⟩ := hb3.cpB rfl 2 b o 13 c 13 xs h3 hl rfl (by omega)
  replace r4 : (Builtin.copy_ #[22, 22] 3 #[.slice (some ⟨P, 2, none⟩) 13 13, .slice (some ⟨b, o, none⟩) 13 c]).run Tryd.prog w3 = .ok (.int .i64 13) w4 := r4
  replace hb4 : Blk w w4 P ts := by rw [hts]; rw [hxs] at hb4; simpa using hb4
  clear hb1 hb3 h3 hl hxs h0 h1 hx
  have HTS : Hid (ts = [t0, t1, t2, t3, t4, t5, t6, t7, t8, t9, t10, t11, t12, t13, t14]) := hts
  have HL : Hid (ts.length = 15) := by show _ = _; rw [hts]; rfl
  have k0 : w4.cell? ⟨P, 0, none⟩ = some (.int .u8 t0) := hb4.cell (j := 0) (by rw [hts]; rfl)
  have k1 : w4.cell? ⟨P, 1, none⟩ = some (.int .u8 t1) := hb4.cell (j := 1) (by rw [hts]; rfl)
  have k2 : w4.cell? ⟨P, 2, none⟩ = some (.int .u8 t2) := hb4.cell (j := 2) (by rw [hts]; rfl)
  have k3 : w4.cell? ⟨P, 3, none⟩ = some (.int .u8 t3) := hb4.cell (j := 3) (by rw [hts]; rfl)
  have k4 : w4.cell? ⟨P, 4, none⟩ = some (.int .u8 t4) := hb4.cell (j := 4) (by rw [hts]; rfl)
  have k5 : w4.cell? ⟨P, 5, none⟩ = some (.int .u8 t5) := hb4.cell (j := 5) (by rw [hts]; rfl)
  have k6 : w4.cell? ⟨P, 6, none⟩ = some (.int .u8 t6) := hb4.cell (j := 6) (by rw [hts]; rfl)
  have k7 : w4.cell? ⟨P, 7, none⟩ = some (.int .u8 t7) := hb4.cell (j := 7) (by rw [hts]; rfl)
  have k8 : w4.cell? ⟨P, 8, none⟩ = some (.int .u8 t8) := hb4.cell (j := 8) (by rw [hts]; rfl)
  have k9 : w4.cell? ⟨P, 9, none⟩ = some (.int .u8 t9) := hb4.cell (j := 9) (by rw [hts]; rfl)
  have k10 : w4.cell? ⟨P, 10, none⟩ = some (.int .u8 t10) := hb4.cell (j := 10) (by rw [hts]; rfl)
  have k11 : w4.cell? ⟨P, 11, none⟩ = some (.int .u8 t11) := hb4.cell (j := 11) (by rw [hts]; rfl)
  have k12 : w4.cell? ⟨P, 12, none⟩ = some (.int .u8 t12) := hb4.cell (j := 12) (by rw [hts]; rfl)
  have k13 : w4.cell? ⟨P, 13, none⟩ = some (.int .u8 t13) := hb4.cell (j := 13) (by rw [hts]; rfl)
  have k14 : w4.cell? ⟨P, 14, none⟩ = some (.int .u8 t14) := hb4.cell (j := 14) (by rw [hts]; rfl)
  have HBL : Hid (Blk w w4 P ts) := hb4
  have HCH : Hid (Chg Non w w4) := hb4.chg
  have cf : ∀ j, w4.frozen? ⟨P, j, none⟩ = false := fun j => hb4.frozen j
  clear hts hb4
  go_wp2
  go_loop [38] (fun x => ∃ i : Nat, i ≤ 14 ∧ x = .int .i64 (i : Int) ∧ Hid (∀ j x, j < i → ts[j]? = some x → isDg x = true)) (fun x => 14 - (intOf x).toNat)
  case atStart => exact ⟨0, by omega, rfl, fun j x hj => absurd hj (Nat.not_lt_zero _)⟩
  case round =>
    obtain ⟨i, hi, rfl, HD⟩ := hrel
    by_cases hlt : i < 14
    · obtain ⟨x, hx⟩ : ∃ x, ts[i]? = some x := ⟨_, List.getElem?_eq_getElem (by rw [HL.out]; omega)⟩
      have cx : w4.cell? ⟨P, i, none⟩ = some (.int .u8 x) := HBL.out.cell hx
      have HX : Hid (ts[i]? = some x) := hx
      have li : (i : Int) < 14 := by omega
      have li2 : (i : Int) < 15 := by omega
      clear hx
      by_cases g0 : x < 48
      · have d0 : decide (x < 48) = true := by simpa using g0
        have HN : Hid (okT ts = false) := okT_no hlt HX.out (by simp [isDg]; omega)
        clear g0
        go_wp2
        refine bodyPost_ret (v := .tuple #[.agg #[.int .u8 t0, .int .u8 t1, .int .u8 t2, .int .u8 t3, .int .u8 t4, .int .u8 t5, .int .u8 t6, .int .u8 t7, .int .u8 t8, .int .u8 t9, .int .u8 t10, .int .u8 t11, .int .u8 t12, .int .u8 t13, .int .u8 t14], .bool false]) ?_ rfl ⟨by rw [HN.out], chg15 HBL.out _ _ _ _ _ _ _ _ _ _ _ _ _ _ _⟩
        simp [results, Tryd.results46, go_sem, k0, k1, k2, k3, k4, k5, k6, k7, k8, k9, k10, k11, k12, k13, k14]
      · have d0 : decide (x < 48) = false := by simpa using g0
        by_cases g1 : 57 < x
        · have d1 : decide (57 < x) = true := by simpa using g1
          have HN : Hid (okT ts = false) := okT_no hlt HX.out (by simp [isDg]; omega)
          clear g1 g0
          go_wp2
          refine bodyPost_ret (v := .tuple #[.agg #[.int .u8 t0, .int .u8 t1, .int .u8 t2, .int .u8 t3, .int .u8 t4, .int .u8 t5, .int .u8 t6, .int .u8 t7, .int .u8 t8, .int .u8 t9, .int .u8 t10, .int .u8 t11, .int .u8 t12, .int .u8 t13, .int .u8 t14], .bool false]) ?_ rfl ⟨by rw [HN.out], chg15 HBL.out _ _ _ _ _ _ _ _ _ _ _ _ _ _ _⟩
          simp [results, Tryd.results46, go_sem, k0, k1, k2, k3, k4, k5, k6, k7, k8, k9, k10, k11, k12, k13, k14]
        · have d1 : decide (57 < x) = false := by simpa using g1
          have HD' : Hid (∀ j x, j < i + 1 → ts[j]? = some x → isDg x = true) := by
            intro j y hj hy
            by_cases e : j = i
            · subst e
              have := HX.out
              rw [hy] at this
              injection this with this
              subst this
              simp [isDg]
              omega
            · exact HD.out j y (by omega) hy
          clear g0 g1
          go_wp2
          go_round
          case rel => exact ⟨i + 1, by omega, by simp, HD'⟩
          case measure => simp [intOf]; omega
    · have hi14 : i = 14 := by omega
      subst hi14
      have HN : Hid (okT ts = (t14 == 90)) := by show _ = _; rw [okT_all HD.out, HTS.out]; simp
      clear hlt
      go_wp2
      refine bodyPost_ret (v := .tuple #[.agg #[.int .u8 t0, .int .u8 t1, .int .u8 t2, .int .u8 t3, .int .u8 t4, .int .u8 t5, .int .u8 t6, .int .u8 t7, .int .u8 t8, .int .u8 t9, .int .u8 t10, .int .u8 t11, .int .u8 t12, .int .u8 t13, .int .u8 t14], .bool (t14 == 90)]) ?_ rfl ⟨by rw [HN.out], chg15 HBL.out _ _ _ _ _ _ _ _ _ _ _ _ _ _ _⟩
      simp [results, Tryd.results46, go_sem, k0, k1, k2, k3, k4, k5, k6, k7, k8, k9, k10, k11, k12, k13, k14]


set_option maxHeartbeats 6400000 in
theorem lt_s19 (t0 t1 t2 t3 t4 t5 t6 t7 t8 t9 t10 t11 t12 t13 t14 : Int) (h0 : t0 = 49) (h1 : t1 = 57) (hx : 53 ≤ t2) (v : Value) (w : World) (hv : Rd w v [t2, t3, t4, t5, t6, t7, t8, t9, t10, t11, t12, t13, t14]) :
    Calls Tryd.prog 46 #[.int .u8 23, v] w fun e w' => LtP w w' e [t0, t1, t2, t3, t4, t5, t6, t7, t8, t9, t10, t11, t12, t13, t14] (arrV t0 t1 t2 t3 t4 t5 t6 t7 t8 t9 t10 t11 t12 t13 t14) := by
  unfold arrV
  obtain ⟨b, o, c, rfl, g1, g2, h3⟩ := hv.bs (by simp)
  show Calls Tryd.prog 46 #[.int .u8 23, .slice (some ⟨b, o, none⟩) 13 c] w _
  replace g1 : 13 ≤ c := g1
  obtain ⟨ts, hts⟩ : ∃ ts, ts = [t0, t1, t2, t3, t4, t5, t6, t7, t8, t9, t10, t11, t12, t13, t14] := ⟨_, rfl⟩
  obtain ⟨xs, hxs⟩ : ∃ xs, xs = [t2, t3, t4, t5, t6, t7, t8, t9, t10, t11, t12, t13, t14] := ⟨_, rfl⟩
  rw [← hxs] at h3
  rw [← hts]
  have hl : 13 = xs.length := by rw [hxs]; rfl
  have dx : decide (53 ≤ t2) = true := by simp; omega
  go_enter Tryd.func46, Tryd.ntmps46
  go_upto_region 2 with fail
  obtain ⟨w1, hw1⟩ : ∃ w1, w1 = w.alloc (.cells #[.int .u8 0, .int .u8 0, .int .u8 0, .int .u8 0, .int .u8 0, .int .u8 0, .int .u8 0, .int .u8 0, .int .u8 0, .int .u8 0, .int .u8 0, .int .u8 0, .int .u8 0, .int .u8 0, .int .u8 0] 80) := ⟨_, rfl⟩
  have hb1 := Blk.new w
  rw [← hw1] at hb1 ⊢
  obtain ⟨P, hP⟩ : ∃ P, P = w.heap.size := ⟨_, rfl⟩
  rw [← hP] at hb1 ⊢
  clear hw1 hP hv
  obtain ⟨w2, r2, hb2⟩ := hb1.cpS rfl 50 48
  have kx : w2.cell? ⟨b, o, none⟩ = some (.int .u8 t2) := (h3.chg hb2.chg) 0 t2 (by rw [hxs]; rfl)
  obtain ⟨w3, r3, hb3'⟩ := hb2.cpS rfl 49 57
  have hb3 : Blk w w3 P [t0, t1, 0, 0, 0, 0, 0, 0, 0, 0, 0, 0, 0, 0, 0] := by rw [h0, h1]; exact hb3'
  clear hb2 hb3'
  obtain ⟨w4, r4, hb4⟩ := hb3.cpB rfl 2 b o 13 c 13 xs h3 hl rfl (by omega)
  replace r4 : (Builtin.copy_ #[22, 22] 3 #[.slice (some ⟨P, 2, none⟩) 13 13, .slice (some ⟨b, o, none⟩) 13 c]).run Tryd.prog w3 = .ok (.int .i64 13) w4 := r4
  replace hb4 : Blk w w4 P ts := by rw [hts]; rw [hxs] at hb4; simpa using hb4
  clear hb1 hb3 h3 hl hxs h0 h1 hx
  have HTS : Hid (ts = [t0, t1, t2, t3, t4, t5, t6, t7, t8, t9, t10, t11, t12, t13, t14]) := hts
  have HL : Hid (ts.length = 15) := by show _ = _; rw [hts]; rfl
  have k0 : w4.cell? ⟨P, 0, none⟩ = some (.int .u8 t0) := hb4.cell (j := 0) (by rw [hts]; rfl)
  have k1 : w4.cell? ⟨P, 1, none⟩ = some (.int .u8 t1) := hb4.cell (j := 1) (by rw [hts]; rfl)
  have k2 : w4.cell? ⟨P, 2, none⟩ = some (.int .u8 t2) := hb4.cell (j := 2) (by rw [hts]; rfl)
  have k3 : w4.cell? ⟨P, 3, none⟩ = some (.int .u8 t3) := hb4.cell (j := 3) (by rw [hts]; rfl)
  have k4 : w4.cell? ⟨P, 4, none⟩ = some (.int .u8 t4) := hb4.cell (j := 4) (by rw [hts]; rfl)
  have k5 : w4.cell? ⟨P, 5, none⟩ = some (.int .u8 t5) := hb4.cell (j := 5) (by rw [hts]; rfl)
  have k6 : w4.cell? ⟨P, 6, none⟩ = some (.int .u8 t6) := hb4.cell (j := 6) (by rw [hts]; rfl)
  have k7 : w4.cell? ⟨P, 7, none⟩ = some (.int .u8 t7) := hb4.cell (j := 7) (by rw [hts]; rfl)
  have k8 : w4.cell? ⟨P, 8, none⟩ = some (.int .u8 t8) := hb4.cell (j := 8) (by rw [hts]; rfl)
  have k9 : w4.cell? ⟨P, 9, none⟩ = some (.int .u8 t9) := hb4.cell (j := 9) (by rw [hts]; rfl)
  have k10 : w4.cell? ⟨P, 10, none⟩ = some (.int .u8 t10) := hb4.cell (j := 10) (by rw [hts]; rfl)
  have k11 : w4.cell? ⟨P, 11, none⟩ = some (.int .u8 t11) := hb4.cell (j := 11) (by rw [hts]; rfl)
  have k12 : w4.cell? ⟨P, 12, none⟩ = some (.int .u8 t12) := hb4.cell (j := 12) (by rw [hts]; rfl)
  have k13 : w4.cell? ⟨P, 13, none⟩ = some (.int .u8 t13) := hb4.cell (j := 13) (by rw [hts]; rfl)
  have k14 : w4.cell? ⟨P, 14, none⟩ = some (.int .u8 t14) := hb4.cell (j := 14) (by rw [hts]; rfl)
  have HBL : Hid (Blk w w4 P ts) := hb4
  have HCH : Hid (Chg Non w w4) := hb4.chg
  have cf : ∀ j, w4.frozen? ⟨P, j, none⟩ = false := fun j => hb4.frozen j
  clear hts hb4
  go_wp2
  go_loop [38] (fun x => ∃ i : Nat, i ≤ 14 ∧ x = .int .i64 (i : Int) ∧ Hid (∀ j x, j < i → ts[j]? = some x → isDg x = true)) (fun x => 14 - (intOf x).toNat)
  case atStart => exact ⟨0, by omega, rfl, fun j x hj => absurd hj (Nat.not_lt_zero _)⟩
  case round =>
    obtain ⟨i, hi, rfl, HD⟩ := hrel
    by_cases hlt : i < 14
    · obtain ⟨x, hx⟩ : ∃ x, ts[i]? = some x := ⟨_, List.getElem?_eq_getElem (by rw [HL.out]; omega)⟩
      have cx : w4.cell? ⟨P, i, none⟩ = some (.int .u8 x) := HBL.out.cell hx
      have HX : Hid (ts[i]? = some x) := hx
      have li : (i : Int) < 14 := by omega
      have li2 : (i : Int) < 15 := by omega
      clear hx
      by_cases g0 : x < 48
      · have d0 : decide (x < 48) = true := by simpa using g0
        have HN : Hid (okT ts = false) := okT_no hlt HX.out (by simp [isDg]; omega)
        clear g0
        go_wp2
        refine bodyPost_ret (v := .tuple #[.agg #[.int .u8 t0, .int .u8 t1, .int .u8 t2, .int .u8 t3, .int .u8 t4, .int .u8 t5, .int .u8 t6, .int .u8 t7, .int .u8 t8, .int .u8 t9, .int .u8 t10, .int .u8 t11, .int .u8 t12, .int .u8 t13, .int .u8 t14], .bool false]) ?_ rfl ⟨by rw [HN.out], chg15 HBL.out _ _ _ _ _ _ _ _ _ _ _ _ _ _ _⟩
        simp [results, Tryd.results46, go_sem, k0, k1, k2, k3, k4, k5, k6, k7, k8, k9, k10, k11, k12, k13, k14]
      · have d0 : decide (x < 48) = false := by simpa using g0
        by_cases g1 : 57 < x
        · have d1 : decide (57 < x) = true := by simpa using g1
          have HN : Hid (okT ts = false) := okT_no hlt HX.out (by simp [isDg]; omega)
          clear g1 g0
          go_wp2
          refine bodyPost_ret (v := .tuple #[.agg #[.int .u8 t0, .int .u8 t1, .int .u8 t2, .int .u8 t3, .int .u8 t4, .int .u8 t5, .int .u8 t6, .int .u8 t7, .int .u8 t8, .int .u8 t9, .int .u8 t10, .int .u8 t11, .int .u8 t12, .int .u8 t13, .int .u8 t14], .bool false]) ?_ rfl ⟨by rw [HN.out], chg15 HBL.out _ _ _ _ _ _ _ _ _ _ _ _ _ _ _⟩
          simp [results, Tryd.results46, go_sem, k0, k1, k2, k3, k4, k5, k6, k7, k8, k9, k10, k11, k12, k13, k14]
        · have d1 : decide (57 < x) = false := by simpa using g1
          have HD' : Hid (∀ j x, j < i + 1 → ts[j]? = some x → isDg x = true) := by
            intro j y hj hy
            by_cases e : j = i
            · subst e
              have := HX.out
              rw [hy] at this
              injection this with this
              subst this
              simp [isDg]
              omega
            · exact HD.out j y (by omega) hy
          clear g0 g1
          go_wp2
          go_round
          case rel => exact ⟨i + 1, by omega, by simp, HD'⟩
          case measure => simp [intOf]; omega
    · have hi14 : i = 14 := by omega
      subst hi14
      have HN : Hid (okT ts = (t14 == 90)) := by show _ = _; rw [okT_all HD.out, HTS.out]; simp
      clear hlt
      go_wp2
      refine bodyPost_ret (v := .tuple #[.agg #[.int .u8 t0, .int .u8 t1, .int .u8 t2, .int .u8 t3, .int .u8 t4, .int .u8 t5, .int .u8 t6, .int .u8 t7, .int .u8 t8, .int .u8 t9, .int .u8 t10, .int .u8 t11, .int .u8 t12, .int .u8 t13, .int .u8 t14], .bool (t14 == 90)]) ?_ rfl ⟨by rw [HN.out], chg15 HBL.out _ _ _ _ _ _ _ _ _ _ _ _ _ _ _⟩
      simp [results, Tryd.results46, go_sem, k0, k1, k2, k3, k4, k5, k6, k7, k8, k9, k10, k11, k12, k13, k14]

end Go.Proofs.YtnidfbcninkglaaDoor
