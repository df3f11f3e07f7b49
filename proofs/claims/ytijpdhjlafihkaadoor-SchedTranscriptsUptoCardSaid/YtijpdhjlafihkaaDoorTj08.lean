/-
  Write.
-/
import Derived.Test.YtijpdhjlafihkaaDoorTj07
namespace Go.Proofs.YtijpdhjlafihkaaDoor
open Go.RowKit
set_option linter.unusedVariables false
set_option maxRecDepth 100000

theorem blockOf_not {h : Int} (hv : ¬ Valid h) : blockOf h = 0 := by
  unfold blockOf
  rw [if_neg (fun e => hv (.inl e)), if_neg (fun e => hv (.inr (.inl e))), if_neg (fun e => hv (.inr (.inr e)))]
theorem sizeOf_not {h : Int} (hv : ¬ Valid h) : sizeOfH h = 0 := by
  unfold sizeOfH
  rw [if_neg (fun e => hv (.inl e)), if_neg (fun e => hv (.inr (.inl e))), if_neg (fun e => hv (.inr (.inr e)))]

/-- Of no hash nothing is taken in. -/
theorem write_none (D : Nat) (h : Int) (c : Array Value) (v : Value) (w : World) (hv : ¬ Valid h) (hd : Ar w D c) (hc : c[0]? = some (.int .i64 h)) :
    Calls Tryd.prog 37 #[.pointer (some ⟨D, 0, none⟩), v] w fun r w' => r = .returned (.tuple #[]) ∧ w' = w := by
  have c0 := (hd.cell 0).trans hc
  have HB : Hid (∀ u, Calls Tryd.prog 50 #[.int .i64 h] u fun r w' => r = .returned (.int .i64 0) ∧ w' = u) := by
    intro u
    have := block_any h u
    rw [blockOf_not hv] at this
    exact this
  clear hd hc hv
  go_enter Tryd.func37, Tryd.ntmps37
  go_wp2_with (first | (go_at_call 50; (refine (HB.out _).mono ?_; rintro r w1 ⟨rfl, rfl⟩)))
  exact bodyPost_ret (v := .tuple #[]) (results_none Tryd.results37 _ _ _) rfl ⟨rfl, rfl⟩

def slLen : Value → Nat
  | .slice _ n _ => n
  | _ => 0

set_option maxRecDepth 100000 in
set_option maxHeartbeats 4000000 in
theorem write_any (D : Nat) (q : Int) (all xs : List Int) (v : Value) (w : World) (hv : Valid q) (ht : Tabs w) (hD : 2 ≤ D) (hd : DgC w D q all (cnt all)) (hs : Sl w D v xs) :
    Calls Tryd.prog 37 #[.pointer (some ⟨D, 0, none⟩), v] w fun r w' => r = .returned (.tuple #[]) ∧ Cb D w w' ∧ DgC w' D q (all ++ xs) (cnt (all ++ xs)) := by
  obtain ⟨B, hB⟩ : ∃ B, B = blockOf q := ⟨_, rfl⟩
  have hBp := hv.pos
  rw [← hB] at hBp
  have HB : Hid (∀ u, Calls Tryd.prog 50 #[.int .i64 q] u fun r w' => r = .returned (.int .i64 B) ∧ w' = u) := by
    intro u
    rw [hB]
    exact block_any q u
  have HV : Hid (B = blockOf q ∧ Valid q ∧ 2 ≤ D) := ⟨hB, hv, hD⟩
  have HT : Hid (Tabs w) := ht
  have HS : Hid (Sl w D v xs) := hs
  obtain ⟨rest, hd1, hd2⟩ := hd
  have HD : Hid (Ar w D (dig q (stOf q all) rest ((all.length % blockOf q : Nat) : Int) (cnt all)) ∧ ∀ j, j < all.length % blockOf q → rest j = gd all (blockOf q * (all.length / blockOf q) + j)) := ⟨hd1, hd2⟩
  obtain ⟨n, hn⟩ : ∃ n : Nat, n = slLen v := ⟨_, rfl⟩
  have hlen : n = xs.length ∧ ∃ p cap, v = .slice p n cap := by
    rcases hs with ⟨e1, e2⟩ | ⟨a, cap, e1, e2⟩ | ⟨b, o, cap, e1, _⟩
    · rw [e1] at hn
      refine ⟨by rw [hn, e2]; rfl, none, 0, by rw [e1, hn]; rfl⟩
    · rw [e1] at hn
      refine ⟨by rw [hn, e2]; rfl, some a, cap, by rw [e1, hn]; rfl⟩
    · rw [e1] at hn
      refine ⟨by rw [hn]; rfl, some ⟨b, o, none⟩, cap, by rw [e1, hn]; rfl⟩
  obtain ⟨hnx, p, cap, rfl⟩ := hlen
  have c0 := (hd1.cell 0).trans (dig_hash _ _ _ _ _)
  have c8 := (hd1.cell 138).trans (dig_count _ _ _ _ _)
  have f8 := hd1.frozen 138
  obtain ⟨c1, hc1⟩ : ∃ c, c = cnt all := ⟨_, rfl⟩
  rw [← hc1] at c8
  have HN : Hid (c1 = cnt all ∧ n = xs.length) := ⟨hc1, hnx⟩
  have hB0 : ¬ (B : Int) = 0 := by omega
  clear hc1 hnx hn hd1 hd2 hs ht hv hD hB
  go_enter Tryd.func37, Tryd.ntmps37
  go_wp2_with (first | (go_at_call 50; (refine (HB.out _).mono ?_; rintro r w1 ⟨rfl, rfl⟩)))
  have hc2 : IntKind.u64.wrap (c1 + IntKind.u64.wrap n) = cnt (all ++ xs) := by
    rw [HN.out.1, HN.out.2, IntKind.wrap_u64, IntKind.wrap_u64]
    unfold cnt
    rw [List.length_append]
    omega
  obtain ⟨c2, hc2'⟩ : ∃ c, c = IntKind.u64.wrap (c1 + IntKind.u64.wrap n) := ⟨_, rfl⟩
  rw [← hc2'] at hc2 ⊢
  obtain ⟨w2, hw2⟩ : ∃ w2, w2 = w1.setCell ⟨D, 138, none⟩ (.int .u64 c2) := ⟨_, rfl⟩
  rw [← hw2]
  have z0 : Hid (Cb D w1 w2 ∧ DgC w2 D q all c2 ∧ Sl w2 D (.slice p n cap) xs) := by
    have k : Cb D w1 w2 := by rw [hw2]; exact ((Chg.refl w1).cb D).set _ _
    refine ⟨k, ⟨rest, ?_, HD.out.2⟩, HS.out.cb k⟩
    rw [hw2, ← dig_setCount _ _ _ _ (cnt all)]
    exact HD.out.1.set _ _
  have HC2 : Hid (c2 = cnt (all ++ xs)) := hc2
  clear hc2 hc2' hw2 HD HS HN c0 c8 f8
  go_loopw [1] (fun v wr => ∃ (tk ys : List Int), xs = tk ++ ys ∧ Cb D w1 wr ∧ DgC wr D q (all ++ tk) c2 ∧ Sl wr D v ys) (fun v wr => slLen v)
  case atStart => exact ⟨[], xs, rfl, z0.out.1, by rw [List.append_nil]; exact z0.out.2.1, z0.out.2.2⟩
  case round =>
    clear z0
    obtain ⟨tk, ys, hxs, hcb, ⟨rest', hd1, hd2⟩, hs⟩ := hrel
    obtain ⟨al, hal⟩ : ∃ al, al = all ++ tk := ⟨_, rfl⟩
    rw [← hal] at hd1 hd2
    obtain ⟨r, hr⟩ : ∃ r, r = al.length % blockOf q := ⟨_, rfl⟩
    have hrB : r < B := by
      rw [hr, HV.out.1]
      exact Nat.mod_lt _ (by have := HV.out.2.1.pos; omega)
    rw [← hr] at hd1 hd2
    have HX : Hid (xs = tk ++ ys ∧ al = all ++ tk ∧ r = al.length % blockOf q) := ⟨hxs, hal, hr⟩
    have HC : Hid (Cb D w1 wr) := hcb
    have HD : Hid (Ar wr D (dig q (stOf q al) rest' (r : Int) c2) ∧ ∀ j, j < r → rest' j = gd al (blockOf q * (al.length / blockOf q) + j)) := ⟨hd1, hd2⟩
    have HT' : Hid (Tabs wr) := HT.out.cb hcb HV.out.2.2
    have c7 := (hd1.cell 137).trans (dig_held _ _ _ _ _)
    have c0 := (hd1.cell 0).trans (dig_hash _ _ _ _ _)
    have f7 := hd1.frozen 137
    rcases hs with ⟨rfl, rfl⟩ | ⟨a, cap', rfl, rfl⟩ | ⟨b, o, cap', rfl, hcap1, hcap2, hbs, hbD⟩
    --BEGIN nil
    · have lrB : (r : Int) ≤ B := by omega
      have lB : (B : Int) ≤ 128 := by omega
      have hged : decide ((B : Int) ≤ (r : Int)) = false := by simp; omega
      have hrw := wrap_i (x := (r : Int)) (by omega) (by omega)
      have k1 := run_cpNil wr.drew D (9 + r) (B - r) (128 - r)
      clear hxs hal hr hd1 hd2 hcb
      go_wp2_with fail
      go_region_with (fail)
      all_goals go_wp2
      all_goals
        go_end0
        have hh := HD.out.1.drew.set 137 (.int .i64 (r : Int))
        rw [dig_setHeld] at hh
        refine ⟨rfl, HC.out.drew.set _ _, ?_⟩
        obtain ⟨hxs, hal, hr⟩ := HX.out
        have e : all ++ xs = al := by rw [hxs, hal, List.append_nil]
        rw [← HC2.out, e]
        refine ⟨rest', ?_, fun j hj => ?_⟩
        · rw [← hr]
          exact hh
        · rw [← hr] at hj
          exact HD.out.2 j hj
    --END nil
    --BEGIN emp
    · have lrB : (r : Int) ≤ B := by omega
      have lB : (B : Int) ≤ 128 := by omega
      have hged : decide ((B : Int) ≤ (r : Int)) = false := by simp; omega
      have hrw := wrap_i (x := (r : Int)) (by omega) (by omega)
      have k1 := run_cpEmpty wr.drew D (9 + r) (B - r) (128 - r) a cap' _ HD.out.1.drew (by rw [dig_size]; omega)
      clear hxs hal hr hd1 hd2 hcb
      go_wp2_with fail
      go_region_with (fail)
      all_goals go_wp2
      all_goals
        go_end0
        have hh := HD.out.1.drew.set 137 (.int .i64 (r : Int))
        rw [dig_setHeld] at hh
        refine ⟨rfl, HC.out.drew.set _ _, ?_⟩
        obtain ⟨hxs, hal, hr⟩ := HX.out
        have e : all ++ xs = al := by rw [hxs, hal, List.append_nil]
        rw [← HC2.out, e]
        refine ⟨rest', ?_, fun j hj => ?_⟩
        · rw [← hr]
          exact hh
        · rw [← hr] at hj
          exact HD.out.2 j hj
    --END emp
    · obtain ⟨m, hm⟩ : ∃ m, m = ys.length := ⟨_, rfl⟩
      rw [← hm] at hcap1 hcap2 hbs ⊢
      have HY : Hid (m = ys.length ∧ Bs wr b o m (gd ys) ∧ b ≠ D) := ⟨hm, hbs, hbD⟩
      have hrm := wrap_i (x := ((r + m : Nat) : Int)) (by omega) (by omega)
      rw [Int.natCast_add] at hrm
      clear hxs hal hr hd1 hd2 hcb hm hbs hbD
      by_cases hge : B ≤ r + m
      · have hged : decide ((B : Int) ≤ (r : Int) + m) = true := by simp; omega
        by_cases hr0 : r = 0
        · have c7' : wr.cell? ⟨D, 137, none⟩ = some (.int .i64 0) := by rw [c7, hr0]; rfl
          have hged' : decide ((B : Int) ≤ (m : Int)) = true := by simp; omega
          have hmw := wrap_i (x := (m : Int)) (by omega) (by omega)
          have lBm : (B : Int) ≤ m := by omega
          have lBc : (B : Int) ≤ cap' := by omega
          have HM : Hid (Calls Tryd.prog 51 #[.int .i64 q, .pointer (some ⟨D, 1, none⟩), .slice (some ⟨b, o, none⟩) B cap'] wr.drew fun e w' => e = .returned (.tuple #[]) ∧ Cb D wr w' ∧ Ar w' D (dig q (stOf q (al ++ ys.take B)) rest' 0 c2)) := by
            obtain ⟨hB, hv, hD⟩ := HV.out
            obtain ⟨hm, hbs, hbD⟩ := HY.out
            obtain ⟨hxs, hal, hr⟩ := HX.out
            refine (mixInto_any q B D 1 b o cap' (dig q (stOf q al) rest' (r : Int) c2) (stOf q al) (gd ys) wr.drew hB hv (HT'.out.chg (Chg.refl wr).drew) hD HD.out.1.drew (by rw [dig_size]; omega) (fun i hi => dig_st _ _ _ _ _ hi) (fun j hj => hbs j (by omega)) (by omega) (by omega)).mono ?_
            rintro e w' ⟨rfl, g1, g2⟩
            rw [dig_lay] at g2
            have hl : (ys.take B).length = B := by rw [List.length_take]; omega
            obtain ⟨s1, s2⟩ := stOf_block hv al (ys.take B) (gd ys) (by rw [hl]; omega) (fun j hj => by
              have := Nat.div_add_mod al.length (blockOf q)
              rw [gd_right _ _ (by omega), gd_take _ (by omega)]
              congr 1
              omega)
            rw [s1]
            refine ⟨rfl, ((Chg.refl wr).drew.cb D).trans g1, ?_⟩
            rw [hr0] at g2
            exact g2
          clear c7 hged hrm
          go_wp2_with fail
          go_region_held3 (fun w' => w'.cell? ⟨D, 0, none⟩ = some (.int .i64 q)) (first | exact c0 | exact cA) (first | (go_at_call 51; (refine HM.out.mono ?_; rintro e wA ⟨rfl, hcA, haA⟩; have cA := (haA.cell 0).trans (dig_hash _ _ _ _ _))))
          all_goals
            have HA : Hid (Cb D wr wA ∧ Ar wA D (dig q (stOf q (al ++ ys.take B)) rest' 0 c2)) := ⟨hcA, haA⟩
            clear hcA haA cA
            go_wp2
          all_goals
            obtain ⟨hB, hv, hD⟩ := HV.out
            obtain ⟨hm, hbs, hbD⟩ := HY.out
            obtain ⟨hxs, hal, hr⟩ := HX.out
            have hl : (ys.take B).length = B := by rw [List.length_take]; omega
            have hdl : (ys.drop B).length = m - B := by rw [List.length_drop]; omega
            have hz := (stOf_block hv al (ys.take B) (fun j => gd (al ++ ys.take B) (blockOf q * (al.length / blockOf q) + j)) (by rw [hl]; omega) (fun j hj => rfl)).2
            refine ⟨⟨tk ++ ys.take B, ys.drop B, ?_, HC.out.trans HA.out.1, ⟨rest', ?_, ?_⟩, ?_⟩, by simp only [slLen]; omega⟩
            · rw [List.append_assoc, List.take_append_drop, hxs]
            · rw [← List.append_assoc, ← hal, hz]
              exact HA.out.2
            · rw [← List.append_assoc, ← hal, hz]
              intro j hj
              omega
            · first
                | exact Sl.drop hm (hbs.cb HA.out.1 hbD) hbD (by omega) (by omega) (by omega)
                | exact Sl.dropAll hm hbD (by omega)
        · have a0 := HD.out.1.drew
          obtain ⟨n1, hn1⟩ : ∃ n1, n1 = B - r := ⟨_, rfl⟩
          have k1 := run_cpD wr.drew D q (stOf q al) rest' r c2 r (B - r) (128 - r) b o m cap' ys a0 HY.out.2.1 HY.out.1 n1 (by rw [hn1]; exact (Nat.min_eq_right (show B - r ≤ m by omega)).symm) (by omega)
          obtain ⟨W2, hW2⟩ : ∃ W2, W2 = wr.drew.setRow D (dig q (stOf q al) (over r (ys.take n1) rest') r c2) := ⟨_, rfl⟩
          rw [← hW2] at k1
          have a1 : Ar W2 D (dig q (stOf q al) (over r (ys.take n1) rest') r c2) := by rw [hW2]; exact a0.row _
          have b2 : Cb D wr W2 := by
            rw [hW2]
            exact ((Chg.refl wr).drew.cb D).trans ⟨rfl, rfl, rfl, by simp, fun k hk hb => setRow_other _ _ _ _ hb⟩
          have d7 := (a1.cell 137).trans (dig_held _ _ _ _ _)
          have d0 := (a1.cell 0).trans (dig_hash _ _ _ _ _)
          have lrB : (r : Int) ≤ B := by omega
          have lB : (B : Int) ≤ 128 := by omega
          have HM : Hid (Calls Tryd.prog 51 #[.int .i64 q, .pointer (some ⟨D, 1, none⟩), .slice (some ⟨D, 9, none⟩) B 128] W2.drew fun e w' => e = .returned (.tuple #[]) ∧ Cb D wr w' ∧ Ar w' D (dig q (stOf q (al ++ ys.take n1)) (over r (ys.take n1) rest') r c2)) := by
            obtain ⟨hB, hv, hD⟩ := HV.out
            obtain ⟨hm, hbs, hbD⟩ := HY.out
            obtain ⟨hxs, hal, hr⟩ := HX.out
            refine (mixInto_any q B D 1 D 9 128 (dig q (stOf q al) (over r (ys.take n1) rest') (r : Int) c2) (stOf q al) (over r (ys.take n1) rest') W2.drew hB hv ((HT'.out.cb b2 hD).chg (Chg.refl W2).drew) hD a1.drew (by rw [dig_size]; omega) (fun i hi => dig_st _ _ _ _ _ hi) (fun j hj => (a1.drew.cell (9 + j)).trans (dig_rest _ _ _ _ _ (by omega))) (by omega) (by omega)).mono ?_
            rintro e w' ⟨rfl, g1, g2⟩
            rw [dig_lay] at g2
            have hl : (ys.take n1).length = n1 := by rw [List.length_take]; omega
            obtain ⟨s1, s2⟩ := stOf_block hv al (ys.take n1) (over r (ys.take n1) rest') (by rw [hl]; omega) (fun j hj => by
              have := Nat.div_add_mod al.length (blockOf q)
              unfold over
              by_cases hjr : j < r
              · rw [if_neg (by omega), HD.out.2 j hjr, gd_left _ _ (by omega)]
              · rw [if_pos (by omega), gd_right _ _ (by omega)]
                congr 1
                omega)
            rw [s1]
            exact ⟨rfl, b2.drew.trans g1, g2⟩
          have hn1w := wrap_i (x := (n1 : Int)) (by omega) (by omega)
          have ln1 : (n1 : Int) ≤ m := by omega
          have ln2 : (n1 : Int) ≤ cap' := by omega
          have hr0' : ¬ (r : Int) = 0 := by omega
          have HN1 : Hid (n1 = B - r) := hn1
          clear a0 a1 hW2 b2 hn1
          go_wp2_with fail
          go_region_held3 (fun w' => w'.cell? ⟨D, 137, none⟩ = some (.int .i64 r)) (first | exact c7 | exact d7) (fail)
          all_goals go_wp2_with fail
          go_region_held3 (fun w' => w'.cell? ⟨D, 0, none⟩ = some (.int .i64 q)) (first | exact d0 | exact cA) (first | (go_at_call 51; (refine HM.out.mono ?_; rintro e wA ⟨rfl, hcA, haA⟩; have cA := (haA.cell 0).trans (dig_hash _ _ _ _ _))))
          all_goals
            have e7 := (haA.cell 137).trans (dig_held _ _ _ _ _)
            have f7 := haA.frozen 137
            have HA : Hid (Cb D wr wA ∧ Ar wA D (dig q (stOf q (al ++ ys.take n1)) (over r (ys.take n1) rest') r c2)) := ⟨hcA, haA⟩
            clear hcA haA cA
            go_wp2
          all_goals
            have hh := HA.out.2.set 137 (.int .i64 0)
            rw [dig_setHeld] at hh
            obtain ⟨hB, hv, hD⟩ := HV.out
            obtain ⟨hm, hbs, hbD⟩ := HY.out
            obtain ⟨hxs, hal, hr⟩ := HX.out
            have hn1 := HN1.out
            have hl : (ys.take n1).length = n1 := by rw [List.length_take]; omega
            have hdl : (ys.drop n1).length = m - n1 := by rw [List.length_drop]; omega
            have hz := (stOf_block hv al (ys.take n1) (fun j => gd (al ++ ys.take n1) (blockOf q * (al.length / blockOf q) + j)) (by rw [hl]; omega) (fun j hj => rfl)).2
            refine ⟨⟨tk ++ ys.take n1, ys.drop n1, ?_, (HC.out.trans HA.out.1).set _ _, ⟨over r (ys.take n1) rest', ?_, ?_⟩, ?_⟩, by simp only [slLen]; omega⟩
            · rw [List.append_assoc, List.take_append_drop, hxs]
            · rw [← List.append_assoc, ← hal, hz]
              exact hh
            · rw [← List.append_assoc, ← hal, hz]
              intro j hj
              omega
            · first
                | exact Sl.drop hm (hbs.cb (HA.out.1.set _ _) hbD) hbD (by omega) (by omega) (by omega)
                | exact Sl.dropAll hm hbD (by omega)
      --BEGIN out
      · have hged : decide ((B : Int) ≤ (r : Int) + m) = false := by simp; omega
        have a0 := HD.out.1.drew
        have k1 := run_cpD wr.drew D q (stOf q al) rest' r c2 r (B - r) (128 - r) b o m cap' ys a0 HY.out.2.1 HY.out.1 m (Nat.min_eq_left (show m ≤ B - r by omega)).symm (by omega)
        rw [List.take_of_length_le (by rw [← HY.out.1]; exact Nat.le_refl _)] at k1
        obtain ⟨W2, hW2⟩ : ∃ W2, W2 = wr.drew.setRow D (dig q (stOf q al) (over r ys rest') r c2) := ⟨_, rfl⟩
        rw [← hW2] at k1
        have a1 : Ar W2 D (dig q (stOf q al) (over r ys rest') r c2) := by rw [hW2]; exact a0.row _
        have d7 := (a1.cell 137).trans (dig_held _ _ _ _ _)
        have g7 := a1.frozen 137
        have A1 : Hid (Ar W2 D (dig q (stOf q al) (over r ys rest') r c2) ∧ Cb D w1 W2) := ⟨a1, by
          rw [hW2]
          refine HC.out.drew.trans ⟨rfl, rfl, rfl, by simp, fun k hk hb => setRow_other _ _ _ _ hb⟩⟩
        have lrB : (r : Int) ≤ B := by omega
        have lB : (B : Int) ≤ 128 := by omega
        clear a0 a1 hW2
        go_wp2_with fail
        go_region_with (fail)
        all_goals go_wp2
        all_goals
          go_end0
          have hh := A1.out.1.set 137 (.int .i64 ((r : Int) + m))
          rw [dig_setHeld] at hh
          refine ⟨rfl, A1.out.2.set _ _, ?_⟩
          obtain ⟨hxs, hal, hr⟩ := HX.out
          obtain ⟨hm, _, _⟩ := HY.out
          obtain ⟨hB, hv, _⟩ := HV.out
          obtain ⟨s1, s2, s3⟩ := stOf_more hv al ys (by omega)
          have e : all ++ xs = al ++ ys := by rw [hxs, hal, List.append_assoc]
          rw [← HC2.out, e]
          refine ⟨over r ys rest', ?_, fun j hj => ?_⟩
          · rw [s1, s2, ← hr, ← hm, Int.natCast_add]
            exact hh
          · rw [s2, ← hr] at hj
            rw [s3]
            unfold over
            by_cases hjr : j < r
            · rw [if_neg (by omega), HD.out.2 j hjr, gd_left]
              have := Nat.div_add_mod al.length (blockOf q)
              omega
            · rw [if_pos (by omega), gd_right]
              · congr 1
                have := Nat.div_add_mod al.length (blockOf q)
                omega
              · have := Nat.div_add_mod al.length (blockOf q)
                omega
      --END out
end Go.Proofs.YtijpdhjlafihkaaDoor
