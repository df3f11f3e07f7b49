/-
  The document's ended: below 2^130 - 5.
-/
import Derived.Test.YtkdidacebfkdmaaRNf
namespace Go.Proofs.Ytkdidacebfkdmaa
open Go.RowKit
set_option linter.unusedVariables false

/-- Nine digits being worked on, and the result. -/
structure EN (w wr : World) (a : Nat → Int) : Prop where
  chg : Chg w wr
  a : Ar wr w.heap.size (arr .u64 9 a)
  out : Ar wr (w.heap.size + 1) (arr .u64 9 zI)
theorem EN.to {w wr u : World} {a : Nat → Int} (h : EN w wr a) (k : Chg wr u) : EN w u a := ⟨h.chg.trans k, h.a.chg k, h.out.chg k⟩
theorem EN.other {w wr : World} {a : Nat → Int} (h : EN w wr a) {B : Nat} (hB : w.heap.size + 1 < B) (i : Nat) (v : Value) : EN w (wr.setCell ⟨B, i, none⟩ v) a :=
  ⟨h.chg.setCell (by dsimp only; omega) _, h.a.other (by dsimp only; omega) _, h.out.other (by dsimp only; omega) _⟩
theorem EN.row {w wr : World} {a : Nat → Int} (h : EN w wr a) (b : Nat → Int) : EN w (wr.setRow w.heap.size (arr .u64 9 b)) b :=
  ⟨h.chg.setRow (Nat.le_refl _) _, h.a.row _, h.out.rowOther (by omega) _⟩
theorem g5_le {a : Nat → Int} (ha : D16 9 a) : ∀ n, n ≤ 9 → 0 ≤ gO 65536 5 a n ∧ gO 65536 5 a n ≤ 5 := by
  intro n
  induction n with
  | zero => intro _; show 0 ≤ (5 : Int) ∧ (5 : Int) ≤ 5; omega
  | succ n ih =>
    intro hn
    have h1 := ih (by omega)
    have h2 := ha n (by omega)
    show 0 ≤ (a n + gO 65536 5 a n) / 65536 ∧ (a n + gO 65536 5 a n) / 65536 ≤ 5
    omega
/-- One try. -/
theorem try_ok {a : Nat → Int} (ha : D16 9 a) (hv : val 65536 9 a < 4083388403051261561560495289181218537457) :
    gO 65536 5 a 9 = 0 ∧ val 65536 9 (gD 65536 5 a) = val 65536 9 a + 5 ∧ (gD 65536 5 a 8 < 4 ↔ val 65536 9 a < 1361129467683753853853498429727072845819) ∧
    (¬ gD 65536 5 a 8 < 4 → D16 9 (updI (gD 65536 5 a) 8 (gD 65536 5 a 8 - 4)) ∧ val 65536 9 (updI (gD 65536 5 a) 8 (gD 65536 5 a 8 - 4)) = val 65536 9 a - 1361129467683753853853498429727072845819) := by
  have h := g_val 65536 5 a 9
  have b := val_bound (B := 65536) (by decide) (n := 9) (fun i _ => gD_bound (B := 65536) (by decide) 5 a i)
  have b8 := val_bound (B := 65536) (by decide) (n := 8) (fun i _ => gD_bound (B := 65536) (by decide) 5 a i)
  have d8 := gD_bound (B := 65536) (by decide) 5 a 8
  have g := g5_le ha 9 (Nat.le_refl _)
  have e8 : val 65536 9 (gD 65536 5 a) = val 65536 8 (gD 65536 5 a) + gD 65536 5 a 8 * 65536 ^ 8 := rfl
  have p8 : (65536 : Int) ^ 8 = 340282366920938463463374607431768211456 := by decide
  have p9 : (65536 : Int) ^ 9 = 22300745198530623141535718272648361505980416 := by decide
  have a0 := val_nonneg (B := 65536) (by decide) (n := 9) (d := a) (fun i hi => (ha i hi).1)
  rw [p9] at h b
  rw [p8] at e8 b8
  have h0 : gO 65536 5 a 9 = 0 := by omega
  rw [h0] at h
  refine ⟨h0, by omega, by omega, fun hn => ⟨fun i hi => ?_, ?_⟩⟩
  · unfold updI
    split
    · omega
    · exact gD_bound (by decide) 5 a i
  · rw [val_upd_in _ _ (by decide), p8]
    omega

def beF (a : Nat → Int) (i : Nat) : Nat → Int := fun j => if j < i then gD 65536 5 a j else 0
theorem beF_zero (a : Nat → Int) : beF a 0 = zI := by funext j; unfold beF zI; rw [if_neg (by omega)]
theorem beF_succ (a : Nat → Int) (i : Nat) : updI (beF a i) i (gD 65536 5 a i) = beF a (i + 1) := by
  funext j
  unfold updI beF
  by_cases h : j = i
  · subst h
    rw [if_pos rfl, if_pos (by omega)]
  · rw [if_neg h]
    by_cases h1 : j < i
    · rw [if_pos h1, if_pos (by omega)]
    · rw [if_neg h1, if_neg (by omega)]
theorem beF_all (a : Nat → Int) : arr .u64 9 (beF a 9) = arr .u64 9 (gD 65536 5 a) := arr_congr fun j hj => by unfold beF; rw [if_pos hj]

/-- What a number is behind so many tries. -/
structure ET (V : Int) (t : Nat) (a : Nat → Int) : Prop where
  d : D16 9 a
  m : val 65536 9 a % 1361129467683753853853498429727072845819 = V % 1361129467683753853853498429727072845819
  n : 0 ≤ val 65536 9 a
  l : val 65536 9 a < 4083388403051261561560495289181218537457 ∧ (1 ≤ t → val 65536 9 a < 2722258935367507707706996859454145691638) ∧ (2 ≤ t → val 65536 9 a < 1361129467683753853853498429727072845819)
theorem ET.less {V : Int} {t : Nat} {a : Nat → Int} (h : ET V t a) (hl : val 65536 9 a < 1361129467683753853853498429727072845819) : val 65536 9 a = V % 1361129467683753853853498429727072845819 := by
  rw [← h.m, Int.emod_eq_of_lt h.n hl]
theorem ET.next {V : Int} {t : Nat} {a b : Nat → Int} (h : ET V t a) (hl : ¬ val 65536 9 a < 1361129467683753853853498429727072845819) (hd : D16 9 b) (hb : val 65536 9 b = val 65536 9 a - 1361129467683753853853498429727072845819) : ET V (t + 1) b := by
  have h1 := h.l
  refine ⟨hd, ?_, by omega, by omega, fun _ => by omega, fun ht => ?_⟩
  · rw [hb, ← h.m, Int.sub_emod_right]
  · have := h1.2.1 (by omega)
    omega

set_option maxRecDepth 100000 in
set_option maxHeartbeats 8000000 in
theorem ended_any (a0 : Nat → Int) (w : World) (ha : D16 9 a0) (hv : val 65536 9 a0 < 2722258935367507707706996859454145691648) : Calls Try.prog 32 #[.agg (arr .u64 9 a0)] w fun r w' => ∃ z, r = .returned (.agg (arr .u64 9 z)) ∧ D16 9 z ∧ val 65536 9 z = val 65536 9 a0 % 1361129467683753853853498429727072845819 ∧ Chg w w' := by
  obtain ⟨A, hA⟩ : ∃ A, A = arr .u64 9 a0 := ⟨_, rfl⟩
  have hsA : A.size = 9 := by rw [hA]; exact arr_size _ _ _
  have HA : Hid (A = arr .u64 9 a0) := hA
  rw [← hA]
  obtain ⟨V, hV⟩ : ∃ V, V = val 65536 9 a0 := ⟨_, rfl⟩
  rw [← hV] at hv ⊢
  have HV : Hid (ET V 0 a0) := by
    have := val_nonneg (B := 65536) (by decide) (n := 9) (d := a0) (fun i hi => (ha i hi).1)
    exact ⟨ha, by rw [hV], this, by omega, fun h => by omega, fun h => by omega⟩
  clear hA hv ha hV
  have hz := zero58.1
  go_enter Try.func32, Try.ntmps32
  go_upto_region 1 with fail
  obtain ⟨w2, hw2⟩ : ∃ w2, w2 = (w.alloc (.cells A 58)).alloc (.cells (arr .u64 9 zI) 58) := ⟨_, rfl⟩
  have Z2 : Hid (EN w w2 a0) := by
    rw [hw2, HA.out]
    exact ⟨((Chg.refl w).alloc _).alloc _, (Ar.new w _ _).alloc _, Ar.new1 w _ _ _⟩
  rw [← hw2]
  clear hw2 hsA
  go_wp2_with fail
  go_loopw [3] (fun v wr => ∃ (t : Nat) (a : Nat → Int), v = .int .i64 t ∧ t ≤ 4 ∧ EN w wr a ∧ ET V t a) (fun v wr => 4 - (intOf v).toNat)
  case atStart => exact ⟨0, a0, rfl, by omega, Z2.out, HV.out⟩
  case round =>
    clear Z2
    obtain ⟨t, a, rfl, ht, hz0, he0⟩ := hrel
    have HE : Hid (ET V t a) := he0
    by_cases hlt : t < 4
    · have hd : decide ((t : Int) < 4) = true := by simp; omega
      have HT := (show Hid (_) from try_ok he0.d he0.l.1)
      have Z : Hid (EN w wr a) := hz0
      clear hz0 he0
      go_upto_region 5 with fail
      obtain ⟨B, hB⟩ : ∃ B, B = wr.heap.size := ⟨_, rfl⟩
      obtain ⟨w3, hw3⟩ : ∃ w3, w3 = wr.alloc (.cells (arr .u64 9 zI) 58) := ⟨_, rfl⟩
      have Z3 : Hid ((EN w w3 a ∧ Ar w3 B (arr .u64 9 (beF a 0))) ∧ w.heap.size + 1 < B) := by
        have k := Z.out
        have e := k.out.lt
        rw [hw3, hB, beF_zero]
        exact ⟨⟨k.to ((Chg.refl wr).alloc _), Ar.new wr _ _⟩, e⟩
      rw [← hw3, ← hB]
      clear hw3 hB Z
      have HL : Hid (w.heap.size + 1 < B) := Z3.out.2
      go_wp2_with fail
      go_loopw [5, 6] (fun v5 v6 wr => ∃ (i : Nat), v6 = .int .i64 i ∧ i ≤ 9 ∧ v5 = .int .u64 (gO 65536 5 a i) ∧ EN w wr a ∧ Ar wr B (arr .u64 9 (beF a i))) (fun v5 v6 wr => 9 - (intOf v6).toNat)
      case atStart => exact ⟨0, rfl, by omega, rfl, Z3.out.1⟩
      case round =>
        clear Z3
        obtain ⟨i, rfl, hi, rfl, hz0, hz1⟩ := hrel
        have Z : Hid (EN w wr a ∧ Ar wr B (arr .u64 9 (beF a i))) := ⟨hz0, hz1⟩
        obtain ⟨o, ho⟩ : ∃ o, o = gO 65536 5 a i := ⟨_, rfl⟩
        rw [← ho]
        by_cases hit : i < 9
        · have hd2 : decide ((i : Int) < 9) = true := by simp; omega
          have li : (i : Int) < 9 := by omega
          have b1 := HE.out.d i hit
          have b2 := g5_le HE.out.d i (by omega)
          rw [← ho] at b2
          have c1 := (hz0.a.cell i).trans (arr_get .u64 9 _ hit)
          have c2 := (hz1.cell i).trans (arr_get .u64 9 _ hit)
          have f2 := hz1.frozen i
          obtain ⟨x, hx⟩ : ∃ x, x = a i := ⟨_, rfl⟩
          obtain ⟨v, hv⟩ : ∃ v, v = beF a i i := ⟨_, rfl⟩
          rw [← hx] at c1 b1
          rw [← hv] at c2
          obtain ⟨s, hs⟩ : ∃ s, x + o = s := ⟨_, rfl⟩
          have ws := wrap_u (x := s) (by omega) (by omega)
          have ms := mask16 (x := s) (by omega) (by omega)
          obtain ⟨m, hm⟩ : ∃ m, s % 65536 = m := ⟨_, rfl⟩
          rw [hm] at ms
          obtain ⟨q, hq⟩ : ∃ q, s / 65536 = q := ⟨_, rfl⟩
          have HX : Hid (m = gD 65536 5 a i ∧ q = gO 65536 5 a (i + 1)) := by
            refine ⟨?_, ?_⟩
            · show m = (a i + gO 65536 5 a i) % 65536
              rw [← ho, ← hx, hs, hm]
            · show q = (a i + gO 65536 5 a i) / 65536
              rw [← ho, ← hx, hs, hq]
          clear hx hv hz0 hz1 b1 b2 ho hm
          go_wp2_with fail
          go_roundw
          case rel =>
            refine ⟨i + 1, by go_num, by omega, by rw [HX.out.2], Z.out.1.other HL.out i _, ?_⟩
            have hh := Z.out.2.set i (.int .u64 m)
            rw [arr_set, upd_updI, HX.out.1, beF_succ, ← HX.out.1] at hh
            exact hh
          case measure => simp [intOf]; omega
        · have : i = 9 := by omega
          subst this
          rw [show ((9 : Nat) : Int) = 9 from rfl]
          have ho0 : o = 0 := by rw [ho]; exact HT.out.1
          subst ho0
          obtain ⟨g, hg⟩ : ∃ g, g = gD 65536 5 a := ⟨_, rfl⟩
          rw [beF_all, ← hg] at hz1
          have HG : Hid (g = gD 65536 5 a) := hg
          have c8 := (hz1.cell 8).trans (arr_get .u64 9 _ (by decide))
          have f8 := hz1.frozen 8
          obtain ⟨x, hx⟩ : ∃ x, x = g 8 := ⟨_, rfl⟩
          rw [← hx] at c8
          have Z4 : Hid (EN w wr a ∧ Ar wr B (arr .u64 9 g)) := ⟨hz0, hz1⟩
          have b8 : 0 ≤ x ∧ x < 65536 := by rw [hx, hg]; exact gD_bound (by decide) 5 a 8
          have HX : Hid (x = gD 65536 5 a 8) := by show x = _; rw [hx, hg]
          clear hz0 hz1 hg hx Z ho
          by_cases h4 : x < 4
          · have hb4 : decide (x < 4) = true := by simp; omega
            have HW : Hid (val 65536 9 a = V % 1361129467683753853853498429727072845819) := by
              refine HE.out.less (HT.out.2.2.1.1 ?_)
              rw [← HX.out]
              exact h4
            obtain ⟨t1, g1⟩ := Z4.out.1.a
            obtain ⟨t3, g3⟩ := Z4.out.1.out
            have hsz := szI a i58
            have hlen := lenI 9 zI a
            have hone := arr_one .u64 9 a
            go_wp2_with (first | refine wpList_load_row rfl 58 _ rfl _ rfl _ _ _ _ g1 und58 rfl hsz ?_ | refine wpList_store_row rfl 58 _ _ rfl _ _ rfl rfl _ _ g3 hsz hlen hone ?_)
            refine bp_c (n := 9) (c := arr .u64 9 a) Try.results32 rfl rfl ?_ und58 i58 (arr_size _ _ _) ⟨a, rfl, HE.out.d, HW.out, ?_⟩
            · exact Z4.out.1.out.row _
            · exact Z4.out.1.chg.setRow (by omega) _
          · have hb4 : decide (x < 4) = false := by simp; omega
            obtain ⟨y, hy⟩ : ∃ y, x - 4 = y := ⟨_, rfl⟩
            have wy := wrap_u (x := y) (by omega) (by omega)
            obtain ⟨b, hb⟩ : ∃ b, b = updI g 8 y := ⟨_, rfl⟩
            have HB : Hid (ET V (t + 1) b) := by
              have h1 := HT.out.2.2.2 (by rw [← HX.out]; omega)
              have e : b = updI (gD 65536 5 a) 8 (gD 65536 5 a 8 - 4) := by rw [hb, ← hy, HX.out, HG.out]
              rw [e]
              refine HE.out.next (fun hn => h4 ?_) h1.1 h1.2
              rw [HX.out]
              exact HT.out.2.2.1.2 hn
            have HBe : Hid (b = updI g 8 y) := hb
            clear hb
            go_upto_region 15 with fail
            obtain ⟨w5, hw5⟩ : ∃ u, u = wr.setCell ⟨B, 8, none⟩ (.int .u64 y) := ⟨_, rfl⟩
            have Z5 : Hid (EN w w5 a ∧ Ar w5 B (arr .u64 9 b)) := by
              have hh := Z4.out.2.set 8 (.int .u64 y)
              rw [arr_set, upd_updI, ← HBe.out] at hh
              rw [hw5]
              exact ⟨Z4.out.1.other HL.out 8 _, hh⟩
            rw [← hw5]
            clear hw5 c8 f8 Z4
            obtain ⟨t1, g1⟩ := Z5.out.2
            obtain ⟨t3, g3⟩ := Z5.out.1.a
            have hsz := szI b i58
            have hlen := lenI 9 a b
            have hone := arr_one .u64 9 b
            go_wp2_with (first | refine wpList_load_row rfl 58 _ rfl _ rfl _ _ _ _ g1 und58 rfl hsz ?_ | refine wpList_store_row rfl 58 _ _ rfl _ _ rfl rfl _ _ g3 hsz hlen hone ?_)
            go_roundw
            case rel => exact ⟨t + 1, b, by go_num, by omega, Z5.out.1.row b, HB.out⟩
            case measure => simp [intOf]; omega
    · have : t = 4 := by omega
      subst this
      have HW : Hid (val 65536 9 a = V % 1361129467683753853853498429727072845819) := HE.out.less (HE.out.l.2.2 (by decide))
      have Z : Hid (EN w wr a) := hz0
      obtain ⟨t1, g1⟩ := hz0.a
      obtain ⟨t3, g3⟩ := hz0.out
      clear hz0 he0
      have hsz := szI a i58
      have hlen := lenI 9 zI a
      have hone := arr_one .u64 9 a
      go_wp2_with (first | refine wpList_load_row rfl 58 _ rfl _ rfl _ _ _ _ g1 und58 rfl hsz ?_ | refine wpList_store_row rfl 58 _ _ rfl _ _ rfl rfl _ _ g3 hsz hlen hone ?_)
      refine bp_c (n := 9) (c := arr .u64 9 a) Try.results32 rfl rfl ?_ und58 i58 (arr_size _ _ _) ⟨a, rfl, HE.out.d, HW.out, ?_⟩
      · exact Z.out.out.row _
      · exact Z.out.chg.setRow (by omega) _
end Go.Proofs.Ytkdidacebfkdmaa
