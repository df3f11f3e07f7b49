/-
  The document's ended: below 2^130 - 5.
  The document's code of a text: the first half of its key.
  The document's code of a text: a piece is added.
-/
import Derived.Test.YtobglgddbhddnaaGreatJ29
import Derived.Lib.EndianBits
namespace Go.Proofs.YtobglgddbhddnaaGreat.Cha
open Go.RowKit
set_option linter.unusedVariables false

/-- Nine digits being worked on, and the result. -/
structure EN (w wr : World) (a : Nat → Int) : Prop where
  chg : Chg w wr
  a : Ar wr w.heap.size (arr .u64 9 a)
  out : Ar wr (w.heap.size + 1) (arr .u64 9 zI)
theorem EN.to {w wr u : World} {a : Nat → Int} (h : EN w wr a) (k : Chg wr u) : EN w u a := ⟨h.chg.trans k, h.a.chg k, h.out.chg k⟩
theorem EN.other {w wr : World} {a : Nat → Int} (h : EN w wr a) {B : Nat} (hB : w.heap.size + 1 < B) (i : Nat) (v : Value) : EN w (wr.setCell ⟨B, i, none⟩ v) a :=
  ⟨h.chg.setCell (by dsimp only; omega) _, h.a.other (by dsimp only; omega) _, h.out.other (by dsimp only; omega) _⟩
theorem EN.row {w wr : World} {a : Nat → Int} (h : EN w wr a) (b : Nat → Int) : EN w (wr.setRow w.heap.size (arr .u64 9 b)) b :=
  ⟨h.chg.setRow (Nat.le_refl _) _, h.a.row _, h.out.rowOther (by omega) _⟩
theorem g5_le {a : Nat → Int} (ha : D16 9 a) : ∀ n, n ≤ 9 → 0 ≤ gO 65536 5 a n ∧ gO 65536 5 a n ≤ 5 := by
  intro n
  induction n with
  | zero => intro _; show 0 ≤ (5 : Int) ∧ (5 : Int) ≤ 5; omega
  | succ n ih =>
    intro hn
    have h1 := ih (by omega)
    have h2 := ha n (by omega)
    show 0 ≤ (a n + gO 65536 5 a n) / 65536 ∧ (a n + gO 65536 5 a n) / 65536 ≤ 5
    omega
/-- One try. -/
theorem try_ok {a : Nat → Int} (ha : D16 9 a) (hv : val 65536 9 a < 4083388403051261561560495289181218537457) :
    gO 65536 5 a 9 = 0 ∧ val 65536 9 (gD 65536 5 a) = val 65536 9 a + 5 ∧ (gD 65536 5 a 8 < 4 ↔ val 65536 9 a < 1361129467683753853853498429727072845819) ∧
    (¬ gD 65536 5 a 8 < 4 → D16 9 (updI (gD 65536 5 a) 8 (gD 65536 5 a 8 - 4)) ∧ val 65536 9 (updI (gD 65536 5 a) 8 (gD 65536 5 a 8 - 4)) = val 65536 9 a - 1361129467683753853853498429727072845819) := by
  have h := g_val 65536 5 a 9
  have b := val_bound (B := 65536) (by decide) (n := 9) (fun i _ => gD_bound (B := 65536) (by decide) 5 a i)
  have b8 := val_bound (B := 65536) (by decide) (n := 8) (fun i _ => gD_bound (B := 65536) (by decide) 5 a i)
  have d8 := gD_bound (B := 65536) (by decide) 5 a 8
  have g := g5_le ha 9 (Nat.le_refl _)
  have e8 : val 65536 9 (gD 65536 5 a) = val 65536 8 (gD 65536 5 a) + gD 65536 5 a 8 * 65536 ^ 8 := rfl
  have p8 : (65536 : Int) ^ 8 = 340282366920938463463374607431768211456 := by decide
  have p9 : (65536 : Int) ^ 9 = 22300745198530623141535718272648361505980416 := by decide
  have a0 := val_nonneg (B := 65536) (by decide) (n := 9) (d := a) (fun i hi => (ha i hi).1)
  rw [p9] at h b
  rw [p8] at e8 b8
  have h0 : gO 65536 5 a 9 = 0 := by omega
  rw [h0] at h
  refine ⟨h0, by omega, by omega, fun hn => ⟨fun i hi => ?_, ?_⟩⟩
  · unfold updI
    split
    · omega
    · exact gD_bound (by decide) 5 a i
  · rw [val_upd_in _ _ (by decide), p8]
    omega

def beF (a : Nat → Int) (i : Nat) : Nat → Int := fun j => if j < i then gD 65536 5 a j else 0
theorem beF_zero (a : Nat → Int) : beF a 0 = zI := by funext j; unfold beF zI; rw [if_neg (by omega)]
theorem beF_succ (a : Nat → Int) (i : Nat) : updI (beF a i) i (gD 65536 5 a i) = beF a (i + 1) := by
  funext j
  unfold updI beF
  by_cases h : j = i
  · subst h
    rw [if_pos rfl, if_pos (by omega)]
  · rw [if_neg h]
    by_cases h1 : j < i
    · rw [if_pos h1, if_pos (by omega)]
    · rw [if_neg h1, if_neg (by omega)]
theorem beF_all (a : Nat → Int) : arr .u64 9 (beF a 9) = arr .u64 9 (gD 65536 5 a) := arr_congr fun j hj => by unfold beF; rw [if_pos hj]

/-- What a number is behind so many tries. -/
structure ET (V : Int) (t : Nat) (a : Nat → Int) : Prop where
  d : D16 9 a
  m : val 65536 9 a % 1361129467683753853853498429727072845819 = V % 1361129467683753853853498429727072845819
  n : 0 ≤ val 65536 9 a
  l : val 65536 9 a < 4083388403051261561560495289181218537457 ∧ (1 ≤ t → val 65536 9 a < 2722258935367507707706996859454145691638) ∧ (2 ≤ t → val 65536 9 a < 1361129467683753853853498429727072845819)
theorem ET.less {V : Int} {t : Nat} {a : Nat → Int} (h : ET V t a) (hl : val 65536 9 a < 1361129467683753853853498429727072845819) : val 65536 9 a = V % 1361129467683753853853498429727072845819 := by
  rw [← h.m, Int.emod_eq_of_lt h.n hl]
theorem ET.next {V : Int} {t : Nat} {a b : Nat → Int} (h : ET V t a) (hl : ¬ val 65536 9 a < 1361129467683753853853498429727072845819) (hd : D16 9 b) (hb : val 65536 9 b = val 65536 9 a - 1361129467683753853853498429727072845819) : ET V (t + 1) b := by
  have h1 := h.l
  refine ⟨hd, ?_, by omega, by omega, fun _ => by omega, fun ht => ?_⟩
  · rw [hb, ← h.m, Int.sub_emod_right]
  · have := h1.2.1 (by omega)
    omega

set_option maxRecDepth 100000 in
set_option maxHeartbeats 8000000 in
theorem ended_any (a0 : Nat → Int) (w : World) (ha : D16 9 a0) (hv : val 65536 9 a0 < 2722258935367507707706996859454145691648) : Calls Tryz.prog 52 #[.agg (arr .u64 9 a0)] w fun r w' => ∃ z, r = .returned (.agg (arr .u64 9 z)) ∧ D16 9 z ∧ val 65536 9 z = val 65536 9 a0 % 1361129467683753853853498429727072845819 ∧ Chg w w' := by
  obtain ⟨A, hA⟩ : ∃ A, A = arr .u64 9 a0 := ⟨_, rfl⟩
  have hsA : A.size = 9 := by rw [hA]; exact arr_size _ _ _
  have HA : Hid (A = arr .u64 9 a0) := hA
  rw [← hA]
  obtain ⟨V, hV⟩ : ∃ V, V = val 65536 9 a0 := ⟨_, rfl⟩
  rw [← hV] at hv ⊢
  have HV : Hid (ET V 0 a0) := by
    have := val_nonneg (B := 65536) (by decide) (n := 9) (d := a0) (fun i hi => (ha i hi).1)
    exact ⟨ha, by rw [hV], this, by omega, fun h => by omega, fun h => by omega⟩
  clear hA hv ha hV
  have hz := zero58.1
  go_enter Tryz.func52, Tryz.ntmps52
  go_upto_region 1 with fail
  obtain ⟨w2, hw2⟩ : ∃ w2, w2 = (w.alloc (.cells A 88)).alloc (.cells (arr .u64 9 zI) 88) := ⟨_, rfl⟩
  have Z2 : Hid (EN w w2 a0) := by
    rw [hw2, HA.out]
    exact ⟨((Chg.refl w).alloc _).alloc _, (Ar.new w _ _).alloc _, Ar.new1 w _ _ _⟩
  rw [← hw2]
  clear hw2 hsA
  go_wp2_with fail
  go_loopw [3] (fun v wr => ∃ (t : Nat) (a : Nat → Int), v = .int .i64 t ∧ t ≤ 4 ∧ EN w wr a ∧ ET V t a) (fun v wr => 4 - (intOf v).toNat)
  case atStart => exact ⟨0, a0, rfl, by omega, Z2.out, HV.out⟩
  case round =>
    clear Z2
    obtain ⟨t, a, rfl, ht, hz0, he0⟩ := hrel
    have HE : Hid (ET V t a) := he0
    by_cases hlt : t < 4
    · have hd : decide ((t : Int) < 4) = true := by simp; omega
      have HT := (show Hid (_) from try_ok he0.d he0.l.1)
      have Z : Hid (EN w wr a) := hz0
      clear hz0 he0
      go_upto_region 5 with fail
      obtain ⟨B, hB⟩ : ∃ B, B = wr.heap.size := ⟨_, rfl⟩
      obtain ⟨w3, hw3⟩ : ∃ w3, w3 = wr.alloc (.cells (arr .u64 9 zI) 88) := ⟨_, rfl⟩
      have Z3 : Hid ((EN w w3 a ∧ Ar w3 B (arr .u64 9 (beF a 0))) ∧ w.heap.size + 1 < B) := by
        have k := Z.out
        have e := k.out.lt
        rw [hw3, hB, beF_zero]
        exact ⟨⟨k.to ((Chg.refl wr).alloc _), Ar.new wr _ _⟩, e⟩
      rw [← hw3, ← hB]
      clear hw3 hB Z
      have HL : Hid (w.heap.size + 1 < B) := Z3.out.2
      go_wp2_with fail
      go_loopw [5, 6] (fun v5 v6 wr => ∃ (i : Nat), v6 = .int .i64 i ∧ i ≤ 9 ∧ v5 = .int .u64 (gO 65536 5 a i) ∧ EN w wr a ∧ Ar wr B (arr .u64 9 (beF a i))) (fun v5 v6 wr => 9 - (intOf v6).toNat)
      case atStart => exact ⟨0, rfl, by omega, rfl, Z3.out.1⟩
      case round =>
        clear Z3
        obtain ⟨i, rfl, hi, rfl, hz0, hz1⟩ := hrel
        have Z : Hid (EN w wr a ∧ Ar wr B (arr .u64 9 (beF a i))) := ⟨hz0, hz1⟩
        obtain ⟨o, ho⟩ : ∃ o, o = gO 65536 5 a i := ⟨_, rfl⟩
        rw [← ho]
        by_cases hit : i < 9
        · have hd2 : decide ((i : Int) < 9) = true := by simp; omega
          have li : (i : Int) < 9 := by omega
          have b1 := HE.out.d i hit
          have b2 := g5_le HE.out.d i (by omega)
          rw [← ho] at b2
          have c1 := (hz0.a.cell i).trans (arr_get .u64 9 _ hit)
          have c2 := (hz1.cell i).trans (arr_get .u64 9 _ hit)
          have f2 := hz1.frozen i
          obtain ⟨x, hx⟩ : ∃ x, x = a i := ⟨_, rfl⟩
          obtain ⟨v, hv⟩ : ∃ v, v = beF a i i := ⟨_, rfl⟩
          rw [← hx] at c1 b1
          rw [← hv] at c2
          obtain ⟨s, hs⟩ : ∃ s, x + o = s := ⟨_, rfl⟩
          have ws := wrap_u (x := s) (by omega) (by omega)
          have ms := mask16 (x := s) (by omega) (by omega)
          obtain ⟨m, hm⟩ : ∃ m, s % 65536 = m := ⟨_, rfl⟩
          rw [hm] at ms
          obtain ⟨q, hq⟩ : ∃ q, s / 65536 = q := ⟨_, rfl⟩
          have HX : Hid (m = gD 65536 5 a i ∧ q = gO 65536 5 a (i + 1)) := by
            refine ⟨?_, ?_⟩
            · show m = (a i + gO 65536 5 a i) % 65536
              rw [← ho, ← hx, hs, hm]
            · show q = (a i + gO 65536 5 a i) / 65536
              rw [← ho, ← hx, hs, hq]
          clear hx hv hz0 hz1 b1 b2 ho hm
          go_wp2_with fail
          go_roundw
          case rel =>
            refine ⟨i + 1, by go_num, by omega, by rw [HX.out.2], Z.out.1.other HL.out i _, ?_⟩
            have hh := Z.out.2.set i (.int .u64 m)
            rw [arr_set, upd_updI, HX.out.1, beF_succ, ← HX.out.1] at hh
            exact hh
          case measure => simp [intOf]; omega
        · have : i = 9 := by omega
          subst this
          rw [show ((9 : Nat) : Int) = 9 from rfl]
          have ho0 : o = 0 := by rw [ho]; exact HT.out.1
          subst ho0
          obtain ⟨g, hg⟩ : ∃ g, g = gD 65536 5 a := ⟨_, rfl⟩
          rw [beF_all, ← hg] at hz1
          have HG : Hid (g = gD 65536 5 a) := hg
          have c8 := (hz1.cell 8).trans (arr_get .u64 9 _ (by decide))
          have f8 := hz1.frozen 8
          obtain ⟨x, hx⟩ : ∃ x, x = g 8 := ⟨_, rfl⟩
          rw [← hx] at c8
          have Z4 : Hid (EN w wr a ∧ Ar wr B (arr .u64 9 g)) := ⟨hz0, hz1⟩
          have b8 : 0 ≤ x ∧ x < 65536 := by rw [hx, hg]; exact gD_bound (by decide) 5 a 8
          have HX : Hid (x = gD 65536 5 a 8) := by show x = _; rw [hx, hg]
          clear hz0 hz1 hg hx Z ho
          by_cases h4 : x < 4
          · have hb4 : decide (x < 4) = true := by simp; omega
            have HW : Hid (val 65536 9 a = V % 1361129467683753853853498429727072845819) := by
              refine HE.out.less (HT.out.2.2.1.1 ?_)
              rw [← HX.out]
              exact h4
            obtain ⟨t1, g1⟩ := Z4.out.1.a
            obtain ⟨t3, g3⟩ := Z4.out.1.out
            have hsz := szI a i58
            have hlen := lenI 9 zI a
            have hone := arr_one .u64 9 a
            go_wp2_with (first | refine wpList_load_row rfl 88 _ rfl _ rfl _ _ _ _ g1 und58 rfl hsz ?_ | refine wpList_store_row rfl 88 _ _ rfl _ _ rfl rfl _ _ g3 hsz hlen hone ?_)
            refine bp_c (n := 9) (c := arr .u64 9 a) Tryz.results52 rfl rfl ?_ und58 i58 (arr_size _ _ _) ⟨a, rfl, HE.out.d, HW.out, ?_⟩
            · exact Z4.out.1.out.row _
            · exact Z4.out.1.chg.setRow (by omega) _
          · have hb4 : decide (x < 4) = false := by simp; omega
            obtain ⟨y, hy⟩ : ∃ y, x - 4 = y := ⟨_, rfl⟩
            have wy := wrap_u (x := y) (by omega) (by omega)
            obtain ⟨b, hb⟩ : ∃ b, b = updI g 8 y := ⟨_, rfl⟩
            have HB : Hid (ET V (t + 1) b) := by
              have h1 := HT.out.2.2.2 (by rw [← HX.out]; omega)
              have e : b = updI (gD 65536 5 a) 8 (gD 65536 5 a 8 - 4) := by rw [hb, ← hy, HX.out, HG.out]
              rw [e]
              refine HE.out.next (fun hn => h4 ?_) h1.1 h1.2
              rw [HX.out]
              exact HT.out.2.2.1.2 hn
            have HBe : Hid (b = updI g 8 y) := hb
            clear hb
            go_upto_region 15 with fail
            obtain ⟨w5, hw5⟩ : ∃ u, u = wr.setCell ⟨B, 8, none⟩ (.int .u64 y) := ⟨_, rfl⟩
            have Z5 : Hid (EN w w5 a ∧ Ar w5 B (arr .u64 9 b)) := by
              have hh := Z4.out.2.set 8 (.int .u64 y)
              rw [arr_set, upd_updI, ← HBe.out] at hh
              rw [hw5]
              exact ⟨Z4.out.1.other HL.out 8 _, hh⟩
            rw [← hw5]
            clear hw5 c8 f8 Z4
            obtain ⟨t1, g1⟩ := Z5.out.2
            obtain ⟨t3, g3⟩ := Z5.out.1.a
            have hsz := szI b i58
            have hlen := lenI 9 a b
            have hone := arr_one .u64 9 b
            go_wp2_with (first | refine wpList_load_row rfl 88 _ rfl _ rfl _ _ _ _ g1 und58 rfl hsz ?_ | refine wpList_store_row rfl 88 _ _ rfl _ _ rfl rfl _ _ g3 hsz hlen hone ?_)
            go_roundw
            case rel => exact ⟨t + 1, b, by go_num, by omega, Z5.out.1.row b, HB.out⟩
            case measure => simp [intOf]; omega
    · have : t = 4 := by omega
      subst this
      have HW : Hid (val 65536 9 a = V % 1361129467683753853853498429727072845819) := HE.out.less (HE.out.l.2.2 (by decide))
      have Z : Hid (EN w wr a) := hz0
      obtain ⟨t1, g1⟩ := hz0.a
      obtain ⟨t3, g3⟩ := hz0.out
      clear hz0 he0
      have hsz := szI a i58
      have hlen := lenI 9 zI a
      have hone := arr_one .u64 9 a
      go_wp2_with (first | refine wpList_load_row rfl 88 _ rfl _ rfl _ _ _ _ g1 und58 rfl hsz ?_ | refine wpList_store_row rfl 88 _ _ rfl _ _ rfl rfl _ _ g3 hsz hlen hone ?_)
      refine bp_c (n := 9) (c := arr .u64 9 a) Tryz.results52 rfl rfl ?_ und58 i58 (arr_size _ _ _) ⟨a, rfl, HE.out.d, HW.out, ?_⟩
      · exact Z.out.out.row _
      · exact Z.out.chg.setRow (by omega) _
end Go.Proofs.YtobglgddbhddnaaGreat.Cha

namespace Go.Proofs.YtobglgddbhddnaaGreat.Cha
open Go.RowKit
set_option linter.unusedVariables false

/-- What stands while the document makes a code: the key, the result, r. -/
structure RY (w wr : World) (key : Nat → By) (r : Nat → Int) : Prop where
  chg : Chg w wr
  ky : Ar wr w.heap.size (ba 32 key)
  res : Ar wr (w.heap.size + 1) (ba 16 zB)
  r : Ar wr (w.heap.size + 1 + 1) (arr .u64 8 r)
theorem RY.to {w wr u : World} {key : Nat → By} {r : Nat → Int} (h : RY w wr key r) (k : Chg wr u) : RY w u key r := ⟨h.chg.trans k, h.ky.chg k, h.res.chg k, h.r.chg k⟩
theorem RY.set {w wr : World} {key : Nat → By} {r : Nat → Int} (h : RY w wr key r) (i : Nat) (x : Int) : RY w (wr.setCell ⟨w.heap.size + 1 + 1, i, none⟩ (.int .u64 x)) key (updI r i x) := by
  refine ⟨h.chg.setCell (by dsimp only; omega) _, h.ky.other (by dsimp only; omega) _, h.res.other (by dsimp only; omega) _, ?_⟩
  have := h.r.set i (.int .u64 x)
  rwa [arr_set] at this
theorem RY.drew {w wr : World} {key : Nat → By} {r : Nat → Int} (h : RY w wr key r) : RY w wr.drew key r := ⟨h.chg.drew, h.ky, h.res, h.r⟩
theorem RY.other {w wr : World} {key : Nat → By} {r : Nat → Int} (h : RY w wr key r) {B : Nat} (hB : w.heap.size + 1 + 1 < B) (i : Nat) (v : Value) : RY w (wr.setCell ⟨B, i, none⟩ v) key r :=
  ⟨h.chg.setCell (by dsimp only; omega) _, h.ky.other (by dsimp only; omega) _, h.res.other (by dsimp only; omega) _, h.r.other (by dsimp only; omega) _⟩
theorem RY.rowOther {w wr : World} {key : Nat → By} {r : Nat → Int} (h : RY w wr key r) {B : Nat} (hB : w.heap.size + 1 + 1 < B) (c : Array Value) : RY w (wr.setRow B c) key r :=
  ⟨h.chg.setRow (by omega) _, h.ky.rowOther (by omega) _, h.res.rowOther (by omega) _, h.r.rowOther (by omega) _⟩

/-- A place's digit of 16 bits, and how far its byte is moved. -/
theorem dm2 (i : Nat) (h : i < 1000) : ∃ q r s : Nat, (i : Int).tdiv 2 = q ∧ (i : Int).tmod 2 = r ∧ 8 * (r : Int) = s ∧ IntKind.i64.wrap (q : Int) = q ∧ IntKind.i64.wrap (r : Int) = r ∧ IntKind.i64.wrap (s : Int) = s ∧ (s : Int) < 64 ∧ s < 64 ∧ Hid (q = i / 2 ∧ s = 8 * (i % 2) ∧ (i % 2 = 0 ∧ (2 : Int) ^ s = 1 ∨ i % 2 = 1 ∧ (2 : Int) ^ s = 256)) := by
  refine ⟨i / 2, i % 2, 8 * (i % 2), by rw [Int.tdiv_eq_ediv_of_nonneg (by omega)]; omega, by rw [Int.tmod_eq_emod_of_nonneg (by omega)]; omega, by omega, wrap_i (by omega) (by omega), wrap_i (by omega) (by omega), wrap_i (by omega) (by omega), by omega, by omega, ⟨rfl, rfl, ?_⟩⟩
  rcases Nat.mod_two_eq_zero_or_one i with h | h
  · exact .inl ⟨h, by rw [h]; rfl⟩
  · exact .inr ⟨h, by rw [h]; rfl⟩
theorem or_digit {x y : Int} (hx0 : 0 ≤ x) (hx : x < 256) (hy0 : 0 ≤ y) (hy : y < 65536) (hm : y % 256 = 0) : Go.bits .or .u64 x y = x + y := by
  have h64 : (2 : Int) ^ 64 = 18446744073709551616 := rfl
  refine bits_join_low .u64 64 (by decide) (fun n h0 h1 => wrap_u h0 (by omega)) 8 x y hx0 hx (by omega) hy0 hm (by omega)
theorem or_zero' {y : Int} (hy0 : 0 ≤ y) (hy : y < 65536) : Go.bits .or .u64 0 y = y := by
  have h64 : (2 : Int) ^ 64 = 18446744073709551616 := rfl
  have h := bits_join .u64 64 (by decide) (fun n h0 h1 => wrap_u h0 (by omega)) 16 0 y (by decide) (by decide) (by decide) hy0 (by have : (2 : Int) ^ 16 = 65536 := rfl; omega) (by omega)
  rw [h]
  omega
/-- A byte of the first half, looked at once, then twice. -/
def c1F (key : Nat → By) (i : Nat) : By := if i % 4 = 3 then key i &&& 15#8 else key i
theorem c2F (key : Nat → By) {i : Nat} (hi : i < 16) : clF key i = if i % 4 = 0 ∧ 0 < i then c1F key i &&& 252#8 else c1F key i := by
  unfold clF c1F
  rw [if_pos hi]
  by_cases h3 : i % 4 = 3
  · rw [if_pos h3, if_pos h3, if_neg (by omega)]
  · rw [if_neg h3, if_neg h3]

set_option maxRecDepth 100000 in
set_option maxHeartbeats 8000000 in
/-- The first half of the key, by digits. -/
theorem ry1_any {Q : Exit → Act → World → Prop} {t0 t1 t3 t4 t7 t8 t9 t10 t11 t12 t13 t14 t15 t16 t17 t18 t19 t20 t21 t22 t23 t24 t25 t26 t27 t28 t29 t30 t31 t32 t33 t34 t35 t36 t37 t38 t39 t40 t41 t42 t43 t44 t45 t46 t47 t48 t49 t50 t51 t52 t53 t54 t55 t56 t57 t58 t59 t60 t61 t62 t63 t64 t65 t66 t67 t68 t69 t70 t71 t72 t73 t74 t75 t76 t77 t78 t79 t80 t81 t82 t83 t84 t85 t86 t87 t88 t89 t90 t91 t92 t93 t94 t95 t96 t97 t98 t99 t100 t101 t102 t103 t104 t105 t106 t107 t108 t109 t110 t111 t112 t113 t114 t115 t116 t117 t118 t119 t120 t121 t122 t123 t124 t125 t126 t127 t128 t129 t130 t131 t132 t133 t134 t135 t136 t137 t138 : Value} {key : Nat → By} {w w1 : World} (h : RY w w1 key (gF (clF key) 0))
    (hQ : ∀ (u6 u7 u16 u17 u18 u19 u20 u21 u22 u23 u24 u25 u26 u27 u28 u29 u30 u31 u32 u33 u34 u35 u36 u37 u38 u39 u40 u41 u42 u43 u44 u45 u46 u47 u48 u49 u50 : Value) (w' : World), RY w w' key (gF (clF key) 16) → Q .normal ⟨#[t0, t1, .pointer (some ⟨w.heap.size, 0, none⟩), t3, t4, .pointer (some ⟨w.heap.size + 1 + 1, 0, none⟩), u6, u7, t8, t9, t10, t11, t12, t13, t14, t15, u16, u17, u18, u19, u20, u21, u22, u23, u24, u25, u26, u27, u28, u29, u30, u31, u32, u33, u34, u35, u36, u37, u38, u39, u40, u41, u42, u43, u44, u45, u46, u47, u48, u49, u50, t51, t52, t53, t54, t55, t56, t57, t58, t59, t60, t61, t62, t63, t64, t65, t66, t67, t68, t69, t70, t71, t72, t73, t74, t75, t76, t77, t78, t79, t80, t81, t82, t83, t84, t85, t86, t87, t88, t89, t90, t91, t92, t93, t94, t95, t96, t97, t98, t99, t100, t101, t102, t103, t104, t105, t106, t107, t108, t109, t110, t111, t112, t113, t114, t115, t116, t117, t118, t119, t120, t121, t122, t123, t124, t125, t126, t127, t128, t129, t130, t131, t132, t133, t134, t135, t136, t137, t138], []⟩ w') :
    (bk Tryz.f33 0).wp Tryz.prog Q ⟨#[t0, t1, .pointer (some ⟨w.heap.size, 0, none⟩), t3, t4, .pointer (some ⟨w.heap.size + 1 + 1, 0, none⟩), .int .i64 0, t7, t8, t9, t10, t11, t12, t13, t14, t15, t16, t17, t18, t19, t20, t21, t22, t23, t24, t25, t26, t27, t28, t29, t30, t31, t32, t33, t34, t35, t36, t37, t38, t39, t40, t41, t42, t43, t44, t45, t46, t47, t48, t49, t50, t51, t52, t53, t54, t55, t56, t57, t58, t59, t60, t61, t62, t63, t64, t65, t66, t67, t68, t69, t70, t71, t72, t73, t74, t75, t76, t77, t78, t79, t80, t81, t82, t83, t84, t85, t86, t87, t88, t89, t90, t91, t92, t93, t94, t95, t96, t97, t98, t99, t100, t101, t102, t103, t104, t105, t106, t107, t108, t109, t110, t111, t112, t113, t114, t115, t116, t117, t118, t119, t120, t121, t122, t123, t124, t125, t126, t127, t128, t129, t130, t131, t132, t133, t134, t135, t136, t137, t138], []⟩ w1 := by
  show Code.wp Tryz.prog (Code.block _ (Code.loop _)) Q _ _
  have HQ := (show Hid (∀ (u6 u7 u16 u17 u18 u19 u20 u21 u22 u23 u24 u25 u26 u27 u28 u29 u30 u31 u32 u33 u34 u35 u36 u37 u38 u39 u40 u41 u42 u43 u44 u45 u46 u47 u48 u49 u50 : Value) (w' : World), RY w w' key (gF (clF key) 16) → Q .normal ⟨#[t0, t1, .pointer (some ⟨w.heap.size, 0, none⟩), t3, t4, .pointer (some ⟨w.heap.size + 1 + 1, 0, none⟩), u6, u7, t8, t9, t10, t11, t12, t13, t14, t15, u16, u17, u18, u19, u20, u21, u22, u23, u24, u25, u26, u27, u28, u29, u30, u31, u32, u33, u34, u35, u36, u37, u38, u39, u40, u41, u42, u43, u44, u45, u46, u47, u48, u49, u50, t51, t52, t53, t54, t55, t56, t57, t58, t59, t60, t61, t62, t63, t64, t65, t66, t67, t68, t69, t70, t71, t72, t73, t74, t75, t76, t77, t78, t79, t80, t81, t82, t83, t84, t85, t86, t87, t88, t89, t90, t91, t92, t93, t94, t95, t96, t97, t98, t99, t100, t101, t102, t103, t104, t105, t106, t107, t108, t109, t110, t111, t112, t113, t114, t115, t116, t117, t118, t119, t120, t121, t122, t123, t124, t125, t126, t127, t128, t129, t130, t131, t132, t133, t134, t135, t136, t137, t138], []⟩ w') from hQ)
  clear hQ
  have H0 : Hid (RY w w1 key (gF (clF key) 0)) := h
  clear h
  go_wp2_with fail
  go_loopw [6] (fun v wr => ∃ (i : Nat), v = .int .i64 i ∧ i ≤ 16 ∧ RY w wr key (gF (clF key) i)) (fun v wr => 16 - (intOf v).toNat)
  case atStart => exact ⟨0, rfl, by omega, H0.out⟩
  case round =>
    obtain ⟨i, rfl, hi, hz0⟩ := hrel
    have Z : Hid (RY w wr key (gF (clF key) i)) := hz0
    by_cases hlt : i < 16
    · have hd : decide ((i : Int) < 16) = true := by simp; omega
      have li : (i : Int) < 32 := by omega
      have c0 := (hz0.ky.cell i).trans (ba_get 32 _ (by omega))
      obtain ⟨k0, hk0⟩ : ∃ k0, k0 = key i := ⟨_, rfl⟩
      rw [← hk0] at c0
      obtain ⟨r4, hr4⟩ : ∃ r4 : Nat, (i : Int).tmod 4 = r4 := ⟨i % 4, by rw [Int.tmod_eq_emod_of_nonneg (by omega)]; omega⟩
      have HR4 : Hid (r4 = i % 4) := by
        rw [Int.tmod_eq_emod_of_nonneg (by omega)] at hr4
        show r4 = _
        omega
      have wr4 := wrap_i (x := (r4 : Int)) (by have := HR4.out; omega) (by have := HR4.out; omega)
      obtain ⟨b3, hb3⟩ : ∃ b3 : Bool, ((r4 : Int) == 3) = b3 := ⟨_, rfl⟩
      have HB3 : Hid (b3 = true ↔ i % 4 = 3) := by
        have := HR4.out
        show _ ↔ _
        rw [← hb3]
        simp
        omega
      obtain ⟨k1, hk1⟩ : ∃ k1, k1 = c1F key i := ⟨_, rfl⟩
      have HK1 : Hid (k1 = if i % 4 = 3 then k0 &&& 15#8 else k0) := by show k1 = _; rw [hk1, hk0]; rfl
      obtain ⟨m1, Hm1, em1⟩ := nmAndB k0 15#8
      replace em1 : Go.bits .and .u8 (k0.toNat : Int) 15 = (m1.toNat : Int) := em1
      obtain ⟨k2, hk2⟩ : ∃ k2, k2 = clF key i := ⟨_, rfl⟩
      have HK2 : Hid (k2 = if i % 4 = 0 ∧ 0 < i then k1 &&& 252#8 else k1) := by show k2 = _; rw [hk2, hk1]; exact c2F key hlt
      obtain ⟨m2, Hm2, em2⟩ := nmAndB k1 252#8
      replace em2 : Go.bits .and .u8 (k1.toNat : Int) 252 = (m2.toNat : Int) := em2
      have HK : Hid (k2 = clF key i) := hk2
      clear hk0 hk1 hk2 hz0
      go_upto_if 25 with fail
      go_cut [7] from 26 to 27 (fun v7 wc => v7 = .int .u8 (k1.toNat : Int) ∧ wc = wr)
      case first =>
        cases b3 with
        | true =>
          have e : m1 = k1 := by rw [HK1.out, if_pos (HB3.out.1 rfl), Hm1.out]
          go_wp2_with fail
          go_meet
          exact ⟨by rw [← e], rfl⟩
        | false =>
          have e : k0 = k1 := by
            rw [HK1.out, if_neg]
            intro h
            cases HB3.out.2 h
          go_wp2_with fail
          go_meet
          exact ⟨by rw [← e], rfl⟩
      obtain ⟨rfl, hwc⟩ := hcut
      rw [hwc]
      clear hwc wc
      obtain ⟨b0, hb0⟩ : ∃ b0 : Bool, ((r4 : Int) == 0) = b0 := ⟨_, rfl⟩
      obtain ⟨bp, hbp⟩ : ∃ bp : Bool, decide ((i : Int) > 0) = bp := ⟨_, rfl⟩
      have hbp' : decide ((0 : Int) < i) = bp := hbp
      have HB0 : Hid ((b0 = true ↔ i % 4 = 0) ∧ (bp = true ↔ 0 < i)) := by
        have := HR4.out
        refine ⟨?_, ?_⟩
        · rw [← hb0]
          simp
          omega
        · rw [← hbp, decide_eq_true_eq]
          omega
      go_upto_region 8 with fail
      go_cut [34] from 28 to 33 (fun v34 wc => v34 = .bool (b0 && bp) ∧ wc = wr)
      case first =>
        cases b0 with
        | true =>
          have hbn : decide (0 < i) = bp := by
            rw [← hbp]
            simp
          go_wp2_with fail
          go_meet
          exact ⟨by first | simp | simp [hbn], rfl⟩
        | false =>
          go_wp2_with fail
          go_meet
          exact ⟨by simp, rfl⟩
      obtain ⟨rfl, hwc⟩ := hcut
      rw [hwc]
      clear hwc wc
      obtain ⟨bq, hbq⟩ : ∃ bq, (b0 && bp) = bq := ⟨_, rfl⟩
      have HBQ : Hid (bq = true ↔ (i % 4 = 0 ∧ 0 < i)) := by
        show _ ↔ _
        rw [← hbq, Bool.and_eq_true, HB0.out.1, HB0.out.2]
      rw [hbq]
      clear hbq
      go_upto_if 34 with fail
      go_cut [7] from 35 to 36 (fun v7 wc => v7 = .int .u8 (k2.toNat : Int) ∧ wc = wr)
      case first =>
        cases bq with
        | true =>
          have e : m2 = k2 := by rw [HK2.out, if_pos (HBQ.out.1 rfl), Hm2.out]
          go_wp2_with fail
          go_meet
          exact ⟨by rw [← e], rfl⟩
        | false =>
          have e : k1 = k2 := by
            rw [HK2.out, if_neg]
            intro h
            cases HBQ.out.2 h
          go_wp2_with fail
          go_meet
          exact ⟨by rw [← e], rfl⟩
      obtain ⟨rfl, hwc⟩ := hcut
      rw [hwc]
      clear hwc wc
      obtain ⟨q, r2, s, e1, e2, e3, v1, v2, v3, ls, ls', HQ⟩ := dm2 i (by omega)
      have lq : (q : Int) < 8 := by have := HQ.out.1; omega
      have c1 := (Z.out.r.cell q).trans (arr_get .u64 8 _ (by omega))
      have f1 := Z.out.r.frozen q
      obtain ⟨x, hx⟩ : ∃ x, x = gF (clF key) i q := ⟨_, rfl⟩
      rw [← hx] at c1
      obtain ⟨y, hy⟩ : ∃ y, (k2.toNat : Int) * 2 ^ s = y := ⟨_, rfl⟩
      have hk8 := k2.isLt
      have wk : IntKind.u64.wrap (k2.toNat : Int) = k2.toNat := wrap_u (by omega) (by omega)
      have by0 : 0 ≤ y ∧ y < 65536 := by
        have := HQ.out.2.2
        rcases this with ⟨_, h⟩ | ⟨_, h⟩ <;> rw [h] at hy <;> omega
      have wy := wrap_u (x := y) (by omega) (by omega)
      have my : y % 18446744073709551616 = y := by omega
      obtain ⟨g, hg⟩ : ∃ g, x + y = g := ⟨_, rfl⟩
      have hor : Go.bits .or .u64 x y = g := by
        have hl := gF_le (clF key) i q
        rw [← hx] at hl
        have hq := HQ.out
        rcases hq.2.2 with ⟨h1, h2⟩ | ⟨h1, h2⟩
        · have : x = 0 := hl.2.2.2 h1 hq.1.symm
          rw [this, or_zero' by0.1 by0.2]
          omega
        · have h3 := hl.2.2.1 hq.1.symm
          rw [h2] at hy
          rw [or_digit hl.1.1 h3 by0.1 by0.2 (by omega), hg]
      have HE : Hid (updI (gF (clF key) i) q g = gF (clF key) (i + 1)) := by
        show _ = _
        rw [gF_succ, ← HQ.out.1, ← HQ.out.2.1, ← hx, ← hg, ← hy, HK.out]
        rfl
      clear hx by0 hk8 hg c0
      go_wp2_with fail
      refine wp_region_noPanic ?_
      go_region_with (fail)
      all_goals refine NoPanic.normal ?_
      all_goals go_wp2
      all_goals
        go_roundw
        case rel =>
          refine ⟨i + 1, by go_num, by omega, ?_⟩
          rw [← HE.out]
          first
            | exact (Z.out.set q g).drew
            | exact Z.out.drew.set q g
            | (rw [hy, my, hor]; exact (Z.out.set q g).drew)
            | (rw [wk, hy, my, hor]; exact (Z.out.set q g).drew)
        case measure => simp [intOf]; omega
    · have : i = 16 := by omega
      subst this
      have HE : Hid (RY w wr key (gF (clF key) 16)) := hz0
      clear hz0 Z
      go_wp2
      exact HQ.out _ _ _ _ _ _ _ _ _ _ _ _ _ _ _ _ _ _ _ _ _ _ _ _ _ _ _ _ _ _ _ _ _ _ _ _ _ _ HE.out
end Go.Proofs.YtobglgddbhddnaaGreat.Cha

namespace Go.Proofs.YtobglgddbhddnaaGreat.Cha
open Go.RowKit
set_option linter.unusedVariables false

theorem addG_succ (a : Nat → Int) (f : Nat → By) (t : Nat) (x : Int) (hx : x = addF a (gF f t) (t / 2) + nmF f t * 2 ^ (8 * (t % 2))) : updI (addF a (gF f t)) (t / 2) x = addF a (gF f (t + 1)) := by
  funext j
  rw [gF_succ]
  unfold updI addF
  dsimp only
  by_cases h : j = t / 2
  · subst h
    rw [if_pos rfl, if_pos rfl, hx]
    unfold addF
    omega
  · rw [if_neg h, if_neg h]
theorem addG_zero (a : Nat → Int) (f : Nat → By) : addF a (gF f 0) = a := by
  funext j
  show a j + 0 = a j
  omega

set_option maxRecDepth 100000 in
set_option maxHeartbeats 8000000 in
/-- The bytes of a piece are added. -/
theorem ry2_any {Q : Exit → Act → World → Prop} {t0 t2 t3 t4 t5 t6 t7 t11 t12 t13 t14 t15 t16 t17 t18 t19 t20 t21 t22 t23 t24 t25 t26 t27 t28 t29 t30 t31 t32 t33 t34 t35 t36 t37 t38 t39 t40 t41 t42 t43 t44 t45 t46 t47 t48 t49 t50 t51 t52 t53 t54 t55 t56 t57 t58 t59 t60 t61 t62 t63 t64 t65 t66 t67 t68 t69 t70 t71 t72 t73 t74 t75 t76 t77 t78 t79 t80 t81 t82 t83 t84 t85 t86 t87 t88 t89 t90 t91 t92 t93 t94 t95 t96 t97 t98 t99 t100 t101 t102 t103 t104 t105 t106 t107 t108 t109 t110 t111 t112 t113 t114 t115 t116 t117 t118 t119 t120 t121 t122 t123 t124 t125 t126 t127 t128 t129 t130 t131 t132 t133 t134 t135 t136 t137 t138 : Value} {key txt f : Nat → By} {r a : Nat → Int} {tb tt n cap fr l AB : Nat} {w w1 : World} (h : RY w w1 key r) (hA : Ar w1 AB (arr .u64 9 a)) (hAB : w.heap.size + 1 + 1 < AB) (hb : Bs w tb tt n txt) (ha : D16 9 a) (hf : ∀ j, f j = txt (fr + j)) (hl : l = min 16 (n - fr)) (hfr : fr < n) (hn : n ≤ 281474976710656)
    (hQ : ∀ (u10 u57 u58 u59 u60 u61 u62 u63 u64 u65 u66 u67 u68 u69 u70 u71 u72 u73 u74 u75 u76 u77 u78 u79 u80 u81 u82 u83 u84 u85 u86 u87 : Value) (w' : World), RY w w' key r ∧ Ar w' AB (arr .u64 9 (addF a (gF f l))) → Q .normal ⟨#[t0, .slice (some ⟨tb, tt, none⟩) n cap, t2, t3, t4, t5, t6, t7, .pointer (some ⟨AB, 0, none⟩), .int .i64 (fr : Int), u10, t11, t12, t13, t14, t15, t16, t17, t18, t19, t20, t21, t22, t23, t24, t25, t26, t27, t28, t29, t30, t31, t32, t33, t34, t35, t36, t37, t38, t39, t40, t41, t42, t43, t44, t45, t46, t47, t48, t49, t50, t51, t52, t53, t54, t55, t56, u57, u58, u59, u60, u61, u62, u63, u64, u65, u66, u67, u68, u69, u70, u71, u72, u73, u74, u75, u76, u77, u78, u79, u80, u81, u82, u83, u84, u85, u86, u87, t88, t89, t90, t91, t92, t93, t94, t95, t96, t97, t98, t99, t100, t101, t102, t103, t104, t105, t106, t107, t108, t109, t110, t111, t112, t113, t114, t115, t116, t117, t118, t119, t120, t121, t122, t123, t124, t125, t126, t127, t128, t129, t130, t131, t132, t133, t134, t135, t136, t137, t138], []⟩ w') :
    (bk Tryz.f33 4).wp Tryz.prog Q ⟨#[t0, .slice (some ⟨tb, tt, none⟩) n cap, t2, t3, t4, t5, t6, t7, .pointer (some ⟨AB, 0, none⟩), .int .i64 (fr : Int), .int .i64 0, t11, t12, t13, t14, t15, t16, t17, t18, t19, t20, t21, t22, t23, t24, t25, t26, t27, t28, t29, t30, t31, t32, t33, t34, t35, t36, t37, t38, t39, t40, t41, t42, t43, t44, t45, t46, t47, t48, t49, t50, t51, t52, t53, t54, t55, t56, t57, t58, t59, t60, t61, t62, t63, t64, t65, t66, t67, t68, t69, t70, t71, t72, t73, t74, t75, t76, t77, t78, t79, t80, t81, t82, t83, t84, t85, t86, t87, t88, t89, t90, t91, t92, t93, t94, t95, t96, t97, t98, t99, t100, t101, t102, t103, t104, t105, t106, t107, t108, t109, t110, t111, t112, t113, t114, t115, t116, t117, t118, t119, t120, t121, t122, t123, t124, t125, t126, t127, t128, t129, t130, t131, t132, t133, t134, t135, t136, t137, t138], []⟩ w1 := by
  show Code.wp Tryz.prog (Code.block _ (Code.loop _)) Q _ _
  have HQ := (show Hid (∀ (u10 u57 u58 u59 u60 u61 u62 u63 u64 u65 u66 u67 u68 u69 u70 u71 u72 u73 u74 u75 u76 u77 u78 u79 u80 u81 u82 u83 u84 u85 u86 u87 : Value) (w' : World), RY w w' key r ∧ Ar w' AB (arr .u64 9 (addF a (gF f l))) → Q .normal ⟨#[t0, .slice (some ⟨tb, tt, none⟩) n cap, t2, t3, t4, t5, t6, t7, .pointer (some ⟨AB, 0, none⟩), .int .i64 (fr : Int), u10, t11, t12, t13, t14, t15, t16, t17, t18, t19, t20, t21, t22, t23, t24, t25, t26, t27, t28, t29, t30, t31, t32, t33, t34, t35, t36, t37, t38, t39, t40, t41, t42, t43, t44, t45, t46, t47, t48, t49, t50, t51, t52, t53, t54, t55, t56, u57, u58, u59, u60, u61, u62, u63, u64, u65, u66, u67, u68, u69, u70, u71, u72, u73, u74, u75, u76, u77, u78, u79, u80, u81, u82, u83, u84, u85, u86, u87, t88, t89, t90, t91, t92, t93, t94, t95, t96, t97, t98, t99, t100, t101, t102, t103, t104, t105, t106, t107, t108, t109, t110, t111, t112, t113, t114, t115, t116, t117, t118, t119, t120, t121, t122, t123, t124, t125, t126, t127, t128, t129, t130, t131, t132, t133, t134, t135, t136, t137, t138], []⟩ w') from hQ)
  clear hQ
  have H0 : Hid ((RY w w1 key r ∧ Ar w1 AB (arr .u64 9 (addF a (gF f 0)))) ∧ Bs w tb tt n txt ∧ D16 9 a) := ⟨⟨h, by rw [addG_zero]; exact hA⟩, hb, ha⟩
  have HAB : Hid (w.heap.size + 1 + 1 < AB) := hAB
  have HF : Hid ((∀ j, f j = txt (fr + j)) ∧ l = min 16 (n - fr) ∧ fr < n ∧ n ≤ 281474976710656) := ⟨hf, hl, hfr, hn⟩
  clear h hA hb ha hf hl hfr hn hAB
  go_wp2_with fail
  go_loopw [10] (fun v wr => ∃ (t : Nat), v = .int .i64 t ∧ t ≤ l ∧ RY w wr key r ∧ Ar wr AB (arr .u64 9 (addF a (gF f t)))) (fun v wr => l - (intOf v).toNat)
  case atStart => exact ⟨0, rfl, by omega, H0.out.1⟩
  case round =>
    obtain ⟨t, rfl, ht, hz0, hz1⟩ := hrel
    have Z : Hid (RY w wr key r ∧ Ar wr AB (arr .u64 9 (addF a (gF f t)))) := ⟨hz0, hz1⟩
    have hF := HF.out
    obtain ⟨fi, hfi⟩ : ∃ fi : Nat, (fr : Int) + t = fi := ⟨fr + t, by omega⟩
    have wfi := wrap_i (x := (fi : Int)) (by omega) (by omega)
    by_cases hlt : t < l
    · have HLT : Hid (t < l) := hlt
      have hd : decide ((t : Int) < 16) = true := by simp; omega
      have hd2 : decide ((fi : Int) < n) = true := by simp; omega
      have lfi : (fi : Int) < n := by omega
      have lfi' : fi < n := by omega
      have lt16 : t < 16 := by omega
      obtain ⟨q, r2, s, e1, e2, e3, v1, v2, v3, ls, ls', HQ⟩ := dm2 t (by omega)
      have lq : (q : Int) < 9 := by have := HQ.out.1; omega
      have c1 := (hz1.cell q).trans (arr_get .u64 9 _ (by omega))
      have f1 := hz1.frozen q
      have c2 := (H0.out.2.1.chg hz0.chg) fi lfi'
      obtain ⟨k, hk⟩ : ∃ k, k = txt fi := ⟨_, rfl⟩
      rw [← hk] at c2
      obtain ⟨x, hx⟩ : ∃ x, x = addF a (gF f t) q := ⟨_, rfl⟩
      rw [← hx] at c1
      have bx : 0 ≤ x ∧ x < 131072 := by
        have h1 := H0.out.2.2 q (by omega)
        have h2 := (gF_le f t q).1
        rw [hx]
        unfold addF
        omega
      obtain ⟨y, hy⟩ : ∃ y, (k.toNat : Int) * 2 ^ s = y := ⟨_, rfl⟩
      have hk8 := k.isLt
      have wk : IntKind.u64.wrap (k.toNat : Int) = k.toNat := wrap_u (by omega) (by omega)
      have by0 : 0 ≤ y ∧ y < 65536 := by
        have := HQ.out.2.2
        rcases this with ⟨_, h⟩ | ⟨_, h⟩ <;> rw [h] at hy <;> omega
      have wy := wrap_u (x := y) (by omega) (by omega)
      have my : y % 18446744073709551616 = y := by omega
      obtain ⟨g, hg⟩ : ∃ g, x + y = g := ⟨_, rfl⟩
      have wg := wrap_u (x := g) (by omega) (by omega)
      have HE : Hid (updI (addF a (gF f t)) q g = addF a (gF f (t + 1))) := by
        show _ = _
        rw [HQ.out.1]
        refine addG_succ a f t g ?_
        have e : nmF f t = (k.toNat : Int) := by
          unfold nmF
          rw [hF.1 t, hk, show fr + t = fi by omega]
        rw [← HQ.out.1, ← HQ.out.2.1, ← hx, e, hy, hg]
      clear hx by0 hk8 hk bx hz0 hz1 hF
      go_wp2_with fail
      refine wp_region_noPanic ?_
      go_region_with (fail)
      all_goals refine NoPanic.normal ?_
      all_goals go_wp2
      all_goals
        go_roundw
        case rel =>
          refine ⟨t + 1, by go_num, HLT.out, ?_, ?_⟩
          · exact (Z.out.1.other HAB.out q _).drew
          · have hh := Z.out.2.set q (.int .u64 g)
            rw [arr_set, upd_updI, HE.out] at hh
            first
              | exact hh.drew
              | (rw [hy, my, hg, wg]; exact hh.drew)
              | (rw [hy, my, hg]; exact hh.drew)
              | (rw [wk, hy, my, hg, wg]; exact hh.drew)
        case measure => have := HLT.out; simp [intOf]; omega
    · have htl : t = l := by omega
      subst htl
      have HE : Hid (RY w wr key r ∧ Ar wr AB (arr .u64 9 (addF a (gF f t)))) := ⟨hz0, hz1⟩
      by_cases h16 : t < 16
      · have hd : decide ((t : Int) < 16) = true := by simp; omega
        have hd2 : decide ((fi : Int) < n) = false := by simp; omega
        have hn3 : ¬ fi < n := by omega
        clear hz0 hz1 Z hF
        go_wp2
        exact HQ.out _ _ _ _ _ _ _ _ _ _ _ _ _ _ _ _ _ _ _ _ _ _ _ _ _ _ _ _ _ _ _ _ _ HE.out
      · have hd : decide ((t : Int) < 16) = false := by simp; omega
        clear hz0 hz1 Z hF
        go_wp2
        exact HQ.out _ _ _ _ _ _ _ _ _ _ _ _ _ _ _ _ _ _ _ _ _ _ _ _ _ _ _ _ _ _ _ _ _ HE.out
end Go.Proofs.YtobglgddbhddnaaGreat.Cha
