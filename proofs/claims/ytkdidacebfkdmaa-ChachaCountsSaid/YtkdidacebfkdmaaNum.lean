/-
  Numbers of five digits: carried, reduced, added.
-/
import Derived.Test.YtkdidacebfkdmaaEqa
import Derived.Test.YtkdidacebfkdmaaPy
namespace Go.Proofs.Ytkdidacebfkdmaa
open Go.RowKit
set_option linter.unusedVariables false

theorem upd_updI (d : Nat → Int) (i : Nat) (x : Int) : upd d i x = updI d i x := rfl
def zI : Nat → Int := fun _ => 0
theorem und49 : Try.prog.underlying 49 = some (.array 5 47) := by kernel_rfl
theorem i49 : (Try.prog.info? 49).map (·.size) = some 5 := by kernel_rfl
theorem zero49 : (∀ w, (zeroValue 49).run Try.prog w = .ok (.agg (arr .u64 5 zI)) w) ∧ (Try.prog.info? 49).map (·.size) = some 5 := zero_of_info (by kernel_rfl)
theorem sz49 (d : Nat → Int) : (Try.prog.info? 49).map (·.size) = some (arr .u64 5 d).size := by rw [arr_size]; exact i49
theorem len5 (d e : Nat → Int) : (arr .u64 5 d).size = (arr .u64 5 e).size := by rw [arr_size, arr_size]
theorem arr_congr {κ : IntKind} {n : Nat} {d e : Nat → Int} (h : ∀ i, i < n → d i = e i) : arr κ n d = arr κ n e := by
  apply Array.ext_getElem?
  intro j
  by_cases hj : j < n
  · rw [arr_get _ _ _ hj, arr_get _ _ _ hj, h j hj]
  · simp [arr, hj]
theorem wrap_u {x : Int} (h0 : 0 ≤ x) (h1 : x < 18446744073709551616) : IntKind.u64.wrap x = x := by rw [IntKind.wrap_u64]; omega
theorem mask26 {x : Int} (h0 : 0 ≤ x) (h1 : x < 18446744073709551616) : Go.bits .and .u64 x 67108863 = x % 67108864 := by
  obtain ⟨n, rfl⟩ := Int.eq_ofNat_of_zero_le h0
  have := u64_and_nat n 67108863 (by omega) (by decide)
  rw [show (67108863 : Int) = ((67108863 : Nat) : Int) from rfl, this, show 67108863 = 2 ^ 26 - 1 from rfl, Nat.and_two_pow_sub_one_eq_mod]
  omega

/-- A number being worked on, and its result. -/
structure NS (w wr : World) (d : Nat → Int) : Prop where
  chg : Chg w wr
  a : Ar wr w.heap.size (arr .u64 5 d)
  out : Ar wr (w.heap.size + 1) (arr .u64 5 zI)
theorem NS.set {w wr : World} {d : Nat → Int} (h : NS w wr d) (i : Nat) (x : Int) : NS w (wr.setCell ⟨w.heap.size, i, none⟩ (.int .u64 x)) (updI d i x) := by
  refine ⟨h.chg.setCell (Nat.le_refl _) _, ?_, h.out.other (by dsimp only; omega) _⟩
  have := h.a.set i (.int .u64 x)
  rwa [arr_set] at this
theorem NS.start (w : World) (d : Nat → Int) (A : Array Value) (hA : A = arr .u64 5 d) : NS w ((w.alloc (.cells A 49)).alloc (.cells (arr .u64 5 zI) 49)) d := by
  rw [hA]
  exact ⟨((Chg.refl w).alloc _).alloc _, (Ar.new w _ _).alloc _, Ar.new1 w _ _ _⟩

def cuF (d : Nat → Int) (i : Nat) : Nat → Int := fun j => if j < i then crD d j else d j
theorem cuF_zero (d : Nat → Int) : cuF d 0 = d := by funext j; simp [cuF]
theorem cuF_succ (d : Nat → Int) (i : Nat) (x : Int) : updI (updI (cuF d i) i x) i (crD d i) = cuF d (i + 1) := by
  funext j
  unfold updI cuF
  by_cases h : j = i
  · subst h; simp
  · have e : (j < i + 1) = (j < i) := by rw [eq_iff_iff]; omega
    simp [h, e]

set_option maxRecDepth 100000 in
set_option maxHeartbeats 4000000 in
theorem carried_any (d : Nat → Int) (w : World) (hd : ∀ i, i < 5 → 0 ≤ d i ∧ d i ≤ 4611686018427387904) : Calls Try.prog 40 #[.agg (arr .u64 5 d)] w fun r w' => r = .returned (.tuple #[.agg (arr .u64 5 (crD d)), .int .u64 (crO d 5)]) ∧ Chg w w' := by
  have hsA := arr_size .u64 5 d
  obtain ⟨A, hA⟩ : ∃ A, A = arr .u64 5 d := ⟨_, rfl⟩
  have HA : Hid (A = arr .u64 5 d) := hA
  rw [← hA] at hsA ⊢
  have HD : Hid (∀ i, i < 5 → 0 ≤ d i ∧ d i ≤ 4611686018427387904) := hd
  clear hA hd
  have hz := zero49.1
  go_enter Try.func40, Try.ntmps40
  go_wp2_with fail
  obtain ⟨w2, hw2⟩ : ∃ w2, w2 = (w.alloc (.cells A 49)).alloc (.cells (arr .u64 5 zI) 49) := ⟨_, rfl⟩
  have Z2 : Hid (NS w w2 d) := by rw [hw2]; exact NS.start w d A HA.out
  rw [← hw2]
  clear hw2 hsA hz
  go_loopw [4, 6] (fun v4 v6 wr => ∃ (i : Nat), v6 = .int .i64 i ∧ i ≤ 5 ∧ v4 = .int .u64 (crO d i) ∧ NS w wr (cuF d i)) (fun v4 v6 wr => 5 - (intOf v6).toNat)
  case atStart => exact ⟨0, rfl, by omega, rfl, by rw [cuF_zero]; exact Z2.out⟩
  case round =>
    clear Z2
    obtain ⟨i, rfl, hi, rfl, hz0⟩ := hrel
    obtain ⟨o, ho⟩ : ∃ o, o = crO d i := ⟨_, rfl⟩
    rw [← ho]
    have HO : Hid (o = crO d i) := ho
    have Z : Hid (NS w wr (cuF d i)) := hz0
    by_cases hlt : i < 5
    · have hd' : decide ((i : Int) < 5) = true := by simp; omega
      have li : (i : Int) < 5 := by omega
      have b1 := HD.out i hlt
      have b2 := crO_nonneg (d := d) (n := i) (fun j hj => (HD.out j (by omega)).1)
      have b3 := crO_le (d := d) (n := i) (fun j hj => (HD.out j (by omega)).2)
      rw [← ho] at b2 b3
      have c1 := (hz0.a.cell i).trans (arr_get .u64 5 _ hlt)
      have f1 := hz0.a.frozen i
      have e0 : cuF d i i = d i := by simp [cuF]
      rw [e0] at c1
      obtain ⟨y, hy⟩ : ∃ y, y = d i := ⟨_, rfl⟩
      rw [← hy] at c1 b1
      obtain ⟨x, hx⟩ : ∃ x, y + o = x := ⟨_, rfl⟩
      have wx := wrap_u (x := x) (by omega) (by omega)
      have mx := mask26 (x := x) (by omega) (by omega)
      obtain ⟨q, hq⟩ : ∃ q, x / 67108864 = q := ⟨_, rfl⟩
      obtain ⟨m, hm⟩ : ∃ m, x % 67108864 = m := ⟨_, rfl⟩
      rw [hm] at mx
      have HE : Hid (q = crO d (i + 1) ∧ m = crD d i) := by
        refine ⟨?_, ?_⟩
        · show q = (d i + crO d i) / 67108864
          rw [← ho, ← hy, hx, hq]
        · show m = (d i + crO d i) % 67108864
          rw [← ho, ← hy, hx, hm]
      clear hy hz0 e0 b1 b2 b3 ho hm
      go_upto_region 6 with fail
      obtain ⟨w3, hw3⟩ : ∃ w3, w3 = wr.setCell ⟨w.heap.size, i, none⟩ (.int .u64 x) := ⟨_, rfl⟩
      have Z3 : Hid (NS w w3 (updI (cuF d i) i x)) := by rw [hw3]; exact Z.out.set i x
      have c3 := (Z3.out.a.cell i).trans (arr_get .u64 5 _ hlt)
      rw [updI_same] at c3
      have f3 := Z3.out.a.frozen i
      rw [← hw3]
      clear hw3 c1 f1
      go_wp2_with fail
      go_roundw
      case rel =>
        refine ⟨i + 1, by go_num, by omega, by rw [HE.out.1], ?_⟩
        rw [← cuF_succ d i x, ← HE.out.2]
        exact Z3.out.set i m
      case measure => simp [intOf]; omega
    · have : i = 5 := by omega
      subst this
      have ha := hz0.a
      have e : arr .u64 5 (cuF d 5) = arr .u64 5 (crD d) := arr_congr fun j hj => by simp [cuF, hj]
      rw [e] at ha
      obtain ⟨g, hg⟩ : ∃ g, g = crD d := ⟨_, rfl⟩
      rw [← hg] at ha
      have HG : Hid (g = crD d) := hg
      have HOo : Hid (Chg w wr ∧ Ar wr (w.heap.size + 1) (arr .u64 5 zI)) := ⟨hz0.chg, hz0.out⟩
      clear hz0 Z e hg ho
      obtain ⟨t1, g1⟩ := ha
      obtain ⟨t3, g3⟩ := HOo.out.2
      have hsz := sz49 g
      have hlen := len5 zI g
      have hone := arr_one .u64 5 g
      go_wp2_with (first | refine wpList_load_row rfl 49 _ rfl _ rfl _ _ _ _ g1 und49 rfl hsz ?_ | refine wpList_store_row rfl 49 _ _ rfl _ _ rfl rfl _ _ g3 hsz hlen hone ?_)
      refine bp_ct (n := 5) (c := arr .u64 5 g) Try.results40 rfl rfl rfl ?_ und49 i49 (arr_size _ _ _) ⟨by rw [HG.out, ← HO.out]; rfl, ?_⟩
      · exact HOo.out.2.row _
      · exact HOo.out.1.setRow (by omega) _

set_option maxRecDepth 100000 in
set_option maxHeartbeats 4000000 in
theorem reduced_any (d : Nat → Int) (w : World) (hd : ∀ i, i < 5 → 0 ≤ d i ∧ d i ≤ 4611686018427387904) : Calls Try.prog 39 #[.agg (arr .u64 5 d)] w fun r w' => r = .returned (.agg (arr .u64 5 (redF d))) ∧ Chg w w' := by
  have hsA := arr_size .u64 5 d
  obtain ⟨A, hA⟩ : ∃ A, A = arr .u64 5 d := ⟨_, rfl⟩
  have HA : Hid (A = arr .u64 5 d) := hA
  rw [← hA] at hsA ⊢
  have hszA : (Try.prog.info? 49).map (·.size) = some A.size := by rw [hA]; exact sz49 d
  obtain ⟨g, hg⟩ : ∃ g, g = crD d := ⟨_, rfl⟩
  obtain ⟨o, ho⟩ : ∃ o, o = crO d 5 := ⟨_, rfl⟩
  have HG : Hid (g = crD d ∧ o = crO d 5) := ⟨hg, ho⟩
  have HC : Hid (∀ u, Calls Try.prog 40 #[.agg A] u fun r w' => r = .returned (.tuple #[.agg (arr .u64 5 g), .int .u64 o]) ∧ Chg u w') := by
    rw [hA, hg, ho]
    exact fun u => carried_any d u hd
  have b2 := crO_nonneg (d := d) (n := 5) (fun j hj => (hd j hj).1)
  have b3 := crO_le (d := d) (n := 5) (fun j hj => (hd j hj).2)
  have b4 := crD_bound d 0
  rw [← ho] at b2 b3
  rw [← hg] at b4
  obtain ⟨y, hy⟩ : ∃ y, y = g 0 := ⟨_, rfl⟩
  rw [← hy] at b4
  obtain ⟨p, hp⟩ : ∃ p, 5 * o = p := ⟨_, rfl⟩
  have wp := wrap_u (x := p) (by omega) (by omega)
  obtain ⟨x, hx⟩ : ∃ x, y + p = x := ⟨_, rfl⟩
  have wx := wrap_u (x := x) (by omega) (by omega)
  have HX : Hid (updI g 0 x = redF d) := by
    show updI g 0 x = updI (crD d) 0 (crD d 0 + 5 * crO d 5)
    rw [← hx, ← hp, hy, hg, ho]
  have HY : Hid (y = g 0) := hy
  clear hA hd hg ho hy b2 b3 b4
  have hz := zero49.1
  have hsz := sz49 g
  have hone := arr_one .u64 5 g
  have hlen : A.size = (arr .u64 5 g).size := by rw [arr_size, hsA]
  go_enter Try.func39, Try.ntmps39
  go_upto_region 1 with fail
  obtain ⟨w2, hw2⟩ : ∃ w2, w2 = (w.alloc (.cells A 49)).alloc (.cells (arr .u64 5 zI) 49) := ⟨_, rfl⟩
  have Z2 : Hid (NS w w2 d) := by rw [hw2]; exact NS.start w d A HA.out
  rw [← hw2]
  clear hw2 hz
  obtain ⟨t1, g1⟩ := Z2.out.a
  rw [← HA.out] at g1
  go_wp2_with (first | refine wpList_load_row rfl 49 _ rfl _ rfl _ _ _ _ g1 und49 rfl hszA ?_)
  go_at_call 40
  refine (HC.out _).mono ?_
  rintro r w3 ⟨rfl, hc3⟩
  have Z3 : Hid (Chg w w3 ∧ Ar w3 w.heap.size A ∧ Ar w3 (w.heap.size + 1) (arr .u64 5 zI)) := by
    have k := Z2.out
    refine ⟨k.chg.trans hc3, ?_, k.out.chg hc3⟩
    rw [HA.out]
    exact k.a.chg hc3
  obtain ⟨t3, g3⟩ := Z3.out.2.1
  clear hc3 g1 Z2 hszA
  go_upto_region 2 with (first | refine wpList_store_row rfl 49 _ _ rfl _ _ rfl rfl _ _ g3 hsz hlen hone ?_)
  obtain ⟨w4, hw4⟩ : ∃ w4, w4 = w3.setRow w.heap.size (arr .u64 5 g) := ⟨_, rfl⟩
  have Z4 : Hid (NS w w4 g) := by
    obtain ⟨k0, k1, k2⟩ := Z3.out
    rw [hw4]
    exact ⟨k0.setRow (Nat.le_refl _) _, k1.row _, k2.rowOther (by omega) _⟩
  rw [← hw4]
  have c4 := (Z4.out.a.cell 0).trans (arr_get .u64 5 _ (by decide))
  rw [← HY.out] at c4
  have f4 := Z4.out.a.frozen 0
  clear hw4 g3 Z3 hlen hone
  go_upto_region 3 with fail
  obtain ⟨w5, hw5⟩ : ∃ w5, w5 = w4.setCell ⟨w.heap.size, 0, none⟩ (.int .u64 x) := ⟨_, rfl⟩
  obtain ⟨e, he⟩ : ∃ e, e = redF d := ⟨_, rfl⟩
  have Z5 : Hid (NS w w5 e) := by rw [hw5, he, ← HX.out]; exact Z4.out.set 0 x
  have HEe : Hid (e = redF d) := he
  rw [← hw5]
  clear hw5 c4 f4 Z4 he
  obtain ⟨t5, g5⟩ := Z5.out.a
  obtain ⟨t6, g6⟩ := Z5.out.out
  have hsz' := sz49 e
  have hlen' := len5 zI e
  have hone' := arr_one .u64 5 e
  go_wp2_with (first | refine wpList_load_row rfl 49 _ rfl _ rfl _ _ _ _ g5 und49 rfl hsz' ?_ | refine wpList_store_row rfl 49 _ _ rfl _ _ rfl rfl _ _ g6 hsz' hlen' hone' ?_)
  refine bp_c (n := 5) (c := arr .u64 5 e) Try.results39 rfl rfl ?_ und49 i49 (arr_size _ _ _) ⟨by rw [HEe.out], ?_⟩
  · exact Z5.out.out.row _
  · exact Z5.out.chg.setRow (by omega) _
end Go.Proofs.Ytkdidacebfkdmaa
