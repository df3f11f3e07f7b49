/-
  A record's nonce: the program's, and the document's.
-/
import Derived.Test.YtobglgddbhddnaaTa
namespace Go.Proofs.Ytobglgddbhddnaa
open Go.RowKit
set_option linter.unusedVariables false

/-- A number's byte. -/
def sqB (x i : Nat) : By := BitVec.ofNat 8 (x / 256 ^ i)
/-- The nonce, when so many bytes are turned. -/
def nonP (k : Nat) (iv : Nat → By) (x : Nat) : Nat → By := fun j => if 12 ≤ j + k ∧ j < 12 then iv j ^^^ sqB x (11 - j) else iv j
def nonF (iv : Nat → By) (x : Nat) : Nat → By := nonP 8 iv x
theorem nonP_zero (iv : Nat → By) (x : Nat) : nonP 0 iv x = iv := by
  funext j
  unfold nonP
  rw [if_neg (by omega)]
theorem nonP_at {k : Nat} (iv : Nat → By) (x : Nat) {q : Nat} (h : q + k = 11) : nonP k iv x q = iv q := by
  unfold nonP
  rw [if_neg (by omega)]
theorem nonP_succ {k : Nat} (iv : Nat → By) (x : Nat) {q : Nat} (h : q + k = 11) : updB (nonP k iv x) q (iv q ^^^ sqB x k) = nonP (k + 1) iv x := by
  funext j
  unfold updB nonP
  by_cases hj : j = q
  · subst hj
    rw [if_pos rfl, if_pos (by omega), show 11 - j = k by omega]
  · rw [if_neg hj]
    by_cases h2 : 12 ≤ j + k ∧ j < 12
    · rw [if_pos h2, if_pos (by omega)]
    · rw [if_neg h2, if_neg (by omega)]
theorem sqB_int (x i : Nat) : (x : Int) / 2 ^ (8 * i) % 256 = ((sqB x i).toNat : Int) := by
  have e : (2 : Int) ^ (8 * i) = ((256 ^ i : Nat) : Int) := by rw [Int.pow_mul, Int.natCast_pow]; rfl
  rw [e, sqB, BitVec.toNat_ofNat]
  simp
theorem sqB_wrap (x i : Nat) : IntKind.u8.wrap ((x : Int) / 2 ^ (8 * i)) = ((sqB x i).toNat : Int) := by rw [IntKind.wrap_u8, sqB_int]
theorem sq_inj {x y : Nat} (hx : x < 18446744073709551616) (hy : y < 18446744073709551616) (h : ∀ i, i < 8 → sqB x i = sqB y i) : x = y := by
  have e : ∀ i, i < 8 → x / 256 ^ i % 256 = y / 256 ^ i % 256 := fun i hi => by
    have := congrArg BitVec.toNat (h i hi)
    simpa [sqB, BitVec.toNat_ofNat] using this
  have e0 := e 0 (by omega)
  have e1 := e 1 (by omega)
  have e2 := e 2 (by omega)
  have e3 := e 3 (by omega)
  have e4 := e 4 (by omega)
  have e5 := e 5 (by omega)
  have e6 := e 6 (by omega)
  have e7 := e 7 (by omega)
  simp only [Nat.pow_zero, Nat.div_one, Nat.reducePow] at e0 e1 e2 e3 e4 e5 e6 e7
  omega
/-- Unlike numbers, unlike nonces. -/
theorem non_inj {x y : Nat} (iv : Nat → By) (hx : x < 18446744073709551616) (hy : y < 18446744073709551616) (h : ∀ j, j < 12 → nonF iv x j = nonF iv y j) : x = y := by
  refine sq_inj hx hy fun i hi => ?_
  have := h (11 - i) (by omega)
  unfold nonF nonP at this
  rw [if_pos (by omega), if_pos (by omega), show 11 - (11 - i) = i by omega] at this
  have h2 := congrArg (iv (11 - i) ^^^ ·) this
  simpa [← BitVec.xor_assoc] using h2

/-! The program's. -/
set_option maxRecDepth 100000 in
set_option maxHeartbeats 4000000 in
theorem nonce_any (iv : Nat → By) (x : Nat) (hx : x < 18446744073709551616) (w : World) : Calls Try.prog 14 #[.agg (ba 12 iv), .int .u64 (x : Int)] w fun r w' => r = .returned (.agg (ba 12 (nonF iv x))) ∧ Chg w w' := by
  have hsA := ba_size 12 iv
  obtain ⟨A, hA⟩ : ∃ A, A = ba 12 iv := ⟨_, rfl⟩
  have HA : Hid (A = ba 12 iv) := hA
  rw [← hA] at hsA ⊢
  clear hA
  have hz := zero38.1
  go_enter Try.func14, Try.ntmps14
  go_wp2_with fail
  obtain ⟨w3, hw3⟩ : ∃ w3, w3 = (w.alloc (.cells A 24)).alloc (.cells (ba 12 zB) 24) := ⟨_, rfl⟩
  rw [← hw3]
  have z0 : Hid (Chg w w3 ∧ Ar w3 w.heap.size A ∧ Ar w3 (w.heap.size + 1) (ba 12 zB)) := by
    rw [hw3]
    exact ⟨((Chg.refl w).alloc _).alloc _, (Ar.new w _ _).alloc _, Ar.new1 w _ _ _⟩
  clear hw3
  go_loopw [6] (fun v wr => ∃ (i : Nat), v = .int .i64 i ∧ i ≤ 8 ∧ Chg w wr ∧ Ar wr w.heap.size (ba 12 (nonP i iv x)) ∧ Ar wr (w.heap.size + 1) (ba 12 zB)) (fun v wr => 8 - (intOf v).toNat)
  case atStart =>
    obtain ⟨z1, z2, z3⟩ := z0.out
    rw [HA.out] at z2
    exact ⟨0, rfl, by omega, z1, by rw [nonP_zero]; exact z2, z3⟩
  case round =>
    clear z0 hsA hz
    obtain ⟨i, rfl, hi, hch, h1, h3⟩ := hrel
    have H : Hid (Chg w wr ∧ Ar wr w.heap.size (ba 12 (nonP i iv x)) ∧ Ar wr (w.heap.size + 1) (ba 12 zB)) := ⟨hch, h1, h3⟩
    by_cases h16 : i < 8
    · have hd : decide ((i : Int) < 8) = true := by simp; omega
      obtain ⟨q, hq⟩ : ∃ q : Nat, q + i = 11 := ⟨11 - i, by omega⟩
      have HQ : Hid (q + i = 11) := hq
      have eq1 : (11 : Int) - i = q := by omega
      have wq := wrap_i (x := (q : Int)) (by omega) (by omega)
      have lq : (q : Int) < 12 := by omega
      have lq0 : (0 : Int) ≤ (q : Int) := by omega
      obtain ⟨s, hs⟩ : ∃ s : Nat, 8 * (i : Int) = s := ⟨8 * i, by omega⟩
      have ws := wrap_i (x := (s : Int)) (by omega) (by omega)
      have ls : (s : Int) < 64 := by omega
      have ls' : s < 64 := by omega
      have eb := sqB_wrap x i
      rw [show 8 * i = s by omega] at eb
      have mb : (x : Int) / 2 ^ s % 256 = ((sqB x i).toNat : Int) := by rw [← eb, IntKind.wrap_u8]
      have c1 := (h1.cell q).trans (ba_get 12 _ (by omega))
      have f1 := h1.frozen q
      rw [nonP_at iv x hq] at c1
      obtain ⟨y, hy⟩ : ∃ y, y = iv q := ⟨_, rfl⟩
      obtain ⟨b, hb⟩ : ∃ b, b = sqB x i := ⟨_, rfl⟩
      rw [← hy] at c1
      rw [← hb] at eb mb
      have HX : Hid (y = iv q ∧ b = sqB x i) := ⟨hy, hb⟩
      clear hy hb hch h1 h3 hq
      go_wp2_with fail
      go_region_with (fail)
      all_goals go_wp2
      all_goals
        go_roundw
        case rel =>
          obtain ⟨k0, k1, k3⟩ := H.out
          refine ⟨i + 1, by go_num, by omega, (k0.setCell (by dsimp only; omega) _).drew, ?_, (k3.other (by dsimp only; omega) _).drew⟩
          have hh := k1.set q (.int .u8 (Go.bits .xor .u8 (y.toNat : Int) (b.toNat : Int)))
          rw [xorB, ba_set, HX.out.1, HX.out.2, nonP_succ iv x HQ.out] at hh
          rw [xorB, HX.out.1, HX.out.2]
          exact hh.drew
        case measure => simp [intOf]; omega
    · have : i = 8 := by omega
      subst this
      obtain ⟨k0, k1, k3⟩ := H.out
      obtain ⟨t1, g1⟩ := k1
      obtain ⟨t3, g3⟩ := k3
      have hsz := szB (nonP 8 iv x) zero38.2
      have hlen := lenB 12 zB (nonP 8 iv x)
      have hone := ba_one 12 (nonP 8 iv x)
      clear hch h1 h3
      go_wp2_with (first | refine wpList_load_row rfl 24 _ rfl _ rfl _ _ _ _ g1 und38 rfl hsz ?_ | refine wpList_store_row rfl 24 _ _ rfl _ _ rfl rfl _ _ g3 hsz hlen hone ?_)
      refine bp_c (n := 12) (c := ba 12 (nonP 8 iv x)) Try.results14 rfl rfl ?_ und38 zero38.2 (ba_size _ _) ⟨rfl, ?_⟩
      · exact H.out.2.2.row _
      · exact H.out.1.setRow (by omega) _

/-! The document's. -/
set_option maxRecDepth 100000 in
set_option maxHeartbeats 4000000 in
theorem nonceR_any (iv : Nat → By) (x : Nat) (hx : x < 18446744073709551616) (w : World) : Calls Try.prog 15 #[.agg (ba 12 iv), .int .u64 (x : Int)] w fun r w' => r = .returned (.agg (ba 12 (nonF iv x))) ∧ Chg w w' := by
  have hsA := ba_size 12 iv
  obtain ⟨A, hA⟩ : ∃ A, A = ba 12 iv := ⟨_, rfl⟩
  have HA : Hid (A = ba 12 iv) := hA
  rw [← hA] at hsA ⊢
  clear hA
  have hz := zero38.1
  go_enter Try.func15, Try.ntmps15
  go_wp2_with fail
  obtain ⟨w3, hw3⟩ : ∃ w3, w3 = (w.alloc (.cells A 24)).alloc (.cells (ba 12 zB) 24) := ⟨_, rfl⟩
  rw [← hw3]
  have z0 : Hid (Chg w w3 ∧ Ar w3 w.heap.size A ∧ Ar w3 (w.heap.size + 1) (ba 12 zB)) := by
    rw [hw3]
    exact ⟨((Chg.refl w).alloc _).alloc _, (Ar.new w _ _).alloc _, Ar.new1 w _ _ _⟩
  clear hw3
  go_loopw [5] (fun v wr => ∃ (i : Nat), v = .int .i64 i ∧ i ≤ 8 ∧ Chg w wr ∧ Ar wr w.heap.size (ba 12 (nonP i iv x)) ∧ Ar wr (w.heap.size + 1) (ba 12 zB)) (fun v wr => 8 - (intOf v).toNat)
  case atStart =>
    obtain ⟨z1, z2, z3⟩ := z0.out
    rw [HA.out] at z2
    exact ⟨0, rfl, by omega, z1, by rw [nonP_zero]; exact z2, z3⟩
  case round =>
    clear z0 hsA hz
    obtain ⟨i, rfl, hi, hch, h1, h3⟩ := hrel
    have H : Hid (Chg w wr ∧ Ar wr w.heap.size (ba 12 (nonP i iv x)) ∧ Ar wr (w.heap.size + 1) (ba 12 zB)) := ⟨hch, h1, h3⟩
    by_cases h16 : i < 8
    · have hd : decide ((i : Int) < 8) = true := by simp; omega
      obtain ⟨q, hq⟩ : ∃ q : Nat, q + i = 11 := ⟨11 - i, by omega⟩
      have HQ : Hid (q + i = 11) := hq
      have eq1 : (11 : Int) - i = q := by omega
      have wq := wrap_i (x := (q : Int)) (by omega) (by omega)
      have lq : (q : Int) < 12 := by omega
      have lq0 : (0 : Int) ≤ (q : Int) := by omega
      obtain ⟨s, hs⟩ : ∃ s : Nat, 8 * (i : Int) = s := ⟨8 * i, by omega⟩
      have ws := wrap_i (x := (s : Int)) (by omega) (by omega)
      have ls : (s : Int) < 64 := by omega
      have ls' : s < 64 := by omega
      have eb := sqB_wrap x i
      rw [show 8 * i = s by omega] at eb
      have mb : (x : Int) / 2 ^ s % 256 = ((sqB x i).toNat : Int) := by rw [← eb, IntKind.wrap_u8]
      have c1 := (h1.cell q).trans (ba_get 12 _ (by omega))
      have f1 := h1.frozen q
      rw [nonP_at iv x hq] at c1
      obtain ⟨y, hy⟩ : ∃ y, y = iv q := ⟨_, rfl⟩
      obtain ⟨b, hb⟩ : ∃ b, b = sqB x i := ⟨_, rfl⟩
      rw [← hy] at c1
      rw [← hb] at eb mb
      have HX : Hid (y = iv q ∧ b = sqB x i) := ⟨hy, hb⟩
      clear hy hb hch h1 h3 hq
      go_wp2_with fail
      go_region_with (fail)
      all_goals go_wp2
      all_goals
        go_roundw
        case rel =>
          obtain ⟨k0, k1, k3⟩ := H.out
          refine ⟨i + 1, by go_num, by omega, (k0.setCell (by dsimp only; omega) _).drew, ?_, (k3.other (by dsimp only; omega) _).drew⟩
          have hh := k1.set q (.int .u8 (Go.bits .xor .u8 (y.toNat : Int) (b.toNat : Int)))
          rw [xorB, ba_set, HX.out.1, HX.out.2, nonP_succ iv x HQ.out] at hh
          rw [xorB, HX.out.1, HX.out.2]
          exact hh.drew
        case measure => simp [intOf]; omega
    · have : i = 8 := by omega
      subst this
      obtain ⟨k0, k1, k3⟩ := H.out
      obtain ⟨t1, g1⟩ := k1
      obtain ⟨t3, g3⟩ := k3
      have hsz := szB (nonP 8 iv x) zero38.2
      have hlen := lenB 12 zB (nonP 8 iv x)
      have hone := ba_one 12 (nonP 8 iv x)
      clear hch h1 h3
      go_wp2_with (first | refine wpList_load_row rfl 24 _ rfl _ rfl _ _ _ _ g1 und38 rfl hsz ?_ | refine wpList_store_row rfl 24 _ _ rfl _ _ rfl rfl _ _ g3 hsz hlen hone ?_)
      refine bp_c (n := 12) (c := ba 12 (nonP 8 iv x)) Try.results15 rfl rfl ?_ und38 zero38.2 (ba_size _ _) ⟨rfl, ?_⟩
      · exact H.out.2.2.row _
      · exact H.out.1.setRow (by omega) _

end Go.Proofs.Ytobglgddbhddnaa
