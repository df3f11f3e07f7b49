/-
  A number as sixteen bytes: the function bytesOf.
-/
import Derived.Test.YtkdidacebfkdmaaNum5
import Derived.Test.YtkdidacebfkdmaaPyb
import Derived.Lib.EndianBits
namespace Go.Proofs.Ytkdidacebfkdmaa
open Go.RowKit
set_option linter.unusedVariables false

theorem wraps8 (n : Int) (h0 : 0 ≤ n) (h1 : n < 2 ^ 8) : IntKind.u8.wrap n = n := by
  rw [IntKind.wrap_u8]
  have : (2 : Int) ^ 8 = 256 := rfl
  omega
/-- A byte of two digits. -/
theorem or_byte {x y : Int} {k : Nat} (hk : k ≤ 8) (hx0 : 0 ≤ x) (hx : x < 2 ^ k) (hy0 : 0 ≤ y) (hy : y < 256) (hm : y % 2 ^ k = 0) : Go.bits .or .u8 x y = x + y := by
  have h1 : (2 : Int) ^ k ≤ 2 ^ 8 := by exact_mod_cast Nat.pow_le_pow_right (n := 2) (by decide) hk
  have h2 : (2 : Int) ^ 8 = 256 := rfl
  exact bits_join_low .u8 8 (by decide) wraps8 k x y hx0 hx (by omega) hy0 hm (by omega)

/-- What stands while a number is laid into bytes. -/
structure BT (w wr : World) (B : Nat) (e : Nat → Int) (F : Nat → By) : Prop where
  chg : Chg w wr
  a : Ar wr w.heap.size (arr .u64 5 e)
  res : Ar wr (w.heap.size + 1) (ba 16 zB)
  out : Ar wr B (ba 16 F)
  lt : w.heap.size + 1 < B
theorem BT.set {w wr : World} {B : Nat} {e : Nat → Int} {F : Nat → By} (h : BT w wr B e F) (i : Nat) (x : By) : BT w (wr.setCell ⟨B, i, none⟩ (.int .u8 (x.toNat : Int))) B e (updB F i x) := by
  have hl := h.lt
  refine ⟨h.chg.setCell (by dsimp only; omega) _, h.a.other (by dsimp only; omega) _, h.res.other (by dsimp only; omega) _, ?_, hl⟩
  have := h.out.set i (.int .u8 (x.toNat : Int))
  rwa [ba_set] at this
theorem BT.drew {w wr : World} {B : Nat} {e : Nat → Int} {F : Nat → By} (h : BT w wr B e F) : BT w wr.drew B e F := ⟨h.chg.drew, h.a, h.res, h.out, h.lt⟩
theorem nmI {x : Int} (h0 : 0 ≤ x) (h1 : x < 256) : ∃ b : By, (b.toNat : Int) = x := ⟨BitVec.ofNat 8 x.toNat, by rw [BitVec.toNat_ofNat]; omega⟩

set_option maxRecDepth 100000 in
set_option maxHeartbeats 8000000 in
theorem bytesOf_any (d : Nat → Int) (w : World) (hd : ∀ i, i < 5 → 0 ≤ d i ∧ d i ≤ 4611686018427387904) : Calls Try.prog 28 #[.agg (arr .u64 5 d)] w fun r w' => r = .returned (.agg (ba 16 (byF (val (67108864 : Int) 5 (crD d))))) ∧ Chg w w' := by
  obtain ⟨A, hA⟩ : ∃ A, A = arr .u64 5 d := ⟨_, rfl⟩
  have hsA : A.size = 5 := by rw [hA]; exact arr_size _ _ _
  have HA : Hid (A = arr .u64 5 d) := hA
  have hszA : (Try.prog.info? 49).map (·.size) = some A.size := by rw [hA]; exact sz49 d
  rw [← hA]
  obtain ⟨e, he⟩ : ∃ e, e = crD d := ⟨_, rfl⟩
  obtain ⟨o, ho⟩ : ∃ o, o = crO d 5 := ⟨_, rfl⟩
  have HC : Hid (∀ u, Calls Try.prog 40 #[.agg A] u fun r w' => r = .returned (.tuple #[.agg (arr .u64 5 e), .int .u64 o]) ∧ Chg u w') := by
    rw [hA, he, ho]
    exact fun u => carried_any d u hd
  have HE : Hid (e = crD d) := he
  have HB : Hid (∀ k, k < 5 → 0 ≤ e k ∧ e k < 67108864) := fun k _ => by rw [he]; exact crD_bound d k
  clear hA hd he ho
  have hz := zero32.1
  have hsz := sz49 e
  have hone := arr_one .u64 5 e
  have hlen : A.size = (arr .u64 5 e).size := by rw [arr_size, hsA]
  go_enter Try.func28, Try.ntmps28
  go_upto_region 1 with fail
  obtain ⟨w2, hw2⟩ : ∃ w2, w2 = (w.alloc (.cells A 49)).alloc (.cells (ba 16 zB) 31) := ⟨_, rfl⟩
  have Z2 : Hid (Chg w w2 ∧ Ar w2 w.heap.size A ∧ Ar w2 (w.heap.size + 1) (ba 16 zB)) := by
    rw [hw2]
    exact ⟨((Chg.refl w).alloc _).alloc _, (Ar.new w _ _).alloc _, Ar.new1 w _ _ _⟩
  rw [← hw2]
  clear hw2
  obtain ⟨t1, g1⟩ := Z2.out.2.1
  go_wp2_with (first | refine wpList_load_row rfl 49 _ rfl _ rfl _ _ _ _ g1 und49 rfl hszA ?_)
  go_at_call 40
  refine (HC.out _).mono ?_
  rintro r w3 ⟨rfl, hc3⟩
  have Z3 : Hid (Chg w w3 ∧ Ar w3 w.heap.size A ∧ Ar w3 (w.heap.size + 1) (ba 16 zB)) := ⟨Z2.out.1.trans hc3, Z2.out.2.1.chg hc3, Z2.out.2.2.chg hc3⟩
  obtain ⟨t3, g3⟩ := Z3.out.2.1
  clear hc3 g1 Z2 hszA HC
  go_upto_region 2 with (first | refine wpList_store_row rfl 49 _ _ rfl _ _ rfl rfl _ _ g3 hsz hlen hone ?_)
  obtain ⟨w4, hw4⟩ : ∃ w4, w4 = w3.setRow w.heap.size (arr .u64 5 e) := ⟨_, rfl⟩
  have Z4 : Hid (Chg w w4 ∧ Ar w4 w.heap.size (arr .u64 5 e) ∧ Ar w4 (w.heap.size + 1) (ba 16 zB)) := by
    obtain ⟨k0, k1, k2⟩ := Z3.out
    rw [hw4]
    exact ⟨k0.setRow (Nat.le_refl _) _, k1.row _, k2.rowOther (by omega) _⟩
  rw [← hw4]
  clear hw4 g3 Z3 hlen hone hsz
  try dsimp only [Act.put]
  go_wp2_with fail
  obtain ⟨B, hB⟩ : ∃ B, B = w4.heap.size := ⟨_, rfl⟩
  obtain ⟨w5, hw5⟩ : ∃ w5, w5 = w4.alloc (.cells (ba 16 zB) 31) := ⟨_, rfl⟩
  obtain ⟨F, hF⟩ : ∃ F, F = byF (val (67108864 : Int) 5 e) := ⟨_, rfl⟩
  have HF : Hid (F = byF (val (67108864 : Int) 5 e)) := hF
  have Z5 : Hid (BT w w5 B e (upTo 0 F zB)) := by
    obtain ⟨k0, k1, k2⟩ := Z4.out
    have := k2.lt
    rw [hw5, hB, upTo_zero]
    exact ⟨k0.alloc _, k1.alloc _, k2.alloc _, Ar.new w4 _ _, this⟩
  rw [← hw5, ← hB]
  clear hw5 hB Z4 hF hz hsA
  go_loopw [11] (fun v wr => ∃ (i : Nat), v = .int .i64 i ∧ i ≤ 16 ∧ BT w wr B e (upTo i F zB)) (fun v wr => 16 - (intOf v).toNat)
  case atStart => exact ⟨0, rfl, by omega, Z5.out⟩
  case round =>
    clear Z5
    obtain ⟨i, rfl, hi, hz0⟩ := hrel
    have Z : Hid (BT w wr B e (upTo i F zB)) := hz0
    by_cases hlt : i < 16
    · have hd : decide ((i : Int) < 16) = true := by simp; omega
      have li : (i : Int) < 16 := by omega
      obtain ⟨p, q, r, e1, e2, e3, e4, e5, e6, lq, lr, lr', HQ⟩ := idx26 i (by omega)
      have hq5 : q < 5 := by omega
      have c1 := (hz0.a.cell q).trans (arr_get .u64 5 _ hq5)
      have c2 := (hz0.out.cell i).trans (ba_get 16 _ hlt)
      have f2 := hz0.out.frozen i
      obtain ⟨y, hy⟩ : ∃ y, y = e q := ⟨_, rfl⟩
      rw [← hy] at c1
      obtain ⟨z0, hz0'⟩ : ∃ z0, z0 = upTo i F zB i := ⟨_, rfl⟩
      rw [← hz0'] at c2
      have by1 := HB.out q hq5
      rw [← hy] at by1
      obtain ⟨x, hx⟩ : ∃ x, y / 2 ^ r = x := ⟨_, rfl⟩
      have hp0 : (0 : Int) < 2 ^ r := Int.pow_pos (by decide)
      have bx : 0 ≤ x := by rw [← hx]; exact Int.ediv_nonneg by1.1 (by omega)
      obtain ⟨b, hb⟩ := nmI (x := x % 256) (by omega) (by omega)
      have wb : IntKind.u8.wrap x = (b.toNat : Int) := by rw [IntKind.wrap_u8, hb]
      have mb : x % 256 = (b.toNat : Int) := hb.symm
      have HBb : Hid ((b.toNat : Int) = e (8 * i / 26) / 2 ^ (8 * i % 26) % 256) := by
        show _ = _
        rw [hb, ← hx, hy, HQ.out.2.1, HQ.out.2.2]
      obtain ⟨bb, hbb⟩ : ∃ bb : Bool, decide ((r : Int) > 18) = bb := ⟨_, rfl⟩
      have hbb' : decide ((18 : Int) < r) = bb := hbb
      have HBB : Hid (bb = true ↔ 18 < 8 * i % 26) := by
        have := HQ.out.2.2
        show _ ↔ _
        rw [← hbb, decide_eq_true_eq]
        omega
      clear hy hz0' hz0 by1 hb bx hp0
      go_upto_region 8 with fail
      obtain ⟨w6, hw6⟩ : ∃ w6, w6 = wr.setCell ⟨B, i, none⟩ (.int .u8 (b.toNat : Int)) := ⟨_, rfl⟩
      have Z6 : Hid (BT w w6 B e (updB (upTo i F zB) i b)) := by rw [hw6]; exact Z.out.set i b
      rw [← hw6]
      clear hw6 c1 c2 f2 Z
      cases bb with
      | true =>
        have HR : Hid (18 < 8 * i % 26) := HBB.out.1 rfl
        obtain ⟨q1, hq1⟩ : ∃ q1 : Nat, (q : Int) + 1 = q1 := ⟨q + 1, by omega⟩
        obtain ⟨s, hs⟩ : ∃ s : Nat, (26 : Int) - r = s := ⟨26 - r, by omega⟩
        have wq1 := wrap_i (x := (q1 : Int)) (by omega) (by omega)
        have ws := wrap_i (x := (s : Int)) (by omega) (by omega)
        have HR2 : Hid (18 < r ∧ q1 = 8 * i / 26 + 1 ∧ s = 26 - 8 * i % 26 ∧ q1 < 5) := by
          have h1 := HR.out
          have h2 := HQ.out
          show _ ∧ _ ∧ _ ∧ _
          omega
        have lq1 : (q1 : Int) < 5 := by have := HR2.out; omega
        have ls : (s : Int) < 64 := by omega
        have ls' : s < 64 := by omega
        have ls8 : s ≤ 8 := by have := HR2.out; omega
        have k1 := (Z6.out.a.cell q1).trans (arr_get .u64 5 _ HR2.out.2.2.2)
        have k2 := (Z6.out.out.cell i).trans (ba_get 16 _ hlt)
        have k3 := Z6.out.out.frozen i
        have e0 : updB (upTo i F zB) i b i = b := by simp [updB]
        rw [e0] at k2
        obtain ⟨y2, hy2⟩ : ∃ y2, y2 = e q1 := ⟨_, rfl⟩
        rw [← hy2] at k1
        have by2 := HB.out q1 HR2.out.2.2.2
        rw [← hy2] at by2
        obtain ⟨z, hz⟩ : ∃ z, y2 * 2 ^ s = z := ⟨_, rfl⟩
        have hp1 : (2 : Int) ^ s ≤ 2 ^ 8 := by exact_mod_cast Nat.pow_le_pow_right (n := 2) (by decide) ls8
        have hp0 : (0 : Int) < 2 ^ s := Int.pow_pos (by decide)
        have bz0 : 0 ≤ z := by rw [← hz]; exact Int.mul_nonneg by2.1 (by omega)
        have bz1 : z ≤ 67108864 * 2 ^ 8 := by rw [← hz]; exact Int.mul_le_mul (by omega) hp1 (by omega) (by decide)
        have wz := wrap_u (x := z) bz0 (by omega)
        have mz : z % 18446744073709551616 = z := by omega
        obtain ⟨c, hc⟩ := nmI (x := z % 256) (by omega) (by omega)
        have wc8 : IntKind.u8.wrap z = (c.toNat : Int) := by rw [IntKind.wrap_u8, hc]
        have mc8 : z % 256 = (c.toNat : Int) := hc.symm
        obtain ⟨h1, h2, h3⟩ := by_high HB.out hlt HR.out
        rw [← HR2.out.2.2.1] at h1 h2 h3
        rw [← HR2.out.2.1, ← hy2, hz, mc8] at h2 h3
        obtain ⟨g, hg⟩ : ∃ g, g = F i := ⟨_, rfl⟩
        have hgn : (g.toNat : Int) = val (67108864 : Int) 5 e / 256 ^ i % 256 := by rw [hg, HF.out]; exact byF_num _ i
        have hxb : e (8 * i / 26) / 2 ^ (8 * i % 26) = (b.toNat : Int) := by
          have := HBb.out
          have hn : 0 ≤ e (8 * i / 26) / 2 ^ (8 * i % 26) := by
            have h0 := HB.out (8 * i / 26) (by omega)
            exact Int.ediv_nonneg h0.1 (Int.le_of_lt (Int.pow_pos (by decide)))
          have h28 : (2 : Int) ^ 8 = 256 := rfl
          omega
        rw [hxb] at h1 h3
        have hor : Go.bits .or .u8 (b.toNat : Int) (c.toNat : Int) = (g.toNat : Int) := by
          rw [or_byte (k := s) ls8 (by omega) h1 (by omega) (by have := c.isLt; omega) h2, hgn, ← h3]
        have HG : Hid (g = F i) := hg
        clear h1 h2 h3 hgn hxb hg hc bz0 bz1 hp0 hp1 hy2 by2 ls8 e0
        go_wp2_with fail
        go_region_with (fail)
        all_goals go_wp2
        all_goals
          go_roundw
          case measure => simp [intOf]; omega
          refine ⟨i + 1, by go_num, by omega, ?_⟩
          have hh := Z6.out.set i g
          have e1 : updB (updB (upTo i F zB) i b) i g = upTo (i + 1) F zB := by
            rw [← upTo_upd, ← HG.out]
            funext j
            unfold updB
            split <;> rfl
          rw [e1] at hh
          first
            | exact hh.drew
            | (rw [hz, mz, mc8, hor]; exact hh.drew)
      | false =>
        have HR : Hid (8 * i % 26 ≤ 18) := by
          have := HBB.out
          show _ ≤ _
          by_cases h : 18 < 8 * i % 26
          · exact absurd (this.2 h) (by decide)
          · omega
        go_wp2_with fail
        go_roundw
        case measure => simp [intOf]; omega
        refine ⟨i + 1, by go_num, by omega, ?_⟩
        have hbF : b = F i := by
          apply BitVec.eq_of_toNat_eq
          have h1 := HBb.out
          rw [by_low HB.out hlt HR.out, ← byF_num, ← HF.out] at h1
          omega
        have hh := Z6.out
        rw [hbF, upTo_upd] at hh
        exact hh
    · have : i = 16 := by omega
      subst this
      have ho := hz0.out
      rw [upTo_all] at ho
      have HO : Hid (Chg w wr ∧ Ar wr (w.heap.size + 1) (ba 16 zB)) := ⟨hz0.chg, hz0.res⟩
      clear hz0 Z
      obtain ⟨t1, g1⟩ := ho
      obtain ⟨t3, g3⟩ := HO.out.2
      have hsz := szB F i32
      have hlen := lenB 16 zB F
      have hone := ba_one 16 F
      go_wp2_with (first | refine wpList_load_row rfl 31 _ rfl _ rfl _ _ _ _ g1 und32 rfl hsz ?_ | refine wpList_store_row rfl 31 _ _ rfl _ _ rfl rfl _ _ g3 hsz hlen hone ?_)
      refine bp_c (n := 16) (c := ba 16 F) Try.results28 rfl rfl ?_ und32 i32 (ba_size _ _) ⟨by rw [HF.out, HE.out], ?_⟩
      · exact HO.out.2.row _
      · exact HO.out.1.setRow (by omega) _
end Go.Proofs.Ytkdidacebfkdmaa
