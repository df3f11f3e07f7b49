/-
  A number as sixteen bytes: the function bytesOf.
  The code of a text, plain: pieces, one by one, modulo 2^130 - 5.
  The code of a text under a key: the function Poly.
-/
import Derived.Test.YtobglgddbhddnaaGreatJ24
import Derived.Lib.EndianBits
namespace Go.Proofs.YtobglgddbhddnaaGreat.Cha
open Go.RowKit
set_option linter.unusedVariables false

theorem wraps8 (n : Int) (h0 : 0 ≤ n) (h1 : n < 2 ^ 8) : IntKind.u8.wrap n = n := by
  rw [IntKind.wrap_u8]
  have : (2 : Int) ^ 8 = 256 := rfl
  omega
/-- A byte of two digits. -/
theorem or_byte {x y : Int} {k : Nat} (hk : k ≤ 8) (hx0 : 0 ≤ x) (hx : x < 2 ^ k) (hy0 : 0 ≤ y) (hy : y < 256) (hm : y % 2 ^ k = 0) : Go.bits .or .u8 x y = x + y := by
  have h1 : (2 : Int) ^ k ≤ 2 ^ 8 := by exact_mod_cast Nat.pow_le_pow_right (n := 2) (by decide) hk
  have h2 : (2 : Int) ^ 8 = 256 := rfl
  exact bits_join_low .u8 8 (by decide) wraps8 k x y hx0 hx (by omega) hy0 hm (by omega)

/-- What stands while a number is laid into bytes. -/
structure BT (w wr : World) (B : Nat) (e : Nat → Int) (F : Nat → By) : Prop where
  chg : Chg w wr
  a : Ar wr w.heap.size (arr .u64 5 e)
  res : Ar wr (w.heap.size + 1) (ba 16 zB)
  out : Ar wr B (ba 16 F)
  lt : w.heap.size + 1 < B
theorem BT.set {w wr : World} {B : Nat} {e : Nat → Int} {F : Nat → By} (h : BT w wr B e F) (i : Nat) (x : By) : BT w (wr.setCell ⟨B, i, none⟩ (.int .u8 (x.toNat : Int))) B e (updB F i x) := by
  have hl := h.lt
  refine ⟨h.chg.setCell (by dsimp only; omega) _, h.a.other (by dsimp only; omega) _, h.res.other (by dsimp only; omega) _, ?_, hl⟩
  have := h.out.set i (.int .u8 (x.toNat : Int))
  rwa [ba_set] at this
theorem BT.drew {w wr : World} {B : Nat} {e : Nat → Int} {F : Nat → By} (h : BT w wr B e F) : BT w wr.drew B e F := ⟨h.chg.drew, h.a, h.res, h.out, h.lt⟩
theorem nmI {x : Int} (h0 : 0 ≤ x) (h1 : x < 256) : ∃ b : By, (b.toNat : Int) = x := ⟨BitVec.ofNat 8 x.toNat, by rw [BitVec.toNat_ofNat]; omega⟩

set_option maxRecDepth 100000 in
set_option maxHeartbeats 8000000 in
theorem bytesOf_any (d : Nat → Int) (w : World) (hd : ∀ i, i < 5 → 0 ≤ d i ∧ d i ≤ 4611686018427387904) : Calls Tryz.prog 91 #[.agg (arr .u64 5 d)] w fun r w' => r = .returned (.agg (ba 16 (byF (val (67108864 : Int) 5 (crD d))))) ∧ Chg w w' := by
  obtain ⟨A, hA⟩ : ∃ A, A = arr .u64 5 d := ⟨_, rfl⟩
  have hsA : A.size = 5 := by rw [hA]; exact arr_size _ _ _
  have HA : Hid (A = arr .u64 5 d) := hA
  have hszA : (Tryz.prog.info? 118).map (·.size) = some A.size := by rw [hA]; exact sz49 d
  rw [← hA]
  obtain ⟨e, he⟩ : ∃ e, e = crD d := ⟨_, rfl⟩
  obtain ⟨o, ho⟩ : ∃ o, o = crO d 5 := ⟨_, rfl⟩
  have HC : Hid (∀ u, Calls Tryz.prog 99 #[.agg A] u fun r w' => r = .returned (.tuple #[.agg (arr .u64 5 e), .int .u64 o]) ∧ Chg u w') := by
    rw [hA, he, ho]
    exact fun u => carried_any d u hd
  have HE : Hid (e = crD d) := he
  have HB : Hid (∀ k, k < 5 → 0 ≤ e k ∧ e k < 67108864) := fun k _ => by rw [he]; exact crD_bound d k
  clear hA hd he ho
  have hz := zero32.1
  have hsz := sz49 e
  have hone := arr_one .u64 5 e
  have hlen : A.size = (arr .u64 5 e).size := by rw [arr_size, hsA]
  go_enter Tryz.func91, Tryz.ntmps91
  go_upto_region 1 with fail
  obtain ⟨w2, hw2⟩ : ∃ w2, w2 = (w.alloc (.cells A 118)).alloc (.cells (ba 16 zB) 62) := ⟨_, rfl⟩
  have Z2 : Hid (Chg w w2 ∧ Ar w2 w.heap.size A ∧ Ar w2 (w.heap.size + 1) (ba 16 zB)) := by
    rw [hw2]
    exact ⟨((Chg.refl w).alloc _).alloc _, (Ar.new w _ _).alloc _, Ar.new1 w _ _ _⟩
  rw [← hw2]
  clear hw2
  obtain ⟨t1, g1⟩ := Z2.out.2.1
  go_wp2_with (first | refine wpList_load_row rfl 118 _ rfl _ rfl _ _ _ _ g1 und49 rfl hszA ?_)
  go_at_call 99
  refine (HC.out _).mono ?_
  rintro r w3 ⟨rfl, hc3⟩
  have Z3 : Hid (Chg w w3 ∧ Ar w3 w.heap.size A ∧ Ar w3 (w.heap.size + 1) (ba 16 zB)) := ⟨Z2.out.1.trans hc3, Z2.out.2.1.chg hc3, Z2.out.2.2.chg hc3⟩
  obtain ⟨t3, g3⟩ := Z3.out.2.1
  clear hc3 g1 Z2 hszA HC
  go_upto_region 2 with (first | refine wpList_store_row rfl 118 _ _ rfl _ _ rfl rfl _ _ g3 hsz hlen hone ?_)
  obtain ⟨w4, hw4⟩ : ∃ w4, w4 = w3.setRow w.heap.size (arr .u64 5 e) := ⟨_, rfl⟩
  have Z4 : Hid (Chg w w4 ∧ Ar w4 w.heap.size (arr .u64 5 e) ∧ Ar w4 (w.heap.size + 1) (ba 16 zB)) := by
    obtain ⟨k0, k1, k2⟩ := Z3.out
    rw [hw4]
    exact ⟨k0.setRow (Nat.le_refl _) _, k1.row _, k2.rowOther (by omega) _⟩
  rw [← hw4]
  clear hw4 g3 Z3 hlen hone hsz
  try dsimp only [Act.put]
  go_wp2_with fail
  obtain ⟨B, hB⟩ : ∃ B, B = w4.heap.size := ⟨_, rfl⟩
  obtain ⟨w5, hw5⟩ : ∃ w5, w5 = w4.alloc (.cells (ba 16 zB) 62) := ⟨_, rfl⟩
  obtain ⟨F, hF⟩ : ∃ F, F = byF (val (67108864 : Int) 5 e) := ⟨_, rfl⟩
  have HF : Hid (F = byF (val (67108864 : Int) 5 e)) := hF
  have Z5 : Hid (BT w w5 B e (upTo 0 F zB)) := by
    obtain ⟨k0, k1, k2⟩ := Z4.out
    have := k2.lt
    rw [hw5, hB, upTo_zero]
    exact ⟨k0.alloc _, k1.alloc _, k2.alloc _, Ar.new w4 _ _, this⟩
  rw [← hw5, ← hB]
  clear hw5 hB Z4 hF hz hsA
  go_loopw [11] (fun v wr => ∃ (i : Nat), v = .int .i64 i ∧ i ≤ 16 ∧ BT w wr B e (upTo i F zB)) (fun v wr => 16 - (intOf v).toNat)
  case atStart => exact ⟨0, rfl, by omega, Z5.out⟩
  case round =>
    clear Z5
    obtain ⟨i, rfl, hi, hz0⟩ := hrel
    have Z : Hid (BT w wr B e (upTo i F zB)) := hz0
    by_cases hlt : i < 16
    · have hd : decide ((i : Int) < 16) = true := by simp; omega
      have li : (i : Int) < 16 := by omega
      obtain ⟨p, q, r, e1, e2, e3, e4, e5, e6, lq, lr, lr', HQ⟩ := idx26 i (by omega)
      have hq5 : q < 5 := by omega
      have c1 := (hz0.a.cell q).trans (arr_get .u64 5 _ hq5)
      have c2 := (hz0.out.cell i).trans (ba_get 16 _ hlt)
      have f2 := hz0.out.frozen i
      obtain ⟨y, hy⟩ : ∃ y, y = e q := ⟨_, rfl⟩
      rw [← hy] at c1
      obtain ⟨z0, hz0'⟩ : ∃ z0, z0 = upTo i F zB i := ⟨_, rfl⟩
      rw [← hz0'] at c2
      have by1 := HB.out q hq5
      rw [← hy] at by1
      obtain ⟨x, hx⟩ : ∃ x, y / 2 ^ r = x := ⟨_, rfl⟩
      have hp0 : (0 : Int) < 2 ^ r := Int.pow_pos (by decide)
      have bx : 0 ≤ x := by rw [← hx]; exact Int.ediv_nonneg by1.1 (by omega)
      obtain ⟨b, hb⟩ := nmI (x := x % 256) (by omega) (by omega)
      have wb : IntKind.u8.wrap x = (b.toNat : Int) := by rw [IntKind.wrap_u8, hb]
      have mb : x % 256 = (b.toNat : Int) := hb.symm
      have HBb : Hid ((b.toNat : Int) = e (8 * i / 26) / 2 ^ (8 * i % 26) % 256) := by
        show _ = _
        rw [hb, ← hx, hy, HQ.out.2.1, HQ.out.2.2]
      obtain ⟨bb, hbb⟩ : ∃ bb : Bool, decide ((r : Int) > 18) = bb := ⟨_, rfl⟩
      have hbb' : decide ((18 : Int) < r) = bb := hbb
      have HBB : Hid (bb = true ↔ 18 < 8 * i % 26) := by
        have := HQ.out.2.2
        show _ ↔ _
        rw [← hbb, decide_eq_true_eq]
        omega
      clear hy hz0' hz0 by1 hb bx hp0
      go_upto_region 8 with fail
      obtain ⟨w6, hw6⟩ : ∃ w6, w6 = wr.setCell ⟨B, i, none⟩ (.int .u8 (b.toNat : Int)) := ⟨_, rfl⟩
      have Z6 : Hid (BT w w6 B e (updB (upTo i F zB) i b)) := by rw [hw6]; exact Z.out.set i b
      rw [← hw6]
      clear hw6 c1 c2 f2 Z
      cases bb with
      | true =>
        have HR : Hid (18 < 8 * i % 26) := HBB.out.1 rfl
        obtain ⟨q1, hq1⟩ : ∃ q1 : Nat, (q : Int) + 1 = q1 := ⟨q + 1, by omega⟩
        obtain ⟨s, hs⟩ : ∃ s : Nat, (26 : Int) - r = s := ⟨26 - r, by omega⟩
        have wq1 := wrap_i (x := (q1 : Int)) (by omega) (by omega)
        have ws := wrap_i (x := (s : Int)) (by omega) (by omega)
        have HR2 : Hid (18 < r ∧ q1 = 8 * i / 26 + 1 ∧ s = 26 - 8 * i % 26 ∧ q1 < 5) := by
          have h1 := HR.out
          have h2 := HQ.out
          show _ ∧ _ ∧ _ ∧ _
          omega
        have lq1 : (q1 : Int) < 5 := by have := HR2.out; omega
        have ls : (s : Int) < 64 := by omega
        have ls' : s < 64 := by omega
        have ls8 : s ≤ 8 := by have := HR2.out; omega
        have k1 := (Z6.out.a.cell q1).trans (arr_get .u64 5 _ HR2.out.2.2.2)
        have k2 := (Z6.out.out.cell i).trans (ba_get 16 _ hlt)
        have k3 := Z6.out.out.frozen i
        have e0 : updB (upTo i F zB) i b i = b := by simp [updB]
        rw [e0] at k2
        obtain ⟨y2, hy2⟩ : ∃ y2, y2 = e q1 := ⟨_, rfl⟩
        rw [← hy2] at k1
        have by2 := HB.out q1 HR2.out.2.2.2
        rw [← hy2] at by2
        obtain ⟨z, hz⟩ : ∃ z, y2 * 2 ^ s = z := ⟨_, rfl⟩
        have hp1 : (2 : Int) ^ s ≤ 2 ^ 8 := by exact_mod_cast Nat.pow_le_pow_right (n := 2) (by decide) ls8
        have hp0 : (0 : Int) < 2 ^ s := Int.pow_pos (by decide)
        have bz0 : 0 ≤ z := by rw [← hz]; exact Int.mul_nonneg by2.1 (by omega)
        have bz1 : z ≤ 67108864 * 2 ^ 8 := by rw [← hz]; exact Int.mul_le_mul (by omega) hp1 (by omega) (by decide)
        have wz := wrap_u (x := z) bz0 (by omega)
        have mz : z % 18446744073709551616 = z := by omega
        obtain ⟨c, hc⟩ := nmI (x := z % 256) (by omega) (by omega)
        have wc8 : IntKind.u8.wrap z = (c.toNat : Int) := by rw [IntKind.wrap_u8, hc]
        have mc8 : z % 256 = (c.toNat : Int) := hc.symm
        obtain ⟨h1, h2, h3⟩ := by_high HB.out hlt HR.out
        rw [← HR2.out.2.2.1] at h1 h2 h3
        rw [← HR2.out.2.1, ← hy2, hz, mc8] at h2 h3
        obtain ⟨g, hg⟩ : ∃ g, g = F i := ⟨_, rfl⟩
        have hgn : (g.toNat : Int) = val (67108864 : Int) 5 e / 256 ^ i % 256 := by rw [hg, HF.out]; exact byF_num _ i
        have hxb : e (8 * i / 26) / 2 ^ (8 * i % 26) = (b.toNat : Int) := by
          have := HBb.out
          have hn : 0 ≤ e (8 * i / 26) / 2 ^ (8 * i % 26) := by
            have h0 := HB.out (8 * i / 26) (by omega)
            exact Int.ediv_nonneg h0.1 (Int.le_of_lt (Int.pow_pos (by decide)))
          have h28 : (2 : Int) ^ 8 = 256 := rfl
          omega
        rw [hxb] at h1 h3
        have hor : Go.bits .or .u8 (b.toNat : Int) (c.toNat : Int) = (g.toNat : Int) := by
          rw [or_byte (k := s) ls8 (by omega) h1 (by omega) (by have := c.isLt; omega) h2, hgn, ← h3]
        have HG : Hid (g = F i) := hg
        clear h1 h2 h3 hgn hxb hg hc bz0 bz1 hp0 hp1 hy2 by2 ls8 e0
        go_wp2_with fail
        go_region_with (fail)
        all_goals go_wp2
        all_goals
          go_roundw
          case measure => simp [intOf]; omega
          refine ⟨i + 1, by go_num, by omega, ?_⟩
          have hh := Z6.out.set i g
          have e1 : updB (updB (upTo i F zB) i b) i g = upTo (i + 1) F zB := by
            rw [← upTo_upd, ← HG.out]
            funext j
            unfold updB
            split <;> rfl
          rw [e1] at hh
          first
            | exact hh.drew
            | (rw [hz, mz, mc8, hor]; exact hh.drew)
      | false =>
        have HR : Hid (8 * i % 26 ≤ 18) := by
          have := HBB.out
          show _ ≤ _
          by_cases h : 18 < 8 * i % 26
          · exact absurd (this.2 h) (by decide)
          · omega
        go_wp2_with fail
        go_roundw
        case measure => simp [intOf]; omega
        refine ⟨i + 1, by go_num, by omega, ?_⟩
        have hbF : b = F i := by
          apply BitVec.eq_of_toNat_eq
          have h1 := HBb.out
          rw [by_low HB.out hlt HR.out, ← byF_num, ← HF.out] at h1
          omega
        have hh := Z6.out
        rw [hbF, upTo_upd] at hh
        exact hh
    · have : i = 16 := by omega
      subst this
      have ho := hz0.out
      rw [upTo_all] at ho
      have HO : Hid (Chg w wr ∧ Ar wr (w.heap.size + 1) (ba 16 zB)) := ⟨hz0.chg, hz0.res⟩
      clear hz0 Z
      obtain ⟨t1, g1⟩ := ho
      obtain ⟨t3, g3⟩ := HO.out.2
      have hsz := szB F i32
      have hlen := lenB 16 zB F
      have hone := ba_one 16 F
      go_wp2_with (first | refine wpList_load_row rfl 62 _ rfl _ rfl _ _ _ _ g1 und32 rfl hsz ?_ | refine wpList_store_row rfl 62 _ _ rfl _ _ rfl rfl _ _ g3 hsz hlen hone ?_)
      refine bp_c (n := 16) (c := ba 16 F) Tryz.results91 rfl rfl ?_ und32 i32 (ba_size _ _) ⟨by rw [HF.out, HE.out], ?_⟩
      · exact HO.out.2.row _
      · exact HO.out.1.setRow (by omega) _
end Go.Proofs.YtobglgddbhddnaaGreat.Cha

namespace Go.Proofs.YtobglgddbhddnaaGreat.Cha
open Go.RowKit
set_option linter.unusedVariables false

/-- How many bytes the piece of this number has. -/
def pcL (n m : Nat) : Nat := min 16 (n - 16 * m)
/-- The number of a piece and a byte 1 behind it. -/
def pcN (txt : Nat → By) (n m : Nat) : Int := val 256 (pcL n m) (nmF fun j => txt (16 * m + j)) + 256 ^ pcL n m
def rK (key : Nat → By) : Int := val 256 16 (nmF (clF key))
def sK (key : Nat → By) : Int := val 256 16 (nmF fun j => key (16 + j))
/-- The sum behind so many pieces. -/
def pac (r : Int) (txt : Nat → By) (n : Nat) : Nat → Int
  | 0 => 0
  | m + 1 => (pac r txt n m + pcN txt n m) * r % (1361129467683753853853498429727072845819 : Int)
def polN (key txt : Nat → By) (n : Nat) : Int := pac (rK key) txt n ((n + 15) / 16) + sK key
/-- The code. -/
def polF (key txt : Nat → By) (n : Nat) : Nat → By := byF (polN key txt n)

theorem mk_val (f : Nat → By) {l : Nat} (hl : l ≤ 16) : ∀ k, l < k → k ≤ 17 → val 256 k (nmF (mkF f l)) = val 256 l (nmF f) + 256 ^ l := by
  intro k hk
  induction k with
  | zero => omega
  | succ k ih =>
    intro h17
    rw [val1]
    by_cases h : k = l
    · subst h
      have e1 : val 256 k (nmF (mkF f k)) = val 256 k (nmF f) := val_congr fun i hi => by unfold nmF mkF; rw [if_pos hi]
      have e2 : nmF (mkF f k) k = 1 := by unfold nmF mkF; simp
      rw [e1, e2, Int.one_mul]
    · have e2 : nmF (mkF f l) k = 0 := by unfold nmF mkF; rw [if_neg (by omega), if_neg h]; rfl
      rw [ih (by omega) (by omega), e2, Int.zero_mul, Int.add_zero]
theorem pow_le16 {l : Nat} (hl : l ≤ 16) : (256 : Int) ^ l ≤ 340282366920938463463374607431768211456 := by
  have h := Int.ofNat_le.2 (Nat.pow_le_pow_right (n := 256) (by decide) hl)
  rw [Int.natCast_pow] at h
  refine Int.le_trans h (Int.le_of_eq ?_)
  rfl
theorem piece_val (f : Nat → By) {l : Nat} (hl : l ≤ 16) : val 256 17 (nmF (mkF f l)) = val 256 l (nmF f) + 256 ^ l ∧ 0 ≤ val 256 l (nmF f) + 256 ^ l ∧ val 256 l (nmF f) + 256 ^ l < 1361129467683753853853498429727072845824 := by
  have h1 := mk_val f hl 17 (by omega) (Nat.le_refl _)
  have h2 := val_bound (B := 256) (by decide) (n := l) (d := nmF f) (fun i _ => nmF_bound f i)
  have h3 := pow_le16 hl
  have h4 : (0 : Int) < 256 ^ l := Int.pow_pos (by decide)
  exact ⟨h1, by omega, by omega⟩
theorem half_val (f : Nat → By) (h : f 16 = 0#8) : val 256 17 (nmF f) = val 256 16 (nmF f) ∧ val 256 17 (nmF f) < 1361129467683753853853498429727072845824 := by
  have e : val 256 17 (nmF f) = val 256 16 (nmF f) := by
    rw [val1]
    have : nmF f 16 = 0 := by unfold nmF; rw [h]; rfl
    rw [this, Int.zero_mul, Int.add_zero]
  have h2 := val_bound (B := 256) (by decide) (n := 16) (d := nmF f) (fun i _ => nmF_bound f i)
  have h3 : (256 : Int) ^ 16 = 340282366920938463463374607431768211456 := rfl
  rw [h3] at h2
  exact ⟨e, by omega⟩
theorem first_val (key : Nat → By) : val (67108864 : Int) 5 (noF (clF key)) = rK key ∧ ∀ i, i < 5 → 0 ≤ noF (clF key) i ∧ noF (clF key) i < 67108864 := by
  have h := half_val (clF key) (by unfold clF; rw [if_neg (by decide)])
  have h2 := noF_val h.2
  exact ⟨h2.1.trans h.1, h2.2⟩
theorem second_val (key : Nat → By) : val (67108864 : Int) 5 (noF (half key 16)) = sK key ∧ ∀ i, i < 5 → 0 ≤ noF (half key 16) i ∧ noF (half key 16) i < 67108864 := by
  have h := half_val (half key 16) (by unfold half; rw [if_neg (by decide)])
  have h2 := noF_val h.2
  refine ⟨(h2.1.trans h.1).trans (val_congr fun i hi => ?_), h2.2⟩
  unfold nmF half
  rw [if_pos hi]

/-- One piece more. -/
def nxF (r s : Nat → Int) (f : Nat → By) (l : Nat) : Nat → Int := prF (addF s (noF (mkF f l))) r
theorem nx_ok {key : Nat → By} {s : Nat → Int} {f : Nat → By} {l : Nat} (hs : Sm s) (hl : l ≤ 16) :
    (∀ i, i < 5 → 0 ≤ addF s (noF (mkF f l)) i ∧ addF s (noF (mkF f l)) i ≤ 268435456) ∧ (∀ i, i < 5 → 0 ≤ noF (clF key) i ∧ noF (clF key) i ≤ 67108864) ∧ Sm (nxF (noF (clF key)) s f l) ∧
    val (67108864 : Int) 5 (nxF (noF (clF key)) s f l) % (1361129467683753853853498429727072845819 : Int) = (val (67108864 : Int) 5 s % (1361129467683753853853498429727072845819 : Int) + (val 256 l (nmF f) + 256 ^ l)) * rK key % (1361129467683753853853498429727072845819 : Int) := by
  have hp := piece_val f hl
  have hn := noF_val (f := mkF f l) (by rw [hp.1]; exact hp.2.2)
  have hf := first_val key
  have h1 : ∀ i, i < 5 → 0 ≤ addF s (noF (mkF f l)) i ∧ addF s (noF (mkF f l)) i ≤ 268435456 := fun i hi => by
    have a1 := hs.le hi
    have a2 := hn.2 i hi
    unfold addF
    omega
  have h2 : ∀ i, i < 5 → 0 ≤ noF (clF key) i ∧ noF (clF key) i ≤ 67108864 := fun i hi => by
    have := hf.2 i hi
    omega
  refine ⟨h1, h2, prF_sm h1 h2, ?_⟩
  unfold nxF
  rw [prF_mod, hf.1]
  have e : val (67108864 : Int) 5 (addF s (noF (mkF f l))) = val (67108864 : Int) 5 s + (val 256 l (nmF f) + 256 ^ l) := by
    rw [← hp.1, ← hn.1]
    exact val_add 5 s _
  rw [e]
  conv => lhs; rw [Int.mul_emod, Int.add_emod]
  conv => rhs; rw [Int.mul_emod, Int.add_emod, Int.emod_emod]
theorem byF_mod (v : Int) {i : Nat} (hi : i < 16) : byF (v % 1361129467683753853853498429727072845824) i = byF v i := by
  apply BitVec.eq_of_toNat_eq
  have h1 := byF_num (v % 1361129467683753853853498429727072845824) i
  have h2 := byF_num v i
  have h3 : v % 1361129467683753853853498429727072845824 / 256 ^ i % 256 = v / 256 ^ i % 256 := by
    clear h1 h2
    have h : i = 0 ∨ i = 1 ∨ i = 2 ∨ i = 3 ∨ i = 4 ∨ i = 5 ∨ i = 6 ∨ i = 7 ∨ i = 8 ∨ i = 9 ∨ i = 10 ∨ i = 11 ∨ i = 12 ∨ i = 13 ∨ i = 14 ∨ i = 15 := by omega
    clear hi
    rcases h with rfl | rfl | rfl | rfl | rfl | rfl | rfl | rfl | rfl | rfl | rfl | rfl | rfl | rfl | rfl | rfl <;> simp only [Int.reducePow] <;> omega
  omega
/-- The end: what the program's last calls make. -/
theorem end_ok {key : Nat → By} {s : Nat → Int} {a : Int} (hs : Sm s) (ha : val (67108864 : Int) 5 s % (1361129467683753853853498429727072845819 : Int) = a) :
    (∀ i, i < 5 → 0 ≤ s i ∧ s i ≤ 4294967295) ∧ (∀ i, i < 5 → 0 ≤ leF s i ∧ leF s i ≤ 4294967296) ∧ (∀ i, i < 5 → 0 ≤ noF (half key 16) i ∧ noF (half key 16) i ≤ 4294967296) ∧
    (∀ i, i < 5 → 0 ≤ addF (leF s) (noF (half key 16)) i ∧ addF (leF s) (noF (half key 16)) i ≤ 4611686018427387904) ∧ ba 16 (byF (val (67108864 : Int) 5 (crD (addF (leF s) (noF (half key 16)))))) = ba 16 (byF (a + sK key)) := by
  have hl := leF_val hs
  have h2 := second_val key
  refine ⟨fun i hi => by have := hs.le hi; omega, fun i hi => by have := hl.2 i hi; omega, fun i hi => by have := h2.2 i hi; omega, fun i hi => by have a1 := hl.2 i hi; have a2 := h2.2 i hi; unfold addF; omega, ba_congr fun i hi => ?_⟩
  have hv : val (67108864 : Int) 5 (addF (leF s) (noF (half key 16))) = a + sK key := by
    rw [← ha, ← hl.1, ← h2.1]
    exact val_add 5 _ _
  have hc := cr5 (addF (leF s) (noF (half key 16)))
  have hb := crD_val (addF (leF s) (noF (half key 16)))
  have e : val (67108864 : Int) 5 (crD (addF (leF s) (noF (half key 16)))) = (a + sK key) % 1361129467683753853853498429727072845824 := by
    rw [← hv, ← hc, Int.add_mul_emod_self_right, Int.emod_eq_of_lt hb.1 hb.2]
  rw [e, byF_mod _ hi]
theorem sm_zero : Sm zI := ⟨⟨Int.le_refl _, by decide⟩, fun i _ _ => ⟨Int.le_refl _, (by decide : (0 : Int) < 67108864)⟩⟩
theorem val_zI : val (67108864 : Int) 5 zI = 0 := val_zero 5
end Go.Proofs.YtobglgddbhddnaaGreat.Cha

namespace Go.Proofs.YtobglgddbhddnaaGreat.Cha
open Go.RowKit
set_option linter.unusedVariables false

theorem rangeI {w : World} {B n : Nat} {d : Nat → Int} (h : Ar w B (arr .u64 n d)) : w.rangeAt B 0 (arr .u64 n d).toList := by
  intro j v hv
  rw [Nat.zero_add, h.cell]
  simpa using hv
theorem infoI (d : Nat → Int) : (Tryz.prog.info? 118).map (·.size) = some (arr .u64 5 d).toList.length := by rw [Array.length_toList, arr_size]; exact i49
theorem thereI {w : World} {B n : Nat} {κ : IntKind} {d : Nat → Int} (h : Ar w B (arr κ n d)) : w.there B 0 n := fun j hj => by
  rw [Nat.zero_add, h.cell, arr_get κ n d hj]
  exact ⟨rfl, h.frozen j⟩
theorem setRowI {w : World} {B n ty : Nat} {κ : IntKind} {d : Nat → Int} (h : Ar w B (arr κ n d)) (hi : (Tryz.prog.info? ty).map (·.size) = some n) (g : Nat → Int) : w.setCells B 0 (arr κ n g).toList = w.setRow B (arr κ n g) := by
  have h1 := run_storeVar_mid (P := Tryz.prog) w B 0 ty (arr κ n g) (by rw [arr_size]; exact thereI h) (by rw [arr_size]; exact hi) (arr_one κ n g)
  obtain ⟨t, h⟩ := h
  have h2 := run_storeVar_row (P := Tryz.prog) w B t ty _ (arr κ n g) h (by rw [arr_size]; exact hi) (by rw [arr_size, arr_size]) (arr_one κ n g)
  rw [h1] at h2
  injection h2
theorem run_sliceLH (b o n cap p q : Nat) (hp : p ≤ q) (hq : q ≤ cap) (hc : cap ≤ 9223372036854775807) (hne : ¬ cap = p) (w : World) : (Instr.sliceAt 24 (.slice (some ⟨b, o, none⟩) n cap) (some (.int .i64 (p : Int))) (some (.int .i64 (q : Int))) none).run Tryz.prog w = .ok (.slice (some ⟨b, o + p, none⟩) (q - p) (cap - p)) w := by
  have h1 : (p : Int) ≤ q := by omega
  have h2 : (q : Int) ≤ cap := by omega
  refine (run_sliceAt_slice w 24 _ _ _ _ (by kernel_rfl)).trans ?_
  simp [Instr.slice, Instr.sliceBounds, Instr.sliceBound, run_underlying u22, asIntOf, Sem.run_bind, hp, hq, hne, addr_add]

/-- What stands while a text's code is made. -/
structure PS (w wr : World) (R S : Nat) (key : Nat → By) (s : Nat → Int) : Prop where
  chg : Chg w wr
  ky : Ar wr w.heap.size (ba 32 key)
  res : Ar wr (w.heap.size + 1) (ba 16 zB)
  r : Ar wr R (arr .u64 5 (noF (clF key)))
  sum : Ar wr S (arr .u64 5 s)
  l1 : w.heap.size + 1 < R
  l2 : R < S
theorem PS.to {w wr u : World} {R S : Nat} {key : Nat → By} {s : Nat → Int} (h : PS w wr R S key s) (k : Chg wr u) : PS w u R S key s := ⟨h.chg.trans k, h.ky.chg k, h.res.chg k, h.r.chg k, h.sum.chg k, h.l1, h.l2⟩
theorem PS.row {w wr : World} {R S : Nat} {key : Nat → By} {s : Nat → Int} (h : PS w wr R S key s) (g : Nat → Int) : PS w (wr.setRow S (arr .u64 5 g)) R S key g := by
  have e1 := h.l1
  have e2 := h.l2
  exact ⟨h.chg.setRow (by omega) _, h.ky.rowOther (by omega) _, h.res.rowOther (by omega) _, h.r.rowOther (by omega) _, h.sum.row _, e1, e2⟩

def rgOf (n : Nat) : Code → Option Code
  | .region i ops b => if i = n then some (.region i ops b) else none
  | .block _ b => rgOf n b
  | .seq a b => match rgOf n a with
    | some c => some c
    | none => rgOf n b
  | .cond _ a b => match rgOf n a with
    | some c => some c
    | none => rgOf n b
  | .loop b => rgOf n b
  | _ => none
/-- The region of this number. -/
def rg (f : Func) (n : Nat) : Code := match f.body with
  | some c => (rgOf n c).getD .skip
  | none => .skip

set_option maxRecDepth 100000 in
set_option maxHeartbeats 8000000 in
theorem poly7_any {Q : Exit → Act → World → Prop} {t0 t1 t2 t3 t4 t7 t9 t10 t11 t12 t13 t14 t15 t16 t17 t18 t19 t20 t21 t22 t23 t24 t25 t26 t27 t28 t29 t30 t31 t32 t33 t34 t35 t36 t37 : Value} {R S tb tf l cl : Nat} {key f : Nat → By} {s : Nat → Int} {w : World}
    (hS : Ar w.drew S (arr .u64 5 s)) (hR : Ar w.drew R (arr .u64 5 (noF (clF key)))) (hT : Bs w tb tf l f) (hl : l ≤ 16)
    (h1 : ∀ i, i < 5 → 0 ≤ s i ∧ s i ≤ 4294967296) (h2 : ∀ i, i < 5 → 0 ≤ noF (mkF f l) i ∧ noF (mkF f l) i ≤ 4294967296) (h3 : ∀ i, i < 5 → 0 ≤ addF s (noF (mkF f l)) i ∧ addF s (noF (mkF f l)) i ≤ 268435456) (h4 : ∀ i, i < 5 → 0 ≤ noF (clF key) i ∧ noF (clF key) i ≤ 67108864)
    (hQ : ∀ (u25 u26 u27 u28 u29 u30 u31 : Value) (u : World), (∃ w1, Chg w w1 ∧ u = w1.setRow S (arr .u64 5 (nxF (noF (clF key)) s f l))) → Q .normal ⟨#[t0, t1, t2, t3, t4, .pointer (some ⟨R, 0, none⟩), .pointer (some ⟨S, 0, none⟩), t7, .slice (some ⟨tb, tf, none⟩) l cl, t9, t10, t11, t12, t13, t14, t15, t16, t17, t18, t19, t20, t21, t22, t23, t24, u25, u26, u27, u28, u29, u30, u31, t32, t33, t34, t35, t36, t37], []⟩ u) :
    (rg Tryz.f67 7).wp Tryz.prog Q ⟨#[t0, t1, t2, t3, t4, .pointer (some ⟨R, 0, none⟩), .pointer (some ⟨S, 0, none⟩), t7, .slice (some ⟨tb, tf, none⟩) l cl, t9, t10, t11, t12, t13, t14, t15, t16, t17, t18, t19, t20, t21, t22, t23, t24, t25, t26, t27, t28, t29, t30, t31, t32, t33, t34, t35, t36, t37], []⟩ w := by
  show Code.wp Tryz.prog (Code.region 7 _ true) Q _ _
  refine wp_region_vals 7 (fun j => match j with
    | 0 => .agg (arr .u64 5 s)
    | 1 => .slice (some ⟨tb, tf, none⟩) l cl
    | 2 => .agg (ba 17 (mkF f l))
    | 3 => .agg (arr .u64 5 (noF (mkF f l)))
    | 4 => .agg (arr .u64 5 (addF s (noF (mkF f l))))
    | 5 => .agg (arr .u64 5 (noF (clF key)))
    | _ => .agg (arr .u64 5 (nxF (noF (clF key)) s f l))) (by kernel_rfl) (by kernel_rfl) (by kernel_rfl) (by kernel_rfl) (by kernel_rfl) (by kernel_rfl) ?_ ?_
  · intro i o a u hi ho hf hg hc
    have hcs : i = 0 ∨ i = 1 ∨ i = 2 ∨ i = 3 ∨ i = 4 ∨ i = 5 ∨ i = 6 := by omega
    rcases hcs with rfl | rfl | rfl | rfl | rfl | rfl | rfl
    · injection ho with ho
      subst ho
      have e1 : a.eval (.tmp 6) = .pointer (some ⟨S, 0, none⟩) := hf 6 (by kernel_rfl)
      exact wp_load_mid 118 (.tmp 6) rfl _ _ e1 ((arr .u64 5 s).toList) _ (rangeI (hS.chg hc)) und49 rfl (infoI _) ⟨rfl, Chg.refl _⟩
    · injection ho with ho
      subst ho
      have e1 : a.eval (.tmp 8) = .slice (some ⟨tb, tf, none⟩) l cl := hf 8 (by kernel_rfl)
      exact op_val (by simp [execOp, e1]) (Chg.refl _)
    · injection ho with ho
      subst ho
      have e1 : a.eval (.tmp 26) = .slice (some ⟨tb, tf, none⟩) l cl := hg 1 (by kernel_rfl) (by decide)
      exact op_go 90 Tryz.f90 #[.tmp 26] #[24] rfl Tryz.func90 (by kernel_rfl) (by kernel_rfl) (by simp [e1]) (marked_any tb tf l cl f _ (Bs.chg hT ((Chg.refl w).drew.trans hc)) hl)
    · injection ho with ho
      subst ho
      have e1 : a.eval (.tmp 27) = .agg (ba 17 (mkF f l)) := hg 2 (by kernel_rfl) (by decide)
      exact op_go 89 Tryz.f89 #[.tmp 27] #[122] rfl Tryz.func89 (by kernel_rfl) (by kernel_rfl) (by simp [e1]) (numberOf_any (mkF f l) _)
    · injection ho with ho
      subst ho
      have e1 : a.eval (.tmp 25) = .agg (arr .u64 5 s) := hg 0 (by kernel_rfl) (by decide)
      have e2 : a.eval (.tmp 28) = .agg (arr .u64 5 (noF (mkF f l))) := hg 3 (by kernel_rfl) (by decide)
      exact op_go 88 Tryz.f88 #[.tmp 25, .tmp 28] #[118, 118] rfl Tryz.func88 (by kernel_rfl) (by kernel_rfl) (by simp [e1, e2]) (added_any s (noF (mkF f l)) _ h1 h2)
    · injection ho with ho
      subst ho
      have e1 : a.eval (.tmp 5) = .pointer (some ⟨R, 0, none⟩) := hf 5 (by kernel_rfl)
      exact wp_load_mid 118 (.tmp 5) rfl _ _ e1 ((arr .u64 5 (noF (clF key))).toList) _ (rangeI (hR.chg hc)) und49 rfl (infoI _) ⟨rfl, Chg.refl _⟩
    · injection ho with ho
      subst ho
      have e1 : a.eval (.tmp 29) = .agg (arr .u64 5 (addF s (noF (mkF f l)))) := hg 4 (by kernel_rfl) (by decide)
      have e2 : a.eval (.tmp 30) = .agg (arr .u64 5 (noF (clF key))) := hg 5 (by kernel_rfl) (by decide)
      exact op_go 87 Tryz.f87 #[.tmp 29, .tmp 30] #[118, 118] rfl Tryz.func87 (by kernel_rfl) (by kernel_rfl) (by simp [e1, e2]) (product_any (addF s (noF (mkF f l))) (noF (clF key)) _ h3 h4)
  · intro o u ho hc
    injection ho with ho
    subst ho
    have k := hS.chg hc
    refine wp_store_mid 118 (.tmp 6) (.tmp 31) rfl S 0 (arr .u64 5 (nxF (noF (clF key)) s f l)) rfl rfl (by rw [arr_size]; exact thereI k) (by rw [arr_size]; exact i49) (arr_one _ _ _) ?_
    rw [setRowI k i49]
    exact hQ _ _ _ _ _ _ _ _ ⟨_, (Chg.refl w).drew.trans hc, rfl⟩


set_option maxRecDepth 100000 in
set_option maxHeartbeats 8000000 in
theorem poly_any (n cap : Nat) (ao : Option Addr) (key txt : Nat → By) (w : World) (hv : Ap.Rd w (.slice ao n cap) (nums n txt)) (hn' : n ≤ 281474976710656) :
    Calls Tryz.prog 67 #[.agg (ba 32 key), .slice ao n cap] w fun r w' => r = .returned (.agg (ba 16 (polF key txt n))) ∧ Chg w w' := by
  obtain ⟨A, hA⟩ : ∃ A, A = ba 32 key := ⟨_, rfl⟩
  have hsA : A.size = 32 := by rw [hA]; exact ba_size _ _
  have hszA : (Tryz.prog.info? 40).map (·.size) = some A.size := by rw [hA]; exact szB key i22
  have HA : Hid (A = ba 32 key) := hA
  rw [← hA]
  have HX : Hid (Ap.Rd w (.slice ao n cap) (nums n txt) ∧ n ≤ 281474976710656) := ⟨hv, hn'⟩
  obtain ⟨rd, hrd⟩ : ∃ rd, rd = noF (clF key) := ⟨_, rfl⟩
  have HRD : Hid (rd = noF (clF key)) := hrd
  have HC1 : Hid (∀ u, Calls Tryz.prog 86 #[.agg A] u fun r w' => r = .returned (.agg (arr .u64 5 rd)) ∧ Chg u w') := by rw [hA, hrd]; exact firstHalf_any key
  clear hA hv hrd
  have hz := zero49.1
  have hz2 := zero32.1
  have hsz := sz49 rd
  have hlen := len5 zI rd
  have hone := arr_one .u64 5 rd
  go_enter Tryz.func67, Tryz.ntmps67
  go_upto_region 1 with fail
  obtain ⟨w2, hw2⟩ : ∃ w2, w2 = (w.alloc (.cells A 40)).alloc (.cells (ba 16 zB) 62) := ⟨_, rfl⟩
  have Z2 : Hid (Chg w w2 ∧ Ar w2 w.heap.size A ∧ Ar w2 (w.heap.size + 1) (ba 16 zB)) := by
    rw [hw2]
    exact ⟨((Chg.refl w).alloc _).alloc _, (Ar.new w _ _).alloc _, Ar.new1 w _ _ _⟩
  rw [← hw2]
  clear hw2
  obtain ⟨t1, g1⟩ := Z2.out.2.1
  go_upto_region 2 with (first | refine wpList_load_row rfl 40 _ rfl _ rfl _ _ _ _ g1 und22 rfl hszA ?_ | (go_at_call 86; refine (HC1.out _).mono ?_; rintro r w3 ⟨rfl, hc3⟩) | refine wpList_store_row rfl 118 _ _ rfl _ _ rfl rfl _ _ (heap_alloc_last w3 _) hsz hlen hone ?_)
  obtain ⟨R, hR⟩ : ∃ R, R = w3.heap.size := ⟨_, rfl⟩
  obtain ⟨w4, hw4⟩ : ∃ w4, w4 = (w3.alloc (.cells (arr .u64 5 zI) 118)).setRow w3.heap.size (arr .u64 5 rd) := ⟨_, rfl⟩
  have hsz4 : Hid (w4.heap.size = R + 1) := by rw [hw4, hR]; show _ = _; simp [World.setRow]
  have Z4 : Hid (Chg w w4 ∧ Ar w4 w.heap.size A ∧ Ar w4 (w.heap.size + 1) (ba 16 zB) ∧ Ar w4 R (arr .u64 5 rd) ∧ w.heap.size + 1 < R) := by
    have k0 := Z2.out.1.trans hc3
    have k1 := Z2.out.2.1.chg hc3
    have k2 := Z2.out.2.2.chg hc3
    have e1 := k1.lt
    have e2 := k2.lt
    rw [hw4, hR]
    exact ⟨(k0.alloc _).setRow k0.size _, (k1.alloc _).rowOther (by omega) _, (k2.alloc _).rowOther (by omega) _, (Ar.new w3 _ _).row _, e2⟩
  rw [← hw4, ← hR]
  clear hw4 hR hc3 g1 Z2 HC1 hsz hlen hone hszA hsA
  try dsimp only [Act.put]
  go_upto_region 3 with fail
  obtain ⟨S, hS⟩ : ∃ S, S = w4.heap.size := ⟨_, rfl⟩
  obtain ⟨w6, hw6⟩ : ∃ w6, w6 = w4.alloc (.cells (arr .u64 5 zI) 118) := ⟨_, rfl⟩
  have Z6 : Hid (PS w w6 R S key zI) := by
    obtain ⟨k0, k1, k2, k3, k4⟩ := Z4.out
    have e := hsz4.out
    rw [HA.out] at k1
    rw [HRD.out] at k3
    rw [hw6, hS]
    exact ⟨k0.alloc _, k1.alloc _, k2.alloc _, k3.alloc _, Ar.new w4 _ _, k4, by omega⟩
  rw [← hw6, ← hS]
  clear hw6 hS hsz4 Z4 hz hz2
  go_wp2_with fail
  go_loopw [7] (fun v7 wr => ∃ (m : Nat) (s : Nat → Int), v7 = .int .i64 ((16 * m : Nat) : Int) ∧ 16 * m ≤ n + 15 ∧ PS w wr R S key s ∧ Sm s ∧ val (67108864 : Int) 5 s % (1361129467683753853853498429727072845819 : Int) = pac (rK key) txt n m) (fun v7 wr => n + 15 - (intOf v7).toNat)
  case atStart => exact ⟨0, zI, rfl, by omega, Z6.out, sm_zero, by rw [val_zI]; rfl⟩
  case round =>
    clear Z6
    obtain ⟨m, s, rfl, hm, hz3, hsm, hva⟩ := hrel
    have Z : Hid (PS w wr R S key s) := hz3
    have HV : Hid (Sm s ∧ val (67108864 : Int) 5 s % (1361129467683753853853498429727072845819 : Int) = pac (rK key) txt n m) := ⟨hsm, hva⟩
    clear hz3 hsm hva
    obtain ⟨fr, hfr⟩ : ∃ fr : Nat, fr = 16 * m := ⟨_, rfl⟩
    rw [← hfr]
    have HFR : Hid (fr = 16 * m) := hfr
    have hfn : fr ≤ n + 15 := by omega
    clear hfr hm
    by_cases hlt : fr < n
    · have hd : decide ((fr : Int) < n) = true := by simp; omega
      obtain ⟨tb, tt, tc, hv, hc1, hc2, hbs⟩ := Rd.bs HX.out.1 (by omega)
      injection hv with hv1 hv2 hv3
      subst hv1 hv3
      clear hv2
      obtain ⟨f16, hf16⟩ : ∃ q : Nat, (fr : Int) + 16 = q := ⟨fr + 16, by omega⟩
      have w16 := wrap_i (x := (f16 : Int)) (by omega) (by omega)
      obtain ⟨q, hq⟩ : ∃ q : Nat, q = min f16 n := ⟨_, rfl⟩
      have hmin : min (f16 : Int) (n : Int) = q := by omega
      obtain ⟨l, hl⟩ : ∃ l, l = pcL n m := ⟨_, rfl⟩
      have HL : Hid (l = pcL n m ∧ q - fr = l ∧ l ≤ 16 ∧ fr + l ≤ n ∧ q = min f16 n) := by
        have := HFR.out
        unfold pcL at hl
        show _ ∧ _ ∧ _ ∧ _ ∧ _
        unfold pcL
        omega
      obtain ⟨tf, htf⟩ : ∃ tf, tf = tt + fr := ⟨_, rfl⟩
      obtain ⟨cl, hcl⟩ : ∃ cl, cl = cap - fr := ⟨_, rfl⟩
      obtain ⟨f, hf⟩ : ∃ f : Nat → By, f = fun j => txt (fr + j) := ⟨_, rfl⟩
      have hsl : ∀ u, (Instr.sliceAt 24 (.slice (some ⟨tb, tt, none⟩) n cap) (some (.int .i64 (fr : Int))) (some (.int .i64 (q : Int))) none).run Tryz.prog u = .ok (.slice (some ⟨tb, tf, none⟩) l cl) u := fun u => by
        have h := run_sliceLH tb tt n cap fr q (by omega) (by omega) hc2 (by omega) u
        rwa [HL.out.2.1, ← htf, ← hcl] at h
      have HT : Hid (Bs w tb tf l f ∧ l ≤ 16) := by
        refine ⟨fun j hj => ?_, HL.out.2.2.1⟩
        have := hbs (fr + j) (by have := HL.out.2.2.2.1; omega)
        rw [htf, hf, Nat.add_assoc]
        exact this
      have HK : Hid ((∀ i, i < 5 → 0 ≤ s i ∧ s i ≤ 4294967296) ∧ (∀ i, i < 5 → 0 ≤ noF (mkF f l) i ∧ noF (mkF f l) i ≤ 4294967296) ∧ (∀ i, i < 5 → 0 ≤ addF s (noF (mkF f l)) i ∧ addF s (noF (mkF f l)) i ≤ 268435456) ∧ (∀ i, i < 5 → 0 ≤ noF (clF key) i ∧ noF (clF key) i ≤ 67108864) ∧ Sm (nxF (noF (clF key)) s f l) ∧
          val (67108864 : Int) 5 (nxF (noF (clF key)) s f l) % (1361129467683753853853498429727072845819 : Int) = pac (rK key) txt n (m + 1)) := by
        have h1 := nx_ok (key := key) (f := f) HV.out.1 HL.out.2.2.1
        have h2 := piece_val f HL.out.2.2.1
        have h3 := noF_val (f := mkF f l) (by rw [h2.1]; exact h2.2.2)
        refine ⟨fun i hi => by have := HV.out.1.le hi; omega, fun i hi => by have := h3.2 i hi; omega, h1.1, h1.2.1, h1.2.2.1, ?_⟩
        rw [h1.2.2.2, HV.out.2]
        have e : pcN txt n m = val 256 l (nmF f) + 256 ^ l := by unfold pcN; rw [← hl, hf, HFR.out]
        show _ = (pac (rK key) txt n m + pcN txt n m) * rK key % _
        rw [e]
      have HTF : Hid (tf = tt + fr ∧ cl = cap - fr) := ⟨htf, hcl⟩
      clear hq hl htf hcl hf hbs
      go_upto_region 6 with fail
      go_cut [8] from 17 to 24 (fun v8 wc => v8 = .slice (some ⟨tb, tf, none⟩) l cl ∧ wc = wr)
      case first =>
        go_wp2_with fail
        all_goals go_meet
        all_goals
          refine ⟨?_, rfl⟩
          have hl := HL.out
          rw [HTF.out.1, HTF.out.2]
          congr 1
          omega
      obtain ⟨rfl, hwc⟩ := hcut
      rw [hwc]
      clear hwc hsl wc
      obtain ⟨w5, hw5⟩ : ∃ w5, w5 = wr := ⟨_, rfl⟩
      rw [← hw5] at Z ⊢
      have Z5 : Hid (PS w w5 R S key s) := Z.out
      clear hw5 Z
      go_upto_region 7 with fail
      refine poly7_any (s := s) (key := key) (f := f) Z5.out.sum Z5.out.r (HT.out.1.chg Z5.out.chg) HT.out.2 HK.out.1 HK.out.2.1 HK.out.2.2.1 HK.out.2.2.2.1 ?_
      rintro u25 u26 u27 u28 u29 u30 u31 u ⟨w9, hc9, rfl⟩
      have Z8 : Hid (PS w (w9.setRow S (arr .u64 5 (nxF (noF (clF key)) s f l))) R S key (nxF (noF (clF key)) s f l)) := (Z5.out.to hc9).row _
      clear hc9 Z5
      go_wp2_with fail
      go_roundw
      case rel =>
        have hf' := HFR.out
        refine ⟨m + 1, _, by congr 1; omega, by omega, Z8.out, HK.out.2.2.2.2.1, HK.out.2.2.2.2.2⟩
      case measure => simp [intOf]; omega
    · have hd : decide ((fr : Int) < n) = false := by simp; omega
      have HK := (show Hid (_) from end_ok (key := key) HV.out.1 HV.out.2)
      have HM : Hid (m = (n + 15) / 16) := by have := HFR.out; show m = _; omega
      go_upto_region 8 with fail
      refine wp_region_vals 6 (fun j => match j with
        | 0 => .agg (arr .u64 5 s)
        | 1 => .agg (arr .u64 5 (leF s))
        | 2 => .agg (ba 32 key)
        | 3 => .agg (arr .u64 5 (noF (half key 16)))
        | 4 => .agg (arr .u64 5 (addF (leF s) (noF (half key 16))))
        | _ => .agg (ba 16 (byF (val (67108864 : Int) 5 (crD (addF (leF s) (noF (half key 16)))))))) (by kernel_rfl) (by kernel_rfl) (by kernel_rfl) (by kernel_rfl) (by kernel_rfl) (by kernel_rfl) ?_ ?_
      · intro i o a u hi ho hf hg hc
        have hcs : i = 0 ∨ i = 1 ∨ i = 2 ∨ i = 3 ∨ i = 4 ∨ i = 5 := by omega
        rcases hcs with rfl | rfl | rfl | rfl | rfl | rfl
        · injection ho with ho
          subst ho
          have e1 : a.eval (.tmp 6) = .pointer (some ⟨S, 0, none⟩) := hf 6 (by kernel_rfl)
          exact wp_load_mid 118 (.tmp 6) rfl _ _ e1 ((arr .u64 5 s).toList) _ (rangeI (Ar.chg (w := wr.drew) Z.out.sum hc)) und49 rfl (infoI _) ⟨rfl, Chg.refl _⟩
        · injection ho with ho
          subst ho
          have e1 : a.eval (.tmp 32) = .agg (arr .u64 5 s) := hg 0 (by kernel_rfl) (by decide)
          exact op_go 92 Tryz.f92 #[.tmp 32] #[118] rfl Tryz.func92 (by kernel_rfl) (by kernel_rfl) (by simp [e1]) (least_any s _ HK.out.1)
        · injection ho with ho
          subst ho
          have e1 : a.eval (.tmp 2) = .pointer (some ⟨w.heap.size, 0, none⟩) := hf 2 (by kernel_rfl)
          exact wp_load_mid 40 (.tmp 2) rfl _ _ e1 ((ba 32 key).toList) _ (rangeA (Ar.chg (w := wr.drew) Z.out.ky hc)) und22 rfl (info32 _) ⟨rfl, Chg.refl _⟩
        · injection ho with ho
          subst ho
          have e1 : a.eval (.tmp 34) = .agg (ba 32 key) := hg 2 (by kernel_rfl) (by decide)
          exact op_go 93 Tryz.f93 #[.tmp 34] #[40] rfl Tryz.func93 (by kernel_rfl) (by kernel_rfl) (by simp [e1]) (secondHalf_any key _)
        · injection ho with ho
          subst ho
          have e1 : a.eval (.tmp 33) = .agg (arr .u64 5 (leF s)) := hg 1 (by kernel_rfl) (by decide)
          have e2 : a.eval (.tmp 35) = .agg (arr .u64 5 (noF (half key 16))) := hg 3 (by kernel_rfl) (by decide)
          exact op_go 88 Tryz.f88 #[.tmp 33, .tmp 35] #[118, 118] rfl Tryz.func88 (by kernel_rfl) (by kernel_rfl) (by simp [e1, e2]) (added_any (leF s) (noF (half key 16)) _ HK.out.2.1 HK.out.2.2.1)
        · injection ho with ho
          subst ho
          have e1 : a.eval (.tmp 36) = .agg (arr .u64 5 (addF (leF s) (noF (half key 16)))) := hg 4 (by kernel_rfl) (by decide)
          exact op_go 91 Tryz.f91 #[.tmp 36] #[118] rfl Tryz.func91 (by kernel_rfl) (by kernel_rfl) (by simp [e1]) (bytesOf_any (addF (leF s) (noF (half key 16))) _ HK.out.2.2.2.1)
      · intro o u ho hc
        injection ho with ho
        subst ho
        have kk := Z.out.to ((Chg.refl wr).drew.trans hc)
        refine wp_store_mid 62 (.tmp 4) (.tmp 37) rfl (w.heap.size + 1) 0 (ba 16 (byF (val (67108864 : Int) 5 (crD (addF (leF s) (noF (half key 16))))))) rfl rfl (by rw [ba_size]; exact thereI kk.res) (by rw [ba_size]; exact i32) (ba_one _ _) ?_
        have e := setRowI kk.res i32 (fun i => ((byF (val (67108864 : Int) 5 (crD (addF (leF s) (noF (half key 16))))) i).toNat : Int))
        rw [show (ba 16 (byF (val (67108864 : Int) 5 (crD (addF (leF s) (noF (half key 16))))))) = arr .u8 16 (fun i => ((byF (val (67108864 : Int) 5 (crD (addF (leF s) (noF (half key 16))))) i).toNat : Int)) from rfl, e]
        go_wp2_with fail
        refine bp_c (n := 16) (c := ba 16 (byF (val (67108864 : Int) 5 (crD (addF (leF s) (noF (half key 16))))))) Tryz.results67 rfl rfl ?_ und32 i32 (ba_size _ _) ⟨?_, ?_⟩
        · exact kk.res.row _
        · have h5 := HK.out.2.2.2.2
          rw [h5, HM.out]
          rfl
        · exact kk.chg.setRow (by omega) _
end Go.Proofs.YtobglgddbhddnaaGreat.Cha
