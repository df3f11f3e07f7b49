/-
  A block that is encrypted under a key: the method Encrypt.
  A block's last four bytes, counted on by one: the function counted.
  Bytes XORed with the blocks that a counter counts: the method Stream.
  A text that a slice shows, streamed; slices of a slice; a counter's number.
-/
import Derived.Test.YtobglgddbhddnaaGreatJ05
import Derived.Test.YtobglgddbhddnaaGreatJ01
import Derived.Test.YtobglgddbhddnaaGreatJ02
namespace Go.Proofs.YtobglgddbhddnaaGreat
open Go.RowKit
set_option linter.unusedVariables false

set_option maxRecDepth 100000 in
set_option maxHeartbeats 4000000 in
theorem encrypt_any (K R : Nat) (k b : Nat → By) (w : World) (hK : Ar w K (keyC R k)) (hR : R = 10 ∨ R = 14) :
    Calls Tryz.prog 63 #[.pointer (some ⟨K, 0, none⟩), .agg (ba 16 b)] w fun r w' => r = .returned (.agg (ba 16 (enc R k b))) ∧ Chg w w' := by
  have hsA := ba_size 16 b
  obtain ⟨A, hA⟩ : ∃ A, A = ba 16 b := ⟨_, rfl⟩
  have HA : Hid (A = ba 16 b) := hA
  have HK : Hid (Ar w K (keyC R k) ∧ (R = 10 ∨ R = 14)) := ⟨hK, hR⟩
  rw [← hA] at hsA ⊢
  clear hA hK hR
  have hz := zero32.1
  have hz2 := zero47.1
  go_enter Tryz.func63, Tryz.ntmps63
  go_wp2_with fail
  obtain ⟨w2, hw2⟩ : ∃ w2, w2 = (w.alloc (.cells A 62)).alloc (.cells (ba 16 zB) 62) := ⟨_, rfl⟩
  have Z : Hid (EnS w w2 b) := by
    rw [hw2, HA.out]
    exact ⟨((Chg.refl w).alloc _).alloc _, (Ar.new w _ _).alloc _, Ar.new1 w _ _ _⟩
  rw [← hw2]
  clear hw2 hsA
  go_at_call 59
  refine (boxes_any _).mono ?_
  rintro r w3 ⟨rfl, hc3⟩
  have Z3 : Hid (EnS w w3 b) := Z.out.chg hc3
  clear hc3 Z
  have hsz := szB sbF zero47.2
  have hlen := lenB 256 zB sbF
  have hone := ba_one 256 sbF
  obtain ⟨T, hT⟩ : ∃ T, T = ba 256 sbF := ⟨_, rfl⟩
  have HT : Hid (T = ba 256 sbF) := hT
  rw [← hT] at hsz hlen hone ⊢
  clear hT
  obtain ⟨t1, g1⟩ : ∃ t, ((w3.alloc (.cells (ba 256 zB) 65)).setRow w3.heap.size T).heap[w.heap.size]? = some (.cells (ba 16 b) t (0, 0)) := (Z3.out.2.1.alloc _).rowOther (Nat.ne_of_lt Z3.out.2.1.lt) _
  have hs1 := szB b zero32.2
  go_wp2_with (first | refine wpList_store_row rfl 65 _ _ rfl _ _ rfl rfl _ _ (heap_alloc_last w3 _) hsz hlen hone ?_ | refine wpList_load_row rfl 62 _ rfl _ rfl _ _ _ _ g1 und32 rfl hs1 ?_)
  clear g1 hs1
  obtain ⟨w4, hw4⟩ : ∃ w4, w4 = (w3.alloc (.cells (ba 256 zB) 65)).setRow w3.heap.size T := ⟨_, rfl⟩
  have Z4 : Hid (EnS w w4 b ∧ Ar w4 w3.heap.size (ba 256 sbF)) := by
    rw [hw4, ← HT.out]
    have h1 := Z3.out.2.1.lt
    have h2 := Z3.out.2.2.lt
    exact ⟨⟨(Z3.out.1.alloc _).setRow Z3.out.1.size _, (Z3.out.2.1.alloc _).rowOther (by omega) _, (Z3.out.2.2.alloc _).rowOther (by omega) _⟩, (Ar.new w3 _ _).row _⟩
  rw [← hw4]
  clear hw4 Z3 hsz hlen hone hz hz2
  go_at_call 60
  refine (encrypted_any K w3.heap.size R k b w4 (HK.out.1.chg Z4.out.1.1) Z4.out.2 HK.out.2).mono ?_
  rintro r w5 ⟨rfl, hc5⟩
  have Z5 : Hid (EnS w w5 b) := Z4.out.1.chg hc5
  clear hc5 Z4
  obtain ⟨g, hg⟩ : ∃ g, g = enc R k b := ⟨_, rfl⟩
  have HG : Hid (g = enc R k b) := hg
  rw [← hg]
  clear hg
  obtain ⟨t3, g3⟩ := Z5.out.2.2
  have hsz := szB g zero32.2
  have hlen := lenB 16 zB g
  have hone := ba_one 16 g
  go_wp2_with (first | refine wpList_store_row rfl 62 _ _ rfl _ _ rfl rfl _ _ g3 hsz hlen hone ?_)
  refine bp_c (n := 16) (c := ba 16 g) Tryz.results63 rfl rfl ?_ und32 i32 (ba_size _ _) ⟨by rw [HG.out], ?_⟩
  · exact Z5.out.2.2.row _
  · exact Z5.out.1.setRow (by omega) _
end Go.Proofs.YtobglgddbhddnaaGreat

namespace Go.Proofs.YtobglgddbhddnaaGreat
open Go.RowKit
set_option linter.unusedVariables false

/-- The last j bytes are noughts. -/
def zl (b : Nat → By) (j : Nat) : Nat → By := fun k => if 16 - j ≤ k then 0#8 else b k
def fulls (b : Nat → By) (j : Nat) : Prop := ∀ k, 16 - j ≤ k → k < 16 → (b k).toNat = 255

theorem put4_of (b f : Nat → By) (n : Nat) (h : ∀ k, k < 12 → f k = b k) (hn : num4 f = n % 4294967296) : E16 f (put4 b n) := by
  have h1 : E16 (put4 f (num4 f)) f := by
    have := ctr_zero f
    rwa [ctr, Nat.add_zero] at this
  have h2 : E16 (put4 f (num4 f)) (put4 f n) := put4_mod f _ _ (by rw [hn]; omega)
  intro j hj
  have e : put4 f n j = put4 b n j := by
    unfold put4
    split
    · rename_i h12; exact h j h12
    · rfl
  rw [← e, ← h2 j hj, h1 j hj]

theorem carry_on (b : Nat → By) (j : Nat) (hj : j < 4) (hf : fulls b j) (h : (b (15 - j)).toNat + 1 < 256) : E16 (updB (zl b j) (15 - j) (BitVec.ofNat 8 ((b (15 - j)).toNat + 1))) (ctr b 1) := by
  refine put4_of b _ _ (fun k hk => ?_) ?_
  · unfold updB zl
    have e1 : ¬ k = 15 - j := by omega
    have e2 : ¬ 16 - j ≤ k := by omega
    simp [e1, e2]
  · have h0 := (b 12).isLt
    have h1 := (b 13).isLt
    have h2 := (b 14).isLt
    have h3 := (b 15).isLt
    have : j = 0 ∨ j = 1 ∨ j = 2 ∨ j = 3 := by omega
    rcases this with rfl | rfl | rfl | rfl
    · simp [num4, updB, zl] at h ⊢
      omega
    · have g3 := hf 15 (by omega) (by omega)
      simp [num4, updB, zl] at h ⊢
      omega
    · have g3 := hf 15 (by omega) (by omega)
      have g2 := hf 14 (by omega) (by omega)
      simp [num4, updB, zl] at h ⊢
      omega
    · have g3 := hf 15 (by omega) (by omega)
      have g2 := hf 14 (by omega) (by omega)
      have g1 := hf 13 (by omega) (by omega)
      simp [num4, updB, zl] at h ⊢
      omega

theorem carry_out (b : Nat → By) (hf : fulls b 4) : E16 (zl b 4) (ctr b 1) := by
  refine put4_of b _ _ (fun k hk => ?_) ?_
  · unfold zl
    have e2 : ¬ 16 - 4 ≤ k := by omega
    simp [e2]
  · have g3 := hf 15 (by omega) (by omega)
    have g2 := hf 14 (by omega) (by omega)
    have g1 := hf 13 (by omega) (by omega)
    have g0 := hf 12 (by omega) (by omega)
    simp [num4, zl] at g0 g1 g2 g3 ⊢
    omega

theorem zl_step (b : Nat → By) (j : Nat) (hj : j < 4) (h : (b (15 - j)).toNat = 255) : updB (zl b j) (15 - j) 0#8 = zl b (j + 1) := by
  funext k
  unfold updB zl
  by_cases e : k = 15 - j
  · subst e
    have : 16 - (j + 1) ≤ 15 - j := by omega
    simp
  · have : 16 - (j + 1) ≤ k ↔ 16 - j ≤ k := by omega
    rw [if_neg e]
    simp only [this]

set_option maxRecDepth 100000 in
theorem counted_any (b : Nat → By) (w : World) : Calls Tryz.prog 61 #[.agg (ba 16 b)] w fun r w' => r = .returned (.agg (ba 16 (ctr b 1))) ∧ Chg w w' := by
  have hsA := ba_size 16 b
  obtain ⟨A, hA⟩ : ∃ A, A = ba 16 b := ⟨_, rfl⟩
  have HA : Hid (A = ba 16 b) := hA
  rw [← hA] at hsA ⊢
  clear hA
  have hz := zero32.1
  go_enter Tryz.func61, Tryz.ntmps61
  go_wp2_with fail
  obtain ⟨w3, hw3⟩ : ∃ w3, w3 = (w.alloc (.cells A 62)).alloc (.cells (ba 16 zB) 62) := ⟨_, rfl⟩
  rw [← hw3]
  have z0 : Hid (Chg w w3 ∧ Ar w3 w.heap.size A ∧ Ar w3 (w.heap.size + 1) (ba 16 zB)) := by
    rw [hw3]
    exact ⟨((Chg.refl w).alloc _).alloc _, (Ar.new w _ _).alloc _, Ar.new1 w _ _ _⟩
  clear hw3
  go_loopw [3] (fun v wr => ∃ (j : Nat), v = .int .i64 (15 - (j : Int)) ∧ j ≤ 4 ∧ fulls b j ∧ Chg w wr ∧ Ar wr w.heap.size (ba 16 (zl b j)) ∧ Ar wr (w.heap.size + 1) (ba 16 zB)) (fun v wr => (intOf v).toNat)
  case atStart =>
    obtain ⟨z1, z2, z3⟩ := z0.out
    rw [HA.out] at z2
    refine ⟨0, rfl, by omega, fun k h1 h2 => by omega, z1, ?_, z3⟩
    have e : ba 16 (zl b 0) = ba 16 b := ba_congr fun i hi => by
      have : ¬ 16 - 0 ≤ i := by omega
      simp [zl, this]
    rw [e]
    exact z2
  case round =>
    clear z0 hsA hz
    obtain ⟨j, rfl, hj, hf, hch, h1, h2⟩ := hrel
    have H : Hid (Chg w wr ∧ Ar wr w.heap.size (ba 16 (zl b j)) ∧ Ar wr (w.heap.size + 1) (ba 16 zB) ∧ fulls b j) := ⟨hch, h1, h2, hf⟩
    obtain ⟨i, hi⟩ : ∃ i : Nat, (15 : Int) - j = i := ⟨15 - j, by omega⟩
    rw [hi]
    have HI : Hid (i = 15 - j) := by show i = _; omega
    by_cases h4 : j < 4
    · have hd : decide ((12 : Int) ≤ i) = true := by simp; omega
      have li : (i : Int) < 16 := by omega
      have wi := wrap_i (x := (i : Int)) (by omega) (by omega)
      have c1 := (h1.cell i).trans (ba_get 16 _ (by omega))
      have f1 := h1.frozen i
      have e0 : zl b j i = b i := by
        have : ¬ 16 - j ≤ i := by omega
        simp [zl, this]
      rw [e0] at c1
      obtain ⟨X, hX⟩ : ∃ X, X = (b i).toNat := ⟨_, rfl⟩
      rw [← hX] at c1
      have lX : X < 256 := by rw [hX]; exact (b i).isLt
      have HX : Hid (X = (b i).toNat) := hX
      obtain ⟨Y, hY⟩ : ∃ Y : Nat, ((X : Int) + 1) % 256 = Y := ⟨(X + 1) % 256, by omega⟩
      have hY2 : IntKind.u8.wrap ((X : Int) + 1) = Y := by rw [IntKind.wrap_u8]; exact hY
      have HY : Hid ((((X : Int) + 1) % 256 = Y)) := hY
      clear hch h1 h2 hf hX e0
      by_cases hover : X = 255
      · have hY0 : Y = 0 := by omega
        subst hY0
        go_wp2_with fail
        go_roundw
        case rel =>
          obtain ⟨k0, k1, k2, k3⟩ := H.out
          have hx : (b (15 - j)).toNat = 255 := by rw [← HI.out, ← HX.out]; exact hover
          refine ⟨j + 1, ?_, by omega, ?_, k0.setCell (by dsimp only; omega) _, ?_, k2.other (by dsimp only; omega) _⟩
          · go_num
          · intro k h1 h2
            by_cases e : k = 15 - j
            · rw [e]; exact hx
            · exact k3 k (by omega) h2
          · have hh := k1.set i (.int .u8 ((0#8 : By).toNat : Int))
            rw [ba_set, HI.out, zl_step b j h4 hx] at hh
            have e := HI.out
            rw [e]
            exact hh
        case measure => simp [intOf]; omega
      · have hYn : ((Y : Int) == 0) = false := by simp; omega
        obtain ⟨k0, k1, k2, k3⟩ := H.out
        have hh := k1.set i (.int .u8 (Y : Int))
        have hY' : Y = (b (15 - j)).toNat + 1 := by rw [← HI.out, ← HX.out]; omega
        have hY8 : (Y : Int) = ((BitVec.ofNat 8 ((b (15 - j)).toNat + 1)).toNat : Int) := by
          rw [BitVec.toNat_ofNat, hY']
          have : (b (15 - j)).toNat + 1 < 256 := by omega
          omega
        have hE := carry_on b j h4 k3 (by omega)
        obtain ⟨g, hg⟩ : ∃ g, g = ctr b 1 := ⟨_, rfl⟩
        have HG : Hid (g = ctr b 1) := hg
        rw [hY8, ba_set, HI.out, ba_congr hE, ← hg, ← hY8, ← HI.out] at hh
        clear hg hE hY8 hY'
        have K0 : Hid (Chg w wr) := k0
        have K2 : Hid (Ar (wr.setCell ⟨w.heap.size, i, none⟩ (.int .u8 (Y : Int))) (w.heap.size + 1) (ba 16 zB)) := k2.other (by dsimp only; omega) _
        obtain ⟨t1, g1⟩ := hh
        obtain ⟨t3, g3⟩ := K2.out
        have hsz := szB g zero32.2
        have hlen := lenB 16 zB g
        have hone := ba_one 16 g
        clear k0 k1 k2 k3
        go_wp2_with (first | refine wpList_load_row rfl 62 _ rfl _ rfl _ _ _ _ g1 und32 rfl hsz ?_ | refine wpList_store_row rfl 62 _ _ rfl _ _ rfl rfl _ _ g3 hsz hlen hone ?_)
        refine bp_c (n := 16) (c := ba 16 g) Tryz.results61 rfl rfl ?_ und32 i32 (ba_size _ _) ⟨by rw [HG.out], ?_⟩
        · exact K2.out.row _
        · exact (K0.out.setCell (by dsimp only; omega) _).setRow (by omega) _
    · have : j = 4 := by omega
      subst this
      obtain ⟨k0, k1, k2, k3⟩ := H.out
      have hd : decide ((12 : Int) ≤ i) = false := by simp; omega
      rw [ba_congr (carry_out b k3)] at k1
      obtain ⟨g, hg⟩ : ∃ g, g = ctr b 1 := ⟨_, rfl⟩
      rw [← hg] at k1
      have HG : Hid (g = ctr b 1) := hg
      clear hg h1 h2 hf hch
      have K2 : Hid (Ar wr (w.heap.size + 1) (ba 16 zB)) := k2
      obtain ⟨t1, g1⟩ := k1
      obtain ⟨t3, g3⟩ := k2
      have hsz := szB g zero32.2
      have hlen := lenB 16 zB g
      have hone := ba_one 16 g
      have K0 : Hid (Chg w wr) := k0
      clear k0 H k3
      go_wp2_with (first | refine wpList_load_row rfl 62 _ rfl _ rfl _ _ _ _ g1 und32 rfl hsz ?_ | refine wpList_store_row rfl 62 _ _ rfl _ _ rfl rfl _ _ g3 hsz hlen hone ?_)
      refine bp_c (n := 16) (c := ba 16 g) Tryz.results61 rfl rfl ?_ und32 i32 (ba_size _ _) ⟨by rw [HG.out], ?_⟩
      · exact K2.out.row _
      · exact K0.out.setRow (by omega) _
end Go.Proofs.YtobglgddbhddnaaGreat

namespace Go.Proofs.YtobglgddbhddnaaGreat
open Go.RowKit
set_option linter.unusedVariables false

/-- A text, streamed. -/
def stF (R : Nat) (k at' txt : Nat → By) : Nat → By := fun i => txt i ^^^ pad R k at' i
theorem pad_at (R : Nat) (k at' : Nat → By) {m i : Nat} (hi : i < 16) : pad R k at' (16 * m + i) = enc R k (ctr at' m) i := by
  unfold pad
  rw [show (16 * m + i) / 16 = m by omega, show (16 * m + i) % 16 = i by omega]

/-- What stands while a text is streamed. -/
structure StS (w wr : World) (Bx g n : Nat) (c F : Nat → By) (p : Nat) : Prop where
  chg : Chg w wr
  at' : Ar wr w.heap.size (ba 16 c)
  box : Ar wr Bx (ba 256 sbF)
  out : Ar wr g (ba n (upTo p F zB))
  lo : w.heap.size < Bx
  lt : Bx < g
theorem StS.to {w wr u : World} {Bx g n p : Nat} {c F : Nat → By} (h : StS w wr Bx g n c F p) (k : Chg wr u) : StS w u Bx g n c F p := ⟨h.chg.trans k, h.at'.chg k, h.box.chg k, h.out.chg k, h.lo, h.lt⟩

set_option maxRecDepth 100000 in
set_option maxHeartbeats 4000000 in
theorem streamNil_any (K R : Nat) (k at' txt : Nat → By) (ao : Option Addr) (cap : Nat) (w : World) :
    Calls Tryz.prog 42 #[.pointer (some ⟨K, 0, none⟩), .agg (ba 16 at'), .slice ao 0 cap] w fun r w' => ∃ g, r = .returned (.slice (some ⟨g, 0, none⟩) 0 0) ∧ w.heap.size ≤ g ∧ Chg w w' ∧ Ar w' g (ba 0 (stF R k at' txt)) := by
  have hsA := ba_size 16 at'
  obtain ⟨A, hA⟩ : ∃ A, A = ba 16 at' := ⟨_, rfl⟩
  rw [← hA] at hsA ⊢
  clear hA
  have hz2 := zero47.1
  have hmk : ∀ u, (Instr.makeSlice 24 (.int .i64 0) (.int .i64 0)).run Tryz.prog u = .ok (.slice (some ⟨u.heap.size, 0, none⟩) 0 0) (u.alloc (.cells (ba 0 zB) 5)) := mk22 0 (by decide)
  have hsz := szB sbF zero47.2
  have hlen := lenB 256 zB sbF
  have hone := ba_one 256 sbF
  obtain ⟨T, hT⟩ : ∃ T, T = ba 256 sbF := ⟨_, rfl⟩
  have HB : Hid (∀ u, Calls Tryz.prog 59 #[] u fun r w' => r = .returned (.agg T) ∧ Chg u w') := by rw [hT]; exact boxes_any
  rw [← hT] at hsz hlen hone
  clear hT
  go_enter Tryz.func42, Tryz.ntmps42
  go_wp2_with (first | (go_at_call 59; refine (HB.out _).mono ?_; rintro r w1 ⟨rfl, hc1⟩) | refine wpList_store_row rfl 65 _ _ rfl _ _ rfl rfl _ _ (heap_alloc_last w1 _) hsz hlen hone ?_)
  go_loopw [9] (fun v wr => v = .int .i64 0 ∧ wr = ((w1.alloc (.cells (ba 256 zB) 65)).setRow w1.heap.size T).alloc (.cells (ba 0 zB) 5)) (fun v wr => 0)
  case atStart => exact ⟨rfl, rfl⟩
  case round =>
    obtain ⟨rfl, rfl⟩ := hrel
    go_wp2
    go_ret
    have hs : ((w1.alloc (.cells (ba 256 zB) 65)).setRow w1.heap.size T).heap.size = w1.heap.size + 1 := by simp [World.setRow]
    have h1 := ((Chg.refl w).alloc (.cells A 62)).trans hc1
    refine ⟨w1.heap.size + 1, rfl, by have := h1.size; omega, ((h1.alloc _).setRow h1.size _).alloc _, ?_⟩
    have := Ar.new ((w1.alloc (.cells (ba 256 zB) 65)).setRow w1.heap.size T) (ba 0 zB) 5
    rw [hs] at this
    exact this

set_option maxRecDepth 100000 in
set_option maxHeartbeats 4000000 in
theorem stream_any (K R tb tt n cap : Nat) (k at' txt : Nat → By) (w : World) (hK : Ar w K (keyC R k)) (hR : R = 10 ∨ R = 14) (ht : Bs w tb tt n txt) (hn : 0 < n) (hn' : n ≤ 140737488351232) :
    Calls Tryz.prog 42 #[.pointer (some ⟨K, 0, none⟩), .agg (ba 16 at'), .slice (some ⟨tb, tt, none⟩) n cap] w fun r w' => ∃ g, r = .returned (.slice (some ⟨g, 0, none⟩) n n) ∧ w.heap.size ≤ g ∧ Chg w w' ∧ Ar w' g (ba n (stF R k at' txt)) := by
  have hsA := ba_size 16 at'
  obtain ⟨A, hA⟩ : ∃ A, A = ba 16 at' := ⟨_, rfl⟩
  have HA : Hid (A = ba 16 at') := hA
  rw [← hA] at hsA ⊢
  clear hA
  have HX : Hid (Ar w K (keyC R k) ∧ (R = 10 ∨ R = 14) ∧ Bs w tb tt n txt) := ⟨hK, hR, ht⟩
  clear hK hR ht
  have hz := zero32.1
  have hz2 := zero47.1
  have hmk := mk22 n (by omega)
  have hsz := szB sbF zero47.2
  have hlen := lenB 256 zB sbF
  have hone := ba_one 256 sbF
  obtain ⟨T, hT⟩ : ∃ T, T = ba 256 sbF := ⟨_, rfl⟩
  have HT : Hid (T = ba 256 sbF) := hT
  have HB : Hid (∀ u, Calls Tryz.prog 59 #[] u fun r w' => r = .returned (.agg T) ∧ Chg u w') := by rw [hT]; exact boxes_any
  rw [← hT] at hsz hlen hone
  clear hT
  go_enter Tryz.func42, Tryz.ntmps42
  go_wp2_with (first | (go_at_call 59; refine (HB.out _).mono ?_; rintro r w1 ⟨rfl, hc1⟩) | refine wpList_store_row rfl 65 _ _ rfl _ _ rfl rfl _ _ (heap_alloc_last w1 _) hsz hlen hone ?_)
  obtain ⟨Bx, hBx⟩ : ∃ Bx, Bx = w1.heap.size := ⟨_, rfl⟩
  obtain ⟨g, hg⟩ : ∃ g, g = w1.heap.size + 1 := ⟨_, rfl⟩
  obtain ⟨w3, hw3⟩ : ∃ w3, w3 = ((w1.alloc (.cells (ba 256 zB) 65)).setRow w1.heap.size T).alloc (.cells (ba n zB) 5) := ⟨_, rfl⟩
  obtain ⟨F, hF⟩ : ∃ F, F = stF R k at' txt := ⟨_, rfl⟩
  have HF : Hid (F = stF R k at' txt) := hF
  have Z3 : Hid (StS w w3 Bx g n (ctr at' 0) F 0) := by
    rw [hw3, hBx, hg]
    have k0 : Ar (w.alloc (.cells A 62)) w.heap.size (ba 16 at') := by rw [HA.out]; exact Ar.new w _ _
    have h1 := ((Chg.refl w).alloc (.cells A 62)).trans hc1
    have k1 := k0.chg hc1
    have hl := k1.lt
    have hs : ((w1.alloc (.cells (ba 256 zB) 65)).setRow w1.heap.size T).heap.size = w1.heap.size + 1 := by simp [World.setRow]
    refine ⟨((h1.alloc _).setRow h1.size _).alloc _, ?_, ?_, ?_, hl, by omega⟩
    · rw [ba_congr (ctr_zero at')]
      exact ((k1.alloc _).rowOther (by omega) _).alloc _
    · rw [← HT.out]
      exact ((Ar.new w1 _ _).row _).alloc _
    · rw [upTo_zero]
      have := Ar.new ((w1.alloc (.cells (ba 256 zB) 65)).setRow w1.heap.size T) (ba n zB) 5
      rwa [hs] at this
  rw [← hw3, ← hg, ← hBx]
  clear hw3 hg hBx hc1 hsz hlen hone hz2 hmk HB hsA hF
  go_loopw [9] (fun v wr => ∃ (m : Nat), v = .int .i64 ((16 * m : Nat) : Int) ∧ 16 * m ≤ n + 16 ∧ StS w wr Bx g n (ctr at' m) F (16 * m)) (fun v wr => n - (intOf v).toNat)
  case atStart => exact ⟨0, rfl, by omega, Z3.out⟩
  case round =>
    clear Z3
    obtain ⟨m, rfl, hm, hz3⟩ := hrel
    have Z : Hid (StS w wr Bx g n (ctr at' m) F (16 * m)) := hz3
    clear hz3
    obtain ⟨fr, hfr⟩ : ∃ fr : Nat, fr = 16 * m := ⟨_, rfl⟩
    rw [← hfr]
    have HFR : Hid (fr = 16 * m) := hfr
    have hfn : fr ≤ n + 16 := by omega
    clear hfr hm
    by_cases hlt : fr < n
    · have hd : decide ((fr : Int) < n) = true := by simp; omega
      have lfr : (fr : Int) < n := by omega
      obtain ⟨c, hc⟩ : ∃ c, c = ctr at' m := ⟨_, rfl⟩
      have HC : Hid (c = ctr at' m) := hc
      rw [← hc] at Z
      obtain ⟨P, hP⟩ : ∃ P, P = enc R k c := ⟨_, rfl⟩
      have HP : Hid (P = enc R k c) := hP
      have HE : Hid (Calls Tryz.prog 60 #[.pointer (some ⟨K, 0, none⟩), .pointer (some ⟨Bx, 0, none⟩), .agg (ba 16 c)] wr fun r w' => r = .returned (.agg (ba 16 P)) ∧ Chg wr w') := by
        rw [hP]
        exact encrypted_any K Bx R k c wr (HX.out.1.chg Z.out.chg) Z.out.box HX.out.2.1
      obtain ⟨tA, gA⟩ := Z.out.at'
      have hszc := szB c zero32.2
      have hszP := szB P zero32.2
      have hlenP := lenB 16 zB P
      have honeP := ba_one 16 P
      obtain ⟨rest, hrest⟩ : ∃ rest : Nat, (n : Int) - fr = rest := ⟨n - fr, by omega⟩
      have wrest := wrap_i (x := (rest : Int)) (by omega) (by omega)
      obtain ⟨q, hq⟩ : ∃ q : Nat, q = min 16 rest := ⟨_, rfl⟩
      have hmin : min (16 : Int) (rest : Int) = q := by omega
      have HQ : Hid (rest = n - fr ∧ q = min 16 rest) := ⟨by omega, hq⟩
      have hq16 : q ≤ 16 := by omega
      have hqr : fr + q ≤ n := by omega
      clear hc hP hq
      go_upto_region 7 with (first | refine wpList_load_row rfl 62 _ rfl _ rfl _ _ _ _ gA und32 rfl hszc ?_ | (go_at_call 60; refine HE.out.mono ?_; rintro r w4 ⟨rfl, hc4⟩) | refine wpList_store_row rfl 62 _ _ rfl _ _ rfl rfl _ _ (heap_alloc_last w4 _) hszP hlenP honeP ?_)
      obtain ⟨pb, hpb⟩ : ∃ pb, pb = w4.heap.size := ⟨_, rfl⟩
      obtain ⟨w5, hw5⟩ : ∃ w5, w5 = (w4.alloc (.cells (ba 16 zB) 62)).setRow w4.heap.size (ba 16 P) := ⟨_, rfl⟩
      have Z5 : Hid (StS w w5 Bx g n c F fr ∧ Ar w5 pb (ba 16 P) ∧ g < pb) := by
        have h4 := Z.out.to hc4
        rw [← HFR.out] at h4
        have e1 := h4.at'.lt
        have e2 := h4.box.lt
        have e3 := h4.out.lt
        rw [hw5, hpb]
        exact ⟨⟨(h4.chg.alloc _).setRow h4.chg.size _, (h4.at'.alloc _).rowOther (by omega) _, (h4.box.alloc _).rowOther (by omega) _, (h4.out.alloc _).rowOther (by omega) _, h4.lo, h4.lt⟩, (Ar.new w4 _ _).row _, e3⟩
      rw [← hw5, ← hpb]
      clear hw5 hpb hc4 gA hszc hszP hlenP honeP HE hz
      dsimp only [Act.put]
      go_cut [29, 30] from 25 to 28 (fun v29 v30 wc => v29 = .int .i64 (q : Int) ∧ v30 = .int .i64 0 ∧ wc = w5)
      case first =>
        go_wp2_with fail
        all_goals go_meet
        all_goals
          refine ⟨?_, rfl, rfl⟩
          first
            | rw [← hmin, Int.min_eq_right (by omega)]
            | rw [← hmin, Int.min_eq_left (by omega)]
      obtain ⟨rfl, rfl, hwc⟩ := hcut
      rw [hwc]
      clear hwc
      go_wp2_with fail
      go_loopw [30] (fun v wr => ∃ (i : Nat), v = .int .i64 i ∧ i ≤ q ∧ StS w wr Bx g n c F (fr + i) ∧ Ar wr pb (ba 16 P)) (fun v wr => q - (intOf v).toNat)
      case atStart => exact ⟨0, rfl, by omega, Z5.out.1, Z5.out.2.1⟩
      case round =>
        obtain ⟨i, rfl, hi, hz6, hp6⟩ := hrel
        have Z6 : Hid (StS w wr Bx g n c F (fr + i) ∧ Ar wr pb (ba 16 P)) := ⟨hz6, hp6⟩
        by_cases hiq : i < q
        · have hd2 : decide ((i : Int) < q) = true := by simp; omega
          have li : (i : Int) < 16 := by omega
          obtain ⟨fi, hfi⟩ : ∃ fi : Nat, (fr : Int) + i = fi := ⟨fr + i, by omega⟩
          have wfi := wrap_i (x := (fi : Int)) (by omega) (by omega)
          have lfi : (fi : Int) < n := by omega
          have lfi' : fi < n := by omega
          have c1 := (HX.out.2.2.chg hz6.chg) fi lfi'
          have c2 := (hp6.cell i).trans (ba_get 16 P (by omega))
          have c3 := (hz6.out.cell fi).trans (ba_get n _ lfi')
          have f3 := hz6.out.frozen fi
          obtain ⟨x1, hx1⟩ : ∃ x, x = txt fi := ⟨_, rfl⟩
          obtain ⟨x2, hx2⟩ : ∃ x, x = P i := ⟨_, rfl⟩
          obtain ⟨x3, hx3⟩ : ∃ x, x = upTo (fr + i) F zB fi := ⟨_, rfl⟩
          rw [← hx1] at c1
          rw [← hx2] at c2
          rw [← hx3] at c3
          obtain ⟨y, Hy, ey⟩ := nameXor x1 x2
          have HY : Hid (y = F fi ∧ fi = fr + i) := by
            refine ⟨?_, by omega⟩
            have e : fi = 16 * m + i := by have := HFR.out; omega
            rw [Hy.out, HF.out, stF, hx1, hx2, e, pad_at R k at' (by omega), HP.out, HC.out]
          clear hx1 hx2 hx3 hz6 hp6 Hy
          go_wp2_with fail
          go_region_with (fail)
          all_goals go_wp2
          all_goals
            go_roundw
            case rel =>
              obtain ⟨k1, k2⟩ := Z6.out
              have h1 := k1.lo
              have h2 := k1.lt
              have h3 := Z5.out.2.2
              refine ⟨i + 1, by go_num, by omega, ⟨(k1.chg.setCell (by dsimp only; omega) _).drew, (k1.at'.other (by dsimp only; omega) _).drew, (k1.box.other (by dsimp only; omega) _).drew, ?_, h1, h2⟩, (k2.other (by dsimp only; omega) _).drew⟩
              have hh := k1.out.set fi (.int .u8 (y.toNat : Int))
              rw [ba_set, HY.out.1, HY.out.2, upTo_upd (fr + i) F zB] at hh
              rw [HY.out.1, HY.out.2]
              exact hh.drew
            case measure => simp [intOf]; omega
        · have hiq2 : i = q := by omega
          subst hiq2
          have hd2 : decide ((i : Int) < i) = false := by simp
          clear hz6 hp6
          obtain ⟨tA, gA⟩ := Z6.out.1.at'
          have hszc := szB c zero32.2
          obtain ⟨c2, hc2⟩ : ∃ c2, c2 = ctr c 1 := ⟨_, rfl⟩
          have HC2 : Hid (ba 16 c2 = ba 16 (ctr at' (m + 1))) := by
            show ba 16 c2 = _
            rw [hc2, HC.out]
            exact ba_congr (ctr_ctr at' m 1)
          have HN : Hid (Calls Tryz.prog 61 #[.agg (ba 16 c)] wr fun r w' => r = .returned (.agg (ba 16 c2)) ∧ Chg wr w') := by rw [hc2]; exact counted_any c wr
          have hsz2 := szB c2 zero32.2
          have hlen2 := lenB 16 c c2
          have hone2 := ba_one 16 c2
          clear hc2
          go_wp2_with (first | refine wpList_load_row rfl 62 _ rfl _ rfl _ _ _ _ gA und32 rfl hszc ?_)
          go_at_call 61
          refine HN.out.mono ?_
          rintro r w7 ⟨rfl, hc7⟩
          have Z7 : Hid (StS w w7 Bx g n c F (fr + i)) := Z6.out.1.to hc7
          obtain ⟨tB, gB⟩ := Z7.out.at'
          clear hc7 gA hszc HN
          go_wp2_with (first | refine wpList_store_row rfl 62 _ _ rfl _ _ rfl rfl _ _ gB hsz2 hlen2 hone2 ?_)
          go_roundw
          case rel =>
            have k1 := Z7.out
            have h1 := k1.lo
            have h2 := k1.lt
            have hq := HQ.out
            have hf := HFR.out
            refine ⟨m + 1, by rw [hf]; go_num, by omega, ⟨k1.chg.setRow (Nat.le_refl _) _, ?_, k1.box.rowOther (by omega) _, ?_, h1, h2⟩⟩
            · rw [← HC2.out]
              exact k1.at'.row _
            · have e : ba n (upTo (16 * (m + 1)) F zB) = ba n (upTo (fr + i) F zB) := ba_congr fun j hj => by
                unfold upTo
                by_cases e1 : j < 16 * (m + 1)
                · have e2 : j < fr + i := by omega
                  simp [e1, e2]
                · have e2 : ¬ j < fr + i := by omega
                  simp [e1, e2]
              rw [e]
              exact k1.out.rowOther (by omega) _
          case measure => simp [intOf]; omega
    · have hd : decide ((fr : Int) < n) = false := by simp; omega
      go_wp2
      go_ret
      have k1 := Z.out
      have h1 := k1.lo
      have h2 := k1.lt
      have hf := HFR.out
      refine ⟨g, rfl, by omega, k1.chg, ?_⟩
      have e : ba n (upTo (16 * m) F zB) = ba n (stF R k at' txt) := ba_congr fun j hj => by
        have e1 : j < 16 * m := by omega
        simp only [upTo, e1, if_true, HF.out]
      rw [← e]
      exact k1.out
end Go.Proofs.YtobglgddbhddnaaGreat

namespace Go.Proofs.YtobglgddbhddnaaGreat
open Go.RowKit
set_option linter.unusedVariables false

theorem streamV_any (K R n : Nat) (k at' txt : Nat → By) (v : Value) (w : World) (hK : Ar w K (keyC R k)) (hR : R = 10 ∨ R = 14) (hv : Ap.Rd w v (nums n txt)) (hn' : n ≤ 140737488351232) :
    Calls Tryz.prog 42 #[.pointer (some ⟨K, 0, none⟩), .agg (ba 16 at'), v] w fun r w' => ∃ g, r = .returned (.slice (some ⟨g, 0, none⟩) n n) ∧ w.heap.size ≤ g ∧ Chg w w' ∧ Ar w' g (ba n (stF R k at' txt)) := by
  by_cases h : n = 0
  · subst h
    obtain ⟨ao, m, c, rfl, hm, _⟩ := hv.shape
    rw [nums_len] at hm
    subst hm
    exact streamNil_any K R k at' txt ao c w
  · obtain ⟨b, o, c, rfl, h1, h2, h3⟩ := Rd.bs hv (by omega)
    exact stream_any K R b o n c k at' txt w hK hR h3 (by omega) hn'

theorem addr_add (b o i : Nat) : (⟨b, o, none⟩ : Addr).add i = ⟨b, o + i, none⟩ := by unfold Addr.add; split <;> simp_all
theorem addr_spot {a : Addr} (h : (a.add 0).spot = none) : a.spot = none := by
  unfold Addr.add at h
  split at h
  · exact h
  · rename_i h0
    exact absurd rfl h0

theorem run_sliceHi (ao : Option Addr) (n cap p : Nat) (hp : p ≤ cap) (hc : cap ≤ 9223372036854775807) : ∃ ao', (∀ w, (Instr.slice 24 (.slice ao n cap) none (some (.int .i64 (p : Int))) none).run Tryz.prog w = .ok (.slice ao' p cap) w) ∧ ∀ u txt, Ap.Rd u (.slice ao n cap) (nums n txt) → p ≤ n → Ap.Rd u (.slice ao' p cap) (nums p txt) := by
  refine ⟨if cap = 0 then ao else ao.map (·.add 0), fun w => ?_, fun u txt h hpn => ?_⟩
  · have h1 : (p : Int) ≤ cap := by omega
    simp [Instr.slice, Instr.sliceBounds, Instr.sliceBound, run_underlying u22, asIntOf, Sem.run_bind, hp]
  · obtain ⟨ao2, m, c, hv, hm, hc2, hmx, h0, hx⟩ := h
    injection hv with e1 e2 e3
    subst e1 e2 e3
    refine ⟨_, p, _, rfl, (nums_len p txt).symm, hp, hmx, fun e => ?_, fun x e j y hj => ?_⟩
    · by_cases hc0 : cap = 0
      · exact hc0
      · rw [if_neg hc0] at e
        cases ao with
        | none => exact absurd (h0 rfl) hc0
        | some a => cases e
    · have hj' : j < p := by
        have := (List.getElem?_eq_some_iff.1 hj).1
        rwa [nums_len] at this
      rw [nums_get p txt hj'] at hj
      by_cases hc0 : cap = 0
      · omega
      · rw [if_neg hc0] at e
        cases ao with
        | none => cases e
        | some a =>
          injection e with e
          subst e
          have := hx a rfl j y (by rw [nums_get n txt (by omega)]; exact hj)
          have hs' := addr_spot (spot_none (hx a rfl 0 _ (nums_get n txt (by omega))))
          obtain ⟨b, o, sp⟩ := a
          dsimp only at hs'
          subst hs'
          show u.cell? (((⟨b, o, none⟩ : Addr).add 0).add j) = _
          rw [addr_add, Nat.add_zero]
          exact this

theorem run_sliceLo (ao : Option Addr) (n cap p : Nat) (hp : p ≤ n) (hn : n ≤ cap) (hc : cap ≤ 9223372036854775807) : ∃ ao', (∀ w, (Instr.slice 24 (.slice ao n cap) (some (.int .i64 (p : Int))) none none).run Tryz.prog w = .ok (.slice ao' (n - p) (cap - p)) w) ∧ ∀ u txt, Ap.Rd u (.slice ao n cap) (nums n txt) → Ap.Rd u (.slice ao' (n - p) (cap - p)) (nums (n - p) fun i => txt (p + i)) := by
  refine ⟨if cap = p then ao else ao.map (·.add p), fun w => ?_, fun u txt h => ?_⟩
  · have h1 : (p : Int) ≤ n := by omega
    simp [Instr.slice, Instr.sliceBounds, Instr.sliceBound, run_underlying u22, asIntOf, Sem.run_bind, hp]
  · obtain ⟨ao2, m, c, hv, hm, hc2, hmx, h0, hx⟩ := h
    injection hv with e1 e2 e3
    subst e1 e2 e3
    have hmx' : cap ≤ 9223372036854775807 := hc
    refine ⟨_, n - p, _, rfl, (nums_len _ _).symm, by omega, by unfold maxLen at hmx ⊢; omega, fun e => ?_, fun x e j y hj => ?_⟩
    · by_cases hc0 : cap = p
      · omega
      · rw [if_neg hc0] at e
        cases ao with
        | none => have := h0 rfl; omega
        | some a => cases e
    · have hj' : j < n - p := by
        have := (List.getElem?_eq_some_iff.1 hj).1
        rwa [nums_len] at this
      rw [nums_get (n - p) _ hj'] at hj
      have hc0 : ¬ cap = p := by omega
      rw [if_neg hc0] at e
      cases ao with
      | none => cases e
      | some a =>
        injection e with e
        subst e
        have := hx a rfl (p + j) y (by rw [nums_get n txt (by omega)]; exact hj)
        have hs' := addr_spot (spot_none (hx a rfl 0 _ (nums_get n txt (by omega))))
        obtain ⟨b, o, sp⟩ := a
        dsimp only at hs'
        subst hs'
        show u.cell? (((⟨b, o, none⟩ : Addr).add p).add j) = _
        rw [addr_add, addr_add, Nat.add_assoc]
        rw [addr_add] at this
        exact this

theorem nums_split (n p : Nat) (f : Nat → By) (hp : p ≤ n) : nums n f = nums p f ++ nums (n - p) (fun i => f (p + i)) := by
  apply List.ext_getElem?
  intro j
  by_cases h1 : j < p
  · rw [List.getElem?_append_left (by rw [nums_len]; exact h1), nums_get p f h1, nums_get n f (by omega)]
  · rw [List.getElem?_append_right (by rw [nums_len]; omega), nums_len]
    by_cases h2 : j < n
    · rw [nums_get n f h2, nums_get (n - p) _ (by omega), show p + (j - p) = j by omega]
    · rw [List.getElem?_eq_none (by rw [nums_len]; omega), List.getElem?_eq_none (by rw [nums_len]; omega)]

/-- The number that four bytes tell. -/
theorem or4 (a b c d : By) : Go.bits .or .u32 (Go.bits .or .u32 (Go.bits .or .u32 ((a.toNat : Int) * 16777216) ((b.toNat : Int) * 65536)) ((c.toNat : Int) * 256)) (d.toNat : Int) = ((a.toNat * 16777216 + b.toNat * 65536 + c.toNat * 256 + d.toNat : Nat) : Int) := by
  have ha := a.isLt
  have hb := b.isLt
  have hc := c.isLt
  have hd := d.isLt
  have w : ∀ n : Int, 0 ≤ n → n < 2 ^ 32 → IntKind.u32.wrap n = n := fun n h0 h1 => by rw [IntKind.wrap_u32]; omega
  have h1 : Go.bits .or .u32 ((a.toNat : Int) * 16777216) ((b.toNat : Int) * 65536) = (a.toNat : Int) * 16777216 + (b.toNat : Int) * 65536 :=
    bits_join .u32 32 (by decide) w 24 _ _ (by omega) (by show (_ : Int) % 16777216 = 0; omega) (by show (_ : Int) < 4294967296; omega) (by omega) (by show (_ : Int) < 16777216; omega) (by show (_ : Int) < 4294967296; omega)
  have h2 : Go.bits .or .u32 ((a.toNat : Int) * 16777216 + (b.toNat : Int) * 65536) ((c.toNat : Int) * 256) = (a.toNat : Int) * 16777216 + (b.toNat : Int) * 65536 + (c.toNat : Int) * 256 :=
    bits_join .u32 32 (by decide) w 16 _ _ (by omega) (by show (_ : Int) % 65536 = 0; omega) (by show (_ : Int) < 4294967296; omega) (by omega) (by show (_ : Int) < 65536; omega) (by show (_ : Int) < 4294967296; omega)
  have h3 : Go.bits .or .u32 ((a.toNat : Int) * 16777216 + (b.toNat : Int) * 65536 + (c.toNat : Int) * 256) (d.toNat : Int) = (a.toNat : Int) * 16777216 + (b.toNat : Int) * 65536 + (c.toNat : Int) * 256 + (d.toNat : Int) :=
    bits_join .u32 32 (by decide) w 8 _ _ (by omega) (by show (_ : Int) % 256 = 0; omega) (by show (_ : Int) < 4294967296; omega) (by omega) (by show (_ : Int) < 256; omega) (by show (_ : Int) < 4294967296; omega)
  rw [h1, h2, h3]
  omega
end Go.Proofs.YtobglgddbhddnaaGreat
