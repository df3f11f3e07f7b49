/-
  Same: are texts the same?
-/
import Derived.Test.YtlahfenjmpomhaaDoorMc
namespace Go.Proofs.YtlahfenjmpomhaaDoor
open Go.RowKit
set_option linter.unusedVariables false

def Byte (x : Int) : Prop := 0 ≤ x ∧ x < 256
theorem wraps_u8 : ∀ n : Int, 0 ≤ n → n < 2 ^ 8 → IntKind.u8.wrap n = n := by
  intro n h0 h1
  rw [IntKind.wrap_u8]
  omega
theorem xor8_nat (a b : Nat) (ha : a < 2 ^ 8) (hb : b < 2 ^ 8) : Go.bits .xor .u8 a b = ((a ^^^ b : Nat) : Int) := by
  have ha' : a % 2 ^ IntKind.u8.bits = a := Nat.mod_eq_of_lt ha
  have hb' : b % 2 ^ IntKind.u8.bits = b := Nat.mod_eq_of_lt hb
  have hl := Nat.xor_lt_two_pow ha hb
  simp only [bits, BitVec.ofInt_natCast, BitVec.toNat_xor, BitVec.toNat_ofNat, ha', hb']
  exact wraps_u8 _ (by omega) (by omega)
theorem xor8 {x y : Int} (hx : Byte x) (hy : Byte y) : Byte (Go.bits .xor .u8 x y) ∧ (Go.bits .xor .u8 x y = 0 ↔ x = y) := by
  obtain ⟨a, rfl⟩ : ∃ a : Nat, x = a := ⟨x.toNat, by have := hx.1; omega⟩
  obtain ⟨b, rfl⟩ : ∃ a : Nat, y = a := ⟨y.toNat, by have := hy.1; omega⟩
  have ha : a < 2 ^ 8 := by have := hx.2; omega
  have hb : b < 2 ^ 8 := by have := hy.2; omega
  have h := xor8_nat a b ha hb
  rw [h]
  have hl := Nat.xor_lt_two_pow ha hb
  refine ⟨⟨by omega, by omega⟩, ?_⟩
  constructor
  · intro e
    have e' : a ^^^ b = 0 := by omega
    have e2 : a ^^^ b ^^^ b = 0 ^^^ b := by rw [e']
    rw [Nat.xor_assoc, Nat.xor_self, Nat.xor_zero, Nat.zero_xor] at e2
    rw [e2]
  · intro e
    have e' : a = b := by omega
    rw [e', Nat.xor_self]
    rfl
theorem or8 {x y : Int} (hx : Byte x) (hy : Byte y) : Byte (Go.bits .or .u8 x y) ∧ (Go.bits .or .u8 x y = 0 ↔ x = 0 ∧ y = 0) := by
  obtain ⟨a, rfl⟩ : ∃ a : Nat, x = a := ⟨x.toNat, by have := hx.1; omega⟩
  obtain ⟨b, rfl⟩ : ∃ a : Nat, y = a := ⟨y.toNat, by have := hy.1; omega⟩
  have ha : a < 2 ^ 8 := by have := hx.2; omega
  have hb : b < 2 ^ 8 := by have := hy.2; omega
  have h := (bits_nat .u8 8 (by decide) wraps_u8 a b ha hb).2
  rw [h]
  have hl := Nat.or_lt_two_pow ha hb
  refine ⟨⟨by omega, by omega⟩, ?_⟩
  rw [show ((a ||| b : Nat) : Int) = 0 ↔ a ||| b = 0 by omega, Nat.or_eq_zero_iff]
  omega
theorem Rd.cell {w : World} {so : Option Addr} {n c : Nat} {xs : List Int} (h : Ap.Rd w (.slice so n c) xs) (hl : xs.length < 4611686018427387904) {i : Nat} (hi : i < xs.length) : ∃ g off, so = some ⟨g, off, none⟩ ∧ w.cell? ⟨g, off + i, none⟩ = some (.int .u8 (gd xs i)) := by
  rcases Rd.slA h hl with ⟨_, e⟩ | ⟨_, _, _, e⟩ | ⟨b, o, cap, e1, _, _, hb⟩
  · rw [e] at hi
    exact absurd hi (Nat.not_lt_zero i)
  · rw [e] at hi
    exact absurd hi (Nat.not_lt_zero i)
  · injection e1 with e1 _ _
    exact ⟨b, o, e1, hb i hi⟩

set_option maxRecDepth 100000 in
set_option maxHeartbeats 4000000 in
theorem same_any (va vb : Value) (a b : List Int) (w : World) (ha : Ap.Rd w va a) (hb : Ap.Rd w vb b) (ba : ∀ x ∈ a, Byte x) (bb : ∀ x ∈ b, Byte x) (hl : a.length < 4611686018427387904) :
    Calls Tryd.prog 15 #[va, vb] w fun r w' => r = .returned (.bool (decide (a = b))) ∧ Chg w w' := by
  obtain ⟨ao, n, ac, rfl, hn, -⟩ := ha.shape
  obtain ⟨bo, m, bc, rfl, hm, -⟩ := hb.shape
  have HX : Hid (Ap.Rd w (.slice ao n ac) a ∧ Ap.Rd w (.slice bo m bc) b ∧ (∀ x ∈ a, Byte x) ∧ (∀ x ∈ b, Byte x) ∧ n = a.length ∧ m = b.length) := ⟨ha, hb, ba, bb, hn, hm⟩
  have hnl : n < 4611686018427387904 := by omega
  clear ha hb ba bb hn hm hl
  by_cases hnm : n = m
  · subst hnm
    go_enter Tryd.func15, Tryd.ntmps15
    go_wp2_with fail
    go_loopw [14, 5] (fun v v5 wr => ∃ (i : Nat) (u : Int), v = .int .i64 i ∧ v5 = .int .u8 u ∧ i ≤ n ∧ Byte u ∧ (u = 0 ↔ a.take i = b.take i) ∧ Chg w wr) (fun v v5 wr => n - (intOf v).toNat)
    case atStart => exact ⟨0, 0, rfl, rfl, by omega, ⟨by decide, by decide⟩, by simp, Chg.refl w⟩
    case round =>
      obtain ⟨i, u, rfl, rfl, hi, hu, hiff, hch⟩ := hrel
      by_cases hin : i < n
      · have hid : decide ((i : Int) < n) = true := by simp; omega
        have li : (i : Int) < n := by omega
        have hia : i < a.length := by have := HX.out.2.2.2.2.1; omega
        have hib : i < b.length := by have := HX.out.2.2.2.2.2; omega
        obtain ⟨g, off, rfl, c0⟩ := Rd.cell (Rd.chg HX.out.1 hch) (by have := HX.out.2.2.2.2.1; omega) hia
        obtain ⟨g', off', rfl, c1⟩ := Rd.cell (Rd.chg HX.out.2.1 hch) (by have := HX.out.2.2.2.2.2; omega) hib
        obtain ⟨x, hx⟩ : ∃ x, x = gd a i := ⟨_, rfl⟩
        obtain ⟨y, hy⟩ : ∃ y, y = gd b i := ⟨_, rfl⟩
        rw [← hx] at c0
        rw [← hy] at c1
        have gx : x = a[i] := by rw [hx]; simp [gd, List.getD_eq_getElem?_getD, List.getElem?_eq_getElem hia]
        have gy : y = b[i] := by rw [hy]; simp [gd, List.getD_eq_getElem?_getD, List.getElem?_eq_getElem hib]
        have bx : Byte x := by rw [gx]; exact HX.out.2.2.1 _ (List.getElem_mem hia)
        have bY : Byte y := by rw [gy]; exact HX.out.2.2.2.1 _ (List.getElem_mem hib)
        have H : Hid (Byte (Go.bits .or .u8 u (Go.bits .xor .u8 x y)) ∧ (Go.bits .or .u8 u (Go.bits .xor .u8 x y) = 0 ↔ a.take (i + 1) = b.take (i + 1)) ∧ Chg w wr) := by
          obtain ⟨h1, h2⟩ := xor8 bx bY
          obtain ⟨h3, h4⟩ := or8 hu h1
          refine ⟨h3, ?_, hch⟩
          rw [h4, h2, hiff, gx, gy, List.take_add_one, List.take_add_one, List.getElem?_eq_getElem hia, List.getElem?_eq_getElem hib]
          constructor
          · rintro ⟨e1, e2⟩
            rw [e1, e2]
          · intro e
            have hl : (a.take i).length = (b.take i).length := by rw [List.length_take, List.length_take]; omega
            obtain ⟨e1, e2⟩ := List.append_inj e hl
            refine ⟨e1, ?_⟩
            simpa using e2
        clear hx hy gx gy bx bY hiff hu hch hia hib
        go_wp2_with fail
        go_quiet (fail)
        all_goals go_wp2
        all_goals
          go_roundw
          case rel => exact ⟨i + 1, _, by go_num, rfl, by omega, H.out.1, H.out.2.1, H.out.2.2.drewN _⟩
          case measure => simp [intOf]; omega
      · have hid : decide ((i : Int) < n) = false := by simp; omega
        have e : (u = 0) ↔ a = b := by
          rw [hiff, List.take_of_length_le (by have := HX.out.2.2.2.2.1; omega), List.take_of_length_le (by have := HX.out.2.2.2.2.2; omega)]
        have hd : decide (u = 0) = decide (a = b) := by simp [e]
        have HD : Hid (decide (u = 0) = decide (a = b) ∧ Chg w wr) := ⟨hd, hch⟩
        clear hd e hiff hch hu
        go_wp2
        go_ret
        refine ⟨?_, HD.out.2⟩
        rw [← HD.out.1]
        first | rfl | simp
  · have hnm' : ¬ (n : Int) = m := by omega
    have hd : decide (a = b) = false := by
      have := HX.out
      simp only [decide_eq_false_iff_not]
      intro e
      apply hnm
      rw [this.2.2.2.2.1, this.2.2.2.2.2, e]
    rw [hd]
    clear hd
    go_enter Tryd.func15, Tryd.ntmps15
    go_wp2_with fail
    go_ret
    exact ⟨rfl, Chg.refl w⟩
end Go.Proofs.YtlahfenjmpomhaaDoor
