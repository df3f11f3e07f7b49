/-
  The words of a key: the function words.
  A key made ready: the function New.
-/
import Derived.Test.YtobglgddbhddnaaGreatJ02
import Derived.Test.YtobglgddbhddnaaGreatJ04
import Derived.Test.YtobglgddbhddnaaGreatJ05
namespace Go.Proofs.YtobglgddbhddnaaGreat
open Go.RowKit
set_option linter.unusedVariables false

/-- What stands while words are made. -/
structure WdS (w wr : World) (Bx g C : Nat) (f : Nat → By) : Prop where
  chg : Chg w wr
  box : Ar wr Bx (ba 256 sbF)
  all : Ar wr g (ba (4 * C) f)
  lo : w.heap.size ≤ Bx
  lt : Bx < g
theorem WdS.to {w wr u : World} {Bx g C : Nat} {f : Nat → By} (h : WdS w wr Bx g C f) (k : Chg wr u) : WdS w u Bx g C f := ⟨h.chg.trans k, h.box.chg k, h.all.chg k, h.lo, h.lt⟩
theorem WdS.drew {w wr : World} {Bx g C : Nat} {f : Nat → By} (h : WdS w wr Bx g C f) : WdS w wr.drew Bx g C f := ⟨h.chg.drew, h.box, h.all, h.lo, h.lt⟩
theorem WdS.row {w wr : World} {Bx g C : Nat} {f : Nat → By} (h : WdS w wr Bx g C f) (f' : Nat → By) : WdS w (wr.setRow g (ba (4 * C) f')) Bx g C f' := by
  have h1 := h.lo
  have h2 := h.lt
  exact ⟨h.chg.setRow (by omega) _, h.box.rowOther (by omega) _, h.all.row _, h.lo, h.lt⟩

theorem rc_same {n j : Nat} (hn : 0 < n) (h : ¬ j % n = 0) : (j - 1) / n = j / n := by
  have h1 : j = n * (j / n) + j % n := (Nat.div_add_mod j n).symm
  have h2 : j % n < n := Nat.mod_lt _ hn
  have h3 : j - 1 = n * (j / n) + (j % n - 1) := by omega
  rw [h3, Nat.mul_add_div hn, Nat.div_eq_of_lt (by omega : j % n - 1 < n)]
  rfl
theorem rc_next {n j : Nat} (hn : 0 < n) (hj : n ≤ j) (h : j % n = 0) : (j - 1) / n = j / n - 1 ∧ 1 ≤ j / n := by
  have h1 : j = n * (j / n) + j % n := (Nat.div_add_mod j n).symm
  have h4 : 1 ≤ j / n := (Nat.one_le_div_iff hn).2 hj
  refine ⟨?_, h4⟩
  obtain ⟨q, hq⟩ : ∃ q, j / n = q + 1 := ⟨j / n - 1, by omega⟩
  rw [hq] at h1 ⊢
  have h3 : j - 1 = n * q + (n - 1) := by
    rw [Nat.mul_add, Nat.mul_one] at h1
    omega
  rw [h3, Nat.mul_add_div hn, Nat.div_eq_of_lt (by omega : n - 1 < n)]
  rfl

def fn4 (a b c d : By) : Nat → By := fun r => if r = 0 then a else if r = 1 then b else if r = 2 then c else d
theorem built4 (a b c d : By) : ((((ba 4 zB).setIfInBounds 0 (.int .u8 (a.toNat : Int))).setIfInBounds 1 (.int .u8 (b.toNat : Int))).setIfInBounds 2 (.int .u8 (c.toNat : Int))).setIfInBounds 3 (.int .u8 (d.toNat : Int)) = ba 4 (fn4 a b c d) := by
  rw [ba_set, ba_set, ba_set, ba_set]
  refine ba_congr fun r hr => ?_
  have : r = 0 ∨ r = 1 ∨ r = 2 ∨ r = 3 := by omega
  rcases this with rfl | rfl | rfl | rfl <;> simp [updB, fn4]
theorem tw_next {n j j1 : Nat} {f t0 : Nat → By} {p : By} (hn : 0 < n) (hj : n ≤ j) (hj1 : j1 = j - 1) (ht : t0 = fun r => f (j1 * 4 + r)) (hp : p = rc ((j - 1) / n)) (h : j % n = 0) : ba 4 (updB (fun r => sb (fn4 (t0 1) (t0 2) (t0 3) (t0 0) r)) 0 (sb (t0 1) ^^^ p)) = ba 4 (fun r => tw n f j r) ∧ dbl p = rc (j / n) := by
  obtain ⟨e1, e2⟩ := rc_next hn hj h
  refine ⟨ba_congr fun r hr => ?_, ?_⟩
  · rw [ht, hp, e1, hj1]
    unfold updB tw
    rw [if_pos h]
    have e3 : (j - 1) * 4 = 4 * (j - 1) := Nat.mul_comm _ _
    have : r = 0 ∨ r = 1 ∨ r = 2 ∨ r = 3 := by omega
    rcases this with rfl | rfl | rfl | rfl <;> simp [e3, fn4]
  · rw [hp, e1]
    obtain ⟨q, hq⟩ : ∃ q, j / n = q + 1 := ⟨j / n - 1, by omega⟩
    rw [hq]
    rfl
theorem tw_box {n j j1 : Nat} {f t0 : Nat → By} (hj1 : j1 = j - 1) (ht : t0 = fun r => f (j1 * 4 + r)) (h : ¬ j % n = 0) (h8 : n = 8 ∧ j % 8 = 4) : ba 4 (fun r => sb (t0 r)) = ba 4 (fun r => tw n f j r) := ba_congr fun r hr => by
  rw [ht, hj1]
  unfold tw
  rw [if_neg h, if_pos h8, Nat.mul_comm]
theorem tw_same {n j j1 : Nat} {f t0 : Nat → By} (hj1 : j1 = j - 1) (ht : t0 = fun r => f (j1 * 4 + r)) (h : ¬ j % n = 0) (h8 : ¬ (n = 8 ∧ j % 8 = 4)) : ba 4 t0 = ba 4 (fun r => tw n f j r) := ba_congr fun r hr => by
  rw [ht, hj1]
  unfold tw
  rw [if_neg h, if_neg h8, Nat.mul_comm]

set_option maxRecDepth 100000 in
set_option maxHeartbeats 4000000 in
theorem words_any (kb ko cap L n C : Nat) (key : Nat → By) (w : World) (hv : Bs w kb ko L key) (hL : L = 4 * n) (hn : n = 4 ∨ n = 8) (hC : C = 4 * n + 28) (hcap : L ≤ cap) (hcap' : cap ≤ 9223372036854775807) :
    Calls Tryz.prog 58 #[.slice (some ⟨kb, ko, none⟩) L cap, .int .i64 C] w fun r w' => ∃ g f, r = .returned (.slice (some ⟨g, 0, none⟩) C C) ∧ w.heap.size ≤ g ∧ Chg w w' ∧ Ar w' g (ba (4 * C) f) ∧ Ks n C key f := by
  have HX : Hid (Bs w kb ko L key ∧ L = 4 * n ∧ (n = 4 ∨ n = 8) ∧ C = 4 * n + 28 ∧ kb < w.heap.size) := ⟨hv, hL, hn, hC, block_lt_of_cell (hv 0 (by omega))⟩
  have hq : (L : Int).tdiv 4 = n := by rw [Int.tdiv_eq_ediv_of_nonneg (by omega), hL]; omega
  have hn0 : ¬ (n : Int) = 0 := by omega
  have hn8 : n ≤ 8 := by omega
  have hC60 : C ≤ 60 := by omega
  have hnC : n < C := by omega
  have hmk := mk44 C (by omega)
  have hz := zero46.1
  have hz2 := zero47.1
  have wn := wrap_i (x := (n : Int)) (by omega) (by omega)
  have wC := wrap_i (x := (C : Int)) (by omega) (by omega)
  clear hv hL hC hn
  go_enter Tryz.func58, Tryz.ntmps58
  go_wp2_with fail
  go_at_call 59
  refine (boxes_any _).mono ?_
  rintro r w1 ⟨rfl, hc1⟩
  have Z1 : Hid (Chg w w1) := hc1
  clear hc1
  have hsz := szB sbF zero47.2
  have hlen := lenB 256 zB sbF
  have hone := ba_one 256 sbF
  obtain ⟨T, hT⟩ : ∃ T, T = ba 256 sbF := ⟨_, rfl⟩
  have HT : Hid (T = ba 256 sbF) := hT
  rw [← hT] at hsz hlen hone ⊢
  clear hT
  go_wp2_with (first | refine wpList_store_row rfl 65 _ _ rfl _ _ rfl rfl _ _ (heap_alloc_last w1 _) hsz hlen hone ?_)
  obtain ⟨Bx, hBx⟩ : ∃ Bx, Bx = w1.heap.size := ⟨_, rfl⟩
  obtain ⟨g, hg⟩ : ∃ g, g = w1.heap.size + 1 := ⟨_, rfl⟩
  obtain ⟨w3, hw3⟩ : ∃ w3, w3 = ((w1.alloc (.cells (ba 256 zB) 65)).setRow w1.heap.size T).alloc (.cells (ba (4 * C) zB) 70) := ⟨_, rfl⟩
  have Z3 : Hid (WdS w w3 Bx g C zB) := by
    rw [hw3, hBx, hg]
    have h1 := Z1.out.size
    refine ⟨((Z1.out.alloc _).setRow h1 _).alloc _, ?_, ?_, h1, by omega⟩
    · rw [← HT.out]
      exact ((Ar.new w1 _ _).row _).alloc _
    · have := Ar.new ((w1.alloc (.cells (ba 256 zB) 65)).setRow w1.heap.size T) (ba (4 * C) zB) 70
      have hs : ((w1.alloc (.cells (ba 256 zB) 65)).setRow w1.heap.size T).heap.size = w1.heap.size + 1 := by simp [World.setRow]
      rwa [hs] at this
  rw [← hw3, ← hg, ← hBx]
  clear hw3 hg hBx Z1 hsz hlen hone hz2 hmk HT
  go_loopw [20] (fun v wr => ∃ (i : Nat) (f : Nat → By), v = .int .i64 i ∧ i ≤ n ∧ WdS w wr Bx g C f ∧ ∀ j, j < 4 * i → f j = key j) (fun v wr => n - (intOf v).toNat)
  case atStart => exact ⟨0, zB, rfl, by omega, Z3.out, fun j hj => by omega⟩
  case round =>
    clear Z3
    obtain ⟨i, f, rfl, hi, hz3, hf⟩ := hrel
    have Z : Hid (WdS w wr Bx g C f ∧ ∀ j, j < 4 * i → f j = key j) := ⟨hz3, hf⟩
    clear hz3 hf
    by_cases hin : i < n
    · have hd : decide ((i : Int) < n) = true := by simp; omega
      have li : (i : Int) < C := by omega
      obtain ⟨t, ht⟩ : ∃ t : Nat, 4 * (i : Int) = t := ⟨4 * i, by omega⟩
      have wt := wrap_i (x := (t : Int)) (by omega) (by omega)
      have HTt : Hid (t = 4 * i) := by show t = _; omega
      have htL : t + 4 ≤ L := by have := HX.out; omega
      have lt1 : (t : Int) ≤ L := by omega
      have lt2 : ¬ cap = t := by omega
      have lt2' : ¬ (cap : Int) = t := by omega
      have hcp := run_cp wr.drew g (4 * C) (i * 4) 4 4 kb (ko + t) (L - t) (cap - t) 4 f (fun j => key (t + j)) Z.out.1.all (fun j hj => by
        have := (HX.out.1.chg Z.out.1.chg) (t + j) (by omega)
        rw [← Nat.add_assoc] at this
        exact this) (by show 4 = min (L - t) 4; omega) (by omega)
      go_wp2_with fail
      go_region_with (fail)
      all_goals go_wp2
      all_goals
        go_roundw
        case rel =>
          refine ⟨i + 1, over (i * 4) 4 (fun j => key (t + j)) f, by go_num, by omega, Z.out.1.drew.row _, fun j hj => ?_⟩
          unfold over
          split
          · have h1 := HTt.out
            rename_i h2
            show key (t + (j - i * 4)) = key j
            rw [show t + (j - i * 4) = j by omega]
          · exact Z.out.2 j (by omega)
        case measure => simp [intOf]; omega
    · have hin : i = n := by omega
      subst hin
      have hd : decide ((i : Int) < i) = false := by simp
      obtain ⟨wo, hwo⟩ : ∃ wo, wo = wr := ⟨_, rfl⟩
      have Zo : Hid (WdS w wo Bx g C f ∧ Ks i i key f) := by
        rw [hwo]
        exact ⟨Z.out.1, Z.out.2, fun a h1 h2 => by omega⟩
      rw [← hwo]
      clear hwo Z
      go_wp2_with fail
      go_loopw [8, 10] (fun v8 v10 wr => ∃ (j : Nat) (f : Nat → By), v10 = .int .i64 j ∧ i ≤ j ∧ j ≤ C ∧ v8 = .int .u8 ((rc ((j - 1) / i)).toNat : Int) ∧ WdS w wr Bx g C f ∧ Ks i j key f) (fun v8 v10 wr => C - (intOf v10).toNat)
      case atStart =>
        refine ⟨i, f, rfl, Nat.le_refl _, by omega, ?_, Zo.out.1, Zo.out.2⟩
        have e : (i - 1) / i = 0 := Nat.div_eq_of_lt (by omega)
        rw [e]
        rfl
      case round =>
        clear Zo
        obtain ⟨j, f, rfl, hij, hjC, rfl, hz3, hks⟩ := hrel
        have Z : Hid (WdS w wr Bx g C f ∧ Ks i j key f) := ⟨hz3, hks⟩
        clear hz3 hks
        by_cases hjC' : j < C
        · have hd2 : decide ((j : Int) < C) = true := by simp; omega
          have lj : (j : Int) < C := by omega
          obtain ⟨j1, hj1⟩ : ∃ j1 : Nat, (j : Int) - 1 = j1 := ⟨j - 1, by omega⟩
          have wj1 := wrap_i (x := (j1 : Int)) (by omega) (by omega)
          have lj1 : (j1 : Int) < C := by omega
          obtain ⟨m, hm⟩ : ∃ m : Nat, m = j % i := ⟨_, rfl⟩
          have hmod : (j : Int).tmod i = m := by rw [Int.tmod_eq_emod_of_nonneg (by omega), hm]; rfl
          obtain ⟨t0, ht0⟩ : ∃ t0 : Nat → By, t0 = fun r => f (j1 * 4 + r) := ⟨_, rfl⟩
          obtain ⟨p, hp⟩ : ∃ p, p = rc ((j - 1) / i) := ⟨_, rfl⟩
          rw [← hp]
          have HJ : Hid (j1 = j - 1 ∧ m = j % i ∧ (t0 = fun r => f (j1 * 4 + r)) ∧ p = rc ((j - 1) / i)) := ⟨by omega, hm, ht0, hp⟩
          have rng : wr.rangeAt g (j1 * 4) (ba 4 t0).toList := by
            intro q v hv
            have hq4 : q < 4 := by
              have := (List.getElem?_eq_some_iff.1 hv).1
              rwa [Array.length_toList, ba_size] at this
            rw [Array.getElem?_toList, ba_get 4 t0 hq4] at hv
            rw [Z.out.1.all.cell, ba_get (4 * C) f (by omega), ← hv, ht0]
          have hsz := szB t0 zero46.2
          have hlen := lenB 4 zB t0
          have hone := ba_one 4 t0
          have hinf : (Tryz.prog.info? 70).map (·.size) = some (ba 4 t0).toList.length := by rw [Array.length_toList]; exact hsz
          clear hm ht0 hp
          go_upto_if 47 with (first | refine wpList_load_mid rfl 70 _ rfl g (j1 * 4) rfl (ba 4 t0).toList _ rng und46 rfl hinf ?_ | refine wpList_store_row rfl 70 _ _ rfl _ _ rfl rfl _ _ (heap_alloc_last wr _) hsz hlen hone ?_)
          obtain ⟨tb, htb⟩ : ∃ tb, tb = wr.heap.size := ⟨_, rfl⟩
          obtain ⟨w5, hw5⟩ : ∃ w5, w5 = (wr.alloc (.cells (ba 4 zB) 70)).setRow wr.heap.size (ba 4 t0) := ⟨_, rfl⟩
          have Z5 : Hid (WdS w w5 Bx g C f ∧ Ar w5 tb (ba 4 t0) ∧ g < tb) := by
            have h1 := Z.out.1.all.lt
            have h2 := Z.out.1.lt
            have h3 := Z.out.1.lo
            rw [hw5, htb]
            exact ⟨⟨(Z.out.1.chg.alloc _).setRow (by omega) _, (Z.out.1.box.alloc _).rowOther (by omega) _, (Z.out.1.all.alloc _).rowOther (by omega) _, h3, h2⟩, (Ar.new wr _ _).row _, h1⟩
          rw [← hw5, ← htb]
          clear hw5 htb hsz hlen hone hinf rng
          go_cut [8] from 47 to 73 (fun v8 wc => v8 = .int .u8 ((rc (j / i)).toNat : Int) ∧ WdS w wc Bx g C f ∧ Ar wc tb (ba 4 (fun r => tw i f j r)))
          case first =>
            by_cases hm0 : m = 0
            · subst hm0
              obtain ⟨H1, H2⟩ := tw_next (n := i) (j := j) (by omega) hij HJ.out.1 HJ.out.2.2.1 HJ.out.2.2.2 HJ.out.2.1.symm
              have HE : Hid (ba 4 (updB (fun r => sb (fn4 (t0 1) (t0 2) (t0 3) (t0 0) r)) 0 (sb (t0 1) ^^^ p)) = ba 4 (fun r => tw i f j r) ∧ dbl p = rc (j / i)) := ⟨H1, H2⟩
              have c0 := (Z5.out.2.1.cell 0).trans (ba_get 4 t0 (by decide))
              have c1 := (Z5.out.2.1.cell 1).trans (ba_get 4 t0 (by decide))
              have c2 := (Z5.out.2.1.cell 2).trans (ba_get 4 t0 (by decide))
              have c3 := (Z5.out.2.1.cell 3).trans (ba_get 4 t0 (by decide))
              clear H1 H2 hmod
              go_wp2_with fail
              rw [built4]
              obtain ⟨s4, hs4⟩ : ∃ s4 : Nat → By, s4 = fun r => sb (fn4 (t0 1) (t0 2) (t0 3) (t0 0) r) := ⟨_, rfl⟩
              have HS4 : Hid (s4 = fun r => sb (fn4 (t0 1) (t0 2) (t0 3) (t0 0) r)) := hs4
              go_at_call 73
              refine (boxed_any Bx (fn4 (t0 1) (t0 2) (t0 3) (t0 0)) _ Z5.out.1.box).mono ?_
              rw [← hs4]
              clear hs4
              rintro r w6 ⟨rfl, hc6⟩
              have Z6 : Hid (WdS w w6 Bx g C f ∧ Ar w6 tb (ba 4 t0) ∧ g < tb) := ⟨Z5.out.1.to hc6, Z5.out.2.1.chg hc6, Z5.out.2.2⟩
              clear hc6 c0 c1 c2 c3 Z5
              obtain ⟨ty6, g6⟩ := Z6.out.2.1
              have hsz := szB s4 zero46.2
              have hlen := lenB 4 t0 s4
              have hone := ba_one 4 s4
              have hr6 := Z6.out.2.1.row (ba 4 s4)
              have c0 := (hr6.cell 0).trans (ba_get 4 s4 (by decide))
              have f0 := hr6.frozen 0
              have HR6 : Hid (Ar (w6.setRow tb (ba 4 s4)) tb (ba 4 s4)) := hr6
              obtain ⟨y, Hy, ey⟩ := nameXor (s4 0) p
              clear hr6
              go_wp2_with (first | refine wpList_store_row rfl 70 _ _ rfl _ _ rfl rfl _ _ g6 hsz hlen hone ?_ | (go_at_call 74; refine (double_any p _).mono ?_; rintro r w7 ⟨rfl, hw7⟩; rw [hw7]))
              go_meet
              have hlo := Z6.out.1.lo
              have hlt := Z6.out.1.lt
              have hgt := Z6.out.2.2
              refine ⟨by rw [← HE.out.2], ⟨(Z6.out.1.chg.setRow (by omega) _).setCell (by dsimp only; omega) _, (Z6.out.1.box.rowOther (by omega) _).other (by dsimp only; omega) _, (Z6.out.1.all.rowOther (by omega) _).other (by dsimp only; omega) _, hlo, hlt⟩, ?_⟩
              have hh := HR6.out.set 0 (.int .u8 (y.toNat : Int))
              rw [ba_set, Hy.out, HS4.out] at hh
              rw [← HE.out.1]
              rw [Hy.out]
              rw [HS4.out]
              exact hh
            · have hm0' : ((m : Int) == 0) = false := by simp; omega
              have hmj : ¬ j % i = 0 := by rw [← HJ.out.2.1]; exact hm0
              have HP : Hid (p = rc (j / i)) := by rw [HJ.out.2.2.2, rc_same (by omega) hmj]; rfl
              by_cases h8 : i = 8 ∧ j % 8 = 4
              · have HE : Hid (ba 4 (fun r => sb (t0 r)) = ba 4 (fun r => tw i f j r)) := tw_box HJ.out.1 HJ.out.2.2.1 hmj h8
                obtain ⟨hi8, hj8⟩ := h8
                have hmod8 : (j : Int).tmod 8 = 4 := by rw [Int.tmod_eq_emod_of_nonneg (by omega)]; omega
                have hi8' : ((i : Int) == 8) = true := by simp; omega
                have hsz0 := szB t0 zero46.2
                obtain ⟨ty5, g5⟩ := Z5.out.2.1
                clear hmj hj8 hi8 hmod
                go_wp2_with (first | refine wpList_load_row rfl 70 _ rfl _ rfl _ _ _ _ g5 und46 rfl hsz0 ?_)
                obtain ⟨s4, hs4⟩ : ∃ s4 : Nat → By, s4 = fun r => sb (t0 r) := ⟨_, rfl⟩
                have HS4 : Hid (s4 = fun r => sb (t0 r)) := hs4
                go_at_call 73
                refine (boxed_any Bx t0 _ Z5.out.1.box).mono ?_
                rw [← hs4]
                clear hs4
                rintro r w6 ⟨rfl, hc6⟩
                have Z6 : Hid (WdS w w6 Bx g C f ∧ Ar w6 tb (ba 4 t0) ∧ g < tb) := ⟨Z5.out.1.to hc6, Z5.out.2.1.chg hc6, Z5.out.2.2⟩
                clear hc6 Z5 g5 hsz0
                obtain ⟨ty6, g6⟩ := Z6.out.2.1
                have hsz := szB s4 zero46.2
                have hlen := lenB 4 t0 s4
                have hone := ba_one 4 s4
                go_wp2_with (first | refine wpList_store_row rfl 70 _ _ rfl _ _ rfl rfl _ _ g6 hsz hlen hone ?_)
                go_meet
                have hlo := Z6.out.1.lo
                have hlt := Z6.out.1.lt
                have hgt := Z6.out.2.2
                refine ⟨by rw [HP.out], ⟨Z6.out.1.chg.setRow (by omega) _, Z6.out.1.box.rowOther (by omega) _, Z6.out.1.all.rowOther (by omega) _, hlo, hlt⟩, ?_⟩
                rw [← HE.out, ← HS4.out]
                exact Z6.out.2.1.row _
              · have HE : Hid (ba 4 t0 = ba 4 (fun r => tw i f j r)) := tw_same HJ.out.1 HJ.out.2.2.1 hmj h8
                by_cases hi8 : i = 8
                · have hi8' : ((i : Int) == 8) = true := by simp; omega
                  have hj8 : ¬ j % 8 = 4 := fun e => h8 ⟨hi8, e⟩
                  obtain ⟨e8, he8⟩ : ∃ e8 : Nat, e8 = j % 8 := ⟨_, rfl⟩
                  have hmod8 : (j : Int).tmod 8 = e8 := by rw [Int.tmod_eq_emod_of_nonneg (by omega)]; omega
                  have hne : ((e8 : Int) == 4) = false := by simp; omega
                  clear hmj hj8 hi8 hmod he8 h8
                  go_wp2_with fail
                  go_meet
                  exact ⟨by rw [HP.out], Z5.out.1, by rw [← HE.out]; exact Z5.out.2.1⟩
                · have hi8' : ((i : Int) == 8) = false := by simp; omega
                  clear hmj hmod h8
                  go_wp2_with fail
                  go_meet
                  exact ⟨by rw [HP.out], Z5.out.1, by rw [← HE.out]; exact Z5.out.2.1⟩
          case rest =>
            obtain ⟨hv8, hz8, ht8⟩ := hcut
            subst hv8
            obtain ⟨tF, htF⟩ : ∃ tF : Nat → By, tF = fun r => tw i f j r := ⟨_, rfl⟩
            obtain ⟨wx, hwx⟩ : ∃ wx, wx = wc := ⟨_, rfl⟩
            obtain ⟨p2, hp2⟩ : ∃ p2, p2 = rc (j / i) := ⟨_, rfl⟩
            rw [← htF] at ht8
            rw [← hwx] at hz8 ht8 ⊢
            rw [← hp2]
            have HP2 : Hid (p2 = rc (j / i)) := hp2
            have HTF : Hid (tF = fun r => tw i f j r) := htF
            obtain ⟨jn, hjn⟩ : ∃ jn : Nat, (j : Int) - i = jn := ⟨j - i, by omega⟩
            have wjn := wrap_i (x := (jn : Int)) (by omega) (by omega)
            have ljn : (jn : Int) < C := by omega
            obtain ⟨X, hX⟩ : ∃ X : Nat → By, X = fun q => f (jn * 4 + q) ^^^ tF q := ⟨_, rfl⟩
            have HXX : Hid (X = fun q => f (jn * 4 + q) ^^^ tF q) := hX
            have Z8 : Hid (WdS w wx Bx g C f ∧ Ar wx tb (ba 4 tF) ∧ g < tb ∧ jn = j - i) := ⟨hz8, ht8, Z5.out.2.2, by omega⟩
            have hjnj : jn + 4 ≤ j := by have := HX.out; omega
            clear hz8 ht8 htF hwx hp2 hX Z5
            go_wp2_with fail
            go_loopw [74] (fun v wr => ∃ (r : Nat), v = .int .i64 r ∧ r ≤ 4 ∧ WdS w wr Bx g C (over (j * 4) r X f) ∧ Ar wr tb (ba 4 tF)) (fun v wr => 4 - (intOf v).toNat)
            case atStart =>
              refine ⟨0, rfl, by omega, ?_, Z8.out.2.1⟩
              have e : over (j * 4) 0 X f = f := by
                funext q
                have : ¬ (j * 4 ≤ q ∧ q < j * 4 + 0) := by omega
                simp only [over, this, if_false]
              rw [e]
              exact Z8.out.1
            case round =>
              obtain ⟨r, rfl, hr, hz9, ht9⟩ := hrel
              have Z9 : Hid (WdS w wr Bx g C (over (j * 4) r X f) ∧ Ar wr tb (ba 4 tF)) := ⟨hz9, ht9⟩
              by_cases hr4 : r < 4
              · have hd3 : decide ((r : Int) < 4) = true := by simp; omega
                have lr : (r : Int) < 4 := by omega
                have c1 := (hz9.all.cell (jn * 4 + r)).trans (ba_get (4 * C) _ (by omega))
                have e1 : over (j * 4) r X f (jn * 4 + r) = f (jn * 4 + r) := by
                  have : ¬ (j * 4 ≤ jn * 4 + r ∧ jn * 4 + r < j * 4 + r) := by omega
                  simp only [over, this, if_false]
                rw [e1] at c1
                have c2 := (ht9.cell r).trans (ba_get 4 tF hr4)
                have c3 := (hz9.all.cell (j * 4 + r)).trans (ba_get (4 * C) _ (by omega))
                have f3 := hz9.all.frozen (j * 4 + r)
                obtain ⟨x1, hx1⟩ : ∃ x, x = f (jn * 4 + r) := ⟨_, rfl⟩
                obtain ⟨x2, hx2⟩ : ∃ x, x = tF r := ⟨_, rfl⟩
                obtain ⟨x3, hx3⟩ : ∃ x, x = over (j * 4) r X f (j * 4 + r) := ⟨_, rfl⟩
                rw [← hx1] at c1
                rw [← hx2] at c2
                rw [← hx3] at c3
                obtain ⟨y, Hy, ey⟩ := nameXor x1 x2
                have HY : Hid (y = X r) := by show y = _; rw [Hy.out, HXX.out, hx1, hx2]
                clear hx1 hx2 hx3 e1 hz9 ht9 Hy hz
                go_wp2_with fail
                go_region_with (fail)
                all_goals go_wp2
                all_goals
                  go_roundw
                  case rel =>
                    obtain ⟨k1, k2⟩ := Z9.out
                    have hlo := k1.lo
                    have hlt := k1.lt
                    have hgt := Z8.out.2.2.1
                    refine ⟨r + 1, by go_num, by omega, ⟨(k1.chg.setCell (by dsimp only; omega) _).drew, (k1.box.other (by dsimp only; omega) _).drew, ?_, hlo, hlt⟩, (k2.other (by dsimp only; omega) _).drew⟩
                    have hh := k1.all.set (j * 4 + r) (.int .u8 (y.toNat : Int))
                    rw [ba_set] at hh
                    have e : updB (over (j * 4) r X f) (j * 4 + r) y = over (j * 4) (r + 1) X f := by
                      funext q
                      unfold updB over
                      by_cases eq : q = j * 4 + r
                      · subst eq
                        have : j * 4 ≤ j * 4 + r ∧ j * 4 + r < j * 4 + (r + 1) := by omega
                        have e4 : j * 4 + r - j * 4 = r := by omega
                        simp only [this, if_true, HY.out, e4, and_self]
                      · have : (j * 4 ≤ q ∧ q < j * 4 + (r + 1)) ↔ (j * 4 ≤ q ∧ q < j * 4 + r) := by omega
                        simp only [eq, if_false, this]
                    rw [e] at hh
                    exact hh.drew
                  case measure => simp [intOf]; omega
              · have hr4' : r = 4 := by omega
                subst hr4'
                clear hz9 ht9 hz
                go_wp2
                go_roundw
                case rel =>
                  refine ⟨j + 1, over (j * 4) 4 X f, by go_num, by omega, by omega, ?_, Z9.out.1, ?_⟩
                  · rw [HP2.out]; rfl
                  · refine Ks.more (by omega) hij Z.out.2 (fun q hq => ?_) (fun q hq => ?_)
                    · have : ¬ (j * 4 ≤ q ∧ q < j * 4 + 4) := by omega
                      simp only [over, this, if_false]
                    · have e4 : j * 4 ≤ 4 * j + q ∧ 4 * j + q < j * 4 + 4 := by omega
                      have e5 : 4 * j + q - j * 4 = q := by omega
                      have e6 : 4 * (j - i) + q = jn * 4 + q := by have := Z8.out.2.2.2; omega
                      unfold over
                      rw [if_pos e4, e5, HXX.out, HTF.out, e6]
                case measure => simp [intOf]; omega
        · have hjC2 : j = C := by omega
          subst hjC2
          have hd2 : decide ((j : Int) < j) = false := by simp
          go_wp2
          go_ret
          have h1 := Z.out.1.lo
          have h2 := Z.out.1.lt
          exact ⟨g, f, rfl, by omega, Z.out.1.chg, Z.out.1.all, Z.out.2⟩
end Go.Proofs.YtobglgddbhddnaaGreat

namespace Go.Proofs.YtobglgddbhddnaaGreat
open Go.RowKit
set_option linter.unusedVariables false

theorem zero43 : (∀ w, (zeroValue 96).run Tryz.prog w = .ok (.agg (keyC 0 zB)) w) ∧ (Tryz.prog.info? 96).map (·.size) = some 241 := zero_of_info (by kernel_rfl)
theorem keyC_list (R : Nat) (k : Nat → By) : (keyC R k).toList = .int .i64 (R : Int) :: (ba 240 k).toList := by simp [keyC]
theorem keyC_put (R : Nat) (k : Nat → By) : (keyC 0 k).setIfInBounds 0 (.int .i64 (R : Int)) = keyC R k := by
  apply Array.toList_inj.1
  rw [Array.toList_setIfInBounds, keyC_list, keyC_list]
  rfl
theorem keyC_over (R o n : Nat) (x k : Nat → By) (h : o + n ≤ 240) :
    ((keyC R k).toList.take (1 + o) ++ (ba n x).toList ++ (keyC R k).toList.drop (1 + o + (ba n x).toList.length)).toArray = keyC R (over o n x k) := by
  apply Array.toList_inj.1
  have hb := congrArg Array.toList (ba_over 240 o n x k h)
  rw [List.toList_toArray] at hb ⊢
  rw [keyC_list, keyC_list, ← hb, Nat.add_comm 1 o, List.take_succ_cons, show o + 1 + (ba n x).toList.length = (o + (ba n x).toList.length) + 1 by omega, List.drop_succ_cons]
  simp
/-- copy, into a key. -/
theorem run_cpK (w : World) (K R o dl dc b s sl sc n : Nat) (k x : Nat → By) (hd : Ar w K (keyC R k)) (hs : Bs w b s n x) (hn : n = Nat.min sl dl) (hr : o + n ≤ 240) :
    (Builtin.copy_ #[24, 24] 3 #[.slice (some ⟨K, 1 + o, none⟩) dl dc, .slice (some ⟨b, s, none⟩) sl sc]).run Tryz.prog w = .ok (.int .i64 n) (w.setRow K (keyC R (over o n x k))) := by
  obtain ⟨t, hg⟩ := hd
  have hl : (ba n x).toList.length = n := by rw [Array.length_toList, ba_size]
  have := run_copy_row (P := Tryz.prog) w 24 24 3 5 K (1 + o) dl dc ⟨b, s, none⟩ sl sc _ t (ba n x).toList u22 i5 hg (by rw [hl, hn]) (fun j v hv => ?_) (by rw [hl, keyC_size]; omega) (fun v hv => (Array.all_eq_true_iff_forall_mem.1 (ba_one n x)) v (by simpa using hv))
  · rw [this, keyC_over R o n x k hr, hl]
    rfl
  · have hadd : (⟨b, s, none⟩ : Addr).add j = ⟨b, s + j, none⟩ := by unfold Addr.add; split <;> simp_all
    have hj : j < n := by
      have := (List.getElem?_eq_some_iff.1 hv).1
      omega
    rw [Array.getElem?_toList, ba_get n x hj] at hv
    rw [hadd, hs j hj, hv]

theorem Ks.of {n m : Nat} {key f k : Nat → By} (hn : 0 < n) (hm : n ≤ m) (h : Ks n m key f) (e : ∀ j, j < 4 * m → k j = f j) : Ks n m key k :=
  ⟨fun j hj => by rw [e j (by omega), h.lo j hj], fun i h1 h2 r hr => by
    rw [e _ (by omega), e _ (by omega), h.hi i h1 h2 r hr, tw_congr hr (k := f) (k' := k) (fun j hj => (e j (by omega)).symm) (by omega)]⟩

set_option maxRecDepth 100000 in
set_option maxHeartbeats 4000000 in
theorem newBad_any (ao : Option Addr) (L cap : Nat) (w : World) (h1 : L ≠ 16) (h2 : L ≠ 32) : Calls Tryz.prog 41 #[.slice ao L cap] w fun r w' => r = .returned (.tuple #[.pointer none, .int .i64 1]) ∧ w' = w := by
  have e1 : ((L : Int) != 16) = true := by simp; omega
  have e2 : ((L : Int) != 32) = true := by simp; omega
  go_enter Tryz.func41, Tryz.ntmps41
  go_wp2
  go_ret2
  exact ⟨rfl, rfl⟩

set_option maxRecDepth 100000 in
set_option maxHeartbeats 4000000 in
theorem new_any (kb ko cap L n R : Nat) (key : Nat → By) (w : World) (hv : Bs w kb ko L key) (hL : L = 4 * n) (hn : n = 4 ∨ n = 8) (hR : R = n + 6) (hcap : L ≤ cap) (hcap' : cap ≤ 9223372036854775807) :
    Calls Tryz.prog 41 #[.slice (some ⟨kb, ko, none⟩) L cap] w fun r w' => ∃ K k, r = .returned (.tuple #[.pointer (some ⟨K, 0, none⟩), .int .i64 0]) ∧ w.heap.size ≤ K ∧ Chg w w' ∧ Ar w' K (keyC R k) ∧ Ks n (4 * (R + 1)) key k := by
  have HX : Hid (Bs w kb ko L key ∧ L = 4 * n ∧ (n = 4 ∨ n = 8) ∧ R = n + 6 ∧ L ≤ cap ∧ cap ≤ 9223372036854775807) := ⟨hv, hL, hn, hR, hcap, hcap'⟩
  have hq : (L : Int).tdiv 4 = n := by rw [Int.tdiv_eq_ediv_of_nonneg (by omega), hL]; omega
  have hR1 : (n : Int) + 6 = R := by omega
  obtain ⟨R1, hRR⟩ : ∃ R1 : Nat, (R : Int) + 1 = R1 := ⟨R + 1, by omega⟩
  obtain ⟨C, hC⟩ : ∃ C : Nat, 4 * (R1 : Int) = C := ⟨4 * R1, by omega⟩
  have wR := wrap_i (x := (R : Int)) (by omega) (by omega)
  have wn := wrap_i (x := (n : Int)) (by omega) (by omega)
  have wR1 := wrap_i (x := (R1 : Int)) (by omega) (by omega)
  have wC := wrap_i (x := (C : Int)) (by omega) (by omega)
  have HC : Hid (C = 4 * n + 28 ∧ C = 4 * (R + 1)) := by show _ ∧ _; omega
  have hC60 : C ≤ 60 := by omega
  have hz := zero43.1
  have hbt := keyC_put R zB
  have hks := keyC_size R zB
  have hkz := keyC_size 0 zB
  obtain ⟨KZ, hKZ⟩ : ∃ KZ, KZ = keyC 0 zB := ⟨_, rfl⟩
  obtain ⟨KR, hKR⟩ : ∃ KR, KR = keyC R zB := ⟨_, rfl⟩
  have HKR : Hid (KR = keyC R zB) := hKR
  rw [← hKZ] at hz hbt hkz
  rw [← hKR] at hbt hks
  have hke : ¬ KZ = #[] := fun e => by rw [e] at hkz; simp at hkz
  clear hKZ hKR
  have hz2 := zero46.1
  clear hv hL hR hcap hcap'
  go_enter Tryz.func41, Tryz.ntmps41
  go_upto_region 1 with fail
  go_cut [14] from 7 to 13 (fun v wc => v = .bool false ∧ wc = w)
  case first =>
    rcases hn with hn | hn
    · have hL : (L : Int) = 16 := by have := HX.out.2.1; omega
      have e1 : ((L : Int) != 16) = false := by rw [hL]; rfl
      clear hL hn
      go_wp2_with fail
      go_meet
      exact ⟨rfl, rfl⟩
    · have hL : (L : Int) = 32 := by have := HX.out.2.1; omega
      have e1 : ((L : Int) != 16) = true := by rw [hL]; rfl
      have e2 : ((L : Int) != 32) = false := by rw [hL]; rfl
      clear hL hn
      go_wp2_with fail
      go_meet
      exact ⟨rfl, rfl⟩
  case rest =>
    obtain ⟨rfl, hwc⟩ := hcut
    rw [hwc]
    clear hwc
    have k0 := Ar.new w KR 96
    have c0 : (w.alloc (.cells KR 96)).cell? ⟨w.heap.size, 0, none⟩ = some (.int .i64 (R : Int)) := by
      rw [HKR.out]
      exact keyR (Ar.new w _ 96)
    go_wp2_with fail
    obtain ⟨wa, hwa⟩ : ∃ wa, wa = w.alloc (.cells KR 96) := ⟨_, rfl⟩
    have Za : Hid (Chg w wa ∧ Ar wa w.heap.size (keyC R zB)) := by
      rw [hwa, ← HKR.out]
      exact ⟨(Chg.refl w).alloc _, k0⟩
    rw [← hwa]
    clear k0 hwa c0 hz hbt hks hkz hke
    go_at_call 58
    refine (words_any kb ko cap L n C key wa (HX.out.1.chg Za.out.1) HX.out.2.1 HX.out.2.2.1 HC.out.1 HX.out.2.2.2.2.1 HX.out.2.2.2.2.2).mono ?_
    rintro r w2 ⟨g, f, rfl, hg, hc2, hA, hks⟩
    have Z2 : Hid (Chg w w2 ∧ Ar w2 w.heap.size (keyC R zB) ∧ Ar w2 g (ba (4 * C) f) ∧ Ks n C key f ∧ w.heap.size < g) := ⟨Za.out.1.trans hc2, Za.out.2.chg hc2, hA, hks, Nat.lt_of_lt_of_le Za.out.2.lt hg⟩
    clear hg hc2 hA hks Za
    go_wp2_with fail
    go_loopw [30] (fun v wr => ∃ (i : Nat) (k : Nat → By), v = .int .i64 i ∧ i ≤ C ∧ Chg w wr ∧ Ar wr w.heap.size (keyC R k) ∧ Ar wr g (ba (4 * C) f) ∧ ∀ j, j < 4 * i → k j = f j) (fun v wr => C - (intOf v).toNat)
    case atStart => exact ⟨0, zB, rfl, by omega, Z2.out.1, Z2.out.2.1, Z2.out.2.2.1, fun j hj => by omega⟩
    case round =>
      obtain ⟨i, k, rfl, hi, h1, h2, h3, h4⟩ := hrel
      have Z : Hid (Chg w wr ∧ Ar wr w.heap.size (keyC R k) ∧ Ar wr g (ba (4 * C) f) ∧ ∀ j, j < 4 * i → k j = f j) := ⟨h1, h2, h3, h4⟩
      clear h1 h2 h3 h4
      by_cases hiC : i < C
      · have hd : decide ((i : Int) < C) = true := by simp; omega
        have li : (i : Int) < C := by omega
        obtain ⟨t0, ht0⟩ : ∃ t0 : Nat → By, t0 = fun r => f (i * 4 + r) := ⟨_, rfl⟩
        have HT0 : Hid (t0 = fun r => f (i * 4 + r)) := ht0
        have rng : wr.rangeAt g (i * 4) (ba 4 t0).toList := by
          intro q v hv
          have hq4 : q < 4 := by
            have := (List.getElem?_eq_some_iff.1 hv).1
            rwa [Array.length_toList, ba_size] at this
          rw [Array.getElem?_toList, ba_get 4 t0 hq4] at hv
          rw [Z.out.2.2.1.cell, ba_get (4 * C) f (by omega), ← hv, ht0]
        have hsz := szB t0 zero46.2
        have hlen := lenB 4 zB t0
        have hone := ba_one 4 t0
        have hinf : (Tryz.prog.info? 70).map (·.size) = some (ba 4 t0).toList.length := by rw [Array.length_toList]; exact hsz
        obtain ⟨q, hq⟩ : ∃ q : Nat, q = i / 4 := ⟨_, rfl⟩
        obtain ⟨e, he⟩ : ∃ e : Nat, e = i % 4 := ⟨_, rfl⟩
        have hdiv : (i : Int).tdiv 4 = q := by rw [Int.tdiv_eq_ediv_of_nonneg (by omega), hq]; rfl
        have hmod : (i : Int).tmod 4 = e := by rw [Int.tmod_eq_emod_of_nonneg (by omega), he]; rfl
        obtain ⟨e4, he4⟩ : ∃ e4 : Nat, (e : Int) * 4 = e4 := ⟨e * 4, by omega⟩
        have wq := wrap_i (x := (q : Int)) (by omega) (by omega)
        have we4 := wrap_i (x := (e4 : Int)) (by omega) (by omega)
        have lq : (q : Int) < 15 := by omega
        have le4 : (e4 : Int) ≤ 16 := by omega
        have ne4 : ¬ 16 = e4 := by omega
        have ne4' : ¬ (16 : Int) = e4 := by omega
        obtain ⟨wb, hwb⟩ : ∃ wb, wb = (wr.alloc (.cells (ba 4 zB) 70)).setRow wr.heap.size (ba 4 t0) := ⟨_, rfl⟩
        have hKl := Z.out.2.1.lt
        have hgl := Z.out.2.2.1.lt
        have Zb : Hid (Chg w wb ∧ Ar wb w.heap.size (keyC R k) ∧ Ar wb g (ba (4 * C) f) ∧ Ar wb wr.heap.size (ba 4 t0)) := by
          rw [hwb]
          exact ⟨(Z.out.1.alloc _).setRow (Z.out.1.size) _, (Z.out.2.1.alloc _).rowOther (by omega) _, (Z.out.2.2.1.alloc _).rowOther (by omega) _, (Ar.new wr _ _).row _⟩
        have HI : Hid (q * 16 + e4 = 4 * i) := by show q * 16 + e4 = 4 * i; omega
        have hcp := run_cpK wb.drew w.heap.size R (q * 16 + e4) (16 - e4) (16 - e4) wr.heap.size 0 4 4 4 k t0 Zb.out.2.1 (fun j hj => by rw [Nat.zero_add]; exact (Zb.out.2.2.2.cell j).trans (ba_get 4 t0 hj)) (by show 4 = min 4 (16 - e4); omega) (by omega)
        rw [← Nat.add_assoc] at hcp
        clear ht0 hq he
        go_upto_region 7 with (first | refine wpList_load_mid rfl 70 _ rfl g (i * 4) rfl (ba 4 t0).toList _ rng und46 rfl hinf ?_ | refine wpList_store_row rfl 70 _ _ rfl _ _ rfl rfl _ _ (heap_alloc_last wr _) hsz hlen hone ?_)
        rw [← hwb]
        clear hwb rng hsz hlen hone hinf
        go_region_with (fail)
        all_goals go_wp2
        all_goals
          go_roundw
          case rel =>
            have hlt := Z2.out.2.2.2.2
            refine ⟨i + 1, over (q * 16 + e4) 4 t0 k, by go_num, by omega, (Zb.out.1.drew).setRow (by omega) _, Ar.row (w := wb.drew) Zb.out.2.1 _, Ar.rowOther (w := wb.drew) Zb.out.2.2.1 (by omega) _, fun j hj => ?_⟩
            have hI := HI.out
            unfold over
            split
            · rename_i h5
              rw [HT0.out]
              show f (i * 4 + (j - (q * 16 + e4))) = f j
              rw [show i * 4 + (j - (q * 16 + e4)) = j by omega]
            · exact Z.out.2.2.2 j (by omega)
          case measure => simp [intOf]; omega
      · have hiC2 : i = C := by omega
        subst hiC2
        have hd : decide ((i : Int) < i) = false := by simp
        go_wp2
        go_ret2
        refine ⟨w.heap.size, k, rfl, Nat.le_refl _, Z.out.1, Z.out.2.1, ?_⟩
        rw [← HC.out.2]
        have h1 := HC.out.1
        exact Z2.out.2.2.2.1.of (by omega) (by omega) Z.out.2.2.2
end Go.Proofs.YtobglgddbhddnaaGreat
