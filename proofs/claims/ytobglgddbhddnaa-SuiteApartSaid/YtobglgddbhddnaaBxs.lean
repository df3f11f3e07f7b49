/-
  All boxes: the function boxes.
-/
import Derived.Test.YtobglgddbhddnaaBxd
namespace Go.Proofs.Ytobglgddbhddnaa
open Go.RowKit
set_option linter.unusedVariables false

/-- The boxes that stand behind i powers. -/
def bxUp : Nat → Nat → By
  | 0 => updB zB 0 (bo 0#8)
  | i + 1 => updB (bxUp i) (pw i).toNat (bo (pw ((255 - i) % 255)))

theorem bxUp_has : ∀ i, i ≤ 255 → (bxUp i 0 = sb 0#8 ∨ ∃ k, k < i ∧ (pw k).toNat = 0) ∧ ∀ k, k < i → bxUp i (pw k).toNat = sb (pw k)
  | 0, _ => ⟨.inl (by simp only [bxUp, updB, if_true]; exact sb_zero.symm), fun k hk => by omega⟩
  | i + 1, hi => by
    obtain ⟨h0, h1⟩ := bxUp_has i (by omega)
    refine ⟨?_, ?_⟩
    · rcases h0 with h0 | ⟨k, hk, hz⟩
      · by_cases e : (pw i).toNat = 0
        · exact .inr ⟨i, by omega, e⟩
        · left
          have e' : ¬ 0 = (pw i).toNat := fun x => e x.symm
          simp only [bxUp, updB, e', if_false, h0]
      · exact .inr ⟨k, by omega, hz⟩
    · intro k hk
      by_cases e : (pw k).toNat = (pw i).toNat
      · have e2 : pw k = pw i := BitVec.eq_of_toNat_eq e
        rw [e2]
        simp only [bxUp, updB, if_true]
        exact (pw_box i (by omega)).symm
      · have hki : k < i := by
          rcases Nat.lt_or_ge k i with h | h
          · exact h
          · exact absurd (by rw [show k = i by omega]) e
        simp only [bxUp, updB, e, if_false]
        exact h1 k hki

theorem pw_pos : ∀ k, k < 255 → (pw k).toNat ≠ 0 := by decide +kernel

theorem bxUp_all : ∀ j, j < 256 → bxUp 255 j = sbF j := by
  intro j hj
  obtain ⟨h0, h1⟩ := bxUp_has 255 (by omega)
  by_cases e : j = 0
  · subst e
    rcases h0 with h | ⟨k, hk, hz⟩
    · exact h
    · exact absurd hz (pw_pos k hk)
  · obtain ⟨i, hi, he⟩ := pw_all j hj e
    have := h1 i hi
    rw [he] at this
    rw [this, ← he, sbF_at]

theorem agg5 (w : World) : (isAgg 5).run Try.prog w = .ok false w := by
  have h : Try.prog.underlying 5 = some (.int .u8) := by kernel_rfl
  unfold isAgg
  rw [Sem.run_bind, run_underlying h w]
  rfl
theorem size5 (w : World) : (sizeOf 5).run Try.prog w = .ok 1 w := by
  have h : (Try.prog.info? 5).map (·.size) = some 1 := by kernel_rfl
  cases hq : Try.prog.info? 5 with
  | none => simp [hq] at h
  | some i =>
    rw [hq] at h
    have h : i.size = 1 := Option.some.inj h
    simp [sizeOf, typeInfo, hq, h]
theorem run_idx {t n : Nat} (hu : Try.prog.underlying t = some (.array n 5)) (f : Nat → By) {i : Nat} (hi : i < n) (w : World) :
    (Instr.index t (.agg (ba n f)) (.int .i64 i)).run Try.prog w = .ok (.int .u8 ((f i).toNat : Int)) w := by
  have h2 : (i : Int) < n := by omega
  have h3 : ¬ n ≤ i := by omega
  simp [Instr.index, asIntOf, run_underlying hu, part, ba_get n f hi, Sem.run_bind, hi]

set_option maxRecDepth 100000 in
set_option maxHeartbeats 4000000 in
theorem boxes_any (w : World) : Calls Try.prog 35 #[] w fun r w' => r = .returned (.agg (ba 256 sbF)) ∧ Chg w w' := by
  have hz := zero47.1
  have hz2 := zero57.1
  go_enter Try.func35, Try.ntmps35
  go_wp2_with fail
  obtain ⟨w3, hw3⟩ : ∃ w3, w3 = (w.alloc (.cells (ba 256 zB) 75)).alloc (.cells (ba 255 zB) 87) := ⟨_, rfl⟩
  rw [← hw3]
  have z0 : Hid (Chg w w3 ∧ Ar w3 w.heap.size (ba 256 zB) ∧ Ar w3 (w.heap.size + 1) (ba 255 zB)) := by
    rw [hw3]
    exact ⟨((Chg.refl w).alloc _).alloc _, (Ar.new w _ _).alloc _, Ar.new1 w _ _ _⟩
  clear hw3
  go_loopw [2, 7] (fun v2 v7 wr => ∃ (i : Nat) (p : By), v7 = .int .i64 i ∧ i ≤ 255 ∧ v2 = .int .u8 (p.toNat : Int) ∧ Hid (i < 255 → p = pw i) ∧ Chg w wr ∧ Ar wr w.heap.size (ba 256 zB) ∧ Ar wr (w.heap.size + 1) (ba 255 (upTo i pw zB))) (fun v2 v7 wr => 255 - (intOf v7).toNat)
  case atStart =>
    obtain ⟨z1, z2, z3⟩ := z0.out
    exact ⟨0, 1#8, rfl, by omega, rfl, fun _ => pw_zero.symm, z1, z2, by rw [upTo_zero]; exact z3⟩
  case round =>
    clear z0
    obtain ⟨i, p, rfl, hi, rfl, hp, hch, h1, h2⟩ := hrel
    have H : Hid (Chg w wr ∧ Ar wr w.heap.size (ba 256 zB) ∧ Ar wr (w.heap.size + 1) (ba 255 (upTo i pw zB))) := ⟨hch, h1, h2⟩
    by_cases h255 : i < 255
    · have hd : decide ((i : Int) < 255) = true := by simp; omega
      have li : (i : Int) < 255 := by omega
      have c1 := (h2.cell i).trans (ba_get 255 _ h255)
      have f1 := h2.frozen i
      obtain ⟨x0, hx0⟩ : ∃ x, x = upTo i pw zB i := ⟨_, rfl⟩
      rw [← hx0] at c1
      clear hch h1 h2 hx0 hz hz2
      go_wp2_with (go_at_call 45; refine (double_any p _).mono ?_; rintro r w1 ⟨rfl, hw1⟩; rw [hw1])
      go_roundw
      case rel =>
        obtain ⟨k0, k1, k2⟩ := H.out
        refine ⟨i + 1, p ^^^ dbl p, by go_num, by omega, by rw [xorB], fun h => ?_, k0.setCell (by dsimp only; omega) _, k1.other (by dsimp only; omega) _, ?_⟩
        · rw [pw_succ i (by omega), hp.out h255]
        · have hh := k2.set i (.int .u8 (p.toNat : Int))
          rw [ba_set, hp.out h255, upTo_upd i pw zB] at hh
          rw [hp.out h255]
          exact hh
      case measure => simp [intOf]; omega
    · have : i = 255 := by omega
      subst this
      clear h2 h1 hch
      obtain ⟨wo, hwo⟩ : ∃ wo, wo = wr := ⟨_, rfl⟩
      rw [← hwo]
      have HO : Hid (Chg w wo ∧ Ar wo w.heap.size (ba 256 zB) ∧ Ar wo (w.heap.size + 1) (ba 255 pw)) := by
        rw [hwo]
        obtain ⟨k0, k1, k2⟩ := H.out
        rw [upTo_all] at k2
        exact ⟨k0, k1, k2⟩
      clear hwo H
      go_wp2_with fail
      go_at_call 46
      refine (boxOf_any 0#8 _).mono ?_
      rintro r w1 ⟨rfl, hw1⟩
      rw [hw1]
      clear hw1 w1
      have g4 := Ar.new wo (ba 256 zB) 70
      have c4 := (g4.cell 0).trans (ba_get 256 _ (by decide))
      have f4 := g4.frozen 0
      obtain ⟨PA, hPA⟩ : ∃ PA, PA = ba 255 pw := ⟨_, rfl⟩
      have HPA : Hid (PA = ba 255 pw) := hPA
      have HA : Hid (Ar (wo.alloc (.cells ((ba 256 zB).setIfInBounds 0 (.int .u8 ((bo 0#8).toNat : Int))) 75)) (w.heap.size + 1) PA) := by
        rw [hPA]
        exact HO.out.2.2.alloc _
      obtain ⟨t1, g1⟩ := HA.out
      have hsz := szB pw zero57.2
      rw [← hPA] at hsz
      clear hPA
      go_wp2_with (first | refine wpList_load_row rfl 87 _ rfl _ rfl _ _ _ _ g1 und57 rfl hsz ?_)
      obtain ⟨B, hB⟩ : ∃ B, B = wo.heap.size := ⟨_, rfl⟩
      obtain ⟨w5, hw5⟩ : ∃ w5, w5 = wo.alloc (.cells ((ba 256 zB).setIfInBounds 0 (.int .u8 ((bo 0#8).toNat : Int))) 75) := ⟨_, rfl⟩
      have HB : Hid (w.heap.size + 1 < B) := by rw [hB]; exact HO.out.2.2.lt
      have H5 : Hid (Chg w w5 ∧ Ar w5 w.heap.size (ba 256 zB) ∧ Ar w5 (w.heap.size + 1) PA ∧ Ar w5 B (ba 256 (bxUp 0))) := by
        have e := ba_set 256 zB 0 (bo 0#8)
        rw [hw5, hB, e, HPA.out]
        exact ⟨HO.out.1.alloc _, HO.out.2.1.alloc _, HO.out.2.2.alloc _, Ar.new wo _ _⟩
      rw [← hw5, ← hB]
      clear hw5 hB g1 g4 c4 f4 HO HA hsz hz hz2 hp
      go_loopw [21] (fun v wr => ∃ (i : Nat), v = .int .i64 i ∧ i ≤ 255 ∧ Chg w wr ∧ Ar wr w.heap.size (ba 256 zB) ∧ Ar wr (w.heap.size + 1) PA ∧ Ar wr B (ba 256 (bxUp i))) (fun v wr => 255 - (intOf v).toNat)
      case atStart => exact ⟨0, rfl, by omega, H5.out⟩
      case round =>
        clear H5
        obtain ⟨i, rfl, hi, hch, h1, h2, h3⟩ := hrel
        have H : Hid (Chg w wr ∧ Ar wr w.heap.size (ba 256 zB) ∧ Ar wr (w.heap.size + 1) PA ∧ Ar wr B (ba 256 (bxUp i))) := ⟨hch, h1, h2, h3⟩
        by_cases h255 : i < 255
        · have hd : decide ((i : Int) < 255) = true := by simp; omega
          have li : (i : Int) < 255 := by omega
          have hidx : ∀ u, (Instr.index 87 (.agg PA) (.int .i64 i)).run Try.prog u = .ok (.int .u8 ((pw i).toNat : Int)) u := by
            rw [HPA.out]
            exact run_idx und57 pw h255
          obtain ⟨m, hm⟩ : ∃ m : Nat, (255 : Int) - i = m := ⟨255 - i, by omega⟩
          have wm := wrap_i (x := (m : Int)) (by omega) (by omega)
          obtain ⟨q, hq⟩ : ∃ q : Nat, q = m % 255 := ⟨_, rfl⟩
          have hmod : (m : Int).tmod 255 = q := by rw [Int.tmod_eq_emod_of_nonneg (by omega), hq]; rfl
          have wq := wrap_i (x := (q : Int)) (by omega) (by omega)
          have lq : q < 255 := by omega
          have lq' : (q : Int) < 255 := by omega
          obtain ⟨X, hX⟩ : ∃ X, X = (pw i).toNat := ⟨_, rfl⟩
          rw [← hX] at hidx
          have lX : X < 256 := by rw [hX]; exact (pw i).isLt
          have lX' : (X : Int) < 256 := by omega
          have c1 : wr.cell? ⟨w.heap.size + 1, q, none⟩ = some (.int .u8 ((pw q).toNat : Int)) := by
            rw [h2.cell, HPA.out]
            exact ba_get 255 pw lq
          obtain ⟨y, hy⟩ : ∃ y, y = pw q := ⟨_, rfl⟩
          rw [← hy] at c1
          have c3 := (h3.cell X).trans (ba_get 256 _ lX)
          obtain ⟨x3, hx3⟩ : ∃ x, x = bxUp i X := ⟨_, rfl⟩
          rw [← hx3] at c3
          have f3 := h3.frozen X
          have HX : Hid (X = (pw i).toNat ∧ y = pw ((255 - i) % 255)) := by
            have e : (255 - i) % 255 = q := by omega
            rw [e]
            exact ⟨hX, hy⟩
          clear hch h1 h2 h3 hX hy hx3 hq
          go_wp2_with (first | (go_at_call 46; refine (boxOf_any y _).mono ?_; rintro r w1 ⟨rfl, hw1⟩; rw [hw1]))
          go_roundw
          case rel =>
            obtain ⟨k0, k1, k2, k3⟩ := H.out
            have hB := HB.out
            refine ⟨i + 1, by go_num, by omega, k0.setCell (by dsimp only; omega) _, k1.other (by dsimp only; omega) _, k2.other (by dsimp only; omega) _, ?_⟩
            have hh := k3.set X (.int .u8 ((bo y).toNat : Int))
            rw [ba_set] at hh
            rw [bxUp, ← HX.out.1, ← HX.out.2]
            exact hh
          case measure => simp [intOf]; omega
        · have : i = 255 := by omega
          subst this
          obtain ⟨k0, k1, k2, k3⟩ := H.out
          rw [ba_congr bxUp_all] at k3
          have hB := HB.out
          have K0 : Hid (Chg w wr ∧ Ar wr w.heap.size (ba 256 zB)) := ⟨k0, k1⟩
          obtain ⟨t1, g1⟩ := k3
          obtain ⟨t3, g3⟩ := k1
          have hsz := szB sbF zero47.2
          have hlen := lenB 256 zB sbF
          have hone := ba_one 256 sbF
          clear k0 k2 hch h1 h2 h3 H
          go_wp2_with (first | refine wpList_load_row rfl 75 _ rfl _ rfl _ _ _ _ g1 und47 rfl hsz ?_ | refine wpList_store_row rfl 75 _ _ rfl _ _ rfl rfl _ _ g3 hsz hlen hone ?_)
          refine bp_c (n := 256) (c := ba 256 sbF) Try.results35 rfl rfl ?_ und47 i47 (ba_size _ _) ⟨rfl, ?_⟩
          · exact K0.out.2.row _
          · exact K0.out.1.setRow (by omega) _
end Go.Proofs.Ytobglgddbhddnaa
