/-
  ShaEnds, walked.
-/
import Derived.Test.YtbnonbhlfiadaaaDoorRefO
import Derived.Test.YtbnonbhlfiadaaaDoorHead
import Derived.Test.YtbnonbhlfiadaaaDoorStr
import Derived.Test.YtbnonbhlfiadaaaDoorApL
namespace Go.Proofs.YtbnonbhlfiadaaaDoor
open Go.RowKit
set_option linter.unusedVariables false

/-- A slice whose bytes make a string, here and in whatever comes of this world. -/
def TxV (w : World) (v : Value) (s : ByteArray) : Prop := ∀ w', Chg w w' → (convert 23 9 v).run Tryd.prog w' = .ok (.string s) w'
theorem TxV.chg {w w' : World} {v : Value} {s : ByteArray} (h : TxV w v s) (k : Chg w w') : TxV w' v s := fun u hu => h u (k.trans hu)
theorem sumL_none {q : Int} (hv : ¬ Valid q) (xs : List Int) : sumL q xs = [] := by
  have : sizeOfH q = 0 := by
    unfold sizeOfH
    rw [if_neg (fun e => hv (.inl e)), if_neg (fun e => hv (.inr (.inl e))), if_neg (fun e => hv (.inr (.inr e)))]
  rw [sumL, this]
  rfl
theorem of_both (q : Int) (v : Value) (xss : List (List Int)) (w : World) (ht : Tabs w) (hp : Pt w v xss) :
    Calls Tryd.prog 8 #[.int .i64 q, v] w fun r w' => ∃ o n c, r = .returned (.slice o n c) ∧ Chg w w' ∧ TxV w' (.slice o n c) (strOfNums (sumL q xss.flatten)) := by
  by_cases hv : Valid q
  · refine (of_any q v xss w hv ht hp).mono ?_
    rintro r w' ⟨b, rfl, _, k2, k3⟩
    exact ⟨_, _, _, rfl, k2, fun u hu => run_strA u b _ _ (k3.chg hu)⟩
  · refine (of_none q v xss w hv ht hp).mono ?_
    rintro r w' ⟨rfl, k2⟩
    refine ⟨_, _, _, rfl, k2, fun u hu => ?_⟩
    rw [sumL_none hv]
    exact run_strNil u
theorem refOf_both (q : Int) (v : Value) (xs : List Int) (w : World) (hr : Ap.Rd w v xs) (hx : ∀ x ∈ xs, 0 ≤ x ∧ x < 256) (hl : xs.length ≤ 140737488351232) :
    Calls Tryd.prog 9 #[.int .i64 q, v] w fun r w' => ∃ o n c, r = .returned (.slice o n c) ∧ Chg w w' ∧ TxV w' (.slice o n c) (strOfNums (sumL q xs)) := by
  by_cases hv : Valid q
  · refine (refOf_any q v xs w hv hr hx hl).mono ?_
    rintro r w' ⟨v', rfl, k2, k3⟩
    obtain ⟨o, n, c, rfl, -⟩ := k3.shape
    exact ⟨_, _, _, rfl, k2, fun u hu => Ap.run_str u _ _ (Rd.chg k3 hu)⟩
  · refine (refOf_none q v w hv).mono ?_
    rintro r w' ⟨rfl, rfl⟩
    refine ⟨_, _, _, rfl, Chg.refl _, fun u hu => ?_⟩
    rw [sumL_none hv]
    exact run_strNil u
/-- The beginning of a block of bytes that are all alike. -/
theorem Rd.fill {w : World} {b N k : Nat} {x : Int} (h : Ar w b (arr .u8 N fun _ => x)) (hk : k ≤ N) (hN : N ≤ 1000000) : Ap.Rd w (.slice (some ⟨b, 0, none⟩) k N) (List.replicate k x) := by
  refine ⟨_, _, _, rfl, by simp, hk, Nat.le_trans hN (by decide), (fun e => absurd e (by simp)), fun y e j u hj => ?_⟩
  injection e with e
  subst e
  rw [List.getElem?_replicate] at hj
  split at hj
  · injection hj with hj
    subst hj
    have := (h.cell j).trans (arr_get .u8 N (fun _ => x) (i := j) (by omega))
    have ha : (⟨b, 0, none⟩ : Addr).add j = ⟨b, 0 + j, none⟩ := by unfold Addr.add; split <;> simp_all
    rw [ha, Nat.zero_add]
    exact this
  · cases hj

set_option maxRecDepth 100000 in
set_option maxHeartbeats 4000000 in
theorem ends_walk (q x : Int) (m : Nat) (w : World) (ht : Tabs w) (hx0 : 0 ≤ x) (hx1 : x < 256) (hm : m < 256) :
    Calls Tryd.prog 5 #[.int .i64 q, .int .u8 x, .int .u8 m] w fun e w' => e = .returned (.bool true) ∧ Chg w w' := by
  have HT : Hid (Tabs w) := ht
  have HX : Hid (0 ≤ x ∧ x < 256) := ⟨hx0, hx1⟩
  clear ht hx0 hx1
  obtain ⟨N, hN⟩ : ∃ N : Nat, 100 + (m : Int) = N := ⟨100 + m, by omega⟩
  have wm := wrap_i (x := (m : Int)) (by omega) (by omega)
  have wN := wrap_i (x := (N : Int)) (by omega) (by omega)
  have hmk := mk8 N (by omega)
  have hN' : N < 356 := by omega
  have h100 : 100 ≤ N := by omega
  go_enter Tryd.func5, Tryd.ntmps5
  go_wp2_with fail
  refine (head_any w HT.out).mono ?_
  rintro e w1 ⟨rfl, hc1⟩
  obtain ⟨Bb, hBb⟩ : ∃ Bb, Bb = w1.heap.size := ⟨_, rfl⟩
  obtain ⟨w2, hw2⟩ : ∃ w2, w2 = w1.alloc (.cells (arr .u8 N fun _ => 0) 5) := ⟨_, rfl⟩
  have hmk1 := hmk w1
  rw [← hw2, ← hBb] at hmk1
  have z1 : Hid (Chg w w2 ∧ Ar w2 Bb (arr .u8 N (fun j => if j < 0 then x else 0)) ∧ w.heap.size ≤ Bb) := by
    refine ⟨hc1.trans (by rw [hw2]; exact (Chg.refl w1).alloc _), ?_, by rw [hBb]; exact hc1.size⟩
    rw [hw2, hBb]
    exact Ar.new w1 _ _
  clear hmk hc1 hw2 hBb
  go_wp2_with fail
  go_loopw [9] (fun v wr => ∃ (i : Nat), v = .int .i64 i ∧ i ≤ N ∧ Chg w wr ∧ Ar wr Bb (arr .u8 N (fun j => if j < i then x else 0))) (fun v wr => N - (intOf v).toNat)
  case atStart => exact ⟨0, rfl, by omega, z1.out.1, z1.out.2.1⟩
  case round =>
    have HB : Hid (w.heap.size ≤ Bb) := z1.out.2.2
    clear z1 hmk1 hN wm wN
    obtain ⟨i, rfl, hi, hch, ha⟩ := hrel
    have H : Hid (Chg w wr ∧ Ar wr Bb (arr .u8 N (fun j => if j < i then x else 0))) := ⟨hch, ha⟩
    by_cases hiN : i < N
    · have hid : decide ((i : Int) < N) = true := by simp; omega
      have li : (i : Int) < N := by omega
      obtain ⟨y, hy⟩ : ∃ y, y = (fun j => if j < i then x else (0 : Int)) i := ⟨_, rfl⟩
      have c0 := (ha.cell i).trans (arr_get .u8 N (fun j => if j < i then x else 0) hiN)
      dsimp only at c0 hy
      rw [← hy] at c0
      have f0 := ha.frozen i
      clear hy hch ha
      go_wp2
      go_roundw
      case rel =>
        obtain ⟨k0, k1⟩ := H.out
        refine ⟨i + 1, by go_num, by omega, k0.setCell (by dsimp only; exact HB.out) _, ?_⟩
        have hh := k1.set i (.int .u8 x)
        rw [arr_set] at hh
        have e : upd (fun j => if j < i then x else 0) i x = (fun j => if j < i + 1 then x else (0 : Int)) := by
          funext j
          unfold upd
          by_cases hj : j = i
          · subst hj; simp
          · have e : (j < i + 1) ↔ j < i := by omega
            simp [hj, e]
        rw [e] at hh
        exact hh
      case measure => simp [intOf]; omega
    · have hid : decide ((i : Int) < N) = false := by simp; omega
      have z2 : Hid (Chg w wr ∧ Ar wr Bb (arr .u8 N fun _ => x)) := by
        refine ⟨hch, ?_⟩
        have e : arr .u8 N (fun j => if j < i then x else 0) = arr .u8 N (fun _ => x) := arr_congr fun j hj => by rw [if_pos (by omega)]
        rw [e] at ha
        exact ha
      clear hch ha H
      go_wp2_with fail
      obtain ⟨w3, hw3⟩ : ∃ w3, w3 = wr := ⟨_, rfl⟩
      subst hw3
      go_loopw [10] (fun v wr => ∃ (n : Nat), v = .int .i64 n ∧ 40 ≤ n ∧ n ≤ N + 13 ∧ Chg w wr ∧ Ar wr Bb (arr .u8 N fun _ => x)) (fun v wr => 1000 - (intOf v).toNat)
      case atStart => exact ⟨40, rfl, by omega, by omega, z2.out.1, z2.out.2⟩
      case round =>
        clear z2
        obtain ⟨n, rfl, hn0, hn1, hch, ha⟩ := hrel
        have H : Hid (Chg w wr ∧ Ar wr Bb (arr .u8 N fun _ => x)) := ⟨hch, ha⟩
        clear hch ha
        by_cases hnN : n < N
        · have hnd : decide ((n : Int) < N) = true := by simp; omega
          have ln : (n : Int) ≤ N := by omega
          obtain ⟨s, hs⟩ : ∃ s, s = strOfNums (sumL q (List.replicate n x)) := ⟨_, rfl⟩
          have HOf : Hid (∀ u v, Chg wr u → Pt u v [List.replicate n x] → Calls Tryd.prog 8 #[.int .i64 q, v] u fun r w' => ∃ o k c, r = .returned (.slice o k c) ∧ Chg u w' ∧ TxV w' (.slice o k c) s) := by
            intro u v hu hp
            have := of_both q v [List.replicate n x] u (HT.out.chg (H.out.1.trans hu)) hp
            rw [show [List.replicate n x].flatten = List.replicate n x by simp, ← hs] at this
            exact this
          have HRf : Hid (∀ u, Chg wr u → Calls Tryd.prog 9 #[.int .i64 q, .slice (some ⟨Bb, 0, none⟩) n N] u fun r w' => ∃ o k c, r = .returned (.slice o k c) ∧ Chg u w' ∧ TxV w' (.slice o k c) s) := by
            intro u hu
            have := refOf_both q _ _ u (Rd.fill (k := n) (H.out.2.chg hu) (by omega) (by omega)) (fun y hy => by rw [List.mem_replicate] at hy; rw [hy.2]; exact HX.out) (by rw [List.length_replicate]; omega)
            rw [← hs] at this
            exact this
          have HPt : Hid (∀ u, Chg wr u → Pt (u.alloc (.cells #[.slice (some ⟨Bb, 0, none⟩) n N] 23)) (.slice (some ⟨u.heap.size, 0, none⟩) 1 1) [List.replicate n x]) := fun u hu => Pt.made1 (Chg.refl u) (Rd.slA (Rd.fill (k := n) (H.out.2.chg hu) (by omega) (by omega)) (by rw [List.length_replicate]; omega)) 23
          clear hs
          go_wp2_with fail
          go_cut [45] from 32 to 45 (fun v wc => v = .bool false ∧ Chg wr wc)
          case first =>
            go_region_with (first
              | (go_at_call 9; (refine (HRf.out _ (by first | exact (Chg.refl _).drew | exact (Chg.refl _).drew.alloc _ | exact ((Chg.refl _).alloc _).drew | exact hO8)).mono ?_; rintro e wS ⟨oS, nS, cS, rfl, hcS, haS⟩; have hS8 : Chg wr wS := Chg.trans (by first | exact (Chg.refl _).drew | exact (Chg.refl _).drew.alloc _ | exact ((Chg.refl _).alloc _).drew | exact hO8) hcS; have kS := haS _ (Chg.refl _); have kSa := fun o => haS _ ((Chg.refl _).alloc o); try have kO2 := haO _ hcS))
              | (go_at_call 8; (refine (HOf.out _ _ (by first | exact (Chg.refl _).drew.alloc _ | exact ((Chg.refl _).alloc _).drew | exact hS8.alloc _ | exact hS8) (by first | exact HPt.out _ (Chg.refl _).drew | exact Pt.chg (HPt.out _ (Chg.refl _)) (Chg.refl _).drew | exact HPt.out _ hS8 | exact (HPt.out _ (Chg.refl _).drew).chg hcS | exact (Pt.chg (HPt.out _ (Chg.refl _)) (Chg.refl _).drew).chg hcS)).mono ?_; rintro e wO ⟨oO, nO, cO, rfl, hcO, haO⟩; have hO8 : Chg wr wO := Chg.trans (by first | exact (Chg.refl _).drew.alloc _ | exact ((Chg.refl _).alloc _).drew | exact hS8.alloc _ | exact hS8) hcO; have kO := haO _ (Chg.refl _); try have kS2 := haS _ (Chg.trans (by first | exact Chg.refl _ | exact (Chg.refl _).alloc _) hcO))))
            all_goals go_wp2_with fail
            all_goals go_meet
            all_goals first | exact ⟨rfl, hO8⟩ | exact ⟨rfl, hS8⟩ | exact ⟨rfl, hO8.drew⟩ | exact ⟨rfl, hS8.drew⟩
          obtain ⟨rfl, hcc⟩ := hcut
          have Z : Hid (Chg w wc ∧ Ar wc Bb (arr .u8 N fun _ => x)) := ⟨H.out.1.trans hcc, H.out.2.chg hcc⟩
          clear hcc HOf HRf HPt H
          go_wp2
          go_roundw
          case rel => exact ⟨n + 13, by go_num, by omega, by omega, Z.out.1, Z.out.2⟩
          case measure => simp [intOf]; omega
        · have hnd : decide ((n : Int) < N) = false := by simp; omega
          go_wp2
          go_ret
          exact ⟨rfl, H.out.1⟩
end Go.Proofs.YtbnonbhlfiadaaaDoor
