/-
  ShaPieces, walked.
-/
import Derived.Test.YtbnonbhlfiadaaaDoorInc
import Derived.Test.YtbnonbhlfiadaaaDoorR33c
namespace Go.Proofs.YtbnonbhlfiadaaaDoor
open Go.RowKit
set_option linter.unusedVariables false

theorem OwnV.empty (u : World) : Ap.OwnV (u.alloc (.cells #[] 5)) (.slice (some ⟨u.heap.size, 0, none⟩) 0 0) [] :=
  .inr ⟨u.heap.size, 0, 0, 0, rfl, rfl, Nat.le_refl _, by decide, #[], heap_alloc_last u _, by simp, by simp⟩
theorem OwnN.empty (u : World) : OwnN u (u.alloc (.cells #[] 5)) (.slice (some ⟨u.heap.size, 0, none⟩) 0 0) [] :=
  ⟨OwnV.empty u, fun k e => by simp [Value.ownBlock] at e; omega, (Ap.Chg.refl _ u).alloc _⟩
theorem Rd.sl {w : World} {v : Value} {xs : List Int} (h : Ap.Rd w v xs) (hl : xs.length < 4611686018427387904) (D : Nat) (hD : v.ownBlock ≠ some D) : Sl w D v xs := by
  rcases Rd.slA h hl with k | k | ⟨b, o, cap, k1, k2, k3, k4⟩
  · exact .inl k
  · exact .inr (.inl k)
  · refine .inr (.inr ⟨b, o, cap, k1, k2, k3, k4, fun e => hD ?_⟩)
    rw [k1, e]
    rfl
theorem BRow.of_ownV {w : World} {so : Option Addr} {n cap : Nat} {xs : List Int} (h : Ap.OwnV w (.slice so n cap) xs) : n = 0 ∨ ∃ g off, so = some ⟨g, off, none⟩ ∧ BRow w g off n := by
  rcases h with ⟨e, _⟩ | ⟨g, off, n', c', e, ow⟩
  · injection e with _ e2 _
    exact .inl e2
  · injection e with e1 e2 e3
    subst e1 e2 e3
    exact .inr ⟨g, off, rfl, BRow.of_own ow⟩

theorem Rd.two (w : World) (a b : Int) : Ap.Rd (w.alloc (.cells #[.int .u8 a, .int .u8 b] 5)) (.slice (some ⟨w.heap.size, 0, none⟩) 2 2) [a, b] := by
  refine ⟨_, _, _, rfl, rfl, Nat.le_refl _, by decide, fun e => by (cases e), fun x e j u hj => ?_⟩
  cases e
  match j, hj with
  | 0, hj => simp at hj; subst hj; simp [Addr.add]
  | 1, hj => simp at hj; subst hj; simp [Addr.add]
/-- Where the pieces stand: the digest, what was written, the place in the list. -/
structure Pc (w wr : World) (q : Int) (D : Nat) (v : Value) (all : List Int) (xss : List (List Int)) (i : Nat) : Prop where
  chg : Chg w wr
  low : w.heap.size ≤ D
  dig : DgC wr D q all (cnt all)
  own : Ap.OwnV wr v all
  new : ∀ k, v.ownBlock = some k → w.heap.size ≤ k ∧ k ≠ D
  len : all.length ≤ (xss.take i).flatten.length + i

set_option maxRecDepth 100000 in
set_option maxHeartbeats 8000000 in
theorem pieces_none (q : Int) (v : Value) (xss : List (List Int)) (cl : Int) (w : World) (hv : ¬ Valid q) (ht : Tabs w) (hp : PtR w v xss) (hl : xss.flatten.length ≤ 1048576) :
    Calls Tryd.prog 4 #[.int .i64 q, v, .int .i64 cl] w fun e w' => e = .returned (.bool true) ∧ Chg w w' := by
  have hS : sizeOfH q = 0 := by
    unfold sizeOfH
    rw [if_neg (fun e => hv (.inl e)), if_neg (fun e => hv (.inr (.inl e))), if_neg (fun e => hv (.inr (.inr e)))]
  have HX : Hid (¬ Valid q ∧ Tabs w ∧ Pt w v xss) := ⟨hv, ht, hp.pt (fun xs hx => by have := flat_mem hx; omega)⟩
  have HSz : Hid (∀ u, Calls Tryd.prog 10 #[.int .i64 q] u fun r w' => r = .returned (.int .i64 0) ∧ w' = u) := by
    intro u
    have := size_any q u
    rw [hS] at this
    exact this
  clear hv ht hp hl hS
  go_enter Tryd.func4, Tryd.ntmps4
  go_wp2_with fail
  refine (head_any w HX.out.2.1).mono ?_
  rintro e w1 ⟨rfl, hc1⟩
  have Z1 : Hid (Chg w w1) := hc1
  clear hc1
  go_wp2_with fail
  refine (new_none q w1 HX.out.1).mono ?_
  rintro e w2 ⟨rfl, rfl⟩
  go_wp2_with (go_at_call 10; (refine (HSz.out _).mono ?_; rintro r' w5 ⟨rfl, hw5⟩; rw [hw5]; clear hw5 w5))
  refine (of_none q v xss w2 HX.out.1 (HX.out.2.1.chg Z1.out) (HX.out.2.2.chg Z1.out)).mono ?_
  rintro e w3 ⟨rfl, hc3⟩
  have Z3 : Hid (Chg w w3) := Z1.out.trans hc3
  clear hc3
  go_wp2_with fail
  go_ret
  exact ⟨rfl, Z3.out⟩

set_option maxRecDepth 100000 in
set_option maxHeartbeats 40000000 in
theorem pieces_walk (q : Int) (v : Value) (xss : List (List Int)) (cl : Int) (w : World) (hv : Valid q) (ht : Tabs w) (hp : PtR w v xss) (hl : xss.flatten.length ≤ 1048576) (hl2 : xss.length ≤ 1048576) :
    Calls Tryd.prog 4 #[.int .i64 q, v, .int .i64 cl] w fun e w' => e = .returned (.bool true) ∧ Chg w w' := by
  obtain ⟨n, p, cap, hn, rfl, hnb⟩ := hp.shape
  have HX : Hid (Valid q ∧ Tabs w ∧ PtR w (.slice p n cap) xss ∧ n = xss.length ∧ xss.flatten.length ≤ 1048576 ∧ xss.length ≤ 1048576) := ⟨hv, ht, hp, hn, hl, hl2⟩
  obtain ⟨S, hS⟩ : ∃ S, S = sizeOfH q := ⟨_, rfl⟩
  have hS1 : 32 ≤ S ∧ S ≤ 64 := by rw [hS]; rcases hv with rfl | rfl | rfl <;> decide
  have hS0 : ¬ (S : Int) = 0 := by omega
  have hSb : ((S : Int) == 0) = false := by simp; omega
  have HSz : Hid (∀ u, Calls Tryd.prog 10 #[.int .i64 q] u fun r w' => r = .returned (.int .i64 S) ∧ w' = u) := by
    intro u
    rw [hS]
    exact size_any q u
  have HS : Hid (S = sizeOfH q) := hS
  have hn2 : n ≤ 1048576 := by omega
  clear hv ht hp hn hl hl2 hS
  go_enter Tryd.func4, Tryd.ntmps4
  go_wp2_with fail
  refine (head_any w HX.out.2.1).mono ?_
  rintro e w1 ⟨rfl, hc1⟩
  have Z1 : Hid (Chg w w1) := hc1
  clear hc1
  go_wp2_with fail
  refine (new_any q w1 HX.out.1 (HX.out.2.1.chg Z1.out)).mono ?_
  rintro e w2 ⟨D0, rfl, hD, hc2, hd2⟩
  have Z2 : Hid (Pc w w2 q D0 (.slice none 0 0) [] xss 0) := ⟨Z1.out.trans hc2, Nat.le_trans Z1.out.size hD, hd2, .inl ⟨rfl, rfl⟩, (fun k e => by simp [Value.ownBlock] at e), by simp⟩
  clear hD hc2 hd2
  go_wp2_with (go_at_call 10; (refine (HSz.out _).mono ?_; rintro r' w5 ⟨rfl, hw5⟩; rw [hw5]; clear hw5 w5))
  go_loopw [8, 9, 10] (fun v8 v9 v10 wr => ∃ (i D : Nat) (so : Option Addr) (sm sc : Nat) (all : List Int), v8 = .pointer (some ⟨D, 0, none⟩) ∧ v9 = .slice so sm sc ∧ v10 = .int .i64 i ∧ i ≤ n ∧ Pc w wr q D (.slice so sm sc) all xss i) (fun v8 v9 v10 wr => n - (intOf v10).toNat)
  case atStart => exact ⟨0, D0, none, 0, 0, [], rfl, rfl, rfl, by omega, Z2.out⟩
  case round =>
    clear Z2 Z1
    obtain ⟨i, D, so, sm, sc, all, rfl, rfl, rfl, hi, hpc⟩ := hrel
    have H : Hid (Pc w wr q D (.slice so sm sc) all xss i) := hpc
    by_cases hin : i < n
    · have hid : decide ((i : Int) < n) = true := by simp; omega
      have li : (i : Int) < n := by omega
      have hlt : i < xss.length := by have := HX.out.2.2.2.1; omega
      obtain ⟨b, o, u, rfl, -, g1, g2⟩ := HX.out.2.2.1.part (i := i) hlt
      have hfl := flat_take hlt
      have h1 := flat_le xss (i + 1)
      have h2 := flat_le xss i
      obtain ⟨ys, hys⟩ : ∃ ys, ys = xss[i]'hlt := ⟨_, rfl⟩
      rw [← hys] at g2 hfl
      rw [hfl, List.length_append] at h1
      obtain ⟨uo, un, uc, rfl, -⟩ := g2.shape
      have HG : Hid (w.cell? ⟨b, o + i, none⟩ = some (.slice uo un uc) ∧ Ap.Rd w (.slice uo un uc) ys ∧ (xss.take (i + 1)).flatten = (xss.take i).flatten ++ ys ∧ ys.length ≤ 1048576 ∧ (xss.take i).flatten.length ≤ 1048576) := ⟨g1, g2, hfl, by have := HX.out.2.2.2.2.1; omega, by have := HX.out.2.2.2.2.1; omega⟩
      have c0 : (wr.alloc (.cells #[] 5)).cell? ⟨b, o + i, none⟩ = some (.slice uo un uc) := cell_at (hpc.chg.alloc _) g1
      have Z0 : Hid (OwnN wr (wr.alloc (.cells #[] 5)) (.slice (some ⟨wr.heap.size, 0, none⟩) 0 0) [] ∧ Ap.Rd (wr.alloc (.cells #[] 5)) (.slice uo un uc) ys) := ⟨OwnN.empty wr, Rd.chg g2 (hpc.chg.alloc _)⟩
      clear hys g1 g2 hfl h1 h2 hlt hpc
      go_wp2_with (at_builtin; refine Ap.wpList_app _ rfl _ _ rfl (.slice (some ⟨wr.heap.size, 0, none⟩) 0 0) (.slice uo un uc) [] ys rfl rfl Z0.out.1.own Z0.out.2 (by have := HG.out.2.2.2.1; simp; omega) ?_)
      intro vo w2 o2 c2 b2
      obtain ⟨oo, on, oc, rfl, hon, -⟩ := o2.rd.shape
      have Z2 : Hid (OwnN wr w2 (.slice oo on oc) ys) := by
        have k := Z0.out.1.more o2 c2 (by rw [World.size_alloc]; exact b2)
        show OwnN _ _ _ _
        simpa using k
      have hon' : on ≤ 1048576 := by have := HG.out.2.2.2.1; (try simp at hon); omega
      clear o2 c2 b2 Z0 c0 hon
      go_wp2_with fail
      have hoD : (Value.slice oo on oc).ownBlock ≠ some D := fun e => by have := Z2.out.new D e; have := H.out.dig.lt; omega
      refine (write_any D q all ys (.slice oo on oc) w2 HX.out.1 (HX.out.2.1.chg (H.out.chg.trans (Chg.ofAp Z2.out.chg))) (by have := H.out.low; have := HX.out.2.1.size; omega) (H.out.dig.chg (Chg.ofAp Z2.out.chg)) (Rd.sl Z2.out.own.rd (by have := HG.out.2.2.2.1; omega) D hoD)).mono ?_
      rintro e w3 ⟨rfl, hc3, hd3⟩
      have Z3 : Hid (Chg w w3 ∧ DgC w3 D q (all ++ ys) (cnt (all ++ ys)) ∧ Ap.OwnV w3 (.slice oo on oc) ys ∧ Ap.OwnV w3 (.slice so sm sc) all ∧ (∀ k, (Value.slice oo on oc).ownBlock = some k → w.heap.size ≤ k ∧ k ≠ D ∧ (Value.slice so sm sc).ownBlock ≠ some k)) := by
        have k1 := H.out.chg.trans (Chg.ofAp Z2.out.chg)
        refine ⟨Cb.low k1 hc3 H.out.low, hd3, OwnV.cb Z2.out.own hc3 (fun k e e2 => hoD (by rw [← e2]; exact e)), OwnV.cb (OwnV.chg H.out.own (Chg.ofAp Z2.out.chg)) hc3 (fun k e => (H.out.new k e).2), fun k e => ?_⟩
        have hk := Z2.out.new k e
        refine ⟨Nat.le_trans H.out.chg.size hk, fun e2 => hoD (by rw [← e2]; exact e), fun e3 => ?_⟩
        have := H.out.own.lt k e3
        omega
      clear hc3 hd3 Z2
      go_upto_block 2 with fail
      refine inc2_any oo on oc w3 (BRow.of_ownV Z3.out.2.2.1) (by omega) ?_
      intro u12 u51 u52 u53 u54 u55 u56 u57 u58 u59 u60 u61 u62 w4 c4
      have Z4 : Hid (Chg w w4 ∧ DgC w4 D q (all ++ ys) (cnt (all ++ ys)) ∧ Ap.OwnV w4 (.slice so sm sc) all) := by
        obtain ⟨k1, k2, k3, k4, k5⟩ := Z3.out
        refine ⟨k1.ap c4 (fun i e => (k5 i e).1), k2.ap c4 (fun e => (k5 D e).2.1 rfl), k4.keep (fun i e => c4.block i (k4.lt i e) (fun e2 => (k5 i e2).2.2 e))⟩
      have c1 : w4.cell? ⟨b, o + i, none⟩ = some (.slice uo un uc) := cell_at Z4.out.1 HG.out.1
      clear Z3 c4 hoD
      go_wp2_with (at_builtin; refine Ap.wpList_app _ rfl _ _ rfl (.slice so sm sc) (.slice uo un uc) all ys rfl rfl Z4.out.2.2 (Rd.chg HG.out.2.1 Z4.out.1) (by have := HG.out.2.2.2; have := H.out.len; omega) ?_)
      intro va w5 o5 c5 b5
      obtain ⟨ao, an, ac, rfl, -⟩ := o5.rd.shape
      have Z5 : Hid (Pc w w5 q D (.slice ao an ac) (all ++ ys) xss (i + 1) ∧ (all ++ ys).length ≤ 4194304 ∧ (all ++ ys).length ≤ (xss.take (i + 1)).flatten.length + i) := by
        obtain ⟨k1, k2, k3⟩ := Z4.out
        have hl := H.out.len
        have hg := HG.out.2.2
        refine ⟨⟨k1.ap c5 (fun j e => (H.out.new j e).1), H.out.low, k2.ap c5 (fun e => (H.out.new D e).2 rfl), o5, fun j e => ?_, ?_⟩, ?_⟩
        · rcases b5 with b5 | b5
          · rw [b5] at e
            exact H.out.new j e
          · rw [b5] at e
            injection e with e
            have := k1.size
            have := k2.lt
            exact ⟨by omega, by omega⟩
        · rw [hg.1, List.length_append, List.length_append]
          omega
        · rw [hg.1, List.length_append, List.length_append]
          omega
      clear o5 c5 b5 Z4 c1 H
      go_wp2_with fail
      refine (sum_any D q (all ++ ys) w5 HX.out.1 (HX.out.2.1.chg Z5.out.1.chg) Z5.out.1.dig).mono ?_
      rintro e w6 ⟨bS, rfl, hbS, hc6, ha6⟩
      rw [← HS.out] at ha6 ⊢
      obtain ⟨s, hs⟩ : ∃ s, s = strOfNums (sumL q (all ++ ys)) := ⟨_, rfl⟩
      have Z6 : Hid (Pc w w6 q D (.slice ao an ac) (all ++ ys) xss (i + 1) ∧ Ar w6 bS (arr .u8 S (sumByte q (sumSt q (all ++ ys)))) ∧ w5.heap.size ≤ bS ∧ (∀ k, (Value.slice ao an ac).ownBlock = some k → k < bS) ∧ D < bS ∧ TxV w6 (.slice (some ⟨bS, 0, none⟩) S S) s ∧ (all ++ ys).length ≤ 4194304 ∧ (all ++ ys).length ≤ (xss.take (i + 1)).flatten.length + i) := by
        obtain ⟨⟨k1, k2, k3, k4, k5, k6⟩, k7⟩ := Z5.out
        refine ⟨⟨k1.trans hc6, k2, k3.chg hc6, OwnV.chg k4 hc6, k5, k6⟩, ha6, hbS, fun k e => Nat.lt_of_lt_of_le (k4.lt k e) hbS, Nat.lt_of_lt_of_le k3.lt hbS, fun u hu => ?_, k7⟩
        have := run_strA u bS S _ (ha6.chg hu)
        rw [this, hs, sumL, HS.out]
      have HOf : Hid (∀ u v, Chg w6 u → Pt u v [all ++ ys] → Calls Tryd.prog 8 #[.int .i64 q, v] u fun r w' => ∃ o k c, r = .returned (.slice o k c) ∧ Chg u w' ∧ TxV w' (.slice o k c) s) := by
        intro u v hu hp
        have := of_both q v [all ++ ys] u (HX.out.2.1.chg (Z6.out.1.chg.trans hu)) hp
        rw [show [all ++ ys].flatten = all ++ ys by simp, ← hs] at this
        exact this
      have HPt : Hid (∀ u, Chg w6 u → Pt (u.alloc (.cells #[.slice ao an ac] 23)) (.slice (some ⟨u.heap.size, 0, none⟩) 1 1) [all ++ ys]) := fun u hu => Pt.made1 (Chg.refl u) (Rd.slA (Rd.chg Z6.out.1.own.rd hu) (by have := Z6.out.2.2.2.2.2.2.1; omega)) 23
      have kT : ∀ u, Chg w6 u → (convert 23 9 (.slice (some ⟨bS, 0, none⟩) S S)).run Tryd.prog u = .ok (.string s) u := Z6.out.2.2.2.2.2.1
      have kT0 := kT _ (Chg.refl _).drew
      have kT1 := fun o => kT _ ((Chg.refl w6).drew.alloc o)
      have kT2 := fun o => kT _ ((Chg.refl w6).alloc o).drew
      have HKT : Hid (∀ u, Chg w6 u → (convert 23 9 (.slice (some ⟨bS, 0, none⟩) S S)).run Tryd.prog u = .ok (.string s) u) := kT
      clear hs hc6 ha6 hbS Z5 kT
      go_wp2_with fail
      go_cut [78] from 71 to 78 (fun v wc => v = .bool false ∧ Chg w6 wc)
      case first =>
        go_region_with (first
          | (go_at_call 8; (refine (HOf.out _ _ (by first | exact (Chg.refl _).drew.alloc _ | exact ((Chg.refl _).alloc _).drew) (by first | exact HPt.out _ (Chg.refl _).drew | exact Pt.chg (HPt.out _ (Chg.refl _)) (Chg.refl _).drew)).mono ?_; rintro e wO ⟨oO, nO, cO, rfl, hcO, haO⟩; have hO8 : Chg w6 wO := Chg.trans (by first | exact (Chg.refl _).drew.alloc _ | exact ((Chg.refl _).alloc _).drew) hcO; have kO := haO _ (Chg.refl _); have kO2 := HKT.out _ hO8)))
        all_goals go_wp2_with fail
        all_goals go_meet
        all_goals first | exact ⟨rfl, hO8⟩ | exact ⟨rfl, hO8.drew⟩
      obtain ⟨rfl, hcc⟩ := hcut
      obtain ⟨w7, hw7⟩ : ∃ w7, w7 = wc := ⟨_, rfl⟩
      subst hw7
      have Z7 : Hid (Pc w w7 q D (.slice ao an ac) (all ++ ys) xss (i + 1) ∧ BRow w7 bS 0 S ∧ w.heap.size ≤ bS ∧ (∀ k, (Value.slice ao an ac).ownBlock = some k → k < bS) ∧ D < bS ∧ (all ++ ys).length ≤ 4194304 ∧ (all ++ ys).length ≤ (xss.take (i + 1)).flatten.length + i) := by
        obtain ⟨⟨k1, k2, k3, k4, k5, k6⟩, k7, k8, k9, k10, k11, k12⟩ := Z6.out
        exact ⟨⟨k1.trans hcc, k2, k3.chg hcc, OwnV.chg k4 hcc, k5, k6⟩, BRow.of_arr (k7.chg hcc), by omega, k9, k10, k12⟩
      clear hcc Z6 HOf HPt HKT kT0 kT1 kT2
      go_upto_block 4 with fail
      refine inc4_any (some ⟨bS, 0, none⟩) S S w7 (.inr ⟨bS, 0, rfl, Z7.out.2.1⟩) (by omega) ?_
      intro u14 u79 u80 u81 u82 u83 u84 u85 u86 u87 u88 u89 u90 w8 c8
      have Z8 : Hid (Pc w w8 q D (.slice ao an ac) (all ++ ys) xss (i + 1) ∧ (all ++ ys).length ≤ 4194304 ∧ (all ++ ys).length ≤ (xss.take (i + 1)).flatten.length + i) := by
        obtain ⟨⟨k1, k2, k3, k4, k5, k6⟩, k7, k8, k9, k10, k12⟩ := Z7.out
        refine ⟨⟨k1.ap c8 (fun j e => by simp [Value.ownBlock] at e; omega), k2, k3.ap c8 (fun e => by simp [Value.ownBlock] at e; omega), k4.keep (fun j e => c8.block j (k4.lt j e) (fun e2 => by have := k9 j e; simp [Value.ownBlock] at e2; omega)), k5, k6⟩, k12⟩
      have HLo : Hid (w.heap.size ≤ D) := Z8.out.1.low
      clear Z7 c8
      by_cases hcl : (i : Int) = cl
      · have hcd : decide ((i : Int) = cl) = true := by simp [hcl]
        have hcd' : ((i : Int) == cl) = true := by simp [hcl]
        clear hcl
        go_wp2_with fail
        refine (clone_any D q (all ++ ys) (cnt (all ++ ys)) w8 Z8.out.1.dig).mono ?_
        rintro e w9 ⟨rfl, hc9, hd9⟩
        obtain ⟨E, hE⟩ : ∃ E, E = w8.heap.size := ⟨_, rfl⟩
        rw [← hE] at hd9 ⊢
        have Z9 : Hid (Pc w w9 q D (.slice ao an ac) (all ++ ys) xss (i + 1) ∧ DgC w9 E q (all ++ ys) (cnt (all ++ ys)) ∧ D < E ∧ w.heap.size ≤ E ∧ (∀ k, (Value.slice ao an ac).ownBlock = some k → k < E) ∧ (all ++ ys).length ≤ 4194304 ∧ (all ++ ys).length ≤ (xss.take (i + 1)).flatten.length + i) := by
          obtain ⟨⟨k1, k2, k3, k4, k5, k6⟩, k7⟩ := Z8.out
          exact ⟨⟨k1.trans hc9, k2, k3.chg hc9, OwnV.chg k4 hc9, k5, k6⟩, hd9, by rw [hE]; exact k3.lt, by rw [hE]; exact k1.size, fun k e => by rw [hE]; exact k4.lt k e, k7.1, k7.2⟩
        clear hc9 hd9 hE Z8
        have r1 : Ap.Rd (w9.alloc (.cells #[.int .u8 1] 5)) (.slice (some ⟨w9.heap.size, 0, none⟩) 1 1) [1] := Ap.Rd.one w9 1
        have HR1 : Hid (Ap.Rd (w9.alloc (.cells #[.int .u8 1] 5)) (.slice (some ⟨w9.heap.size, 0, none⟩) 1 1) [1]) := r1
        clear r1
        go_wp2_with fail
        refine (write_any E q (all ++ ys) [1] (.slice (some ⟨w9.heap.size, 0, none⟩) 1 1) _ HX.out.1 (HX.out.2.1.chg (Z9.out.1.chg.alloc _)) (by have := Z9.out.2.2.2.1; have := HX.out.2.1.size; omega) (Z9.out.2.1.chg ((Chg.refl _).alloc _)) (Rd.sl HR1.out (by simp) E (fun e => by have := Z9.out.2.1.lt; simp [Value.ownBlock] at e; omega))).mono ?_
        rintro e wa ⟨rfl, hca, hda⟩
        have Za : Hid (Chg w wa ∧ DgC wa E q (all ++ ys ++ [1]) (cnt (all ++ ys ++ [1])) ∧ DgC wa D q (all ++ ys) (cnt (all ++ ys)) ∧ Ap.OwnV wa (.slice ao an ac) (all ++ ys)) := by
          obtain ⟨⟨k1, k2, k3, k4, k5, k6⟩, k7, k8, k9, k10, k11⟩ := Z9.out
          refine ⟨Cb.low (k1.alloc _) hca k9, hda, (k3.chg ((Chg.refl _).alloc _)).cb hca (by omega), OwnV.cb (OwnV.chg k4 ((Chg.refl _).alloc _)) hca (fun k e => by have := k10 k e; omega)⟩
        have HR2 : Hid (Ap.Rd (wa.alloc (.cells #[.int .u8 1] 5)) (.slice (some ⟨wa.heap.size, 0, none⟩) 1 1) [1]) := Ap.Rd.one wa 1
        clear hca hda HR1
        go_wp2_with (at_builtin; refine Ap.wpList_app _ rfl _ _ rfl (.slice ao an ac) (.slice (some ⟨wa.heap.size, 0, none⟩) 1 1) (all ++ ys) [1] rfl rfl (OwnV.chg Za.out.2.2.2 ((Chg.refl _).alloc _)) HR2.out (by have := Z9.out.2.2.2.2.2.1; simp only [List.length_cons, List.length_nil]; omega) ?_)
        intro vb wb ob cb bb
        obtain ⟨eo, en, ec, rfl, -⟩ := ob.rd.shape
        have Zb : Hid (Pc w wb q E (.slice eo en ec) (all ++ ys ++ [1]) xss (i + 1) ∧ DgC wb D q (all ++ ys) (cnt (all ++ ys)) ∧ D ≠ E ∧ (∀ k, (Value.slice eo en ec).ownBlock = some k → k ≠ D) ∧ D < wb.heap.size) := by
          obtain ⟨⟨k1, k2, k3, k4, k5, k6⟩, k7, k8, k9, k10, k11, k12⟩ := Z9.out
          obtain ⟨j1, j2, j3, j4⟩ := Za.out
          have hE2 := j2.lt
          have hD2 := j3.lt
          refine ⟨⟨(j1.alloc _).ap cb (fun j e => (k5 j e).1), k9, (j2.chg ((Chg.refl _).alloc _)).ap cb (fun e => by have := k10 E e; omega), (by first | exact ob | (rw [List.append_assoc]; exact ob)), fun j e => ?_, ?_⟩, (j3.chg ((Chg.refl _).alloc _)).ap cb (fun e => (k5 D e).2 rfl), by omega, fun j e => ?_, ?_⟩
          · rcases bb with bb | bb
            · rw [bb] at e
              exact ⟨(k5 j e).1, by have := k10 j e; omega⟩
            · rw [bb] at e
              try rw [World.size_alloc] at e
              injection e with e
              have := j1.size
              exact ⟨by omega, by omega⟩
          · rw [List.length_append]
            simp only [List.length_cons, List.length_nil]
            omega
          · rcases bb with bb | bb
            · rw [bb] at e
              exact (k5 j e).2
            · rw [bb] at e
              try rw [World.size_alloc] at e
              injection e with e
              omega
          · have := cb.size
            rw [World.size_alloc] at this
            omega
        have HR3 : Hid (Ap.Rd (wb.alloc (.cells #[.int .u8 2, .int .u8 3] 5)) (.slice (some ⟨wb.heap.size, 0, none⟩) 2 2) [2, 3]) := Rd.two wb 2 3
        clear ob cb bb Za HR2 Z9
        go_wp2_with fail
        refine (write_any D q (all ++ ys) [2, 3] (.slice (some ⟨wb.heap.size, 0, none⟩) 2 2) _ HX.out.1 (HX.out.2.1.chg (Zb.out.1.chg.alloc _)) (by have := HLo.out; have := HX.out.2.1.size; omega) (Zb.out.2.1.chg ((Chg.refl _).alloc _)) (Rd.sl HR3.out (by simp) D (fun e => by have := Zb.out.2.2.2.2; simp [Value.ownBlock] at e; omega))).mono ?_
        rintro e wd ⟨rfl, hcd, hdd⟩
        have Zd : Hid (Pc w wd q E (.slice eo en ec) (all ++ ys ++ [1]) xss (i + 1)) := by
          obtain ⟨⟨k1, k2, k3, k4, k5, k6⟩, j1, j2, j3, j4⟩ := Zb.out
          exact ⟨Cb.low (k1.alloc _) hcd HLo.out, k2, (k3.chg ((Chg.refl _).alloc _)).cb hcd (fun e => j2 e.symm), OwnV.cb (OwnV.chg k4 ((Chg.refl _).alloc _)) hcd j3, k5, k6⟩
        clear hcd hdd Zb HR3
        go_wp2_with fail
        refine ⟨⟨i + 1, E, eo, en, ec, all ++ ys ++ [1], rfl, rfl, by go_num, by omega, Zd.out⟩, ?_⟩
        simp [intOf]
        omega
      · go_wp2
        go_roundw
        case rel => exact ⟨i + 1, D, ao, an, ac, all ++ ys, rfl, rfl, by go_num, by omega, Z8.out.1⟩
        case measure => simp [intOf]; omega
    · have hid : decide ((i : Int) < n) = false := by simp; omega
      clear hpc
      go_wp2_with fail
      refine last_any q D all xss so p sm sc n cap wr HX.out.1 (HX.out.2.1.chg H.out.chg) H.out.dig H.out.own.rd (by have := H.out.len; have := flat_le xss i; have := HX.out.2.2.2.2; omega) (HX.out.2.2.1.chg H.out.chg) (by have := HX.out.2.2.2.2.1; omega) ?_
      intro u109 u110 u111 u112 u113 u114 u115 u116 u117 u118 u119 u120 u121 u122 u123 u124 u125 u126 u127 u128 u129 u130 u131 u132 u133 u134 u135 u136 w9 c9
      have Z9 : Hid (Chg w w9) := H.out.chg.trans c9
      clear c9 H
      go_wp2_with fail
      go_ret
      exact ⟨rfl, Z9.out⟩
end Go.Proofs.YtbnonbhlfiadaaaDoor
