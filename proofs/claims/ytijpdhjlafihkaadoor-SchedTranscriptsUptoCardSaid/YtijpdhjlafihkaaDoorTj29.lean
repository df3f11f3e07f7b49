/-
  Expand: bytes made of a key.
-/
import Derived.Test.YtijpdhjlafihkaaDoorTj28
import Derived.Test.YtijpdhjlafihkaaDoorTj23
import Derived.Test.YtijpdhjlafihkaaDoorTj20
namespace Go.Proofs.YtijpdhjlafihkaaDoor
open Go.RowKit
set_option linter.unusedVariables false
set_option maxRecDepth 100000

theorem mk0 (n : Nat) (hn : n ≤ 1000000) (w : World) : (Instr.makeSlice 23 (.int .i64 0) (.int .i64 n)).run Tryd.prog w = .ok (.slice (some ⟨w.heap.size, 0, none⟩) 0 n) (w.alloc (.cells (arr .u8 n fun _ => 0) 5)) := by
  have hi : (Tryd.prog.info? 5).map (fun i => (i.zero, i.size, i.bytes)) = some (some (.int .u8 0), 1, 1) := by kernel_rfl
  cases hq : Tryd.prog.info? 5 with
  | none => rw [hq] at hi; cases hi
  | some i =>
    rw [hq] at hi
    have hi := Option.some.inj hi
    have h1 : i.zero = some (.int .u8 0) := congrArg (·.1) hi
    have h2 : i.size = 1 := congrArg (·.2.1) hi
    have h3 : i.bytes = 1 := congrArg (·.2.2) hi
    have := run_make (P := Tryd.prog) w 23 5 i _ u23 hq h1 .i64 .i64 0 n (by omega) (by omega) (by rw [h3]; omega) (by omega)
    rw [this, h2]
    have e : madeCells (Value.int .u8 0).cells ((n : Int).toNat * 1) = arr .u8 n fun _ => 0 := by
      apply Array.ext_getElem?
      intro j
      by_cases hj : j < n
      · simp [madeCells, arr, Value.cells, hj, Nat.mod_one]
      · simp [madeCells, arr, Value.cells, hj]
    rw [e]
    simp
theorem Own.made (w : World) (n : Nat) (hn : n ≤ 1000000) : OwnN w (w.alloc (.cells (arr .u8 n fun _ => 0) 5)) (.slice (some ⟨w.heap.size, 0, none⟩) 0 n) [] := by
  refine ⟨.inr ⟨w.heap.size, 0, 0, n, rfl, rfl, Nat.zero_le _, Nat.le_trans hn (by decide), _, heap_alloc_last w _, by rw [arr_size]; omega, by simp⟩, fun k e => ?_, (Ap.Chg.refl _ w).alloc _⟩
  simp [Value.ownBlock] at e
  omega
theorem Rd.take {w : World} {ao : Option Addr} {n c k : Nat} {xs : List Int} (h : Ap.Rd w (.slice ao n c) xs) (hk : k ≤ n) : Ap.Rd w (.slice ao k c) (xs.take k) := by
  obtain ⟨ao', n', c', e, hn, hc, hmx, h0, hx⟩ := h
  injection e with e1 e2 e3
  subst e1 e2 e3
  refine ⟨_, _, _, rfl, by rw [List.length_take]; omega, by omega, hmx, h0, fun x e j u hj => hx x e j u ?_⟩
  rw [List.getElem?_take] at hj
  split at hj
  · exact hj
  · cases hj
theorem size_pos {q : Int} (hv : Valid q) : 32 ≤ sizeOfH q := by rcases hv with rfl | rfl | rfl <;> decide

set_option maxRecDepth 100000 in
set_option maxHeartbeats 4000000 in
theorem expand_any (q : Int) (vk vi : Value) (key info : List Int) (n : Nat) (w : World) (hv : Valid q) (ht : Tabs w) (hk : Ap.Rd w vk key) (hkl : key.length ≤ 140737488351232) (hi : Ap.Rd w vi info) (hil : info.length < 4611686018427387904) (hn : n ≤ 255 * sizeOfH q) :
    Calls Tryd.prog 29 #[.int .i64 q, vk, vi, .int .i64 n] w fun r w' => ∃ o m c, r = .returned (.tuple #[.slice o m c, .int .i64 0]) ∧ Chg w w' ∧ Ap.Rd w' (.slice o m c) (expL q key info n) := by
  obtain ⟨io, im, ic, rfl, -⟩ := hi.shape
  obtain ⟨S, hS⟩ : ∃ S, S = sizeOfH q := ⟨_, rfl⟩
  have hS1 : 32 ≤ S ∧ S ≤ 64 := by rw [hS]; exact ⟨size_pos hv, size_le q⟩
  have hS0 : ¬ (S : Int) = 0 := by omega
  rw [← hS] at hn
  obtain ⟨M, hM⟩ : ∃ M : Nat, 255 * (S : Int) = M := ⟨255 * S, by omega⟩
  have wM := wrap_i (x := (M : Int)) (by omega) (by omega)
  have hnM : decide ((M : Int) < n) = false := by simp; omega
  have hnM' : decide (M < n) = false := by simp; omega
  have hSb : ((S : Int) == 0) = false := by simp; omega
  have hn0 : decide ((n : Int) < 0) = false := decide_eq_false (by omega)
  have HX : Hid (Valid q ∧ Tabs w ∧ Ap.Rd w vk key ∧ key.length ≤ 140737488351232 ∧ Ap.Rd w (.slice io im ic) info ∧ info.length < 4611686018427387904 ∧ S = sizeOfH q) := ⟨hv, ht, hk, hkl, hi, hil, hS⟩
  have HSz : Hid (∀ u, Calls Tryd.prog 20 #[.int .i64 q] u fun r w' => r = .returned (.int .i64 S) ∧ w' = u) := by
    intro u
    rw [hS]
    exact size_any q u
  have hmk := mk0 n (by omega)
  clear hv ht hk hkl hi hil hS
  go_enter Tryd.func29, Tryd.ntmps29
  go_wp2_with (go_at_call 20; (refine (HSz.out _).mono ?_; rintro r' w5 ⟨rfl, hw5⟩; rw [hw5]; clear hw5 w5))
  refine (under_any q vk key w HX.out.1 HX.out.2.1 HX.out.2.2.1 HX.out.2.2.2.1).mono ?_
  rintro e w1 ⟨P1, P2, rfl, hc1, hcl⟩
  have hmk1 := hmk w1
  have z1 : Hid (Chg w w1 ∧ Cl w1 q key P1 P2) := ⟨hc1, hcl⟩
  have z2 : Hid (OwnN w1 (w1.alloc (.cells (arr .u8 n fun _ => 0) 5)) (.slice (some ⟨w1.heap.size, 0, none⟩) 0 n) (expL q key info (min (S * 0) n))) := by
    have := Own.made w1 n (by omega)
    have e : expL q key info (min (S * 0) n) = [] := by simp [expL]
    rw [e]
    exact this
  clear hc1 hcl hmk
  go_wp2_with fail
  go_loopw [11, 12, 13] (fun v11 v12 v13 wr => ∃ (i : Nat), v13 = .int .i64 ((i + 1 : Nat) : Int) ∧ (i = 0 ∨ S * (i - 1) < n) ∧ OwnN w1 wr v11 (expL q key info (min (S * i) n)) ∧ (∃ o m c, v12 = .slice o m c ∧ Ap.Rd wr (.slice o m c) (tL q key info i) ∧ ∀ k, (Value.slice o m c).ownBlock = some k → v11.ownBlock ≠ some k)) (fun v11 v12 v13 wr => n + 64 - S * ((intOf v13).toNat - 1))
  case atStart => exact ⟨0, rfl, .inl rfl, z2.out, none, 0, 0, rfl, Ap.Rd.nil _, fun k e => by simp [Value.ownBlock] at e⟩
  case round =>
    clear z2 hmk1
    obtain ⟨i, rfl, hi0, ho, lo, lm, lc, rfl, hrl, hnb⟩ := hrel
    obtain ⟨ao, am, ac, rfl, ham, -⟩ := ho.own.rd.shape
    obtain ⟨P, hP⟩ : ∃ P : Nat, P = S * i := ⟨_, rfl⟩
    have hlen := expL_len q key info (min (S * i) n) (by rw [← HX.out.2.2.2.2.2.2]; omega)
    rw [← hP] at ho hlen ham
    rw [hlen] at ham
    have H : Hid (OwnN w1 wr (.slice ao am ac) (expL q key info (min P n)) ∧ Ap.Rd wr (.slice lo lm lc) (tL q key info i) ∧ (∀ k, (Value.slice lo lm lc).ownBlock = some k → (Value.slice ao am ac).ownBlock ≠ some k) ∧ P = S * i ∧ (i = 0 ∨ S * (i - 1) < n)) := ⟨ho, hrl, hnb, hP, hi0⟩
    clear ho hrl hnb hlen
    by_cases hPn : P < n
    · have hamP : am = P := by omega
      subst hamP
      have hi255 : i < 255 := by
        rcases Nat.lt_or_ge i 255 with h' | h'
        · exact h'
        · have : S * 255 ≤ S * i := Nat.mul_le_mul_left S h'
          omega
      have had : decide ((am : Int) < n) = true := by simp; omega
      obtain ⟨x, hx⟩ : ∃ x, x = IntKind.u8.wrap ((i + 1 : Nat) : Int) := ⟨_, rfl⟩
      obtain ⟨d, hd⟩ : ∃ d : Nat, (n : Int) - am = d := ⟨n - am, by omega⟩
      have wd := wrap_i (x := (d : Int)) (by omega) (by omega)
      obtain ⟨r, hr⟩ : ∃ r : Nat, r = min S d := ⟨_, rfl⟩
      have hr1 : min (S : Int) (d : Int) = r := by omega
      have hrS : (r : Int) ≤ S := by omega
      have HR : Hid (x = IntKind.u8.wrap ((i + 1 : Nat) : Int) ∧ d = n - am ∧ r = min S d) := ⟨hx, by omega, hr⟩
      have hxc : IntKind.u8.wrap (((i + 1 : Nat) : Int)) = x := hx.symm
      obtain ⟨i1, hi1⟩ : ∃ i1 : Nat, i1 = i + 1 := ⟨_, rfl⟩
      rw [← hi1] at hxc ⊢
      have HI : Hid (i1 = i + 1) := hi1
      have hi1b : i1 ≤ 255 := by omega
      clear hx hr hi1 hP hi0 ham
      obtain ⟨u2, hu2⟩ : ∃ u2, u2 = (wr.alloc (.cells #[.int .u8 x] 5)).alloc (.cells #[.slice lo lm lc, .slice io im ic, .slice (some ⟨wr.heap.size, 0, none⟩) 1 1] 23) := ⟨_, rfl⟩
      have q2 : Chg wr u2 := by rw [hu2]; exact ((Chg.refl wr).alloc _).alloc _
      have hpt : Pt u2 (.slice (some ⟨wr.heap.size + 1, 0, none⟩) 3 3) [tL q key info i, info, [x]] := by
        have q1 : Chg wr (wr.alloc (.cells #[.int .u8 x] 5)) := (Chg.refl wr).alloc _
        have hcw : Chg w wr := z1.out.1.trans (Chg.ofAp H.out.1.chg)
        have := Pt.made3 (Chg.refl (wr.alloc (.cells #[.int .u8 x] 5))) ((Rd.slA H.out.2.1 (by cases i with | zero => simp [tL] | succ i => rw [tL_len]; have := size_le q; omega)).chg q1) (Rd.slA (Rd.chg HX.out.2.2.2.2.1 (hcw.trans q1)) HX.out.2.2.2.2.2.1) (Rd.slA (Ap.Rd.one wr x) (by simp)) 23
        rw [World.size_alloc, ← hu2] at this
        exact this
      have HC : Hid (Calls Tryd.prog 55 #[.slice (some ⟨wr.heap.size + 1, 0, none⟩) 3 3, .pointer (some ⟨P1, 0, none⟩), .pointer (some ⟨P2, 0, none⟩)] u2 fun r w' => ∃ b, r = .returned (.slice (some ⟨b, 0, none⟩) S S) ∧ wr.heap.size < b ∧ Chg wr w' ∧ Ap.Rd w' (.slice (some ⟨b, 0, none⟩) S S) (tL q key info (i + 1))) := by
        have hcw : Chg w1 wr := Chg.ofAp H.out.1.chg
        refine (closure_any q _ _ P1 P2 key u2 HX.out.1 (HX.out.2.1.chg (z1.out.1.trans (hcw.trans q2))) hpt (z1.out.2.chg (hcw.trans q2))).mono ?_
        rintro e w3 ⟨b, rfl, hb, k2, k3⟩
        have hrd := Rd.ofArr k3 (Nat.le_trans (size_le q) (by omega))
        have hsz : u2.heap.size = wr.heap.size + 1 + 1 := by rw [hu2, World.size_alloc, World.size_alloc]
        rw [← HX.out.2.2.2.2.2.2] at hrd ⊢
        refine ⟨b, rfl, by omega, q2.trans k2, ?_⟩
        have e1 : [tL q key info i, info, [x]].flatten = tL q key info i ++ info ++ [IntKind.u8.wrap ((i + 1 : Nat) : Int)] := by
          rw [← HR.out.1]
          simp
        rw [e1] at hrd
        rw [tL, macL, sumL, ← HX.out.2.2.2.2.2.2]
        exact hrd
      clear hpt q2
      go_wp2_with fail
      rw [← hu2]
      clear hu2
      refine HC.out.mono ?_
      rintro e w3 ⟨b, rfl, hb, hc3, hr3⟩
      have Z3 : Hid (OwnN w1 w3 (.slice ao am ac) (expL q key info am) ∧ Ap.Rd w3 (.slice (some ⟨b, 0, none⟩) S S) (tL q key info (i + 1)) ∧ (Value.slice ao am ac).ownBlock ≠ some b ∧ b < w3.heap.size) := by
        have h1 := H.out.1
        rw [Nat.min_eq_left (by omega)] at h1
        refine ⟨⟨OwnV.chg h1.own hc3, h1.new, h1.chg.trans hc3.toAp (fun _ _ e => e)⟩, hr3, fun e => ?_, ?_⟩
        · have := h1.own.lt b e
          omega
        · obtain ⟨g, off, e, hc⟩ := Rd.cell hr3 (by rw [tL_len]; have := size_le q; omega) (i := 0) (by rw [tL_len, ← HX.out.2.2.2.2.2.2]; omega)
          injection e with e
          injection e with e _ _
          have := block_lt_of_cell hc
          dsimp only at this
          omega
      clear hb hc3 hr3 HC
      by_cases hdS : d < S
      · have hrR : r = d := by omega
        have HT : Hid (Ap.Rd w3 (.slice (some ⟨b, 0, none⟩) d S) ((tL q key info (i + 1)).take d)) := Rd.take Z3.out.2.1 (by omega)
        go_wp2_with (at_builtin; refine Ap.wpList_app _ rfl _ _ rfl (.slice ao am ac) (.slice (some ⟨b, 0, none⟩) d S) (expL q key info am) ((tL q key info (i + 1)).take d) rfl rfl Z3.out.1.own HT.out (by rw [List.length_take, expL, List.length_take]; have := tL_len q key info i; have := size_le q; omega) ?_)
        intro v4 w4 o4 c4 b4
        obtain ⟨fo, fm, fc, rfl, -⟩ := o4.rd.shape
        have Z4 : Hid (OwnN w1 w4 (.slice fo fm fc) (expL q key info (min (S * (i + 1)) n)) ∧ Ap.Rd w4 (.slice (some ⟨b, 0, none⟩) S S) (tL q key info (i + 1)) ∧ ∀ k, (Value.slice (some ⟨b, 0, none⟩) S S).ownBlock = some k → (Value.slice fo fm fc).ownBlock ≠ some k) := by
          have hS := HX.out.2.2.2.2.2.2
          have hP := H.out.2.2.2.1
          have hm := expL_more q key info n i hi255 (by rw [← hS, ← hP]; exact hPn)
          rw [← hS, ← hP, Nat.min_eq_left (Nat.le_of_lt hPn), ← HR.out.2.1, ← HR.out.2.2, hrR] at hm
          have k := Z3.out.1.more o4 c4 b4
          rw [hm] at k
          refine ⟨k, Z3.out.2.1.keep (fun j e hj => c4.block j hj (fun e2 => ?_)), fun j e => ?_⟩
          · simp [Value.ownBlock] at e
            subst e
            exact Z3.out.2.2.1 e2
          · simp [Value.ownBlock] at e
            subst e
            rcases b4 with b4 | b4
            · rw [b4]
              exact Z3.out.2.2.1
            · rw [b4]
              intro e2
              injection e2 with e2
              have := Z3.out.2.2.2
              omega
        clear o4 c4 b4 HT
        go_wp2_with fail
        have hi2 := HI.out
        have hP := H.out.2.2.2.1
        refine ⟨⟨i + 1, by rw [hi2]; go_num, .inr (by rw [Nat.add_sub_cancel, ← hP]; exact hPn), Z4.out.1, _, _, _, rfl, Z4.out.2.1, Z4.out.2.2⟩, ?_⟩
        have e1 : S * (i + 1) = am + S := by rw [Nat.mul_succ, ← hP]
        have e2 : (intOf (Value.int .i64 ((i1 : Int) + 1))).toNat - 1 = i + 1 := by simp [intOf]; omega
        have e3 : (intOf (Value.int .i64 (i1 : Int))).toNat - 1 = i := by simp [intOf]; omega
        show n + 64 - S * ((intOf (Value.int .i64 ((i1 : Int) + 1))).toNat - 1) < n + 64 - S * ((intOf (Value.int .i64 (i1 : Int))).toNat - 1)
        rw [e2, e3, e1, ← hP]
        omega
      · have hrR : r = S := by omega
        have HT : Hid (Ap.Rd w3 (.slice (some ⟨b, 0, none⟩) S S) ((tL q key info (i + 1)).take S)) := Rd.take Z3.out.2.1 (by omega)
        go_wp2_with (at_builtin; refine Ap.wpList_app _ rfl _ _ rfl (.slice ao am ac) (.slice (some ⟨b, 0, none⟩) S S) (expL q key info am) ((tL q key info (i + 1)).take S) rfl rfl Z3.out.1.own HT.out (by rw [List.length_take, expL, List.length_take]; have := tL_len q key info i; have := size_le q; omega) ?_)
        intro v4 w4 o4 c4 b4
        obtain ⟨fo, fm, fc, rfl, -⟩ := o4.rd.shape
        have Z4 : Hid (OwnN w1 w4 (.slice fo fm fc) (expL q key info (min (S * (i + 1)) n)) ∧ Ap.Rd w4 (.slice (some ⟨b, 0, none⟩) S S) (tL q key info (i + 1)) ∧ ∀ k, (Value.slice (some ⟨b, 0, none⟩) S S).ownBlock = some k → (Value.slice fo fm fc).ownBlock ≠ some k) := by
          have hS := HX.out.2.2.2.2.2.2
          have hP := H.out.2.2.2.1
          have hm := expL_more q key info n i hi255 (by rw [← hS, ← hP]; exact hPn)
          rw [← hS, ← hP, Nat.min_eq_left (Nat.le_of_lt hPn), ← HR.out.2.1, ← HR.out.2.2, hrR] at hm
          have k := Z3.out.1.more o4 c4 b4
          rw [hm] at k
          refine ⟨k, Z3.out.2.1.keep (fun j e hj => c4.block j hj (fun e2 => ?_)), fun j e => ?_⟩
          · simp [Value.ownBlock] at e
            subst e
            exact Z3.out.2.2.1 e2
          · simp [Value.ownBlock] at e
            subst e
            rcases b4 with b4 | b4
            · rw [b4]
              exact Z3.out.2.2.1
            · rw [b4]
              intro e2
              injection e2 with e2
              have := Z3.out.2.2.2
              omega
        clear o4 c4 b4 HT
        go_wp2_with fail
        have hi2 := HI.out
        have hP := H.out.2.2.2.1
        refine ⟨⟨i + 1, by rw [hi2]; go_num, .inr (by rw [Nat.add_sub_cancel, ← hP]; exact hPn), Z4.out.1, _, _, _, rfl, Z4.out.2.1, Z4.out.2.2⟩, ?_⟩
        have e1 : S * (i + 1) = am + S := by rw [Nat.mul_succ, ← hP]
        have e2 : (intOf (Value.int .i64 ((i1 : Int) + 1))).toNat - 1 = i + 1 := by simp [intOf]; omega
        have e3 : (intOf (Value.int .i64 (i1 : Int))).toNat - 1 = i := by simp [intOf]; omega
        show n + 64 - S * ((intOf (Value.int .i64 ((i1 : Int) + 1))).toNat - 1) < n + 64 - S * ((intOf (Value.int .i64 (i1 : Int))).toNat - 1)
        rw [e2, e3, e1, ← hP]
        omega
    · have hamn : am = n := by omega
      have had : decide ((am : Int) < n) = false := by simp; omega
      have had' : decide (am < n) = false := by simp; omega
      have Z : Hid (Chg w wr ∧ Ap.Rd wr (.slice ao am ac) (expL q key info n)) := by
        have h1 := H.out.1
        rw [Nat.min_eq_right (by omega)] at h1
        exact ⟨z1.out.1.trans (Chg.ofAp h1.chg), h1.own.rd⟩
      clear H hP hi0 hamn ham
      go_wp2_with fail
      go_ret2
      exact ⟨ao, am, ac, rfl, Z.out.1, Z.out.2⟩
end Go.Proofs.YtijpdhjlafihkaaDoor
