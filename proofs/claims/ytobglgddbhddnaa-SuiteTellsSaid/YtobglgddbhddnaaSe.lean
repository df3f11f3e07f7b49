/-
  A text is locked up: Seal.
-/
import Derived.Test.YtobglgddbhddnaaTa
import Derived.Test.YtobglgddbhddnaaNew
namespace Go.Proofs.Ytobglgddbhddnaa
open Go.RowKit
set_option linter.unusedVariables false

/-- append that must grow. -/
theorem wpList_grow (w : World) {ops : Array Oper} {rest : List Oper} {o : Oper} {a : Act} {Q : Exit → Act → World → Prop}
    (hg : o.guard = none) (s x : Operand) (hop : o.op = Op.call { callee := Callee.builtin Builtin.append, args := #[s, x], argTypes := #[35, 35] })
    (ao : Option Addr) (n c : Nat) (sv : Value) (xs ys : List Int) (hs : a.eval s = .slice ao n c) (hx : a.eval x = sv) (hn : n = xs.length) (hv : Ap.Rd w (.slice ao n c) xs) (hr : Ap.Rd w sv ys) (hb : xs.length + ys.length ≤ 140737488355328) (hc : ¬ xs.length + ys.length ≤ c)
    (hK : ∀ v' w', Ap.OwnV w' v' (xs ++ ys) → Chg w w' → v'.ownBlock = some w.heap.size → wpList Try.prog ops Q rest (a.put o.dst v') w') :
    wpList Try.prog ops Q (o :: rest) a w := by
  refine wpList_plain hg fun K hK' => ?_
  subst hn
  obtain ⟨v', w', hrun, r1, r2, r3⟩ := Ap.run_grow o.type w ao c sv xs ys hv hr hb hc
  unfold Oper.wp
  simp [execOp, hop, resolve, invoke, builtin, hs, hx, hrun, Result.andThen]
  exact hK' _ _ (hK v' w' r1 (Chg.non r2) r3)

/-- What a text becomes, and behind it the tag. -/
def sealF (R : Nat) (k nc ta : Nat → By) (na : Nat) (tx : Nat → By) (nx : Nat) : Nat → By := fun j => if j < nx then stF R k (ctrB nc 2#8) tx j else tagF R k nc ta na (stF R k (ctrB nc 2#8) tx) nx (j - nx)
theorem nums_seal (R : Nat) (k nc ta : Nat → By) (na : Nat) (tx : Nat → By) (nx : Nat) : nums nx (stF R k (ctrB nc 2#8) tx) ++ nums 16 (tagF R k nc ta na (stF R k (ctrB nc 2#8) tx) nx) = nums (nx + 16) (sealF R k nc ta na tx nx) := by
  rw [nums_split (nx + 16) nx _ (by omega), show nx + 16 - nx = 16 by omega]
  congr 1
  · exact nums_congr fun i hi => by rw [sealF, if_pos hi]
  · exact nums_congr fun i hi => by rw [sealF, if_neg (by omega), show nx + i - nx = i by omega]

set_option maxRecDepth 100000 in
set_option maxHeartbeats 4000000 in
theorem sealBad_any (ao : Option Addr) (L cap : Nat) (nc : Nat → By) (va vx : Value) (w : World) (h1 : L ≠ 16) (h2 : L ≠ 32) :
    Calls Try.prog 21 #[.slice ao L cap, .agg (ba 12 nc), va, vx] w fun r w' => r = .returned (.tuple #[.slice none 0 0, .int .i64 1]) ∧ Chg w w' := by
  have hsA := ba_size 12 nc
  obtain ⟨A, hA⟩ : ∃ A, A = ba 12 nc := ⟨_, rfl⟩
  rw [← hA] at hsA ⊢
  clear hA
  go_enter Try.func21, Try.ntmps21
  go_wp2_with (first | (go_at_call 26; refine (newBad_any ao L cap _ h1 h2).mono ?_; rintro r w2 ⟨rfl, hw2⟩; rw [hw2]))
  go_ret2
  exact ⟨rfl, (Chg.refl w).alloc _⟩

set_option maxRecDepth 100000 in
set_option maxHeartbeats 4000000 in
theorem seal_any (kb ko cap L n R : Nat) (key nc ta tx : Nat → By) (na nx : Nat) (va vx : Value) (w : World) (hv : Bs w kb ko L key) (hL : L = 4 * n) (hn : n = 4 ∨ n = 8) (hR : R = n + 6) (hcap : L ≤ cap) (hcap' : cap ≤ 9223372036854775807)
    (hva : Ap.Rd w va (nums na ta)) (hvx : Ap.Rd w vx (nums nx tx)) (hna : na ≤ 140737488351232) (hnx : nx ≤ 140737488351232) :
    Calls Try.prog 21 #[.slice (some ⟨kb, ko, none⟩) L cap, .agg (ba 12 nc), va, vx] w fun r w' => ∃ k v, r = .returned (.tuple #[v, .int .i64 0]) ∧ OwnN w w' v (nums (nx + 16) (sealF R k nc ta na tx nx)) ∧ Ks n (4 * (R + 1)) key k := by
  have hsA := ba_size 12 nc
  have hszA := szB nc zero38.2
  obtain ⟨c2, hc2⟩ : ∃ c, c = ctrB nc 2#8 := ⟨_, rfl⟩
  have HC2 : Hid (c2 = ctrB nc 2#8) := hc2
  have C1 : Hid (∀ u, Calls Try.prog 28 #[.agg (ba 12 nc), .int .u8 2] u fun r w' => r = .returned (.agg (ba 16 c2)) ∧ Chg u w') := by
    rw [hc2]
    exact fun u => counter_any nc 2#8 u
  have HX : Hid (Bs w kb ko L key ∧ L = 4 * n ∧ (n = 4 ∨ n = 8) ∧ R = n + 6 ∧ L ≤ cap ∧ cap ≤ 9223372036854775807 ∧ Ap.Rd w va (nums na ta) ∧ Ap.Rd w vx (nums nx tx) ∧ na ≤ 140737488351232 ∧ nx ≤ 140737488351232) := ⟨hv, hL, hn, hR, hcap, hcap', hva, hvx, hna, hnx⟩
  have hR2 : R = 10 ∨ R = 14 := by omega
  obtain ⟨A, hA⟩ : ∃ A, A = ba 12 nc := ⟨_, rfl⟩
  have HA : Hid (A = ba 12 nc) := hA
  rw [← hA] at hsA hszA C1 ⊢
  clear hA hc2 hv hL hn hR hcap hcap' hva hvx hna hnx
  have hz := zero32.1
  go_enter Try.func21, Try.ntmps21
  go_upto_region 1 with fail
  obtain ⟨w1, hw1⟩ : ∃ w1, w1 = w.alloc (.cells A 24) := ⟨_, rfl⟩
  have Z1 : Hid (Chg w w1 ∧ Ar w1 w.heap.size A) := by
    rw [hw1]
    exact ⟨(Chg.refl w).alloc _, Ar.new w _ _⟩
  rw [← hw1]
  clear hw1 hsA
  go_wp2_with fail
  go_at_call 26
  refine (new_any kb ko cap L n R key w1 (HX.out.1.chg Z1.out.1) HX.out.2.1 HX.out.2.2.1 HX.out.2.2.2.1 HX.out.2.2.2.2.1 HX.out.2.2.2.2.2.1).mono ?_
  rintro r w2 ⟨K, k, rfl, hK, hc2, hA, hks⟩
  have Z2 : Hid (Chg w w2 ∧ Ar w2 w.heap.size A ∧ Ar w2 K (keyC R k) ∧ Ks n (4 * (R + 1)) key k) := ⟨Z1.out.1.trans hc2, Z1.out.2.chg hc2, hA, hks⟩
  clear hK hc2 hA hks Z1
  obtain ⟨tA, gA⟩ := Z2.out.2.1
  go_wp2_with (first | refine wpList_load_row rfl 24 _ rfl _ rfl _ _ _ _ gA und38 rfl hszA ?_)
  go_at_call 28
  refine (C1.out _).mono ?_
  rintro r w3 ⟨rfl, hc3⟩
  have Z3 : Hid (Chg w w3 ∧ Ar w3 w.heap.size A ∧ Ar w3 K (keyC R k) ∧ Ks n (4 * (R + 1)) key k) := ⟨Z2.out.1.trans hc3, Z2.out.2.1.chg hc3, Z2.out.2.2.1.chg hc3, Z2.out.2.2.2⟩
  clear hc3 Z2 gA C1
  go_wp2_with fail
  go_at_call 27
  refine (streamV_any K R nx k c2 tx vx w3 Z3.out.2.2.1 hR2 (Rd.chg HX.out.2.2.2.2.2.2.2.1 Z3.out.1) HX.out.2.2.2.2.2.2.2.2.2).mono ?_
  rintro r w4 ⟨g, rfl, hg, hc4, hA4⟩
  obtain ⟨st, hst⟩ : ∃ st, st = stF R k (ctrB nc 2#8) tx := ⟨_, rfl⟩
  rw [HC2.out, ← hst] at hA4
  have HST : Hid (st = stF R k (ctrB nc 2#8) tx) := hst
  have Z4 : Hid (Chg w w4 ∧ Ar w4 w.heap.size A ∧ Ar w4 K (keyC R k) ∧ Ks n (4 * (R + 1)) key k ∧ Ap.Rd w4 (.slice (some ⟨g, 0, none⟩) nx nx) (nums nx st)) := by
    have h10 := HX.out.2.2.2.2.2.2.2.2.2
    exact ⟨Z3.out.1.trans hc4, Z3.out.2.1.chg hc4, Z3.out.2.2.1.chg hc4, Z3.out.2.2.2, Bs.rd (Ar.bs hA4) (Nat.le_refl _) (by omega)⟩
  clear hg hc4 hA4 Z3 hst
  obtain ⟨tA, gA⟩ := Z4.out.2.1
  obtain ⟨T, hT⟩ : ∃ T, T = tagF R k nc ta na st nx := ⟨_, rfl⟩
  have HT : Hid (T = tagF R k nc ta na st nx) := hT
  have C2 : Hid (Calls Try.prog 29 #[.pointer (some ⟨K, 0, none⟩), .agg A, va, .slice (some ⟨g, 0, none⟩) nx nx] w4 fun r w' => r = .returned (.agg (ba 16 T)) ∧ Chg w4 w') := by
    rw [hT, HA.out]
    obtain ⟨a1, a2, a3, a4, a5, a6, a7, a8, a9, a10⟩ := HX.out
    exact tag_any K R k nc ta st na nx va _ w4 Z4.out.2.2.1 hR2 (Rd.chg a7 Z4.out.1) Z4.out.2.2.2.2 a9 a10
  clear hT
  go_wp2_with (first | refine wpList_load_row rfl 24 _ rfl _ rfl _ _ _ _ gA und38 rfl hszA ?_)
  go_at_call 29
  refine C2.out.mono ?_
  rintro r w5 ⟨rfl, hc5⟩
  have Z5 : Hid (Chg w w5 ∧ Ks n (4 * (R + 1)) key k ∧ Ap.Rd w5 (.slice (some ⟨g, 0, none⟩) nx nx) (nums nx st)) := ⟨Z4.out.1.trans hc5, Z4.out.2.2.2.1, Rd.chg Z4.out.2.2.2.2 hc5⟩
  clear hc5 Z4 C2 gA hszA
  have hst := szB T zero32.2
  have hlt := lenB 16 zB T
  have hot := ba_one 16 T
  go_upto_region 6 with (first | refine wpList_store_row rfl 60 _ _ rfl _ _ rfl rfl _ _ (heap_alloc_last w5 _) hst hlt hot ?_)
  obtain ⟨Bt, hBt⟩ : ∃ Bt, Bt = w5.heap.size := ⟨_, rfl⟩
  obtain ⟨w6, hw6⟩ : ∃ w6, w6 = (w5.alloc (.cells (ba 16 zB) 60)).setRow w5.heap.size (ba 16 T) := ⟨_, rfl⟩
  have hl : (nums nx st).length + (nums 16 T).length ≤ 140737488355328 := by
    rw [nums_len, nums_len]
    have := HX.out.2.2.2.2.2.2.2.2.2
    omega
  have hl2 : ¬ (nums nx st).length + (nums 16 T).length ≤ nx := by
    rw [nums_len, nums_len]
    omega
  have Z6 : Hid (Chg w w6 ∧ Ks n (4 * (R + 1)) key k ∧ Ap.Rd w6 (.slice (some ⟨g, 0, none⟩) nx nx) (nums nx st) ∧ Ap.Rd w6 (.slice (some ⟨Bt, 0, none⟩) 16 16) (nums 16 T)) := by
    obtain ⟨k0, k1, k2⟩ := Z5.out
    rw [hw6, hBt]
    have e : Chg w5 ((w5.alloc (.cells (ba 16 zB) 60)).setRow w5.heap.size (ba 16 T)) := ((Chg.refl w5).alloc _).setRow (Nat.le_refl _) _
    exact ⟨k0.trans e, k1, Rd.chg k2 e, Bs.rd (Ar.bs ((Ar.new w5 _ _).row _)) (Nat.le_refl _) (by omega)⟩
  rw [← hw6, ← hBt]
  clear hw6 hBt Z5 hst hlt hot
  dsimp only [Act.put]
  go_wp2_with (at_builtin; refine wpList_grow _ rfl _ _ rfl (some ⟨g, 0, none⟩) nx nx (.slice (some ⟨Bt, 0, none⟩) 16 16) (nums nx st) (nums 16 T) rfl rfl (nums_len _ _).symm Z6.out.2.2.1 Z6.out.2.2.2 hl hl2 ?_)
  intro v2 w7 o2 k2 b2
  obtain ⟨ao2, m2, cc2, rfl, -⟩ := o2.rd.shape
  have Z7 : Hid (OwnN w w7 (.slice ao2 m2 cc2) (nums (nx + 16) (sealF R k nc ta na tx nx))) := by
    refine ⟨?_, fun j e => ?_, Z6.out.1.trans k2⟩
    · rw [← nums_seal, ← HST.out, ← HT.out]
      exact o2
    · rw [b2] at e
      injection e with e
      rw [← e]
      exact Z6.out.1.size
  clear o2 k2 b2
  go_wp2
  go_ret2
  exact ⟨k, _, rfl, Z7.out, Z6.out.2.1⟩
end Go.Proofs.Ytobglgddbhddnaa
