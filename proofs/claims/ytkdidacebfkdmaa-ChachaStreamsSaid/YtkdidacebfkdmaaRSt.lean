/-
  The document's stream: bytes XORed with the blocks that a count counts.
-/
import Derived.Test.YtkdidacebfkdmaaRBw
import Derived.Test.YtkdidacebfkdmaaStr
import Derived.Deep.RegionLaw
namespace Go.Proofs.Ytkdidacebfkdmaa
open Go.RowKit
set_option linter.unusedVariables false

theorem step_app {ops : Array Oper} {o : Oper} {a : Act} {w : World} {K : Act → World → Prop} {Q : Exit → Act → World → Prop} {E : Prop}
    (hg : o.guard = none) (s x : Operand) (hop : o.op = Op.call { callee := Callee.builtin Builtin.append, args := #[s, x], argTypes := #[25, 25] })
    (v sv : Value) (xs ys : List Int) (hs : a.eval s = v) (hx : a.eval x = sv) (hv : Ap.OwnV w v xs) (hr : Ap.Rd w sv ys) (hb : xs.length + ys.length ≤ 140737488355328)
    (hK : ∀ v' w', Ap.OwnV w' v' (xs ++ ys) → Ap.Chg (fun k => v.ownBlock = some k) w w' → (v'.ownBlock = v.ownBlock ∨ v'.ownBlock = some w.heap.size) → K (a.put o.dst v') w') :
    if Region.wanted o (yielded ops a.tmps) = true then Oper.wp Try.prog o a w K Q else E := by
  have hw : Region.wanted o (yielded ops a.tmps) = true := by simp [Region.wanted, hg]
  rw [if_pos hw]
  obtain ⟨v', w', hrun, r1, r2, r3⟩ := Ap.run_app o.type w v sv xs ys hv hr hb
  unfold Oper.wp
  simp [execOp, hop, resolve, invoke, builtin, hs, hx, hrun, Result.andThen]
  exact hK v' w' r1 r2 r3

/-- What stands while the document streams. -/
structure RS (w wr : World) (key nonce : Nat → By) (c : Wd) (txt : Nat → By) (v : Value) (i : Nat) : Prop where
  own : OwnN w wr v (nums i (stF key c nonce txt))
  ky : Ar wr w.heap.size (ba 32 key)
  non : Ar wr (w.heap.size + 1) (ba 12 nonce)
  x : ∃ X, Ar wr (w.heap.size + 1 + 1) (ba 64 X) ∧ (i % 64 ≠ 0 → X = blk key (c + BitVec.ofNat 32 (i / 64)) nonce)
  ne : ∀ b, v.ownBlock = some b → w.heap.size + 1 + 1 < b

set_option maxRecDepth 100000 in
set_option maxHeartbeats 8000000 in
theorem refStream_any (n cap : Nat) (key nonce txt : Nat → By) (c : Wd) (ao : Option Addr) (w : World) (hv : Ap.Rd w (.slice ao n cap) (nums n txt)) (hn' : n ≤ 140737488351232) :
    Calls Try.prog 10 #[.agg (ba 32 key), .int .u32 (c.toNat : Int), .agg (ba 12 nonce), .slice ao n cap] w fun r w' => ∃ v, r = .returned v ∧ OwnN w w' v (nums n (stF key c nonce txt)) := by
  obtain ⟨A, hA⟩ : ∃ A, A = ba 32 key := ⟨_, rfl⟩
  obtain ⟨D, hD⟩ : ∃ D, D = ba 12 nonce := ⟨_, rfl⟩
  have hsA : A.size = 32 := by rw [hA]; exact ba_size _ _
  have hsD : D.size = 12 := by rw [hD]; exact ba_size _ _
  have HSA : Hid ((Try.prog.info? 22).map (·.size) = some A.size ∧ (Try.prog.info? 24).map (·.size) = some D.size) := ⟨by rw [hA]; exact szB key i22, by rw [hD]; exact szB nonce i24⟩
  have HAD : Hid (A = ba 32 key ∧ D = ba 12 nonce) := ⟨hA, hD⟩
  rw [← hA, ← hD]
  clear hA hD
  have HX : Hid (Ap.Rd w (.slice ao n cap) (nums n txt)) := hv
  clear hv
  have hz := zero28.1
  go_enter Try.func10, Try.ntmps10
  go_upto_region 3 with fail
  obtain ⟨w3, hw3⟩ : ∃ w3, w3 = ((w.alloc (.cells A 22)).alloc (.cells D 24)).alloc (.cells (ba 64 zB) 28) := ⟨_, rfl⟩
  have Z3 : Hid (RS w w3 key nonce c txt (.slice none 0 0) 0) := by
    rw [hw3, HAD.out.1, HAD.out.2]
    exact ⟨⟨.inl ⟨rfl, rfl⟩, fun b h => (by simp [Value.ownBlock] at h), (((Chg.refl w).alloc _).alloc _).alloc _⟩, ((Ar.new w _ _).alloc _).alloc _, (Ar.new1 w _ _ _).alloc _, ⟨zB, Ar.new2 w _ _ _ _, fun h => absurd rfl h⟩, fun b h => (by simp [Value.ownBlock] at h)⟩
  rw [← hw3]
  clear hw3 hz hsA hsD
  go_wp2_with fail
  go_loopw [1, 9, 11] (fun v1 v9 v11 wr => ∃ (i : Nat), v11 = .int .i64 i ∧ i ≤ n ∧ v1 = .int .u32 ((c + BitVec.ofNat 32 ((i + 63) / 64)).toNat : Int) ∧ RS w wr key nonce c txt v9 i) (fun v1 v9 v11 wr => n - (intOf v11).toNat)
  case atStart =>
    refine ⟨0, rfl, by omega, ?_, Z3.out⟩
    simp
  case round =>
    clear Z3
    obtain ⟨i, rfl, hi, rfl, hz2⟩ := hrel
    obtain ⟨vo, vm, vc, rfl, -⟩ := hz2.own.own.rd.shape
    have Z : Hid (RS w wr key nonce c txt (.slice vo vm vc) i) := hz2
    clear hz2
    obtain ⟨q, hq⟩ : ∃ q, q = c + BitVec.ofNat 32 ((i + 63) / 64) := ⟨_, rfl⟩
    rw [← hq]
    have HQ : Hid (q = c + BitVec.ofNat 32 ((i + 63) / 64)) := hq
    clear hq
    by_cases hlt : i < n
    · have hd : decide ((i : Int) < n) = true := by simp; omega
      have li : (i : Int) < n := by omega
      obtain ⟨r, hr⟩ : ∃ r : Nat, (i : Int).tmod 64 = r := ⟨i % 64, by rw [Int.tmod_eq_emod_of_nonneg (by omega)]; omega⟩
      have wr' := wrap_i (x := (r : Int)) (by rw [← hr, Int.tmod_eq_emod_of_nonneg (by omega)]; omega) (by rw [← hr, Int.tmod_eq_emod_of_nonneg (by omega)]; omega)
      have lr : (r : Int) < 64 := by rw [← hr, Int.tmod_eq_emod_of_nonneg (by omega)]; omega
      have HRi : Hid (r = i % 64) := by
        rw [Int.tmod_eq_emod_of_nonneg (by omega)] at hr
        show r = _
        omega
      obtain ⟨tb, tt, tc, hv, -, -, hbs⟩ := Rd.bs HX.out (by omega)
      injection hv with hv1 hv2 hv3
      subst hv1 hv3
      have HBS : Hid (Bs w tb tt n txt) := hbs
      clear hbs hv2
      obtain ⟨bb, hbb⟩ : ∃ bb : Bool, ((r : Int) == 0) = bb := ⟨_, rfl⟩
      have HBB : Hid (bb = true ↔ r = 0) := by
        show _ ↔ _
        rw [← hbb]
        simp
      go_upto_if 20 with fail
      go_cut [1] from 21 to 26 (fun v1 wc => v1 = .int .u32 ((c + BitVec.ofNat 32 ((i + 1 + 63) / 64)).toNat : Int) ∧ OwnN w wc (.slice vo vm vc) (nums i (stF key c nonce txt)) ∧ Ar wc w.heap.size (ba 32 key) ∧ Ar wc (w.heap.size + 1) (ba 12 nonce) ∧ Ar wc (w.heap.size + 1 + 1) (ba 64 (blk key (c + BitVec.ofNat 32 (i / 64)) nonce)))
      case first =>
        cases bb with
        | true =>
          have HR0 : Hid (r = 0) := HBB.out.1 rfl
          obtain ⟨X0, hX0, -⟩ := Z.out.x
          obtain ⟨X, hX⟩ : ∃ X, X = blk key q nonce := ⟨_, rfl⟩
          have HXe : Hid (X = blk key (c + BitVec.ofNat 32 (i / 64)) nonce) := by
            have h1 := HRi.out
            have h0 := HR0.out
            show X = _
            rw [hX, HQ.out, show (i + 63) / 64 = i / 64 by omega]
          have HE : Hid (Calls Try.prog 12 #[.agg A, .int .u32 (q.toNat : Int), .agg D] wr fun r w' => r = .returned (.agg (ba 64 X)) ∧ Chg wr w') := by
            rw [hX, HAD.out.1, HAD.out.2]
            exact refBlock_any key nonce q wr
          obtain ⟨tA, gA⟩ := Z.out.ky
          obtain ⟨tD, gD⟩ := Z.out.non
          rw [← HAD.out.1] at gA
          rw [← HAD.out.2] at gD
          have sX := szB X i28
          have lX := lenB 64 X0 X
          have oX := ba_one 64 X
          have HX0 : Hid (Ar wr (w.heap.size + 1 + 1) (ba 64 X0)) := hX0
          obtain ⟨q2, Hq2, eq2⟩ := nmInc q
          clear hX hX0
          go_wp2_with (first | refine wpList_load_row rfl 22 _ rfl _ rfl _ _ _ _ gA und22 rfl HSA.out.1 ?_ | refine wpList_load_row rfl 24 _ rfl _ rfl _ _ _ _ gD und24 rfl HSA.out.2 ?_)
          go_at_call 12
          refine HE.out.mono ?_
          rintro r5 u5 ⟨rfl, hc5⟩
          have U5 : Hid (OwnN w u5 (.slice vo vm vc) (nums i (stF key c nonce txt)) ∧ Ar u5 w.heap.size (ba 32 key) ∧ Ar u5 (w.heap.size + 1) (ba 12 nonce) ∧ Ar u5 (w.heap.size + 1 + 1) (ba 64 X0)) :=
            ⟨⟨OwnV.chg Z.out.own.own hc5, Z.out.own.new, Z.out.own.chg.trans hc5⟩, Z.out.ky.chg hc5, Z.out.non.chg hc5, HX0.out.chg hc5⟩
          obtain ⟨t5, G5⟩ := U5.out.2.2.2
          clear hc5 gA gD HE
          go_wp2_with (first | refine wpList_store_row rfl 28 _ _ rfl _ _ rfl rfl _ _ G5 sX lX oX ?_)
          go_meet
          obtain ⟨k1, k2, k3, k4⟩ := U5.out
          have h4 := Z.out.ne
          refine ⟨?_, ⟨k1.own.keep (fun b e => setRow_other _ _ _ _ (by have := h4 b e; omega)), k1.new, k1.chg.setRow (by omega) _⟩, k2.rowOther (by omega) _, k3.rowOther (by omega) _, ?_⟩
          · have h1 := HRi.out
            have h0 := HR0.out
            rw [Hq2.out, HQ.out, cnt_succ, show (i + 1 + 63) / 64 = (i + 63) / 64 + 1 by omega]
          · rw [← HXe.out]
            exact k4.row _
        | false =>
          have hr0 : ¬ r = 0 := fun h => by cases HBB.out.2 h
          go_wp2_with fail
          go_meet
          have h1 := HRi.out
          obtain ⟨X0, hX0, hE⟩ := Z.out.x
          refine ⟨?_, Z.out.own, Z.out.ky, Z.out.non, ?_⟩
          · rw [HQ.out, show (i + 1 + 63) / 64 = (i + 63) / 64 by omega]
          · rw [← hE (by omega)]
            exact hX0
      case rest =>
        obtain ⟨hv7, ho, hk, hnn, hX⟩ := hcut
        obtain ⟨q3, hq3⟩ : ∃ q3, q3 = c + BitVec.ofNat 32 ((i + 1 + 63) / 64) := ⟨_, rfl⟩
        rw [← hq3] at hv7
        have HQ3 : Hid (q3 = c + BitVec.ofNat 32 ((i + 1 + 63) / 64)) := hq3
        rw [hv7]
        clear hq3
        obtain ⟨X, hXX⟩ : ∃ X, X = blk key (c + BitVec.ofNat 32 (i / 64)) nonce := ⟨_, rfl⟩
        rw [← hXX] at hX
        have c1 := (HBS.out.chg ho.chg) i hlt
        have hr16 : r < 64 := by omega
        have c2 := (hX.cell r).trans (ba_get 64 X hr16)
        obtain ⟨x1, hx1⟩ : ∃ x, x = txt i := ⟨_, rfl⟩
        obtain ⟨x2, hx2⟩ : ∃ x, x = X r := ⟨_, rfl⟩
        rw [← hx1] at c1
        rw [← hx2] at c2
        obtain ⟨y, Hy, ey⟩ := nameXor x1 x2
        have HY : Hid (y = stF key c nonce txt i) := by
          have h1 := HRi.out
          show y = _
          rw [Hy.out, hx1, hx2, h1, stF, hXX]
        have Z5 : Hid (OwnN w wc.drew (.slice vo vm vc) (nums i (stF key c nonce txt)) ∧ Ar wc w.heap.size (ba 32 key) ∧ Ar wc (w.heap.size + 1) (ba 12 nonce) ∧ Ar wc (w.heap.size + 1 + 1) (ba 64 X) ∧ X = blk key (c + BitVec.ofNat 32 (i / 64)) nonce) := ⟨⟨ho.own.keep (fun _ _ => rfl), ho.new, ho.chg.drew⟩, hk, hnn, hX, hXX⟩
        have hl : (nums i (stF key c nonce txt)).length + [(y.toNat : Int)].length ≤ 140737488355328 := by rw [nums_len]; simp; omega
        clear hx1 hx2 Hy ho hk hnn hX hXX hv7
        go_wp2_with fail
        go_region_law (refine step_app rfl (.tmp 27) (.tmp 37) rfl (.slice vo vm vc) (.slice (some ⟨wc.drew.heap.size, 0, none⟩) 1 1) (nums i (stF key c nonce txt)) [(y.toNat : Int)] rfl rfl (Z5.out.1.alloc _).own (Ap.Rd.one wc.drew (y.toNat : Int)) hl ?_; intro v2 w7 o2 k2 b2)
        all_goals
          obtain ⟨ao2, m2, cc2, rfl, -⟩ := o2.rd.shape
          have Z7 : Hid (RS w w7 key nonce c txt (.slice ao2 m2 cc2) (i + 1)) := by
            obtain ⟨n1, n2, n3, n4, n5⟩ := Z5.out
            have hne := Z.out.ne
            have k3 := (n1.alloc (.cells #[.int .u8 (y.toNat : Int)] 5)).more o2 k2 b2
            have e0 : w.heap.size + 1 + 1 < wc.heap.size := n4.lt
            refine ⟨?_, (n2.drew.alloc _).ap k2 (fun e => by have := hne _ e; omega), (n3.drew.alloc _).ap k2 (fun e => by have := hne _ e; omega), ⟨X, (n4.drew.alloc _).ap k2 (fun e => by have := hne _ e; omega), fun h => ?_⟩, fun b e => ?_⟩
            · rw [nums_succ, ← HY.out]
              exact k3
            · rw [show (i + 1) / 64 = i / 64 by omega]
              exact n5
            · rcases b2 with h | h
              · rw [h] at e
                exact hne b e
              · rw [h] at e
                injection e with e
                rw [← e]
                have e3 : (wc.alloc (.cells #[.int .u8 (y.toNat : Int)] 5)).heap.size = wc.heap.size + 1 := World.size_alloc _ _
                show w.heap.size + 1 + 1 < (wc.alloc (.cells #[.int .u8 (y.toNat : Int)] 5)).heap.size
                omega
          clear o2 k2 b2 c1 c2
          go_wp2
          go_roundw
          case rel => exact ⟨i + 1, by go_num, by omega, by rw [HQ3.out], Z7.out⟩
          case measure => simp [intOf]; omega
    · have hd : decide ((i : Int) < n) = false := by simp; omega
      have hin : i = n := by omega
      go_wp2
      go_ret
      refine ⟨_, rfl, ?_⟩
      rw [← hin]
      exact Z.out.own
end Go.Proofs.Ytkdidacebfkdmaa
