/-
  The document's stream: bytes XORed with the blocks that a counter counts.
-/
import Derived.Test.YtfnibmfmjglmlaaREn
import Derived.Test.YtfnibmfmjglmlaaStv
import Derived.Test.YtfnibmfmjglmlaaCnt
import Derived.Deep.RegionLaw
namespace Go.Proofs.Ytfnibmfmjglmlaa
open Go.RowKit
set_option linter.unusedVariables false

theorem step_app {ops : Array Oper} {o : Oper} {a : Act} {w : World} {K : Act → World → Prop} {Q : Exit → Act → World → Prop} {E : Prop}
    (hg : o.guard = none) (s x : Operand) (hop : o.op = Op.call { callee := Callee.builtin Builtin.append, args := #[s, x], argTypes := #[22, 22] })
    (v sv : Value) (xs ys : List Int) (hs : a.eval s = v) (hx : a.eval x = sv) (hv : Ap.OwnV w v xs) (hr : Ap.Rd w sv ys) (hb : xs.length + ys.length ≤ 140737488355328)
    (hK : ∀ v' w', Ap.OwnV w' v' (xs ++ ys) → Ap.Chg (fun k => v.ownBlock = some k) w w' → (v'.ownBlock = v.ownBlock ∨ v'.ownBlock = some w.heap.size) → K (a.put o.dst v') w') :
    if Region.wanted o (yielded ops a.tmps) = true then Oper.wp Try.prog o a w K Q else E := by
  have hw : Region.wanted o (yielded ops a.tmps) = true := by simp [Region.wanted, hg]
  rw [if_pos hw]
  obtain ⟨v', w', hrun, r1, r2, r3⟩ := Ap.run_app o.type w v sv xs ys hv hr hb
  unfold Oper.wp
  simp [execOp, hop, resolve, invoke, builtin, hs, hx, hrun, Result.andThen]
  exact hK v' w' r1 r2 r3

/-- What stands while the document streams. -/
structure RS (w wr : World) (R : Nat) (k av txt : Nat → By) (v : Value) (i : Nat) : Prop where
  own : OwnN w wr v (nums i (stF R k av txt))
  a : ∃ f, Ar wr w.heap.size (ba 16 f) ∧ ∀ j, j < 12 → f j = av j
  x : ∃ X, Ar wr (w.heap.size + 1) (ba 16 X) ∧ (i % 16 ≠ 0 → E16 X (enc R k (ctr av (i / 16))))
  ne : ∀ b, v.ownBlock = some b → w.heap.size + 1 < b

theorem q_byte (q : Nat) (d : Nat) (D : Int) (hD : D = (d : Int)) : ∃ b : By, Hid (b = BitVec.ofNat 8 (q / d)) ∧ (q : Int) / D % 256 = (b.toNat : Int) := ⟨_, rfl, by
  rw [BitVec.toNat_ofNat, hD]
  simp⟩

theorem ctr_of {f av : Nat → By} {q m : Nat} (hf : ∀ j, j < 12 → f j = av j) (hq : q % 4294967296 = (num4 av + m) % 4294967296) :
    E16 (updB (updB (updB (updB f 12 (BitVec.ofNat 8 (q / 16777216))) 13 (BitVec.ofNat 8 (q / 65536))) 14 (BitVec.ofNat 8 (q / 256))) 15 (BitVec.ofNat 8 (q / 1))) (ctr av m) := by
  have h := put4_mod av q (num4 av + m) hq
  refine E16.trans (fun j hj => ?_) h
  unfold updB put4
  by_cases h1 : j < 12
  · rw [if_neg (by omega), if_neg (by omega), if_neg (by omega), if_neg (by omega), if_pos h1, hf j h1]
  · rw [if_neg h1]
    have : j = 12 ∨ j = 13 ∨ j = 14 ∨ j = 15 := by omega
    rcases this with rfl | rfl | rfl | rfl <;> rfl

set_option maxRecDepth 100000 in
set_option maxHeartbeats 8000000 in
theorem refStream_any (K R n cap : Nat) (k av txt : Nat → By) (ao : Option Addr) (w : World) (hK : Ar w K (rkeyC R k)) (hR : R = 10 ∨ R = 14) (hv : Ap.Rd w (.slice ao n cap) (nums n txt)) (hn' : n ≤ 140737488351232) :
    Calls Try.prog 13 #[.pointer (some ⟨K, 0, none⟩), .agg (ba 16 av), .slice ao n cap] w fun r w' => ∃ v, r = .returned v ∧ OwnN w w' v (nums n (stF R k av txt)) := by
  have hsA := ba_size 16 av
  obtain ⟨A, hA⟩ : ∃ A, A = ba 16 av := ⟨_, rfl⟩
  have HA : Hid (A = ba 16 av) := hA
  rw [← hA] at hsA ⊢
  clear hA
  have HX : Hid (Ar w K (rkeyC R k) ∧ (R = 10 ∨ R = 14) ∧ Ap.Rd w (.slice ao n cap) (nums n txt)) := ⟨hK, hR, hv⟩
  clear hK hR hv
  have hz := zero32.1
  go_enter Try.func13, Try.ntmps13
  go_upto_region 1 with fail
  obtain ⟨w1, hw1⟩ : ∃ w1, w1 = w.alloc (.cells A 23) := ⟨_, rfl⟩
  have Z1 : Hid (Chg w w1 ∧ Ar w1 w.heap.size (ba 16 av) ∧ w1.heap.size = w.heap.size + 1) := by
    rw [hw1, HA.out]
    exact ⟨(Chg.refl w).alloc _, Ar.new w _ _, by simp⟩
  have c0 := (Z1.out.2.1.cell 12).trans (ba_get 16 av (by decide))
  have c1 := (Z1.out.2.1.cell 13).trans (ba_get 16 av (by decide))
  have c2 := (Z1.out.2.1.cell 14).trans (ba_get 16 av (by decide))
  have c3 := (Z1.out.2.1.cell 15).trans (ba_get 16 av (by decide))
  have hor := or4 (av 12) (av 13) (av 14) (av 15)
  have wb : ∀ x : By, IntKind.u32.wrap ((x.toNat : Int) * 16777216) = (x.toNat : Int) * 16777216 ∧ IntKind.u32.wrap ((x.toNat : Int) * 65536) = (x.toNat : Int) * 65536 ∧ IntKind.u32.wrap ((x.toNat : Int) * 256) = (x.toNat : Int) * 256 ∧ IntKind.u32.wrap (x.toNat : Int) = (x.toNat : Int) := fun x => by
    have := x.isLt
    simp only [IntKind.wrap_u32]
    omega
  have wb0 := wb (av 12)
  have wb1 := wb (av 13)
  have wb2 := wb (av 14)
  have wb3 := wb (av 15)
  have hnum : (((av 12).toNat * 16777216 + (av 13).toNat * 65536 + (av 14).toNat * 256 + (av 15).toNat : Nat) : Int) = (num4 av : Int) := rfl
  rw [hnum] at hor
  obtain ⟨x0, hx0⟩ : ∃ x, x = av 12 := ⟨_, rfl⟩
  obtain ⟨x1, hx1⟩ : ∃ x, x = av 13 := ⟨_, rfl⟩
  obtain ⟨x2, hx2⟩ : ∃ x, x = av 14 := ⟨_, rfl⟩
  obtain ⟨x3, hx3⟩ : ∃ x, x = av 15 := ⟨_, rfl⟩
  rw [← hx0] at c0 hor wb0
  rw [← hx1] at c1 hor wb1
  rw [← hx2] at c2 hor wb2
  rw [← hx3] at c3 hor wb3
  obtain ⟨p0, -, -, -⟩ := wb0
  obtain ⟨-, p1, -, -⟩ := wb1
  obtain ⟨-, -, p2, -⟩ := wb2
  obtain ⟨-, -, -, p3⟩ := wb3
  have p0' : IntKind.u32.wrap (x0.toNat : Int) = (x0.toNat : Int) := (wb x0).2.2.2
  have p1' : IntKind.u32.wrap (x1.toNat : Int) = (x1.toNat : Int) := (wb x1).2.2.2
  have p2' : IntKind.u32.wrap (x2.toNat : Int) = (x2.toNat : Int) := (wb x2).2.2.2
  obtain ⟨N0, hN0⟩ : ∃ N0, N0 = num4 av := ⟨_, rfl⟩
  rw [← hN0] at hor
  have HN0 : Hid (N0 = num4 av) := hN0
  rw [← hw1]
  clear hw1 hsA hx0 hx1 hx2 hx3 hnum hN0 wb
  go_upto_region 2 with fail
  clear c0 c1 c2 c3 hor p0 p1 p2 p3 p0' p1' p2'
  go_upto_region 4 with fail
  obtain ⟨w2, hw2⟩ : ∃ w2, w2 = w1.alloc (.cells (ba 16 zB) 23) := ⟨_, rfl⟩
  have Z2 : Hid (RS w w2 R k av txt (.slice none 0 0) 0) := by
    have e := Z1.out.2.2
    rw [hw2]
    refine ⟨⟨.inl ⟨rfl, rfl⟩, fun b h => (by simp [Value.ownBlock] at h), Z1.out.1.alloc _⟩, ⟨av, Z1.out.2.1.alloc _, fun _ _ => rfl⟩, ⟨zB, ?_, fun h => absurd rfl h⟩, fun b h => (by simp [Value.ownBlock] at h)⟩
    have := Ar.new w1 (ba 16 zB) 23
    rwa [e] at this
  have e1 := Z1.out.2.2
  rw [← hw2, e1]
  clear hw2 e1 Z1 hz
  go_wp2_with fail
  go_loopw [7, 8, 10] (fun v7 v8 v10 wr => ∃ (i : Nat), v10 = .int .i64 i ∧ i ≤ n ∧ v7 = .int .u32 (((num4 av + (i + 15) / 16) % 4294967296 : Nat) : Int) ∧ RS w wr R k av txt v8 i) (fun v7 v8 v10 wr => n - (intOf v10).toNat)
  case atStart =>
    refine ⟨0, rfl, by omega, ?_, Z2.out⟩
    have : N0 < 4294967296 := by
      rw [HN0.out]
      unfold num4
      have h1 := (av 12).isLt
      have h2 := (av 13).isLt
      have h3 := (av 14).isLt
      have h4 := (av 15).isLt
      omega
    rw [HN0.out] at this ⊢
    rw [show (0 + 15) / 16 = 0 from rfl, Nat.add_zero, Nat.mod_eq_of_lt this]
  case round =>
    clear Z2
    obtain ⟨i, rfl, hi, rfl, hz2⟩ := hrel
    obtain ⟨vo, vm, vc, rfl, -⟩ := hz2.own.own.rd.shape
    have Z : Hid (RS w wr R k av txt (.slice vo vm vc) i) := hz2
    clear hz2
    obtain ⟨q, hq⟩ : ∃ q : Nat, q = (num4 av + (i + 15) / 16) % 4294967296 := ⟨_, rfl⟩
    rw [← hq]
    have HQ : Hid (q = (num4 av + (i + 15) / 16) % 4294967296) := hq
    have hq32 : q < 4294967296 := by rw [hq]; exact Nat.mod_lt _ (by decide)
    clear hq
    by_cases hlt : i < n
    · have hd : decide ((i : Int) < n) = true := by simp; omega
      have li : (i : Int) < n := by omega
      obtain ⟨r, hr⟩ : ∃ r : Nat, (i : Int).tmod 16 = r := ⟨i % 16, by rw [Int.tmod_eq_emod_of_nonneg (by omega)]; omega⟩
      have wr' := wrap_i (x := (r : Int)) (by rw [← hr, Int.tmod_eq_emod_of_nonneg (by omega)]; omega) (by rw [← hr, Int.tmod_eq_emod_of_nonneg (by omega)]; omega)
      have lr : (r : Int) < 16 := by rw [← hr, Int.tmod_eq_emod_of_nonneg (by omega)]; omega
      have HRi : Hid (r = i % 16) := by
        rw [Int.tmod_eq_emod_of_nonneg (by omega)] at hr
        show r = _
        omega
      obtain ⟨tb, tt, tc, hv, -, -, hbs⟩ := Rd.bs HX.out.2.2 (by omega)
      injection hv with hv1 hv2 hv3
      subst hv1 hv3
      have HBS : Hid (Bs w tb tt n txt) := hbs
      clear hbs hv2
      obtain ⟨bb, hbb⟩ : ∃ bb : Bool, ((r : Int) == 0) = bb := ⟨_, rfl⟩
      have HBB : Hid (bb = true ↔ r = 0) := by
        show _ ↔ _
        rw [← hbb]
        simp
      go_upto_if 37 with fail
      go_cut [7] from 38 to 58 (fun v7 wc => v7 = .int .u32 (((num4 av + (i + 1 + 15) / 16) % 4294967296 : Nat) : Int) ∧ OwnN w wc (.slice vo vm vc) (nums i (stF R k av txt)) ∧ (∃ f, Ar wc w.heap.size (ba 16 f) ∧ ∀ j, j < 12 → f j = av j) ∧ ∃ X, Ar wc (w.heap.size + 1) (ba 16 X) ∧ E16 X (enc R k (ctr av (i / 16))))
      case first =>
        cases bb with
        | true =>
          have HR0 : Hid (r = 0) := HBB.out.1 rfl
          obtain ⟨f, hf, hfe⟩ := Z.out.a
          obtain ⟨X0, hX0, -⟩ := Z.out.x
          obtain ⟨b0, B0, e0⟩ := q_byte q 16777216 16777216 rfl
          obtain ⟨b1, B1, e1⟩ := q_byte q 65536 65536 rfl
          obtain ⟨b2, B2, e2⟩ := q_byte q 256 256 rfl
          obtain ⟨b3, B3, e3⟩ := q_byte q 1 1 rfl
          have e0' : (q : Int) / 16777216 = (b0.toNat : Int) := by rw [← e0]; omega
          have e3' : (q : Int) % 256 = (b3.toNat : Int) := by rw [← e3]; simp
          obtain ⟨f1, hf1⟩ : ∃ f1, f1 = updB f 12 b0 := ⟨_, rfl⟩
          obtain ⟨f2, hf2⟩ : ∃ f2, f2 = updB f1 13 b1 := ⟨_, rfl⟩
          obtain ⟨f3, hf3⟩ : ∃ f3, f3 = updB f2 14 b2 := ⟨_, rfl⟩
          obtain ⟨f4, hf4⟩ : ∃ f4, f4 = updB f3 15 b3 := ⟨_, rfl⟩
          have HF4 : Hid (E16 f4 (ctr av (i / 16))) := by
            have h1 := HRi.out
            have h0 := HR0.out
            have h2 := HQ.out
            rw [hf4, hf3, hf2, hf1, B0.out, B1.out, B2.out, B3.out]
            refine ctr_of hfe ?_
            rw [h2, Nat.mod_mod, show (i + 15) / 16 = i / 16 by omega]
          have HFe : Hid (∀ j, j < 12 → f4 j = av j) := by
            intro j hj
            rw [hf4, hf3, hf2, hf1, ← hfe j hj]
            unfold updB
            rw [if_neg (by omega), if_neg (by omega), if_neg (by omega), if_neg (by omega)]
          have Z0 : Hid (OwnN w wr (.slice vo vm vc) (nums i (stF R k av txt)) ∧ Ar wr w.heap.size (ba 16 f) ∧ Ar wr (w.heap.size + 1) (ba 16 X0) ∧ ∀ b, (Value.slice vo vm vc).ownBlock = some b → w.heap.size + 1 < b) := ⟨Z.out.own, hf, hX0, Z.out.ne⟩
          have keep : ∀ (u : World) (o : Nat) (x : By) (g : Nat → By), OwnN w u (.slice vo vm vc) (nums i (stF R k av txt)) ∧ Ar u w.heap.size (ba 16 g) ∧ Ar u (w.heap.size + 1) (ba 16 X0) → OwnN w (u.setCell ⟨w.heap.size, o, none⟩ (.int .u8 (x.toNat : Int))) (.slice vo vm vc) (nums i (stF R k av txt)) ∧ Ar (u.setCell ⟨w.heap.size, o, none⟩ (.int .u8 (x.toNat : Int))) w.heap.size (ba 16 (updB g o x)) ∧ Ar (u.setCell ⟨w.heap.size, o, none⟩ (.int .u8 (x.toNat : Int))) (w.heap.size + 1) (ba 16 X0) := by
            rintro u o x g ⟨h1, h2, h3⟩
            have h4 := Z0.out.2.2.2
            refine ⟨⟨h1.own.keep (fun b e => Below.heap_setCell _ _ _ _ (fun c => ?_)), h1.new, h1.chg.setCell (by dsimp only; omega) _⟩, ?_, h3.other (by dsimp only; omega) _⟩
            · have := h4 b e
              dsimp only at c
              omega
            · have := h2.set o (.int .u8 (x.toNat : Int))
              rwa [ba_set] at this
          have KE : Hid (∀ (u : World) (o : Nat) (x : By) (g : Nat → By), OwnN w u (.slice vo vm vc) (nums i (stF R k av txt)) ∧ Ar u w.heap.size (ba 16 g) ∧ Ar u (w.heap.size + 1) (ba 16 X0) → OwnN w (u.setCell ⟨w.heap.size, o, none⟩ (.int .u8 (x.toNat : Int))) (.slice vo vm vc) (nums i (stF R k av txt)) ∧ Ar (u.setCell ⟨w.heap.size, o, none⟩ (.int .u8 (x.toNat : Int))) w.heap.size (ba 16 (updB g o x)) ∧ Ar (u.setCell ⟨w.heap.size, o, none⟩ (.int .u8 (x.toNat : Int))) (w.heap.size + 1) (ba 16 X0)) := keep
          have c0 := (hf.cell 12).trans (ba_get 16 f (by decide))
          have g0 := hf.frozen 12
          have hq1 : IntKind.u32.wrap ((q : Int) + 1) = (((num4 av + (i + 1 + 15) / 16) % 4294967296 : Nat) : Int) := by
            have h1 := HRi.out
            have h0 := HR0.out
            have h2 := HQ.out
            rw [IntKind.wrap_u32, h2, show (i + 1 + 15) / 16 = (i + 15) / 16 + 1 by omega]
            omega
          obtain ⟨q2, hq2⟩ : ∃ q2, q2 = (num4 av + (i + 1 + 15) / 16) % 4294967296 := ⟨_, rfl⟩
          rw [← hq2] at hq1
          have HQ2 : Hid (q2 = (num4 av + (i + 1 + 15) / 16) % 4294967296) := hq2
          clear keep hf hX0 hfe hq2 e3 e0 B0 B1 B2 B3
          go_upto_region 9 with fail
          obtain ⟨u1, hu1⟩ : ∃ u, u = wr.setCell ⟨w.heap.size, 12, none⟩ (.int .u8 (b0.toNat : Int)) := ⟨_, rfl⟩
          have U1 : Hid (OwnN w u1 (.slice vo vm vc) (nums i (stF R k av txt)) ∧ Ar u1 w.heap.size (ba 16 f1) ∧ Ar u1 (w.heap.size + 1) (ba 16 X0)) := by
            rw [hu1, hf1]
            exact KE.out wr 12 b0 f ⟨Z0.out.1, Z0.out.2.1, Z0.out.2.2.1⟩
          rw [← hu1]
          have c1 := (U1.out.2.1.cell 13).trans (ba_get 16 f1 (by decide))
          have g1 := U1.out.2.1.frozen 13
          clear hu1 c0 g0 hf1
          go_upto_region 10 with fail
          obtain ⟨u2, hu2⟩ : ∃ u, u = u1.setCell ⟨w.heap.size, 13, none⟩ (.int .u8 (b1.toNat : Int)) := ⟨_, rfl⟩
          have U2 : Hid (OwnN w u2 (.slice vo vm vc) (nums i (stF R k av txt)) ∧ Ar u2 w.heap.size (ba 16 f2) ∧ Ar u2 (w.heap.size + 1) (ba 16 X0)) := by
            rw [hu2, hf2]
            exact KE.out u1 13 b1 f1 U1.out
          rw [← hu2]
          have c2 := (U2.out.2.1.cell 14).trans (ba_get 16 f2 (by decide))
          have g2 := U2.out.2.1.frozen 14
          clear hu2 c1 g1 U1 hf2
          go_upto_region 11 with fail
          obtain ⟨u3, hu3⟩ : ∃ u, u = u2.setCell ⟨w.heap.size, 14, none⟩ (.int .u8 (b2.toNat : Int)) := ⟨_, rfl⟩
          have U3 : Hid (OwnN w u3 (.slice vo vm vc) (nums i (stF R k av txt)) ∧ Ar u3 w.heap.size (ba 16 f3) ∧ Ar u3 (w.heap.size + 1) (ba 16 X0)) := by
            rw [hu3, hf3]
            exact KE.out u2 14 b2 f2 U2.out
          rw [← hu3]
          have c3 := (U3.out.2.1.cell 15).trans (ba_get 16 f3 (by decide))
          have g3 := U3.out.2.1.frozen 15
          clear hu3 c2 g2 U2 hf3
          go_upto_region 12 with fail
          obtain ⟨u4, hu4⟩ : ∃ u, u = u3.setCell ⟨w.heap.size, 15, none⟩ (.int .u8 (b3.toNat : Int)) := ⟨_, rfl⟩
          have U4 : Hid (OwnN w u4 (.slice vo vm vc) (nums i (stF R k av txt)) ∧ Ar u4 w.heap.size (ba 16 f4) ∧ Ar u4 (w.heap.size + 1) (ba 16 X0)) := by
            rw [hu4, hf4]
            exact KE.out u3 15 b3 f3 U3.out
          rw [← hu4]
          obtain ⟨t4, G4⟩ := U4.out.2.1
          have s4 := szB f4 zero32.2
          obtain ⟨X, hX⟩ : ∃ X, X = enc R k f4 := ⟨_, rfl⟩
          have HXe : Hid (X = enc R k f4) := hX
          have HE : Hid (Calls Try.prog 31 #[.pointer (some ⟨K, 0, none⟩), .agg (ba 16 f4)] u4 fun r w' => r = .returned (.agg (ba 16 X)) ∧ Chg u4 w') := by
            rw [hX]
            exact refEncrypt_any K R k f4 u4 (HX.out.1.chg U4.out.1.chg) HX.out.2.1
          have sX := szB X zero32.2
          have lX := lenB 16 X0 X
          have oX := ba_one 16 X
          clear hu4 c3 g3 U3 hf4 hX
          go_wp2_with (first | refine wpList_load_row rfl 23 _ rfl _ rfl _ _ _ _ G4 und32 rfl s4 ?_)
          go_at_call 31
          refine HE.out.mono ?_
          rintro r5 u5 ⟨rfl, hc5⟩
          have U5 : Hid (OwnN w u5 (.slice vo vm vc) (nums i (stF R k av txt)) ∧ Ar u5 w.heap.size (ba 16 f4) ∧ Ar u5 (w.heap.size + 1) (ba 16 X0)) :=
            ⟨⟨OwnV.chg U4.out.1.own hc5, U4.out.1.new, U4.out.1.chg.trans hc5⟩, U4.out.2.1.chg hc5, U4.out.2.2.chg hc5⟩
          obtain ⟨t5, G5⟩ := U5.out.2.2
          clear hc5 U4 G4 HE s4
          go_wp2_with (first | refine wpList_store_row rfl 23 _ _ rfl _ _ rfl rfl _ _ G5 sX lX oX ?_)
          go_meet
          obtain ⟨k1, k2, k3⟩ := U5.out
          have h4 := Z0.out.2.2.2
          refine ⟨by rw [HQ2.out], ⟨k1.own.keep (fun b e => setRow_other _ _ _ _ (by have := h4 b e; omega)), k1.new, k1.chg.setRow (by omega) _⟩, ⟨f4, k2.rowOther (by omega) _, HFe.out⟩, X, k3.row _, ?_⟩
          rw [HXe.out]
          exact E16.enc (fun _ _ => rfl) HF4.out
        | false =>
          have hr0 : ¬ r = 0 := fun h => by cases HBB.out.2 h
          go_wp2_with fail
          go_meet
          have h1 := HRi.out
          obtain ⟨X0, hX0, hE⟩ := Z.out.x
          refine ⟨?_, Z.out.own, Z.out.a, X0, hX0, hE (by omega)⟩
          rw [HQ.out, show (i + 1 + 15) / 16 = (i + 15) / 16 by omega]
      case rest =>
        obtain ⟨hv7, ho, ⟨f, hf, hfe⟩, X, hX, hE⟩ := hcut
        obtain ⟨q3, hq3⟩ : ∃ q3 : Nat, q3 = (num4 av + (i + 1 + 15) / 16) % 4294967296 := ⟨_, rfl⟩
        rw [← hq3] at hv7
        have HQ3 : Hid (q3 = (num4 av + (i + 1 + 15) / 16) % 4294967296) := hq3
        rw [hv7]
        clear hq3
        have c1 := (HBS.out.chg ho.chg) i hlt
        have hr16 : r < 16 := by omega
        have c2 := (hX.cell r).trans (ba_get 16 X hr16)
        obtain ⟨x1, hx1⟩ : ∃ x, x = txt i := ⟨_, rfl⟩
        obtain ⟨x2, hx2⟩ : ∃ x, x = X r := ⟨_, rfl⟩
        rw [← hx1] at c1
        rw [← hx2] at c2
        obtain ⟨y, Hy, ey⟩ := nameXor x1 x2
        have HY : Hid (y = stF R k av txt i) := by
          have h1 := HRi.out
          show y = _
          rw [Hy.out, hx1, hx2, h1, stF, pad, hE (i % 16) (by omega)]
        have Z5 : Hid (OwnN w wc.drew (.slice vo vm vc) (nums i (stF R k av txt)) ∧ Ar wc w.heap.size (ba 16 f) ∧ (∀ j, j < 12 → f j = av j) ∧ Ar wc (w.heap.size + 1) (ba 16 X) ∧ E16 X (enc R k (ctr av (i / 16)))) := ⟨⟨ho.own.keep (fun _ _ => rfl), ho.new, ho.chg.drew⟩, hf, hfe, hX, hE⟩
        have hl : (nums i (stF R k av txt)).length + [(y.toNat : Int)].length ≤ 140737488355328 := by rw [nums_len]; simp; omega
        clear hx1 hx2 Hy ho hf hfe hX hE hv7
        go_wp2_with fail
        go_region_law (refine step_app rfl (.tmp 58) (.tmp 68) rfl (.slice vo vm vc) (.slice (some ⟨wc.drew.heap.size, 0, none⟩) 1 1) (nums i (stF R k av txt)) [(y.toNat : Int)] rfl rfl (Z5.out.1.alloc _).own (Ap.Rd.one wc.drew (y.toNat : Int)) hl ?_; intro v2 w7 o2 k2 b2)
        all_goals
          obtain ⟨ao2, m2, cc2, rfl, -⟩ := o2.rd.shape
          have Z7 : Hid (RS w w7 R k av txt (.slice ao2 m2 cc2) (i + 1)) := by
            obtain ⟨n1, n2, n3, n4, n5⟩ := Z5.out
            have hne := Z.out.ne
            have k3 := (n1.alloc (.cells #[.int .u8 (y.toNat : Int)] 5)).more o2 k2 b2
            have e0 : w.heap.size + 1 < wc.heap.size := n4.lt
            refine ⟨?_, ⟨f, (n2.drew.alloc _).ap k2 (fun e => by have := hne _ e; omega), n3⟩, ⟨X, (n4.drew.alloc _).ap k2 (fun e => by have := hne _ e; omega), fun h => ?_⟩, fun b e => ?_⟩
            · rw [nums_succ, ← HY.out]
              exact k3
            · rw [show (i + 1) / 16 = i / 16 by omega]
              exact n5
            · rcases b2 with h | h
              · rw [h] at e
                exact hne b e
              · rw [h] at e
                injection e with e
                rw [← e]
                have e3 : (wc.alloc (.cells #[.int .u8 (y.toNat : Int)] 5)).heap.size = wc.heap.size + 1 := World.size_alloc _ _
                show w.heap.size + 1 < (wc.alloc (.cells #[.int .u8 (y.toNat : Int)] 5)).heap.size
                omega
          clear o2 k2 b2 c1 c2
          go_wp2
          go_roundw
          case rel => exact ⟨i + 1, by go_num, by omega, by rw [HQ3.out], Z7.out⟩
          case measure => simp [intOf]; omega
    · have hd : decide ((i : Int) < n) = false := by simp; omega
      have hin : i = n := by omega
      go_wp2
      go_ret
      refine ⟨_, rfl, ?_⟩
      rw [← hin]
      exact Z.out.own
end Go.Proofs.Ytfnibmfmjglmlaa
