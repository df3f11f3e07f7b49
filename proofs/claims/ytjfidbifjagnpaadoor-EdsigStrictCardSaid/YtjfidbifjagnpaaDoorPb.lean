/-
  Sums as numbers, what a seed is made into, public keys: the program.
-/
import Derived.Test.YtjfidbifjagnpaaDoorJx
import Derived.Test.YtjfidbifjagnpaaDoorDe
import Derived.Test.YtjfidbifjagnpaaDoorSa
import Derived.Test.YtjfidbifjagnpaaDoorJc
namespace Go.Proofs.YtjfidbifjagnpaaDoor
open Go.RowKit
set_option linter.unusedVariables false
set_option maxRecDepth 100000
def ck (e : Nat → Int) : Nat → Int := upd (upd e 0 (e 0 - e 0 % 8)) 31 (e 31 % 64 + 64)
theorem ck_8 {e : Nat → Int} (h : ∀ i, B8 (e i)) : ∀ i, B8 (ck e i) := by
 intro i
 have h0 := h 0
 have h31 := h 31
 unfold ck upd
 unfold B8 at *
 split
 ·omega
 ·split
  ·omega
  ·exact h i
theorem Pt_shape {w : World} {v : Value} {xss : List (List Int)} (h : Sha.Pt w v xss) : ∃ p n cap, v = .slice p n cap := by
 rcases h with ⟨e1, e2⟩ | ⟨a, cap, e1, e2⟩ | ⟨b, o, cap, e1, _⟩
 ·exact ⟨_, _, _, e1⟩
 ·exact ⟨_, _, _, e1⟩
 ·exact ⟨_, _, _, e1⟩
theorem bz_of {w : World} {b : Nat} {xs : List Int} (h : Ar w b (arr .u8 64 (hL xs))) : Bz w b 0 64 (dg 256 (val 256 64 (hL xs))) := fun j hj => by
 rw [Nat.zero_add, h.cell, arr_get _ _ _ hj, dg_val (hL_8 xs) hj]
theorem bz_64 {w : World} {b : Nat} {xs : List Int} (h : Ar w b (arr .u8 64 (hL xs))) : Bz w b 0 64 (hL xs) := fun j hj => by
 rw [Nat.zero_add, h.cell, arr_get _ _ _ hj]
theorem vb_64 (xs : List Int) : 0 ≤ val 256 64 (hL xs) ∧ val 256 64 (hL xs) < 256 ^ 64 := val_b (hL_8 xs) 64
set_option maxHeartbeats 8000000 in
theorem reckonE_any (v : Value) (xss : List (List Int)) (w : World) (ht : Sha.Tabs w) (hp : Sha.Pt w v xss) : Calls Tryd.prog 18 #[v] w fun r w' => r = .returned (.agg (num (kW xss.flatten))) ∧ Chg w w' := by
 obtain ⟨p, n, cap, rfl⟩ := Pt_shape hp
 have HT : Hid (Sha.Tabs w) := ht
 have HP : Hid (Sha.Pt w (.slice p n cap) xss) := hp
 have hz := zero25.1
 clear ht hp
 go_enter Tryd.func18, Tryd.ntmps18
 go_upto_region 1 with fail
 obtain ⟨w1, hw1⟩ : ∃ w1, w1 = w.alloc (.cells (num 0) 32) := ⟨_, rfl⟩
 have Z1 : Hid (Chg w w1 ∧ Ar w1 w.heap.size (num 0)) := by
  have hnew0 := Ar.new w (num 0) 32
  rw [hw1]
  exact ⟨((Chg.refl w).alloc _), (hnew0)⟩
 rw [← hw1]
 clear hw1
 clear hz
 go_cut [] from 3 to 5 (fun wc => ∃ u, Chg w1 u ∧ wc = u.setRow w.heap.size (num (kW xss.flatten)))
 case first =>
  refine regS 3 (fun j v wg => match j with
   | 0 => v = .slice p n cap
   | 1 => ∃ b, v = .slice (some ⟨b, 0, none⟩) 64 64 ∧ Ar wg b (arr .u8 64 (hL xss.flatten)) ∧ w1.heap.size ≤ b
   | 2 => v = .agg (num (kW xss.flatten))
   | _ => True) (by kernel_rfl) (by kernel_rfl) ?_ ?_ ?_
  ·intro j v u1 u2 h hc
   match j, h with
   | 0, h => exact h
   | 1, h => (obtain ⟨b, h1, h2, h3⟩ := h; exact ⟨b, h1, h2.chg hc, h3⟩)
   | 2, h => exact h
   | _ + 3, h => exact trivial
  ·intro i o ac u hi ho hsz hf hg hc
   have hcs : i = 0 ∨ i = 1 ∨ i = 2 := by omega
   rcases hcs with rfl | rfl | rfl
   ·injection ho with ho
    subst ho
    refine .inl ⟨wanted_none rfl, ?_⟩
    have e1 : ac.eval (.tmp 0) = .slice p n cap := hf 0 (by kernel_rfl)
    exact opG_val (by simp [execOp, e1]) rfl (Chg.refl _)
   ·injection ho with ho
    subst ho
    refine .inl ⟨wanted_none rfl, ?_⟩
    have e1 : ac.eval (.const (.int .i64 3)) = .int .i64 3 := rfl
    have e2 : ac.eval (.tmp 3) = .slice p n cap := hg 0 (by decide) (by decide)
    refine opG_go 35 Tryd.f35 #[.const (.int .i64 3), .tmp 3] #[66, 63] rfl Tryd.func35 (by kernel_rfl) (by kernel_rfl) (by simp [e1, e2]) (Calls.mono (Sha.of_any 3 _ _ _ (.inr (.inr rfl)) (HT.out.chg (toS (Z1.out.1.trans hc))) (HP.out.chg (toS (Z1.out.1.trans hc)))) ?_)
    rintro r u2 ⟨b4, rfl, s4, hc2s, r4⟩; have hc2 := ofS hc2s
    exact ⟨_, rfl, ⟨b4, rfl, ofArS r4, Nat.le_trans hc.size s4⟩, hc2⟩
   ·injection ho with ho
    subst ho
    refine .inl ⟨wanted_none rfl, ?_⟩
    have e1 : ac.eval (.const (.int .i64 4)) = .int .i64 4 := rfl
    obtain ⟨b4, e20, r4, s4⟩ := hg 1 (by decide) (by decide)
    have e2 : ac.eval (.tmp 4) = .slice (some ⟨b4, 0, none⟩) 64 64 := e20
    refine opG_go 34 Tryd.f34 #[.const (.int .i64 4), .tmp 4] #[37, 23] rfl Tryd.func34 (by kernel_rfl) (by kernel_rfl) (by simp [e1, e2]) (Calls.mono (wide_any 4 (val 256 64 (hL xss.flatten)) b4 0 64 64 (vb_64 _) (by decide) (by decide) (by decide) _ (bz_of r4)) ?_)
    rintro r u2 ⟨rfl, hc2⟩
    exact ⟨_, rfl, rfl, hc2⟩
  ·intro o u V ho hV hc
   injection ho with ho
   subst ho
   refine ⟨rfl, ?_⟩
   have q3 : V 0 = .slice p n cap := hV 0 (by decide)
   obtain ⟨b4, q4, r4, s4⟩ := hV 1 (by decide)
   have q5 : V 2 = .agg (num (kW xss.flatten)) := hV 2 (by decide)
   have hres := Z1.out.2.chg hc
   refine wp_store_mid 32 (.tmp 2) (.tmp 5) rfl w.heap.size 0 (num (kW xss.flatten)) (by rfl) (Eq.trans (by rfl) q5) (by rw [num_size]; exact thereN hres) (szN _) (num_one _) ?_
   rw [show u.setCells w.heap.size 0 (num (kW xss.flatten)).toList = u.setRow w.heap.size (num (kW xss.flatten)) from setRowN hres _]
   go_wp2_with fail
   go_meet
   exact ⟨u, hc, rfl⟩
 obtain ⟨u, hcc, rfl⟩ := hcut
 obtain ⟨w2, hw2⟩ : ∃ zz0, zz0 = u.setRow w.heap.size (num (kW xss.flatten)) := ⟨_, rfl⟩
 have Z2 : Hid (Chg w w2 ∧ Ar w2 w.heap.size (num (kW xss.flatten))) := by
  rw [hw2]
  exact ⟨(Z1.out.1.trans hcc).setRow (by omega) _, (Z1.out.2.chg hcc).row _⟩
 rw [← hw2]
 clear hw2 hcc Z1 u
 go_wp2_with fail
 exact bp_n Tryd.results18 rfl rfl Z2.out.2 ⟨rfl, Z2.out.1⟩
def sB (e : Nat → Int) : Nat → Int := hL (ls 32 e)
def sK (e : Nat → Int) : Int := val 256 32 (ck (sB e))
def sH (e : Nat → Int) : Nat → Int := fun i => sB e (32 + i)
theorem sB_8 (e : Nat → Int) : ∀ i, B8 (sB e i) := hL_8 _
theorem sH_8 (e : Nat → Int) : ∀ i, B8 (sH e i) := fun i => hL_8 _ _
theorem sK_N (e : Nat → Int) : N256 (sK e) := N_val (ck_8 (sB_8 e))
theorem ov_3 (f : Nat → Int) : arr .u8 64 (ovr 0 64 f zD) = b64 f := arr_congr fun i hi => by
 unfold ovr
 rw [if_pos (by omega), Nat.sub_zero]
theorem opG_bs1 {o : Oper} {a : Act} {w : World} {v : Value} {G : Value → World → Prop} {Q : Exit → Act → World → Prop} (x : Operand) (ho : o.op = .buildSlice 63 1 #[(0, x)]) (hx : a.eval x = v) (hs : ∃ p n c, v = .slice p n c) (hG : G (.slice (some ⟨w.heap.size, 0, none⟩) 1 1) (w.alloc (.cells #[v] 23))) : o.wp Tryd.prog a w (fun a' u => ∃ v, a' = a.put o.dst v ∧ G v u ∧ Chg w u) Q := by
 obtain ⟨p, n, c, rfl⟩ := hs
 refine opG_val (w' := w.alloc (.cells #[.slice p n c] 23)) ?_ hG ((Chg.refl _).alloc _)
 revert hx
 generalize a.eval = ρ
 intro hx
 simp [go_sem, execOp, ho, hx]
theorem opG_bs2 {o : Oper} {a : Act} {w : World} {v v' : Value} {G : Value → World → Prop} {Q : Exit → Act → World → Prop} (x y : Operand) (ho : o.op = .buildSlice 63 2 #[(0, x), (1, y)]) (hx : a.eval x = v) (hy : a.eval y = v') (hs : ∃ p n c, v = .slice p n c) (hs' : ∃ p n c, v' = .slice p n c) (hG : G (.slice (some ⟨w.heap.size, 0, none⟩) 2 2) (w.alloc (.cells #[v, v'] 23))) : o.wp Tryd.prog a w (fun a' u => ∃ v, a' = a.put o.dst v ∧ G v u ∧ Chg w u) Q := by
 obtain ⟨p, n, c, rfl⟩ := hs
 obtain ⟨p', n', c', rfl⟩ := hs'
 refine opG_val (w' := w.alloc (.cells #[.slice p n c, .slice p' n' c'] 23)) ?_ hG ((Chg.refl _).alloc _)
 revert hx hy
 generalize a.eval = ρ
 intro hx hy
 simp [go_sem, execOp, ho, hx, hy]
theorem opG_bs3 {o : Oper} {a : Act} {w : World} {v v' v'' : Value} {G : Value → World → Prop} {Q : Exit → Act → World → Prop} (x y z : Operand) (ho : o.op = .buildSlice 63 3 #[(0, x), (1, y), (2, z)]) (hx : a.eval x = v) (hy : a.eval y = v') (hz : a.eval z = v'') (hs : ∃ p n c, v = .slice p n c) (hs' : ∃ p n c, v' = .slice p n c) (hs'' : ∃ p n c, v'' = .slice p n c) (hG : G (.slice (some ⟨w.heap.size, 0, none⟩) 3 3) (w.alloc (.cells #[v, v', v''] 23))) : o.wp Tryd.prog a w (fun a' u => ∃ v, a' = a.put o.dst v ∧ G v u ∧ Chg w u) Q := by
 obtain ⟨p, n, c, rfl⟩ := hs
 obtain ⟨p', n', c', rfl⟩ := hs'
 obtain ⟨p'', n'', c'', rfl⟩ := hs''
 refine opG_val (w' := w.alloc (.cells #[.slice p n c, .slice p' n' c', .slice p'' n'' c''] 23)) ?_ hG ((Chg.refl _).alloc _)
 revert hx hy hz
 generalize a.eval = ρ
 intro hx hy hz
 simp [go_sem, execOp, ho, hx, hy, hz]
set_option maxHeartbeats 8000000 in
theorem spreadE_any (e : Nat → Int) (w : World) (ht : Sha.Tabs w) : Calls Tryd.prog 23 #[.agg (byt e)] w fun r w' => r = .returned (.tuple #[.agg (num (sK e)), .agg (byt (sH e))]) ∧ Chg w w' := by
 have HT : Hid (Sha.Tabs w) := ht
 have hz := zero25.1
 have hz2 := zero37.1
 have hz3 := zeroB.1
 have hsA := byt_size e
 have b0 := sB_8 e 0
 have b31 := sB_8 e 31
 have k0 := (b_lo8 b0).1
 have k1 := (b_hi b31).1
 have k2 := (b_or (b := sB e 31 % 128) ⟨by unfold B8 at b31; omega, by unfold B8 at b31; omega⟩).1
 obtain ⟨d0, hd0⟩ : ∃ zz0, zz0 = sB e 0 := ⟨_, rfl⟩
 obtain ⟨d31, hd31⟩ : ∃ zz0, zz0 = sB e 31 := ⟨_, rfl⟩
 rw [← hd0] at k0
 rw [← hd31] at k1 k2
 have k3 : d31 % 128 % 64 + 64 = d31 % 64 + 64 := by omega
 rw [k3] at k2
 obtain ⟨c0, hc0⟩ : ∃ zz0, zz0 = d0 - d0 % 8 := ⟨_, rfl⟩
 obtain ⟨m31, hm31⟩ : ∃ zz0, zz0 = d31 % 128 := ⟨_, rfl⟩
 obtain ⟨c31, hc31⟩ : ∃ zz0, zz0 = d31 % 64 + 64 := ⟨_, rfl⟩
 rw [← hc0] at k0
 rw [← hm31] at k1 k2
 rw [← hc31] at k2
 have HD : Hid (d0 = sB e 0 ∧ d31 = sB e 31 ∧ c0 = sB e 0 - sB e 0 % 8 ∧ c31 = sB e 31 % 64 + 64) := ⟨hd0, hd31, by rw [hc0, hd0], by rw [hc31, hd31]⟩
 obtain ⟨A, hA⟩ : ∃ A, A = byt e := ⟨_, rfl⟩
 have HA : Hid (A = byt e) := hA
 rw [← hA] at hsA ⊢
 clear hA ht b0 b31 hd0 hd31 k3 hc0 hm31 hc31
 go_enter Tryd.func23, Tryd.ntmps23
 go_upto_region 1 with fail
 obtain ⟨w1, hw1⟩ : ∃ w1, w1 = ((w.alloc (.cells A 22)).alloc (.cells (num 0) 32)).alloc (.cells (byt zD) 22) := ⟨_, rfl⟩
 have Z1 : Hid (Chg w w1 ∧ Ar w1 w.heap.size (byt e) ∧ Ar w1 (w.heap.size + 1) (num 0) ∧ Ar w1 (w.heap.size + 1 + 1) (byt zD)) := by
  have hnew0 := Ar.new w (byt e) 22
  have hnew1 := Ar.new (w.alloc (.cells (byt e) 22)) (num 0) 32
  rw [World.size_alloc] at hnew1
  have hnew2 := Ar.new ((w.alloc (.cells (byt e) 22)).alloc (.cells (num 0) 32)) (byt zD) 22
  rw [World.size_alloc, World.size_alloc] at hnew2
  rw [hw1, HA.out]
  exact ⟨((((Chg.refl w).alloc _).alloc _).alloc _), (((hnew0).alloc _).alloc _), ((hnew1).alloc _), (hnew2)⟩
 rw [← hw1]
 clear hw1
 clear hsA HA hz hz2
 go_upto_region 2 with fail
 obtain ⟨w2, hw2⟩ : ∃ zz0, zz0 = w1.alloc (.cells (b64 zD) 27) := ⟨_, rfl⟩
 obtain ⟨b4, hb4⟩ : ∃ zz0, zz0 = w1.heap.size := ⟨_, rfl⟩
 have O4 : Hid (w.heap.size < b4 ∧ w.heap.size + 1 < b4 ∧ w.heap.size + 1 + 1 < b4) := ⟨by rw [hb4]; exact Z1.out.2.1.lt, by rw [hb4]; exact Z1.out.2.2.1.lt, by rw [hb4]; exact Z1.out.2.2.2.lt⟩
 have Z2 : Hid (Chg w w2 ∧ Ar w2 w.heap.size (byt e) ∧ Ar w2 (w.heap.size + 1) (num 0) ∧ Ar w2 (w.heap.size + 1 + 1) (byt zD) ∧ Ar w2 b4 (b64 zD)) := by
  rw [hw2, hb4]
  exact ⟨Z1.out.1.alloc _, Z1.out.2.1.alloc _, Z1.out.2.2.1.alloc _, Z1.out.2.2.2.alloc _, Ar.new _ _ _⟩
 rw [← hw2, ← hb4]
 clear hw2 hb4 hz3 Z1
 go_upto_region 2 with fail
 go_cut [] from 7 to 11 (fun wc => ∃ u, Chg w2 u ∧ wc = u.setRow b4 (b64 (sB e)))
 case first =>
  refine regA 4 (fun j v wg => match j with
   | 0 => v = .slice (some ⟨b4, 0, none⟩) 64 64
   | 1 => v = .slice (some ⟨w.heap.size, 0, none⟩) 32 32
   | 2 => ∃ b, v = .slice (some ⟨b, 0, none⟩) 1 1 ∧ Sha.Pt wg (.slice (some ⟨b, 0, none⟩) 1 1) [ls 32 e]
   | 3 => ∃ b, v = .slice (some ⟨b, 0, none⟩) 64 64 ∧ Ar wg b (arr .u8 64 (hL (ls 32 e))) ∧ w2.heap.size ≤ b
   | _ => True) (by kernel_rfl) (by kernel_rfl) (by kernel_rfl) (by kernel_rfl) (by kernel_rfl) ?_ ?_ ?_
  ·intro j v u1 u2 h hc
   match j, h with
   | 0, h => exact h
   | 1, h => exact h
   | 2, h => (obtain ⟨b, h1, h2⟩ := h; exact ⟨b, h1, h2.chg (toS hc)⟩)
   | 3, h => (obtain ⟨b, h1, h2, h3⟩ := h; exact ⟨b, h1, h2.chg hc, h3⟩)
   | _ + 4, h => exact trivial
  ·intro i o ac u hi ho hsz hf hg hc
   have hcs : i = 0 ∨ i = 1 ∨ i = 2 ∨ i = 3 := by omega
   rcases hcs with rfl | rfl | rfl | rfl
   ·injection ho with ho
    subst ho
    refine .inl ⟨wanted_none rfl, ?_⟩
    have e1 : ac.eval (.tmp 4) = .pointer (some ⟨b4, 0, none⟩) := hf 4 (by kernel_rfl)
    exact opG_val (by simp [execOp, e1, slB]) rfl (Chg.refl _)
   ·injection ho with ho
    subst ho
    refine .inl ⟨wanted_none rfl, ?_⟩
    have e1 : ac.eval (.tmp 1) = .pointer (some ⟨w.heap.size, 0, none⟩) := hf 1 (by kernel_rfl)
    exact opG_val (by simp [execOp, e1, slY]) rfl (Chg.refl _)
   ·injection ho with ho
    subst ho
    refine .inl ⟨wanted_none rfl, ?_⟩
    have e1 : ac.eval (.tmp 8) = .slice (some ⟨w.heap.size, 0, none⟩) 32 32 := hg 1 (by kernel_rfl) (by decide)
    exact opG_bs1 (.tmp 8) rfl e1 ⟨_, _, _, rfl⟩ ⟨_, rfl, Pt_made1 (Sha.Chg.refl _) (SlA_0 (Z2.out.2.1.chg hc)) _⟩
   ·injection ho with ho
    subst ho
    refine .inl ⟨wanted_none rfl, ?_⟩
    have e1 : ac.eval (.const (.int .i64 3)) = .int .i64 3 := rfl
    obtain ⟨b9, e20, r9⟩ := hg 2 (by kernel_rfl) (by decide)
    have e2 : ac.eval (.tmp 9) = .slice (some ⟨b9, 0, none⟩) 1 1 := e20
    refine opG_go 35 Tryd.f35 #[.const (.int .i64 3), .tmp 9] #[66, 63] rfl Tryd.func35 (by kernel_rfl) (by kernel_rfl) (by simp [e1, e2]) (Calls.mono (Sha.of_any 3 _ _ _ (.inr (.inr rfl)) (HT.out.chg (toS (Z2.out.1.trans hc))) r9) ?_)
    rintro r u2 ⟨b10, rfl, s10, hc2s, r10⟩; have hc2 := ofS hc2s
    exact ⟨_, rfl, ⟨b10, rfl, ofArS r10, Nat.le_trans hc.size s10⟩, hc2⟩
  ·intro o u V ho hV hc
   injection ho with ho
   subst ho
   refine ⟨rfl, ?_⟩
   have q7 : V 0 = .slice (some ⟨b4, 0, none⟩) 64 64 := hV 0 (by decide)
   have q8 : V 1 = .slice (some ⟨w.heap.size, 0, none⟩) 32 32 := hV 1 (by decide)
   obtain ⟨b9, q9, r9⟩ := hV 2 (by decide)
   obtain ⟨b10, q10, r10, s10⟩ := hV 3 (by decide)
   have hres := Z2.out.2.2.2.2.chg hc
   refine op_cp (.tmp 7) (.tmp 10) b4 64 0 64 64 b10 0 64 64 64 zD (sB e) rfl rfl (Eq.trans (by rfl) q7) (Eq.trans (by rfl) q10) hres (bz_64 r10) rfl (by decide) ?_
   rw [show arr .u8 64 (ovr 0 64 (sB e) zD) = b64 (sB e) from ov_3 (sB e)]
   go_wp2_with fail
   go_meet
   exact ⟨u, hc, rfl⟩
 obtain ⟨u, hcc, rfl⟩ := hcut
 obtain ⟨w3, hw3⟩ : ∃ zz0, zz0 = u.setRow b4 (b64 (sB e)) := ⟨_, rfl⟩
 have Z3 : Hid (Chg w w3 ∧ Ar w3 w.heap.size (byt e) ∧ Ar w3 (w.heap.size + 1) (num 0) ∧ Ar w3 (w.heap.size + 1 + 1) (byt zD) ∧ Ar w3 b4 (b64 (sB e))) := by
  have ordO4 := O4.out
  rw [hw3]
  exact ⟨(Z2.out.1.trans hcc).setRow (by omega) _, (Z2.out.2.1.chg hcc).rowOther (by omega) _, (Z2.out.2.2.1.chg hcc).rowOther (by omega) _, (Z2.out.2.2.2.1.chg hcc).rowOther (by omega) _, (Z2.out.2.2.2.2.chg hcc).row _⟩
 rw [← hw3]
 clear hw3 hcc Z2 u
 go_upto_region 3 with fail
 go_cut [5, 6] from 5 to 16 (fun v5 v6 wc => ∃ b5 b6, v5 = .pointer (some ⟨b5, 0, none⟩) ∧ v6 = .pointer (some ⟨b6, 0, none⟩) ∧ w3.heap.size ≤ b5 ∧ w3.heap.size ≤ b6 ∧ b5 ≠ b6 ∧ Ar wc b5 (byt (sB e)) ∧ Ar wc b6 (byt (sH e)) ∧ Chg w3 wc)
 case first =>
  refine regL 6 (fun j v wg => match j with
   | 0 => v = .agg (b64 (sB e))
   | 1 => v = .tuple #[.agg (byt (sB e)), .agg (byt (sH e))]
   | 2 => v = .tuple #[.agg (byt (sB e)), .agg (byt (sH e))]
   | 3 => v = .agg (byt (sB e))
   | 4 => v = .agg (byt (sH e))
   | 5 => ∃ b, v = .pointer (some ⟨b, 0, none⟩) ∧ Ar wg b (byt zD) ∧ w3.heap.size ≤ b
   | _ => True) (by decide) (by kernel_rfl) ?_ ?_ ?_
  ·intro j v u1 u2 h hc
   match j, h with
   | 0, h => exact h
   | 1, h => exact h
   | 2, h => exact h
   | 3, h => exact h
   | 4, h => exact h
   | 5, h => (obtain ⟨b, h1, h2, h3⟩ := h; exact ⟨b, h1, h2.chg hc, h3⟩)
   | _ + 6, h => exact trivial
  ·intro i o ac u hi ho hsz hf hg hc
   have hcs : i = 0 ∨ i = 1 ∨ i = 2 ∨ i = 3 ∨ i = 4 ∨ i = 5 := by omega
   rcases hcs with rfl | rfl | rfl | rfl | rfl | rfl
   ·injection ho with ho
    subst ho
    refine .inl ⟨wanted_none rfl, ?_⟩
    have e1 : ac.eval (.tmp 4) = .pointer (some ⟨b4, 0, none⟩) := hf 4 (by kernel_rfl)
    exact wp_load_mid 27 (.tmp 4) rfl _ _ e1 ((b64 (sB e)).toList) _ (rangeAp (Z3.out.2.2.2.2.chg hc)) unB rfl (infoB _) ⟨_, rfl, rfl, Chg.refl _⟩
   ·injection ho with ho
    subst ho
    refine .inl ⟨wanted_none rfl, ?_⟩
    have e1 : ac.eval (.tmp 13) = .agg (b64 (sB e)) := hg 0 (by decide) (by decide)
    refine opG_go 14 Tryd.f14 #[.tmp 13] #[27] rfl Tryd.func14 (by kernel_rfl) (by kernel_rfl) (by simp [e1]) (Calls.mono (halvesE_any (sB e) _) ?_)
    rintro r u2 ⟨rfl, hc2⟩
    exact ⟨_, rfl, rfl, hc2⟩
   ·injection ho with ho
    subst ho
    refine .inl ⟨wanted_none rfl, ?_⟩
    have e1 : ac.eval (.tmp 14) = .tuple #[.agg (byt (sB e)), .agg (byt (sH e))] := hg 1 (by decide) (by decide)
    exact opG_val (by simp [execOp, e1]) rfl (Chg.refl _)
   ·injection ho with ho
    subst ho
    refine .inl ⟨wanted_none rfl, ?_⟩
    have e1 : ac.eval (.tmp 12) = .tuple #[.agg (byt (sB e)), .agg (byt (sH e))] := hg 2 (by decide) (by decide)
    exact opG_val (by revert e1; generalize ac.eval = ρ; intro e1; simp [go_sem, execOp, e1]) rfl (Chg.refl _)
   ·injection ho with ho
    subst ho
    refine .inl ⟨wanted_none rfl, ?_⟩
    have e1 : ac.eval (.tmp 12) = .tuple #[.agg (byt (sB e)), .agg (byt (sH e))] := hg 2 (by decide) (by decide)
    exact opG_val (by revert e1; generalize ac.eval = ρ; intro e1; simp [go_sem, execOp, e1]) rfl (Chg.refl _)
   ·injection ho with ho
    subst ho
    refine .inl ⟨wanted_none rfl, ?_⟩
    exact opG_val (v := .pointer (some ⟨u.heap.size, 0, none⟩)) (w' := u.alloc (.cells (byt zD) 22)) (by generalize ac.eval = ρ; simp [go_sem, execOp, zero37.1]) ⟨_, rfl, Ar.new _ _ _, hc.size⟩ ((Chg.refl _).alloc _)
  ·intro u V hV hc
   have q13 : V 0 = .agg (b64 (sB e)) := hV 0 (by decide)
   have q14 : V 1 = .tuple #[.agg (byt (sB e)), .agg (byt (sH e))] := hV 1 (by decide)
   have q12 : V 2 = .tuple #[.agg (byt (sB e)), .agg (byt (sH e))] := hV 2 (by decide)
   have q15 : V 3 = .agg (byt (sB e)) := hV 3 (by decide)
   have q16 : V 4 = .agg (byt (sH e)) := hV 4 (by decide)
   obtain ⟨b5, q5, r5, s5⟩ := hV 5 (by decide)
   refine wpList_al rfl 22 (byt zD) rfl zero37.1 ?_
   have hlt := r5.lt
   have hne : b5 ≠ u.heap.size := by omega
   have hsz : w3.heap.size ≤ u.heap.size := hc.size
   have ra := r5.alloc (.cells (byt zD) 22)
   have rb := Ar.new u (byt zD) 22
   have hcu := hc.alloc (.cells (byt zD) 22)
   obtain ⟨b6, hb6⟩ : ∃ zz0, zz0 = u.heap.size := ⟨_, rfl⟩
   rw [← hb6] at hne hsz rb ⊢
   obtain ⟨uu, huu⟩ : ∃ zz0, zz0 = u.alloc (.cells (byt zD) 22) := ⟨_, rfl⟩
   rw [← huu] at ra rb hcu ⊢
   clear huu hb6
   refine wpList_store_mid rfl 22 (.tmp 5) (.tmp 15) rfl b5 0 (byt (sB e)) (Eq.trans (by rfl) q5) (Eq.trans (by rfl) q15) (by rw [byt_size]; exact thereY ra) (szY _) (oneY _) ?_
   rw [show uu.setCells b5 0 (byt (sB e)).toList = uu.setRow b5 (byt (sB e)) from setRowY ra _]
   have rb' := rb.rowOther hne.symm (byt (sB e))
   refine wpList_store_mid rfl 22 (.tmp 6) (.tmp 16) rfl b6 0 (byt (sH e)) (by rfl) (Eq.trans (by rfl) q16) (by rw [byt_size]; exact thereY rb') (szY _) (oneY _) ?_
   rw [show (uu.setRow b5 (byt (sB e))).setCells b6 0 (byt (sH e)).toList = (uu.setRow b5 (byt (sB e))).setRow b6 (byt (sH e)) from setRowY rb' _]
   go_wp2_with fail
   go_meet
   exact ⟨b5, b6, q5, rfl, s5, hsz, hne, (ra.row _).rowOther hne _, rb'.row _, (hcu.setRow s5 _).setRow hsz _⟩
 obtain ⟨b5, b6, rfl, rfl, l5, l6, hne, ha5, ha6, hcc⟩ := hcut
 obtain ⟨w4, hw4⟩ : ∃ zz0, zz0 = wc := ⟨_, rfl⟩
 rw [← hw4] at hcc ha5 ha6 ⊢
 clear hw4
 have O5 : Hid (b5 ≠ b6 ∧ w.heap.size < b5 ∧ w.heap.size < b6 ∧ w.heap.size + 1 < b5 ∧ w.heap.size + 1 < b6 ∧ w.heap.size + 1 + 1 < b5 ∧ w.heap.size + 1 + 1 < b6 ∧ b4 < b5 ∧ b4 < b6) := ⟨hne, Nat.lt_of_lt_of_le (Z3.out.2.1.lt) l5, Nat.lt_of_lt_of_le (Z3.out.2.1.lt) l6, Nat.lt_of_lt_of_le (Z3.out.2.2.1.lt) l5, Nat.lt_of_lt_of_le (Z3.out.2.2.1.lt) l6, Nat.lt_of_lt_of_le (Z3.out.2.2.2.1.lt) l5, Nat.lt_of_lt_of_le (Z3.out.2.2.2.1.lt) l6, Nat.lt_of_lt_of_le (Z3.out.2.2.2.2.lt) l5, Nat.lt_of_lt_of_le (Z3.out.2.2.2.2.lt) l6⟩
 have Z4 : Hid (Chg w w4 ∧ Ar w4 w.heap.size (byt e) ∧ Ar w4 (w.heap.size + 1) (num 0) ∧ Ar w4 (w.heap.size + 1 + 1) (byt zD) ∧ Ar w4 b4 (b64 (sB e)) ∧ Ar w4 b5 (byt (sB e)) ∧ Ar w4 b6 (byt (sH e))) := ⟨Z3.out.1.trans hcc, Z3.out.2.1.chg hcc, Z3.out.2.2.1.chg hcc, Z3.out.2.2.2.1.chg hcc, Z3.out.2.2.2.2.chg hcc, ha5, ha6⟩
 clear hcc hne ha5 ha6 l5 l6 Z3
 have z0 : w4.cell? ⟨b5, 0, none⟩ = some (.int .u8 d0) := by
  rw [HD.out.1]
  exact (Z4.out.2.2.2.2.2.1.cell 0).trans (arr_get _ _ _ (by decide))
 have z31 : w4.cell? ⟨b5, 31, none⟩ = some (.int .u8 d31) := by
  rw [HD.out.2.1]
  exact (Z4.out.2.2.2.2.2.1.cell 31).trans (arr_get _ _ _ (by decide))
 have f0 := Z4.out.2.2.2.2.2.1.frozen 0
 have f31 := Z4.out.2.2.2.2.2.1.frozen 31
 go_upto_region 6 with fail
 obtain ⟨w5, hw5⟩ : ∃ zz0, zz0 = (w4.setCell ⟨b5, 0, none⟩ (.int .u8 c0)).setCell ⟨b5, 31, none⟩ (.int .u8 c31) := ⟨_, rfl⟩
 have Z5 : Hid (Chg w w5 ∧ Ar w5 w.heap.size (byt e) ∧ Ar w5 (w.heap.size + 1) (num 0) ∧ Ar w5 (w.heap.size + 1 + 1) (byt zD) ∧ Ar w5 b4 (b64 (sB e)) ∧ Ar w5 b5 (byt (ck (sB e))) ∧ Ar w5 b6 (byt (sH e))) := by
  have ordO4 := O4.out
  have ordO5 := O5.out
  rw [hw5]
  refine ⟨(Z4.out.1.setCell (by show w.heap.size ≤ b5; omega) _).setCell (by show w.heap.size ≤ b5; omega) _, (Z4.out.2.1.other (by show _ ≠ b5; omega) _).other (by show _ ≠ b5; omega) _, (Z4.out.2.2.1.other (by show _ ≠ b5; omega) _).other (by show _ ≠ b5; omega) _, (Z4.out.2.2.2.1.other (by show _ ≠ b5; omega) _).other (by show _ ≠ b5; omega) _, (Z4.out.2.2.2.2.1.other (by show _ ≠ b5; omega) _).other (by show _ ≠ b5; omega) _, ?_, (Z4.out.2.2.2.2.2.2.other (by show _ ≠ b5; omega) _).other (by show _ ≠ b5; omega) _⟩
  unfold ck byt
  rw [← HD.out.2.2.1, ← HD.out.2.2.2, ← arr_set, ← arr_set]
  exact (Z4.out.2.2.2.2.2.1.set 0 _).set 31 _
 rw [← hw5]
 clear hw5 z0 z31 f0 f31 k0 k1 k2 Z4
 refine wp_region_invC (by kernel_rfl) (fun l a wr => (Chg w wr ∧ Ar wr (w.heap.size + 1) (if l.getD 3 false = true then num (sK e) else num 0) ∧ Ar wr (w.heap.size + 1 + 1) (if l.getD 4 false = true then byt (sH e) else byt zD) ∧ Ar wr b5 (byt (ck (sB e))) ∧ Ar wr b6 (byt (sH e))) ∧ a.defers = [] ∧ a.tmps.size = 29 ∧ (a.tmps.getD 2 undef = .pointer (some ⟨w.heap.size + 1, 0, none⟩) ∧ a.tmps.getD 3 undef = .pointer (some ⟨w.heap.size + 1 + 1, 0, none⟩) ∧ a.tmps.getD 5 undef = .pointer (some ⟨b5, 0, none⟩) ∧ a.tmps.getD 6 undef = .pointer (some ⟨b6, 0, none⟩)) ∧ (l.getD 0 false = true → a.tmps.getD 26 undef = .agg (byt (ck (sB e)))) ∧ (l.getD 1 false = true → a.tmps.getD 27 undef = .agg (num (sK e))) ∧ (l.getD 2 false = true → a.tmps.getD 28 undef = .agg (byt (sH e)))) (by kernel_rfl) ?_ ?_ ⟨⟨Z5.out.1.drew, Z5.out.2.2.1.drew, Z5.out.2.2.2.1.drew, Z5.out.2.2.2.2.2.1.drew, Z5.out.2.2.2.2.2.2.drew⟩, rfl, rfl, ⟨rfl, rfl, rfl, rfl⟩, (fun h => by cases h), (fun h => by cases h), (fun h => by cases h)⟩
 ·intro l a wr i hI hi hls hli hdep
  obtain ⟨⟨c0, c2, c3, c5, c6⟩, hdf, hsz, ⟨h2, h3, h5, h6⟩, g0, g1, g2⟩ := hI
  have hi' : i < 5 := hi
  have hl5 : l.size = 5 := hls
  have hcs : i = 0 ∨ i = 1 ∨ i = 2 ∨ i = 3 ∨ i = 4 := by omega
  rcases hcs with rfl | rfl | rfl | rfl | rfl
  ·exact .inl (wp_load_mid 22 (.tmp 5) rfl _ _ h5 ((byt (ck (sB e))).toList) _ (rangeAp c5) un37 rfl (infoY _) ⟨⟨c0, by rw [getB_set _ _ _ _ (by decide)]; exact c2, by rw [getB_set _ _ _ _ (by decide)]; exact c3, c5, c6⟩, hdf, by simp [Act.put, hsz], ⟨(show (a.tmps.setIfInBounds 26 _).getD 2 undef = _ from by rw [getD_set _ _ _ _ (by rw [hsz]; decide), if_neg (by decide)]; exact h2), (show (a.tmps.setIfInBounds 26 _).getD 3 undef = _ from by rw [getD_set _ _ _ _ (by rw [hsz]; decide), if_neg (by decide)]; exact h3), (show (a.tmps.setIfInBounds 26 _).getD 5 undef = _ from by rw [getD_set _ _ _ _ (by rw [hsz]; decide), if_neg (by decide)]; exact h5), (show (a.tmps.setIfInBounds 26 _).getD 6 undef = _ from by rw [getD_set _ _ _ _ (by rw [hsz]; decide), if_neg (by decide)]; exact h6)⟩, (fun _ => by show (a.tmps.setIfInBounds 26 _).getD 26 undef = _; rw [getD_set _ _ _ _ (by rw [hsz]; decide), if_pos rfl]), (fun hx => by rw [getB_set _ _ _ _ (by decide)] at hx; show (a.tmps.setIfInBounds 26 _).getD 27 undef = _; rw [getD_set _ _ _ _ (by rw [hsz]; decide), if_neg (by decide)]; exact g1 hx), (fun hx => by rw [getB_set _ _ _ _ (by decide)] at hx; show (a.tmps.setIfInBounds 26 _).getD 28 undef = _; rw [getD_set _ _ _ _ (by rw [hsz]; decide), if_neg (by decide)]; exact g2 hx)⟩)
  ·have e1 : a.eval (.tmp 26) = .agg (byt (ck (sB e))) := g0 (hdep 0 (by kernel_rfl))
   refine .inl (Oper.wp_mono ?_ (opG_go (G := fun v _ => v = .agg (num (sK e))) 16 Tryd.f16 #[.tmp 26] #[22] rfl Tryd.func16 (by kernel_rfl) (by kernel_rfl) (by simp [e1]) (Calls.mono (fromLE_any (ck (sB e)) (ck_8 (sB_8 e)) _) (fun r u2 hr => ⟨_, hr.1, rfl, hr.2⟩))))
   rintro a' u2 ⟨v, rfl, rfl, hc2⟩
   exact ⟨⟨c0.trans hc2, by rw [getB_set _ _ _ _ (by decide)]; exact c2.chg hc2, by rw [getB_set _ _ _ _ (by decide)]; exact c3.chg hc2, c5.chg hc2, c6.chg hc2⟩, hdf, by simp [Act.put, hsz], ⟨(show (a.tmps.setIfInBounds 27 _).getD 2 undef = _ from by rw [getD_set _ _ _ _ (by rw [hsz]; decide), if_neg (by decide)]; exact h2), (show (a.tmps.setIfInBounds 27 _).getD 3 undef = _ from by rw [getD_set _ _ _ _ (by rw [hsz]; decide), if_neg (by decide)]; exact h3), (show (a.tmps.setIfInBounds 27 _).getD 5 undef = _ from by rw [getD_set _ _ _ _ (by rw [hsz]; decide), if_neg (by decide)]; exact h5), (show (a.tmps.setIfInBounds 27 _).getD 6 undef = _ from by rw [getD_set _ _ _ _ (by rw [hsz]; decide), if_neg (by decide)]; exact h6)⟩, (fun hx => by rw [getB_set _ _ _ _ (by decide)] at hx; show (a.tmps.setIfInBounds 27 _).getD 26 undef = _; rw [getD_set _ _ _ _ (by rw [hsz]; decide), if_neg (by decide)]; exact g0 hx), (fun _ => by show (a.tmps.setIfInBounds 27 _).getD 27 undef = _; rw [getD_set _ _ _ _ (by rw [hsz]; decide), if_pos rfl]), (fun hx => by rw [getB_set _ _ _ _ (by decide)] at hx; show (a.tmps.setIfInBounds 27 _).getD 28 undef = _; rw [getD_set _ _ _ _ (by rw [hsz]; decide), if_neg (by decide)]; exact g2 hx)⟩
  ·exact .inl (wp_load_mid 22 (.tmp 6) rfl _ _ h6 ((byt (sH e)).toList) _ (rangeAp c6) un37 rfl (infoY _) ⟨⟨c0, by rw [getB_set _ _ _ _ (by decide)]; exact c2, by rw [getB_set _ _ _ _ (by decide)]; exact c3, c5, c6⟩, hdf, by simp [Act.put, hsz], ⟨(show (a.tmps.setIfInBounds 28 _).getD 2 undef = _ from by rw [getD_set _ _ _ _ (by rw [hsz]; decide), if_neg (by decide)]; exact h2), (show (a.tmps.setIfInBounds 28 _).getD 3 undef = _ from by rw [getD_set _ _ _ _ (by rw [hsz]; decide), if_neg (by decide)]; exact h3), (show (a.tmps.setIfInBounds 28 _).getD 5 undef = _ from by rw [getD_set _ _ _ _ (by rw [hsz]; decide), if_neg (by decide)]; exact h5), (show (a.tmps.setIfInBounds 28 _).getD 6 undef = _ from by rw [getD_set _ _ _ _ (by rw [hsz]; decide), if_neg (by decide)]; exact h6)⟩, (fun hx => by rw [getB_set _ _ _ _ (by decide)] at hx; show (a.tmps.setIfInBounds 28 _).getD 26 undef = _; rw [getD_set _ _ _ _ (by rw [hsz]; decide), if_neg (by decide)]; exact g0 hx), (fun hx => by rw [getB_set _ _ _ _ (by decide)] at hx; show (a.tmps.setIfInBounds 28 _).getD 27 undef = _; rw [getD_set _ _ _ _ (by rw [hsz]; decide), if_neg (by decide)]; exact g1 hx), (fun _ => by show (a.tmps.setIfInBounds 28 _).getD 28 undef = _; rw [getD_set _ _ _ _ (by rw [hsz]; decide), if_pos rfl])⟩)
  ·have e1 := g1 (hdep 1 (by kernel_rfl))
   have ordO4 := O4.out
   have ordO5 := O5.out
   have c2' : Ar wr (w.heap.size + 1) (num 0) := by rw [hli] at c2; exact c2
   refine .inl (wp_store_mid 32 (.tmp 2) (.tmp 27) rfl (w.heap.size + 1) 0 (num (sK e)) h2 e1 (by rw [num_size]; exact thereN c2') (szN _) (num_one _) ?_)
   rw [show wr.setCells (w.heap.size + 1) 0 (num (sK e)).toList = wr.setRow (w.heap.size + 1) (num (sK e)) from setRowN c2' _]
   refine ⟨⟨c0.setRow (by omega) _, ?_, ?_, c5.rowOther (by omega) _, c6.rowOther (by omega) _⟩, hdf, hsz, ⟨h2, h3, h5, h6⟩, (fun hx => by rw [getB_set _ _ _ _ (by decide)] at hx; exact g0 hx), (fun hx => by rw [getB_set _ _ _ _ (by decide)] at hx; exact g1 hx), (fun hx => by rw [getB_set _ _ _ _ (by decide)] at hx; exact g2 hx)⟩
   ·rw [if_pos (by rw [Array.getD_eq_getD_getElem?, Array.getElem?_setIfInBounds_self_of_lt (by omega)]; rfl)]
    exact c2'.row _
   ·rw [getB_set _ _ _ _ (by decide)]
    exact c3.rowOther (by omega) _
  ·have e1 := g2 (hdep 2 (by kernel_rfl))
   have ordO4 := O4.out
   have ordO5 := O5.out
   have c3' : Ar wr (w.heap.size + 1 + 1) (byt zD) := by rw [hli] at c3; exact c3
   refine .inl (wp_store_mid 22 (.tmp 3) (.tmp 28) rfl (w.heap.size + 1 + 1) 0 (byt (sH e)) h3 e1 (by rw [byt_size]; exact thereY c3') (szY _) (oneY _) ?_)
   rw [show wr.setCells (w.heap.size + 1 + 1) 0 (byt (sH e)).toList = wr.setRow (w.heap.size + 1 + 1) (byt (sH e)) from setRowY c3' _]
   refine ⟨⟨c0.setRow (by omega) _, ?_, ?_, c5.rowOther (by omega) _, c6.rowOther (by omega) _⟩, hdf, hsz, ⟨h2, h3, h5, h6⟩, (fun hx => by rw [getB_set _ _ _ _ (by decide)] at hx; exact g0 hx), (fun hx => by rw [getB_set _ _ _ _ (by decide)] at hx; exact g1 hx), (fun hx => by rw [getB_set _ _ _ _ (by decide)] at hx; exact g2 hx)⟩
   ·rw [getB_set _ _ _ _ (by decide)]
    exact c2.rowOther (by omega) _
   ·rw [if_pos (by rw [Array.getD_eq_getD_getElem?, Array.getElem?_setIfInBounds_self_of_lt (by omega)]; rfl)]
    exact c3'.row _
 ·intro l a wr hI hall
  obtain ⟨⟨c0, c2, c3, c5, c6⟩, hdf, hsz, ⟨h2, h3, h5, h6⟩, g0, g1, g2⟩ := hI
  rw [if_pos (hall 3 (by decide))] at c2
  rw [if_pos (hall 4 (by decide))] at c3
  go_wp2_with fail
  exact bp_NY Tryd.results23 hdf h2 h3 c2 c3 ⟨rfl, c0⟩
def PB : Fin pp × Fin pp := (fz bX, fz bY)
theorem PB_on : ON PB := by
 have := on_B
 rw [aC_1] at this
 exact this
theorem PT_B : PT bX bY 1 (md 1 (bX * bY)) PB := PT.at N_bX N_bY PB_on
def pK (e : Nat → Int) : Nat → Int := encB (MU PB (sK e).toNat)
theorem pK_8 (e : Nat → Int) : ∀ i, B8 (pK e i) := encB_8 _
set_option maxHeartbeats 8000000 in
theorem publicE_any (e : Nat → Int) (w : World) (ht : Sha.Tabs w) : Calls Tryd.prog 7 #[.agg (byt e)] w fun r w' => r = .returned (.agg (byt (pK e))) ∧ Chg w w' := by
 have HT : Hid (Sha.Tabs w) := ht
 have hz := zero37.1
 have hsA := byt_size e
 obtain ⟨A, hA⟩ : ∃ A, A = byt e := ⟨_, rfl⟩
 have HA : Hid (A = byt e) := hA
 rw [← hA] at hsA ⊢
 clear hA ht
 go_enter Tryd.func7, Tryd.ntmps7
 go_upto_region 1 with fail
 obtain ⟨w1, hw1⟩ : ∃ w1, w1 = (w.alloc (.cells A 22)).alloc (.cells (byt zD) 22) := ⟨_, rfl⟩
 have Z1 : Hid (Chg w w1 ∧ Ar w1 w.heap.size (byt e) ∧ Ar w1 (w.heap.size + 1) (byt zD)) := by
  have hnew0 := Ar.new w (byt e) 22
  have hnew1 := Ar.new (w.alloc (.cells (byt e) 22)) (byt zD) 22
  rw [World.size_alloc] at hnew1
  rw [hw1, HA.out]
  exact ⟨(((Chg.refl w).alloc _).alloc _), ((hnew0).alloc _), (hnew1)⟩
 rw [← hw1]
 clear hw1
 clear hsA hz HA
 go_cut [3, 4] from 3 to 9 (fun v3 v4 wc => ∃ b3 b4, v3 = .pointer (some ⟨b3, 0, none⟩) ∧ v4 = .pointer (some ⟨b4, 0, none⟩) ∧ w1.heap.size ≤ b3 ∧ w1.heap.size ≤ b4 ∧ b3 ≠ b4 ∧ Ar wc b3 (num (sK e)) ∧ Ar wc b4 (byt (sH e)) ∧ Chg w1 wc)
 case first =>
  refine regL 6 (fun j v wg => match j with
   | 0 => v = .agg (byt e)
   | 1 => v = .tuple #[.agg (num (sK e)), .agg (byt (sH e))]
   | 2 => v = .tuple #[.agg (num (sK e)), .agg (byt (sH e))]
   | 3 => v = .agg (num (sK e))
   | 4 => v = .agg (byt (sH e))
   | 5 => ∃ b, v = .pointer (some ⟨b, 0, none⟩) ∧ Ar wg b (num 0) ∧ w1.heap.size ≤ b
   | _ => True) (by decide) (by kernel_rfl) ?_ ?_ ?_
  ·intro j v u1 u2 h hc
   match j, h with
   | 0, h => exact h
   | 1, h => exact h
   | 2, h => exact h
   | 3, h => exact h
   | 4, h => exact h
   | 5, h => (obtain ⟨b, h1, h2, h3⟩ := h; exact ⟨b, h1, h2.chg hc, h3⟩)
   | _ + 6, h => exact trivial
  ·intro i o ac u hi ho hsz hf hg hc
   have hcs : i = 0 ∨ i = 1 ∨ i = 2 ∨ i = 3 ∨ i = 4 ∨ i = 5 := by omega
   rcases hcs with rfl | rfl | rfl | rfl | rfl | rfl
   ·injection ho with ho
    subst ho
    refine .inl ⟨wanted_none rfl, ?_⟩
    have e1 : ac.eval (.tmp 1) = .pointer (some ⟨w.heap.size, 0, none⟩) := hf 1 (by kernel_rfl)
    exact wp_load_mid 22 (.tmp 1) rfl _ _ e1 ((byt e).toList) _ (rangeAp (Z1.out.2.1.chg hc)) un37 rfl (infoY _) ⟨_, rfl, rfl, Chg.refl _⟩
   ·injection ho with ho
    subst ho
    refine .inl ⟨wanted_none rfl, ?_⟩
    have e1 : ac.eval (.tmp 6) = .agg (byt e) := hg 0 (by decide) (by decide)
    refine opG_go 23 Tryd.f23 #[.tmp 6] #[22] rfl Tryd.func23 (by kernel_rfl) (by kernel_rfl) (by simp [e1]) (Calls.mono (spreadE_any e _ (HT.out.chg (toS (Z1.out.1.trans hc)))) ?_)
    rintro r u2 ⟨rfl, hc2⟩
    exact ⟨_, rfl, rfl, hc2⟩
   ·injection ho with ho
    subst ho
    refine .inl ⟨wanted_none rfl, ?_⟩
    have e1 : ac.eval (.tmp 7) = .tuple #[.agg (num (sK e)), .agg (byt (sH e))] := hg 1 (by decide) (by decide)
    exact opG_val (by simp [execOp, e1]) rfl (Chg.refl _)
   ·injection ho with ho
    subst ho
    refine .inl ⟨wanted_none rfl, ?_⟩
    have e1 : ac.eval (.tmp 5) = .tuple #[.agg (num (sK e)), .agg (byt (sH e))] := hg 2 (by decide) (by decide)
    exact opG_val (by revert e1; generalize ac.eval = ρ; intro e1; simp [go_sem, execOp, e1]) rfl (Chg.refl _)
   ·injection ho with ho
    subst ho
    refine .inl ⟨wanted_none rfl, ?_⟩
    have e1 : ac.eval (.tmp 5) = .tuple #[.agg (num (sK e)), .agg (byt (sH e))] := hg 2 (by decide) (by decide)
    exact opG_val (by revert e1; generalize ac.eval = ρ; intro e1; simp [go_sem, execOp, e1]) rfl (Chg.refl _)
   ·injection ho with ho
    subst ho
    refine .inl ⟨wanted_none rfl, ?_⟩
    exact opG_val (v := .pointer (some ⟨u.heap.size, 0, none⟩)) (w' := u.alloc (.cells (num 0) 32)) (by generalize ac.eval = ρ; simp [go_sem, execOp, zero25.1]) ⟨_, rfl, Ar.new _ _ _, hc.size⟩ ((Chg.refl _).alloc _)
  ·intro u V hV hc
   have q6 : V 0 = .agg (byt e) := hV 0 (by decide)
   have q7 : V 1 = .tuple #[.agg (num (sK e)), .agg (byt (sH e))] := hV 1 (by decide)
   have q5 : V 2 = .tuple #[.agg (num (sK e)), .agg (byt (sH e))] := hV 2 (by decide)
   have q8 : V 3 = .agg (num (sK e)) := hV 3 (by decide)
   have q9 : V 4 = .agg (byt (sH e)) := hV 4 (by decide)
   obtain ⟨b3, q3, r3, s3⟩ := hV 5 (by decide)
   refine wpList_al rfl 22 (byt zD) rfl zero37.1 ?_
   have hlt := r3.lt
   have hne : b3 ≠ u.heap.size := by omega
   have hsz : w1.heap.size ≤ u.heap.size := hc.size
   have ra := r3.alloc (.cells (byt zD) 22)
   have rb := Ar.new u (byt zD) 22
   have hcu := hc.alloc (.cells (byt zD) 22)
   obtain ⟨b4, hb4⟩ : ∃ zz0, zz0 = u.heap.size := ⟨_, rfl⟩
   rw [← hb4] at hne hsz rb ⊢
   obtain ⟨uu, huu⟩ : ∃ zz0, zz0 = u.alloc (.cells (byt zD) 22) := ⟨_, rfl⟩
   rw [← huu] at ra rb hcu ⊢
   clear huu hb4
   refine wpList_store_mid rfl 32 (.tmp 3) (.tmp 8) rfl b3 0 (num (sK e)) (Eq.trans (by rfl) q3) (Eq.trans (by rfl) q8) (by rw [num_size]; exact thereN ra) (szN _) (num_one _) ?_
   rw [show uu.setCells b3 0 (num (sK e)).toList = uu.setRow b3 (num (sK e)) from setRowN ra _]
   have rb' := rb.rowOther hne.symm (num (sK e))
   refine wpList_store_mid rfl 22 (.tmp 4) (.tmp 9) rfl b4 0 (byt (sH e)) (by rfl) (Eq.trans (by rfl) q9) (by rw [byt_size]; exact thereY rb') (szY _) (oneY _) ?_
   rw [show (uu.setRow b3 (num (sK e))).setCells b4 0 (byt (sH e)).toList = (uu.setRow b3 (num (sK e))).setRow b4 (byt (sH e)) from setRowY rb' _]
   go_wp2_with fail
   go_meet
   exact ⟨b3, b4, q3, rfl, s3, hsz, hne, (ra.row _).rowOther hne _, rb'.row _, (hcu.setRow s3 _).setRow hsz _⟩
 obtain ⟨b3, b4, rfl, rfl, l3, l4, hne, ha3, ha4, hcc⟩ := hcut
 obtain ⟨w2, hw2⟩ : ∃ zz0, zz0 = wc := ⟨_, rfl⟩
 rw [← hw2] at hcc ha3 ha4 ⊢
 clear hw2
 have O3 : Hid (b3 ≠ b4 ∧ w.heap.size < b3 ∧ w.heap.size < b4 ∧ w.heap.size + 1 < b3 ∧ w.heap.size + 1 < b4) := ⟨hne, Nat.lt_of_lt_of_le (Z1.out.2.1.lt) l3, Nat.lt_of_lt_of_le (Z1.out.2.1.lt) l4, Nat.lt_of_lt_of_le (Z1.out.2.2.lt) l3, Nat.lt_of_lt_of_le (Z1.out.2.2.lt) l4⟩
 have Z2 : Hid (Chg w w2 ∧ Ar w2 w.heap.size (byt e) ∧ Ar w2 (w.heap.size + 1) (byt zD) ∧ Ar w2 b3 (num (sK e)) ∧ Ar w2 b4 (byt (sH e))) := ⟨Z1.out.1.trans hcc, Z1.out.2.1.chg hcc, Z1.out.2.2.chg hcc, ha3, ha4⟩
 clear hcc hne ha3 ha4 l3 l4 Z1
 go_upto_region 2 with fail
 go_cut [] from 10 to 13 (fun wc => ∃ u, Chg w2 u ∧ wc = u.setRow (w.heap.size + 1) (byt (encB (MU PB (sK e).toNat))))
 case first =>
  refine regA 4 (fun j v wg => match j with
   | 0 => v = .agg (q4 bX bY 1 (md 1 (bX * bY)))
   | 1 => v = .agg (num (sK e))
   | 2 => ∃ x y z t, v = .agg (q4 x y z t) ∧ PT x y z t (MU PB (sK e).toNat)
   | 3 => v = .agg (byt (encB (MU PB (sK e).toNat)))
   | _ => True) (by kernel_rfl) (by kernel_rfl) (by kernel_rfl) (by kernel_rfl) (by kernel_rfl) ?_ ?_ ?_
  ·intro j v u1 u2 h hc
   match j, h with
   | 0, h => exact h
   | 1, h => exact h
   | 2, h => exact h
   | 3, h => exact h
   | _ + 4, h => exact trivial
  ·intro i o ac u hi ho hsz hf hg hc
   have hcs : i = 0 ∨ i = 1 ∨ i = 2 ∨ i = 3 := by omega
   rcases hcs with rfl | rfl | rfl | rfl
   ·injection ho with ho
    subst ho
    refine .inl ⟨wanted_none rfl, ?_⟩
    refine opG_go 19 Tryd.f19 #[] #[] rfl Tryd.func19 (by kernel_rfl) (by kernel_rfl) (by simp []) (Calls.mono (baseE_any _) ?_)
    rintro r u2 ⟨rfl, hc2⟩
    exact ⟨_, rfl, rfl, hc2⟩
   ·injection ho with ho
    subst ho
    refine .inl ⟨wanted_none rfl, ?_⟩
    have e1 : ac.eval (.tmp 3) = .pointer (some ⟨b3, 0, none⟩) := hf 3 (by kernel_rfl)
    exact wp_load_mid 32 (.tmp 3) rfl _ _ e1 ((num (sK e)).toList) _ (rangeAp (Z2.out.2.2.2.1.chg hc)) undNum rfl (infoN _) ⟨_, rfl, rfl, Chg.refl _⟩
   ·injection ho with ho
    subst ho
    refine .inl ⟨wanted_none rfl, ?_⟩
    have e1 : ac.eval (.tmp 10) = .agg (q4 bX bY 1 (md 1 (bX * bY))) := hg 0 (by kernel_rfl) (by decide)
    have e2 : ac.eval (.tmp 11) = .agg (num (sK e)) := hg 1 (by kernel_rfl) (by decide)
    refine opG_go 20 Tryd.f20 #[.tmp 10, .tmp 11] #[44, 32] rfl Tryd.func20 (by kernel_rfl) (by kernel_rfl) (by simp [e1, e2]) (Calls.mono (timesE_any _ _ _ _ (sK e) PB PT_B (sK_N e) _) ?_)
    rintro r u2 ⟨x12, y12, z12, t12, rfl, m12, hc2⟩
    exact ⟨_, rfl, ⟨x12, y12, z12, t12, rfl, m12⟩, hc2⟩
   ·injection ho with ho
    subst ho
    refine .inl ⟨wanted_none rfl, ?_⟩
    obtain ⟨x12, y12, z12, t12, e10, m12⟩ := hg 2 (by kernel_rfl) (by decide)
    have e1 : ac.eval (.tmp 12) = .agg (q4 x12 y12 z12 t12) := e10
    refine opG_go 24 Tryd.f24 #[.tmp 12] #[44] rfl Tryd.func24 (by kernel_rfl) (by kernel_rfl) (by simp [e1]) (Calls.mono (bytesE_any _ _ _ _ _ m12 _) ?_)
    rintro r u2 ⟨rfl, hc2⟩
    exact ⟨_, rfl, rfl, hc2⟩
  ·intro o u V ho hV hc
   injection ho with ho
   subst ho
   refine ⟨rfl, ?_⟩
   have q10 : V 0 = .agg (q4 bX bY 1 (md 1 (bX * bY))) := hV 0 (by decide)
   have q11 : V 1 = .agg (num (sK e)) := hV 1 (by decide)
   obtain ⟨x12, y12, z12, t12, q12, m12⟩ := hV 2 (by decide)
   have q13 : V 3 = .agg (byt (encB (MU PB (sK e).toNat))) := hV 3 (by decide)
   have hres := Z2.out.2.2.1.chg hc
   refine wp_store_mid 22 (.tmp 2) (.tmp 13) rfl (w.heap.size + 1) 0 (byt (encB (MU PB (sK e).toNat))) (by rfl) (Eq.trans (by rfl) q13) (by rw [byt_size]; exact thereY hres) (szY _) (oneY _) ?_
   rw [show u.setCells (w.heap.size + 1) 0 (byt (encB (MU PB (sK e).toNat))).toList = u.setRow (w.heap.size + 1) (byt (encB (MU PB (sK e).toNat))) from setRowY hres _]
   go_wp2_with fail
   go_meet
   exact ⟨u, hc, rfl⟩
 obtain ⟨u, hcc, rfl⟩ := hcut
 obtain ⟨w3, hw3⟩ : ∃ zz0, zz0 = u.setRow (w.heap.size + 1) (byt (encB (MU PB (sK e).toNat))) := ⟨_, rfl⟩
 have Z3 : Hid (Chg w w3 ∧ Ar w3 w.heap.size (byt e) ∧ Ar w3 (w.heap.size + 1) (byt (encB (MU PB (sK e).toNat))) ∧ Ar w3 b3 (num (sK e)) ∧ Ar w3 b4 (byt (sH e))) := by
  have ordO3 := O3.out
  rw [hw3]
  exact ⟨(Z2.out.1.trans hcc).setRow (by omega) _, (Z2.out.2.1.chg hcc).rowOther (by omega) _, (Z2.out.2.2.1.chg hcc).row _, (Z2.out.2.2.2.1.chg hcc).rowOther (by omega) _, (Z2.out.2.2.2.2.chg hcc).rowOther (by omega) _⟩
 rw [← hw3]
 clear hw3 hcc Z2 u
 go_wp2_with fail
 exact bp_Y Tryd.results7 rfl rfl Z3.out.2.2.1 ⟨rfl, Z3.out.1⟩
end Go.Proofs.YtjfidbifjagnpaaDoor
