/-
  What the document opens.
-/
import Derived.Test.YtfnibmfmjglmlaaOpn
import Derived.Test.YtfnibmfmjglmlaaRTa
import Derived.Lib.Bytes
namespace Go.Proofs.Ytfnibmfmjglmlaa
open Go.RowKit
set_option linter.unusedVariables false

theorem str_inj {n : Nat} {f g : Nat → By} : ((strOfNums (nums n f)).toList == (strOfNums (nums n g)).toList) = sameB n f g := by
  rw [Lib.strOfNums_toList, Lib.strOfNums_toList, Bool.eq_iff_iff, beq_iff_eq, sameB_iff]
  constructor
  · intro h j hj
    have h1 : (Lib.bytesOf (nums n f))[j]? = (Lib.bytesOf (nums n g))[j]? := by rw [h]
    simp only [Lib.bytesOf, List.getElem?_map, nums_get n f hj, nums_get n g hj, Option.map_some, Option.some.injEq] at h1
    have h2 := congrArg UInt8.toNat h1
    have e1 := (f j).isLt
    have e2 := (g j).isLt
    rw [UInt8.toNat_ofNat', UInt8.toNat_ofNat'] at h2
    exact BitVec.eq_of_toNat_eq (by omega)
  · intro h
    rw [nums_congr h]

theorem op_neqS {o : Oper} {a : Act} {w : World} {K : Act → World → Prop} {Q : Exit → Act → World → Prop} (x y : Operand) (s t : ByteArray) (b : Bool) (ho : o.op = .binOp .neq 9 x y 9) (hx : a.eval x = .string s) (hy : a.eval y = .string t) (hb : (s.toList == t.toList) = b) (hK : K (a.put o.dst (.bool (!b))) w) : o.wp Try.prog a w K Q := by
  refine op_val1 (v := .bool (!b)) ?_ hK
  revert hx hy
  generalize a.eval = ρ
  intro hx hy
  simp [go_sem, execOp, ho, hx, hy, hb]

set_option maxRecDepth 100000 in
set_option maxHeartbeats 4000000 in
theorem refOpenBad_any (ao : Option Addr) (L cap : Nat) (nc : Nat → By) (va vx : Value) (w : World) (h1 : L ≠ 16) (h2 : L ≠ 32) :
    Calls Try.prog 23 #[.slice ao L cap, .agg (ba 12 nc), va, vx] w fun r w' => r = .returned (.tuple #[.slice none 0 0, .int .i64 1]) ∧ Chg w w' := by
  have hsA := ba_size 12 nc
  obtain ⟨A, hA⟩ : ∃ A, A = ba 12 nc := ⟨_, rfl⟩
  rw [← hA] at hsA ⊢
  clear hA
  go_enter Try.func23, Try.ntmps23
  go_wp2_with (first | (go_at_call 11; refine (refNewBad_any ao L cap _ h1 h2).mono ?_; rintro r w2 ⟨rfl, hw2⟩; rw [hw2]))
  go_ret2
  exact ⟨rfl, (Chg.refl w).alloc _⟩

set_option maxRecDepth 100000 in
set_option maxHeartbeats 4000000 in
theorem refOpenShort_any (kb ko cap L n R : Nat) (key nc : Nat → By) (ns cs : Nat) (sa : Option Addr) (va : Value) (w : World) (hv : Bs w kb ko L key) (hL : L = 4 * n) (hn : n = 4 ∨ n = 8) (hR : R = n + 6) (hcap : L ≤ cap) (hcap' : cap ≤ 9223372036854775807) (h16 : ns < 16) :
    Calls Try.prog 23 #[.slice (some ⟨kb, ko, none⟩) L cap, .agg (ba 12 nc), va, .slice sa ns cs] w fun r w' => r = .returned (.tuple #[.slice none 0 0, .int .i64 81]) ∧ Chg w w' := by
  have hsA := ba_size 12 nc
  obtain ⟨A, hA⟩ : ∃ A, A = ba 12 nc := ⟨_, rfl⟩
  have HX : Hid (Bs w kb ko L key ∧ L = 4 * n ∧ (n = 4 ∨ n = 8) ∧ R = n + 6 ∧ L ≤ cap ∧ cap ≤ 9223372036854775807) := ⟨hv, hL, hn, hR, hcap, hcap'⟩
  rw [← hA] at hsA ⊢
  clear hA hv hL hn hR hcap hcap'
  have hd : decide ((ns : Int) < 16) = true := by simp; omega
  go_enter Try.func23, Try.ntmps23
  go_upto_region 1 with fail
  obtain ⟨w1, hw1⟩ : ∃ w1, w1 = w.alloc (.cells A 38) := ⟨_, rfl⟩
  have Z1 : Hid (Chg w w1) := by
    rw [hw1]
    exact (Chg.refl w).alloc _
  rw [← hw1]
  clear hw1 hsA
  go_wp2_with fail
  go_at_call 11
  refine (refNew_any kb ko cap L n R key w1 (HX.out.1.chg Z1.out) HX.out.2.1 HX.out.2.2.1 HX.out.2.2.2.1 HX.out.2.2.2.2.1 HX.out.2.2.2.2.2).mono ?_
  rintro r w2 ⟨K, k, rfl, hK, hc2, hA, hks⟩
  have Z2 : Hid (Chg w w2) := Z1.out.trans hc2
  clear hK hc2 hA hks
  go_wp2_with fail
  go_ret2
  exact ⟨rfl, Z2.out⟩

set_option maxRecDepth 100000 in
set_option maxHeartbeats 8000000 in
theorem refOpen_any (kb ko cap L n R : Nat) (key nc ta sf : Nat → By) (na m sb so cs : Nat) (va : Value) (w : World) (hv : Bs w kb ko L key) (hL : L = 4 * n) (hn : n = 4 ∨ n = 8) (hR : R = n + 6) (hcap : L ≤ cap) (hcap' : cap ≤ 9223372036854775807)
    (hva : Ap.Rd w va (nums na ta)) (hvs : Bs w sb so (m + 16) sf) (hcs : m + 16 ≤ cs) (hcs' : cs ≤ 9223372036854775807) (hna : na ≤ 1048576) (hns : m + 16 ≤ 1048592) :
    Calls Try.prog 23 #[.slice (some ⟨kb, ko, none⟩) L cap, .agg (ba 12 nc), va, .slice (some ⟨sb, so, none⟩) (m + 16) cs] w fun r w' => ∃ k, Ks n (4 * (R + 1)) key k ∧ Chg w w' ∧
      ((sameB 16 (tagF R k nc ta na sf m) (fun j => sf (m + j)) = true ∧ ∃ v, r = .returned (.tuple #[v, .int .i64 0]) ∧ Ap.Rd w' v (nums m (stF R k (ctrB nc 2#8) sf))) ∨
       (sameB 16 (tagF R k nc ta na sf m) (fun j => sf (m + j)) = false ∧ r = .returned (.tuple #[.slice none 0 0, .int .i64 81]))) := by
  obtain ⟨va1, va2, va3, rfl, -⟩ := hva.shape
  obtain ⟨va, hva0⟩ : ∃ va : Value, va = .slice va1 va2 va3 := ⟨_, rfl⟩
  have hsA := ba_size 12 nc
  have hszA := szB nc zero38.2
  obtain ⟨ns, hns0⟩ : ∃ ns, ns = m + 16 := ⟨_, rfl⟩
  have HCS : Hid (16 ≤ cs - m ∧ cs - m ≤ 9223372036854775807) := ⟨by omega, by omega⟩
  have hsub : (ns : Int) - 16 = m := by omega
  have wm := wrap_i (x := (m : Int)) (by omega) (by omega)
  have hd : decide ((ns : Int) < 16) = false := by simp; omega
  obtain ⟨lo, hlo0, hlo1⟩ := run_sliceHi (some ⟨sb, so, none⟩) ns cs m (by omega) hcs'
  have hlo : ∀ u, (Instr.sliceAt 22 (.slice (some ⟨sb, so, none⟩) ns cs) none (some (.int .i64 (m : Int))) none).run Try.prog u = .ok (.slice lo m cs) u := fun u => (run_sliceAt_slice u 22 _ _ _ _ (by kernel_rfl)).trans (hlo0 u)
  have hhi : ∀ u, (Instr.sliceAt 22 (.slice (some ⟨sb, so, none⟩) ns cs) (some (.int .i64 (m : Int))) none none).run Try.prog u = .ok (.slice (some ⟨sb, so + m, none⟩) 16 (cs - m)) u := fun u => by
    have := (run_sliceAt_slice u 22 _ _ _ _ (by kernel_rfl)).trans (run_sliceLoB sb so ns cs m (by omega) (by omega) hcs' (by omega) u)
    rwa [show ns - m = 16 by omega] at this
  rw [← hns0]
  have HX : Hid (Bs w kb ko L key ∧ L = 4 * n ∧ (n = 4 ∨ n = 8) ∧ R = n + 6 ∧ L ≤ cap ∧ cap ≤ 9223372036854775807) := ⟨hv, hL, hn, hR, hcap, hcap'⟩
  have HS : Hid (Bs w sb (so + m) 16 (fun j => sf (m + j))) := fun j hj => by
    have := hvs (m + j) (by omega)
    rwa [← Nat.add_assoc] at this
  have HV : Hid (Ap.Rd w va (nums na ta) ∧ (∀ u, Chg w u → Ap.Rd u (.slice lo m cs) (nums m sf)) ∧ na ≤ 1048576 ∧ m ≤ 1048576) := by
    refine ⟨by rw [hva0]; exact hva, fun u c => ?_, hna, by omega⟩
    refine hlo1 u sf (Rd.chg (Bs.rd (f := sf) ?_ (by omega) hcs') c) (by omega)
    rw [hns0]
    exact hvs
  rw [← hva0]
  have hR2 : R = 10 ∨ R = 14 := by omega
  obtain ⟨A, hA⟩ : ∃ A, A = ba 12 nc := ⟨_, rfl⟩
  have HA : Hid (A = ba 12 nc) := hA
  rw [← hA] at hsA hszA ⊢
  clear hA hv hL hn hR hcap hcap' hva hvs hna hns hlo0 hlo1 hns0 hva0
  go_enter Try.func23, Try.ntmps23
  go_upto_region 1 with fail
  obtain ⟨w1, hw1⟩ : ∃ w1, w1 = w.alloc (.cells A 38) := ⟨_, rfl⟩
  have Z1 : Hid (Chg w w1 ∧ Ar w1 w.heap.size (ba 12 nc)) := by
    rw [hw1, HA.out]
    exact ⟨(Chg.refl w).alloc _, Ar.new w _ _⟩
  rw [← hw1]
  clear hw1 hsA
  go_wp2_with fail
  go_at_call 11
  refine (refNew_any kb ko cap L n R key w1 (HX.out.1.chg Z1.out.1) HX.out.2.1 HX.out.2.2.1 HX.out.2.2.2.1 HX.out.2.2.2.2.1 HX.out.2.2.2.2.2).mono ?_
  rintro r w2 ⟨K, k, rfl, hK, hc2, hA, hks⟩
  obtain ⟨w4, hw4⟩ : ∃ w4, w4 = w2 := ⟨_, rfl⟩
  have Z4 : Hid (Chg w w4 ∧ Ar w4 w.heap.size (ba 12 nc) ∧ Ar w4 K (rkeyC R k)) := by
    rw [hw4]
    exact ⟨Z1.out.1.trans hc2, Z1.out.2.chg hc2, hA⟩
  have HKs : Hid (Ks n (4 * (R + 1)) key k) := hks
  rw [← hw4]
  clear hK hc2 hA hks Z1 hw4
  obtain ⟨T, hT⟩ : ∃ T, T = tagF R k nc ta na sf m := ⟨_, rfl⟩
  have HTe : Hid (T = tagF R k nc ta na sf m) := hT
  have HT : Hid (∀ u, Chg w4.drew u → Calls Try.prog 44 #[.pointer (some ⟨K, 0, none⟩), .agg (ba 12 nc), va, .slice lo m cs] u fun r w' => ∃ v, r = .returned v ∧ OwnN u w' v (nums 16 T)) := by
    intro u c
    rw [hT]
    have c0 := Z4.out.1.drew.trans c
    have h3 := HV.out.2.2
    exact refTag_any K R k nc ta sf na m va _ u (Ar.chg (w := w4.drew) Z4.out.2.2 c) hR2 (Rd.chg HV.out.1 c0) (HV.out.2.1 u c0) (by unfold nb; omega) (by omega) (by omega)
  obtain ⟨S1, hS1⟩ : ∃ S, S = strOfNums (nums 16 T) := ⟨_, rfl⟩
  obtain ⟨S2, hS2⟩ : ∃ S, S = strOfNums (nums 16 (fun j => sf (m + j))) := ⟨_, rfl⟩
  have HSS : Hid (S1 = strOfNums (nums 16 T) ∧ S2 = strOfNums (nums 16 (fun j => sf (m + j)))) := ⟨hS1, hS2⟩
  obtain ⟨bb, hbb⟩ : ∃ bb, bb = sameB 16 T (fun j => sf (m + j)) := ⟨_, rfl⟩
  have HBB : Hid (bb = sameB 16 T (fun j => sf (m + j))) := hbb
  have hsb : (S1.toList == S2.toList) = bb := by
    rw [hS1, hS2, hbb]
    exact str_inj
  clear hT hS1 hS2 hbb
  go_upto_region 7 with fail
  go_cut [41] from 29 to 41 (fun v wc => v = .bool (!bb) ∧ Chg w4 wc)
  case first =>
    refine wp_region_good 12 (fun j v wg => match j with
      | 0 => v = .pointer (some ⟨K, 0, none⟩)
      | 1 => v = .agg (ba 12 nc)
      | 2 => v = va
      | 3 => v = .slice lo m cs
      | 4 => ∃ vx, v = vx ∧ Ap.Rd wg vx (nums 16 T)
      | 5 => v = .string S1
      | 6 => v = .slice (some ⟨sb, so, none⟩) ns cs
      | 7 => v = .slice (some ⟨sb, so, none⟩) ns cs
      | 8 => v = .int .i64 (ns : Int)
      | 9 => v = .int .i64 (m : Int)
      | 10 => v = .slice (some ⟨sb, so + m, none⟩) 16 (cs - m)
      | 11 => v = .string S2
      | _ => True) (by kernel_rfl) (by kernel_rfl) (by kernel_rfl) (by kernel_rfl) (by kernel_rfl) ?_ ?_ ?_
    · intro j v u1 u2 h hc
      match j, h with
      | 0, h => exact h
      | 1, h => exact h
      | 2, h => exact h
      | 3, h => exact h
      | 4, h => (obtain ⟨vx, h1, h2⟩ := h; exact ⟨vx, h1, Rd.chg h2 hc⟩)
      | 5, h => exact h
      | 6, h => exact h
      | 7, h => exact h
      | 8, h => exact h
      | 9, h => exact h
      | 10, h => exact h
      | 11, h => exact h
      | _ + 12, h => exact trivial
    · intro i o ac u hi ho hsz hf hg hc
      have hcs : i = 0 ∨ i = 1 ∨ i = 2 ∨ i = 3 ∨ i = 4 ∨ i = 5 ∨ i = 6 ∨ i = 7 ∨ i = 8 ∨ i = 9 ∨ i = 10 ∨ i = 11 := by omega
      rcases hcs with rfl | rfl | rfl | rfl | rfl | rfl | rfl | rfl | rfl | rfl | rfl | rfl
      · injection ho with ho
        subst ho
        refine .inl ⟨wanted_none rfl, ?_⟩
        have e1 : ac.eval (.tmp 10) = .pointer (some ⟨K, 0, none⟩) := hf 10 (by kernel_rfl)
        exact opG_val (by simp [execOp, e1]) rfl (Chg.refl _)
      · injection ho with ho
        subst ho
        refine .inl ⟨wanted_none rfl, ?_⟩
        have e1 : ac.eval (.tmp 5) = .pointer (some ⟨w.heap.size, 0, none⟩) := hf 5 (by kernel_rfl)
        exact wp_load_mid 38 (.tmp 5) rfl _ _ e1 ((ba 12 nc).toList) _ (range12 (Ar.chg (w := w4.drew) Z4.out.2.1 hc)) und38 rfl (info12 _) ⟨_, rfl, rfl, Chg.refl _⟩
      · injection ho with ho
        subst ho
        refine .inl ⟨wanted_none rfl, ?_⟩
        have e1 : ac.eval (.tmp 2) = va := hf 2 (by kernel_rfl)
        exact opG_val (by simp [execOp, e1]) rfl (Chg.refl _)
      · injection ho with ho
        subst ho
        refine .inl ⟨wanted_none rfl, ?_⟩
        have e1 : ac.eval (.tmp 12) = .slice lo m cs := hf 12 (by kernel_rfl)
        exact opG_val (by simp [execOp, e1]) rfl (Chg.refl _)
      · injection ho with ho
        subst ho
        refine .inl ⟨wanted_none rfl, ?_⟩
        have e1 : ac.eval (.tmp 29) = .pointer (some ⟨K, 0, none⟩) := hg 0 (by kernel_rfl) (by decide)
        have e2 : ac.eval (.tmp 30) = .agg (ba 12 nc) := hg 1 (by kernel_rfl) (by decide)
        have e3 : ac.eval (.tmp 31) = va := hg 2 (by kernel_rfl) (by decide)
        have e4 : ac.eval (.tmp 32) = .slice lo m cs := hg 3 (by kernel_rfl) (by decide)
        refine opG_go 44 Try.f44 #[.tmp 29, .tmp 30, .tmp 31, .tmp 32] #[29, 38, 22, 22] rfl Try.func44 (by kernel_rfl) (by kernel_rfl) (by simp [e1, e2, e3, e4]) (Calls.mono (HT.out _ hc) ?_)
        rintro e u2 ⟨v2, rfl, ho⟩
        exact ⟨_, rfl, ⟨v2, rfl, ho.own.rd⟩, ho.chg⟩
      · injection ho with ho
        subst ho
        refine .inl ⟨wanted_none rfl, ?_⟩
        obtain ⟨vx, e10, xx⟩ := hg 4 (by kernel_rfl) (by decide)
        have e1 : ac.eval (.tmp 33) = vx := e10
        have hcv := (show (convert 22 9 vx).run Try.prog u = .ok (.string S1) u from by rw [HSS.out.1]; exact Ap.run_str u _ _ xx)
        exact opG_val (by simp [execOp, e1, hcv]) rfl (Chg.refl _)
      · injection ho with ho
        subst ho
        refine .inl ⟨wanted_none rfl, ?_⟩
        have e1 : ac.eval (.tmp 3) = .slice (some ⟨sb, so, none⟩) ns cs := hf 3 (by kernel_rfl)
        exact opG_val (by simp [execOp, e1]) rfl (Chg.refl _)
      · injection ho with ho
        subst ho
        refine .inl ⟨wanted_none rfl, ?_⟩
        have e1 : ac.eval (.tmp 3) = .slice (some ⟨sb, so, none⟩) ns cs := hf 3 (by kernel_rfl)
        exact opG_val (by simp [execOp, e1]) rfl (Chg.refl _)
      · injection ho with ho
        subst ho
        refine .inl ⟨wanted_none rfl, ?_⟩
        have e1 : ac.eval (.tmp 36) = .slice (some ⟨sb, so, none⟩) ns cs := hg 7 (by kernel_rfl) (by decide)
        exact opG_val (by revert e1; generalize ac.eval = ρ; intro e1; simp [go_sem, execOp, e1]) rfl (Chg.refl _)
      · injection ho with ho
        subst ho
        refine .inl ⟨wanted_none rfl, ?_⟩
        have e1 : ac.eval (.tmp 37) = .int .i64 (ns : Int) := hg 8 (by kernel_rfl) (by decide)
        have e2 : ac.eval (.const (.int .i64 16)) = .int .i64 16 := rfl
        exact opG_val (by revert e1 e2; generalize ac.eval = ρ; intro e1 e2; simp [go_sem, execOp, e1, e2, hsub, wm]) rfl (Chg.refl _)
      · injection ho with ho
        subst ho
        refine .inl ⟨wanted_none rfl, ?_⟩
        have e1 : ac.eval (.tmp 35) = .slice (some ⟨sb, so, none⟩) ns cs := hg 6 (by kernel_rfl) (by decide)
        have e2 : ac.eval (.tmp 38) = .int .i64 (m : Int) := hg 9 (by kernel_rfl) (by decide)
        exact opG_val (by simp [execOp, e1, e2, hhi]) rfl (Chg.refl _)
      · injection ho with ho
        subst ho
        refine .inl ⟨wanted_none rfl, ?_⟩
        have e1 : ac.eval (.tmp 39) = .slice (some ⟨sb, so + m, none⟩) 16 (cs - m) := hg 10 (by kernel_rfl) (by decide)
        have hcv := (show (convert 22 9 (.slice (some ⟨sb, so + m, none⟩) 16 (cs - m))).run Try.prog u = .ok (.string S2) u from by rw [HSS.out.2]; exact Ap.run_str u _ _ (Bs.rd (Bs.chg HS.out (Z4.out.1.drew.trans hc)) HCS.out.1 HCS.out.2))
        exact opG_val (by simp [execOp, e1, hcv]) rfl (Chg.refl _)
    · intro o u V ho hV hc
      injection ho with ho
      subst ho
      refine ⟨rfl, ?_⟩
      have q29 : V 0 = .pointer (some ⟨K, 0, none⟩) := hV 0 (by decide)
      have q30 : V 1 = .agg (ba 12 nc) := hV 1 (by decide)
      have q31 : V 2 = va := hV 2 (by decide)
      have q32 : V 3 = .slice lo m cs := hV 3 (by decide)
      obtain ⟨vx, q33, xx⟩ := hV 4 (by decide)
      have q34 : V 5 = .string S1 := hV 5 (by decide)
      have q35 : V 6 = .slice (some ⟨sb, so, none⟩) ns cs := hV 6 (by decide)
      have q36 : V 7 = .slice (some ⟨sb, so, none⟩) ns cs := hV 7 (by decide)
      have q37 : V 8 = .int .i64 (ns : Int) := hV 8 (by decide)
      have q38 : V 9 = .int .i64 (m : Int) := hV 9 (by decide)
      have q39 : V 10 = .slice (some ⟨sb, so + m, none⟩) 16 (cs - m) := hV 10 (by decide)
      have q40 : V 11 = .string S2 := hV 11 (by decide)
      refine op_neqS (.tmp 34) (.tmp 40) S1 S2 bb rfl (Eq.trans (by rfl) q34) (Eq.trans (by rfl) q40) hsb ?_
      go_wp2_with fail
      go_meet
      exact ⟨rfl, (Chg.refl w4).drew.trans hc⟩
  case rest =>
    obtain ⟨rfl, c6⟩ := hcut
    obtain ⟨w6, hw6⟩ : ∃ w6, w6 = wc := ⟨_, rfl⟩
    have Z6 : Hid (Chg w w6 ∧ Ar w6 w.heap.size A ∧ Ar w6 K (rkeyC R k)) := by
      rw [hw6, HA.out]
      exact ⟨Z4.out.1.trans c6, Z4.out.2.1.chg c6, Z4.out.2.2.chg c6⟩
    rw [← hw6]
    clear hw6 c6 Z4 hhi HT hsb
    cases bb with
    | false =>
      go_wp2_with fail
      go_ret2
      exact ⟨k, HKs.out, Z6.out.1, .inr ⟨by rw [← HTe.out, ← HBB.out], rfl⟩⟩
    | true =>
      obtain ⟨tA, gA⟩ := Z6.out.2.1
      have HSt : Hid (Calls Try.prog 43 #[.pointer (some ⟨K, 0, none⟩), .agg A, .slice lo m cs] w6 fun r w' => ∃ v, r = .returned v ∧ OwnN w6 w' v (nums m (stF R k (ctrB nc 2#8) sf))) := by
        rw [HA.out]
        have h3 := HV.out.2.2
        exact refStr_any K R m k nc sf _ w6 Z6.out.2.2 hR2 (HV.out.2.1 w6 Z6.out.1) (by omega)
      go_wp2_with (first | refine wpList_load_row rfl 38 _ rfl _ rfl _ _ _ _ gA und38 rfl hszA ?_)
      go_at_call 43
      refine HSt.out.mono ?_
      rintro r w7 ⟨v, rfl, ho⟩
      obtain ⟨vo, vm, vc, rfl, -⟩ := ho.own.rd.shape
      have Z7 : Hid (Chg w w7 ∧ Ap.Rd w7 (.slice vo vm vc) (nums m (stF R k (ctrB nc 2#8) sf))) := ⟨Z6.out.1.trans ho.chg, ho.own.rd⟩
      clear ho
      go_wp2_with fail
      go_ret2
      exact ⟨k, HKs.out, Z7.out.1, .inl ⟨by rw [← HTe.out, ← HBB.out], _, rfl, Z7.out.2⟩⟩
end Go.Proofs.Ytfnibmfmjglmlaa
