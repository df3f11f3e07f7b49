/-
  Keys made ready, and a block that is encrypted: the functions encrypted and Encrypt.
-/
import Derived.Test.YtobglgddbhddnaaGreatJ04
import Derived.Deep.MidRow
import Derived.Test.YtobglgddbhddnaaGreatJ02
namespace Go.Proofs.YtobglgddbhddnaaGreat
open Go.RowKit
set_option linter.unusedVariables false

/-- A key: its rounds, its round keys. -/
def keyC (R : Nat) (k : Nat → By) : Array Value := #[.int .i64 (R : Int)] ++ ba 240 k
theorem keyC_size (R : Nat) (k : Nat → By) : (keyC R k).size = 241 := by simp [keyC, ba_size]
theorem keyC_get (R : Nat) (k : Nat → By) {j : Nat} (h : j < 240) : (keyC R k)[1 + j]? = some (.int .u8 ((k j).toNat : Int)) := by
  unfold keyC
  rw [Array.getElem?_append_right (by simp)]
  have : 1 + j - #[Value.int IntKind.i64 (R : Int)].size = j := by simp
  rw [this, ba_get 240 k h]

theorem keyC_zero (R : Nat) (k : Nat → By) : (keyC R k)[0]? = some (.int .i64 (R : Int)) := by
  unfold keyC
  rw [Array.getElem?_append_left (by simp)]
  rfl
theorem keyR {w : World} {K R : Nat} {k : Nat → By} (h : Ar w K (keyC R k)) : w.cell? ⟨K, 0, none⟩ = some (.int .i64 (R : Int)) := (h.cell 0).trans (keyC_zero R k)

/-- A block within a row of cells. -/
theorem ldAt {w : World} {K : Nat} {c : Array Value} (h : Ar w K c) (o : Nat) (f : Nat → By) (hf : ∀ j, j < 16 → c[o + j]? = some (.int .u8 ((f j).toNat : Int))) :
    (Instr.loadAt 62 (.pointer (some ⟨K, o, none⟩))).run Tryz.prog w = .ok (.agg (ba 16 f)) w := by
  have := run_loadAt_mid (P := Tryz.prog) w K o 62 (ba 16 f).toList _ (fun j v hv => by
    rw [h.cell]
    have hj : j < 16 := by
      have := (List.getElem?_eq_some_iff.1 hv).1
      simpa [ba_size] using this
    rw [hf j hj]
    rw [Array.getElem?_toList, ba_get 16 f hj] at hv
    exact hv) und32 rfl (by rw [Array.length_toList, ba_size]; exact i32)
  simpa using this
theorem ldKey {w : World} {K R : Nat} {k : Nat → By} (h : Ar w K (keyC R k)) {i : Nat} (hi : i < 15) :
    (Instr.loadAt 62 (.pointer (some ⟨K, 1 + i * 16, none⟩))).run Tryz.prog w = .ok (.agg (ba 16 (rk k i))) w := by
  refine ldAt h _ _ fun j hj => ?_
  rw [Nat.add_assoc, keyC_get R k (by omega), rk, Nat.mul_comm]
theorem ldB {w : World} {B : Nat} {f : Nat → By} (h : Ar w B (ba 16 f)) :
    (Instr.loadAt 62 (.pointer (some ⟨B, 0, none⟩))).run Tryz.prog w = .ok (.agg (ba 16 f)) w :=
  ldAt h 0 f fun j hj => by rw [Nat.zero_add, ba_get 16 f hj]
theorem stB {w : World} {B : Nat} {f : Nat → By} (h : Ar w B (ba 16 f)) (g : Nat → By) :
    (Instr.storeAt 62 (.pointer (some ⟨B, 0, none⟩)) (.agg (ba 16 g))).run Tryz.prog w = .ok () (w.setRow B (ba 16 g)) := by
  obtain ⟨t, h⟩ := h
  simp only [Instr.storeAt, Instr.sureAddr, Sem.run_bind, Sem.run_pure, Result.andThen_ok]
  exact run_storeVar_row w B t 62 _ (ba 16 g) h (szB g zero32.2) (lenB 16 f g) (ba_one 16 g)

/-- What stands while a block is encrypted. -/
def EnS (w wr : World) (f : Nat → By) : Prop := Chg w wr ∧ Ar wr w.heap.size (ba 16 f) ∧ Ar wr (w.heap.size + 1) (ba 16 zB)
theorem EnS.chg {w wr u : World} {f : Nat → By} (h : EnS w wr f) (c : Chg wr u) : EnS w u f := ⟨h.1.trans c, h.2.1.chg c, h.2.2.chg c⟩
theorem EnS.drew {w wr : World} {f : Nat → By} (h : EnS w wr f) : EnS w wr.drew f := ⟨h.1.drew, h.2.1, h.2.2⟩
theorem EnS.put {w wr : World} {f : Nat → By} (h : EnS w wr f) (g : Nat → By) : EnS w (wr.setRow w.heap.size (ba 16 g)) g :=
  ⟨h.1.setRow (by omega) _, h.2.1.row _, h.2.2.rowOther (by omega) _⟩

/-- A block's cells, as a list. -/
def bl (f : Nat → By) : List Value := (ba 16 f).toList
theorem bl_len (f : Nat → By) : (bl f).length = 16 := by rw [bl, Array.length_toList, ba_size]
theorem bl_one (f : Nat → By) : ∀ v ∈ bl f, v.oneCell' = true := fun v hv => (Array.all_eq_true_iff_forall_mem.1 (ba_one 16 f)) v (by simpa [bl] using hv)
theorem bl_info (f : Nat → By) : (Tryz.prog.info? 62).map (·.size) = some (bl f).length := by rw [bl_len]; exact i32
theorem bl_get (f : Nat → By) {j : Nat} (hj : j < 16) : (bl f)[j]? = some (.int .u8 ((f j).toNat : Int)) := by rw [bl, Array.getElem?_toList, ba_get 16 f hj]
theorem rangeOf {w : World} {K : Nat} {c : Array Value} (h : Ar w K c) (o : Nat) (f : Nat → By) (hf : ∀ j, j < 16 → c[o + j]? = some (.int .u8 ((f j).toNat : Int))) : w.rangeAt K o (bl f) := by
  intro j v hv
  have hj : j < 16 := by rw [← bl_len f]; exact (List.getElem?_eq_some_iff.1 hv).1
  rw [h.cell, hf j hj, ← bl_get f hj, hv]
theorem rangeB {w : World} {B : Nat} {f : Nat → By} (h : Ar w B (ba 16 f)) : w.rangeAt B 0 (bl f) := rangeOf h 0 f fun j hj => by rw [Nat.zero_add, ba_get 16 f hj]
theorem rangeK {w : World} {K R : Nat} {k : Nat → By} (h : Ar w K (keyC R k)) {i : Nat} (hi : i < 15) : w.rangeAt K (1 + i * 16) (bl (rk k i)) :=
  rangeOf h _ _ fun j hj => by rw [Nat.add_assoc, keyC_get R k (by omega), rk, Nat.mul_comm]
theorem thereB {w : World} {B : Nat} {f : Nat → By} (h : Ar w B (ba 16 f)) : w.there B 0 16 := fun j hj => by
  rw [Nat.zero_add, h.cell, ba_get 16 f hj]
  exact ⟨rfl, h.frozen j⟩
theorem setRow_of {w : World} {B : Nat} {f : Nat → By} (h : Ar w B (ba 16 f)) (g : Nat → By) : w.setCells B 0 (bl g) = w.setRow B (ba 16 g) := by
  have h1 := run_storeVar_mid (P := Tryz.prog) w B 0 62 (ba 16 g) (by rw [ba_size]; exact thereB h) (by rw [ba_size]; exact i32) (ba_one 16 g)
  obtain ⟨t, h⟩ := h
  have h2 := run_storeVar_row (P := Tryz.prog) w B t 62 _ (ba 16 g) h (szB g zero32.2) (lenB 16 f g) (ba_one 16 g)
  rw [h1] at h2
  injection h2
theorem Chg.range {w u : World} (h : Chg w u) {K o : Nat} {cs : List Value} (hK : K < w.heap.size) (hr : w.rangeAt K o cs) : u.rangeAt K o cs := fun j v hv => by
  rw [← hr j v hv]
  exact World.cell?_of_block (h.block K hK)
theorem range_other {w : World} {K o B : Nat} {cs : List Value} (h : w.rangeAt K o cs) (hB : K ≠ B) (vs : List Value) : (w.setCells B 0 vs).rangeAt K o cs := World.rangeAt_setCells_apart h _ _ _ (.inl hB)

theorem xoredL (a b : Nat → By) (w : World) : Calls Tryz.prog 76 #[.agg (bl a).toArray, .agg (bl b).toArray] w fun r w' => r = .returned (.agg (bl (xr a b)).toArray) ∧ Chg w w' := xored_any a b w
theorem movedL (P : Nat) (f : Nat → By) (w : World) (hP : Ar w P (ba 256 sbF)) : Calls Tryz.prog 78 #[.pointer (some ⟨P, 0, none⟩), .agg (bl f).toArray] w fun r w' => r = .returned (.agg (bl (mv f)).toArray) ∧ Chg w w' := moved_any P f w hP
theorem mixedL (f : Nat → By) (w : World) : Calls Tryz.prog 77 #[.agg (bl f).toArray] w fun r w' => r = .returned (.agg (bl (mc f)).toArray) ∧ Chg w w' := mixed_any f w

set_option maxRecDepth 100000 in
set_option maxHeartbeats 4000000 in
theorem encrypted_any (K P R : Nat) (k b : Nat → By) (w : World) (hK : Ar w K (keyC R k)) (hP : Ar w P (ba 256 sbF)) (hR : R = 10 ∨ R = 14) :
    Calls Tryz.prog 60 #[.pointer (some ⟨K, 0, none⟩), .pointer (some ⟨P, 0, none⟩), .agg (ba 16 b)] w fun r w' => r = .returned (.agg (ba 16 (enc R k b))) ∧ Chg w w' := by
  have hsA := ba_size 16 b
  obtain ⟨A, hA⟩ : ∃ A, A = ba 16 b := ⟨_, rfl⟩
  have HA : Hid (A = ba 16 b) := hA
  have HK : Hid (Ar w K (keyC R k) ∧ Ar w P (ba 256 sbF) ∧ (R = 10 ∨ R = 14)) := ⟨hK, hP, hR⟩
  have hKl := hK.lt
  rw [← hA] at hsA ⊢
  clear hA hP hK hR
  have hz := zero32.1
  go_enter Tryz.func60, Tryz.ntmps60
  go_upto_region 1 with fail
  obtain ⟨w2, hw2⟩ : ∃ w2, w2 = (w.alloc (.cells A 62)).alloc (.cells (ba 16 zB) 62) := ⟨_, rfl⟩
  have Z : Hid (EnS w w2 b) := by
    rw [hw2, HA.out]
    exact ⟨((Chg.refl w).alloc _).alloc _, (Ar.new w _ _).alloc _, Ar.new1 w _ _ _⟩
  rw [← hw2]
  clear hw2 hz hsA
  go_cut [] from 8 to 14 (fun wc => EnS w wc (rnds k b 0))
  case first =>
    refine wp_region_vals 7 (fun j => match j with
      | 0 => .agg (ba 16 b)
      | 1 => .pointer (some ⟨K, 0, none⟩)
      | 2 => .pointer (some ⟨K, 0, none⟩)
      | 3 => .pointer (some ⟨K, 1, none⟩)
      | 4 => .pointer (some ⟨K, 1, none⟩)
      | 5 => .agg (ba 16 (rk k 0))
      | _ => .agg (ba 16 (xr b (rk k 0)))) (by kernel_rfl) (by kernel_rfl) (by kernel_rfl) (by kernel_rfl) (by kernel_rfl) (by kernel_rfl) ?_ ?_
    · intro i o a u hi ho hf hg hc
      have hcs : i = 0 ∨ i = 1 ∨ i = 2 ∨ i = 3 ∨ i = 4 ∨ i = 5 ∨ i = 6 := by omega
      rcases hcs with rfl | rfl | rfl | rfl | rfl | rfl | rfl
      · injection ho with ho
        subst ho
        have e1 : a.eval (.tmp 5) = .pointer (some ⟨w.heap.size, 0, none⟩) := hf 5 (by kernel_rfl)
        exact wp_load_mid 62 (.tmp 5) rfl _ _ e1 (bl (b)) _ (rangeB ((Z.out.drew.chg hc).2.1)) und32 rfl (bl_info _) ⟨rfl, Chg.refl _⟩
      · injection ho with ho
        subst ho
        have e1 : a.eval (.tmp 0) = .pointer (some ⟨K, 0, none⟩) := hf 0 (by kernel_rfl)
        exact op_val (by simp [execOp, e1]) (Chg.refl _)
      · injection ho with ho
        subst ho
        have e1 : a.eval (.tmp 9) = .pointer (some ⟨K, 0, none⟩) := hg 1 (by kernel_rfl) (by decide)
        exact op_val (by revert e1; generalize a.eval = ρ; intro e1; simp [go_sem, execOp, e1]) (Chg.refl _)
      · injection ho with ho
        subst ho
        have e1 : a.eval (.tmp 10) = .pointer (some ⟨K, 0, none⟩) := hg 2 (by kernel_rfl) (by decide)
        exact op_val (by revert e1; generalize a.eval = ρ; intro e1; simp [go_sem, execOp, e1]) (Chg.refl _)
      · injection ho with ho
        subst ho
        have e1 : a.eval (.tmp 11) = .pointer (some ⟨K, 1, none⟩) := hg 3 (by kernel_rfl) (by decide)
        have e2 : a.eval (.const (.int .i64 0)) = .int .i64 0 := rfl
        exact op_val (by revert e1 e2; generalize a.eval = ρ; intro e1 e2; simp [go_sem, execOp, e1, e2]) (Chg.refl _)
      · injection ho with ho
        subst ho
        have e1 : a.eval (.tmp 12) = .pointer (some ⟨K, 1, none⟩) := hg 4 (by kernel_rfl) (by decide)
        exact wp_load_mid 62 (.tmp 12) rfl _ _ e1 (bl (rk k 0)) _ (rangeK (HK.out.1.chg (Z.out.drew.chg hc).1) (i := 0) (by decide)) und32 rfl (bl_info _) ⟨rfl, Chg.refl _⟩
      · injection ho with ho
        subst ho
        have e1 : a.eval (.tmp 8) = .agg (ba 16 b) := hg 0 (by kernel_rfl) (by decide)
        have e2 : a.eval (.tmp 13) = .agg (ba 16 (rk k 0)) := hg 5 (by kernel_rfl) (by decide)
        exact op_go 76 Tryz.f76 #[.tmp 8, .tmp 13] #[62, 62] rfl Tryz.func76 (by kernel_rfl) (by kernel_rfl) (by simp [e1, e2]) (xored_any b (rk k 0) _)
    · intro o u ho hc
      injection ho with ho
      subst ho
      refine wp_store_mid 62 (.tmp 5) (.tmp 14) rfl _ _ (ba 16 (xr b (rk k 0))) rfl rfl (by rw [ba_size]; exact thereB (Z.out.drew.chg hc).2.1) (by rw [ba_size]; exact i32) (ba_one _ _) ?_
      have e := setRow_of ((Z.out.drew.chg hc).2.1) (xr b (rk k 0))
      rw [show (ba 16 (xr b (rk k 0))).toList = bl (xr b (rk k 0)) from rfl, e]
      change (_ : Act → World → Prop) ⟨#[.pointer (some ⟨K, 0, none⟩), .pointer (some ⟨P, 0, none⟩), .agg A, undef, undef, .pointer (some ⟨w.heap.size, 0, none⟩), .pointer (some ⟨w.heap.size + 1, 0, none⟩), undef, .agg (ba 16 b), .pointer (some ⟨K, 0, none⟩), .pointer (some ⟨K, 0, none⟩), .pointer (some ⟨K, 1, none⟩), .pointer (some ⟨K, 1, none⟩), .agg (ba 16 (rk k 0)), .agg (ba 16 (xr b (rk k 0))), undef, undef, undef, undef, undef, undef, undef, undef, undef, undef, undef, undef, undef, undef, undef, undef, undef, undef, undef, undef, undef, undef, undef, undef, undef, undef, undef, undef, undef, undef, undef, undef], []⟩ _
      dsimp only
      go_wp2_with fail
      go_meet
      exact (Z.out.drew.chg hc).put _
  case rest =>
    clear Z
    have HC : Hid (EnS w wc (rnds k b 0)) := hcut
    clear hcut
    obtain ⟨wo, hwo⟩ : ∃ wo, wo = wc := ⟨_, rfl⟩
    rw [← hwo] at HC ⊢
    clear hwo
    have hR15 : R < 15 := by rcases HK.out.2.2 with h | h <;> omega
    have hR1 : 1 ≤ R := by rcases HK.out.2.2 with h | h <;> omega
    go_wp2_with fail
    go_loopw [7] (fun v wr => ∃ (m : Nat), v = .int .i64 ((m + 1 : Nat) : Int) ∧ m + 1 ≤ R ∧ EnS w wr (rnds k b m)) (fun v wr => R - (intOf v).toNat)
    case atStart => exact ⟨0, rfl, hR1, HC.out⟩
    case round =>
      clear HC
      obtain ⟨m, rfl, hmR, hz⟩ := hrel
      have Z : Hid (EnS w wr (rnds k b m)) := hz
      have c0 : wr.cell? ⟨K, 0, none⟩ = some (.int .i64 (R : Int)) := keyR (HK.out.1.chg hz.1)
      obtain ⟨g, hg⟩ : ∃ g, g = rnds k b m := ⟨_, rfl⟩
      have HG : Hid (g = rnds k b m) := hg
      rw [← hg] at Z
      clear hz hg
      obtain ⟨q, hq⟩ : ∃ q : Nat, q = m + 1 := ⟨_, rfl⟩
      rw [← hq]
      have HQ : Hid (q = m + 1) := hq
      by_cases hlt : q < R
      · have hd : decide ((q : Int) < R) = true := by simp; omega
        have hm15 : (q : Int) < 15 := by omega
        have hm15b : q < 15 := by omega
        clear hq
        go_upto_region 5 with fail
        refine wp_region_vals 11 (fun j => match j with
          | 0 => .pointer (some ⟨P, 0, none⟩)
          | 1 => .agg (ba 16 g)
          | 2 => .agg (ba 16 (mv g))
          | 3 => .agg (ba 16 (mc (mv g)))
          | 4 => .pointer (some ⟨K, 0, none⟩)
          | 5 => .int .i64 (q : Int)
          | 6 => .pointer (some ⟨K, 0, none⟩)
          | 7 => .pointer (some ⟨K, 1, none⟩)
          | 8 => .pointer (some ⟨K, 1 + q * 16, none⟩)
          | 9 => .agg (ba 16 (rk k q))
          | _ => .agg (ba 16 (xr (mc (mv g)) (rk k q)))) (by kernel_rfl) (by kernel_rfl) (by kernel_rfl) (by kernel_rfl) (by kernel_rfl) (by kernel_rfl) ?_ ?_
        · intro i o a u hi ho hf hg hc
          have hcs : i = 0 ∨ i = 1 ∨ i = 2 ∨ i = 3 ∨ i = 4 ∨ i = 5 ∨ i = 6 ∨ i = 7 ∨ i = 8 ∨ i = 9 ∨ i = 10 := by omega
          rcases hcs with rfl | rfl | rfl | rfl | rfl | rfl | rfl | rfl | rfl | rfl | rfl
          · injection ho with ho
            subst ho
            have e1 : a.eval (.tmp 1) = .pointer (some ⟨P, 0, none⟩) := hf 1 (by kernel_rfl)
            exact op_val (by simp [execOp, e1]) (Chg.refl _)
          · injection ho with ho
            subst ho
            have e1 : a.eval (.tmp 5) = .pointer (some ⟨w.heap.size, 0, none⟩) := hf 5 (by kernel_rfl)
            exact wp_load_mid 62 (.tmp 5) rfl _ _ e1 (bl (g)) _ (rangeB ((Z.out.drew.chg hc).2.1)) und32 rfl (bl_info _) ⟨rfl, Chg.refl _⟩
          · injection ho with ho
            subst ho
            have e1 : a.eval (.tmp 23) = .pointer (some ⟨P, 0, none⟩) := hg 0 (by kernel_rfl) (by decide)
            have e2 : a.eval (.tmp 24) = .agg (ba 16 g) := hg 1 (by kernel_rfl) (by decide)
            exact op_go 78 Tryz.f78 #[.tmp 23, .tmp 24] #[100, 62] rfl Tryz.func78 (by kernel_rfl) (by kernel_rfl) (by simp [e1, e2]) (moved_any P g _ (HK.out.2.1.chg (Z.out.drew.chg hc).1))
          · injection ho with ho
            subst ho
            have e1 : a.eval (.tmp 25) = .agg (ba 16 (mv g)) := hg 2 (by kernel_rfl) (by decide)
            exact op_go 77 Tryz.f77 #[.tmp 25] #[62] rfl Tryz.func77 (by kernel_rfl) (by kernel_rfl) (by simp [e1]) (mixed_any _ _)
          · injection ho with ho
            subst ho
            have e1 : a.eval (.tmp 0) = .pointer (some ⟨K, 0, none⟩) := hf 0 (by kernel_rfl)
            exact op_val (by simp [execOp, e1]) (Chg.refl _)
          · injection ho with ho
            subst ho
            have e1 : a.eval (.tmp 7) = .int .i64 (q : Int) := hf 7 (by kernel_rfl)
            exact op_val (by simp [execOp, e1]) (Chg.refl _)
          · injection ho with ho
            subst ho
            have e1 : a.eval (.tmp 27) = .pointer (some ⟨K, 0, none⟩) := hg 4 (by kernel_rfl) (by decide)
            exact op_val (by revert e1; generalize a.eval = ρ; intro e1; simp [go_sem, execOp, e1]) (Chg.refl _)
          · injection ho with ho
            subst ho
            have e1 : a.eval (.tmp 29) = .pointer (some ⟨K, 0, none⟩) := hg 6 (by kernel_rfl) (by decide)
            exact op_val (by revert e1; generalize a.eval = ρ; intro e1; simp [go_sem, execOp, e1]) (Chg.refl _)
          · injection ho with ho
            subst ho
            have e1 : a.eval (.tmp 30) = .pointer (some ⟨K, 1, none⟩) := hg 7 (by kernel_rfl) (by decide)
            have e2 : a.eval (.tmp 28) = .int .i64 (q : Int) := hg 5 (by kernel_rfl) (by decide)
            exact op_val (by revert e1 e2; generalize a.eval = ρ; intro e1 e2; simp [go_sem, execOp, e1, e2, hm15]) (Chg.refl _)
          · injection ho with ho
            subst ho
            have e1 : a.eval (.tmp 31) = .pointer (some ⟨K, 1 + q * 16, none⟩) := hg 8 (by kernel_rfl) (by decide)
            exact wp_load_mid 62 (.tmp 31) rfl _ _ e1 (bl (rk k q)) _ (rangeK (HK.out.1.chg (Z.out.drew.chg hc).1) (i := q) hm15b) und32 rfl (bl_info _) ⟨rfl, Chg.refl _⟩
          · injection ho with ho
            subst ho
            have e1 : a.eval (.tmp 26) = .agg (ba 16 (mc (mv g))) := hg 3 (by kernel_rfl) (by decide)
            have e2 : a.eval (.tmp 32) = .agg (ba 16 (rk k q)) := hg 9 (by kernel_rfl) (by decide)
            exact op_go 76 Tryz.f76 #[.tmp 26, .tmp 32] #[62, 62] rfl Tryz.func76 (by kernel_rfl) (by kernel_rfl) (by simp [e1, e2]) (xored_any _ _ _)
        · intro o u ho hc
          injection ho with ho
          subst ho
          refine wp_store_mid 62 (.tmp 5) (.tmp 33) rfl _ _ (ba 16 (xr (mc (mv g)) (rk k q))) rfl rfl (by rw [ba_size]; exact thereB (Z.out.drew.chg hc).2.1) (by rw [ba_size]; exact i32) (ba_one _ _) ?_
          have e := setRow_of ((Z.out.drew.chg hc).2.1) (xr (mc (mv g)) (rk k q))
          rw [show (ba 16 (xr (mc (mv g)) (rk k q))).toList = bl (xr (mc (mv g)) (rk k q)) from rfl, e]
          change (_ : Act → World → Prop) ⟨#[.pointer (some ⟨K, 0, none⟩), .pointer (some ⟨P, 0, none⟩), .agg A, undef, undef, .pointer (some ⟨w.heap.size, 0, none⟩), .pointer (some ⟨w.heap.size + 1, 0, none⟩), .int .i64 (q : Int), u8, u9, u10, u11, u12, u13, u14, .int .i64 (q : Int), .pointer (some ⟨K, 0, none⟩), .pointer (some ⟨K, 0, none⟩), .pointer (some ⟨K, 0, none⟩), .int .i64 (R : Int), .bool true, u21, u22, .pointer (some ⟨P, 0, none⟩), .agg (ba 16 g), .agg (ba 16 (mv g)), .agg (ba 16 (mc (mv g))), .pointer (some ⟨K, 0, none⟩), .int .i64 (q : Int), .pointer (some ⟨K, 0, none⟩), .pointer (some ⟨K, 1, none⟩), .pointer (some ⟨K, 1 + q * 16, none⟩), .agg (ba 16 (rk k q)), .agg (ba 16 (xr (mc (mv g)) (rk k q))), undef, undef, undef, undef, undef, undef, undef, undef, undef, undef, undef, undef, undef], []⟩ _
          dsimp only
          go_wp2_with fail
          go_roundw
          case rel =>
            have hh := (Z.out.drew.chg hc).put (xr (mc (mv g)) (rk k q))
            refine ⟨q, by go_num, by omega, ?_⟩
            rw [HQ.out, rnds, ← HG.out, ← HQ.out]
            exact hh
          case measure => have := HQ.out; simp [intOf]; omega
      · have hqR : q = R := by omega
        subst hqR
        have hd : decide ((q : Int) < q) = false := by simp
        have hq15 : q < 15 := by omega
        have hq15i : (q : Int) < 15 := by omega
        clear hq
        go_upto_region 6 with fail
        refine wp_region_vals 13 (fun j => match j with
          | 0 => .pointer (some ⟨P, 0, none⟩)
          | 1 => .agg (ba 16 g)
          | 2 => .agg (ba 16 (mv g))
          | 3 => .pointer (some ⟨K, 0, none⟩)
          | 4 => .pointer (some ⟨K, 0, none⟩)
          | 5 => .pointer (some ⟨K, 0, none⟩)
          | 6 => .pointer (some ⟨K, 0, none⟩)
          | 7 => .int .i64 (q : Int)
          | 8 => .pointer (some ⟨K, 0, none⟩)
          | 9 => .pointer (some ⟨K, 1, none⟩)
          | 10 => .pointer (some ⟨K, 1 + q * 16, none⟩)
          | 11 => .agg (ba 16 (rk k q))
          | _ => .agg (ba 16 (xr (mv g) (rk k q)))) (by kernel_rfl) (by kernel_rfl) (by kernel_rfl) (by kernel_rfl) (by kernel_rfl) (by kernel_rfl) ?_ ?_
        · intro i o a u hi ho hf hg hc
          have hcs : i = 0 ∨ i = 1 ∨ i = 2 ∨ i = 3 ∨ i = 4 ∨ i = 5 ∨ i = 6 ∨ i = 7 ∨ i = 8 ∨ i = 9 ∨ i = 10 ∨ i = 11 ∨ i = 12 := by omega
          rcases hcs with rfl | rfl | rfl | rfl | rfl | rfl | rfl | rfl | rfl | rfl | rfl | rfl | rfl
          · injection ho with ho
            subst ho
            have e1 : a.eval (.tmp 1) = .pointer (some ⟨P, 0, none⟩) := hf 1 (by kernel_rfl)
            exact op_val (by simp [execOp, e1]) (Chg.refl _)
          · injection ho with ho
            subst ho
            have e1 : a.eval (.tmp 5) = .pointer (some ⟨w.heap.size, 0, none⟩) := hf 5 (by kernel_rfl)
            exact wp_load_mid 62 (.tmp 5) rfl _ _ e1 (bl (g)) _ (rangeB ((Z.out.drew.chg hc).2.1)) und32 rfl (bl_info _) ⟨rfl, Chg.refl _⟩
          · injection ho with ho
            subst ho
            have e1 : a.eval (.tmp 34) = .pointer (some ⟨P, 0, none⟩) := hg 0 (by kernel_rfl) (by decide)
            have e2 : a.eval (.tmp 35) = .agg (ba 16 g) := hg 1 (by kernel_rfl) (by decide)
            exact op_go 78 Tryz.f78 #[.tmp 34, .tmp 35] #[100, 62] rfl Tryz.func78 (by kernel_rfl) (by kernel_rfl) (by simp [e1, e2]) (moved_any P g _ (HK.out.2.1.chg (Z.out.drew.chg hc).1))
          · injection ho with ho
            subst ho
            have e1 : a.eval (.tmp 0) = .pointer (some ⟨K, 0, none⟩) := hf 0 (by kernel_rfl)
            exact op_val (by simp [execOp, e1]) (Chg.refl _)
          · injection ho with ho
            subst ho
            have e1 : a.eval (.tmp 0) = .pointer (some ⟨K, 0, none⟩) := hf 0 (by kernel_rfl)
            exact op_val (by simp [execOp, e1]) (Chg.refl _)
          · injection ho with ho
            subst ho
            have e1 : a.eval (.tmp 38) = .pointer (some ⟨K, 0, none⟩) := hg 4 (by kernel_rfl) (by decide)
            exact op_val (by revert e1; generalize a.eval = ρ; intro e1; simp [go_sem, execOp, e1]) (Chg.refl _)
          · injection ho with ho
            subst ho
            have e1 : a.eval (.tmp 39) = .pointer (some ⟨K, 0, none⟩) := hg 5 (by kernel_rfl) (by decide)
            exact op_val (by revert e1; generalize a.eval = ρ; intro e1; simp [go_sem, execOp, e1]) (Chg.refl _)
          · injection ho with ho
            subst ho
            have c0 : u.cell? ⟨K, 0, none⟩ = some (.int .i64 (q : Int)) := keyR (HK.out.1.chg (Z.out.drew.chg hc).1)
            have e1 : a.eval (.tmp 40) = .pointer (some ⟨K, 0, none⟩) := hg 6 (by kernel_rfl) (by decide)
            exact op_val (by revert e1; generalize a.eval = ρ; intro e1; simp [go_sem, execOp, e1, c0]) (Chg.refl _)
          · injection ho with ho
            subst ho
            have e1 : a.eval (.tmp 37) = .pointer (some ⟨K, 0, none⟩) := hg 3 (by kernel_rfl) (by decide)
            exact op_val (by revert e1; generalize a.eval = ρ; intro e1; simp [go_sem, execOp, e1]) (Chg.refl _)
          · injection ho with ho
            subst ho
            have e1 : a.eval (.tmp 42) = .pointer (some ⟨K, 0, none⟩) := hg 8 (by kernel_rfl) (by decide)
            exact op_val (by revert e1; generalize a.eval = ρ; intro e1; simp [go_sem, execOp, e1]) (Chg.refl _)
          · injection ho with ho
            subst ho
            have e1 : a.eval (.tmp 43) = .pointer (some ⟨K, 1, none⟩) := hg 9 (by kernel_rfl) (by decide)
            have e2 : a.eval (.tmp 41) = .int .i64 (q : Int) := hg 7 (by kernel_rfl) (by decide)
            exact op_val (by revert e1 e2; generalize a.eval = ρ; intro e1 e2; simp [go_sem, execOp, e1, e2, hq15i]) (Chg.refl _)
          · injection ho with ho
            subst ho
            have e1 : a.eval (.tmp 44) = .pointer (some ⟨K, 1 + q * 16, none⟩) := hg 10 (by kernel_rfl) (by decide)
            exact wp_load_mid 62 (.tmp 44) rfl _ _ e1 (bl (rk k q)) _ (rangeK (HK.out.1.chg (Z.out.drew.chg hc).1) (i := q) hq15) und32 rfl (bl_info _) ⟨rfl, Chg.refl _⟩
          · injection ho with ho
            subst ho
            have e1 : a.eval (.tmp 36) = .agg (ba 16 (mv g)) := hg 2 (by kernel_rfl) (by decide)
            have e2 : a.eval (.tmp 45) = .agg (ba 16 (rk k q)) := hg 11 (by kernel_rfl) (by decide)
            exact op_go 76 Tryz.f76 #[.tmp 36, .tmp 45] #[62, 62] rfl Tryz.func76 (by kernel_rfl) (by kernel_rfl) (by simp [e1, e2]) (xored_any _ _ _)
        · intro o u ho hc
          injection ho with ho
          subst ho
          refine wp_store_mid 62 (.tmp 6) (.tmp 46) rfl _ _ (ba 16 (xr (mv g) (rk k q))) rfl rfl (by rw [ba_size]; exact thereB (Z.out.drew.chg hc).2.2) (by rw [ba_size]; exact i32) (ba_one _ _) ?_
          have e := setRow_of ((Z.out.drew.chg hc).2.2) (xr (mv g) (rk k q))
          rw [show (ba 16 (xr (mv g) (rk k q))).toList = bl (xr (mv g) (rk k q)) from rfl, e]
          change (_ : Act → World → Prop) ⟨#[.pointer (some ⟨K, 0, none⟩), .pointer (some ⟨P, 0, none⟩), .agg A, undef, undef, .pointer (some ⟨w.heap.size, 0, none⟩), .pointer (some ⟨w.heap.size + 1, 0, none⟩), .int .i64 (q : Int), u8, u9, u10, u11, u12, u13, u14, .int .i64 (q : Int), .pointer (some ⟨K, 0, none⟩), .pointer (some ⟨K, 0, none⟩), .pointer (some ⟨K, 0, none⟩), .int .i64 (q : Int), .bool false, u21, u22, u23, u24, u25, u26, u27, u28, u29, u30, u31, u32, u33, .pointer (some ⟨P, 0, none⟩), .agg (ba 16 g), .agg (ba 16 (mv g)), .pointer (some ⟨K, 0, none⟩), .pointer (some ⟨K, 0, none⟩), .pointer (some ⟨K, 0, none⟩), .pointer (some ⟨K, 0, none⟩), .int .i64 (q : Int), .pointer (some ⟨K, 0, none⟩), .pointer (some ⟨K, 1, none⟩), .pointer (some ⟨K, 1 + q * 16, none⟩), .agg (ba 16 (rk k q)), .agg (ba 16 (xr (mv g) (rk k q)))], []⟩ _
          dsimp only
          go_wp2_with fail
          have hE : enc q k b = xr (mv g) (rk k q) := by
            have h1 := HQ.out
            rw [enc, show q - 1 = m by omega, HG.out]
          refine bp_c (n := 16) (c := ba 16 (xr (mv g) (rk k q))) Tryz.results60 rfl rfl ?_ und32 i32 (ba_size _ _) ⟨by rw [hE], ?_⟩
          · exact (Z.out.drew.chg hc).2.2.row _
          · exact (Z.out.drew.chg hc).1.setRow (by omega) _
end Go.Proofs.YtobglgddbhddnaaGreat
