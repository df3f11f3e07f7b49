/-
  A number written, seven bits a byte, behind others: the program's.
-/
import Derived.Test.YtnidfbcninkglaaDoorWk
import Derived.Test.YtnidfbcninkglaaDoorShelf2
namespace Go.Proofs.YtnidfbcninkglaaDoor
open Go.RowKit
set_option linter.unusedVariables false
set_option maxRecDepth 100000

theorem bl7 (y : Nat) (h1 : 1 ≤ y) (h : y < 128) : 1 ≤ Lib.bitLen y ∧ Lib.bitLen y ≤ 7 := by
  have hd : ∀ k : Fin 128, 1 ≤ k.val → 1 ≤ Lib.bitLen k.val ∧ Lib.bitLen k.val ≤ 7 := by decide +kernel
  exact hd ⟨y, h⟩ h1
theorem bl_div (k : Nat) (L : Nat) (h1 : 7 * k + 1 ≤ L) (h2 : L ≤ 7 * k + 7) : ((L : Int) - 1).tdiv 7 = (k : Int) := by
  rw [Int.tdiv_eq_ediv_of_nonneg (by omega)]
  omega
theorem bl_grp (k x : Nat) (h1 : 128 ^ k ≤ x) (h2 : x < 128 ^ (k + 1)) (h : x < 4398046511104) : ((Lib.bitLen x : Int) - 1).tdiv 7 = (k : Int) := by
  have e : (2 : Nat) ^ (7 * k) = 128 ^ k := by rw [Nat.pow_mul]
  have hb := Lib.bitLen_shift (7 * k) x (by rw [e]; exact h1) (Nat.lt_of_lt_of_le h (by decide))
  rw [e] at hb
  have h3 : 1 ≤ x / 128 ^ k := (Nat.one_le_div_iff (Nat.pow_pos (by decide))).2 h1
  have h4 : x / 128 ^ k < 128 := by
    rw [Nat.div_lt_iff_lt_mul (Nat.pow_pos (by decide)), Nat.mul_comm, ← Nat.pow_succ]
    exact h2
  obtain ⟨g1, g2⟩ := bl7 _ h3 h4
  exact bl_div k _ (by omega) (by omega)
theorem bitLen_sev (x : Nat) (h : x < 4398046511104) : (((Lib.bitLen x : Nat) : Int) - 1).tdiv 7 = (sevK x : Int) := by
  unfold sevK
  by_cases h0 : x = 0
  · subst h0
    rw [if_pos (by decide)]
    decide +kernel
  · split
    · exact bl_grp 0 x (by simp; omega) (by simp; omega) h
    · split
      · exact bl_grp 1 x (by simp; omega) (by rw [show (128 : Nat) ^ (1 + 1) = 16384 from by decide]; omega) h
      · split
        · exact bl_grp 2 x (by rw [show (128 : Nat) ^ 2 = 16384 from by decide]; omega) (by rw [show (128 : Nat) ^ (2 + 1) = 2097152 from by decide]; omega) h
        · split
          · exact bl_grp 3 x (by rw [show (128 : Nat) ^ 3 = 2097152 from by decide]; omega) (by rw [show (128 : Nat) ^ (3 + 1) = 268435456 from by decide]; omega) h
          · split
            · exact bl_grp 4 x (by rw [show (128 : Nat) ^ 4 = 268435456 from by decide]; omega) (by rw [show (128 : Nat) ^ (4 + 1) = 34359738368 from by decide]; omega) h
            · exact bl_grp 5 x (by rw [show (128 : Nat) ^ 5 = 34359738368 from by decide]; omega) (by rw [show (128 : Nat) ^ (5 + 1) = 4398046511104 from by decide]; omega) h
theorem or128' (y : Int) (h0 : 0 ≤ y) (h1 : y < 256) : bits .or .u8 128 y = 128 + y % 128 := by
  have h : ∀ k : Fin 256, bits .or .u8 128 ((k.val : Nat) : Int) = 128 + ((k.val : Nat) : Int) % 128 := by decide +kernel
  have := h ⟨y.toNat, by omega⟩
  dsimp only at this
  rwa [Int.toNat_of_nonneg h0] at this
theorem sevK5 (x : Int) : sevK x ≤ 5 := by
  unfold sevK
  repeat' split
  all_goals omega
set_option maxHeartbeats 4000000 in
theorem sevA_any (v : Value) (ys : List Int) (x : Int) (h0 : 0 ≤ x) (h1 : x < 4398046511104) (hl : ys.length ≤ 1000) (a w : World) (hv : OwnN a w v ys) :
    Calls Tryd.prog 77 #[v, .int .u64 x] w fun e w' => ∃ v', e = .returned v' ∧ OwnN a w' v' (ys ++ sev x) := by
  obtain ⟨ao, n, c, rfl, hn, -, -⟩ := hv.rd.shape
  have HV : Hid (OwnN a w (.slice ao n c) ys) := hv
  obtain ⟨K, hK⟩ : ∃ K, K = sevK x := ⟨_, rfl⟩
  have HK : Hid (K = sevK x) := hK
  have hK5 : K ≤ 5 := by rw [hK]; exact sevK5 x
  obtain ⟨L, hL⟩ : ∃ L, L = Lib.bitLen x.toNat := ⟨_, rfl⟩
  have HB : Hid (Calls Tryd.prog 92 #[.int .u64 x] w fun e w' => e = .returned (.int .i64 L) ∧ w' = w) := by rw [hL]; exact Tryd.bits_Len64 x w h0 (by omega)
  have hT : ((L : Int) - 1).tdiv 7 = (K : Int) := by
    have h := bitLen_sev x.toNat (by omega)
    rw [Int.toNat_of_nonneg h0, ← hK, ← hL] at h
    exact h
  have hL64 : L ≤ 42 := by
    by_cases hl : L = 0
    · omega
    · rw [Int.tdiv_eq_ediv_of_nonneg (by omega)] at hT
      omega
  have HI0 : Hid (OwnN a w (.slice ao n c) (ys ++ []) ∧ ([] : List Int) ++ sevH K x = sevH K x ∧ ([] : List Int).length + K ≤ 5) := ⟨by rw [List.append_nil]; exact HV.out, rfl, by simpa using hK5⟩
  have HFin : Hid (sevH K x ++ [x % 128] = sev x) := by show _ = _; rw [hK]; rfl
  clear hv hn hK hL
  go_enter Tryd.func77, Tryd.ntmps77
  go_wp2_with (go_at_call 92; refine HB.out.mono ?_; rintro e w' ⟨rfl, hw⟩; rw [hw])
  go_loopw [0, 5] (fun v mm wr => ∃ (m : Nat) (zs : List Int), m ≤ K ∧ mm = .int .i64 m ∧ Hid (OwnN a wr v (ys ++ zs) ∧ zs ++ sevH m x = sevH K x ∧ zs.length + m ≤ 5)) (fun _ mm _ => (intOf mm).toNat)
  case atStart => exact ⟨K, [], Nat.le_refl _, rfl, HI0.out⟩
  case round =>
    obtain ⟨m, zs, hm, rfl, hI⟩ := hrel
    obtain ⟨ao2, n2, c2, hu2, hn2, -, -⟩ := hI.out.1.rd.shape
    subst hu2
    clear hn2
    match m, hm, hI with
    | 5, hm, hI =>
      obtain ⟨Y, hY⟩ : ∃ Y, Y = 128 + x / 128 ^ 5 % 128 := ⟨_, rfl⟩
      have e128 : (128 : Int) ^ 5 = 34359738368 := by decide
      have hYb : bits .or .u8 128 (x / 34359738368) = Y := by rw [or128' _ (by omega) (by omega), hY, e128]; try omega
      have HE : Hid ((zs ++ [Y]) ++ sevH 4 x = sevH K x) := by
        show _ = _
        rw [← hI.out.2.1, hY, List.append_assoc]
        rfl
      have HZL : Hid ((ys ++ zs).length + 1 ≤ 140737488355328) := by
        have h1 := hI.out.2.2
        show _ ≤ _
        rw [List.length_append]
        omega
      have HZ5 : Hid (zs.length + 1 + 4 ≤ 5) := by
        have h1 := hI.out.2.2
        show _ ≤ _
        omega
      clear hY e128
      go_wp2_with (at_builtin; refine wpList_app _ rfl (.tmp 14) (.tmp 21) rfl _ _ (ys ++ zs) [Y] rfl rfl (hI.out.1.own.chg ((Chg.refl _ _).alloc _)) (Rd.one _ _) HZL.out ?_)
      intro v' w2 g1 g2 g3
      have HO2 : Hid (OwnN a w2 v' (ys ++ (zs ++ [Y]))) := by
        exact (hI.out.1.after ((Chg.refl _ _).alloc (.cells #[.int .u8 Y] 5))).more g1 g2 (by rw [World.size_alloc]; exact g3)
      clear g1 g2 g3
      go_wp2
      go_roundw
      case rel => exact ⟨4, zs ++ [Y], by omega, by simp, HO2.out, HE.out, by have := HZ5.out; rw [List.length_append]; exact this⟩
      case measure => simp [intOf]
    | 4, hm, hI =>
      obtain ⟨Y, hY⟩ : ∃ Y, Y = 128 + x / 128 ^ 4 % 128 := ⟨_, rfl⟩
      have e128 : (128 : Int) ^ 4 = 268435456 := by decide
      have hYb : bits .or .u8 128 (x / 268435456 % 256) = Y := by rw [or128' _ (by omega) (by omega), hY, e128]; try omega
      have HE : Hid ((zs ++ [Y]) ++ sevH 3 x = sevH K x) := by
        show _ = _
        rw [← hI.out.2.1, hY, List.append_assoc]
        rfl
      have HZL : Hid ((ys ++ zs).length + 1 ≤ 140737488355328) := by
        have h1 := hI.out.2.2
        show _ ≤ _
        rw [List.length_append]
        omega
      have HZ5 : Hid (zs.length + 1 + 3 ≤ 5) := by
        have h1 := hI.out.2.2
        show _ ≤ _
        omega
      clear hY e128
      go_wp2_with (at_builtin; refine wpList_app _ rfl (.tmp 14) (.tmp 21) rfl _ _ (ys ++ zs) [Y] rfl rfl (hI.out.1.own.chg ((Chg.refl _ _).alloc _)) (Rd.one _ _) HZL.out ?_)
      intro v' w2 g1 g2 g3
      have HO2 : Hid (OwnN a w2 v' (ys ++ (zs ++ [Y]))) := by
        exact (hI.out.1.after ((Chg.refl _ _).alloc (.cells #[.int .u8 Y] 5))).more g1 g2 (by rw [World.size_alloc]; exact g3)
      clear g1 g2 g3
      go_wp2
      go_roundw
      case rel => exact ⟨3, zs ++ [Y], by omega, by simp, HO2.out, HE.out, by have := HZ5.out; rw [List.length_append]; exact this⟩
      case measure => simp [intOf]
    | 3, hm, hI =>
      obtain ⟨Y, hY⟩ : ∃ Y, Y = 128 + x / 128 ^ 3 % 128 := ⟨_, rfl⟩
      have e128 : (128 : Int) ^ 3 = 2097152 := by decide
      have hYb : bits .or .u8 128 (x / 2097152 % 256) = Y := by rw [or128' _ (by omega) (by omega), hY, e128]; try omega
      have HE : Hid ((zs ++ [Y]) ++ sevH 2 x = sevH K x) := by
        show _ = _
        rw [← hI.out.2.1, hY, List.append_assoc]
        rfl
      have HZL : Hid ((ys ++ zs).length + 1 ≤ 140737488355328) := by
        have h1 := hI.out.2.2
        show _ ≤ _
        rw [List.length_append]
        omega
      have HZ5 : Hid (zs.length + 1 + 2 ≤ 5) := by
        have h1 := hI.out.2.2
        show _ ≤ _
        omega
      clear hY e128
      go_wp2_with (at_builtin; refine wpList_app _ rfl (.tmp 14) (.tmp 21) rfl _ _ (ys ++ zs) [Y] rfl rfl (hI.out.1.own.chg ((Chg.refl _ _).alloc _)) (Rd.one _ _) HZL.out ?_)
      intro v' w2 g1 g2 g3
      have HO2 : Hid (OwnN a w2 v' (ys ++ (zs ++ [Y]))) := by
        exact (hI.out.1.after ((Chg.refl _ _).alloc (.cells #[.int .u8 Y] 5))).more g1 g2 (by rw [World.size_alloc]; exact g3)
      clear g1 g2 g3
      go_wp2
      go_roundw
      case rel => exact ⟨2, zs ++ [Y], by omega, by simp, HO2.out, HE.out, by have := HZ5.out; rw [List.length_append]; exact this⟩
      case measure => simp [intOf]
    | 2, hm, hI =>
      obtain ⟨Y, hY⟩ : ∃ Y, Y = 128 + x / 128 ^ 2 % 128 := ⟨_, rfl⟩
      have e128 : (128 : Int) ^ 2 = 16384 := by decide
      have hYb : bits .or .u8 128 (x / 16384 % 256) = Y := by rw [or128' _ (by omega) (by omega), hY, e128]; try omega
      have HE : Hid ((zs ++ [Y]) ++ sevH 1 x = sevH K x) := by
        show _ = _
        rw [← hI.out.2.1, hY, List.append_assoc]
        rfl
      have HZL : Hid ((ys ++ zs).length + 1 ≤ 140737488355328) := by
        have h1 := hI.out.2.2
        show _ ≤ _
        rw [List.length_append]
        omega
      have HZ5 : Hid (zs.length + 1 + 1 ≤ 5) := by
        have h1 := hI.out.2.2
        show _ ≤ _
        omega
      clear hY e128
      go_wp2_with (at_builtin; refine wpList_app _ rfl (.tmp 14) (.tmp 21) rfl _ _ (ys ++ zs) [Y] rfl rfl (hI.out.1.own.chg ((Chg.refl _ _).alloc _)) (Rd.one _ _) HZL.out ?_)
      intro v' w2 g1 g2 g3
      have HO2 : Hid (OwnN a w2 v' (ys ++ (zs ++ [Y]))) := by
        exact (hI.out.1.after ((Chg.refl _ _).alloc (.cells #[.int .u8 Y] 5))).more g1 g2 (by rw [World.size_alloc]; exact g3)
      clear g1 g2 g3
      go_wp2
      go_roundw
      case rel => exact ⟨1, zs ++ [Y], by omega, by simp, HO2.out, HE.out, by have := HZ5.out; rw [List.length_append]; exact this⟩
      case measure => simp [intOf]
    | 1, hm, hI =>
      obtain ⟨Y, hY⟩ : ∃ Y, Y = 128 + x / 128 ^ 1 % 128 := ⟨_, rfl⟩
      have e128 : (128 : Int) ^ 1 = 128 := by decide
      have hYb : bits .or .u8 128 (x / 128 % 256) = Y := by rw [or128' _ (by omega) (by omega), hY, e128]; try omega
      have HE : Hid ((zs ++ [Y]) ++ sevH 0 x = sevH K x) := by
        show _ = _
        rw [← hI.out.2.1, hY, List.append_assoc]
        rfl
      have HZL : Hid ((ys ++ zs).length + 1 ≤ 140737488355328) := by
        have h1 := hI.out.2.2
        show _ ≤ _
        rw [List.length_append]
        omega
      have HZ5 : Hid (zs.length + 1 + 0 ≤ 5) := by
        have h1 := hI.out.2.2
        show _ ≤ _
        omega
      clear hY e128
      go_wp2_with (at_builtin; refine wpList_app _ rfl (.tmp 14) (.tmp 21) rfl _ _ (ys ++ zs) [Y] rfl rfl (hI.out.1.own.chg ((Chg.refl _ _).alloc _)) (Rd.one _ _) HZL.out ?_)
      intro v' w2 g1 g2 g3
      have HO2 : Hid (OwnN a w2 v' (ys ++ (zs ++ [Y]))) := by
        exact (hI.out.1.after ((Chg.refl _ _).alloc (.cells #[.int .u8 Y] 5))).more g1 g2 (by rw [World.size_alloc]; exact g3)
      clear g1 g2 g3
      go_wp2
      go_roundw
      case rel => exact ⟨0, zs ++ [Y], by omega, by simp, HO2.out, HE.out, by have := HZ5.out; rw [List.length_append]; exact this⟩
      case measure => simp [intOf]
    | m + 6, hm, hI => omega
    | 0, hm, hI =>
      obtain ⟨Y, hY⟩ : ∃ Y, Y = x % 128 := ⟨_, rfl⟩
      have hYb : bits .and .u8 (x % 256) 127 = Y := by rw [and127 _ (by omega) (by omega), hY]; try omega
      have HE : Hid (ys ++ (zs ++ [Y]) = ys ++ sev x) := by
        show _ = _
        have h := hI.out.2.1
        rw [sevH, List.append_nil] at h
        rw [← HFin.out, ← h, hY]
      have HZL : Hid ((ys ++ zs).length + 1 ≤ 140737488355328) := by
        have h1 := hI.out.2.2
        show _ ≤ _
        rw [List.length_append]
        omega
      clear hY
      go_wp2_with (at_builtin; refine wpList_app _ rfl (.tmp 23) (.tmp 27) rfl _ _ (ys ++ zs) [Y] rfl rfl (hI.out.1.own.chg ((Chg.refl _ _).alloc _)) (Rd.one _ _) HZL.out ?_)
      intro v' w2 g1 g2 g3
      have HO2 : Hid (OwnN a w2 v' (ys ++ sev x)) := by
        have h := (hI.out.1.after ((Chg.refl _ _).alloc (.cells #[.int .u8 Y] 5))).more g1 g2 (by rw [World.size_alloc]; exact g3)
        rw [HE.out] at h
        exact h
      clear g1 g2 g3
      go_wp2
      go_ret
      exact ⟨_, rfl, HO2.out⟩
end Go.Proofs.YtnidfbcninkglaaDoor
