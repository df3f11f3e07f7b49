/-
  OID: the document's.
-/
import Derived.Test.YtnidfbcninkglaaDoorOx
namespace Go.Proofs.YtnidfbcninkglaaDoor
open Go.RowKit
set_option linter.unusedVariables false
set_option maxRecDepth 100000

theorem add_tl (l m : List UInt8) (h : l.length + m.length ≤ 9223372036854775807) (W : World) : (Op.stringOp .add (bs l) (bs m)).run Tryd.prog W = .ok (.string (bs (l ++ m))) W := by
  rw [run_string_add_sum _ _ _ (by rw [bs_size, bs_size]; exact h), bs_app]
theorem oidT_snoc (acc : List Int) (x : Int) (h : acc ≠ []) : oidT (acc ++ [x]) = oidT acc ++ [46] ++ decI x := by
  match acc, h with
  | a :: r, _ =>
    show firstT a ++ restT (r ++ [x]) = firstT a ++ restT r ++ [46] ++ decI x
    rw [restT_snoc]
    simp
theorem oidT_one (x : Int) : oidT ([] ++ [x]) = firstT x := by simp [oidT, restT]
theorem dec0 : decI 0 = [48] := by decide +kernel
theorem dec1 : decI 1 = [49] := by decide +kernel
theorem dec2 : decI 2 = [50] := by decide +kernel
theorem first0 {x : Int} (h : x < 40) : firstT x = [48, 46] ++ decI x := by
  have : topI x = 0 := by unfold topI; rw [if_pos h]
  unfold firstT
  rw [this, dec0]
  simp
theorem first1 {x : Int} (h0 : ¬ x < 40) (h : x < 80) : firstT x = [49, 46] ++ decI (x - 40) := by
  have : topI x = 1 := by unfold topI; rw [if_neg h0, if_pos h]
  unfold firstT
  rw [this, dec1]
  simp
theorem first2 {x : Int} (h0 : ¬ x < 40) (h : ¬ x < 80) : firstT x = [50, 46] ++ decI (x - 80) := by
  have : topI x = 2 := by unfold topI; rw [if_neg h0, if_neg h]
  unfold firstT
  rw [this, dec2]
  simp
theorem oidT_len {l : List Int} (h : ∀ x ∈ l, 0 ≤ x ∧ x < 4294967296) : (oidT l).length ≤ 41 + 21 * l.length := by
  match l, h with
  | [], _ => simp [oidT]
  | a :: r, h =>
    have h1 := firstT_len (h a (by simp)).2 (h a (by simp)).1
    have h2 := restT_len (r := r) (fun x hx => h x (by simp [hx]))
    show (firstT a ++ restT r).length ≤ _
    simp
    omega

set_option maxHeartbeats 8000000 in
theorem roid_any (v : Value) (xs : List Int) (hb : Byt xs) (w : World) (hv : Rd w v xs) (ht : Tab w) (hl : xs.length ≤ 140737488355328) :
    Calls Tryd.prog 25 #[v] w fun e w' => e = .returned (.tuple #[.string (bs (oidS xs)), .int .i64 (oidE xs)]) ∧ Chg Non w w' := by
  have HB : Hid (Byt xs) := hb
  have HT : Hid (Tab w) := ht
  have HNO : Hid (oidL xs = none → oidS xs = [] ∧ oidE xs = 144) := fun h => by
    refine ⟨by unfold oidS; rw [h], ?_⟩
    unfold oidE oidB
    rw [h]
    rfl
  have HYES : Hid (∀ l, oidL xs = some l → oidS xs = oidT l ∧ oidE xs = 0) := fun l h => by
    refine ⟨by unfold oidS; rw [h], ?_⟩
    unfold oidE oidB
    rw [h]
    rfl
  obtain ⟨S, hS⟩ : ∃ S, S = bs (oidS xs) := ⟨_, rfl⟩
  obtain ⟨E, hE⟩ : ∃ E, E = oidE xs := ⟨_, rfl⟩
  have HNO2 : Hid (oidL xs = none → S = ⟨#[]⟩ ∧ E = 144) := fun h => by rw [hS, hE, (HNO.out h).1, (HNO.out h).2]; exact ⟨rfl, rfl⟩
  have HYES2 : Hid (∀ l, oidL xs = some l → S = bs (oidT l) ∧ E = 0) := fun l h => by rw [hS, hE, (HYES.out l h).1, (HYES.out l h).2]; exact ⟨rfl, rfl⟩
  rw [← hS, ← hE]
  clear HNO HYES hS hE ht hb
  by_cases hx : xs = []
  · subst hx
    obtain ⟨ao, c, rfl, hc⟩ := hv.empty
    obtain ⟨e1, e2⟩ := HNO2.out rfl
    have HE : Hid (S = ⟨#[]⟩ ∧ E = 144) := ⟨e1, e2⟩
    clear hv e1 e2 hl
    go_enter Tryd.func25, Tryd.ntmps25
    go_wp2
    go_loop [4, 5, 6, 7, 8] (fun s n g q i => s = .string ⟨#[]⟩ ∧ n = .int .u64 0 ∧ g = .bool true ∧ q = .int .i64 0 ∧ i = .int .i64 0) (fun _ _ _ _ i => 0)
    case atStart => exact ⟨rfl, rfl, rfl, rfl, rfl⟩
    case round =>
      obtain ⟨rfl, rfl, rfl, rfl, rfl⟩ := hrel
      go_wp2
      go_ret2
      exact ⟨by rw [HE.out.1, HE.out.2]; rfl, Chg.refl _ _⟩
  · obtain ⟨b, o, c, rfl, h1, h2, h3⟩ := hv.bs hx
    have H3 : Hid (Bs w b o xs) := h3
    obtain ⟨L, hL⟩ : ∃ L, L = xs.length := ⟨_, rfl⟩
    rw [← hL] at h1 hl ⊢
    have HL : Hid (L = xs.length) := hL
    obtain ⟨R, hR⟩ : ∃ R, sevL xs 0 false [] = R := ⟨_, rfl⟩
    have HR : Hid (sevL xs 0 false [] = R) := hR
    have HF : Hid (∀ u x, Chg Non w u → 0 ≤ x → x < 4294967296 → Calls Tryd.prog 45 #[.int .u64 x, .int .i64 10] u fun e w' => e = .returned (.string (bs (decI x))) ∧ Chg Non u w') := fun u x hu h0 h1 => formatI_any x h0 (by omega) u (HT.out.non hu)
    clear hv h3 hL hR hx
    go_enter Tryd.func25, Tryd.ntmps25
    go_wp2
    go_loopw [4, 5, 6, 7, 8] (fun s n g q i wr => ∃ (k : Nat) (m : Int) (p : Bool) (acc : List Int) (C : Nat) (Z : ByteArray), k ≤ L ∧ i = .int .i64 k ∧ n = .int .u64 m ∧ g = .bool (!p) ∧ q = .int .i64 C ∧ s = .string Z ∧ Hid (0 ≤ m ∧ m < 4294967296) ∧ C ≤ k ∧ Hid (C = acc.length ∧ Z = bs (oidT acc) ∧ (∀ x ∈ acc, 0 ≤ x ∧ x < 4294967296) ∧ sevL (xs.drop k) m p acc = R) ∧ Hid (Chg Non w wr)) (fun _ _ _ _ i _ => L - (intOf i).toNat)
    case atStart => exact ⟨0, 0, false, [], 0, ⟨#[]⟩, Nat.zero_le _, rfl, rfl, rfl, rfl, rfl, (⟨by decide, by decide⟩ : (0 : Int) ≤ 0 ∧ (0 : Int) < 4294967296), Nat.le_refl _, (⟨rfl, rfl, (fun x hx => by cases hx), HR.out⟩ : (0 = ([] : List Int).length ∧ (⟨#[]⟩ : ByteArray) = bs (oidT []) ∧ (∀ x ∈ ([] : List Int), 0 ≤ x ∧ x < 4294967296) ∧ sevL (xs.drop 0) 0 false [] = R)), Chg.refl _ _⟩
    case round =>
      obtain ⟨k, m, p, acc, C, Z, hk, rfl, rfl, rfl, rfl, rfl, hm, hC, hI, hch⟩ := hrel
      obtain ⟨hm0, hm1⟩ := hm.out
      rename_i wr _
      by_cases hlt : k < L
      · obtain ⟨x, hx⟩ : ∃ x, xs[k]? = some x := ⟨xs[k]'(by rw [← HL.out]; exact hlt), List.getElem?_eq_getElem _⟩
        have hd : xs.drop k = x :: xs.drop (k + 1) := by
          rw [List.drop_eq_getElem_cons (by rw [← HL.out]; exact hlt)]
          have := List.getElem?_eq_some_iff.1 hx
          rw [this.2]
        have hc := (H3.out.chg hch.out) k x hx
        obtain ⟨hx0, hx1⟩ := HB.out.get hx
        have HS : Hid (sevL (x :: xs.drop (k + 1)) m p acc = R) := by show _ = _; rw [← hd]; exact hI.out.2.2.2
        clear hx hd
        by_cases t1 : p = false ∧ x = 128
        · obtain ⟨rfl, rfl⟩ := t1
          have HZ : Hid (S = ⟨#[]⟩ ∧ E = 144) := by
            have := HS.out
            rw [sevL_cons, if_pos ⟨rfl, rfl⟩] at this
            exact HNO2.out (oidL_none (HR.out.trans this.symm))
          go_wp2
          go_ret2
          exact ⟨by rw [HZ.out.1, HZ.out.2]; rfl, hch.out⟩
        · obtain ⟨T, hT⟩ : ∃ T, T = 128 * m + x % 128 := ⟨_, rfl⟩
          obtain ⟨X, hX⟩ : ∃ X, X = x % 128 := ⟨_, rfl⟩
          have hand : bits .and .u8 x 127 = X := by rw [and127 x hx0 hx1, hX]
          have hor : bits .or .u64 (m * 128) X = T := by rw [hX, or7 m x hm0 hm1 hx0, hT]
          have hX0 : 0 ≤ X := by omega
          have hX1 : X < 128 := by omega
          have HT : Hid (T = 128 * m + x % 128) := hT
          have hT0 : 0 ≤ T := by omega
          have hT1 : T < 549755814016 := by omega
          have t1' : p = false → (x == 128) = false := by intro h; simp; intro h5; exact t1 ⟨h, h5⟩
          clear hT hX
          by_cases t3 : T < 4294967296
          · have dT : decide (4294967296 ≤ T) = false := by simp; omega
            by_cases t4 : 128 ≤ x
            · have dx : decide (x < 128) = false := by simp; omega
              have HS2 : Hid (sevL (xs.drop (k + 1)) T true acc = R) := by
                have := HS.out
                rw [sevL_cons, if_neg t1, if_neg (by rw [← HT.out]; omega), if_pos t4, ← HT.out] at this
                exact this
              have HT3 : Hid (0 ≤ T ∧ T < 4294967296) := ⟨hT0, t3⟩
              clear t1 hm HS t3
              cases p
              · have t5 : (x == 128) = false := t1' rfl
                clear t1'
                go_wp2
                go_roundw
                case rel => exact ⟨k + 1, T, true, acc, C, Z, by omega, by go_num, rfl, rfl, rfl, rfl, HT3, by omega, (⟨hI.out.1, hI.out.2.1, hI.out.2.2.1, HS2.out⟩ : C = acc.length ∧ Z = bs (oidT acc) ∧ (∀ x ∈ acc, 0 ≤ x ∧ x < 4294967296) ∧ sevL (xs.drop (k + 1)) T true acc = R), hch⟩
                case measure => simp [intOf]; omega
              · clear t1'
                go_wp2
                go_roundw
                case rel => exact ⟨k + 1, T, true, acc, C, Z, by omega, by go_num, rfl, rfl, rfl, rfl, HT3, by omega, (⟨hI.out.1, hI.out.2.1, hI.out.2.2.1, HS2.out⟩ : C = acc.length ∧ Z = bs (oidT acc) ∧ (∀ x ∈ acc, 0 ≤ x ∧ x < 4294967296) ∧ sevL (xs.drop (k + 1)) T true acc = R), hch⟩
                case measure => simp [intOf]; omega
            · have dx : decide (x < 128) = true := by simp; omega
              have t5 : (x == 128) = false := by simp; omega
              have HS2 : Hid (sevL (xs.drop (k + 1)) 0 false (acc ++ [T]) = R) := by
                have := HS.out
                rw [sevL_cons, if_neg t1, if_neg (by rw [← HT.out]; omega), if_neg t4, ← HT.out] at this
                exact this
              have HAC : Hid (∀ x ∈ acc ++ [T], 0 ≤ x ∧ x < 4294967296) := fun y hy => by
                simp at hy
                rcases hy with hy | hy
                · exact hI.out.2.2.1 y hy
                · rw [hy]; exact ⟨hT0, t3⟩
              have HLEN : Hid ((oidT acc).length ≤ 41 + 21 * acc.length) := oidT_len hI.out.2.2.1
              obtain ⟨Z', hZ'⟩ : ∃ Z', Z' = bs (oidT (acc ++ [T])) := ⟨_, rfl⟩
              have HZ' : Hid (Z' = bs (oidT (acc ++ [T]))) := hZ'
              have HT3 : Hid (T < 4294967296) := t3
              clear t1 hm HS hZ' t1' t3
              have HREL : Hid (C + 1 = (acc ++ [T]).length ∧ Z' = bs (oidT (acc ++ [T])) ∧ (∀ x ∈ acc ++ [T], 0 ≤ x ∧ x < 4294967296) ∧ sevL (xs.drop (k + 1)) 0 false (acc ++ [T]) = R) := ⟨by rw [hI.out.1]; simp, HZ'.out, HAC.out, HS2.out⟩
              have HT0 : Hid ((0 : Int) ≤ 0 ∧ (0 : Int) < 4294967296) := ⟨by decide, by decide⟩
              by_cases t6 : C = 0
              · have hacc : acc = [] := List.eq_nil_of_length_eq_zero (hI.out.1.symm.trans t6)
                have HZ2 : Hid (Z' = bs (firstT T)) := by show _ = _; rw [HZ'.out, hacc, oidT_one]
                subst t6
                by_cases t7 : T < 40
                · have d7 : decide (T < 40) = true := by simpa using t7
                  obtain ⟨D, hD⟩ : ∃ D, D = bs (decI T) := ⟨_, rfl⟩
                  have kA : ∀ W, (Op.stringOp .add ⟨#[48, 46]⟩ D).run Tryd.prog W = .ok (.string Z') W := fun W => by rw [hD, HZ2.out, first0 t7]; exact add_tl [48, 46] (decI T) (by have := decI_len (x := T) (by omega); simp; omega) W
                  have HC2 : Hid (Calls Tryd.prog 45 #[.int .u64 T, .int .i64 10] wr fun e w' => e = .returned (.string D) ∧ Chg Non wr w') := by rw [hD]; exact HF.out wr T hch.out hT0 HT3.out
                  clear hD
                  cases p
                  all_goals
                    go_wp2_with (go_at_call 45; refine HC2.out.mono ?_; rintro e w6 ⟨rfl, hw6⟩)
                    go_roundw
                    case rel => exact ⟨k + 1, 0, false, acc ++ [T], 0 + 1, Z', by omega, by go_num, rfl, rfl, rfl, rfl, HT0, by omega, HREL, hch.out.two hw6⟩
                    case measure => simp [intOf]; omega
                · have d7 : decide (T < 40) = false := by simpa using t7
                  by_cases t8 : T < 80
                  · have d8 : decide (T < 80) = true := by simpa using t8
                    obtain ⟨D, hD⟩ : ∃ D, D = bs (decI (T - 40)) := ⟨_, rfl⟩
                    have hw1 : IntKind.u64.wrap (T - 40) = T - 40 := by rw [IntKind.wrap_u64]; omega
                    have kA : ∀ W, (Op.stringOp .add ⟨#[49, 46]⟩ D).run Tryd.prog W = .ok (.string Z') W := fun W => by rw [hD, HZ2.out, first1 t7 t8]; exact add_tl [49, 46] (decI (T - 40)) (by have := decI_len (x := T - 40) (by omega); simp; omega) W
                    have HC2 : Hid (Calls Tryd.prog 45 #[.int .u64 (T - 40), .int .i64 10] wr fun e w' => e = .returned (.string D) ∧ Chg Non wr w') := by rw [hD]; exact HF.out wr _ hch.out (by omega) (by omega)
                    clear hD
                    cases p
                    all_goals
                      go_wp2_with (go_at_call 45; refine HC2.out.mono ?_; rintro e w6 ⟨rfl, hw6⟩)
                      go_roundw
                      case rel => exact ⟨k + 1, 0, false, acc ++ [T], 0 + 1, Z', by omega, by go_num, rfl, rfl, rfl, rfl, HT0, by omega, HREL, hch.out.two hw6⟩
                      case measure => simp [intOf]; omega
                  · have d8 : decide (T < 80) = false := by simpa using t8
                    obtain ⟨D, hD⟩ : ∃ D, D = bs (decI (T - 80)) := ⟨_, rfl⟩
                    have hw1 : IntKind.u64.wrap (T - 80) = T - 80 := by rw [IntKind.wrap_u64]; omega
                    have kA : ∀ W, (Op.stringOp .add ⟨#[50, 46]⟩ D).run Tryd.prog W = .ok (.string Z') W := fun W => by rw [hD, HZ2.out, first2 t7 t8]; exact add_tl [50, 46] (decI (T - 80)) (by have := decI_len (x := T - 80) (by omega); simp; omega) W
                    have HC2 : Hid (Calls Tryd.prog 45 #[.int .u64 (T - 80), .int .i64 10] wr fun e w' => e = .returned (.string D) ∧ Chg Non wr w') := by rw [hD]; exact HF.out wr _ hch.out (by omega) (by have := HT3.out; omega)
                    clear hD
                    cases p
                    all_goals
                      go_wp2_with (go_at_call 45; refine HC2.out.mono ?_; rintro e w6 ⟨rfl, hw6⟩)
                      go_roundw
                      case rel => exact ⟨k + 1, 0, false, acc ++ [T], 0 + 1, Z', by omega, by go_num, rfl, rfl, rfl, rfl, HT0, by omega, HREL, hch.out.two hw6⟩
                      case measure => simp [intOf]; omega
              · have hacc : acc ≠ [] := fun e => t6 (by rw [hI.out.1, e]; rfl)
                have d6 : decide ((1 : Int) < (C : Int) + 1) = true := by simp; omega
                obtain ⟨D, hD⟩ : ∃ D, D = bs (decI T) := ⟨_, rfl⟩
                obtain ⟨Z1, hZ1⟩ : ∃ Z1, Z1 = bs (oidT acc ++ [46]) := ⟨_, rfl⟩
                have hCL : acc.length ≤ 140737488355328 := by rw [← hI.out.1]; omega
                have kA : ∀ W, (Op.stringOp .add Z ⟨#[46]⟩).run Tryd.prog W = .ok (.string Z1) W := fun W => by rw [hI.out.2.1, hZ1]; exact add_tl (oidT acc) [46] (by have := HLEN.out; simp; omega) W
                have kB : ∀ W, (Op.stringOp .add Z1 D).run Tryd.prog W = .ok (.string Z') W := fun W => by rw [hD, hZ1, HZ'.out, oidT_snoc _ _ hacc]; exact add_tl (oidT acc ++ [46]) (decI T) (by have := HLEN.out; have := decI_len (x := T) (by omega); simp; omega) W
                have HC2 : Hid (Calls Tryd.prog 45 #[.int .u64 T, .int .i64 10] wr fun e w' => e = .returned (.string D) ∧ Chg Non wr w') := by rw [hD]; exact HF.out wr T hch.out hT0 HT3.out
                clear hD hZ1 hCL hacc
                cases p
                all_goals
                  go_wp2_with (go_at_call 45; refine HC2.out.mono ?_; rintro e w6 ⟨rfl, hw6⟩)
                  go_roundw
                  case rel => exact ⟨k + 1, 0, false, acc ++ [T], C + 1, Z', by omega, by go_num, rfl, rfl, by go_num, rfl, HT0, by omega, HREL, hch.out.two hw6⟩
                  case measure => simp [intOf]; omega
          · have dT : decide (4294967296 ≤ T) = true := by simp; omega
            have HZ : Hid (S = ⟨#[]⟩ ∧ E = 144) := by
              have := HS.out
              rw [sevL_cons, if_neg t1, if_pos (by rw [← HT.out]; omega)] at this
              exact HNO2.out (oidL_none (HR.out.trans this.symm))
            clear t1 hm HS t3
            cases p
            · have t5 : (x == 128) = false := t1' rfl
              clear t1'
              go_wp2
              go_ret2
              exact ⟨by rw [HZ.out.1, HZ.out.2]; rfl, hch.out⟩
            · clear t1'
              go_wp2
              go_ret2
              exact ⟨by rw [HZ.out.1, HZ.out.2]; rfl, hch.out⟩
      · have hd : xs.drop k = [] := List.drop_of_length_le (by have := HL.out; omega)
        have HS : Hid ((if p then none else some acc) = R) := by
          have := hI.out.2.2.2
          rw [hd, sevL_nil] at this
          exact this
        have hkL : k = L := by omega
        subst hkL
        clear hd hlt hm
        cases p
        · by_cases hz : C = 0
          · have HZ : Hid (S = ⟨#[]⟩ ∧ E = 144) := HNO2.out (by
              have : acc = [] := List.eq_nil_of_length_eq_zero (hI.out.1.symm.trans hz)
              rw [oidL_of HR.out, ← HS.out, this]
              rfl)
            subst hz
            go_wp2
            go_ret2
            exact ⟨by rw [HZ.out.1, HZ.out.2]; rfl, hch.out⟩
          · have d1 : decide ((C : Int) < 1) = false := by simp; omega
            by_cases hz2 : C ≤ 16
            · have d2 : decide ((16 : Int) < (C : Int)) = false := by simp; omega
              have HZ : Hid (S = Z ∧ E = 0) := by
                have := HYES2.out acc (by
                  rw [oidL_of HR.out, ← HS.out]
                  show (if _ then _ else _) = _
                  rw [if_pos (by rw [← hI.out.1]; omega)])
                exact ⟨by rw [this.1, hI.out.2.1], this.2⟩
              go_wp2
              go_ret2
              exact ⟨by rw [HZ.out.1, HZ.out.2]; rfl, hch.out⟩
            · have d2 : decide ((16 : Int) < (C : Int)) = true := by simp; omega
              have HZ : Hid (S = ⟨#[]⟩ ∧ E = 144) := HNO2.out (by
                rw [oidL_of HR.out, ← HS.out]
                show (if _ then _ else _) = _
                rw [if_neg (by rw [← hI.out.1]; omega)])
              go_wp2
              go_ret2
              exact ⟨by rw [HZ.out.1, HZ.out.2]; rfl, hch.out⟩
        · have HZ : Hid (S = ⟨#[]⟩ ∧ E = 144) := HNO2.out (oidL_none (HR.out.trans HS.out.symm))
          go_wp2
          go_ret2
          exact ⟨by rw [HZ.out.1, HZ.out.2]; rfl, hch.out⟩
end Go.Proofs.YtnidfbcninkglaaDoor
