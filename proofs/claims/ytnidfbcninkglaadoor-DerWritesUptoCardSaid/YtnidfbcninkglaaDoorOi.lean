/-
  The program's numbers by seven bits a byte.
-/
import Derived.Test.YtnidfbcninkglaaDoorOs
import Derived.Test.YtnidfbcninkglaaDoorU64
import Derived.Test.YtnidfbcninkglaaDoorVb
namespace Go.Proofs.YtnidfbcninkglaaDoor
open Go.RowKit
set_option linter.unusedVariables false
set_option maxRecDepth 100000

structure U.OwnN (w : World) (w' : World) (v : Value) (xs : List Int) : Prop where
  own : U.OwnV w' v xs
  new : ∀ k, v.ownBlock = some k → w.heap.size ≤ k
  chg : Chg Non w w'
theorem U.OwnN.more {w u u' : World} {v v' : Value} {xs ys : List Int} (h : U.OwnN w u v xs) (h1 : U.OwnV u' v' ys) (h2 : Chg (fun k => v.ownBlock = some k) u u') (h3 : v'.ownBlock = v.ownBlock ∨ v'.ownBlock = some u.heap.size) : U.OwnN w u' v' ys := by
  refine ⟨h1, fun k e => ?_, h.chg.new h2 h.new⟩
  rcases h3 with h3 | h3
  · rw [h3] at e
    exact h.new k e
  · rw [h3] at e
    injection e with e
    rw [← e]
    exact h.chg.size
theorem U.OwnV.chg {w w' : World} {v : Value} {xs : List Int} (h : U.OwnV w v xs) (k : Chg Non w w') : U.OwnV w' v xs := h.keep (fun i e => k.block i (h.lt i e) (fun x => x))
theorem U.OwnN.after {w u u' : World} {v : Value} {xs : List Int} (h : U.OwnN w u v xs) (k : Chg Non u u') : U.OwnN w u' v xs := ⟨h.own.chg k, h.new, h.chg.two k⟩
theorem U.OwnN.nought (w : World) : U.OwnN w w (.slice none 0 0) [] := ⟨.inl ⟨rfl, rfl⟩, (fun k e => by cases e), Chg.refl _ _⟩

theorem and127 (x : Int) (h0 : 0 ≤ x) (h1 : x < 256) : bits .and .u8 x 127 = x % 128 := by
  have h := u8_and_nat x.toNat 127 (by omega) (by omega)
  rw [Int.toNat_of_nonneg h0] at h
  refine h.trans ?_
  have := Nat.and_two_pow_sub_one_eq_mod x.toNat 7
  have e : x.toNat &&& 127 = x.toNat % 128 := this
  rw [e]
  omega

theorem or7 (n c : Int) (h0 : 0 ≤ n) (h1 : n < 4294967296) (h2 : 0 ≤ c) : bits .or .u64 (n * 128) (c % 128) = 128 * n + c % 128 := by
  have h := u64_or_nat (n.toNat * 128) (c % 128).toNat (by omega) (by omega)
  have e1 : ((n.toNat * 128 : Nat) : Int) = n * 128 := by omega
  have e2 : (((c % 128).toNat : Nat) : Int) = c % 128 := by omega
  rw [e1, e2] at h
  refine h.trans ?_
  have : n.toNat * 128 ||| (c % 128).toNat = n.toNat * 128 + (c % 128).toNat := by
    have := Nat.two_pow_add_eq_or_of_lt (i := 7) (b := (c % 128).toNat) (by omega) n.toNat
    rw [Nat.mul_comm, ← this]
  rw [this]
  omega

def oidB (xs : List Int) : Bool := (oidL xs).isSome
structure SevP (w w' : World) (v : Value) (xs : List Int) : Prop where
  chg : Chg Non w w'
  own : ∀ l, oidL xs = some l → U.OwnN w w' v l
theorem SevP.no {w w' : World} {v : Value} {xs : List Int} (h : Chg Non w w') (hz : oidL xs = none) : SevP w w' v xs := ⟨h, fun l e => by rw [hz] at e; cases e⟩
theorem ret_two {a : Value} {b c : Bool} (h : b = c) : Ending.returned (.tuple #[a, .bool b]) = .returned (.tuple #[a, .bool c]) := by rw [h]

set_option maxHeartbeats 4000000 in
theorem sevens_any (v : Value) (xs : List Int) (hb : Byt xs) (w : World) (hv : Rd w v xs) :
    Calls Tryd.prog 44 #[v] w fun e w' => ∃ v', e = .returned (.tuple #[v', .bool (oidB xs)]) ∧ SevP w w' v' xs := by
  have HB : Hid (Byt xs) := hb
  by_cases hx : xs = []
  · subst hx
    obtain ⟨ao, c, rfl, hc⟩ := hv.empty
    clear hv
    go_enter Tryd.func44, Tryd.ntmps44
    go_wp2
    go_loop [2, 4, 5, 10] (fun a n wi i => a = .slice none 0 0 ∧ n = .int .u64 0 ∧ wi = .bool false ∧ i = .int .i64 0) (fun _ _ _ i => 0)
    case atStart => exact ⟨rfl, rfl, rfl, rfl⟩
    case round =>
      obtain ⟨rfl, rfl, rfl, rfl⟩ := hrel
      go_wp2
      go_ret2
      exact ⟨_, ret_two rfl, SevP.no (Chg.refl _ _) rfl⟩
  · obtain ⟨b, o, c, rfl, h1, h2, h3⟩ := hv.bs hx
    have H3 : Hid (Bs w b o xs) := h3
    obtain ⟨L, hL⟩ : ∃ L, L = xs.length := ⟨_, rfl⟩
    rw [← hL] at h1 ⊢
    have HL : Hid (L = xs.length) := hL
    obtain ⟨R, hR⟩ : ∃ R, sevL xs 0 false [] = R := ⟨_, rfl⟩
    have HR : Hid (sevL xs 0 false [] = R) := hR
    have HI : Hid (U.OwnN w w (.slice none 0 0) []) := U.OwnN.nought w
    clear hv h3 hL hR hb hx
    go_enter Tryd.func44, Tryd.ntmps44
    go_wp2
    go_loopw [2, 4, 5, 10] (fun a n wi i wr => ∃ (k : Nat) (m : Int) (q : Bool) (acc : List Int), k ≤ L ∧ i = .int .i64 k ∧ n = .int .u64 m ∧ wi = .bool q ∧ Hid (0 ≤ m ∧ m < 4294967296) ∧ acc.length ≤ 16 ∧ Hid (U.OwnN w wr a acc) ∧ Hid (sevL (xs.drop k) m q acc = R)) (fun _ _ _ i _ => L - (intOf i).toNat)
    case atStart => exact ⟨0, 0, false, [], Nat.zero_le _, rfl, rfl, rfl, (⟨by decide, by decide⟩ : (0 : Int) ≤ 0 ∧ (0 : Int) < 4294967296), Nat.zero_le _, HI, HR⟩
    case round =>
      obtain ⟨k, m, q, acc, hk, rfl, rfl, rfl, hm, hal, ho, hs⟩ := hrel
      obtain ⟨hm0, hm1⟩ := hm.out
      rename_i wr _
      have hch : Hid (Chg Non w wr) := ho.out.chg
      obtain ⟨ao, g, cp, hu, hg, hgc, hgm⟩ := ho.out.own.rd.shape
      subst hu
      have HG : Hid (g = acc.length) := hg
      have hg16 : g ≤ 16 := by omega
      have hg0 : acc = [] ↔ g = 0 := by rw [hg]; exact List.length_eq_zero_iff.symm
      have HG0 : Hid (acc = [] ↔ g = 0) := hg0
      clear hg hg0 hal
      by_cases hlt : k < L
      · obtain ⟨x, hx⟩ : ∃ x, xs[k]? = some x := ⟨xs[k]'(by rw [← HL.out]; exact hlt), List.getElem?_eq_getElem _⟩
        have hd : xs.drop k = x :: xs.drop (k + 1) := by
          rw [List.drop_eq_getElem_cons (by rw [← HL.out]; exact hlt)]
          have := List.getElem?_eq_some_iff.1 hx
          rw [this.2]
        have hc := (H3.out.chg hch.out) k x hx
        obtain ⟨hx0, hx1⟩ := HB.out.get hx
        have HS : Hid (sevL (x :: xs.drop (k + 1)) m q acc = R) := by show _ = _; rw [← hd]; exact hs.out
        clear hx hd hs
        by_cases t1 : q = false ∧ x = 128
        · obtain ⟨rfl, rfl⟩ := t1
          have HZ : Hid (oidL xs = none) := by
            have := HS.out
            rw [sevL_cons, if_pos ⟨rfl, rfl⟩] at this
            exact oidL_none (HR.out.trans this.symm)
          go_wp2
          go_ret2
          exact ⟨_, ret_two (by unfold oidB; rw [HZ.out]; rfl), SevP.no hch.out HZ.out⟩
        · by_cases t2 : g = 16
          · have HZ : Hid (oidL xs = none) := oidL_long (fun l hl => by
              rw [HR.out, ← HS.out] at hl
              have := sevL_more _ _ _ _ _ hl
              have h5 := HG.out
              simp at this
              omega)
            subst t2
            cases q
            · have t1' : (x == 128) = false := by simp at t1; simpa using t1
              clear t1
              go_wp2
              go_ret2
              exact ⟨_, ret_two (by unfold oidB; rw [HZ.out]; rfl), SevP.no hch.out HZ.out⟩
            · clear t1
              go_wp2
              go_ret2
              exact ⟨_, ret_two (by unfold oidB; rw [HZ.out]; rfl), SevP.no hch.out HZ.out⟩
          · have t2' : ((g : Int) == 16) = false := by simp; omega
            have hg15 : g ≤ 15 := by omega
            obtain ⟨T, hT⟩ : ∃ T, T = 128 * m + x % 128 := ⟨_, rfl⟩
            obtain ⟨X, hX⟩ : ∃ X, X = x % 128 := ⟨_, rfl⟩
            have hand : bits .and .u8 x 127 = X := by rw [and127 x hx0 hx1, hX]
            have hor : bits .or .u64 (m * 128) X = T := by rw [hX, or7 m x hm0 hm1 hx0, hT]
            have hX0 : 0 ≤ X := by omega
            have hX1 : X < 128 := by omega
            have HT : Hid (T = 128 * m + x % 128) := hT
            have hT0 : 0 ≤ T := by omega
            have hT1 : T < 549755814016 := by omega
            clear hT hX
            by_cases t3 : T < 4294967296
            · by_cases t4 : 128 ≤ x
              · have HS2 : Hid (sevL (xs.drop (k + 1)) T true acc = R) := by
                  have := HS.out
                  rw [sevL_cons, if_neg t1, if_neg (by rw [← HT.out]; omega), if_pos t4, ← HT.out] at this
                  exact this
                cases q
                · have t1' : (x == 128) = false := by simp at t1; simpa using t1
                  clear t1 t2 hm HS
                  go_wp2
                  go_roundw
                  case rel => exact ⟨k + 1, T, true, acc, by omega, by go_num, rfl, rfl, (⟨hT0, t3⟩ : 0 ≤ T ∧ T < 4294967296), by have := HG.out; omega, ho, HS2⟩
                  case measure => simp [intOf]; omega
                · clear t1 t2 hm HS
                  go_wp2
                  go_roundw
                  case rel => exact ⟨k + 1, T, true, acc, by omega, by go_num, rfl, rfl, (⟨hT0, t3⟩ : 0 ≤ T ∧ T < 4294967296), by have := HG.out; omega, ho, HS2⟩
                  case measure => simp [intOf]; omega
              · have HS2 : Hid (sevL (xs.drop (k + 1)) 0 false (acc ++ [T]) = R) := by
                  have := HS.out
                  rw [sevL_cons, if_neg t1, if_neg (by rw [← HT.out]; omega), if_neg t4, ← HT.out] at this
                  exact this
                cases q
                all_goals
                  have t1' : (x == 128) = false := by simp; omega
                  clear t1 t2 hm HS
                  go_wp2_with (at_builtin; refine U.wpList_app _ rfl (.tmp 37) (.tmp 39) rfl _ _ acc [T] rfl rfl (ho.out.own.chg ((Chg.refl _ _).alloc _)) (U.Rd.one _ _) (by have := HG.out; simp; omega) ?_)
                  intro v' w2 g1 g2 g3
                  have HO2 : Hid (U.OwnN w w2 v' (acc ++ [T])) := (ho.out.after ((Chg.refl _ _).alloc _)).more g1 g2 (by simpa using g3)
                  clear g1 g2 g3
                  go_wp2
                  go_roundw
                  case rel => exact ⟨k + 1, 0, false, acc ++ [T], by omega, by go_num, rfl, rfl, (⟨by decide, by decide⟩ : (0 : Int) ≤ 0 ∧ (0 : Int) < 4294967296), by have := HG.out; simp; omega, HO2, HS2⟩
                  case measure => simp [intOf]; omega
            · have HZ : Hid (oidL xs = none) := by
                have := HS.out
                rw [sevL_cons, if_neg t1, if_pos (by rw [← HT.out]; omega)] at this
                exact oidL_none (HR.out.trans this.symm)
              cases q
              · have t1' : (x == 128) = false := by simp at t1; simpa using t1
                clear t1 t2 hm HS
                go_wp2
                go_ret2
                exact ⟨_, ret_two (by unfold oidB; rw [HZ.out]; rfl), SevP.no hch.out HZ.out⟩
              · clear t1 t2 hm HS
                go_wp2
                go_ret2
                exact ⟨_, ret_two (by unfold oidB; rw [HZ.out]; rfl), SevP.no hch.out HZ.out⟩
      · have hd : xs.drop k = [] := List.drop_of_length_le (by have := HL.out; omega)
        have HS : Hid ((if q then none else some acc) = R) := by
          have := hs.out
          rw [hd, sevL_nil] at this
          exact this
        have hkL : k = L := by omega
        subst hkL
        clear hs hd hlt hm
        cases q
        · by_cases hz : g = 0
          · have HZ : Hid (oidL xs = none) := by
              show _ = _
              rw [oidL_of HR.out, ← HS.out, HG0.out.2 hz]
              rfl
            subst hz
            go_wp2
            go_ret2
            exact ⟨_, ret_two (by unfold oidB; rw [HZ.out]; rfl), SevP.no hch.out HZ.out⟩
          · have HZ : Hid (oidL xs = some acc) := by
              show _ = _
              rw [oidL_of HR.out, ← HS.out]
              show (if _ then _ else _) = _
              rw [if_pos (by have := HG.out; omega)]
            have hz' : decide ((0 : Int) < (g : Int)) = true := by simp; omega
            go_wp2
            go_ret2
            exact ⟨_, ret_two (by unfold oidB; rw [HZ.out]; rfl), hch.out, fun l h => by rw [HZ.out] at h; cases h; exact ho.out⟩
        · have HZ : Hid (oidL xs = none) := oidL_none (HR.out.trans HS.out.symm)
          by_cases hz : g = 0
          · subst hz
            go_wp2
            go_ret2
            exact ⟨_, ret_two (by unfold oidB; rw [HZ.out]; rfl), SevP.no hch.out HZ.out⟩
          · have hz' : decide ((0 : Int) < (g : Int)) = true := by simp; omega
            go_wp2
            go_ret2
            exact ⟨_, ret_two (by unfold oidB; rw [HZ.out]; rfl), SevP.no hch.out HZ.out⟩
end Go.Proofs.YtnidfbcninkglaaDoor
