/-
  The document's bytes with their end: padded.
-/
import Derived.Test.YtijpdhjlafihkaaDoorTj14
import Derived.Test.YtijpdhjlafihkaaDoorTj00
namespace Go.Proofs.YtijpdhjlafihkaaDoor
open Go.RowKit
set_option linter.unusedVariables false
set_option maxRecDepth 100000

theorem wrap_j {x : Int} (h0 : -9223372036854775808 ≤ x) (h1 : x < 9223372036854775808) : IntKind.i64.wrap x = x := by rw [IntKind.wrap_i64]; omega

/-- How many noughts stand behind 128. -/
def padK (B n : Nat) : Nat := (2 * B - n % B - 1 - B / 8) % B
def padC (n : Nat) : Int := IntKind.u64.wrap (IntKind.u64.wrap n * 8)
def padE (n : Nat) : List Int := (List.range 8).map fun i => IntKind.u8.wrap (padC n / 2 ^ (8 * (7 - i)))
def padL (B n : Nat) : List Int := [128] ++ List.replicate (padK B n) 0 ++ List.replicate (B / 8 - 8) 0 ++ padE n

theorem padK_end {B n k : Nat} (hB : B = 64 ∨ B = 128) (hk : k ≤ padK B n) : ((n + 1 + k) % B = B - B / 8) ↔ k = padK B n := by
  unfold padK at *
  rcases hB with rfl | rfl <;> omega

def vLen : Value → Nat
  | .slice _ n _ => n
  | _ => 0

structure OwnN (w : World) (w' : World) (v : Value) (xs : List Int) : Prop where
  own : Ap.OwnV w' v xs
  new : ∀ k, v.ownBlock = some k → w.heap.size ≤ k
  chg : Ap.Chg Ap.Non w w'

theorem OwnN.more {w u u' : World} {v v' : Value} {xs ys : List Int} (h : OwnN w u v xs) (h1 : Ap.OwnV u' v' ys) (h2 : Ap.Chg (fun k => v.ownBlock = some k) u u') (h3 : v'.ownBlock = v.ownBlock ∨ v'.ownBlock = some u.heap.size) : OwnN w u' v' ys := by
  refine ⟨h1, fun k e => ?_, ?_⟩
  · rcases h3 with h3 | h3
    · rw [h3] at e
      exact h.new k e
    · rw [h3] at e
      injection e with e
      rw [← e]
      exact h.chg.size
  · exact h.chg.trans h2 (fun i hi e => by have := h.new i e; omega)
theorem OwnN.alloc {w u : World} {v : Value} {xs : List Int} (h : OwnN w u v xs) (o : Obj) : OwnN w (u.alloc o) v xs :=
  ⟨h.own.keep (fun k e => Below.heap_alloc _ _ _ (h.own.lt k e)), h.new, h.chg.alloc o⟩

set_option maxRecDepth 100000 in
set_option maxHeartbeats 4000000 in
theorem padded_any (B : Nat) (v : Value) (xs : List Int) (w : World) (hB : B = 64 ∨ B = 128) (hr : Ap.Rd w v xs) (hl : xs.length ≤ 140737488353280) :
    Calls Tryd.prog 63 #[v, .int .i64 B] w fun e w' => ∃ v', e = .returned v' ∧ OwnN w w' v' (xs ++ padL B xs.length) := by
  have HR : Hid (Ap.Rd w v xs) := hr
  obtain ⟨n, hn⟩ : ∃ n, n = xs.length := ⟨_, rfl⟩
  obtain ⟨ao, n', c, rfl, hn', _⟩ := hr.shape
  rw [← hn] at hn'
  subst hn'
  obtain ⟨K, hK⟩ : ∃ K, K = padK B n' := ⟨_, rfl⟩
  have hKB : K < B := by rw [hK]; unfold padK; exact Nat.mod_lt _ (by omega)
  have HN : Hid (n' = xs.length ∧ K = padK B n' ∧ (B = 64 ∨ B = 128)) := ⟨hn, hK, hB⟩
  rw [← hn] at hl
  clear hn hK hr
  have z0 : OwnN w (w.alloc (.cells #[] 5)) (.slice (some ⟨w.heap.size, 0, none⟩) 0 0) [] := by
    refine ⟨.inr ⟨w.heap.size, 0, 0, 0, rfl, rfl, Nat.le_refl _, by decide, #[], heap_alloc_last w _, by simp, by simp⟩, fun k e => ?_, ?_⟩
    · simp [Value.ownBlock] at e
      omega
    · exact (Ap.Chg.refl _ w).alloc _
  have Z0 : Hid (OwnN w (w.alloc (.cells #[] 5)) (.slice (some ⟨w.heap.size, 0, none⟩) 0 0) [] ∧ Ap.Rd (w.alloc (.cells #[] 5)) (.slice ao n' c) xs) := ⟨z0, HR.out.keep (fun k _ hk => Below.heap_alloc _ _ _ hk)⟩
  clear z0
  go_enter Tryd.func63, Tryd.ntmps63
  go_wp2_with (at_builtin; refine Ap.wpList_app _ rfl _ _ rfl (.slice (some ⟨w.heap.size, 0, none⟩) 0 0) (.slice ao n' c) [] xs rfl rfl Z0.out.1.own Z0.out.2 (by rw [← HN.out.1]; simp; omega) ?_)
  intro v1 u1 o1 c1 b1
  have Z1 : Hid (OwnN w u1 v1 xs) := Z0.out.1.more o1 c1 (by rw [World.size_alloc]; exact b1)
  clear o1 c1 b1 Z0
  go_wp2_with (at_builtin; refine Ap.wpList_app _ rfl _ _ rfl v1 _ xs [128] rfl rfl (Z1.out.alloc _).own (Ap.Rd.one u1 128) (by rw [← HN.out.1]; simp; omega) ?_)
  intro v2 u2 o2 c2 b2
  have Z2 : Hid (OwnN w u2 v2 (xs ++ [128] ++ List.replicate 0 0)) := by
    have := (Z1.out.alloc _).more o2 c2 (by rw [World.size_alloc]; exact b2)
    show OwnN _ _ _ _
    simpa using this
  clear o2 c2 b2 Z1
  go_wp2_with fail
  obtain ⟨l, hl8⟩ : ∃ l : Nat, l = B / 8 := ⟨_, rfl⟩
  have hq1 : (B : Int).tdiv 8 = l := by rw [Int.tdiv_eq_ediv_of_nonneg (by omega), hl8]; rfl
  obtain ⟨dd, hdd⟩ : ∃ m : Nat, (B : Int) - l = m := ⟨B - l, by omega⟩
  have wl := wrap_j (x := (l : Int)) (by omega) (by omega)
  have wd := wrap_j (x := (dd : Int)) (by omega) (by omega)
  have hB0 : ¬ (B : Int) = 0 := by omega
  have HL : Hid (l = B / 8 ∧ dd = B - B / 8) := ⟨hl8, by omega⟩
  clear hl8
  go_loopw [5] (fun v wr => ∃ (k : Nat), k ≤ K ∧ OwnN w wr v (xs ++ [128] ++ List.replicate k 0)) (fun v wr => K + n' + 1 - vLen v)
  case atStart => exact ⟨0, by omega, Z2.out⟩
  case round =>
    clear Z2
    obtain ⟨k, hk, hz⟩ := hrel
    obtain ⟨so, m, sc, rfl, hm, hmc, _⟩ := hz.own.rd.shape
    have Z : Hid (OwnN w wr (.slice so m sc) (xs ++ [128] ++ List.replicate k 0)) := hz
    have hm' : m = n' + 1 + k := by rw [hm, HN.out.1]; simp; omega
    have HM : Hid (m = n' + 1 + k) := hm'
    have hmb : m ≤ 140737488354048 := by omega
    obtain ⟨rm, hrm⟩ : ∃ r : Nat, r = m % B := ⟨_, rfl⟩
    have hq2 : (m : Int).tmod B = rm := by rw [Int.tmod_eq_emod_of_nonneg (by omega), hrm]; rfl
    have hrB : rm < B := by rw [hrm]; exact Nat.mod_lt _ (by omega)
    have wm := wrap_j (x := (rm : Int)) (by omega) (by omega)
    have hiff : rm = dd ↔ k = K := by
      rw [hrm, hm', HL.out.2, HN.out.2.1]
      exact padK_end HN.out.2.2 (by rw [← HN.out.2.1]; exact hk)
    clear hz hm hrm hm'
    by_cases hkK : k = K
    · have hne : rm = dd := hiff.2 hkK
      have Z' : Hid (OwnN w wr (.slice so m sc) (xs ++ [128] ++ List.replicate K 0)) := by
        have := Z.out
        rw [hkK] at this
        exact this
      subst hne
      clear Z hiff hkK
      go_wp2_with fail
      obtain ⟨P, hP⟩ : ∃ P, P = xs ++ [128] ++ List.replicate K 0 := ⟨_, rfl⟩
      have hPl : P.length ≤ 140737488354048 := by
        rw [hP]
        simp only [List.length_append, List.length_replicate, List.length_cons, List.length_nil, ← HN.out.1]
        omega
      have z1 : Hid (OwnN w wr (.slice so m sc) (P ++ List.replicate 0 0)) := by
        have := Z'.out
        rw [← hP] at this
        show OwnN _ _ _ _
        simpa using this
      have HP : Hid (P = xs ++ [128] ++ List.replicate K 0) := hP
      have hl1 : l = 8 ∨ l = 16 := by
        have := HL.out.1
        rcases HN.out.2.2 with e | e <;> rw [e] at this <;> omega
      clear hP Z'
      obtain ⟨wq, hwq⟩ : ∃ wq, wq = wr := ⟨_, rfl⟩
      subst hwq
      go_loopw [5, 6] (fun v v6 wr => ∃ (i : Nat), v6 = .int .i64 ((8 + i : Nat) : Int) ∧ 8 + i ≤ l ∧ OwnN w wr v (P ++ List.replicate i 0)) (fun v v6 wr => l - (intOf v6).toNat)
      case atStart => exact ⟨0, rfl, by omega, z1.out⟩
      case round =>
        clear z1
        obtain ⟨i, rfl, hi, hz⟩ := hrel
        obtain ⟨so2, m2, sc2, rfl, hm2, _⟩ := hz.own.rd.shape
        have Z : Hid (OwnN w wr (.slice so2 m2 sc2) (P ++ List.replicate i 0)) := hz
        obtain ⟨i8, hi8⟩ : ∃ i8 : Nat, i8 = 8 + i := ⟨_, rfl⟩
        rw [← hi8]
        have HI : Hid (i8 = 8 + i) := hi8
        clear hz hm2
        by_cases hil : i8 < l
        · have hid : decide ((i8 : Int) < l) = true := by simp; omega
          clear hi8
          go_wp2_with (at_builtin; refine Ap.wpList_app _ rfl _ _ rfl (.slice so2 m2 sc2) _ (P ++ List.replicate i 0) [0] rfl rfl (Z.out.alloc _).own (Ap.Rd.one wr 0) (by simp only [List.length_append, List.length_replicate, List.length_cons, List.length_nil]; omega) ?_)
          intro v3 u3 o3 c3 b3
          have Z3 : Hid (OwnN w u3 v3 (P ++ List.replicate (i + 1) 0)) := by
            have := (Z.out.alloc _).more o3 c3 (by rw [World.size_alloc]; exact b3)
            show OwnN _ _ _ _
            have e : P ++ List.replicate (i + 1) 0 = P ++ (List.replicate i 0 ++ [0]) := by rw [List.replicate_succ']
            rw [e]
            first | exact this | (rw [← List.append_assoc]; exact this)
          clear o3 c3 b3
          go_wp2_with fail
          have h8 := HI.out
          refine ⟨⟨i + 1, by rw [h8]; go_num, by omega, Z3.out⟩, ?_⟩
          simp [intOf]
          omega
        · have hid : decide ((i8 : Int) < l) = false := by simp; omega
          have z2 : Hid (OwnN w wr (.slice so2 m2 sc2) (P ++ List.replicate (l - 8) 0 ++ (padE n').take 0)) := by
            have := Z.out
            rw [show i = l - 8 by omega] at this
            show OwnN _ _ _ _
            simpa using this
          have HCC : Hid ((n' : Int) * 8 = padC n') := by
            show (n' : Int) * 8 = padC n'
            rw [padC, IntKind.wrap_u64, IntKind.wrap_u64]
            omega
          obtain ⟨R, hR⟩ : ∃ R, R = P ++ List.replicate (l - 8) 0 := ⟨_, rfl⟩
          have hRl : R.length ≤ 140737488354148 := by
            rw [hR]
            simp only [List.length_append, List.length_replicate]
            omega
          rw [← hR] at z2
          have HR' : Hid (R = P ++ List.replicate (l - 8) 0) := hR
          clear hi8 Z hR
          go_wp2_with fail
          obtain ⟨wp, hwp⟩ : ∃ wp, wp = wr := ⟨_, rfl⟩
          subst hwp
          go_loopw [5, 8] (fun v v8 wr => ∃ (j : Nat), v8 = .int .i64 (7 - (j : Int)) ∧ j ≤ 8 ∧ OwnN w wr v (R ++ (padE n').take j)) (fun v v8 wr => (intOf v8 + 1).toNat)
          case atStart => exact ⟨0, rfl, by omega, z2.out⟩
          case round =>
            clear z2
            obtain ⟨j, rfl, hj, hz⟩ := hrel
            obtain ⟨so3, m3, sc3, rfl, hm3, _⟩ := hz.own.rd.shape
            have Z : Hid (OwnN w wr (.slice so3 m3 sc3) (R ++ (padE n').take j)) := hz
            clear hz hm3
            by_cases hj8 : j < 8
            · obtain ⟨e, he⟩ : ∃ e : Nat, (7 : Int) - j = e := ⟨7 - j, by omega⟩
              obtain ⟨s, hs⟩ : ∃ s : Nat, 8 * (e : Int) = s := ⟨8 * e, by omega⟩
              rw [he]
              have ws := wrap_j (x := (s : Int)) (by omega) (by omega)
              have ls : (s : Int) ≤ 64 := by omega
              have hed : decide ((0 : Int) ≤ e) = true := by simp
              have HJ : Hid ((7 : Int) - j = e) := he
              have he7 : e ≤ 7 := by omega
              have HY : Hid ((padE n').take (j + 1) = (padE n').take j ++ [IntKind.u8.wrap ((n' : Int) * 8 / 2 ^ s)]) := by
                show (padE n').take (j + 1) = _
                have hlen : j < (padE n').length := by simp [padE]; omega
                rw [List.take_add_one, List.getElem?_eq_getElem hlen]
                have : (padE n')[j] = IntKind.u8.wrap ((n' : Int) * 8 / 2 ^ s) := by
                  simp only [padE, List.getElem_map, List.getElem_range, HCC.out]
                  rw [show 8 * (7 - j) = s by omega]
                rw [this]
                rfl
              have hpl : ((padE n').take j).length ≤ 8 := by rw [List.length_take]; omega
              clear he
              go_wp2_with (at_builtin; refine Ap.wpList_app _ rfl _ _ rfl (.slice so3 m3 sc3) _ (R ++ (padE n').take j) [IntKind.u8.wrap ((n' : Int) * 8 / 2 ^ s)] rfl rfl (Z.out.alloc _).own (Ap.Rd.one wr _) (by simp only [List.length_append, List.length_cons, List.length_nil]; omega) ?_)
              intro v4 u4 o4 c4 b4
              have Z4 : Hid (OwnN w u4 v4 (R ++ (padE n').take (j + 1))) := by
                have := (Z.out.alloc _).more o4 c4 (by rw [World.size_alloc]; exact b4)
                show OwnN _ _ _ _
                rw [HY.out]
                first | exact this | (rw [← List.append_assoc]; exact this)
              clear o4 c4 b4
              go_wp2_with fail
              have h7 := HJ.out
              refine ⟨⟨j + 1, by go_num, by omega, Z4.out⟩, ?_⟩
              simp [intOf] <;> omega
            · have hj8' : j = 8 := by omega
              have Z' : Hid (OwnN w wr (.slice so3 m3 sc3) (xs ++ padL B xs.length)) := by
                have := Z.out
                rw [hj8', HR'.out, HP.out, show (padE n').take 8 = padE n' by rw [List.take_of_length_le]; simp [padE]] at this
                show OwnN _ _ _ _
                rw [← HN.out.1, padL, ← HN.out.2.1, ← HL.out.1]
                simpa using this
              have hed : decide ((0 : Int) ≤ 7 - (j : Int)) = false := by simp; omega
              clear hj8' Z
              go_wp2
              go_ret
              exact ⟨_, rfl, Z'.out⟩
    · have hne : ¬ (rm : Int) = dd := fun e => hkK (hiff.1 (by omega))
      clear hiff
      go_wp2_with (at_builtin; refine Ap.wpList_app _ rfl _ _ rfl (.slice so m sc) _ (xs ++ [128] ++ List.replicate k 0) [0] rfl rfl (Z.out.alloc _).own (Ap.Rd.one wr 0) (by simp only [List.length_append, List.length_replicate, List.length_cons, List.length_nil, ← HN.out.1]; omega) ?_)
      intro v3 u3 o3 c3 b3
      have Z3 : Hid (OwnN w u3 v3 (xs ++ [128] ++ List.replicate (k + 1) 0)) := by
        have := (Z.out.alloc _).more o3 c3 (by rw [World.size_alloc]; exact b3)
        show OwnN _ _ _ _
        have e : xs ++ [128] ++ List.replicate (k + 1) 0 = xs ++ 128 :: (List.replicate k 0 ++ [0]) := by rw [List.replicate_succ']; simp
        rw [e]
        exact this
      obtain ⟨so3, m3, sc3, e3, hm3, _⟩ := Z3.out.own.rd.shape
      have hm3' : m3 = n' + 1 + (k + 1) := by rw [hm3, HN.out.1]; simp; omega
      have HM3 : Hid (m3 = n' + 1 + (k + 1)) := hm3'
      clear o3 c3 b3 hm3 hm3'
      subst e3
      go_wp2_with fail
      refine ⟨⟨k + 1, by omega, Z3.out⟩, ?_⟩
      have h3 := HM3.out
      have h4 := HM.out
      simp only [vLen]
      omega
end Go.Proofs.YtijpdhjlafihkaaDoor
