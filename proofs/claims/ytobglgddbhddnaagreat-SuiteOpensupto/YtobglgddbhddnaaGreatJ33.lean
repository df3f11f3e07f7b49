/-
  What the document's tag is of: tagged.
  The document's tag, and what it locks up.
  What the document opens.
-/
import Derived.Test.YtobglgddbhddnaaGreatJ27
import Derived.Test.YtobglgddbhddnaaGreatJ31
import Derived.Test.YtobglgddbhddnaaGreatJ32
import Derived.Lib.Bytes
namespace Go.Proofs.YtobglgddbhddnaaGreat.Cha
open Go.RowKit
set_option linter.unusedVariables false

/-- What stands while the lengths are laid. -/
structure TG (w wr : World) (B na nb : Nat) (v : Value) (xs : List Int) : Prop where
  own : OwnN w wr v xs
  arr : Ar wr B #[.int .i64 (na : Int), .int .i64 (nb : Int)]
  ne : ∀ k, v.ownBlock = some k → k ≠ B
theorem TG.alloc {w wr : World} {B na nb : Nat} {v : Value} {xs : List Int} (h : TG w wr B na nb v xs) (o : Obj) : TG w (wr.alloc o) B na nb v xs := ⟨h.own.alloc o, h.arr.alloc o, h.ne⟩
theorem TG.more {w u u' : World} {B na nb : Nat} {v v' : Value} {xs ys : List Int} (h : TG w u B na nb v xs) (h1 : Ap.OwnV u' v' ys) (h2 : Ap.Chg (fun k => v.ownBlock = some k) u u') (h3 : v'.ownBlock = v.ownBlock ∨ v'.ownBlock = some u.heap.size) : TG w u' B na nb v' ys := by
  refine ⟨h.own.more h1 h2 h3, h.arr.ap h2 (fun e => h.ne B e rfl), fun k e => ?_⟩
  rcases h3 with h3 | h3
  · rw [h3] at e
    exact h.ne k e
  · rw [h3] at e
    injection e with e
    have := h.arr.lt
    omega

/-- The lengths, so many of them. -/
def tlF (na nb : Nat) : Nat → List Int
  | 0 => []
  | 1 => lenL na 8
  | _ => lenL na 8 ++ lenL nb 8
def nvF (na nb i : Nat) : Nat := if i = 0 then na else nb
theorem tlF_len (na nb i : Nat) : (tlF na nb i).length ≤ 16 := by
  match i with
  | 0 => simp [tlF]
  | 1 => simp [tlF, lenL_len]
  | _ + 2 => simp [tlF, lenL_len]
theorem tlF_succ (na nb : Nat) {i : Nat} (hi : i < 2) : tlF na nb i ++ lenL (nvF na nb i) 8 = tlF na nb (i + 1) := by
  have : i = 0 ∨ i = 1 := by omega
  rcases this with rfl | rfl
  · rfl
  · rfl

set_option maxRecDepth 100000 in
set_option maxHeartbeats 8000000 in
theorem tagged_any (ao bo : Option Addr) (na ca nb cb : Nat) (xs ys : List Int) (w : World) (hx : Ap.Rd w (.slice ao na ca) xs) (hy : Ap.Rd w (.slice bo nb cb) ys) (hxl : xs.length ≤ 8388608) (hyl : ys.length ≤ 8388608) :
    Calls Tryz.prog 34 #[.slice ao na ca, .slice bo nb cb] w fun r w' => ∃ v, r = .returned v ∧ OwnN w w' v (tgL xs ys) := by
  have hna : na = xs.length := by obtain ⟨_, _, _, e, e1, _⟩ := hx.shape; injection e with _ e2 _; omega
  have hnb : nb = ys.length := by obtain ⟨_, _, _, e, e1, _⟩ := hy.shape; injection e with _ e2 _; omega
  have HX : Hid (Ap.Rd w (.slice ao na ca) xs ∧ Ap.Rd w (.slice bo nb cb) ys ∧ na = xs.length ∧ nb = ys.length) := ⟨hx, hy, hna, hnb⟩
  have HXL : Hid (xs.length ≤ 8388608) := hxl
  have HYL : Hid (ys.length ≤ 8388608) := hyl
  have hna' : na ≤ 8388608 := by omega
  have hnb' : nb ≤ 8388608 := by omega
  clear hx hy hna hnb hxl hyl
  go_enter Tryz.func34, Tryz.ntmps34
  have Zr : Hid (Ap.Rd (w.alloc (.cells #[] 5)) (.slice ao na ca) xs) := Rd.chg HX.out.1 ((Chg.refl w).alloc _)
  go_wp2_with (at_builtin; refine Ap.wpList_app _ rfl _ _ rfl (.slice (some ⟨w.heap.size, 0, none⟩) 0 0) (.slice ao na ca) [] xs rfl rfl (OwnV.empty w) Zr.out (by have := HXL.out; simp; omega) ?_)
  intro v1 w1 o1 cc1 b1
  have k0 : OwnN w (w.alloc (.cells #[] 5)) (.slice (some ⟨w.heap.size, 0, none⟩) 0 0) [] := ⟨OwnV.empty w, fun k e => by simp [Value.ownBlock] at e; omega, (Chg.refl w).alloc _⟩
  have k1 := k0.more o1 cc1 (by first | exact b1 | (rw [World.size_alloc]; exact b1))
  have Z1 : Hid (OwnN w w1 v1 (xs ++ List.replicate 0 0)) := by show OwnN w w1 v1 (xs ++ List.replicate 0 0); simpa using k1
  obtain ⟨a1, m1, c1, rfl, -⟩ := o1.rd.shape
  clear o1 cc1 b1 k0 k1 Zr
  go_wp2_with fail
  go_loopw [5] (fun v wr => ∃ (k : Nat), k ≤ padN xs.length ∧ OwnN w wr v (xs ++ List.replicate k 0)) (fun v wr => padOf v)
  case atStart => exact ⟨0, by omega, Z1.out⟩
  case round =>
    clear Z1
    obtain ⟨k, hk, ho⟩ := hrel
    obtain ⟨a2, m, c2, rfl, hm, -⟩ := ho.own.rd.shape
    rw [List.length_append, List.length_replicate] at hm
    have Z : Hid (OwnN w wr (.slice a2 m c2) (xs ++ List.replicate k 0)) := ho
    have HM : Hid (m = xs.length + k) := hm
    have hx := HXL.out
    have hp := padN_lt xs.length
    obtain ⟨q, hq⟩ : ∃ q : Nat, (m : Int).tmod 16 = q := ⟨m % 16, by rw [Int.tmod_eq_emod_of_nonneg (by omega)]; omega⟩
    have hq' : q = m % 16 := by rw [Int.tmod_eq_emod_of_nonneg (by omega)] at hq; omega
    have wq := wrap_i (x := (q : Int)) (by omega) (by omega)
    by_cases hlt : k < padN xs.length
    · have hq0 : ((q : Int) != 0) = true := by
        have : ¬ q = 0 := by unfold padN at hlt hp; omega
        simp
        omega
      have Zo : Hid (OwnN w (wr.alloc (.cells #[.int .u8 0] 5)) (.slice a2 m c2) (xs ++ List.replicate k 0)) := Z.out.alloc _
      have hl : (xs ++ List.replicate k 0).length + [(0 : Int)].length ≤ 140737488355328 := by simp only [List.length_append, List.length_replicate, List.length_cons, List.length_nil]; omega
      have HK : Hid (k < padN xs.length) := hlt
      clear ho hm hq' hx hp hk hlt
      go_wp2_with (at_builtin; refine Ap.wpList_app _ rfl _ _ rfl (.slice a2 m c2) (.slice (some ⟨wr.heap.size, 0, none⟩) 1 1) (xs ++ List.replicate k 0) [(0 : Int)] rfl rfl Zo.out.own (Ap.Rd.one wr 0) hl ?_)
      intro v2 w9 o2 k2 b2
      have k3 := Zo.out.more o2 k2 (by first | exact b2 | (rw [World.size_alloc]; exact b2))
      have Z9 : Hid (OwnN w w9 v2 (xs ++ List.replicate (k + 1) 0)) := by
        show OwnN w w9 v2 (xs ++ List.replicate (k + 1) 0)
        rw [List.replicate_succ']
        first
          | exact k3
          | (rw [← List.append_assoc]; exact k3)
      obtain ⟨a3, m3, c3, rfl, hm3, -⟩ := o2.rd.shape
      have HM3 : Hid (m3 = m + 1) := by
        have h1 := HM.out
        show m3 = m + 1
        simp only [List.length_append, List.length_replicate, List.length_cons, List.length_nil] at hm3
        omega
      clear o2 k2 b2 k3 hm3
      go_wp2_with fail
      go_roundw
      case rel => exact ⟨k + 1, HK.out, Z9.out⟩
      case measure =>
        have h1 := HM3.out
        have h2 := HM.out
        have h3 := HK.out
        simp only [padOf]
        unfold padN at h3 ⊢
        omega
    · have hq0 : ((q : Int) != 0) = false := by
        have : q = 0 := by unfold padN at hlt hp hk; omega
        simp
        omega
      have Z2 : Hid (OwnN w wr (.slice a2 m c2) (filL xs)) := by
        have e : k = padN xs.length := by omega
        show OwnN w wr (.slice a2 m c2) (filL xs)
        unfold filL
        rw [← e]
        exact ho
      clear ho hm hq' hx hp hk hlt Z HM
      have R2 : Hid (Ap.Rd wr (.slice bo nb cb) ys) := Rd.chg HX.out.2.1 Z2.out.chg
      have HL8 : Hid ((filL xs).length ≤ 8388624) := by show (filL xs).length ≤ _; rw [filL_len]; have := padN_lt xs.length; have := HXL.out; omega
      go_wp2_with (at_builtin; refine Ap.wpList_app _ rfl _ _ rfl (.slice a2 m c2) (.slice bo nb cb) (filL xs) ys rfl rfl Z2.out.own R2.out (by have := HYL.out; have := HL8.out; omega) ?_)
      intro v3 w3 o3 k3 b3
      obtain ⟨L2, hL2⟩ : ∃ L2, L2 = filL xs ++ ys := ⟨_, rfl⟩
      have HL2 : Hid (L2 = filL xs ++ ys) := hL2
      have Z3 : Hid (OwnN w w3 v3 (L2 ++ List.replicate 0 0)) := by
        have := Z2.out.more o3 k3 b3
        show OwnN w w3 v3 (L2 ++ List.replicate 0 0)
        rw [hL2]
        simpa using this
      obtain ⟨a3, m3, c3, rfl, -⟩ := o3.rd.shape
      have HLL : Hid (L2.length ≤ 16777232) := by
        have h1 := HYL.out
        have h2 := HL8.out
        show L2.length ≤ _
        rw [hL2, List.length_append]
        omega
      clear o3 k3 b3 Z2 R2 hL2
      go_wp2_with fail
      go_loopw [5] (fun v wr => ∃ (k : Nat), k ≤ padN L2.length ∧ OwnN w wr v (L2 ++ List.replicate k 0)) (fun v wr => padOf v)
      case atStart => exact ⟨0, by omega, Z3.out⟩
      case round =>
        clear Z3
        obtain ⟨k, hk, ho⟩ := hrel
        obtain ⟨a2, m, c2, rfl, hm, -⟩ := ho.own.rd.shape
        rw [List.length_append, List.length_replicate] at hm
        have Z : Hid (OwnN w wr (.slice a2 m c2) (L2 ++ List.replicate k 0)) := ho
        have HM : Hid (m = L2.length + k) := hm
        have hx := HLL.out
        have hp := padN_lt L2.length
        obtain ⟨q, hq⟩ : ∃ q : Nat, (m : Int).tmod 16 = q := ⟨m % 16, by rw [Int.tmod_eq_emod_of_nonneg (by omega)]; omega⟩
        have hq' : q = m % 16 := by rw [Int.tmod_eq_emod_of_nonneg (by omega)] at hq; omega
        have wq := wrap_i (x := (q : Int)) (by omega) (by omega)
        by_cases hlt : k < padN L2.length
        · have hq0 : ((q : Int) != 0) = true := by
            have : ¬ q = 0 := by unfold padN at hlt hp; omega
            simp
            omega
          have Zo : Hid (OwnN w (wr.alloc (.cells #[.int .u8 0] 5)) (.slice a2 m c2) (L2 ++ List.replicate k 0)) := Z.out.alloc _
          have hl : (L2 ++ List.replicate k 0).length + [(0 : Int)].length ≤ 140737488355328 := by simp only [List.length_append, List.length_replicate, List.length_cons, List.length_nil]; omega
          have HK : Hid (k < padN L2.length) := hlt
          clear ho hm hq' hx hp hk hlt
          go_wp2_with (at_builtin; refine Ap.wpList_app _ rfl _ _ rfl (.slice a2 m c2) (.slice (some ⟨wr.heap.size, 0, none⟩) 1 1) (L2 ++ List.replicate k 0) [(0 : Int)] rfl rfl Zo.out.own (Ap.Rd.one wr 0) hl ?_)
          intro v2 w9 o2 k2 b2
          have k3 := Zo.out.more o2 k2 (by first | exact b2 | (rw [World.size_alloc]; exact b2))
          have Z9 : Hid (OwnN w w9 v2 (L2 ++ List.replicate (k + 1) 0)) := by
            show OwnN w w9 v2 (L2 ++ List.replicate (k + 1) 0)
            rw [List.replicate_succ']
            first
              | exact k3
              | (rw [← List.append_assoc]; exact k3)
          obtain ⟨a3, m3, c3, rfl, hm3, -⟩ := o2.rd.shape
          have HM3 : Hid (m3 = m + 1) := by
            have h1 := HM.out
            show m3 = m + 1
            simp only [List.length_append, List.length_replicate, List.length_cons, List.length_nil] at hm3
            omega
          clear o2 k2 b2 k3 hm3
          go_wp2_with fail
          go_roundw
          case rel => exact ⟨k + 1, HK.out, Z9.out⟩
          case measure =>
            have h1 := HM3.out
            have h2 := HM.out
            have h3 := HK.out
            simp only [padOf]
            unfold padN at h3 ⊢
            omega
        · have hq0 : ((q : Int) != 0) = false := by
            have : q = 0 := by unfold padN at hlt hp hk; omega
            simp
            omega
          have Z4 : Hid (OwnN w wr (.slice a2 m c2) (filL L2)) := by
            have e : k = padN L2.length := by omega
            show OwnN w wr (.slice a2 m c2) (filL L2)
            unfold filL
            rw [← e]
            exact ho
          clear ho hm hq' hx hp hk hlt Z HM
          have HL9 : Hid ((filL L2).length ≤ 16777248) := by show (filL L2).length ≤ _; rw [filL_len]; have := padN_lt L2.length; have := HLL.out; omega
          obtain ⟨L3, hL3⟩ : ∃ L3, L3 = filL L2 := ⟨_, rfl⟩
          rw [← hL3] at Z4 HL9
          have HL3 : Hid (L3 = filL L2) := hL3
          clear hL3
          go_wp2_with fail
          obtain ⟨B, hB⟩ : ∃ B, B = wr.heap.size := ⟨_, rfl⟩
          obtain ⟨w5, hw5⟩ : ∃ w5, w5 = wr.alloc (.cells #[.int .i64 (na : Int), .int .i64 (nb : Int)] 3) := ⟨_, rfl⟩
          have Z5 : Hid (TG w w5 B na nb (.slice a2 m c2) L3) := by
            have k := Z4.out
            rw [hw5, hB]
            exact ⟨k.alloc _, Ar.new wr _ _, fun j e h => by have := k.own.lt j e; omega⟩
          rw [← hw5, ← hB]
          clear hw5 hB Z4
          have Z6 : Hid (TG w w5 B na nb (.slice a2 m c2) (L3 ++ tlF na nb 0)) := by
            show TG w w5 B na nb (.slice a2 m c2) (L3 ++ [])
            rw [List.append_nil]
            exact Z5.out
          clear Z5
          go_loopw [5, 35] (fun v v35 wr => ∃ (i : Nat), v35 = .int .i64 i ∧ i ≤ 2 ∧ TG w wr B na nb v (L3 ++ tlF na nb i)) (fun v v35 wr => 2 - (intOf v35).toNat)
          case atStart => exact ⟨0, rfl, by omega, Z6.out⟩
          case round =>
            clear Z6
            obtain ⟨i, rfl, hi, ho⟩ := hrel
            obtain ⟨a4, m4, c4, rfl, -⟩ := ho.own.own.rd.shape
            by_cases hlt : i < 2
            · have hd : decide ((i : Int) < 2) = true := by simp; omega
              have li : (i : Int) < 2 := by omega
              obtain ⟨nv, hnv⟩ : ∃ nv, nv = nvF na nb i := ⟨_, rfl⟩
              have c1 : wr.cell? ⟨B, i, none⟩ = some (.int .i64 (nv : Int)) := by
                rw [ho.arr.cell]
                have : i = 0 ∨ i = 1 := by omega
                rcases this with rfl | rfl
                · rw [hnv]; rfl
                · rw [hnv]; rfl
              have HNV : Hid (nv = nvF na nb i) := hnv
              have hnvl : nv ≤ 8388608 := by rw [hnv]; unfold nvF; split <;> omega
              have wn : IntKind.u64.wrap (nv : Int) = nv := wrap_u (by omega) (by omega)
              have Z7 : Hid (TG w wr B na nb (.slice a4 m4 c4) (L3 ++ tlF na nb i ++ lenL nv 0)) := by
                show TG w wr B na nb (.slice a4 m4 c4) (L3 ++ tlF na nb i ++ [])
                rw [List.append_nil]
                exact ho
              obtain ⟨L4, hL4⟩ : ∃ L4, L4 = L3 ++ tlF na nb i := ⟨_, rfl⟩
              rw [← hL4] at Z7
              have HL4 : Hid (L4 = L3 ++ tlF na nb i) := hL4
              have HLl : Hid (L4.length ≤ 16777264) := by
                have h1 := HL9.out
                have h2 := tlF_len na nb i
                show L4.length ≤ _
                rw [hL4, List.length_append]
                omega
              clear ho hnv hL4
              go_wp2_with fail
              go_loopw [5, 8] (fun v v8 wr => ∃ (j : Nat), v8 = .int .i64 j ∧ j ≤ 8 ∧ TG w wr B na nb v (L4 ++ lenL nv j)) (fun v v8 wr => 8 - (intOf v8).toNat)
              case atStart => exact ⟨0, rfl, by omega, Z7.out⟩
              case round =>
                clear Z7 c1
                obtain ⟨j, rfl, hj, ho⟩ := hrel
                obtain ⟨a6, m6, c6, rfl, -⟩ := ho.own.own.rd.shape
                have Z : Hid (TG w wr B na nb (.slice a6 m6 c6) (L4 ++ lenL nv j)) := ho
                by_cases hjt : j < 8
                · have hd2 : decide ((j : Int) < 8) = true := by simp; omega
                  obtain ⟨s, hs⟩ : ∃ s : Nat, 8 * (j : Int) = s := ⟨8 * j, by omega⟩
                  have ws := wrap_i (x := (s : Int)) (by omega) (by omega)
                  have ls : (s : Int) < 64 := by omega
                  have ls' : s < 64 := by omega
                  obtain ⟨b, Hb, eb⟩ := nmLen nv j
                  rw [show 8 * j = s by omega] at eb
                  have mb : (nv : Int) / 2 ^ s % 256 = (b.toNat : Int) := by rw [← eb, IntKind.wrap_u8]
                  have Zo : Hid (TG w (wr.alloc (.cells #[.int .u8 (b.toNat : Int)] 5)) B na nb (.slice a6 m6 c6) (L4 ++ lenL nv j)) := Z.out.alloc _
                  have hl : (L4 ++ lenL nv j).length + [(b.toNat : Int)].length ≤ 140737488355328 := by
                    have := HLl.out
                    rw [List.length_append, lenL_len]
                    simp only [List.length_cons, List.length_nil]
                    omega
                  clear ho
                  go_wp2_with (at_builtin; refine Ap.wpList_app _ rfl _ _ rfl (.slice a6 m6 c6) (.slice (some ⟨wr.heap.size, 0, none⟩) 1 1) (L4 ++ lenL nv j) [(b.toNat : Int)] rfl rfl Zo.out.own.own (Ap.Rd.one wr (b.toNat : Int)) hl ?_)
                  intro v9 w9 o9 k9 b9
                  have k3 := Zo.out.more o9 k9 (by first | exact b9 | (rw [World.size_alloc]; exact b9))
                  have Z9 : Hid (TG w w9 B na nb v9 (L4 ++ lenL nv (j + 1))) := by
                    show TG w w9 B na nb v9 (L4 ++ lenL nv (j + 1))
                    rw [lenL_succ, ← Hb.out]
                    first
                      | exact k3
                      | (rw [← List.append_assoc]; exact k3)
                  obtain ⟨a7, m7, c7, rfl, -⟩ := o9.rd.shape
                  clear o9 k9 b9 k3
                  go_wp2_with fail
                  go_roundw
                  case rel => exact ⟨j + 1, by go_num, by omega, Z9.out⟩
                  case measure => simp [intOf]; omega
                · have : j = 8 := by omega
                  subst this
                  have Z8 : Hid (TG w wr B na nb (.slice a6 m6 c6) (L3 ++ tlF na nb (i + 1))) := by
                    show TG w wr B na nb (.slice a6 m6 c6) (L3 ++ tlF na nb (i + 1))
                    rw [← tlF_succ na nb hlt, ← HNV.out, ← List.append_assoc, ← HL4.out]
                    exact ho
                  clear ho Z
                  go_wp2_with fail
                  go_roundw
                  case rel => exact ⟨i + 1, by go_num, by omega, Z8.out⟩
                  case measure => simp [intOf]; omega
            · have : i = 2 := by omega
              subst this
              have Z8 : Hid (OwnN w wr (.slice a4 m4 c4) (tgL xs ys)) := by
                have h := ho.own
                have e : L3 ++ tlF na nb 2 = tgL xs ys := by
                  rw [HL3.out, HL2.out, HX.out.2.2.1, HX.out.2.2.2]
                  unfold tgL
                  rw [List.append_assoc]
                  rfl
                rw [e] at h
                exact h
              clear ho
              go_wp2
              go_ret
              exact ⟨_, rfl, Z8.out⟩

theorem refPolyV_any (n : Nat) (key txt : Nat → By) (v : Value) (w : World) (hv : Ap.Rd w v (nums n txt)) (hn' : n ≤ 281474976710656) :
    Calls Tryz.prog 33 #[.agg (ba 32 key), v] w fun r w' => r = .returned (.agg (ba 16 (polF key txt n))) ∧ Chg w w' := by
  obtain ⟨ao, m, c, rfl, hm, -⟩ := hv.shape
  rw [nums_len] at hm
  subst hm
  exact refPoly_any m c ao key txt w hv hn'

set_option maxRecDepth 100000 in
set_option maxHeartbeats 8000000 in
theorem refTag_any (key nonce : Nat → By) (ao bo : Option Addr) (na ca nb cb : Nat) (xs ys : List Int) (w : World) (hx : Ap.Rd w (.slice ao na ca) xs) (hy : Ap.Rd w (.slice bo nb cb) ys) (hxb : Bt xs) (hyb : Bt ys) (hxl : xs.length ≤ 8388608) (hyl : ys.length ≤ 8388608) :
    Calls Tryz.prog 22 #[.agg (ba 32 key), .agg (ba 12 nonce), .slice ao na ca, .slice bo nb cb] w fun r w' => ∃ v, r = .returned v ∧ OwnN w w' v (nums 16 (tagF key nonce xs ys)) := by
  obtain ⟨A, hA⟩ : ∃ A, A = ba 32 key := ⟨_, rfl⟩
  obtain ⟨D, hD⟩ : ∃ D, D = ba 12 nonce := ⟨_, rfl⟩
  have hsA : A.size = 32 := by rw [hA]; exact ba_size _ _
  have hsD : D.size = 12 := by rw [hD]; exact ba_size _ _
  have HSA : Hid ((Tryz.prog.info? 40).map (·.size) = some A.size ∧ (Tryz.prog.info? 25).map (·.size) = some D.size) := ⟨by rw [hA]; exact szB key i22, by rw [hD]; exact szB nonce i24⟩
  have HAD : Hid (A = ba 32 key ∧ D = ba 12 nonce) := ⟨hA, hD⟩
  obtain ⟨B, hB⟩ : ∃ B, B = blk key 0#32 nonce := ⟨_, rfl⟩
  have HB : Hid (B = blk key 0#32 nonce) := hB
  have HBl : Hid (∀ u, Calls Tryz.prog 32 #[.agg A, .int .u32 0, .agg D] u fun r w' => r = .returned (.agg (ba 64 B)) ∧ Chg u w') := by
    rw [hA, hD, hB]
    exact fun u => refBlock_any key nonce 0#32 u
  rw [← hA, ← hD]
  have HX : Hid (Ap.Rd w (.slice ao na ca) xs ∧ Ap.Rd w (.slice bo nb cb) ys ∧ Bt xs ∧ Bt ys ∧ xs.length ≤ 8388608 ∧ ys.length ≤ 8388608) := ⟨hx, hy, hxb, hyb, hxl, hyl⟩
  clear hA hD hB hx hy hxb hyb hxl hyl
  have hz := zero32.1
  have hz2 := zero22.1
  have hz3 := zero28.1
  have hszB := szB B i28
  have hlenB := lenB 64 zB B
  have honeB := ba_one 64 B
  go_enter Tryz.func22, Tryz.ntmps22
  go_upto_region 1 with fail
  obtain ⟨w2, hw2⟩ : ∃ w2, w2 = (w.alloc (.cells A 40)).alloc (.cells D 25) := ⟨_, rfl⟩
  have Z2 : Hid (Chg w w2 ∧ Ar w2 w.heap.size A ∧ Ar w2 (w.heap.size + 1) D) := by
    rw [hw2]
    exact ⟨((Chg.refl w).alloc _).alloc _, (Ar.new w _ _).alloc _, Ar.new1 w _ _ _⟩
  rw [← hw2]
  clear hw2 hsA hsD
  obtain ⟨tA, gA⟩ := Z2.out.2.1
  obtain ⟨tD, gD⟩ := Z2.out.2.2
  go_upto_region 2 with (first | refine wpList_load_row rfl 40 _ rfl _ rfl _ _ _ _ gA und22 rfl HSA.out.1 ?_ | refine wpList_load_row rfl 25 _ rfl _ rfl _ _ _ _ gD und24 rfl HSA.out.2 ?_ | (go_at_call 32; refine (HBl.out _).mono ?_; rintro r w3 ⟨rfl, hc3⟩) | refine wpList_store_row rfl 60 _ _ rfl _ _ rfl rfl _ _ (heap_alloc_last w3 _) hszB hlenB honeB ?_)
  obtain ⟨bB, hbB⟩ : ∃ bB, bB = w3.heap.size := ⟨_, rfl⟩
  obtain ⟨w4, hw4⟩ : ∃ w4, w4 = (w3.alloc (.cells (ba 64 zB) 60)).setRow w3.heap.size (ba 64 B) := ⟨_, rfl⟩
  have Z4 : Hid (Chg w w4 ∧ Ar w4 bB (ba 64 B)) := by
    have q0 := Z2.out.1.trans hc3
    rw [hw4, hbB]
    exact ⟨(q0.alloc _).setRow q0.size _, (Ar.new w3 _ _).row _⟩
  rw [← hw4, ← hbB]
  clear hw4 hbB hc3 gA gD Z2 HSA HBl hszB hlenB honeB
  try dsimp only [Act.put]
  go_wp2_with fail
  obtain ⟨O, hO⟩ : ∃ O, O = w4.heap.size := ⟨_, rfl⟩
  obtain ⟨w5, hw5⟩ : ∃ w5, w5 = w4.alloc (.cells (ba 32 zB) 40) := ⟨_, rfl⟩
  have Z5 : Hid ((Chg w w5 ∧ Ar w5 bB (ba 64 B) ∧ Ar w5 O (ba 32 (upTo 0 B zB))) ∧ bB < O ∧ w.heap.size ≤ O) := by
    have e := Z4.out.2.lt
    rw [hw5, hO, upTo_zero]
    exact ⟨⟨Z4.out.1.alloc _, Z4.out.2.alloc _, Ar.new w4 _ _⟩, e, Z4.out.1.size⟩
  have HO : Hid (bB < O ∧ w.heap.size ≤ O) := Z5.out.2
  rw [← hw5, ← hO]
  clear hw5 hO Z4 hz2 hz3
  go_loopw [11] (fun v wr => ∃ (i : Nat), v = .int .i64 i ∧ i ≤ 32 ∧ Chg w wr ∧ Ar wr bB (ba 64 B) ∧ Ar wr O (ba 32 (upTo i B zB))) (fun v wr => 32 - (intOf v).toNat)
  case atStart => exact ⟨0, rfl, by omega, Z5.out.1⟩
  case round =>
    clear Z5
    obtain ⟨i, rfl, hi, hz0, hz1, hz2⟩ := hrel
    have Z : Hid (Chg w wr ∧ Ar wr bB (ba 64 B) ∧ Ar wr O (ba 32 (upTo i B zB))) := ⟨hz0, hz1, hz2⟩
    by_cases hlt : i < 32
    · have hd : decide ((i : Int) < 32) = true := by simp; omega
      have li : (i : Int) < 32 := by omega
      have li' : (i : Int) < 64 := by omega
      have c1 := (hz1.cell i).trans (ba_get 64 _ (by omega))
      have c2 := (hz2.cell i).trans (ba_get 32 _ hlt)
      have f2 := hz2.frozen i
      obtain ⟨x, hx⟩ : ∃ x, x = B i := ⟨_, rfl⟩
      obtain ⟨y, hy⟩ : ∃ y, y = upTo i B zB i := ⟨_, rfl⟩
      rw [← hx] at c1
      rw [← hy] at c2
      have HXi : Hid (x = B i) := hx
      clear hx hy hz0 hz1 hz2
      go_wp2_with fail
      go_roundw
      case rel =>
        obtain ⟨k0, k1, k2⟩ := Z.out
        have h1 := HO.out
        refine ⟨i + 1, by go_num, by omega, k0.setCell (by dsimp only; omega) _, k1.other (by dsimp only; omega) _, ?_⟩
        have hh := k2.set i (.int .u8 (x.toNat : Int))
        rw [ba_set, HXi.out, upTo_upd, ← HXi.out] at hh
        exact hh
      case measure => simp [intOf]; omega
    · have : i = 32 := by omega
      subst this
      rw [show ((32 : Nat) : Int) = 32 from rfl]
      rw [upTo_all] at hz2
      obtain ⟨w6, hw6⟩ : ∃ w6, w6 = wr := ⟨_, rfl⟩
      have Z6 : Hid (Chg w w6 ∧ Ar w6 O (ba 32 B)) := by rw [hw6]; exact ⟨hz0, hz2⟩
      rw [← hw6]
      clear hw6 hz0 hz1 hz2 Z
      obtain ⟨L, hL⟩ : ∃ L, L = tgL xs ys := ⟨_, rfl⟩
      have HL : Hid (nums L.length (fList L) = tgL xs ys ∧ L = tgL xs ys ∧ L.length ≤ 281474976710656) := by
        have h1 := tgL_len xs ys
        have h2 := HX.out
        refine ⟨by rw [hL]; exact fList_nums (h2.2.2.1.tg h2.2.2.2.1), hL, by rw [hL]; omega⟩
      obtain ⟨T, hT⟩ : ∃ T, T = tagF key nonce xs ys := ⟨_, rfl⟩
      have HT : Hid (T = tagF key nonce xs ys) := hT
      have HP : Hid (∀ (v : Value) (u : World), Ap.Rd u v (nums L.length (fList L)) → Calls Tryz.prog 33 #[.agg (ba 32 B), v] u fun r w' => r = .returned (.agg (ba 16 T)) ∧ Chg u w') := by
        intro v u hv
        have e : T = polF B (fList L) L.length := by rw [hT, HB.out, hL]; rfl
        rw [e]
        exact refPolyV_any L.length B (fList L) v u hv HL.out.2.2
      clear hL hT
      go_upto_region 7 with fail
      go_cut [12] from 25 to 29 (fun v wc => ∃ bT, v = .pointer (some ⟨bT, 0, none⟩) ∧ Chg w6 wc ∧ Ar wc bT (ba 16 T))
      case first =>
        refine wp_region_good 6 (fun j v wg => match j with
          | 0 => v = .agg (ba 32 B)
          | 1 => v = .slice ao na ca
          | 2 => v = .slice bo nb cb
          | 3 => ∃ vx, v = vx ∧ Ap.Rd wg vx (nums L.length (fList L))
          | 4 => v = .agg (ba 16 T)
          | 5 => ∃ bx, v = .pointer (some ⟨bx, 0, none⟩) ∧ Ar wg bx (ba 16 zB) ∧ w6.heap.size ≤ bx
          | _ => True) (by kernel_rfl) (by kernel_rfl) (by kernel_rfl) (by kernel_rfl) (by kernel_rfl) ?_ ?_ ?_
        · intro j v u1 u2 h hc
          match j, h with
          | 0, h => exact h
          | 1, h => exact h
          | 2, h => exact h
          | 3, h => (obtain ⟨vx, h1, h2⟩ := h; exact ⟨vx, h1, Rd.chg h2 hc⟩)
          | 4, h => exact h
          | 5, h => (obtain ⟨bx, h1, h2, h3⟩ := h; exact ⟨bx, h1, h2.chg hc, h3⟩)
          | _ + 6, h => exact trivial
        · intro i o ac u hi ho hsz hf hg hc
          have hcs : i = 0 ∨ i = 1 ∨ i = 2 ∨ i = 3 ∨ i = 4 ∨ i = 5 := by omega
          rcases hcs with rfl | rfl | rfl | rfl | rfl | rfl
          · injection ho with ho
            subst ho
            refine .inl ⟨wanted_none rfl, ?_⟩
            have e1 : ac.eval (.tmp 10) = .pointer (some ⟨O, 0, none⟩) := hf 10 (by kernel_rfl)
            exact wp_load_mid 40 (.tmp 10) rfl _ _ e1 ((ba 32 B).toList) _ (rangeA (Ar.chg (w := w6.drew) Z6.out.2 hc)) und22 rfl (info32 _) ⟨_, rfl, rfl, Chg.refl _⟩
          · injection ho with ho
            subst ho
            refine .inl ⟨wanted_none rfl, ?_⟩
            have e1 : ac.eval (.tmp 2) = .slice ao na ca := hf 2 (by kernel_rfl)
            exact opG_val (by simp [execOp, e1]) rfl (Chg.refl _)
          · injection ho with ho
            subst ho
            refine .inl ⟨wanted_none rfl, ?_⟩
            have e1 : ac.eval (.tmp 3) = .slice bo nb cb := hf 3 (by kernel_rfl)
            exact opG_val (by simp [execOp, e1]) rfl (Chg.refl _)
          · injection ho with ho
            subst ho
            refine .inl ⟨wanted_none rfl, ?_⟩
            have e1 : ac.eval (.tmp 26) = .slice ao na ca := hg 1 (by kernel_rfl) (by decide)
            have e2 : ac.eval (.tmp 27) = .slice bo nb cb := hg 2 (by kernel_rfl) (by decide)
            refine opG_go 34 Tryz.f34 #[.tmp 26, .tmp 27] #[24, 24] rfl Tryz.func34 (by kernel_rfl) (by kernel_rfl) (by simp [e1, e2]) (Calls.mono (tagged_any ao bo na ca nb cb xs ys _ (Rd.chg HX.out.1 (Z6.out.1.drew.trans hc)) (Rd.chg HX.out.2.1 (Z6.out.1.drew.trans hc)) HX.out.2.2.2.2.1 HX.out.2.2.2.2.2) ?_)
            rintro r u2 ⟨v2, rfl, ho⟩
            exact ⟨_, rfl, ⟨v2, rfl, by rw [HL.out.1]; exact ho.own.rd⟩, ho.chg⟩
          · injection ho with ho
            subst ho
            refine .inl ⟨wanted_none rfl, ?_⟩
            have e1 : ac.eval (.tmp 25) = .agg (ba 32 B) := hg 0 (by kernel_rfl) (by decide)
            obtain ⟨vx, e20, xx⟩ := hg 3 (by kernel_rfl) (by decide)
            have e2 : ac.eval (.tmp 28) = vx := e20
            refine opG_go 33 Tryz.f33 #[.tmp 25, .tmp 28] #[40, 24] rfl Tryz.func33 (by kernel_rfl) (by kernel_rfl) (by simp [e1, e2]) (Calls.mono (HP.out vx _ xx) ?_)
            rintro r u2 ⟨rfl, hc2⟩
            exact ⟨_, rfl, rfl, hc2⟩
          · injection ho with ho
            subst ho
            refine .inl ⟨wanted_none rfl, ?_⟩
            exact opG_val (v := .pointer (some ⟨u.heap.size, 0, none⟩)) (w' := u.alloc (.cells (ba 16 zB) 62)) (by generalize ac.eval = ρ; simp [go_sem, execOp, zero32.1]) ⟨_, rfl, Ar.new _ _ _, (show w6.heap.size ≤ u.heap.size from hc.size)⟩ ((Chg.refl _).alloc _)
        · intro o u V ho hV hc
          injection ho with ho
          subst ho
          refine ⟨rfl, ?_⟩
          have q25 : V 0 = .agg (ba 32 B) := hV 0 (by decide)
          have q26 : V 1 = .slice ao na ca := hV 1 (by decide)
          have q27 : V 2 = .slice bo nb cb := hV 2 (by decide)
          obtain ⟨vx, q28, xx⟩ := hV 3 (by decide)
          have q29 : V 4 = .agg (ba 16 T) := hV 4 (by decide)
          obtain ⟨bx, q12, ⟨xb, xl⟩⟩ := hV 5 (by decide)
          refine wp_store_mid 62 (.tmp 12) (.tmp 29) rfl bx 0 (ba 16 T) (Eq.trans (by rfl) q12) (Eq.trans (by rfl) q29) (by rw [ba_size]; exact thereI xb) (by rw [ba_size]; exact i32) (ba_one _ _) ?_
          have e := setRowI xb i32 (fun i => ((T i).toNat : Int))
          rw [show (ba 16 T) = arr .u8 16 (fun i => ((T i).toNat : Int)) from rfl, e]
          go_wp2_with fail
          go_meet
          exact ⟨bx, q12, ((Chg.refl w6).drew.trans hc).setRow xl _, xb.row _⟩
      case rest =>
        obtain ⟨bT, rfl, c7, a7⟩ := hcut
        obtain ⟨w7, hw7⟩ : ∃ w7, w7 = wc := ⟨_, rfl⟩
        have Z7 : Hid (Chg w w7 ∧ Ar w7 bT (ba 16 T)) := by rw [hw7]; exact ⟨Z6.out.1.trans c7, a7⟩
        rw [← hw7]
        clear hw7 c7 a7 Z6 hz
        have hsl : ∀ u, (Instr.sliceAt 62 (.pointer (some ⟨bT, 0, none⟩)) none none none).run Tryz.prog u = .ok (.slice (some ⟨bT, 0, none⟩) 16 16) u := run_sliceArr0 und32 (by decide) _
        have Zr : Hid (Ap.Rd (w7.alloc (.cells #[] 5)) (.slice (some ⟨bT, 0, none⟩) 16 16) (nums 16 T)) := Bs.rd (Ar.bs (Z7.out.2.alloc _)) (Nat.le_refl _) (by decide)
        go_wp2_with (at_builtin; refine Ap.wpList_app _ rfl _ _ rfl (.slice (some ⟨w7.heap.size, 0, none⟩) 0 0) (.slice (some ⟨bT, 0, none⟩) 16 16) [] (nums 16 T) rfl rfl (OwnV.empty w7) Zr.out (by rw [nums_len]; decide) ?_)
        intro v8 w8 o8 k8 b8
        have k0 : OwnN w7 (w7.alloc (.cells #[] 5)) (.slice (some ⟨w7.heap.size, 0, none⟩) 0 0) [] := ⟨OwnV.empty w7, fun k e => by simp [Value.ownBlock] at e; omega, (Chg.refl w7).alloc _⟩
        have k1 := k0.more o8 k8 (by first | exact b8 | (rw [World.size_alloc]; exact b8))
        have Z8 : Hid (OwnN w w8 v8 (nums 16 (tagF key nonce xs ys))) := by
          rw [← HT.out]
          exact ⟨o8, fun k e => Nat.le_trans Z7.out.1.size (k1.new k e), Z7.out.1.trans k1.chg⟩
        obtain ⟨a8, m8, c8, rfl, -⟩ := o8.rd.shape
        clear o8 k8 b8 k0 k1 Zr
        go_wp2
        go_ret
        exact ⟨_, rfl, Z8.out⟩

set_option maxRecDepth 100000 in
set_option maxHeartbeats 8000000 in
theorem refSeal_any (key nonce txt : Nat → By) (ao bo : Option Addr) (na ca n cb : Nat) (xs : List Int) (w : World) (hx : Ap.Rd w (.slice ao na ca) xs) (hy : Ap.Rd w (.slice bo n cb) (nums n txt)) (hxb : Bt xs) (hxl : xs.length ≤ 8388608) (hyl : n ≤ 8388608) :
    Calls Tryz.prog 13 #[.agg (ba 32 key), .agg (ba 12 nonce), .slice ao na ca, .slice bo n cb] w fun r w' => ∃ v, r = .returned v ∧ OwnN w w' v (sealL key nonce xs n txt) := by
  obtain ⟨A, hA⟩ : ∃ A, A = ba 32 key := ⟨_, rfl⟩
  obtain ⟨D, hD⟩ : ∃ D, D = ba 12 nonce := ⟨_, rfl⟩
  have hsA : A.size = 32 := by rw [hA]; exact ba_size _ _
  have hsD : D.size = 12 := by rw [hD]; exact ba_size _ _
  have HSA : Hid ((Tryz.prog.info? 40).map (·.size) = some A.size ∧ (Tryz.prog.info? 25).map (·.size) = some D.size) := ⟨by rw [hA]; exact szB key i22, by rw [hD]; exact szB nonce i24⟩
  have HAD : Hid (A = ba 32 key ∧ D = ba 12 nonce) := ⟨hA, hD⟩
  rw [← hA, ← hD]
  have HX : Hid (Ap.Rd w (.slice ao na ca) xs ∧ Ap.Rd w (.slice bo n cb) (nums n txt) ∧ Bt xs ∧ xs.length ≤ 8388608) := ⟨hx, hy, hxb, hxl⟩
  clear hA hD hx hy hxb hxl
  obtain ⟨F, hF⟩ : ∃ F, F = stF key 1#32 nonce txt := ⟨_, rfl⟩
  have HF : Hid (F = stF key 1#32 nonce txt) := hF
  have HS : Hid (∀ u, Chg w u → Calls Tryz.prog 21 #[.agg A, .int .u32 1, .agg D, .slice bo n cb] u fun r w' => ∃ v, r = .returned v ∧ OwnN u w' v (nums n F)) := fun u hu => by
    rw [HAD.out.1, HAD.out.2, hF]
    exact refStream_any n cb key nonce txt 1#32 bo u (Rd.chg HX.out.2.1 hu) (by omega)
  clear hF
  go_enter Tryz.func13, Tryz.ntmps13
  go_upto_region 1 with fail
  obtain ⟨w2, hw2⟩ : ∃ w2, w2 = (w.alloc (.cells A 40)).alloc (.cells D 25) := ⟨_, rfl⟩
  have Z2 : Hid (Chg w w2 ∧ Ar w2 w.heap.size A ∧ Ar w2 (w.heap.size + 1) D) := by
    rw [hw2]
    exact ⟨((Chg.refl w).alloc _).alloc _, (Ar.new w _ _).alloc _, Ar.new1 w _ _ _⟩
  rw [← hw2]
  clear hw2 hsA hsD
  obtain ⟨tA, gA⟩ := Z2.out.2.1
  obtain ⟨tD, gD⟩ := Z2.out.2.2
  go_wp2_with (first | refine wpList_load_row rfl 40 _ rfl _ rfl _ _ _ _ gA und22 rfl HSA.out.1 ?_ | refine wpList_load_row rfl 25 _ rfl _ rfl _ _ _ _ gD und24 rfl HSA.out.2 ?_)
  go_at_call 21
  refine (HS.out _ Z2.out.1).mono ?_
  rintro r w3 ⟨v3, rfl, ho3⟩
  obtain ⟨a3, m3, c3, rfl, hm3, -⟩ := ho3.own.rd.shape
  rw [nums_len] at hm3
  subst hm3
  have Z3 : Hid ((Chg w w3 ∧ Ar w3 w.heap.size A ∧ Ar w3 (w.heap.size + 1) D) ∧ OwnN w w3 (.slice a3 m3 c3) (nums m3 F)) := ⟨⟨Z2.out.1.trans ho3.chg, Z2.out.2.1.chg ho3.chg, Z2.out.2.2.chg ho3.chg⟩, ho3.own, fun k e => Nat.le_trans Z2.out.1.size (ho3.new k e), Z2.out.1.trans ho3.chg⟩
  obtain ⟨n, hnm⟩ : ∃ n, n = m3 := ⟨_, rfl⟩
  subst hnm
  clear ho3 gA gD Z2 HS
  obtain ⟨tA, gA⟩ := Z3.out.1.2.1
  obtain ⟨tD, gD⟩ := Z3.out.1.2.2
  obtain ⟨T, hT⟩ : ∃ T, T = tagF key nonce xs (nums n F) := ⟨_, rfl⟩
  have HT : Hid (T = tagF key nonce xs (nums n F)) := hT
  have HC : Hid (Calls Tryz.prog 22 #[.agg A, .agg D, .slice ao na ca, .slice a3 n c3] w3 fun r w' => ∃ v, r = .returned v ∧ OwnN w3 w' v (nums 16 T)) := by
    rw [HAD.out.1, HAD.out.2, hT]
    exact refTag_any key nonce ao a3 na ca n c3 xs (nums n F) w3 (Rd.chg HX.out.1 Z3.out.1.1) Z3.out.2.own.rd HX.out.2.2.1 (Bt.nums n F) HX.out.2.2.2 (by rw [nums_len]; exact hyl)
  clear hT
  go_wp2_with (first | refine wpList_load_row rfl 40 _ rfl _ rfl _ _ _ _ gA und22 rfl HSA.out.1 ?_ | refine wpList_load_row rfl 25 _ rfl _ rfl _ _ _ _ gD und24 rfl HSA.out.2 ?_)
  go_at_call 22
  refine HC.out.mono ?_
  rintro r w4 ⟨v4, rfl, ho4⟩
  obtain ⟨a4, m4, c4, rfl, -⟩ := ho4.own.rd.shape
  have Z4 : Hid (OwnN w w4 (.slice a3 n c3) (nums n F) ∧ Ap.Rd w4 (.slice a4 m4 c4) (nums 16 T)) := by
    have k := Z3.out.2
    exact ⟨⟨OwnV.chg k.own ho4.chg, k.new, k.chg.trans ho4.chg⟩, ho4.own.rd⟩
  clear ho4 gA gD Z3 HC
  go_wp2_with (at_builtin; refine Ap.wpList_app _ rfl _ _ rfl (.slice a3 n c3) (.slice a4 m4 c4) (nums n F) (nums 16 T) rfl rfl Z4.out.1.own Z4.out.2 (by rw [nums_len, nums_len]; omega) ?_)
  intro v5 w5 o5 k5 b5
  have Z5 : Hid (OwnN w w5 v5 (sealL key nonce xs n txt)) := by
    have k := Z4.out.1.more o5 k5 b5
    unfold sealL
    rw [← HF.out, ← HT.out]
    exact k
  obtain ⟨a5, m5, c5, rfl, -⟩ := o5.rd.shape
  clear o5 k5 b5 Z4
  go_wp2
  go_ret
  exact ⟨_, rfl, Z5.out⟩

theorem str_inj {n : Nat} {f g : Nat → By} : ((strOfNums (nums n f)).toList == (strOfNums (nums n g)).toList) = sameB n f g := by
  rw [Lib.strOfNums_toList, Lib.strOfNums_toList, Bool.eq_iff_iff, beq_iff_eq, sameB_iff]
  constructor
  · intro h j hj
    have h1 : (Lib.bytesOf (nums n f))[j]? = (Lib.bytesOf (nums n g))[j]? := by rw [h]
    simp only [Lib.bytesOf, List.getElem?_map, nums_get n f hj, nums_get n g hj, Option.map_some, Option.some.injEq] at h1
    have h2 := congrArg UInt8.toNat h1
    have e1 := (f j).isLt
    have e2 := (g j).isLt
    rw [UInt8.toNat_ofNat', UInt8.toNat_ofNat'] at h2
    exact BitVec.eq_of_toNat_eq (by omega)
  · intro h
    rw [nums_congr h]

theorem op_neqS {o : Oper} {a : Act} {w : World} {K : Act → World → Prop} {Q : Exit → Act → World → Prop} (x y : Operand) (s t : ByteArray) (b : Bool) (ho : o.op = .binOp .neq 9 x y 9) (hx : a.eval x = .string s) (hy : a.eval y = .string t) (hb : (s.toList == t.toList) = b) (hK : K (a.put o.dst (.bool (!b))) w) : o.wp Tryz.prog a w K Q := by
  refine op_val1 (v := .bool (!b)) ?_ hK
  revert hx hy
  generalize a.eval = ρ
  intro hx hy
  simp [go_sem, execOp, ho, hx, hy, hb]

set_option maxRecDepth 100000 in
set_option maxHeartbeats 4000000 in
theorem refOpenShort_any (key nonce : Nat → By) (ns cs : Nat) (sa : Option Addr) (va : Value) (w : World) (h16 : ns < 16) :
    Calls Tryz.prog 16 #[.agg (ba 32 key), .agg (ba 12 nonce), va, .slice sa ns cs] w fun r w' => r = .returned (.tuple #[.slice none 0 0, .int .i64 91]) ∧ Chg w w' := by
  obtain ⟨A, hA⟩ : ∃ A, A = ba 32 key := ⟨_, rfl⟩
  obtain ⟨D, hD⟩ : ∃ D, D = ba 12 nonce := ⟨_, rfl⟩
  have hsA : A.size = 32 := by rw [hA]; exact ba_size _ _
  have hsD : D.size = 12 := by rw [hD]; exact ba_size _ _
  rw [← hA, ← hD]
  clear hA hD
  have hd : decide ((ns : Int) < 16) = true := by simp; omega
  go_enter Tryz.func16, Tryz.ntmps16
  go_wp2_with fail
  go_ret2
  exact ⟨rfl, ((Chg.refl w).alloc _).alloc _⟩

set_option maxRecDepth 100000 in
set_option maxHeartbeats 8000000 in
theorem refOpen_any (key nonce sf : Nat → By) (na ca m sb so cs : Nat) (ao : Option Addr) (xs : List Int) (w : World) (hx : Ap.Rd w (.slice ao na ca) xs) (hxb : Bt xs) (hxl : xs.length ≤ 8388608) (hvs : Bs w sb so (m + 16) sf) (hcs : m + 16 ≤ cs) (hcs' : cs ≤ 9223372036854775807) (hml : m ≤ 8388608) :
    Calls Tryz.prog 16 #[.agg (ba 32 key), .agg (ba 12 nonce), .slice ao na ca, .slice (some ⟨sb, so, none⟩) (m + 16) cs] w fun r w' => Chg w w' ∧
      ((sameB 16 (tagF key nonce xs (nums m sf)) (fun j => sf (m + j)) = true ∧ ∃ v, r = .returned (.tuple #[v, .int .i64 0]) ∧ Ap.Rd w' v (nums m (stF key 1#32 nonce sf))) ∨
       (sameB 16 (tagF key nonce xs (nums m sf)) (fun j => sf (m + j)) = false ∧ r = .returned (.tuple #[.slice none 0 0, .int .i64 91]))) := by
  obtain ⟨A, hA⟩ : ∃ A, A = ba 32 key := ⟨_, rfl⟩
  obtain ⟨D, hD⟩ : ∃ D, D = ba 12 nonce := ⟨_, rfl⟩
  have hsA : A.size = 32 := by rw [hA]; exact ba_size _ _
  have hsD : D.size = 12 := by rw [hD]; exact ba_size _ _
  have HSA : Hid ((Tryz.prog.info? 40).map (·.size) = some A.size ∧ (Tryz.prog.info? 25).map (·.size) = some D.size) := ⟨by rw [hA]; exact szB key i22, by rw [hD]; exact szB nonce i24⟩
  have HAD : Hid (A = ba 32 key ∧ D = ba 12 nonce) := ⟨hA, hD⟩
  rw [← hA, ← hD]
  obtain ⟨ns, hns0⟩ : ∃ ns, ns = m + 16 := ⟨_, rfl⟩
  have HCS : Hid (16 ≤ cs - m ∧ cs - m ≤ 9223372036854775807) := ⟨by omega, by omega⟩
  have hsub : (ns : Int) - 16 = m := by omega
  have wm := wrap_i (x := (m : Int)) (by omega) (by omega)
  have hd : decide ((ns : Int) < 16) = false := by simp; omega
  obtain ⟨lo, hlo, hlo1⟩ := run_sliceHiA (some ⟨sb, so, none⟩) ns cs m (by omega) hcs'
  have hhi : ∀ u, (Instr.sliceAt 24 (.slice (some ⟨sb, so, none⟩) ns cs) (some (.int .i64 (m : Int))) none none).run Tryz.prog u = .ok (.slice (some ⟨sb, so + m, none⟩) 16 (cs - m)) u := fun u => by
    have := run_sliceLoB sb so ns cs m (by omega) (by omega) hcs' (by omega) u
    rwa [show ns - m = 16 by omega] at this
  have HS : Hid (Bs w sb (so + m) 16 (fun j => sf (m + j))) := fun j hj => by
    have := hvs (m + j) (by omega)
    rwa [← Nat.add_assoc] at this
  have HV : Hid (Ap.Rd w (.slice ao na ca) xs ∧ (∀ u, Chg w u → Ap.Rd u (.slice lo m cs) (nums m sf)) ∧ Bt xs ∧ xs.length ≤ 8388608 ∧ m ≤ 8388608) := by
    refine ⟨hx, fun u c => ?_, hxb, hxl, hml⟩
    refine hlo1 u sf (Rd.chg (Bs.rd (f := sf) ?_ (by omega) hcs') c) (by omega)
    rw [hns0]
    exact hvs
  rw [← hns0]
  clear hA hD hx hxb hxl hvs hlo1 hns0
  go_enter Tryz.func16, Tryz.ntmps16
  go_upto_region 1 with fail
  obtain ⟨w4, hw4⟩ : ∃ w4, w4 = (w.alloc (.cells A 40)).alloc (.cells D 25) := ⟨_, rfl⟩
  have Z4 : Hid (KN w w4 key nonce ∧ True) := by
    rw [hw4, HAD.out.1, HAD.out.2]
    exact ⟨⟨((Chg.refl w).alloc _).alloc _, (Ar.new w _ _).alloc _, Ar.new1 w _ _ _⟩, trivial⟩
  rw [← hw4]
  clear hw4 hsA hsD
  obtain ⟨T, hT⟩ : ∃ T, T = tagF key nonce xs (nums m sf) := ⟨_, rfl⟩
  have HTe : Hid (T = tagF key nonce xs (nums m sf)) := hT
  have HT : Hid (∀ u, Chg w4.drew u → Calls Tryz.prog 22 #[.agg (ba 32 key), .agg (ba 12 nonce), .slice ao na ca, .slice lo m cs] u fun r w' => ∃ v, r = .returned v ∧ OwnN u w' v (nums 16 T)) := by
    intro u c
    rw [hT]
    have c0 := Z4.out.1.chg.drew.trans c
    exact refTag_any key nonce ao lo na ca m cs xs (nums m sf) u (Rd.chg HV.out.1 c0) (HV.out.2.1 u c0) HV.out.2.2.1 (Bt.nums m sf) HV.out.2.2.2.1 (by rw [nums_len]; exact HV.out.2.2.2.2)
  obtain ⟨S1, hS1⟩ : ∃ S, S = strOfNums (nums 16 T) := ⟨_, rfl⟩
  obtain ⟨S2, hS2⟩ : ∃ S, S = strOfNums (nums 16 (fun j => sf (m + j))) := ⟨_, rfl⟩
  have HSS : Hid (S1 = strOfNums (nums 16 T) ∧ S2 = strOfNums (nums 16 (fun j => sf (m + j)))) := ⟨hS1, hS2⟩
  obtain ⟨bb, hbb⟩ : ∃ bb, bb = sameB 16 T (fun j => sf (m + j)) := ⟨_, rfl⟩
  have HBB : Hid (bb = sameB 16 T (fun j => sf (m + j))) := hbb
  have hsb : (S1.toList == S2.toList) = bb := by
    rw [hS1, hS2, hbb]
    exact str_inj
  clear hT hS1 hS2 hbb
  go_upto_region 4 with fail
  go_cut [31] from 19 to 31 (fun v wc => v = .bool (!bb) ∧ Chg w4 wc)
  case first =>
    refine wp_region_good 12 (fun j v wg => match j with
      | 0 => v = .agg (ba 32 key)
      | 1 => v = .agg (ba 12 nonce)
      | 2 => v = .slice ao na ca
      | 3 => v = .slice lo m cs
      | 4 => ∃ vx, v = vx ∧ Ap.Rd wg vx (nums 16 T)
      | 5 => v = .string S1
      | 6 => v = .slice (some ⟨sb, so, none⟩) ns cs
      | 7 => v = .slice (some ⟨sb, so, none⟩) ns cs
      | 8 => v = .int .i64 (ns : Int)
      | 9 => v = .int .i64 (m : Int)
      | 10 => v = .slice (some ⟨sb, so + m, none⟩) 16 (cs - m)
      | 11 => v = .string S2
      | _ => True) (by kernel_rfl) (by kernel_rfl) (by kernel_rfl) (by kernel_rfl) (by kernel_rfl) ?_ ?_ ?_
    · intro j v u1 u2 h hc
      match j, h with
      | 0, h => exact h
      | 1, h => exact h
      | 2, h => exact h
      | 3, h => exact h
      | 4, h => (obtain ⟨vx, h1, h2⟩ := h; exact ⟨vx, h1, Rd.chg h2 hc⟩)
      | 5, h => exact h
      | 6, h => exact h
      | 7, h => exact h
      | 8, h => exact h
      | 9, h => exact h
      | 10, h => exact h
      | 11, h => exact h
      | _ + 12, h => exact trivial
    · intro i o ac u hi ho hsz hf hg hc
      have hcs : i = 0 ∨ i = 1 ∨ i = 2 ∨ i = 3 ∨ i = 4 ∨ i = 5 ∨ i = 6 ∨ i = 7 ∨ i = 8 ∨ i = 9 ∨ i = 10 ∨ i = 11 := by omega
      rcases hcs with rfl | rfl | rfl | rfl | rfl | rfl | rfl | rfl | rfl | rfl | rfl | rfl
      · injection ho with ho
        subst ho
        refine .inl ⟨wanted_none rfl, ?_⟩
        have e1 : ac.eval (.tmp 4) = .pointer (some ⟨w.heap.size, 0, none⟩) := hf 4 (by kernel_rfl)
        exact wp_load_mid 40 (.tmp 4) rfl _ _ e1 ((ba 32 key).toList) _ (rangeA (Ar.chg (w := w4.drew) Z4.out.1.ky hc)) und22 rfl (info32 _) ⟨_, rfl, rfl, Chg.refl _⟩
      · injection ho with ho
        subst ho
        refine .inl ⟨wanted_none rfl, ?_⟩
        have e1 : ac.eval (.tmp 5) = .pointer (some ⟨w.heap.size + 1, 0, none⟩) := hf 5 (by kernel_rfl)
        exact wp_load_mid 25 (.tmp 5) rfl _ _ e1 ((ba 12 nonce).toList) _ (rangeA (Ar.chg (w := w4.drew) Z4.out.1.non hc)) und24 rfl (info12 _) ⟨_, rfl, rfl, Chg.refl _⟩
      · injection ho with ho
        subst ho
        refine .inl ⟨wanted_none rfl, ?_⟩
        have e1 : ac.eval (.tmp 2) = .slice ao na ca := hf 2 (by kernel_rfl)
        exact opG_val (by simp [execOp, e1]) rfl (Chg.refl _)
      · injection ho with ho
        subst ho
        refine .inl ⟨wanted_none rfl, ?_⟩
        have e1 : ac.eval (.tmp 10) = .slice lo m cs := hf 10 (by kernel_rfl)
        exact opG_val (by simp [execOp, e1]) rfl (Chg.refl _)
      · injection ho with ho
        subst ho
        refine .inl ⟨wanted_none rfl, ?_⟩
        have e1 : ac.eval (.tmp 19) = .agg (ba 32 key) := hg 0 (by kernel_rfl) (by decide)
        have e2 : ac.eval (.tmp 20) = .agg (ba 12 nonce) := hg 1 (by kernel_rfl) (by decide)
        have e3 : ac.eval (.tmp 21) = .slice ao na ca := hg 2 (by kernel_rfl) (by decide)
        have e4 : ac.eval (.tmp 22) = .slice lo m cs := hg 3 (by kernel_rfl) (by decide)
        refine opG_go 22 Tryz.f22 #[.tmp 19, .tmp 20, .tmp 21, .tmp 22] #[40, 25, 24, 24] rfl Tryz.func22 (by kernel_rfl) (by kernel_rfl) (by simp [e1, e2, e3, e4]) (Calls.mono (HT.out _ hc) ?_)
        rintro e u2 ⟨v2, rfl, ho⟩
        exact ⟨_, rfl, ⟨v2, rfl, ho.own.rd⟩, ho.chg⟩
      · injection ho with ho
        subst ho
        refine .inl ⟨wanted_none rfl, ?_⟩
        obtain ⟨vx, e10, xx⟩ := hg 4 (by kernel_rfl) (by decide)
        have e1 : ac.eval (.tmp 23) = vx := e10
        have hcv := (show (convert 24 9 vx).run Tryz.prog u = .ok (.string S1) u from by rw [HSS.out.1]; exact Ap.run_str u _ _ xx)
        exact opG_val (by simp [execOp, e1, hcv]) rfl (Chg.refl _)
      · injection ho with ho
        subst ho
        refine .inl ⟨wanted_none rfl, ?_⟩
        have e1 : ac.eval (.tmp 3) = .slice (some ⟨sb, so, none⟩) ns cs := hf 3 (by kernel_rfl)
        exact opG_val (by simp [execOp, e1]) rfl (Chg.refl _)
      · injection ho with ho
        subst ho
        refine .inl ⟨wanted_none rfl, ?_⟩
        have e1 : ac.eval (.tmp 3) = .slice (some ⟨sb, so, none⟩) ns cs := hf 3 (by kernel_rfl)
        exact opG_val (by simp [execOp, e1]) rfl (Chg.refl _)
      · injection ho with ho
        subst ho
        refine .inl ⟨wanted_none rfl, ?_⟩
        have e1 : ac.eval (.tmp 26) = .slice (some ⟨sb, so, none⟩) ns cs := hg 7 (by kernel_rfl) (by decide)
        exact opG_val (by revert e1; generalize ac.eval = ρ; intro e1; simp [go_sem, execOp, e1]) rfl (Chg.refl _)
      · injection ho with ho
        subst ho
        refine .inl ⟨wanted_none rfl, ?_⟩
        have e1 : ac.eval (.tmp 27) = .int .i64 (ns : Int) := hg 8 (by kernel_rfl) (by decide)
        have e2 : ac.eval (.const (.int .i64 16)) = .int .i64 16 := rfl
        exact opG_val (by revert e1 e2; generalize ac.eval = ρ; intro e1 e2; simp [go_sem, execOp, e1, e2, hsub, wm]) rfl (Chg.refl _)
      · injection ho with ho
        subst ho
        refine .inl ⟨wanted_none rfl, ?_⟩
        have e1 : ac.eval (.tmp 25) = .slice (some ⟨sb, so, none⟩) ns cs := hg 6 (by kernel_rfl) (by decide)
        have e2 : ac.eval (.tmp 28) = .int .i64 (m : Int) := hg 9 (by kernel_rfl) (by decide)
        exact opG_val (by simp [execOp, e1, e2, hhi]) rfl (Chg.refl _)
      · injection ho with ho
        subst ho
        refine .inl ⟨wanted_none rfl, ?_⟩
        have e1 : ac.eval (.tmp 29) = .slice (some ⟨sb, so + m, none⟩) 16 (cs - m) := hg 10 (by kernel_rfl) (by decide)
        have hcv := (show (convert 24 9 (.slice (some ⟨sb, so + m, none⟩) 16 (cs - m))).run Tryz.prog u = .ok (.string S2) u from by rw [HSS.out.2]; exact Ap.run_str u _ _ (Bs.rd (Bs.chg HS.out (Z4.out.1.chg.drew.trans hc)) HCS.out.1 HCS.out.2))
        exact opG_val (by simp [execOp, e1, hcv]) rfl (Chg.refl _)
    · intro o u V ho hV hc
      injection ho with ho
      subst ho
      refine ⟨rfl, ?_⟩
      have q19 : V 0 = .agg (ba 32 key) := hV 0 (by decide)
      have q20 : V 1 = .agg (ba 12 nonce) := hV 1 (by decide)
      have q21 : V 2 = .slice ao na ca := hV 2 (by decide)
      have q22 : V 3 = .slice lo m cs := hV 3 (by decide)
      obtain ⟨vx, q23, xx⟩ := hV 4 (by decide)
      have q24 : V 5 = .string S1 := hV 5 (by decide)
      have q25 : V 6 = .slice (some ⟨sb, so, none⟩) ns cs := hV 6 (by decide)
      have q26 : V 7 = .slice (some ⟨sb, so, none⟩) ns cs := hV 7 (by decide)
      have q27 : V 8 = .int .i64 (ns : Int) := hV 8 (by decide)
      have q28 : V 9 = .int .i64 (m : Int) := hV 9 (by decide)
      have q29 : V 10 = .slice (some ⟨sb, so + m, none⟩) 16 (cs - m) := hV 10 (by decide)
      have q30 : V 11 = .string S2 := hV 11 (by decide)
      refine op_neqS (.tmp 24) (.tmp 30) S1 S2 bb rfl (Eq.trans (by rfl) q24) (Eq.trans (by rfl) q30) hsb ?_
      go_wp2_with fail
      go_meet
      exact ⟨rfl, (Chg.refl w4).drew.trans hc⟩
  case rest =>
    obtain ⟨rfl, c6⟩ := hcut
    obtain ⟨w6, hw6⟩ : ∃ w6, w6 = wc := ⟨_, rfl⟩
    have Z6 : Hid (Chg w w6 ∧ Ar w6 w.heap.size A ∧ Ar w6 (w.heap.size + 1) D) := by
      rw [hw6, HAD.out.1, HAD.out.2]
      exact ⟨Z4.out.1.chg.trans c6, Z4.out.1.ky.chg c6, Z4.out.1.non.chg c6⟩
    rw [← hw6]
    clear hw6 c6 Z4 hhi HT hsb
    cases bb with
    | false =>
      go_wp2_with fail
      go_ret2
      exact ⟨Z6.out.1, .inr ⟨by rw [← HTe.out, ← HBB.out], rfl⟩⟩
    | true =>
      obtain ⟨tA, gA⟩ := Z6.out.2.1
      obtain ⟨tD, gD⟩ := Z6.out.2.2
      have HSt : Hid (Calls Tryz.prog 21 #[.agg A, .int .u32 1, .agg D, .slice lo m cs] w6 fun r w' => ∃ v, r = .returned v ∧ OwnN w6 w' v (nums m (stF key 1#32 nonce sf))) := by
        rw [HAD.out.1, HAD.out.2]
        have h3 := HV.out.2.2.2.2
        exact refStream_any m cs key nonce sf 1#32 lo w6 (HV.out.2.1 w6 Z6.out.1) (by omega)
      go_wp2_with (first | refine wpList_load_row rfl 40 _ rfl _ rfl _ _ _ _ gA und22 rfl HSA.out.1 ?_ | refine wpList_load_row rfl 25 _ rfl _ rfl _ _ _ _ gD und24 rfl HSA.out.2 ?_)
      go_at_call 21
      refine HSt.out.mono ?_
      rintro r w7 ⟨v, rfl, ho⟩
      obtain ⟨vo, vm, vc, rfl, -⟩ := ho.own.rd.shape
      have Z7 : Hid (Chg w w7 ∧ Ap.Rd w7 (.slice vo vm vc) (nums m (stF key 1#32 nonce sf))) := ⟨Z6.out.1.trans ho.chg, ho.own.rd⟩
      clear ho
      go_wp2_with fail
      go_ret2
      exact ⟨Z7.out.1, .inl ⟨by rw [← HTe.out, ← HBB.out], _, rfl, Z7.out.2⟩⟩
end Go.Proofs.YtobglgddbhddnaaGreat.Cha
