/-
  OID: the program's.
-/
import Derived.Test.YtnidfbcninkglaaDoorOi
import Derived.Test.YtnidfbcninkglaaDoorFu
namespace Go.Proofs.YtnidfbcninkglaaDoor
open Go.RowKit
set_option linter.unusedVariables false
set_option maxRecDepth 100000

def decI (x : Int) : List UInt8 := Lib.decDigits x.toNat
def topI (a : Int) : Int := if a < 40 then 0 else if a < 80 then 1 else 2
def firstT (a : Int) : List UInt8 := decI (topI a) ++ [46] ++ decI (a - 40 * topI a)
def restT (r : List Int) : List UInt8 := (r.map fun x => 46 :: decI x).flatten
def oidT : List Int → List UInt8
  | [] => []
  | a :: r => firstT a ++ restT r
def oidS (xs : List Int) : List UInt8 := match oidL xs with
  | none => []
  | some l => oidT l
def oidE (xs : List Int) : Int := if oidB xs = true then 0 else 144
theorem restT_snoc (r : List Int) (x : Int) : restT (r ++ [x]) = restT r ++ (46 :: decI x) := by simp [restT]

/-- A text. -/
def bs (l : List UInt8) : ByteArray := ⟨l.toArray⟩
theorem bs_app (l m : List UInt8) : bs l ++ bs m = bs (l ++ m) := by
  apply ByteArray.ext
  simp [bs]
theorem bs_one : bs [46] = ⟨#[46]⟩ := rfl

theorem decI_len {x : Int} (h1 : x < 18446744073709551616) : (decI x).length ≤ 20 := dec_len _ (by omega)
theorem bs_size (l : List UInt8) : (bs l).size = l.length := by simp [bs, ByteArray.size]
/-- Two texts together. -/
theorem add_tx (l m : List UInt8) (h1 : l.length ≤ 8388608) (h2 : m.length ≤ 8388608) (W : World) : (Op.stringOp .add (bs l) (bs m)).run Tryd.prog W = .ok (.string (bs (l ++ m))) W := by
  rw [run_string_add _ _ _ (by rw [bs_size]; omega) (by rw [bs_size]; omega), bs_app]
theorem firstT_len {a : Int} (h1 : a < 4294967296) (h0 : 0 ≤ a) : (firstT a).length ≤ 41 := by
  unfold firstT
  have e1 := decI_len (x := topI a) (by unfold topI; split; omega; split <;> omega)
  have e2 := decI_len (x := a - 40 * topI a) (by unfold topI; split; omega; split <;> omega)
  simp only [List.length_append, List.length_singleton]
  omega
theorem restT_len {r : List Int} (h : ∀ x ∈ r, 0 ≤ x ∧ x < 4294967296) : (restT r).length ≤ 21 * r.length := by
  induction r with
  | nil => simp [restT]
  | cons x r ih =>
    have e1 := decI_len (x := x) (by have := h x (by simp); omega)
    have e2 := ih (fun y hy => h y (by simp [hy]))
    simp only [restT, List.map_cons, List.flatten_cons, List.length_append, List.length_cons] at e2 ⊢
    omega

theorem take_snocI {l : List Int} {k : Nat} {x : Int} (h : l[k]? = some x) : l.take (k + 1) = l.take k ++ [x] := by
  rw [List.take_add_one, h]; rfl
theorem formatI_any (x : Int) (h0 : 0 ≤ x) (h1 : x < 18446744073709551616) (w : World) (htab : Tab w) :
    Calls Tryd.prog 45 #[.int .u64 x, .int .i64 10] w fun e w' => e = .returned (.string (bs (decI x))) ∧ Chg Non w w' := by
  obtain ⟨u, rfl⟩ := Int.eq_ofNat_of_zero_le h0
  exact formatUint_any u (by omega) w htab

def U.Bs (w : World) (b o : Nat) (xs : List Int) : Prop := ∀ j u, xs[j]? = some u → w.cell? ⟨b, o + j, none⟩ = some (.int .u64 u)
theorem U.Bs.chg {w w' : World} {b o : Nat} {xs : List Int} (h : U.Bs w b o xs) (k : Chg Non w w') : U.Bs w' b o xs := fun j u hj => by
  have h1 := h j u hj
  rw [← h1]
  exact World.cell?_of_block (k.block b (World.block_lt_of_cell? w _ h1) (fun x => x))

theorem U.OwnV.bs {w : World} {v : Value} {xs : List Int} (h : U.OwnV w v xs) (hn : xs ≠ []) : ∃ b o c, v = .slice (some ⟨b, o, none⟩) xs.length c ∧ xs.length ≤ c ∧ c ≤ 9223372036854775807 ∧ U.Bs w b o xs := by
  rcases h with ⟨_, e⟩ | ⟨g, off, n, cap, rfl, h⟩
  · exact absurd e hn
  · refine ⟨g, off, cap, by rw [h.len], by rw [h.len]; exact h.le, by simpa [maxLen] using h.mx, h.cell⟩

set_option maxHeartbeats 4000000 in
theorem oid_any (v : Value) (xs : List Int) (hb : Byt xs) (w : World) (hv : Rd w v xs) (ht : Tab w) :
    Calls Tryd.prog 24 #[v] w fun e w' => e = .returned (.tuple #[.string (bs (oidS xs)), .int .i64 (oidE xs)]) ∧ Chg Non w w' := by
  have HC : Hid (Calls Tryd.prog 44 #[v] w fun e w' => ∃ v', e = .returned (.tuple #[v', .bool (oidB xs)]) ∧ SevP w w' v' xs) := sevens_any v xs hb w hv
  have HT : Hid (Tab w) := ht
  cases hl : oidL xs with
  | none =>
    have E : oidB xs = false ∧ oidS xs = [] ∧ oidE xs = 144 := by
      have : oidB xs = false := by unfold oidB; rw [hl]; rfl
      refine ⟨this, by unfold oidS; rw [hl], by simp [oidE, this]⟩
    rw [E.1] at HC
    rw [E.2.1, E.2.2]
    clear E ht hb hv hl
    go_enter Tryd.func24, Tryd.ntmps24
    go_wp2_with (go_at_call 44; refine HC.out.mono ?_; rintro e w' ⟨v', rfl, hn⟩)
    go_ret2
    exact ⟨rfl, hn.chg⟩
  | some l =>
    obtain ⟨hlt, h1l, hl16⟩ := oidL_lt hb hl
    have E : oidB xs = true ∧ oidS xs = oidT l ∧ oidE xs = 0 := by
      have : oidB xs = true := by unfold oidB; rw [hl]; rfl
      refine ⟨this, by unfold oidS; rw [hl], by simp [oidE, this]⟩
    rw [E.1] at HC
    rw [E.2.1, E.2.2]
    match l, h1l with
    | a :: r, _ =>
    obtain ⟨ha0, ha1⟩ := hlt a (by simp)
    have HLT : Hid (∀ x ∈ r, 0 ≤ x ∧ x < 4294967296) := fun x hx => hlt x (by simp [hx])
    have HL : Hid (oidL xs = some (a :: r)) := hl
    clear E ht hb hv hl
    obtain ⟨L, hL⟩ : ∃ L, L = r.length := ⟨_, rfl⟩
    have HLL : Hid (L = r.length) := hL
    have hL15 : L ≤ 15 := by rw [hL]; simp at hl16; omega
    obtain ⟨S, hS⟩ : ∃ S : Value, S = .string (bs (oidT (a :: r))) := ⟨_, rfl⟩
    have HS : Hid (S = .string (bs (oidT (a :: r)))) := hS
    rw [← hS]
    have htop : topI a = 0 ∧ a < 40 ∨ topI a = 1 ∧ 40 ≤ a ∧ a < 80 ∨ topI a = 2 ∧ 80 ≤ a := by
      unfold topI
      split
      · exact .inl ⟨rfl, by omega⟩
      · split
        · exact .inr (.inl ⟨rfl, by omega, by omega⟩)
        · exact .inr (.inr ⟨rfl, by omega⟩)
    obtain ⟨t, htt⟩ : ∃ t, t = topI a := ⟨_, rfl⟩
    have HTT : Hid (t = topI a) := htt
    rw [← htt] at htop
    have hmin : min (a / 40) 2 = t := by omega
    have h40 : 0 ≤ a - 40 * t := by omega
    have ht0 : 0 ≤ t := by omega
    have ht2 : t ≤ 2 := by omega
    clear hlt htop htt hS hL hl16
    go_enter Tryd.func24, Tryd.ntmps24
    go_wp2_with (go_at_call 44; refine HC.out.mono ?_)
    rintro e w1 ⟨v', rfl, hn⟩
    obtain ⟨b, o, c, rfl, h1, h2, h3⟩ := (hn.own _ HL.out).own.bs (by simp)
    have HN : Hid (Chg Non w w1) := hn.chg
    have H3 : Hid (U.Bs w1 b o (a :: r)) := h3
    have hc0 : w1.cell? ⟨b, o, none⟩ = some (.int .u64 a) := h3 0 a rfl
    have e1 : (a :: r).length = L + 1 := by simp [HLL.out]
    rw [e1] at h1 ⊢
    clear hn h3 e1
    have HF : Hid (∀ u x, Chg Non w1 u → 0 ≤ x → x < 4294967296 → Calls Tryd.prog 45 #[.int .u64 x, .int .i64 10] u fun e w' => e = .returned (.string (bs (decI x))) ∧ Chg Non u w') := fun u x hu h0 h1 => formatI_any x h0 (by omega) u (HT.out.non (HN.out.two hu))
    obtain ⟨A, hA⟩ : ∃ A, A = bs (decI t) := ⟨_, rfl⟩
    obtain ⟨A1, hA1⟩ : ∃ A1, A1 = bs (decI t ++ [46]) := ⟨_, rfl⟩
    obtain ⟨B, hB⟩ : ∃ B, B = bs (decI (a - 40 * t)) := ⟨_, rfl⟩
    obtain ⟨F, hF⟩ : ∃ F, F = bs (firstT a) := ⟨_, rfl⟩
    have l1 := decI_len (x := t) (by omega)
    have l2 := decI_len (x := a - 40 * t) (by omega)
    have kA : ∀ W, (Op.stringOp .add A ⟨#[46]⟩).run Tryd.prog W = .ok (.string A1) W := fun W => by rw [hA, hA1]; exact add_tx (decI t) [46] (by omega) (by simp) W
    have kB : ∀ W, (Op.stringOp .add A1 B).run Tryd.prog W = .ok (.string F) W := fun W => by rw [hA1, hB, hF]; unfold firstT; rw [← HTT.out]; exact add_tx (decI t ++ [46]) (decI (a - 40 * t)) (by simp; omega) (by omega) W
    have HF1 : Hid (∀ u, Chg Non w1 u → Calls Tryd.prog 45 #[.int .u64 t, .int .i64 10] u fun e w' => e = .returned (.string A) ∧ Chg Non u w') := fun u hu => by rw [hA]; exact HF.out u t hu ht0 (by omega)
    have HF2 : Hid (∀ u, Chg Non w1 u → Calls Tryd.prog 45 #[.int .u64 (a - 40 * t), .int .i64 10] u fun e w' => e = .returned (.string B) ∧ Chg Non u w') := fun u hu => by rw [hB]; exact HF.out u _ hu h40 (by omega)
    have HFF : Hid (F = bs (firstT a)) := hF
    have hw1 : IntKind.u64.wrap (40 * t) = 40 * t := by rw [IntKind.wrap_u64]; omega
    have hw2 : IntKind.u64.wrap (a - 40 * t) = a - 40 * t := by rw [IntKind.wrap_u64]; omega
    clear hF hA hA1 hB l1 l2
    go_upto_region 5 with fail
    go_cut [7] from 22 to 32 (fun v7 wc => v7 = .string F ∧ Hid (Chg Non w1 wc))
    case first =>
      refine wp_region_noPanic ?_
      go_region_held3 (fun w' => w'.cell? ⟨b, o, none⟩ = some (.int .u64 a)) (exact ((H3.out.chg (by first | exact (Chg.refl _ _).drew | assumption)) 0 a rfl))
        (first
          | (go_at_call_of 45 (Value.int IntKind.u64 t); refine (HF1.out _ (by first | exact (Chg.refl _ _).drew | assumption)).mono ?_; rintro e w2 ⟨rfl, hw2⟩; have hw3 : Chg Non w1 w2 := Chg.two (by first | exact (Chg.refl _ _).drew | assumption) hw2)
          | (go_at_call 45; refine (HF2.out _ (by first | exact (Chg.refl _ _).drew | assumption)).mono ?_; rintro e w4 ⟨rfl, hw4⟩; have hw5 : Chg Non w1 w4 := Chg.two (by first | exact (Chg.refl _ _).drew | assumption) hw4))
      refine NoPanic.normal ?_
      go_wp2_with fail
      go_meet
      exact ⟨rfl, hw5⟩
    case rest =>
      obtain ⟨rfl, hwc⟩ := hcut
      have HW : Hid (Chg Non w wc) := HN.out.two hwc.out
      have HU : Hid (U.Bs wc b o (a :: r)) := H3.out.chg hwc.out
      have HF3 : Hid (∀ u x, Chg Non wc u → 0 ≤ x → x < 4294967296 → Calls Tryd.prog 45 #[.int .u64 x, .int .i64 10] u fun e w' => e = .returned (.string (bs (decI x))) ∧ Chg Non u w') := fun u x hu h0 h1 => HF.out u x (hwc.out.two hu) h0 h1
      clear HF1 HF2 kA kB hwc HF hw1 hw2 hc0
      obtain ⟨w5, hw5⟩ : ∃ w5, w5 = wc := ⟨_, rfl⟩
      rw [← hw5] at HW HU HF3 ⊢
      clear hw5
      by_cases hc1 : c = 1
      · have hL0 : L = 0 := by omega
        subst hc1
        subst hL0
        have HE : Hid (S = .string F) := by
          have : r = [] := List.eq_nil_of_length_eq_zero HLL.out.symm
          show _ = _
          rw [HS.out, HFF.out, this]
          simp [oidT, restT]
        go_wp2
        go_loop [7, 36] (fun x i => x = .string F ∧ i = .int .i64 0) (fun _ _ => 0)
        case atStart => exact ⟨rfl, rfl⟩
        case round =>
          obtain ⟨rfl, rfl⟩ := hrel
          go_wp2
          go_ret2
          exact ⟨by rw [HE.out]; rfl, HW.out⟩
      · go_wp2
        go_loopw [7, 36] (fun x i wr => ∃ (k : Nat) (G : ByteArray), k ≤ L ∧ i = .int .i64 k ∧ x = .string G ∧ Hid (G = bs (firstT a ++ restT (r.take k))) ∧ Hid (Chg Non w5 wr)) (fun _ i _ => L - (intOf i).toNat)
        case atStart => exact ⟨0, F, Nat.zero_le _, rfl, rfl, (by simp [restT]; exact HFF.out : F = bs (firstT a ++ restT (r.take 0))), Chg.refl _ _⟩
        case round =>
          obtain ⟨k, G, hk, rfl, rfl, hG, hch⟩ := hrel
          rename_i wr _
          by_cases hlt : k < L
          · obtain ⟨x, hx⟩ : ∃ x, r[k]? = some x := ⟨r[k]'(by rw [← HLL.out]; exact hlt), List.getElem?_eq_getElem _⟩
            have hcx : wr.cell? ⟨b, o + 1 + k, none⟩ = some (.int .u64 x) := by
              have := (HU.out.chg hch.out) (k + 1) x (by simpa using hx)
              rwa [show o + (k + 1) = o + 1 + k by omega] at this
            obtain ⟨hx0, hx1⟩ := HLT.out x (List.mem_of_getElem? hx)
            have hfl := firstT_len ha1 ha0
            have hrl := restT_len (r := r.take k) (fun y hy => HLT.out y (List.mem_of_mem_take hy))
            have htl : (r.take k).length ≤ 15 := by rw [List.length_take]; have := HLL.out; omega
            have hdl := decI_len (x := x) (by omega)
            obtain ⟨D, hD⟩ : ∃ D, D = bs (decI x) := ⟨_, rfl⟩
            obtain ⟨D1, hD1⟩ : ∃ D1, D1 = bs ([46] ++ decI x) := ⟨_, rfl⟩
            obtain ⟨G1, hG1⟩ : ∃ G1, G1 = bs (firstT a ++ restT (r.take (k + 1))) := ⟨_, rfl⟩
            have kA : ∀ W, (Op.stringOp .add ⟨#[46]⟩ D).run Tryd.prog W = .ok (.string D1) W := fun W => by rw [hD, hD1]; exact add_tx [46] (decI x) (by simp) (by omega) W
            have kB : ∀ W, (Op.stringOp .add G D1).run Tryd.prog W = .ok (.string G1) W := fun W => by
              have h5 : firstT a ++ restT (r.take (k + 1)) = (firstT a ++ restT (r.take k)) ++ ([46] ++ decI x) := by
                rw [take_snocI hx, restT_snoc]
                simp
              rw [hG.out, hD1, hG1, h5]
              exact add_tx _ _ (by simp; omega) (by simp; omega) W
            have HC2 : Hid (Calls Tryd.prog 45 #[.int .u64 x, .int .i64 10] wr fun e w' => e = .returned (.string D) ∧ Chg Non wr w') := by rw [hD]; exact HF3.out wr x hch.out hx0 hx1
            have HG1 : Hid (G1 = bs (firstT a ++ restT (r.take (k + 1)))) := hG1
            clear hx hfl hrl htl hdl hD hD1 hG1
            go_wp2_with (go_at_call 45; refine HC2.out.mono ?_; rintro e w6 ⟨rfl, hw6⟩)
            go_roundw
            case rel => exact ⟨k + 1, G1, by omega, by go_num, rfl, HG1, hch.out.two hw6⟩
            case measure => simp [intOf]; omega
          · have HE : Hid (S = .string G) := by
              show _ = _
              have := hG.out
              rw [List.take_of_length_le (by have := HLL.out; omega)] at this
              rw [HS.out, this]
              rfl
            go_wp2
            go_ret2
            exact ⟨by rw [HE.out]; rfl, HW.out.two hch.out⟩
end Go.Proofs.YtnidfbcninkglaaDoor
