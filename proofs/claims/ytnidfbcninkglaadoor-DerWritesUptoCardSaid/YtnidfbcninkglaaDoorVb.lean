/-
  Bool and Bits: the program's and the document's.
-/
import Derived.Test.YtnidfbcninkglaaDoorVa
import Derived.Shelf.Small.Bits
import Derived.Deep.QuietTactic
import Derived.Deep.RegionWith
import Derived.Deep.RegionHeld3
import Derived.BigQuiet
namespace Go.Proofs.YtnidfbcninkglaaDoor
open Go.RowKit
set_option linter.unusedVariables false
set_option maxRecDepth 100000

def boolE (xs : List Int) : Int := if xs = [0] ∨ xs = [255] then 0 else 144
def boolR (xs : List Int) : Bool := decide (xs = [255])

set_option maxHeartbeats 800000 in
theorem bool_any (v : Value) (xs : List Int) (hb : Byt xs) (w : World) (hv : Rd w v xs) :
    Calls Tryd.prog 20 #[v] w fun e w' => e = .returned (.tuple #[.bool (boolR xs), .int .i64 (boolE xs)]) ∧ w' = w := by
  match xs, hb, hv with
  | [], hb, hv =>
    obtain ⟨ao, c, rfl, hc⟩ := hv.empty
    go_enter Tryd.func20, Tryd.ntmps20
    go_wp2
    go_ret2
    exact ⟨rfl, rfl⟩
  | [x], hb, hv =>
    obtain ⟨b, o, c, rfl, h1, h2, h3⟩ := hv.bs (by simp)
    have hx := h3.at0
    obtain ⟨h4, h5⟩ := hb.head
    simp only [List.length_singleton] at h1 ⊢
    clear hv h3 hb
    by_cases e0 : x = 0
    · subst e0
      go_enter Tryd.func20, Tryd.ntmps20
      go_wp2
      go_ret2
      exact ⟨rfl, rfl⟩
    · by_cases e1 : x = 255
      · subst e1
        go_enter Tryd.func20, Tryd.ntmps20
        go_wp2
        go_ret2
        exact ⟨rfl, rfl⟩
      · have E : boolE [x] = 144 ∧ boolR [x] = false := by simp [boolE, boolR, e0, e1]
        have e0' : (x != 0) = true := by simpa using e0
        have e1' : (x != 255) = true := by simpa using e1
        rw [E.1, E.2]
        clear E
        go_enter Tryd.func20, Tryd.ntmps20
        go_wp2
        go_ret2
        exact ⟨rfl, rfl⟩
  | x :: y :: r, hb, hv =>
    obtain ⟨b, o, c, rfl, h1, h2, h3⟩ := hv.bs (by simp)
    have E : boolE (x :: y :: r) = 144 ∧ boolR (x :: y :: r) = false := by simp [boolE, boolR]
    rw [E.1, E.2]
    obtain ⟨n, hn⟩ : ∃ n, n = (x :: y :: r).length := ⟨_, rfl⟩
    rw [← hn]
    have i1 : ((n : Int) != 1) = true := by rw [hn]; simp; omega
    clear hv h3 hn E hb h1
    go_enter Tryd.func20, Tryd.ntmps20
    go_wp2
    go_ret2
    exact ⟨rfl, rfl⟩

set_option maxHeartbeats 800000 in
theorem rbool_any (v : Value) (xs : List Int) (hb : Byt xs) (w : World) (hv : Rd w v xs) :
    Calls Tryd.prog 21 #[v] w fun e w' => e = .returned (.tuple #[.bool (boolR xs), .int .i64 (boolE xs)]) ∧ w' = w := by
  match xs, hb, hv with
  | [], hb, hv =>
    obtain ⟨ao, c, rfl, hc⟩ := hv.empty
    go_enter Tryd.func21, Tryd.ntmps21
    go_wp2
    go_ret2
    exact ⟨rfl, rfl⟩
  | [x], hb, hv =>
    obtain ⟨b, o, c, rfl, h1, h2, h3⟩ := hv.bs (by simp)
    have hx := h3.at0
    obtain ⟨h4, h5⟩ := hb.head
    simp only [List.length_singleton] at h1 ⊢
    clear hv h3 hb
    by_cases e0 : x = 0
    · subst e0
      go_enter Tryd.func21, Tryd.ntmps21
      go_wp2
      go_ret2
      exact ⟨rfl, rfl⟩
    · by_cases e1 : x = 255
      · subst e1
        go_enter Tryd.func21, Tryd.ntmps21
        go_wp2
        go_ret2
        exact ⟨rfl, rfl⟩
      · have E : boolE [x] = 144 ∧ boolR [x] = false := by simp [boolE, boolR, e0, e1]
        have e0' : (x != 0) = true := by simpa using e0
        have e1' : (x != 255) = true := by simpa using e1
        rw [E.1, E.2]
        clear E
        go_enter Tryd.func21, Tryd.ntmps21
        go_wp2
        go_ret2
        exact ⟨rfl, rfl⟩
  | x :: y :: r, hb, hv =>
    obtain ⟨b, o, c, rfl, h1, h2, h3⟩ := hv.bs (by simp)
    have E : boolE (x :: y :: r) = 144 ∧ boolR (x :: y :: r) = false := by simp [boolE, boolR]
    rw [E.1, E.2]
    obtain ⟨n, hn⟩ : ∃ n, n = (x :: y :: r).length := ⟨_, rfl⟩
    rw [← hn]
    have i1 : ((n : Int) != 1) = true := by rw [hn]; simp; omega
    clear hv h3 hn E hb h1
    go_enter Tryd.func21, Tryd.ntmps21
    go_wp2
    go_ret2
    exact ⟨rfl, rfl⟩

/-- How many of a byte's lowest bits are 0. -/
def tz (x : Nat) : Nat := if x = 0 then 8 else if x % 2 = 1 then 0 else if x % 4 = 2 then 1 else if x % 8 = 4 then 2 else if x % 16 = 8 then 3 else if x % 32 = 16 then 4 else if x % 64 = 32 then 5 else if x % 128 = 64 then 6 else 7
theorem tz_tab : ∀ x : Fin 256, (8 : Nat) ≥ tz x.1 ∧ ∀ u : Fin 8, (decide (u.1 ≤ tz x.1)) = (x.1 % 2 ^ u.1 == 0) := by decide +kernel

theorem ntz_tab : ∀ x : Fin Lib.ntz8tab.size, (Lib.ntz8tab[x.1]'x.2).toNat = tz x.1 ∧ tz x.1 ≤ 8 := by decide +kernel
theorem ntz_size : Lib.ntz8tab.size = 256 := by decide +kernel

set_option maxHeartbeats 800000 in
theorem tz8_any (x : Nat) (hx : x < 256) (w : World) :
    Calls Tryd.prog 65 #[.int .u8 x] w fun e w' => e = .returned (.int .i64 (tz x : Nat)) ∧ w' = w := by
  have ht := ntz_tab ⟨x, by rw [ntz_size]; exact hx⟩
  go_enter Tryd.func65, Tryd.ntmps65
  go_wp2
  go_ret
  refine ⟨ret_int ?_, rfl⟩
  unfold wrap64
  have := ht.2
  omega

theorem bp3 {fn : Func} {R : Ending → World → Prop} {a : Act} {w : World} {p q r : Nat} (h : fn.results = #[.tmp p, .tmp q, .tmp r]) (hd : a.defers = [])
    (hR : R (.returned (.tuple #[a.tmps.getD p undef, a.tmps.getD q undef, a.tmps.getD r undef])) w) : bodyPost Tryd.prog fn R .ret a w := by
  refine bodyPost_ret (v := .tuple #[a.tmps.getD p undef, a.tmps.getD q undef, a.tmps.getD r undef]) ?_ hd hR
  simp [results, h]

def endsL (u : Nat) (r : List Int) : Bool := match r.getLast? with | none => false | some l => decide (u ≤ tz l.toNat)
theorem endsL_snoc (u : Nat) (r : List Int) (l : Int) : endsL u (r ++ [l]) = decide (u ≤ tz l.toNat) := by simp [endsL]

theorem snoc_of {r : List Int} (h : r ≠ []) : ∃ s l, r = s ++ [l] := ⟨r.dropLast, r.getLast h, (List.dropLast_concat_getLast h).symm⟩

set_option maxHeartbeats 800000 in
theorem ends_any (u : Nat) (hu : u ≤ 7) (v : Value) (xs : List Int) (hb : Byt xs) (w : World) (hv : Rd w v xs) :
    Calls Tryd.prog 43 #[.int .i64 u, v] w fun e w' => e = .returned (.bool (endsL u xs)) ∧ w' = w := by
  by_cases hx : xs = []
  · subst hx
    obtain ⟨ao, c, rfl, hc⟩ := hv.empty
    go_enter Tryd.func43, Tryd.ntmps43
    go_wp2
    go_ret
    exact ⟨rfl, rfl⟩
  · obtain ⟨b, o, c, rfl, h1, h2, h3⟩ := hv.bs hx
    obtain ⟨s, l, rfl⟩ := snoc_of hx
    obtain ⟨h4, h5⟩ := hb l (by simp)
    obtain ⟨y, rfl⟩ := Int.eq_ofNat_of_zero_le h4
    have hl := h3 s.length y (by simp)
    rw [endsL_snoc]
    obtain ⟨k, hk⟩ : ∃ k, k = s.length := ⟨_, rfl⟩
    rw [← hk] at hl
    have e : (s ++ [(y : Int)]).length = k + 1 := by simp [hk]
    rw [e] at h1 ⊢
    clear hv h3 hb hx hk e
    go_enter Tryd.func43, Tryd.ntmps43
    go_wp2_with (go_at_call 65; refine (tz8_any _ (by omega) _).mono ?_; rintro e w' ⟨rfl, rfl⟩)
    go_ret
    exact ⟨ret_bool (by simp), rfl⟩

def bitsOk : List Int → Bool
  | [] => false
  | u :: r => decide (u ≤ 7) && (decide (u = 0) || endsL u.toNat r)
def bitsE (xs : List Int) : Int := if bitsOk xs = true then 0 else 144
def bitsU (xs : List Int) : Int := if bitsOk xs = true then xs.headD 0 else 0
def bitsR (xs : List Int) : List Int := if bitsOk xs = true then xs.tail else []
theorem bits_no {xs : List Int} (h : bitsOk xs = false) : bitsE xs = 144 ∧ bitsU xs = 0 ∧ bitsR xs = [] := by simp [bitsE, bitsU, bitsR, h]
theorem bits_yes {u : Int} {r : List Int} (h : bitsOk (u :: r) = true) : bitsE (u :: r) = 0 ∧ bitsU (u :: r) = u ∧ bitsR (u :: r) = r := by simp [bitsE, bitsU, bitsR, h]

theorem Chg.drewN {S : Nat → Prop} {a b : World} (h : Chg S a b) (n : Nat) : Chg S a (b.drewN n) := ⟨h.os, h.tape, h.output, h.size, h.block⟩

/-- A slice's rest behind its first byte. -/
theorem tail_rd {w : World} {b o n c : Nat} {u : Int} {r : List Int} (h : Bs w b o (u :: r)) (hn : n = r.length + 1) (hc : n ≤ c) (hm : c ≤ 9223372036854775807) : Rd w (.slice (if c = 1 then some ⟨b, o, none⟩ else some ⟨b, o + 1, none⟩) (n - 1) (c - 1)) r := by
  by_cases h1 : c = 1
  · have : r = [] := List.eq_nil_of_length_eq_zero (by omega)
    subst this
    rw [if_pos h1]
    refine Bs.rd (fun j u hj => by simp at hj) (by simp at hn ⊢; omega) (by omega) (by omega)
  · rw [if_neg h1]
    exact Bs.rd h.tail (by omega) (by omega) (by omega)

set_option maxHeartbeats 1600000 in
theorem bits_any (v : Value) (xs : List Int) (hb : Byt xs) (w : World) (hv : Rd w v xs) (hl : xs.length ≤ 140737488355328) :
    Calls Tryd.prog 22 #[v] w fun e w' => ∃ v', e = .returned (.tuple #[v', .int .i64 (bitsU xs), .int .i64 (bitsE xs)]) ∧ OwnN w w' v' (bitsR xs) := by
  match xs, hb, hv, hl with
  | [], hb, hv, hl =>
    obtain ⟨ao, c, rfl, hc⟩ := hv.empty
    go_enter Tryd.func22, Tryd.ntmps22
    go_wp2
    refine bp3 Tryd.results22 rfl ?_
    exact ⟨_, rfl, OwnN.nought w⟩
  | u :: r, hb, hv, hl =>
    obtain ⟨b, o, c, rfl, h1, h2, h3⟩ := hv.bs (by simp)
    have hx := h3.at0
    obtain ⟨h4, h5⟩ := hb.head
    obtain ⟨ao, hao⟩ : ∃ ao, ao = (if c = 1 then some (⟨b, o, none⟩ : Addr) else some ⟨b, o + 1, none⟩) := ⟨_, rfl⟩
    obtain ⟨n, hn⟩ : ∃ n, n = (u :: r).length := ⟨_, rfl⟩
    have hn2 : n = r.length + 1 := by simpa using hn
    have HT : Hid (Rd w (.slice ao (n - 1) (c - 1)) r) := by have := tail_rd h3 hn2 (by omega) h2; rw [← hao] at this; exact this
    have HA : Hid (ao = (if c = 1 then some (⟨b, o, none⟩ : Addr) else some ⟨b, o + 1, none⟩)) := hao
    have HB : Hid (Byt r) := hb.tail
    rw [← hn] at h1 hl ⊢
    have HN : Hid (r.length ≤ 140737488355328) := show r.length ≤ 140737488355328 by omega
    have i0 : ((n : Int) == 0) = false := by rw [hn]; simp; omega
    have i1 : 1 ≤ n := by rw [hn]; simp
    clear hv h3 hn hn2 hb hao
    by_cases e1 : u ≤ 7
    · have e1' : decide ((7 : Int) < u) = false := by simp; omega
      obtain ⟨k, rfl⟩ := Int.eq_ofNat_of_zero_le h4
      by_cases e2 : k = 0
      · subst e2
        obtain ⟨E1, E2, E3⟩ := bits_yes (u := ((0 : Nat) : Int)) (r := r) (by simp [bitsOk])
        rw [E1, E2, E3]
        clear E1 E2 E3
        go_enter Tryd.func22, Tryd.ntmps22
        go_upto_region 3 with fail
        go_quiet (fail)
        rw [← HA.out]
        go_wp2_with (go_at_call 42; refine (clone_any _ r _ (HT.out.chg ((Chg.refl _ _).drewN _)) HN.out).mono ?_; rintro e w' ⟨v', rfl, hn⟩)
        refine bp3 Tryd.results22 rfl ?_
        exact ⟨_, rfl, hn.from ((Chg.refl _ _).drewN _)⟩
      · have e2' : ((k : Int) != 0) = true := by simpa using e2
        have HE : Hid (bitsOk ((k : Int) :: r) = endsL k r) := show _ = _ by simp [bitsOk, e2]; intro h; omega
        obtain ⟨q, hq⟩ : ∃ q, endsL k r = q := ⟨_, rfl⟩
        have HQ : Hid (endsL k r = q) := hq
        clear hq
        cases q
        · obtain ⟨E1, E2, E3⟩ := bits_no (HE.out.trans HQ.out)
          rw [E1, E2, E3]
          clear E1 E2 E3
          go_enter Tryd.func22, Tryd.ntmps22
          go_upto_region 3 with fail
          go_quiet (fail)
          rw [← HA.out]
          go_wp2_with (go_at_call 43; refine (ends_any k (by omega) _ r HB.out _ (HT.out.chg ((Chg.refl _ _).drewN _))).mono ?_; rintro e w' ⟨rfl, rfl⟩; rw [HQ.out])
          refine bp3 Tryd.results22 rfl ?_
          exact ⟨_, rfl, (OwnN.nought _).from ((Chg.refl _ _).drewN _)⟩
        · obtain ⟨E1, E2, E3⟩ := bits_yes (HE.out.trans HQ.out)
          rw [E1, E2, E3]
          clear E1 E2 E3
          go_enter Tryd.func22, Tryd.ntmps22
          go_upto_region 3 with fail
          go_quiet (fail)
          rw [← HA.out]
          go_wp2_with (first | (go_at_call 43; refine (ends_any k (by omega) _ r HB.out _ (HT.out.chg ((Chg.refl _ _).drewN _))).mono ?_; rintro e w' ⟨rfl, rfl⟩; rw [HQ.out]) | (go_at_call 42; refine (clone_any _ r _ (HT.out.chg ((Chg.refl _ _).drewN _)) HN.out).mono ?_; rintro e w' ⟨v', rfl, hn⟩))
          refine bp3 Tryd.results22 rfl ?_
          exact ⟨_, rfl, hn.from ((Chg.refl _ _).drewN _)⟩
    · have e1' : decide ((7 : Int) < u) = true := by simp; omega
      have hno : bitsOk (u :: r) = false := by simp [bitsOk, e1]
      obtain ⟨E1, E2, E3⟩ := bits_no hno
      rw [E1, E2, E3]
      clear E1 E2 E3 hno
      go_enter Tryd.func22, Tryd.ntmps22
      go_wp2
      refine bp3 Tryd.results22 rfl ?_
      exact ⟨_, rfl, OwnN.nought w⟩
end Go.Proofs.YtnidfbcninkglaaDoor
