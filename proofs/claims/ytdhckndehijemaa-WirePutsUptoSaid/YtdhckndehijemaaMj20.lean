/-
  What get answers, plainly.
-/
import Derived.Test.YtdhckndehijemaaMj14
import Derived.Deep.QuietTactic
import Derived.Deep.RegionHeld3
import Derived.Test.YtdhckndehijemaaMt
import Derived.Test.YtdhckndehijemaaHn
import Derived.Test.YtdhckndehijemaaLs
namespace Go.Proofs.Ytdhckndehijemaa
open Go.RowKit
set_option linter.unusedVariables false
set_option maxRecDepth 100000

/-- The whole of bytes: the value, or zeros, and the alert. -/
def outc {α : Type} (p : Pr α) (z : α) (xs : List Int) : α × Int := match p xs with
  | none => (z, 50)
  | some (a, ys, o) => if ys ≠ [] then (z, 50) else if o then (z, 47) else (a, 0)

structure GP (t : Ty) (p : Pr t.Dat) (z : t.Dat) (w w' : World) (xs : List Int) (us : List Value) (al : Int) : Prop where
  chg : Chg Non w w'
  out : ∃ x, outc p z xs = (x, al) ∧ Rel t (Btw w.heap.size w'.heap.size) w' us x

theorem outc_more {α : Type} {p : Pr α} {z x : α} {xs ys : List Int} {s' : St} {al : Int} (h : Res p (some (xs, false)) x s') (k : AB s' ys al) (hy : ys ≠ []) : outc p z xs = (z, 50) := by
  unfold Res at h
  dsimp only at h
  unfold outc
  cases hp : p xs with
  | none => rfl
  | some q =>
    obtain ⟨a, ys', o⟩ := q
    rw [hp] at h
    dsimp only at h ⊢
    rcases k with ⟨e, -⟩ | ⟨o', e, -⟩
    · rw [h.2] at e; cases e
    · rw [h.2] at e
      injection e with e
      injection e with e _
      rw [if_pos (by rw [e]; exact hy)]
theorem outc_alert {α : Type} {p : Pr α} {z x : α} {xs : List Int} {s' : St} {al : Int} (h : Res p (some (xs, false)) x s') (k : AB s' [] al) (ha : al ≠ 0) : outc p z xs = (z, al) := by
  unfold Res at h
  dsimp only at h
  unfold outc
  cases hp : p xs with
  | none =>
    rw [hp] at h
    dsimp only at h ⊢
    rcases k with ⟨e, rfl⟩ | ⟨o', e, -⟩
    · rfl
    · rw [h] at e; cases e
  | some q =>
    obtain ⟨a, ys', o⟩ := q
    rw [hp] at h
    dsimp only at h ⊢
    rcases k with ⟨e, -⟩ | ⟨o', e, rfl⟩
    · rw [h.2] at e; cases e
    · rw [h.2] at e
      injection e with e
      injection e with e1 e2
      rw [if_neg (by simpa using e1)]
      cases o with
      | true =>
        have : o' = true := by rw [← e2]; rfl
        subst this
        rfl
      | false =>
        have : o' = false := by rw [← e2]; rfl
        subst this
        exact absurd rfl ha
theorem outc_ok {α : Type} {p : Pr α} {z x : α} {xs : List Int} {s' : St} (h : Res p (some (xs, false)) x s') (k : AB s' [] 0) : outc p z xs = (x, 0) := by
  unfold Res at h
  dsimp only at h
  unfold outc
  cases hp : p xs with
  | none =>
    rw [hp] at h
    dsimp only at h
    rcases k with ⟨-, e⟩ | ⟨o', e, -⟩
    · cases e
    · rw [h] at e; cases e
  | some q =>
    obtain ⟨a, ys', o⟩ := q
    rw [hp] at h
    dsimp only at h ⊢
    rcases k with ⟨e, -⟩ | ⟨o', e, e0⟩
    · rw [h.2] at e; cases e
    · rw [h.2] at e
      injection e with e
      injection e with e1 e2
      rw [if_neg (by simpa using e1)]
      cases o with
      | true =>
        have : o' = true := by rw [← e2]; rfl
        subst this
        cases e0
      | false => rw [if_neg (by decide), h.1]

theorem Chg.drewN {S : Nat → Prop} {a b : World} (h : Chg S a b) (n : Nat) : Chg S a (b.drewN n) := ⟨h.os, h.tape, h.output, h.size, h.block⟩

/-- A reader that begins. -/
theorem RS.begin {w : World} {v : Value} {xs : List Int} (h : Bt (Bel w.heap.size) w v xs) : RS (w.alloc (.cells #[v, .int .i64 0] 227)) w.heap.size (some (xs, false)) := by
  obtain ⟨h1, h2, h3⟩ := h
  exact ⟨v, 0, xs, ⟨heap_alloc_last w _, h1.chg ((Chg.refl _ _).alloc _), h2, h3⟩, .inr ⟨false, rfl, rfl⟩⟩
theorem GP.ok {t : Ty} {p : Pr t.Dat} {z x : t.Dat} {w w1 w2 w3 : World} {xs : List Int} {us : List Value} {s' : St} (h : RP t p w1 w2 w.heap.size (some (xs, false)) us x) (q : Res p (some (xs, false)) x s') (k : AB s' [] 0) (c1 : Chg Non w w1) (c2 : Chg Non w2 w3) : GP t p z w w3 xs us 0 :=
  ⟨(c1.trans h.ps.chg (fun i hi e => by have e' : i = w.heap.size := e; omega)).two c2, x, outc_ok q k, (h.rel.oldN c2).btw c1.size c2.size⟩
theorem GP.bad {t : Ty} {p : Pr t.Dat} {z x : t.Dat} {w w1 w2 w3 : World} {xs ys : List Int} {us us0 : List Value} {s' : St} {al al' : Int} (h : RP t p w1 w2 w.heap.size (some (xs, false)) us x) (q : Res p (some (xs, false)) x s') (k : AB s' ys al) (c1 : Chg Non w w1) (c2 : Chg (One w.heap.size) w2 w3)
    (ha : (ys ≠ [] ∧ al' = 50) ∨ (ys = [] ∧ al ≠ 0 ∧ al' = al)) (hz : Rel t (Btw w.heap.size w3.heap.size) w3 us0 z) : GP t p z w w3 xs us0 al' := by
  refine ⟨((c1.trans h.ps.chg (fun i hi e => by have e' : i = w.heap.size := e; omega)).trans c2 (fun i hi e => by have e' : i = w.heap.size := e; omega)), z, ?_, hz⟩
  rcases ha with ⟨h1, rfl⟩ | ⟨rfl, h2, rfl⟩
  · exact outc_more q k h1
  · exact outc_alert q k h2
theorem Rel.nil (t : Ty) (F : Nat → Prop) (w : World) : Rel (.lst t) F w [.slice none 0 0] [] := ⟨none, 0, 0, rfl, rfl, Nat.le_refl _, by decide, fun _ => rfl, fun b e => by cases e⟩
theorem Rel.nilB (F : Nat → Prop) (w : World) : Rel .byt F w [.slice none 0 0] [] := ⟨_, rfl, Rd.nil w, Byt.nil, fun k e => by cases e⟩
theorem Rel.empty (F : Nat → Prop) (w : World) : Rel .str F w [.string ⟨#[]⟩] [] := ⟨rfl, Byt.nil⟩
theorem Rel.zero (k : IntKind) (F : Nat → Prop) (w : World) : Rel (.num k) F w [.int k 0] (show (Ty.num k).Dat from (0 : Int)) := ⟨rfl, Int.le_refl _, by cases k <;> decide⟩
end Go.Proofs.Ytdhckndehijemaa
namespace Go.Proofs.Ytdhckndehijemaa
open Go.RowKit
set_option linter.unusedVariables false
set_option maxRecDepth 100000

theorem PS.then {α β : Type} {p : Pr α} {q : Pr β} {a b c : World} {r : Nat} {s s1 : St} {x : α} {y : β} (h : PS p a b r s x) (e : Res p s x s1) (k : PS q b c r s1 y) : PS (pBind p fun _ => q) a c r s y := by
  obtain ⟨s2, k1, k2⟩ := k.st
  exact ⟨h.chg.one k.chg, s2, k1, e.bind k2⟩
def pHost : Pr (List Int) := pBind (pOnly 0) fun _ => pBytes 2 1 16777216
theorem pHost_shr : Shr pHost := pBind_shr (pOnly_shr 0) fun _ => (pBytes_shr (by decide)).shq


set_option maxHeartbeats 1600000 in
theorem protocol_any (r : Nat) (s : St) (w : World) (h : RS w r s) : Calls Try.prog 212 #[.pointer (some ⟨r, 0, none⟩)] w fun e w' => ∃ S x, e = .returned (.string S) ∧ RP .str (pBytes 1 1 16777216) w w' r s [.string S] x := by
  go_enter Try.func212, Try.ntmps212
  go_wp2_with (go_at_call 185; refine (filled_any 1 w).mono ?_)
  rintro e w2 ⟨rfl, hc⟩
  have h2 := listB_any r 1 1 16777216 1 1 16777216 rfl rfl rfl (by decide) (by decide) s w2 (h.non hc)
  have C2 : Hid (Chg Non w w2) := hc
  clear hc h
  go_wp2_with (go_at_call 200; refine h2.mono ?_)
  rintro e w3 ⟨v, x, rfl, hx⟩
  obtain ⟨ao, L, c, rfl⟩ := hx.slice
  have hy := (RP.byt hx).ahead C2.out
  obtain ⟨v', e1, e2, e3, -⟩ := hy.rel
  injection e1 with e1
  subst e1
  have hs := run_str w3 _ x e2
  have H2 : Hid (RP .str (pBytes 1 1 16777216) w w3 r s [.string (strOfNums x)] x) := ⟨⟨rfl, e3⟩, hy.ps⟩
  obtain ⟨S, hS⟩ : ∃ S, S = strOfNums x := ⟨_, rfl⟩
  rw [← hS] at hs H2
  clear hx h2 hy e2 e3 hS
  go_wp2
  go_ret
  exact ⟨S, x, rfl, H2.out⟩

set_option maxHeartbeats 1600000 in
theorem host_any (r : Nat) (s : St) (w : World) (h : RS w r s) : Calls Try.prog 211 #[.pointer (some ⟨r, 0, none⟩)] w fun e w' => ∃ S x, e = .returned (.string S) ∧ RP .str (pHost) w w' r s [.string S] x := by
  have hO := only_any r 0 s w h
  go_enter Try.func211, Try.ntmps211
  go_wp2_with (go_at_call 219; refine hO.mono ?_)
  rintro e w1 ⟨rfl, hp⟩
  obtain ⟨s1, q1, q2⟩ := hp.st
  have HO : Hid (PS (pOnly 0) w w1 r s () ∧ Res (pOnly 0) s () s1) := ⟨hp, q2⟩
  have h1 := q1
  clear hp q1 q2 hO h
  go_wp2_with (go_at_call 185; refine (filled_any 2 w1).mono ?_)
  rintro e w2 ⟨rfl, hc⟩
  have h2 := listB_any r 2 1 16777216 2 1 16777216 rfl rfl rfl (by decide) (by decide) s1 w2 (h1.non hc)
  have C2 : Hid (Chg Non w1 w2) := hc
  clear hc h1
  go_wp2_with (go_at_call 200; refine h2.mono ?_)
  rintro e w3 ⟨v, x, rfl, hx⟩
  obtain ⟨ao, L, c, rfl⟩ := hx.slice
  have hy := (RP.byt hx).ahead C2.out
  obtain ⟨v', e1, e2, e3, -⟩ := hy.rel
  injection e1 with e1
  subst e1
  have hs := run_str w3 _ x e2
  have H2 : Hid (RP .str (pBytes 2 1 16777216) w1 w3 r s1 [.string (strOfNums x)] x) := ⟨⟨rfl, e3⟩, hy.ps⟩
  obtain ⟨S, hS⟩ : ∃ S, S = strOfNums x := ⟨_, rfl⟩
  rw [← hS] at hs H2
  clear hx h2 hy e2 e3 hS
  go_wp2
  go_ret
  exact ⟨S, x, rfl, ⟨H2.out.rel.btw HO.out.1.chg.size (Nat.le_refl _), HO.out.1.then HO.out.2 H2.out.ps⟩⟩
end Go.Proofs.Ytdhckndehijemaa
namespace Go.Proofs.Ytdhckndehijemaa
open Go.RowKit
set_option linter.unusedVariables false
set_option maxRecDepth 100000

/-- Data that fit their kind. -/
def Dk : (t : Ty) → t.Dat → Prop
  | .num k, x => InK k x
  | .str, x => Byt x
  | .byt, x => Byt x
  | .arr n, x => List.length (α := Int) x = n ∧ Byt x
  | .lst e, l => ∀ a : e.Dat, List.Mem a l → Dk e a
  | .pair a b, x => Dk a x.1 ∧ Dk b x.2
  | .unit, _ => True

theorem Rel.dk : ∀ {t : Ty} {F : Nat → Prop} {w : World} {us : List Value} {x : t.Dat}, Rel t F w us x → Dk t x
  | .num k, _, _, _, _, h => h.2
  | .str, _, _, _, _, h => h.2
  | .byt, _, _, _, _, h => by obtain ⟨v, -, -, h, -⟩ := h; exact h
  | .arr n, _, _, us, x, h => by
    obtain ⟨-, h1, h2⟩ : IsA n us x := h
    exact ⟨h1, h2⟩
  | .lst e, _, _, _, l, h => by
    obtain ⟨ao, n, c, -, h1, h2, h3, h4, h5⟩ := h
    intro a ha
    have ha' : a ∈ (show List e.Dat from l) := ha
    obtain ⟨j, hj, e1⟩ := List.getElem_of_mem ha'
    have e0 : (show List e.Dat from l)[j]? = some a := by rw [List.getElem?_eq_getElem hj, e1]
    cases ao with
    | none => have h6 := h4 rfl; have h7 : n = List.length (α := e.Dat) l := h1; have h8 : j < List.length (α := e.Dat) l := hj; omega
    | some b =>
      obtain ⟨-, us', q, -⟩ := h5 b rfl j a e0
      exact q.dk
  | .pair a b, _, _, _, _, h => by
    obtain ⟨us1, us2, -, h1, h2⟩ := h
    exact ⟨h1.dk, h2.dk⟩
  | .unit, _, _, _, _, _ => trivial

/-- What this printer wrote that parser reads again, whatever stands behind. -/
def TB (t : Ty) (p : Pw t.Dat) (q : Pr t.Dat) : Prop := ∀ (x : t.Dat) (xs : List Int), Dk t x → p x = some xs → ∀ rest, q (xs ++ rest) = some (x, rest, false)

theorem dig_cons_aux : ∀ (xs : List Int) (v : Int), xs.foldl (fun v c => v * 256 + c) v = v * 256 ^ xs.length + xs.foldl (fun v c => v * 256 + c) 0
  | [], v => by simp
  | x :: xs, v => by
    rw [List.foldl_cons, List.foldl_cons, dig_cons_aux xs (v * 256 + x), dig_cons_aux xs (0 * 256 + x), List.length_cons, Int.pow_succ]
    simp only [Int.add_mul, Int.zero_mul, Int.zero_add]
    rw [Int.mul_assoc, Int.mul_comm 256 (256 ^ xs.length)]
    omega
theorem dig_cons (x : Int) (xs : List Int) : dig (x :: xs) = x * 256 ^ xs.length + dig xs := by
  show (x :: xs).foldl _ 0 = _
  rw [List.foldl_cons, dig_cons_aux]
  simp [dig]
theorem dig_putD (n : Nat) (v : Int) : dig (putD n v) = v % 256 ^ n := by
  induction n with
  | zero => simp [putD, dig, Int.emod_one]
  | succ n ih =>
    rw [putD, dig_cons, putD_len, ih, Int.pow_succ, Int.mul_comm (v / 256 ^ n % 256)]
    have hp : (0 : Int) < 256 ^ n := Int.pow_pos (by decide)
    have h1 := Int.emod_emod_of_dvd v (m := (256 : Int) ^ n) (k := 256 ^ n * 256) ⟨256, rfl⟩
    have h2 := Int.mul_ediv_add_emod (v % (256 ^ n * 256)) (256 ^ n)
    have h3 : v % (256 ^ n * 256) / 256 ^ n = v / 256 ^ n % 256 := by
      have e := Int.mul_ediv_add_emod v (256 ^ n * 256)
      have e2 : v / 256 ^ n = 256 * (v / (256 ^ n * 256)) + v % (256 ^ n * 256) / 256 ^ n := by
        have : v = v % (256 ^ n * 256) + 256 ^ n * (256 * (v / (256 ^ n * 256))) := by rw [← Int.mul_assoc]; omega
        conv => lhs; rw [this]
        rw [Int.add_mul_ediv_left _ _ (Int.ne_of_gt hp)]
        omega
      have b0 : 0 ≤ v % (256 ^ n * 256) / 256 ^ n := Int.ediv_nonneg (Int.emod_nonneg _ (by omega)) (by omega)
      have b1 : v % (256 ^ n * 256) / 256 ^ n < 256 := Int.ediv_lt_of_lt_mul hp (by have := Int.emod_lt_of_pos v (show (0 : Int) < 256 ^ n * 256 by omega); rw [Int.mul_comm 256]; exact this)
      omega
    rw [h1, h3] at h2
    exact h2

theorem tb_num {k : IntKind} {n : Nat} (h : kmax k = 256 ^ n) : TB (.num k) (wNum n) (pDig n) := by
  intro x0 xs hx e rest
  obtain ⟨x, hxx⟩ : ∃ x : Int, x = x0 := ⟨_, rfl⟩
  subst hxx
  have hx' : InK k x := hx
  have e' : some (putD n x) = some xs := e
  injection e' with e'
  subst e'
  have hl := putD_len n x
  have h1 := hx'.1
  have h2 := hx'.2
  rw [h] at h2
  show pDig n (putD n x ++ rest) = some (x, rest, false)
  unfold pDig
  rw [if_neg (by rw [List.length_append, hl]; omega), List.take_left' hl, List.drop_left' hl]
  have e3 : dig (putD n x) = x := by rw [dig_putD, Int.emod_eq_of_lt h1 h2]
  rw [e3]
theorem tb8 : TB (.num .u8) (wNum 1) (pDig 1) := tb_num (by decide)
theorem tb16 : TB (.num .u16) (wNum 2) (pDig 2) := tb_num (by decide)
theorem tb32 : TB (.num .u32) (wNum 4) (pDig 4) := tb_num (by decide)

theorem tb_many {t : Ty} {p : Pw t.Dat} {q : Pr t.Dat} (h : TB t p q) (hq : Shr q) : ∀ (l : List t.Dat) (body : List Int), (∀ a ∈ l, Dk t a) → conc p l = some body → many q body = some (l, false)
  | [], body, _, e => by
    injection e with e
    rw [← e, many_nil]
  | a :: l, body, hd, e => by
    unfold conc at e
    cases hp : p a with
    | none => rw [hp] at e; cases e
    | some xs =>
      rw [hp] at e
      dsimp only at e
      cases hc : conc p l with
      | none => rw [hc] at e; cases e
      | some ys =>
        rw [hc] at e
        injection e with e
        subst e
        have h1 := h a xs (hd a (by simp)) hp ys
        have h2 := hq _ _ _ _ h1
        rw [many_some hq (by intro e; rw [e] at h2; simp at h2) h1, tb_many h hq l ys (fun b hb => hd b (by simp [hb])) hc]
        rfl

theorem tb_list {t : Ty} {p : Pw t.Dat} {q : Pr t.Dat} (h : TB t p q) (hq : Shr q) (size least most : Nat) : TB (.lst t) (wList size least most p) (pList size least most q) := by
  intro x xs hx e rest
  obtain ⟨l, hl⟩ : ∃ l : List t.Dat, l = x := ⟨_, rfl⟩
  subst hl
  have e' : wList size least most p l = some xs := e
  unfold wList at e'
  split at e'
  · rename_i hb
    split at e'
    · cases e'
    · rename_i body hc
      split at e'
      · rename_i hlt
        injection e' with e'
        subst e'
        have hm := tb_many h hq l body (fun a ha => hx a ha) hc
        have hn : dig (putD size (body.length : Int)) = (body.length : Int) := by
          rw [dig_putD, Int.emod_eq_of_lt (by omega)]
          exact_mod_cast hlt
        have hp := putD_len size (body.length : Int)
        unfold pList
        rw [List.append_assoc, if_neg (by rw [List.length_append, hp]; omega), List.take_left' hp, List.drop_left' hp, hn, Int.toNat_natCast, if_neg (by rw [List.length_append]; omega), List.take_left' rfl, List.drop_left' rfl, hm]
        dsimp only
        rw [if_pos hb]
        rfl
      · cases e'
  · cases e'

theorem tb_bytes (size least most : Nat) : TB .byt (wBytes size least most) (pBytes size least most) := fun x xs hx e rest =>
  tb_list tb8 (pDig_shr (by decide)) size least most x xs (fun a ha => hx a ha) e rest
theorem tb_bytesS (size least most : Nat) : TB .str (wBytes size least most) (pBytes size least most) := fun x xs hx e rest =>
  tb_list tb8 (pDig_shr (by decide)) size least most x xs (fun a ha => hx a ha) e rest

theorem pBind_of {α β : Type} {p : Pr α} {q : α → Pr β} {xs ys zs : List Int} {a : α} {b : β} (h : p xs = some (a, ys, false)) (k : q a ys = some (b, zs, false)) : pBind p q xs = some (b, zs, false) := by
  unfold pBind
  rw [h]
  dsimp only
  rw [k]
  rfl

theorem tb_pair {a b : Ty} {p : Pw a.Dat} {p' : Pw b.Dat} {q : Pr a.Dat} {q' : Pr b.Dat} (h : TB a p q) (k : TB b p' q') : TB (.pair a b) (wSeq (fun x : a.Dat × b.Dat => x.1) (fun x : a.Dat × b.Dat => x.2) p p') (pPair q q') := by
  intro x xs hx e rest
  obtain ⟨x1, x2⟩ := x
  obtain ⟨d1, d2⟩ : Dk a x1 ∧ Dk b x2 := hx
  have e' : wSeq (fun x : a.Dat × b.Dat => x.1) (fun x : a.Dat × b.Dat => x.2) p p' (x1, x2) = some xs := e
  unfold wSeq at e'
  dsimp only at e'
  cases h1 : p x1 with
  | none => rw [h1] at e'; cases e'
  | some ys =>
    rw [h1] at e'
    dsimp only at e'
    cases h2 : p' x2 with
    | none => rw [h2] at e'; cases e'
    | some zs =>
      rw [h2] at e'
      injection e' with e'
      subst e'
      rw [List.append_assoc]
      unfold pPair
      exact pBind_of (h x1 ys d1 h1 (zs ++ rest)) (pBind_of (k x2 zs d2 h2 rest) rfl)

/-- Written only where this is so. -/
def wIf {α : Type} (c : α → Bool) (p : Pw α) : Pw α := fun x => if c x then p x else none
theorem tb_if {t : Ty} {p : Pw t.Dat} {q : Pr t.Dat} (c : t.Dat → Bool) (h : TB t p q) : TB t (wIf (fun x => !c x) p) (pOddIf q c) := by
  intro x xs hx e rest
  have e' : (if (!c x) = true then p x else none) = some xs := e
  cases hc : c x with
  | true => rw [hc] at e'; cases e'
  | false =>
    rw [hc] at e'
    have e : p x = some xs := e'
    unfold pOddIf
    refine pBind_of (h x xs hx e rest) ?_
    rw [hc]
    rfl

/-- What get answers of what put gave. -/
theorem outc_back {t : Ty} {p : Pw t.Dat} {q : Pr t.Dat} {z x : t.Dat} {xs : List Int} (h : TB t p q) (hx : Dk t x) (e : p x = some xs) : outc q z xs = (x, 0) := by
  have := h x xs hx e []
  rw [List.append_nil] at this
  unfold outc
  rw [this]
  simp

def wExt : Pw Ext := wSeq (fun x : Ext => x.1) (fun x : Ext => x.2) (wNum 2) (wBytes 2 0 16777216)
def wExts : Pw (List Ext) := wIf (fun l => !dup (tys l)) (wList 2 0 16777216 wExt)
def wEntry : Pw (List Int × List Ext) := wSeq (fun x : List Int × List Ext => x.1) (fun x : List Int × List Ext => x.2) (wBytes 3 1 16777216) wExts
def wCert : Pw (List Int × List (List Int × List Ext)) := wSeq (fun x : List Int × List (List Int × List Ext) => x.1) (fun x : List Int × List (List Int × List Ext) => x.2) (wBytes 1 0 16777216) (wList 3 0 16777216 wEntry)
def wReq : Pw (List Int × List Ext) := wSeq (fun x : List Int × List Ext => x.1) (fun x : List Int × List Ext => x.2) (wBytes 1 0 16777216) wExts
def wVer : Pw Ext := wSeq (fun x : Ext => x.1) (fun x : Ext => x.2) (wNum 2) (wBytes 2 0 16777216)
def wT3 : Pw (List Int × List Ext) := wSeq (fun x : List Int × List Ext => x.1) (fun x : List Int × List Ext => x.2) (wBytes 2 1 16777216) wExts
def wT2 : Pw (List Int × List Int × List Ext) := wSeq (fun x : List Int × List Int × List Ext => x.1) (fun x : List Int × List Int × List Ext => x.2) (wBytes 1 0 16777216) wT3
def wT1 : Pw (Int × List Int × List Int × List Ext) := wSeq (fun x : Int × List Int × List Int × List Ext => x.1) (fun x : Int × List Int × List Int × List Ext => x.2) (wNum 4) wT2
def wTick : Pw (Int × Int × List Int × List Int × List Ext) := wSeq (fun x : Int × Int × List Int × List Int × List Ext => x.1) (fun x : Int × Int × List Int × List Int × List Ext => x.2) (wNum 4) wT1
def wShare : Pw Ext := wSeq (fun x : Ext => x.1) (fun x : Ext => x.2) (wNum 2) (wBytes 2 1 16777216)
def wShares : Pw (List Ext) := wList 2 0 16777216 wShare
def wTexts : Pw (List (List Int)) := wList 2 1 16777216 wProt

theorem tb_ext : TB tExt wExt pExt := tb_pair tb16 (tb_bytes _ _ _)
theorem tb_exts : TB (.lst tExt) wExts pExts := tb_if (t := .lst tExt) (fun l => dup (tys l)) (tb_list tb_ext pExt_shr _ _ _)
theorem tb_entry : TB tEntry wEntry pEntry := tb_pair (tb_bytes _ _ _) tb_exts
theorem tb_cert : TB tCert wCert pCert := tb_pair (tb_bytes _ _ _) (tb_list tb_entry pEntry_shr _ _ _)
theorem tb_req : TB tReq wReq pReq := tb_pair (tb_bytes _ _ _) tb_exts
theorem tb_ver : TB tExt wVer pVer := tb_pair tb16 (tb_bytes _ _ _)
theorem tb_tick : TB tTick wTick pTick := tb_pair tb32 (tb_pair tb32 (tb_pair (tb_bytes _ _ _) (tb_pair (tb_bytes _ _ _) tb_exts)))
theorem tb_share : TB tExt wShare pShare := tb_pair tb16 (tb_bytes _ _ _)
theorem tb_shares : TB (.lst tExt) wShares (pList 2 0 16777216 pShare) := tb_list tb_share pShare_shr _ _ _
theorem tb_texts : TB (.lst .str) wTexts (pList 2 1 16777216 (pBytes 1 1 16777216)) := tb_list (tb_bytesS 1 1 16777216) (pBytes_shr (by decide)) _ _ _

theorem tb_host : TB .str wHost pHost := by
  intro x xs hx e rest
  have e' : wHost x = some xs := e
  unfold wHost wSeq wNum at e'
  dsimp only at e'
  cases h2 : wBytes 2 1 16777216 x with
  | none => rw [h2] at e'; cases e'
  | some zs =>
    rw [h2] at e'
    injection e' with e'
    subst e'
    unfold pHost
    rw [List.append_assoc]
    refine pBind_of (a := ()) (ys := zs ++ rest) ?_ (tb_bytesS 2 1 16777216 x zs hx h2 rest)
    have := tb8 (0 : Int) (putD 1 0) inK8 rfl (zs ++ rest)
    unfold pOnly
    first
      | (rw [show pDig 1 (putD 1 0 ++ (zs ++ rest)) = _ from this]; rfl)
      | (unfold pBind; rw [show pDig 1 (putD 1 0 ++ (zs ++ rest)) = _ from this]; rfl)
/-- A name: a list of just one host. -/
def pName : Pr (List Int) := pBind (pList 2 1 1 pHost) fun l => pRet (l.headD [])
theorem tb_name : TB .str wName pName := by
  intro x xs hx e rest
  have h := tb_list tb_host pHost_shr 2 1 1 [x] xs (fun a ha => by
    have ha' : a ∈ ([x] : List (List Int)) := ha
    have := List.mem_singleton.1 ha'
    rw [this]; exact hx) e rest
  unfold pName
  exact pBind_of h rfl
end Go.Proofs.Ytdhckndehijemaa
