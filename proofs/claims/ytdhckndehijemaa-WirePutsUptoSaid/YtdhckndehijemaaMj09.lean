/-
  What is written, plainly.
-/
import Derived.Test.YtdhckndehijemaaMj05
import Derived.Test.YtdhckndehijemaaMj08
namespace Go.Proofs.Ytdhckndehijemaa
open Go.RowKit
set_option linter.unusedVariables false
set_option maxRecDepth 100000

/-- What bytes a value has, if it has any. -/
abbrev Pw (α : Type) := α → Option (List Int)
def wNum (n : Nat) : Pw Int := fun x => some (putD n x)
/-- One behind the other. -/
def conc {α : Type} (p : Pw α) : List α → Option (List Int)
  | [] => some []
  | a :: l => match p a with
    | none => none
    | some xs => (conc p l).map (xs ++ ·)
def wList {α : Type} (size least most : Nat) (p : Pw α) : Pw (List α) := fun l =>
  if least ≤ l.length ∧ l.length ≤ most then
    match conc p l with
    | none => none
    | some body => if body.length < 256 ^ size then some (putD size (body.length : Int) ++ body) else none
  else none
def wSeq {α β γ : Type} (f : γ → α) (g : γ → β) (p : Pw α) (q : Pw β) : Pw γ := fun c => match p (f c) with
  | none => none
  | some xs => (q (g c)).map (xs ++ ·)

theorem conc_snoc {α : Type} (p : Pw α) (l : List α) (a : α) : conc p (l ++ [a]) = match conc p l with
    | none => none
    | some xs => (p a).map (xs ++ ·) := by
  induction l with
  | nil =>
    simp only [conc, List.nil_append]
    cases p a <;> simp
  | cons b l ih =>
    simp only [conc, List.cons_append, ih]
    cases p b with
    | none => rfl
    | some xs =>
      cases conc p l with
      | none => rfl
      | some ys =>
        cases p a with
        | none => rfl
        | some zs => simp
theorem conc_append {α : Type} (p : Pw α) (l m : List α) : conc p (l ++ m) = match conc p l with
    | none => none
    | some xs => (conc p m).map (xs ++ ·) := by
  induction l with
  | nil => simp [conc]
  | cons b l ih =>
    simp only [conc, List.cons_append, ih]
    cases p b with
    | none => rfl
    | some xs =>
      cases conc p l with
      | none => rfl
      | some ys =>
        cases conc p m with
        | none => rfl
        | some zs => simp

/-- Where arguments lie beside a writer. -/
def Fa (r : Nat) (v : Value) (w : World) : Nat → Prop := fun k => k ≠ r ∧ ¬ v.ownBlock = some k ∧ k < w.heap.size
theorem Rel.fa {t : Ty} {r : Nat} {v v' : Value} {w w' : World} {no : Bool} {xs : List Int} {us : List Value} {a : t.Dat} (h : Rel t (Fa r v w) w us a) (k : WP r v w w' v' no xs) : Rel t (Fa r v' w') w' us a := by
  refine h.keep (fun i q => ⟨q.1, fun e => ?_, Nat.lt_of_lt_of_le q.2.2 k.chg.size⟩) (fun i q hi => k.chg.block i hi (fun s => ?_))
  · rcases k.gr with g | ⟨g, g1, g2⟩
    · rw [g] at e; exact q.2.1 e
    · rw [g1] at e; injection e with e; have := q.2.2; omega
  · rcases s with s | s
    · exact q.1 s
    · exact q.2.1 s
theorem Rel.faN {t : Ty} {r : Nat} {v : Value} {w w' : World} {us : List Value} {a : t.Dat} (h : Rel t (Fa r v w) w us a) (k : Chg Non w w') : Rel t (Fa r v w') w' us a :=
  h.keep (fun i q => ⟨q.1, q.2.1, Nat.lt_of_lt_of_le q.2.2 k.size⟩) (fun i q hi => k.block i hi (fun s => s))

/-- What a method of a writer leaves: its bytes behind the others, or that something is wrong. -/
structure WQ {α : Type} (p : Pw α) (G : Nat) (r : Nat) (v : Value) (w w' : World) (v' : Value) (no no' : Bool) (xs ys : List Int) (a : α) : Prop where
  wp : WP r v w w' v' no' (xs ++ ys)
  bad : no = true → no' = true
  out : no = false → (p a = none ∧ no' = true) ∨ (no' = false ∧ p a = some ys)
  len : ys.length ≤ G

theorem WQ.seq {α β γ : Type} {f : γ → α} {g : γ → β} {p : Pw α} {q : Pw β} {G H : Nat} {r : Nat} {v v1 v2 : Value} {a b c : World} {n0 n1 n2 : Bool} {xs ys zs : List Int} {x : γ} (h : WQ p G r v a b v1 n0 n1 xs ys (f x)) (k : WQ q H r v1 b c v2 n1 n2 (xs ++ ys) zs (g x)) :
    WQ (wSeq f g p q) (G + H) r v a c v2 n0 n2 xs (ys ++ zs) x := by
  refine ⟨by rw [← List.append_assoc]; exact h.wp.trans k.wp, fun e => k.bad (h.bad e), fun e => ?_, by rw [List.length_append]; have := h.len; have := k.len; omega⟩
  unfold wSeq
  rcases h.out e with ⟨h1, h2⟩ | ⟨h1, h2⟩
  · rw [h1]
    exact .inl ⟨rfl, k.bad h2⟩
  · rw [h2]
    rcases k.out h1 with ⟨k1, k2⟩ | ⟨k1, k2⟩
    · rw [k1]; exact .inl ⟨rfl, k2⟩
    · rw [k2]; exact .inr ⟨k1, rfl⟩
theorem WQ.ahead {α : Type} {p : Pw α} {G : Nat} {r : Nat} {v v' : Value} {a b c : World} {no no' : Bool} {xs ys : List Int} {x : α} (h : WQ p G r v b c v' no no' xs ys x) (k : Chg Non a b) : WQ p G r v a c v' no no' xs ys x := ⟨h.wp.ahead k, h.bad, h.out, h.len⟩
theorem WQ.after {α : Type} {p : Pw α} {G : Nat} {r : Nat} {v v' : Value} {a b c : World} {no no' : Bool} {xs ys : List Int} {x : α} (h : WQ p G r v a b v' no no' xs ys x) (k : Chg Non b c) : WQ p G r v a c v' no no' xs ys x := ⟨h.wp.after k, h.bad, h.out, h.len⟩
theorem WQ.weak {α : Type} {p : Pw α} {G H : Nat} {r : Nat} {v v' : Value} {a b : World} {no no' : Bool} {xs ys : List Int} {x : α} (h : WQ p G r v a b v' no no' xs ys x) (k : G ≤ H) : WQ p H r v a b v' no no' xs ys x := ⟨h.wp, h.bad, h.out, Nat.le_trans h.len k⟩

/-- What the loop over a list's parts keeps: how many, its bytes so far. -/
structure LW {α : Type} (p : Pw α) (G size least most : Nat) (no : Bool) (l : List α) (k : Nat) (nk : Bool) (body : List Int) : Prop where
  ok : nk = false → no = false ∧ (least ≤ l.length ∧ l.length ≤ most) ∧ conc p (l.take k) = some body ∧ body.length < 256 ^ size
  no : nk = true → no = true ∨ wList size least most p l = none
  len : body.length ≤ 256 ^ size + G

theorem LW.start {α : Type} {p : Pw α} {G size least most : Nat} {no : Bool} {l : List α} (d : Bool) (hd : d = decide ((least ≤ l.length) ∧ (l.length ≤ most))) : LW p G size least most no l 0 (no || !d) [] := by
  refine ⟨fun e => ?_, fun e => ?_, by simp⟩
  · have h1 : no = false := by cases no <;> simp_all
    have h2 : d = true := by cases d <;> simp_all
    refine ⟨h1, by rw [hd] at h2; simpa using h2, by simp [conc], Nat.pow_pos (by decide)⟩
  · by_cases h1 : no = true
    · exact .inl h1
    · right
      have h2 : d = false := by cases d <;> simp_all
      rw [hd] at h2
      unfold wList
      rw [if_neg (by simpa using h2)]

theorem LW.step {α : Type} {p : Pw α} {G size least most : Nat} {no : Bool} {l : List α} {k : Nat} {body ys : List Int} {a : α} {n1 : Bool} (h : LW p G size least most no l k false body) (ha : l[k]? = some a)
    (hq : (p a = none ∧ n1 = true) ∨ (n1 = false ∧ p a = some ys)) (hl : ys.length ≤ G) : LW p G size least most no l (k + 1) (n1 || !decide ((body ++ ys).length ≤ 256 ^ size - 1)) (body ++ ys) := by
  obtain ⟨h1, h2, h3, h4⟩ := h.ok rfl
  have hpos : 0 < 256 ^ size := Nat.pow_pos (by decide)
  have htk : l = l.take k ++ a :: l.drop (k + 1) := by
    have hlt := (List.getElem?_eq_some_iff.1 ha).1
    have e1 : l.drop k = a :: l.drop (k + 1) := by
      rw [List.drop_eq_getElem_cons hlt]
      congr 1
      have := (List.getElem?_eq_some_iff.1 ha).2
      exact this
    rw [← e1, List.take_append_drop]
  refine ⟨fun e => ?_, fun e => .inr ?_, by rw [List.length_append]; omega⟩
  · obtain ⟨e1, e⟩ := Bool.or_eq_false_iff.1 e
    subst e1
    rcases hq with ⟨-, q⟩ | ⟨-, q⟩
    · cases q
    · refine ⟨h1, h2, ?_, ?_⟩
      · rw [take_snocG ha, conc_snoc, h3]
        simp [q]
      · simp at e
        rw [List.length_append]
        omega
  · unfold wList
    rw [if_pos h2]
    rcases hq with ⟨q, -⟩ | ⟨q1, q⟩
    · have : conc p l = none := by
        rw [htk, conc_append, h3]
        simp [conc, q]
      rw [this]
    · subst q1
      have e2 : ¬ (body ++ ys).length ≤ 256 ^ size - 1 := by simpa using e
      rw [htk, conc_append, h3]
      simp only [conc, q]
      cases hc : conc p (l.drop (k + 1)) with
      | none => simp
      | some zs =>
        simp only [Option.map_some]
        rw [if_neg]
        rw [← List.append_assoc, List.length_append]
        omega
where
  take_snocG {α : Type} {xs : List α} {k : Nat} {x : α} (h : xs[k]? = some x) : xs.take (k + 1) = xs.take k ++ [x] := by
    rw [List.take_add_one, h]
    rfl

theorem LW.fin {α : Type} {p : Pw α} {G size least most : Nat} {no nk : Bool} {l : List α} {body : List Int} (h : LW p G size least most no l l.length nk body) (hn : no = false) :
    (wList size least most p l = none ∧ nk = true) ∨ (nk = false ∧ wList size least most p l = some (putD size (body.length : Int) ++ body)) := by
  cases nk with
  | true =>
    rcases h.no rfl with e | e
    · rw [hn] at e; cases e
    · exact .inl ⟨e, rfl⟩
  | false =>
    obtain ⟨h1, h2, h3, h4⟩ := h.ok rfl
    refine .inr ⟨rfl, ?_⟩
    rw [List.take_of_length_le (Nat.le_refl _)] at h3
    unfold wList
    rw [if_pos h2, h3]
    dsimp only
    rw [if_pos h4]

/-- The number of a list, byte by byte from behind. -/
def num1 (size i : Nat) (n : Int) : List Int := (putD size 0).take (size - i) ++ putD i n
theorem num1_len (size i : Nat) (n : Int) (h : i ≤ size) : (num1 size i n).length = size := by
  unfold num1
  rw [List.length_append, List.length_take, putD_len, putD_len]
  omega
theorem num1_zero (size : Nat) (n : Int) : num1 size 0 n = putD size 0 := by
  unfold num1
  rw [Nat.sub_zero, List.take_of_length_le (by rw [putD_len]; exact Nat.le_refl _)]
  simp [putD]
theorem num1_all (size : Nat) (n : Int) : num1 size size n = putD size n := by
  unfold num1
  rw [Nat.sub_self]
  simp
theorem num1_set (size i : Nat) (n : Int) (h : i < size) : (num1 size i n).set (size - 1 - i) (n / 256 ^ i % 256) = num1 size (i + 1) n := by
  unfold num1
  have h1 : ((putD size 0).take (size - i)).length = size - i := by rw [List.length_take, putD_len]; omega
  rw [List.set_append_left _ _ (by omega)]
  have hz : (putD size 0)[size - 1 - i]? = some (0 / 256 ^ (size - 1 - (size - 1 - i)) % 256) := putD_get size 0 _ (by omega)
  have h2 : (putD size 0).take (size - i) = (putD size 0).take (size - (i + 1)) ++ [0 / 256 ^ (size - 1 - (size - 1 - i)) % 256] := by
    have := LW.step.take_snocG hz
    rw [show size - 1 - i + 1 = size - i by omega, show size - 1 - i = size - (i + 1) by omega] at this
    rw [this, show size - 1 - i = size - (i + 1) by omega]
  have h3 : ((putD size 0).take (size - (i + 1))).length = size - (i + 1) := by rw [List.length_take, putD_len]; omega
  rw [h2, List.set_append_right _ _ (by rw [h3]; omega), h3, show size - 1 - i - (size - (i + 1)) = 0 by omega]
  simp [putD]
end Go.Proofs.Ytdhckndehijemaa
namespace Go.Proofs.Ytdhckndehijemaa
open Go.RowKit
set_option linter.unusedVariables false
set_option maxRecDepth 100000

theorem WQ.num {n r : Nat} {v v' : Value} {w w' : World} {no : Bool} {xs : List Int} {x : Int} (h : WP r v w w' v' no (xs ++ putD n x)) : WQ (wNum n) n r v w w' v' no no xs (putD n x) x :=
  ⟨h, id, fun e => .inr ⟨e, rfl⟩, by rw [putD_len]; exact Nat.le_refl _⟩

set_option maxHeartbeats 400000 in
theorem woctet_any (r : Nat) (x : Int) (v : Value) (no : Bool) (xs : List Int) (w : World) (h : WM w r v no xs) (hx : InK .u8 x) (hl : xs.length ≤ 1000000000000) :
    Calls Try.prog 194 #[.pointer (some ⟨r, 0, none⟩), .int .u8 x] w fun e w' => ∃ v' no' ys, e = .returned (.tuple #[]) ∧ WQ (wNum 1) 1 r v w w' v' no no' xs ys x := by
  obtain ⟨h0, h1⟩ := hx
  have h1' : x < 256 := h1
  have hd := wdigits_any r 1 x (by decide) h0 (by omega) v no xs w h hl
  have hw : IntKind.u32.wrap x = x := by rw [IntKind.wrap_u32]; omega
  clear h h1
  go_enter Try.func194, Try.ntmps194
  go_wp2_with (go_at_call 227; refine hd.mono ?_)
  rintro e w' ⟨v', rfl, hp⟩
  have HP : Hid (WP r v w w' v' no (xs ++ putD 1 x)) := hp
  clear hp hd
  go_wp2
  go_end0
  exact ⟨v', no, _, rfl, WQ.num HP.out⟩
set_option maxHeartbeats 400000 in
theorem wnumber_any (r : Nat) (x : Int) (v : Value) (no : Bool) (xs : List Int) (w : World) (h : WM w r v no xs) (hx : InK .u16 x) (hl : xs.length ≤ 1000000000000) :
    Calls Try.prog 179 #[.pointer (some ⟨r, 0, none⟩), .int .u16 x] w fun e w' => ∃ v' no' ys, e = .returned (.tuple #[]) ∧ WQ (wNum 2) 2 r v w w' v' no no' xs ys x := by
  obtain ⟨h0, h1⟩ := hx
  have h1' : x < 65536 := h1
  have hd := wdigits_any r 2 x (by decide) h0 (by omega) v no xs w h hl
  have hw : IntKind.u32.wrap x = x := by rw [IntKind.wrap_u32]; omega
  clear h h1
  go_enter Try.func179, Try.ntmps179
  go_wp2_with (go_at_call 227; refine hd.mono ?_)
  rintro e w' ⟨v', rfl, hp⟩
  have HP : Hid (WP r v w w' v' no (xs ++ putD 2 x)) := hp
  clear hp hd
  go_wp2
  go_end0
  exact ⟨v', no, _, rfl, WQ.num HP.out⟩
set_option maxHeartbeats 400000 in
theorem wlong_any (r : Nat) (x : Int) (v : Value) (no : Bool) (xs : List Int) (w : World) (h : WM w r v no xs) (hx : InK .u32 x) (hl : xs.length ≤ 1000000000000) :
    Calls Try.prog 207 #[.pointer (some ⟨r, 0, none⟩), .int .u32 x] w fun e w' => ∃ v' no' ys, e = .returned (.tuple #[]) ∧ WQ (wNum 4) 4 r v w w' v' no no' xs ys x := by
  obtain ⟨h0, h1⟩ := hx
  have h1' : x < 4294967296 := h1
  have hd := wdigits_any r 4 x (by decide) h0 h1' v no xs w h hl
  clear h h1
  go_enter Try.func207, Try.ntmps207
  go_wp2_with (go_at_call 227; refine hd.mono ?_)
  rintro e w' ⟨v', rfl, hp⟩
  have HP : Hid (WP r v w w' v' no (xs ++ putD 4 x)) := hp
  clear hp hd
  go_wp2
  go_end0
  exact ⟨v', no, _, rfl, WQ.num HP.out⟩

set_option maxHeartbeats 400000 in
theorem maxLen_any (size : Nat) (h0 : 0 < size) (h1 : size ≤ 3) (b c : Int) (w : World) : Calls Try.prog 232 #[.agg #[.int .i64 size, .int .i64 b, .int .i64 c]] w fun e w' => e = .returned (.int .i64 ((256 ^ size - 1 : Nat) : Int)) ∧ Chg Non w w' := by
  have h : size = 1 ∨ size = 2 ∨ size = 3 := by omega
  rcases h with rfl | rfl | rfl
  all_goals
    clear h0 h1
    go_enter Try.func232, Try.ntmps232
    go_wp2
    go_ret
    exact ⟨rfl, (Chg.refl _ _).alloc _⟩

theorem Own.set {W : World} {g off n cap : Nat} {zs : List Int} (h : Own W g off n cap zs) (j : Nat) (u : Int) (hj : j < n) : Own (W.setCell ⟨g, off + j, none⟩ (.int .u8 u)) g off n cap (zs.set j u) := by
  obtain ⟨cur, hc, hs, ht⟩ := h.blk
  have hb : (W.setCell ⟨g, off + j, none⟩ (.int .u8 u)).heap[g]? = some (.cells (cur.setIfInBounds (off + j) (.int .u8 u)) 5 (0, 0)) := by
    show (W.heap.modify g _)[g]? = _
    obtain ⟨hlt, hk⟩ := Array.getElem?_eq_some_iff.1 hc
    rw [Array.getElem?_eq_getElem (by rw [Array.size_modify]; exact hlt), Array.getElem_modify_self, hk]
    rfl
  refine ⟨by simpa using h.len, h.le, h.mx, _, hb, by simpa using hs, ?_⟩
  rw [List.map_set, ← ht, Array.toList_setIfInBounds, List.drop_set, if_neg (by omega), List.take_set, Nat.add_sub_cancel_left]
theorem byt_set {xs : List Int} (h : Byt xs) (j : Nat) (u : Int) (h0 : 0 ≤ u) (h1 : u < 256) : Byt (xs.set j u) := fun x hx => by
  rcases List.mem_or_eq_of_mem_set hx with hx | rfl
  · exact h x hx
  · exact ⟨h0, h1⟩
theorem WM.set {w : World} {r g off n c : Nat} {no : Bool} {xs : List Int} (h : WM w r (.slice (some ⟨g, off, none⟩) n c) no xs) (j : Nat) (u : Int) (hj : j < n) (h0 : 0 ≤ u) (h1 : u < 256) : WP r (.slice (some ⟨g, off, none⟩) n c) w (w.setCell ⟨g, off + j, none⟩ (.int .u8 u)) (.slice (some ⟨g, off, none⟩) n c) no (xs.set j u) := by
  have hg : r < g := h.new g rfl
  have cs : Chg (One g) w (w.setCell ⟨g, off + j, none⟩ (.int .u8 u)) := (Chg.refl (One g) w).setCell (p := ⟨g, off + j, none⟩) (fun _ => rfl) _
  refine ⟨⟨?_, ?_, h.new, byt_set h.byt j u h0 h1⟩, cs.mono (fun k _ e => .inr (by have e' : k = g := e; rw [e']; rfl)), .inl rfl⟩
  · rw [cs.block r h.lt (fun e => by have e' : r = g := e; omega)]
    exact h.blk
  · rcases h.own with ⟨e, -⟩ | ⟨g', off', n', cap', e, ho⟩
    · cases e
    · injection e with e1 e2 e3
      injection e1 with e1
      injection e1 with e1 e4
      subst e1; subst e2; subst e3; subst e4
      exact .inr ⟨_, _, _, _, rfl, ho.set j u hj⟩
/-- A writer's bytes, cell by cell. -/
theorem WM.cells {w : World} {r : Nat} {v : Value} {no : Bool} {xs : List Int} (h : WM w r v no xs) (hn : 0 < xs.length) : ∃ g off n c, v = .slice (some ⟨g, off, none⟩) n c ∧ n = xs.length ∧ n ≤ c ∧ c ≤ 9223372036854775807 ∧ (∀ j, w.frozen? ⟨g, j, none⟩ = false) ∧ (∀ j u, xs[j]? = some u → w.cell? ⟨g, off + j, none⟩ = some (.int .u8 u)) := by
  rcases h.own with ⟨-, e⟩ | ⟨g, off, n, cap, rfl, ho⟩
  · rw [e] at hn; simp at hn
  · obtain ⟨cur, hc, -⟩ := ho.blk
    exact ⟨g, off, n, cap, rfl, ho.len.symm, ho.le, by simpa [maxLen] using ho.mx, fun j => frozen_of_row w g j _ _ hc, ho.cell⟩
theorem Rel.ofByt {F : Nat → Prop} {w : World} {us : List Value} {l : List Int} (h : Rel .byt F w us l) : Rel (.lst (.num .u8)) F w us l := by
  obtain ⟨v, rfl, ⟨ao, n, c, rfl, h1, h2, h3, h4, h5⟩, hb, hF⟩ := h
  refine ⟨ao, n, c, rfl, h1, h2, h3, h4, fun b e j a ha => ⟨hF _ (by subst e; rfl) (fun q => by have := (List.getElem?_eq_some_iff.1 ha).1; have q' : List.length (α := Int) l = 0 := q; have q2 : j < List.length (α := Int) l := this; omega), [.int .u8 a], ⟨rfl, ?_⟩, fun i u hu => ?_⟩⟩
  · exact hb a (List.mem_of_getElem? ha)
  · match i, hu with
    | 0, hu =>
      injection hu with hu
      subst hu
      have := h5 b e j a ha
      simpa [Ty.sz] using this
end Go.Proofs.Ytdhckndehijemaa
