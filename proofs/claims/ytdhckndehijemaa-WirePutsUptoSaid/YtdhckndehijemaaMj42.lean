/-
  Writers of extensions, of a certificate's entry.
-/
import Derived.Test.YtdhckndehijemaaXb
import Derived.Test.YtdhckndehijemaaMj40
namespace Go.Proofs.Ytdhckndehijemaa
open Go.RowKit
set_option linter.unusedVariables false
set_option maxRecDepth 100000

set_option maxHeartbeats 1600000 in
theorem wexts_any (r : Nat) (ao : Option Addr) (L c : Nat) (l : List Ext) (v0 : Value) (n0 : Bool) (xs : List Int) (w : World) (h : WM w r v0 n0 xs) (hx : Rel (.lst tExt) (Fa r v0 w) w [.slice ao L c] l) (hl : xs.length ≤ 997000000000) :
    Calls Try.prog 139 #[.pointer (some ⟨r, 0, none⟩), .slice ao L c] w fun e w' => ∃ v' no' ys, e = .returned (.tuple #[]) ∧ WQ wExts 33554603 r v0 w w' v' n0 no' xs ys l := by
  have ht := twice_any _ _ l w hx
  obtain ⟨D, hD⟩ : ∃ D, D = dup (tys l) := ⟨_, rfl⟩
  rw [← hD] at ht
  have HD : Hid (D = dup (tys l)) := hD
  have HM : Hid (WM w r v0 n0 xs) := h
  have HR : Hid (Rel (.lst tExt) (Fa r v0 w) w [.slice ao L c] l) := hx
  have HX : Hid (xs.length ≤ 997000000000) := hl
  clear h hx hl hD
  go_enter Try.func139, Try.ntmps139
  go_wp2_with (go_at_call 199; refine ht.mono ?_)
  rintro e w1 ⟨rfl, hc1⟩
  have hun := unless_any r (!D) v0 n0 xs w1 (HM.out.non hc1)
  have C1 : Hid (Chg Non w w1) := hc1
  clear hc1 ht
  go_wp2_with (go_at_call 195; refine hun.mono ?_)
  rintro e w2 ⟨rfl, hp2⟩
  have P2 : Hid (WP r v0 w w2 v0 (n0 || !!D) xs) := hp2.ahead C1.out
  clear hp2 hun
  obtain ⟨n2, hn2⟩ : ∃ n2, n2 = (n0 || !!D) := ⟨_, rfl⟩
  have HN : Hid (n2 = (n0 || !!D)) := hn2
  have P2' : Hid (WP r v0 w w2 v0 n2 xs) := by show WP _ _ _ _ _ _ _; rw [hn2]; exact P2.out
  clear hn2
  go_wp2_with (go_at_call 197; refine (free_any 2 w2).mono ?_)
  first | (rintro e w3 rfl hc) | (rintro e w3 ⟨rfl, hc⟩)
  have C3 : Hid (Chg Non w2 w3) := hc
  have hp := putE_any r 2 0 16777216 2 0 16777216 rfl rfl rfl (by decide) (by decide) (.slice ao L c) l v0 n2 xs w3 (P2'.out.wm.non hc) ((HR.out.fa P2'.out).faN hc) HX.out
  clear hc
  go_wp2_with (go_at_call 208; refine (calls_wo hp).mono ?_)
  rintro e w4 ⟨rfl, v4, n4, ys, h4⟩
  have H4 : Hid (WQ (wList 2 0 16777216 wExt) (16777300 + 16777303) r v0 w2 w4 v4 n2 n4 xs ys l) := h4.ahead C3.out
  clear h4 hp
  go_wp2
  go_end0
  have h5 : WQ (wList 2 0 16777216 wExt) 33554603 r v0 w2 w4 v4 (n0 || !(fun l => !dup (tys l)) l) n4 xs ys l := by
    have := H4.out
    rw [HN.out, HD.out] at this
    exact this
  have h6 : WP r v0 w w2 v0 (n0 || !(fun l => !dup (tys l)) l) xs := by
    have := P2'.out
    rw [HN.out, HD.out] at this
    exact this
  exact ⟨v4, n4, ys, rfl, WQ.wif (fun l => !dup (tys l)) h6 h5⟩

theorem Rel.entry {F : Nat → Prop} {w : World} {us : List Value} {x : List Int × List Ext} (h : Rel tEntry F w us x) : ∃ a1 l1 c1 a2 l2 c2, us = [.slice a1 l1 c1, .slice a2 l2 c2] := by
  obtain ⟨us1, us2, rfl, h1, h2⟩ := h
  obtain ⟨v, rfl, h3, -⟩ := h1
  obtain ⟨ao, n, c, rfl, -⟩ := h3.shape
  obtain ⟨a2, l2, c2, rfl, -⟩ := h2
  exact ⟨ao, n, c, a2, l2, c2, rfl⟩


set_option maxHeartbeats 3200000 in
theorem wentry_any (r : Nat) (a1 : Option Addr) (l1 c1 : Nat) (a2 : Option Addr) (l2 c2 : Nat) (x : (tEntry).Dat) (v0 : Value) (n0 : Bool) (xs : List Int) (w : World) (h : WM w r v0 n0 xs) (hx : Rel (tEntry) (Fa r v0 w) w [.slice a1 l1 c1, .slice a2 l2 c2] x) (hl : xs.length ≤ 996000000000) :
    Calls Try.prog 206 #[.pointer (some ⟨r, 0, none⟩), .agg #[.slice a1 l1 c1, .slice a2 l2 c2]] w fun e w' => ∃ v' no' ys, e = .returned (.tuple #[]) ∧ WQ (wEntry) 50331904 r v0 w w' v' n0 no' xs ys x := by
  obtain ⟨w0, hw0⟩ : ∃ w0, w0 = w.alloc (.cells #[.slice a1 l1 c1, .slice a2 l2 c2] 146) := ⟨_, rfl⟩
  have hc0 : Chg Non w w0 := by rw [hw0]; exact (Chg.refl _ _).alloc _
  have C0 : Hid (Chg Non w w0) := hc0
  have B0 : Hid (Bk w0 r v0 w.heap.size (.cells #[.slice a1 l1 c1, .slice a2 l2 c2] 146)) := by show Bk _ _ _ _ _; rw [hw0]; exact Bk.new h _
  have HW0 : Hid (w0 = w.alloc (.cells #[.slice a1 l1 c1, .slice a2 l2 c2] 146)) := hw0
  have HM : Hid (WM w0 r v0 n0 xs) := h.non hc0
  have HX : Hid (xs.length ≤ 996000000000) := hl
  have hx0 := hx.faN hc0
  obtain ⟨g1, hx1⟩ := Rel.split (us1 := [.slice a1 l1 c1]) (us2 := [.slice a2 l2 c2]) hx0 rfl
  have g2 := hx1
  have F1_0 : Hid (Rel (.byt) (Fa r v0 w0) w0 [.slice a1 l1 c1] (x.1)) := g1
  have F2_0 : Hid (Rel (.lst tExt) (Fa r v0 w0) w0 [.slice a2 l2 c2] (x.2)) := g2
  clear h hx hl hc0 hw0 hx0 hx1 g1 g2
  have y0 : w0.cell? ⟨w.heap.size, 0, none⟩ = some (.slice a1 l1 c1) := B0.out.cell rfl
  have hfr1 := fun u => filled_any 3 u
  have hpb1 := fun u (hu : Chg Non w0 u) => putB_any r 3 1 16777216 3 1 16777216 rfl rfl rfl (by decide) (by decide) (.slice a1 l1 c1) (x.1) v0 n0 xs u (HM.out.non hu) (F1_0.out.faN hu).ofByt (by have := HX.out; omega)
  have HSS1 : Hid (∀ u, Chg Non w0 u → u.cell? ⟨w.heap.size, 0, none⟩ = some (.slice a1 l1 c1)) := fun u hu => (B0.out.non hu).cell rfl
  have HSP1 : Hid (∀ u u6 v6 n6 zs, Chg Non w0 u → WP r v0 u u6 v6 n6 zs → u6.cell? ⟨w.heap.size, 0, none⟩ = some (.slice a1 l1 c1)) := fun u u6 v6 n6 zs hu hp => ((B0.out.non hu).wp hp).cell rfl
  go_enter Try.func206, Try.ntmps206
  go_wp2_with fail
  rw [← HW0.out]
  go_region_held3 (fun q => q.cell? ⟨w.heap.size, 0, none⟩ = some (.slice a1 l1 c1)) (first | exact HSS1.out _ (Chg.refl _ _).drew | exact hS6 | exact HSS1.out _ hu5) (first | (go_at_call 185; refine (hfr1 _).mono ?_; first | (rintro e u rfl hcu) | (rintro e u ⟨rfl, hcu⟩); have hu5 : Chg Non w0 u := ((Chg.refl Non w0).drew).two hcu; clear hcu) | (go_at_call 193; refine (calls_wo (hpb1 _ hu5)).mono ?_; rintro e w1 ⟨rfl, v1, n1, ys1, h1⟩; have hS6 := HSP1.out _ _ _ _ _ hu5 h1.wp))
  have H1 : Hid (WQ (wBytes 3 1 16777216) 16777301 r v0 w0 w1 v1 n0 n1 xs ys1 (x.1)) := (h1.weak (by decide)).ahead hu5
  have B1 : Hid (Bk w1 r v1 w.heap.size (.cells #[.slice a1 l1 c1, .slice a2 l2 c2] 146)) := B0.out.wp H1.out.wp
  clear h1 hfr1 hpb1 hS6 hu5 y0
  have F2_1 : Hid (Rel (.lst tExt) (Fa r v1 w1) w1 [.slice a2 l2 c2] (x.2)) := F2_0.out.fa H1.out.wp
  have y1 : w1.cell? ⟨w.heap.size, 1, none⟩ = some (.slice a2 l2 c2) := B1.out.cell rfl
  have hp2 := wexts_any r a2 l2 c2 (x.2) v1 n1 (xs ++ ys1) w1 H1.out.wp.wm F2_1.out (by simp only [List.length_append]; have := H1.out.len; have := HX.out; omega)
  go_wp2_with (go_at_call 139; refine (calls_wo hp2).mono ?_)
  rintro e w2 ⟨rfl, v2, n2, ys2, h2⟩
  have H2 : Hid (WQ (wExts) 33554603 r v1 w1 w2 v2 n1 n2 (xs ++ ys1) ys2 (x.2)) := h2
  have B2 : Hid (Bk w2 r v2 w.heap.size (.cells #[.slice a1 l1 c1, .slice a2 l2 c2] 146)) := B1.out.wp h2.wp
  clear h2 hp2 y1
  go_wp2
  go_end0
  exact ⟨v2, n2, _, rfl, (WQ.seq (f := Prod.fst) (g := Prod.snd) (x := x) H1.out H2.out).ahead C0.out⟩
end Go.Proofs.Ytdhckndehijemaa
namespace Go.Proofs.Ytdhckndehijemaa
open Go.RowKit
set_option linter.unusedVariables false
set_option maxRecDepth 100000

theorem tys_at {l : List Ext} {k : Nat} {z : Ext} (h : l[k]? = some z) : (tys l)[k]? = some z.1 := by simp [tys, h]
theorem take_has {l : List Int} {k : Nat} {a t : Int} (h : l[k]? = some a) : (l.take (k + 1)).contains t = ((l.take k).contains t || a == t) := by
  rw [take_snoc h, List.contains_eq_any_beq, List.contains_eq_any_beq, List.any_append]
  simp [BEq.comm]
theorem tys_take (l : List Ext) (k : Nat) : tys (l.take k) = (tys l).take k := by unfold tys; rw [List.map_take]
theorem takeX {l : List Ext} {k : Nat} {z : Ext} (h : l[k]? = some z) : l.take (k + 1) = l.take k ++ [z] := by
  rw [List.take_add_one, h]
  rfl
/-- What the loop over extensions keeps. -/
structure EX (P : Nat) (w0 : World) (l : List Ext) (i : Nat) (wr : World) (vr : Value) (nr : Bool) (body : List Int) : Prop where
  vp : VP P (.slice none 0 0) w0 wr vr nr body
  ok : nr = false → conc wExt (l.take i) = some body ∧ dup (tys (l.take i)) = false
  no : nr = true → conc wExt (l.take i) = none ∨ dup (tys (l.take i)) = true
  len : body.length ≤ i * 65539
theorem EX.step {P : Nat} {w0 wr w2 : World} {l : List Ext} {i : Nat} {v2 : Value} {nr n2 : Bool} {body ys : List Int} {z : Ext} {wi : World} {vr : Value} (h : EX P w0 l i wr vr nr body) (hz : l[i]? = some z)
    (hv : VP P (.slice none 0 0) w0 wi vr (nr || ((tys l).take i).contains z.1) body) (hq : VQ wExt 65539 P vr wi w2 v2 (nr || ((tys l).take i).contains z.1) n2 body ys z) : EX P w0 l (i + 1) w2 v2 n2 (body ++ ys) := by
  have ht : l.take (i + 1) = l.take i ++ [z] := takeX hz
  have hd : dup (tys (l.take (i + 1))) = (dup (tys (l.take i)) || ((tys l).take i).contains z.1) := by
    rw [tys_take, take_snoc (tys_at hz), dup_snoc, tys_take]
  obtain ⟨N1, hN1⟩ : ∃ N1, N1 = (nr || ((tys l).take i).contains z.1) := ⟨_, rfl⟩
  rw [← hN1] at hq hv
  refine ⟨hv.trans hq.wp, fun e => ?_, fun e => ?_, ?_⟩
  · have e1 : N1 = false := by
      cases hb : N1 with
      | false => rfl
      | true => have := hq.bad hb; rw [this] at e; cases e
    have e2 := hN1.symm.trans e1
    rw [Bool.or_eq_false_iff] at e2
    obtain ⟨k1, k2⟩ := h.ok e2.1
    rcases hq.out e1 with ⟨-, q2⟩ | ⟨-, q2⟩
    · rw [q2] at e; cases e
    · refine ⟨?_, ?_⟩
      · rw [ht, conc_snoc, k1, q2]
        rfl
      · rw [hd, k2, e2.2]; rfl
  · cases hb : N1 with
    | true =>
      rw [hb] at hN1
      have e2 : nr = true ∨ ((tys l).take i).contains z.1 = true := by
        have := hN1.symm
        rwa [Bool.or_eq_true] at this
      rcases e2 with e2 | e2
      · rcases h.no e2 with k | k
        · left
          rw [ht, conc_snoc, k]
        · right
          rw [hd, k]; rfl
      · right
        rw [hd, e2, Bool.or_true]
    | false =>
      rw [hb] at hN1
      have e2 := hN1.symm
      rw [Bool.or_eq_false_iff] at e2
      obtain ⟨k1, k2⟩ := h.ok e2.1
      rcases hq.out hb with ⟨q1, -⟩ | ⟨q1, -⟩
      · left
        rw [ht, conc_snoc, k1, q1]
        rfl
      · rw [q1] at e; cases e
  · have h1 := h.len
    have h2 := hq.len
    rw [List.length_append, Nat.succ_mul]
    omega
theorem EX.fin {P : Nat} {w0 wr : World} {l : List Ext} {vr : Value} {nr : Bool} {body : List Int} (h : EX P w0 l l.length wr vr nr body) (hn : l.length ≤ 16777216) (hb : Byt body) : wPart nr 2 0 body = wExts l := by
  have ht : l.take l.length = l := List.take_of_length_le (Nat.le_refl _)
  have e1 : (256 : Nat) ^ 2 = 65536 := rfl
  unfold wPart wExts wIf wList wRaw
  dsimp only
  cases hh : nr with
  | true =>
    rw [if_pos rfl]
    rcases h.no hh with k | k
    · rw [ht] at k
      rw [k]
      simp
    · rw [ht] at k
      rw [if_neg (show ¬ (!dup (tys l)) = true by rw [k]; decide)]
  | false =>
    obtain ⟨k1, k2⟩ := h.ok hh
    rw [ht] at k1 k2
    by_cases hl : body.length < 256 ^ 2
    · rw [if_neg (by decide), if_pos ⟨Nat.zero_le _, by omega, hl⟩, if_pos (show (!dup (tys l)) = true by rw [k2]; rfl), if_pos ⟨Nat.zero_le _, hn⟩, k1]
      dsimp only
      rw [if_pos hl]
    · rw [if_neg (by decide), if_neg (fun e => hl e.2.2), if_pos (show (!dup (tys l)) = true by rw [k2]; rfl), if_pos ⟨Nat.zero_le _, hn⟩, k1]
      dsimp only
      rw [if_neg hl]

end Go.Proofs.Ytdhckndehijemaa
