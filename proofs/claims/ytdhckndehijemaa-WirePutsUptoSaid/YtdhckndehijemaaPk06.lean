/-
  The program's put of tickets that are offered.
-/
import Derived.Test.YtdhckndehijemaaYb
import Derived.Test.YtdhckndehijemaaXp
import Derived.Test.YtdhckndehijemaaPk03
import Derived.Test.YtdhckndehijemaaYa
import Derived.Test.YtdhckndehijemaaPk01
namespace Go.Proofs.Ytdhckndehijemaa
open Go.RowKit
set_option linter.unusedVariables false
set_option maxRecDepth 100000

theorem psks_same (l : List PSKW) : wSeq (fun l : List PSKW => l) (fun l : List PSKW => l) (wList 2 1 16777216 wTk) (wList 2 l.length l.length wBd) l = wPSKs l := by
  unfold wPSKs wSeq
  dsimp only
  cases hc : wList 2 1 16777216 wTk l with
  | none => rfl
  | some y =>
    have hk : 1 ≤ l.length ∧ l.length ≤ 16777216 := by
      unfold wList at hc
      by_cases k : 1 ≤ l.length ∧ l.length ≤ 16777216
      · exact k
      · rw [if_neg k] at hc
        cases hc
    have e : wList 2 l.length l.length wBd l = wList 2 1 16777216 wBd l := by
      unfold wList
      rw [if_pos ⟨Nat.le_refl _, Nat.le_refl _⟩, if_pos hk]
    rw [e]
theorem WQ.like2 {α β : Type} {p : Pw α} {q : Pw β} {G : Nat} {r : Nat} {v v' : Value} {a b : World} {no no' : Bool} {xs ys : List Int} {x : α} {y : β} (h : WQ p G r v a b v' no no' xs ys x) (k : p x = q y) : WQ q G r v a b v' no no' xs ys y := ⟨h.wp, h.bad, by rw [← k]; exact h.out, h.len⟩

set_option maxHeartbeats 1600000 in
theorem woffer_any (r : Nat) (ao : Option Addr) (L c : Nat) (l : (Ty.lst tPSK).Dat) (v0 : Value) (n0 : Bool) (xs : List Int) (w : World) (h : WM w r v0 n0 xs) (hx : Rel (.lst tPSK) (Fa r v0 w) w [.slice ao L c] l) (hl : xs.length ≤ 980000000000) :
    Calls Try.prog 175 #[.pointer (some ⟨r, 0, none⟩), .slice ao L c] w fun e w' => ∃ v' no' ys, e = .returned (.tuple #[]) ∧ WQ wPSKs 67109206 r v0 w w' v' n0 no' xs ys l := by
  have hpb := fun u (hu : Chg Non w u) => putTk_any r 2 1 16777216 2 1 16777216 rfl rfl rfl (by decide) (by decide) (.slice ao L c) l v0 n0 xs u (h.non hu) (hx.faN hu) (by omega)
  have hL : L = List.length (α := PSKW) l := by
    obtain ⟨ao', n', c', e, e2, -⟩ := id hx
    injection e with e
    injection e with _ e _
    exact e.trans e2
  have HL : Hid (L = List.length (α := PSKW) l ∧ xs.length ≤ 980000000000) := ⟨hL, hl⟩
  have HR : Hid (Rel (.lst tPSK) (Fa r v0 w) w [.slice ao L c] l) := hx
  clear h hx hl hL
  go_enter Try.func175, Try.ntmps175
  go_wp2_with (go_at_call 185; refine (filled_any 2 w).mono ?_)
  first | (rintro e w2 rfl hc) | (rintro e w2 ⟨rfl, hc⟩)
  have C2 : Hid (Chg Non w w2) := hc
  have hp := hpb w2 hc
  clear hc hpb
  go_wp2_with (go_at_call 224; refine (calls_wo hp).mono ?_)
  rintro e w3 ⟨rfl, v3, n3, ys, h3⟩
  have H3 : Hid (WQ (wList 2 1 16777216 wTk) 33554605 r v0 w w3 v3 n0 n3 xs ys l) := (h3.weak (by decide)).ahead C2.out
  clear h3 hp
  go_wp2_with (go_at_call 187; refine (exactly_any L 2 w3).mono ?_)
  first | (rintro e w4 rfl hc) | (rintro e w4 ⟨rfl, hc⟩)
  have C4 : Hid (Chg Non w3 w4) := hc
  have hp := putBd_any r 2 L L 2 L L rfl rfl rfl (by decide) (by decide) (.slice ao L c) l v3 n3 (xs ++ ys) w4 (H3.out.wp.wm.non hc) ((HR.out.fa H3.out.wp).faN hc) (by rw [List.length_append]; have := H3.out.len; have := HL.out.2; omega)
  clear hc
  go_wp2_with (go_at_call 224; refine (calls_wo hp).mono ?_)
  rintro e w5 ⟨rfl, v5, n5, zs, h5⟩
  have H5 : Hid (WQ (wList 2 L L wBd) 33554601 r v3 w3 w5 v5 n3 n5 (xs ++ ys) zs l) := (h5.weak (by decide)).ahead C4.out
  clear h5 hp
  go_wp2
  go_end0
  have h6 := WQ.seq (f := fun l : List PSKW => l) (g := fun l : List PSKW => l) (x := l) H3.out H5.out
  exact ⟨v5, n5, _, rfl, (h6.like2 (by rw [HL.out.1]; exact psks_same l)).weak (by decide)⟩


set_option maxHeartbeats 1600000 in
theorem putOs_any (ao : Option Addr) (L c : Nat) (x : (Ty.lst tPSK).Dat) (w : World) (h : Rel (.lst tPSK) (Bel w.heap.size) w [.slice ao L c] x) : Calls Try.prog 174 #[.slice ao L c, .func (.func 175) #[] #[]] w fun e w' => ∃ v, e = .returned v ∧ PO (wPSKs) w w' v x := by
  obtain ⟨w1, hw1⟩ : ∃ w1, w1 = w.alloc (.cells #[.slice none 0 0, .bool false] 242) := ⟨_, rfl⟩
  have hm : WM w1 w.heap.size (.slice none 0 0) false [] := by rw [hw1]; exact WM.begin w
  have c1 : Chg Non w w1 := by rw [hw1]; exact (Chg.refl _ _).alloc _
  have hp := woffer_any w.heap.size ao L c x (.slice none 0 0) false [] w1 hm (h.begin c1) (by simp)
  have HW1 : Hid (w1 = w.alloc (.cells #[.slice none 0 0, .bool false] 242)) := hw1
  have C1 : Hid (Chg Non w w1) := c1
  clear h hw1 hm c1
  go_enter Try.func174, Try.ntmps174
  go_wp2_with fail
  rw [← HW1.out]
  refine (calls_wo hp).mono ?_
  rintro e w2 ⟨rfl, v2, no2, ys, hq⟩
  obtain ⟨ao, n, c, rfl, -, -, -⟩ := hq.wp.wm.own.rd.shape
  obtain ⟨z0, z1, f0, f1⟩ := hq.wp.wm.facts
  have HQ : Hid (WQ (wPSKs) 67109206 w.heap.size (.slice none 0 0) w1 w2 (.slice ao n c) false no2 [] ys x) := hq
  clear hq hp
  cases no2 with
  | true =>
    go_wp2
    go_ret
    exact ⟨_, rfl, po_none HQ.out C1.out⟩
  | false =>
    go_wp2
    go_ret
    exact ⟨_, rfl, po_some HQ.out C1.out⟩

set_option maxHeartbeats 800000 in
theorem putPSKs_any (ao : Option Addr) (L c : Nat) (x : (Ty.lst tPSK).Dat) (w : World) (h : Rel (.lst tPSK) (Bel w.heap.size) w [.slice ao L c] x) : Calls Try.prog 87 #[.slice ao L c] w fun e w' => ∃ v, e = .returned v ∧ PO (wPSKs) w w' v x := by
  have hp := putOs_any ao L c x w h
  clear h
  go_enter Try.func87, Try.ntmps87
  go_wp2_with (go_at_call 174; refine hp.mono ?_)
  rintro e w2 ⟨v, rfl, hq⟩
  obtain ⟨ao, n, c, rfl⟩ := hq.shape
  have HQ : Hid (PO (wPSKs) w w2 (.slice ao n c) x) := hq
  clear hq hp
  go_wp2
  go_ret
  exact ⟨_, rfl, HQ.out⟩
end Go.Proofs.Ytdhckndehijemaa

namespace Go.Proofs.Ytdhckndehijemaa
open Go.RowKit
set_option linter.unusedVariables false
set_option maxRecDepth 100000

/-- What a loop over a list's elements keeps of one writer. -/
structure EC {α : Type} (p : Pw α) (B : Nat) (l : List α) (i : Nat) (nr : Bool) (body : List Int) : Prop where
  ok : nr = false → conc p (l.take i) = some body
  no : nr = true → conc p (l.take i) = none
  len : body.length ≤ i * B
theorem EC.step {α : Type} {p : Pw α} {B P : Nat} {wr w2 : World} {l : List α} {i : Nat} {v2 : Value} {nr n2 : Bool} {body ys : List Int} {z : α} {vr : Value} (h : EC p B l i nr body) (hz : l[i]? = some z)
    {xs : List Int} (hq : VQ p B P vr wr w2 v2 nr n2 xs ys z) : EC p B l (i + 1) n2 (body ++ ys) := by
  have ht : l.take (i + 1) = l.take i ++ [z] := takeA hz
  refine ⟨fun e => ?_, fun e => ?_, ?_⟩
  · cases hb : nr with
    | true => have := hq.bad hb; rw [this] at e; cases e
    | false =>
      rcases hq.out hb with ⟨-, q2⟩ | ⟨-, q2⟩
      · rw [q2] at e; cases e
      · rw [ht, conc_snoc, h.ok hb, q2]
        rfl
  · cases hb : nr with
    | true => rw [ht, conc_snoc, h.no hb]
    | false =>
      rcases hq.out hb with ⟨q1, -⟩ | ⟨q1, -⟩
      · rw [ht, conc_snoc, h.ok hb, q1]
        rfl
      · rw [q1] at e; cases e
  · have h1 := h.len
    have h2 := hq.len
    rw [List.length_append, Nat.succ_mul]
    omega
theorem EC.fin {α : Type} {p : Pw α} {B : Nat} {l : List α} {nr : Bool} {body : List Int} {n least m : Nat} (h : EC p B l l.length nr body) (hn : l.length ≤ 16777216) (h3 : 256 ^ n ≤ 16777216) (hm : 0 < m) (hp : ∀ a b, p a = some b → m ≤ b.length) (hl1 : least ≤ 1) (hemp : l = [] → body = []) :
    wPart nr n (m * least) body = wList n least 16777216 p l := by
  have ht : l.take l.length = l := List.take_of_length_le (Nat.le_refl _)
  unfold wPart wList wRaw
  cases hh : nr with
  | true =>
    have k := h.no hh
    rw [ht] at k
    rw [if_pos rfl, k]
    simp
  | false =>
    have k1 := h.ok hh
    rw [ht] at k1
    have k2 := conc_min hp l body k1
    have hle : m * least ≤ body.length ↔ least ≤ l.length := by
      rcases Nat.lt_or_ge 0 l.length with g | g
      · have : m * 1 ≤ m * l.length := Nat.mul_le_mul_left m g
        have h5 : m * least ≤ m * 1 := Nat.mul_le_mul_left m hl1
        exact ⟨fun _ => by omega, fun _ => by omega⟩
      · have hl0 : l = [] := List.length_eq_zero_iff.1 (by omega)
        rw [hemp hl0, hl0]
        simp only [List.length_nil, Nat.le_zero_eq]
        constructor
        · intro e
          rcases Nat.mul_eq_zero.1 e with e | e <;> omega
        · intro e
          rw [e]; simp
    by_cases hl : body.length < 256 ^ n
    · by_cases hle' : least ≤ l.length
      · rw [if_neg (by decide), if_pos ⟨hle.2 hle', by omega, hl⟩, if_pos ⟨hle', hn⟩, k1]
        dsimp only
        rw [if_pos hl]
      · rw [if_neg (by decide), if_neg (fun e => hle' (hle.1 e.1)), if_neg (fun e => hle' e.1)]
    · by_cases hle' : least ≤ l.length
      · rw [if_neg (by decide), if_neg (fun e => hl e.2.2), if_pos ⟨hle', hn⟩, k1]
        dsimp only
        rw [if_neg hl]
      · rw [if_neg (by decide), if_neg (fun e => hl e.2.2), if_neg (fun e => hle' e.1)]


/-- Two writers, apart, in memory of their own. -/
structure W2 (w0 : World) (P Q : Nat) (wr : World) (u : Value) (m : Bool) (bp : List Int) (v : Value) (n : Bool) (bq : List Int) : Prop where
  p : VM wr P u m bp
  q : VM wr Q v n bq
  ne : P ≠ Q
  dp : ∀ k, u.ownBlock = some k → k ≠ Q ∧ w0.heap.size ≤ k
  dq : ∀ k, v.ownBlock = some k → k ≠ P ∧ w0.heap.size ≤ k ∧ ¬ u.ownBlock = some k
  c : Chg Non w0 wr
  lp : w0.heap.size ≤ P
  lq : w0.heap.size ≤ Q
theorem W2.stepP {w0 wr w2 : World} {P Q : Nat} {u u2 v : Value} {m m2 n : Bool} {bp b2 bq : List Int} (h : W2 w0 P Q wr u m bp v n bq) (k : VP P u wr w2 u2 m2 b2) : W2 w0 P Q w2 u2 m2 b2 v n bq := by
  have hw := h.c.size
  have hQl := h.q.lt
  refine ⟨k.wm, h.q.keep k.chg (fun s => ?_) (fun j e s => ?_), h.ne, fun j e => ?_, fun j e => ⟨(h.dq j e).1, (h.dq j e).2.1, fun s => ?_⟩, h.c.trans k.chg (fun i hi s => ?_), h.lp, h.lq⟩
  · rcases s with s | s
    · exact h.ne s.symm
    · exact (h.dp _ s).1 rfl
  · rcases s with s | s
    · exact (h.dq j e).1 s
    · exact (h.dq j e).2.2 s
  · rcases k.gr with g | ⟨g, g1, g2⟩
    · rw [g] at e; exact h.dp j e
    · rw [g1] at e; injection e with e; omega
  · have hj := h.q.own.lt j e
    rcases k.gr with g | ⟨g, g1, g2⟩
    · rw [g] at s; exact (h.dq j e).2.2 s
    · rw [g1] at s; injection s with s; omega
  · rcases s with s | s
    · have := h.lp; omega
    · have := (h.dp i s).2; omega
theorem W2.stepQ {w0 wr w2 : World} {P Q : Nat} {u v v2 : Value} {m n n2 : Bool} {bp bq b2 : List Int} (h : W2 w0 P Q wr u m bp v n bq) (k : VP Q v wr w2 v2 n2 b2) : W2 w0 P Q w2 u m bp v2 n2 b2 := by
  have hw := h.c.size
  have hPl := h.p.lt
  refine ⟨h.p.keep k.chg (fun s => ?_) (fun j e s => ?_), k.wm, h.ne, h.dp, fun j e => ?_, h.c.trans k.chg (fun i hi s => ?_), h.lp, h.lq⟩
  · rcases s with s | s
    · exact h.ne s
    · exact (h.dq _ s).1 rfl
  · rcases s with s | s
    · exact (h.dp j e).1 s
    · exact (h.dq j s).2.2 e
  · rcases k.gr with g | ⟨g, g1, g2⟩
    · rw [g] at e; exact h.dq j e
    · rw [g1] at e; injection e with e
      subst e
      exact ⟨by omega, by omega, fun s => by have := h.p.own.lt g s; omega⟩
  · rcases s with s | s
    · have := h.lq; omega
    · have := (h.dq i s).2.1; omega
theorem W2.relP {t : Ty} {w0 wr : World} {P Q : Nat} {u v : Value} {m n : Bool} {bp bq : List Int} {us : List Value} {a : t.Dat} (h : W2 w0 P Q wr u m bp v n bq) (k : Rel t (Bel w0.heap.size) w0 us a) : Rel t (Fa P u wr) wr us a :=
  k.keep (fun q hq => by
    have hq' : q < w0.heap.size := hq
    exact ⟨by have := h.lp; omega, fun e => by have := (h.dp q e).2; omega, Nat.lt_of_lt_of_le hq h.c.size⟩) (fun q hq hk => h.c.block q hk (fun s => s))
theorem W2.relQ {t : Ty} {w0 wr : World} {P Q : Nat} {u v : Value} {m n : Bool} {bp bq : List Int} {us : List Value} {a : t.Dat} (h : W2 w0 P Q wr u m bp v n bq) (k : Rel t (Bel w0.heap.size) w0 us a) : Rel t (Fa Q v wr) wr us a :=
  k.keep (fun q hq => by
    have hq' : q < w0.heap.size := hq
    exact ⟨by have := h.lq; omega, fun e => by have := (h.dq q e).2.1; omega, Nat.lt_of_lt_of_le hq h.c.size⟩) (fun q hq hk => h.c.block q hk (fun s => s))
theorem W2.begin (w : World) : W2 w w.heap.size (w.heap.size + 1) ((w.alloc (.cells #[.slice none 0 0, .bool false] 115)).alloc (.cells #[.slice none 0 0, .bool false] 115)) (.slice none 0 0) false [] (.slice none 0 0) false [] := by
  have hq := VM.begin (w.alloc (.cells #[.slice none 0 0, .bool false] 115))
  rw [show (w.alloc (.cells #[.slice none 0 0, .bool false] 115)).heap.size = w.heap.size + 1 by simp] at hq
  exact ⟨(VM.begin w).non ((Chg.refl _ _).alloc _), hq, by omega, (fun k e => by cases e), (fun k e => by cases e), ((Chg.refl _ _).alloc _).alloc _, Nat.le_refl _, by omega⟩
theorem tk_min : ∀ (a : PSKW) (b : List Int), wTk a = some b → 1 ≤ b.length := by
  intro a b h
  unfold wTk wSeq wNum at h
  cases hb : wBytes 2 1 16777216 a.1 with
  | none =>
    rw [hb] at h
    cases h
  | some y =>
    rw [hb] at h
    injection h with h
    rw [← h, List.length_append, putD_len]
    omega
theorem bd_min : ∀ (a : PSKW) (b : List Int), wBd a = some b → 1 ≤ b.length := by
  intro a b h
  unfold wBd wBytes wList at h
  by_cases hk : 32 ≤ a.2.2.length ∧ a.2.2.length ≤ 16777216
  · rw [if_pos hk] at h
    cases hc : conc (wNum 1) a.2.2 with
    | none =>
      rw [hc] at h
      cases h
    | some y =>
      rw [hc] at h
      dsimp only at h
      split at h
      · injection h with h
        rw [← h, List.length_append, putD_len]
        omega
      · cases h
  · rw [if_neg hk] at h
    cases h

end Go.Proofs.Ytdhckndehijemaa

namespace Go.Proofs.Ytdhckndehijemaa
open Go.RowKit
set_option linter.unusedVariables false
set_option maxRecDepth 100000

set_option maxHeartbeats 12800000 in
theorem dputPSKs_any (ao : Option Addr) (L c : Nat) (x : List PSKW) (w : World) (h : Rel (.lst tPSK) (Bel w.heap.size) w [.slice ao L c] x) (hn : List.length (α := PSKW) x ≤ 1048576) : Calls Try.prog 88 #[.slice ao L c] w fun e w' => ∃ v, e = .returned v ∧ PO wPSKs w w' v x := by
  obtain ⟨P, hP⟩ : ∃ P, P = w.heap.size := ⟨_, rfl⟩
  obtain ⟨Q, hQ⟩ : ∃ Q, Q = w.heap.size + 1 := ⟨_, rfl⟩
  obtain ⟨w1, hw1⟩ : ∃ w1, w1 = (w.alloc (.cells #[.slice none 0 0, .bool false] 115)).alloc (.cells #[.slice none 0 0, .bool false] 115) := ⟨_, rfl⟩
  have h2 : W2 w P Q w1 (.slice none 0 0) false [] (.slice none 0 0) false [] := by rw [hw1, hP, hQ]; exact W2.begin w
  have hL : L = List.length (α := PSKW) x := by
    obtain ⟨ao', n', c', e, e2, -⟩ := id h
    injection e with e
    injection e with _ e _
    exact e.trans e2
  have HL : Hid (L = List.length (α := PSKW) x ∧ L ≤ 1048576) := ⟨hL, by rw [hL]; exact hn⟩
  have HR : Hid (Rel (.lst tPSK) (Bel w.heap.size) w [.slice ao L c] x) := h
  have HP : Hid (P = w.heap.size ∧ W2 w P Q w1 (.slice none 0 0) false [] (.slice none 0 0) false []) := ⟨hP, h2⟩
  have HQ : Hid (Q = w.heap.size + 1) := hQ
  have HW : Hid (w1 = (w.alloc (.cells #[.slice none 0 0, .bool false] 115)).alloc (.cells #[.slice none 0 0, .bool false] 115)) := hw1
  have hLm : L ≤ 1048576 := HL.out.2
  clear h hn hw1 h2 hL hQ
  go_enter Try.func88, Try.ntmps88
  go_wp2_with fail
  rw [← HW.out, ← HQ.out, ← hP]
  clear hP
  go_loopg [5] L (fun mm kv wi => ∃ i : Nat, i + mm = L ∧ kv = .int .i64 i ∧ ∃ u m bp v n bq, Hid (W2 w P Q wi u m bp v n bq ∧ EC wTk 65541 x i m bp ∧ EC wBd 256 x i n bq))
  case atStart => exact ⟨0, by omega, rfl, (.slice none 0 0), false, [], (.slice none 0 0), false, [], HP.out.2, ⟨fun _ => rfl, (fun e => by cases e), Nat.zero_le _⟩, ⟨fun _ => rfl, (fun e => by cases e), Nat.zero_le _⟩⟩
  case round =>
    obtain ⟨i, him, rfl, u, m, bp, v, n, bq, hE⟩ := hrel
    by_cases hlt : i < L
    · obtain ⟨z, hz⟩ : ∃ z : PSKW, x[i]? = some z := ⟨x[i]'(by rw [← HL.out.1]; exact hlt), List.getElem?_eq_getElem _⟩
      obtain ⟨b, ob, cb, e, hb1, hb2, -, hb3⟩ := HR.out.at HL.out.1 (by omega) (by decide)
      injection e with e1 e2 e3
      subst e1
      obtain ⟨us, hr, hcel⟩ := hb3 i z hz
      have hcN : L ≤ cb := hb1
      have hcm : cb ≤ 9223372036854775807 := hb2
      have hbp : bp.length ≤ 69000000000 := by have h1 := hE.out.2.1.len; have h2 := HL.out.2; have : i * 65541 ≤ 1048576 * 65541 := Nat.mul_le_mul_right _ (by omega); omega
      have hbq : bq.length ≤ 300000000 := by have h1 := hE.out.2.2.len; have h2 := HL.out.2; have : i * 256 ≤ 1048576 * 256 := Nat.mul_le_mul_right _ (by omega); omega
      have HG : Hid (0 < gk ∧ i + 1 ≤ L ∧ i + gk = L ∧ bp.length ≤ 69000000000 ∧ bq.length ≤ 300000000) := ⟨by omega, hlt, him, hbp, hbq⟩
      obtain ⟨ta, tl, tc, ua, ul, uc, e6⟩ := hr.psk
      obtain ⟨tn, ht⟩ : ∃ tn : Int, tn = z.2.1 := ⟨_, rfl⟩
      rw [← ht] at e6
      subst e6
      obtain ⟨r1, r23⟩ := Rel.split (us1 := [.slice ta tl tc]) (us2 := [.int .u32 tn, .slice ua ul uc]) hr rfl
      obtain ⟨r2, r3⟩ := Rel.split (us1 := [.int .u32 tn]) (us2 := [.slice ua ul uc]) r23 rfl
      obtain ⟨e7, k7⟩ : ([Value.int .u32 tn] = [Value.int .u32 (z.2.1)]) ∧ InK .u32 (z.2.1) := r2
      have hwr := wrap_u32 (show InK .u32 tn from by rw [ht]; exact k7)
      have q0 : w.cell? ⟨b, ob + i * 3, none⟩ = some (.slice ta tl tc) := hcel 0 _ rfl
      have q1 : w.cell? ⟨b, ob + i * 3 + 1, none⟩ = some (.int .u32 tn) := hcel 1 _ rfl
      have q2 : w.cell? ⟨b, ob + i * 3 + 2, none⟩ = some (.slice ua ul uc) := hcel 2 _ rfl
      have HC : Hid (w.cell? ⟨b, ob + i * 3, none⟩ = some (.slice ta tl tc) ∧ w.cell? ⟨b, ob + i * 3 + 1, none⟩ = some (.int .u32 tn) ∧ w.cell? ⟨b, ob + i * 3 + 2, none⟩ = some (.slice ua ul uc)) := ⟨q0, q1, q2⟩
      have HT : Hid (tn = z.2.1 ∧ InK .u32 tn) := ⟨ht, by rw [ht]; exact k7⟩
      have HZ : Hid (x[i]? = some z) := hz
      have R1 : Hid (Rel .byt (Bel w.heap.size) w [.slice ta tl tc] z.1) := r1
      have R3 : Hid (Rel .byt (Bel w.heap.size) w [.slice ua ul uc] z.2.2) := r3
      have hp := vlist_any P 2 1 65535 2 1 65535 rfl rfl rfl (.inr (.inl rfl)) (by decide) (.slice ta tl tc) z.1 u m bp wr hE.out.1.p (hE.out.1.relP R1.out) (by omega)
      clear hb3 hcel hr hz hb1 hb2 e2 e3 hbp hbq him r1 r23 r3 e7 k7 ht q0 q1 q2
      have q0 := cell_kept HC.out.1 hE.out.1.c
      go_wp2_with (go_at_call 100; refine hp.mono ?_)
      rintro e wA hq
      obtain rfl := hq.ret
      obtain ⟨uA, mA, ysA, hq⟩ := hq.q
      have HA : Hid (VQ (wBytes 2 1 16777216) 65537 P u wr wA uA m mA bp ysA z.1) := hq.like (raw_wbytes (by obtain ⟨_, _, _, k, _⟩ := R1.out; exact k) (by decide) (by decide))
      have W2A : Hid (W2 w P Q wA uA mA (bp ++ ysA) v n bq) := hE.out.1.stepP HA.out.wp
      clear hq hp q0
      have q1 := cell_kept HC.out.2.1 W2A.out.c
      have hp := vnumber_any P 4 tn (by decide) HT.out.2.1 (by have : tn < 4294967296 := HT.out.2.2; omega) uA mA (bp ++ ysA) wA W2A.out.p (by rw [List.length_append]; have := HA.out.len; have := HG.out.2.2.2.1; omega)
      go_wp2_with (go_at_call 110; refine (calls_vo hp).mono ?_)
      rintro e wB ⟨rfl, uB, hq⟩
      have HB : Hid (VQ (wNum 4) 4 P uA wA wB uB mA mA (bp ++ ysA) (putD 4 tn) z.2.1) := by show VQ _ _ _ _ _ _ _ _ _ _ _ _; rw [← HT.out.1]; exact VQ.num hq
      have W2B : Hid (W2 w P Q wB uB mA ((bp ++ ysA) ++ putD 4 tn) v n bq) := W2A.out.stepP HB.out.wp
      have HTK : Hid (VQ wTk 65541 P u wr wB uB m mA bp (ysA ++ putD 4 tn) z) := VQ.seq (f := fun x : PSKW => x.1) (g := fun x : PSKW => x.2.1) (x := z) HA.out HB.out
      clear hq hp q1 hwr
      have q2 := cell_kept HC.out.2.2 W2B.out.c
      have hp := vlist_any Q 1 32 255 1 32 255 rfl rfl rfl (.inl rfl) (by decide) (.slice ua ul uc) z.2.2 v n bq wB W2B.out.q (W2B.out.relQ R3.out) (by have := HG.out.2.2.2.2; omega)
      go_wp2_with (go_at_call 100; refine hp.mono ?_)
      rintro e wC hq
      obtain rfl := hq.ret
      obtain ⟨vC, nC, ysC, hq⟩ := hq.q
      have HBD : Hid (VQ wBd 256 Q v wB wC vC n nC bq ysC z) := hq.like2 (raw_wbytes (by obtain ⟨_, _, _, k, _⟩ := R3.out; exact k) (by decide) (by decide))
      have HE2 : Hid (W2 w P Q wC uB mA (bp ++ (ysA ++ putD 4 tn)) vC nC (bq ++ ysC) ∧ EC wTk 65541 x (i + 1) mA (bp ++ (ysA ++ putD 4 tn)) ∧ EC wBd 256 x (i + 1) nC (bq ++ ysC)) :=
        ⟨by have := W2B.out.stepQ HBD.out.wp; rw [List.append_assoc] at this; exact this, hE.out.2.1.step HZ.out HTK.out, hE.out.2.2.step HZ.out HBD.out⟩
      clear hq hp q2
      go_wp2
      go_roundg (gk - 1)
      case measure => have := HG.out; omega
      case rel => exact ⟨i + 1, by have := HG.out; omega, by go_num, uB, mA, _, vC, nC, _, HE2.out⟩
    · have hiN : i = L := by omega
      subst hiN
      have hvp := hE.out.1
      obtain ⟨w6, hw6⟩ : ∃ w6, w6 = wr.alloc (.cells #[.slice none 0 0, .bool false] 115) := ⟨_, rfl⟩
      have hm6 : VM w6 wr.heap.size (.slice none 0 0) false [] := by rw [hw6]; exact VM.begin wr
      have c6 : Chg Non wr w6 := by rw [hw6]; exact (Chg.refl _ _).alloc _
      have hPl := hvp.p.lt
      have hQl := hvp.q.lt
      have hs6 : wr.heap.size ≤ w6.heap.size := c6.size
      have hpa := vpart_any wr.heap.size P 2 1 2 1 rfl rfl (.inr (.inl rfl)) u m bp (.slice none 0 0) false [] w6 hm6 (hvp.p.non c6) (by omega) (fun e => by cases e) (fun k e => ⟨fun q => by have := hvp.p.own.lt k e; omega, fun q => by cases q⟩) (by simp)
      have HF : Hid (wPart m 2 1 bp = wList 2 1 16777216 wTk x ∧ wPart n 2 1 bq = wList 2 1 16777216 wBd x ∧ Chg Non wr w6 ∧ Chg Non w wr ∧ VM w6 Q v n bq ∧ wr.heap.size ≤ w6.heap.size ∧ P < wr.heap.size ∧ Q < wr.heap.size ∧ ∀ k, v.ownBlock = some k → k < wr.heap.size) := ⟨by
        have h1 := hE.out.2.1
        rw [HL.out.1] at h1
        exact h1.fin (m := 1) (n := 2) (least := 1) (by have h2 := HL.out; omega) (by decide) (by decide) tk_min (by decide) (fun e => by
          have h3 := hE.out.2.1.len
          have h4 := HL.out.1
          rw [e] at h4
          rw [show i = 0 from h4] at h3
          rw [Nat.zero_mul] at h3
          exact List.length_eq_zero_iff.1 (by omega)), by
        have h1 := hE.out.2.2
        rw [HL.out.1] at h1
        exact h1.fin (m := 1) (n := 2) (least := 1) (by have h2 := HL.out; omega) (by decide) (by decide) bd_min (by decide) (fun e => by
          have h3 := hE.out.2.2.len
          have h4 := HL.out.1
          rw [e] at h4
          rw [show i = 0 from h4] at h3
          rw [Nat.zero_mul] at h3
          exact List.length_eq_zero_iff.1 (by omega)), c6, hvp.c, hvp.q.non c6, hs6, hPl, hQl, fun k e => hvp.q.own.lt k e⟩
      have HW6 : Hid (w6 = wr.alloc (.cells #[.slice none 0 0, .bool false] 115)) := hw6
      clear hvp hw6 hm6 c6 hPl hQl hs6
      go_wp2_with fail
      rw [← HW6.out]
      refine hpa.mono ?_
      rintro e w7 hq
      obtain rfl := hq.ret
      obtain ⟨v7, m7, ys7, hq⟩ := hq.q
      have H7 : Hid (VQ (wList 2 1 16777216 wTk) 16777217 wr.heap.size (.slice none 0 0) w6 w7 v7 false m7 [] ys7 x) := hq.like2 HF.out.1
      clear hq hpa
      have hpa := vpart_any wr.heap.size Q 2 1 2 1 rfl rfl (.inr (.inl rfl)) v n bq v7 m7 ([] ++ ys7) w7 H7.out.wp.wm (HF.out.2.2.2.2.1.keep H7.out.wp.chg (fun s => by
          have := HF.out.2.2.2.2.2.2.2.1
          rcases s with s | s
          · omega
          · cases s) (fun k e s => by
          have := HF.out.2.2.2.2.2.2.2.2 k e
          rcases s with s | s
          · omega
          · cases s)) (by have := HF.out.2.2.2.2.2.2.2.1; omega) (fun e => by
          have := HF.out.2.2.2.2.2.2.2.1
          have := HF.out.2.2.2.2.2.1
          rcases H7.out.wp.gr with g | ⟨g, g1, g2⟩
          · rw [g] at e; cases e
          · rw [g1] at e; injection e with e; omega) (fun k e => ⟨fun q => by have := HF.out.2.2.2.2.2.2.2.2 k e; omega, fun q => by
          have := HF.out.2.2.2.2.2.2.2.2 k e
          have := HF.out.2.2.2.2.2.1
          rcases H7.out.wp.gr with g | ⟨g, g1, g2⟩
          · rw [g] at q; cases q
          · rw [g1] at q; injection q with q; omega⟩) (by have := H7.out.len; simp only [List.nil_append]; omega)
      go_wp2_with (go_at_call 111; refine hpa.mono ?_)
      rintro e w8 hq
      obtain rfl := hq.ret
      obtain ⟨v2, m2, ys2, hq⟩ := hq.q
      have H8 : Hid (VQ (wList 2 1 16777216 wBd) 16777217 wr.heap.size v7 w7 w8 v2 m7 m2 ([] ++ ys7) ys2 x) := hq.like2 HF.out.2.1
      have HQ8 : Hid (VQ wPSKs 33554434 wr.heap.size (.slice none 0 0) w6 w8 v2 false m2 [] (ys7 ++ ys2) x) := VQ.seq (f := fun l : List PSKW => l) (g := fun l : List PSKW => l) (x := x) H7.out H8.out
      clear hq hpa
      have hd := vdone_any wr.heap.size v2 m2 _ w8 HQ8.out.wp.wm
      cases m2 with
      | true =>
        rw [if_pos rfl] at hd
        go_wp2_with (go_at_call 101; refine hd.mono ?_)
        rintro e w9 ⟨rfl, rfl⟩
        clear hd
        go_wp2
        go_ret
        exact ⟨_, rfl, (vo_none HQ8.out HF.out.2.2.1).ahead HF.out.2.2.2.1⟩
      | false =>
        rw [if_neg (by decide)] at hd
        go_wp2_with (go_at_call 101; refine hd.mono ?_)
        rintro e w9 ⟨rfl, rfl⟩
        clear hd
        go_wp2
        go_ret
        exact ⟨_, rfl, (vo_some HQ8.out HF.out.2.2.1).ahead HF.out.2.2.2.1⟩

end Go.Proofs.Ytdhckndehijemaa

namespace Go.Proofs.Ytdhckndehijemaa
open Go.RowKit
set_option linter.unusedVariables false
set_option maxRecDepth 100000

def findX (t : Int) : List Ext → Option (List Int)
  | [] => none
  | x :: l => if x.1 = t then some x.2 else findX t l
theorem findX_here {t : Int} {l : List Ext} {i : Nat} {z : Ext} (h : l[i]? = some z) (e : z.1 = t) : findX t (l.drop i) = some z.2 := by
  obtain ⟨hi, hz⟩ := List.getElem?_eq_some_iff.1 h
  rw [List.drop_eq_getElem_cons hi, hz]
  show (if z.1 = t then some z.2 else findX t (l.drop (i + 1))) = some z.2
  rw [if_pos e]
theorem findX_next {t : Int} {l : List Ext} {i : Nat} {z : Ext} (h : l[i]? = some z) (e : ¬ z.1 = t) : findX t (l.drop i) = findX t (l.drop (i + 1)) := by
  obtain ⟨hi, hz⟩ := List.getElem?_eq_some_iff.1 h
  rw [List.drop_eq_getElem_cons hi, hz]
  show (if z.1 = t then some z.2 else findX t (l.drop (i + 1))) = findX t (l.drop (i + 1))
  rw [if_neg e]
theorem findX_end {t : Int} {l : List Ext} {i : Nat} (h : i = l.length) : findX t (l.drop i) = none := by
  rw [h, List.drop_length]
  rfl
/-- What a search answers. -/
structure FO (o : Option (List Int)) (w w' : World) (e : Ending) : Prop where
  out : ∃ ao n c, e = .returned (.tuple #[.slice ao n c, .bool o.isSome]) ∧ OwnN w w' (.slice ao n c) (o.getD [])
theorem FO.found {o : Option (List Int)} {w w' : World} {ao : Option Addr} {n c : Nat} {xs : List Int} (h : o = some xs) (k : OwnN w w' (.slice ao n c) xs) : FO o w w' (.returned (.tuple #[.slice ao n c, .bool true])) := by
  subst h
  exact ⟨ao, n, c, rfl, k⟩
theorem FO.none {o : Option (List Int)} {w w' : World} (h : o = none) (k : Chg Non w w') : FO o w w' (.returned (.tuple #[.slice none 0 0, .bool false])) := by
  subst h
  exact ⟨Option.none, 0, 0, rfl, (OwnN.nought w).after k⟩
theorem OwnN.shape {w w' : World} {v : Value} {xs : List Int} (h : OwnN w w' v xs) : ∃ ao n c, v = .slice ao n c := by
  obtain ⟨ao, n, c, e, -⟩ := h.own.rd.shape
  exact ⟨ao, n, c, e⟩


set_option maxHeartbeats 6400000 in
theorem find_any (ao : Option Addr) (L c : Nat) (t : Int) (x : List Ext) (w : World) (h : Rel (.lst tExt) (Bel w.heap.size) w [.slice ao L c] x) (hel : ∀ a ∈ (show List Ext from x), List.length (α := Int) a.2 ≤ 140737488355328) : Calls Try.prog 97 #[.slice ao L c, .int .u16 t] w fun e w' => FO (findX t x) w w' e := by
  have hL : L = List.length (α := Ext) x ∧ L ≤ 9223372036854775807 := by
    obtain ⟨ao', n', c', e, e2, e3, e4, -⟩ := id h
    injection e with e
    injection e with _ e e5
    have e4' : c' ≤ 9223372036854775807 := e4
    exact ⟨e.trans e2, by omega⟩
  have HL : Hid (L = List.length (α := Ext) x ∧ L ≤ 9223372036854775807) := hL
  have HR : Hid (Rel (.lst tExt) (Bel w.heap.size) w [.slice ao L c] x) := h
  have HE : Hid (∀ a ∈ (show List Ext from x), List.length (α := Int) a.2 ≤ 140737488355328) := hel
  have hLm : L ≤ 9223372036854775807 := hL.2
  clear h hel hL
  go_enter Try.func97, Try.ntmps97
  go_wp2
  go_loopg [10] L (fun mm kv wi => ∃ i : Nat, i + mm = L ∧ kv = .int .i64 i ∧ Hid (findX t x = findX t (x.drop i) ∧ Chg Non w wi))
  case atStart => exact ⟨0, by omega, rfl, rfl, Chg.refl _ _⟩
  case round =>
    obtain ⟨i, him, rfl, hE⟩ := hrel
    by_cases hlt : i < L
    · obtain ⟨z, hz⟩ : ∃ z : Ext, x[i]? = some z := ⟨x[i]'(by rw [← HL.out.1]; exact hlt), List.getElem?_eq_getElem _⟩
      obtain ⟨b, ob, cb, e, hb1, hb2, -, hb3⟩ := HR.out.at HL.out.1 (by omega) (by decide)
      injection e with e1 e2 e3
      subst e1
      obtain ⟨us, hr, hcel⟩ := hb3 i z hz
      have hcN : L ≤ cb := hb1
      have hcm : cb ≤ 9223372036854775807 := hb2
      obtain ⟨ea, el, ec, rfl, hr1, hr2⟩ := hr.ext
      obtain ⟨ti, hti⟩ : ∃ ti : Int, ti = z.1 := ⟨_, rfl⟩
      rw [← hti] at hcel hr
      have q0 : w.cell? ⟨b, ob + i * 2, none⟩ = some (.int .u16 ti) := hcel 0 _ rfl
      have q1 : w.cell? ⟨b, ob + i * 2 + 1, none⟩ = some (.slice ea el ec) := hcel 1 _ rfl
      have q0 := cell_kept q0 hE.out.2
      have q1 := cell_kept q1 hE.out.2
      obtain ⟨r1, r2⟩ := Rel.split (us1 := [.int .u16 ti]) (us2 := [.slice ea el ec]) hr rfl
      obtain ⟨v', e7, hrd, -⟩ := r2
      injection e7 with e7
      subst e7
      have HD : Hid (Rd wr (.slice ea el ec) z.2 ∧ List.length (α := Int) z.2 ≤ 140737488355328) := ⟨hrd.chg hE.out.2, HE.out z (List.mem_of_getElem? hz)⟩
      have HZ : Hid (x[i]? = some z ∧ ti = z.1) := ⟨hz, hti⟩
      have HG : Hid (0 < gk ∧ i + 1 ≤ L ∧ i + gk = L) := ⟨by omega, hlt, him⟩
      have hk1 : i + 1 ≤ 9223372036854775807 := by omega
      clear hb3 hcel hr hr1 hr2 hz hb1 hb2 e2 e3 him hti r1 hrd
      obtain ⟨W1, hW1⟩ : ∃ W1, W1 = wr.alloc (.cells #[.int .u16 ti, .slice ea el ec] 135) := ⟨_, rfl⟩
      have CW : Hid (Chg Non wr W1) := by show Chg _ _ _; rw [hW1]; exact (Chg.refl _ _).alloc _
      have HW : Hid (W1 = wr.alloc (.cells #[.int .u16 ti, .slice ea el ec] 135)) := hW1
      clear hW1
      by_cases hzt : ti = t
      · subst hzt
        have hp := clone_any (.slice ea el ec) z.2 W1 (HD.out.1.chg CW.out) HD.out.2
        rw [HW.out] at hp
        go_wp2_with (go_at_call 99; refine hp.mono ?_)
        first | (rintro e w5 v5 rfl hq') | (rintro e w5 ⟨v5, rfl, hq'⟩)
        rw [← HW.out] at hq'
        obtain ⟨bo, bn, bc, rfl⟩ := hq'.shape
        have HQ : Hid (OwnN w w5 (.slice bo bn bc) z.2) := (hq'.from CW.out).from hE.out.2
        clear hq' hp
        go_wp2
        go_ret2
        exact FO.found (hE.out.1.trans (findX_here HZ.out.1 HZ.out.2.symm)) HQ.out
      · have HN : Hid (¬ ti = t) := hzt
        go_wp2_with fail
        go_roundg (gk - 1)
        case measure => have := HG.out; omega
        case rel => exact ⟨i + 1, by have := HG.out; omega, by go_num, hE.out.1.trans (findX_next HZ.out.1 (by rw [← HZ.out.2]; exact HN.out)), by first | exact hE.out.2.two CW.out | (have := hE.out.2.two CW.out; rw [HW.out] at this; exact this)⟩
    · have hiN : i = L := by omega
      subst hiN
      go_wp2
      go_ret2
      exact FO.none (hE.out.1.trans (findX_end HL.out.1)) hE.out.2

set_option maxHeartbeats 6400000 in
theorem dfind_any (ao : Option Addr) (L c : Nat) (t : Int) (x : List Ext) (w : World) (h : Rel (.lst tExt) (Bel w.heap.size) w [.slice ao L c] x) (hel : ∀ a ∈ (show List Ext from x), List.length (α := Int) a.2 ≤ 140737488355328) : Calls Try.prog 98 #[.slice ao L c, .int .u16 t] w fun e w' => FO (findX t x) w w' e := by
  have hL : L = List.length (α := Ext) x ∧ L ≤ 9223372036854775807 := by
    obtain ⟨ao', n', c', e, e2, e3, e4, -⟩ := id h
    injection e with e
    injection e with _ e e5
    have e4' : c' ≤ 9223372036854775807 := e4
    exact ⟨e.trans e2, by omega⟩
  have HL : Hid (L = List.length (α := Ext) x ∧ L ≤ 9223372036854775807) := hL
  have HR : Hid (Rel (.lst tExt) (Bel w.heap.size) w [.slice ao L c] x) := h
  have HE : Hid (∀ a ∈ (show List Ext from x), List.length (α := Int) a.2 ≤ 140737488355328) := hel
  have hLm : L ≤ 9223372036854775807 := hL.2
  clear h hel hL
  go_enter Try.func98, Try.ntmps98
  go_wp2
  go_loopg [6] L (fun mm kv wi => ∃ i : Nat, i + mm = L ∧ kv = .int .i64 i ∧ Hid (findX t x = findX t (x.drop i) ∧ Chg Non w wi))
  case atStart => exact ⟨0, by omega, rfl, rfl, Chg.refl _ _⟩
  case round =>
    obtain ⟨i, him, rfl, hE⟩ := hrel
    by_cases hlt : i < L
    · obtain ⟨z, hz⟩ : ∃ z : Ext, x[i]? = some z := ⟨x[i]'(by rw [← HL.out.1]; exact hlt), List.getElem?_eq_getElem _⟩
      obtain ⟨b, ob, cb, e, hb1, hb2, -, hb3⟩ := HR.out.at HL.out.1 (by omega) (by decide)
      injection e with e1 e2 e3
      subst e1
      obtain ⟨us, hr, hcel⟩ := hb3 i z hz
      have hcN : L ≤ cb := hb1
      have hcm : cb ≤ 9223372036854775807 := hb2
      obtain ⟨ea, el, ec, rfl, hr1, hr2⟩ := hr.ext
      obtain ⟨ti, hti⟩ : ∃ ti : Int, ti = z.1 := ⟨_, rfl⟩
      rw [← hti] at hcel hr
      have q0 : w.cell? ⟨b, ob + i * 2, none⟩ = some (.int .u16 ti) := hcel 0 _ rfl
      have q1 : w.cell? ⟨b, ob + i * 2 + 1, none⟩ = some (.slice ea el ec) := hcel 1 _ rfl
      have q0 := cell_kept q0 hE.out.2
      have q1 := cell_kept q1 hE.out.2
      obtain ⟨r1, r2⟩ := Rel.split (us1 := [.int .u16 ti]) (us2 := [.slice ea el ec]) hr rfl
      obtain ⟨v', e7, hrd, -⟩ := r2
      injection e7 with e7
      subst e7
      have HD : Hid (Rd wr (.slice ea el ec) z.2 ∧ List.length (α := Int) z.2 ≤ 140737488355328) := ⟨hrd.chg hE.out.2, HE.out z (List.mem_of_getElem? hz)⟩
      have HZ : Hid (x[i]? = some z ∧ ti = z.1) := ⟨hz, hti⟩
      have HG : Hid (0 < gk ∧ i + 1 ≤ L ∧ i + gk = L) := ⟨by omega, hlt, him⟩
      have hk1 : i + 1 ≤ 9223372036854775807 := by omega
      clear hb3 hcel hr hr1 hr2 hz hb1 hb2 e2 e3 him hti r1 hrd
      by_cases hzt : ti = t
      · subst hzt
        have q1b : (wr.alloc (.cells #[] 5)).cell? ⟨b, ob + i * 2 + 1, none⟩ = some (.slice ea el ec) := cell_kept q1 ((Chg.refl _ _).alloc _)
        go_wp2_with (at_builtin; refine wpList_app _ rfl (.tmp 20) (.tmp 25) rfl _ _ [] z.2 rfl rfl (OwnV.empty wr) (HD.out.1.chg ((Chg.refl _ _).alloc _)) (by have := HD.out.2; simpa using this) ?_)
        intro v' w' h1 h2 h3
        have hq := (OwnN.start wr wr (Chg.refl _ _)).more h1 h2 (by rw [World.size_alloc]; exact h3)
        obtain ⟨bo, bn, bc, rfl⟩ := hq.shape
        have HQ : Hid (OwnN w w' (.slice bo bn bc) z.2) := hq.from hE.out.2
        clear hq h1 h2 h3
        go_wp2
        go_ret2
        exact FO.found (hE.out.1.trans (findX_here HZ.out.1 HZ.out.2.symm)) HQ.out
      · have HN : Hid (¬ ti = t) := hzt
        go_wp2_with fail
        go_roundg (gk - 1)
        case measure => have := HG.out; omega
        case rel => exact ⟨i + 1, by have := HG.out; omega, by go_num, hE.out.1.trans (findX_next HZ.out.1 (by rw [← HZ.out.2]; exact HN.out)), hE.out.2⟩
    · have hiN : i = L := by omega
      subst hiN
      go_wp2
      go_ret2
      exact FO.none (hE.out.1.trans (findX_end HL.out.1)) hE.out.2
end Go.Proofs.Ytdhckndehijemaa
