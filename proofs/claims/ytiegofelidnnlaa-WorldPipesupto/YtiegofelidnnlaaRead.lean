/-
  The bytes that a source gives, as a list; and that the program's Read gives them.
-/
import Derived.Test.YtiegofelidnnlaaSmall
import Derived.Deep.RegionWith
import Derived.OpenShut
import Derived.Deep.DeepCutAuto
namespace Go.Proofs.Ytiegofelidnnlaa
open Go.RowKit
set_option linter.unusedVariables false

def bytes8 (z : Int) : List Int := (List.range 8).map (u8At z)

/-- One byte: what comes next, or of the next number. -/
def step1 (s : List Int × Int) : Int × (List Int × Int) :=
  match s.1 with
  | x :: r => (x, (r, s.2))
  | [] => (u8At (num s.2) 0, ((bytes8 (num s.2)).tail, nst s.2))

def draw : Nat → List Int × Int → List Int × (List Int × Int)
  | 0, s => ([], s)
  | n + 1, s => ((step1 s).1 :: (draw n (step1 s).2).1, (draw n (step1 s).2).2)

theorem draw_add (m n : Nat) (s : List Int × Int) : draw (m + n) s = ((draw m s).1 ++ (draw n (draw m s).2).1, (draw n (draw m s).2).2) := by
  induction m generalizing s with
  | zero => simp [draw]
  | succ m ih =>
    rw [show m + 1 + n = (m + n) + 1 from by omega]
    simp only [draw, ih, List.cons_append]

theorem draw_ready (k : Nat) (l : List Int) (st : Int) (h : k ≤ l.length) : draw k (l, st) = (l.take k, (l.drop k, st)) := by
  induction k generalizing l with
  | zero => simp [draw]
  | succ k ih =>
    match l, h with
    | x :: r, h =>
      simp only [draw, step1]
      rw [ih r (by simpa using h)]
      simp

theorem draw_refill (n : Nat) (st : Int) (h : 0 < n) : draw n ([], st) = draw n (bytes8 (num st), nst st) := by
  match n, h with
  | n + 1, _ => rfl

theorem draw_len (n : Nat) (s : List Int × Int) : (draw n s).1.length = n := by
  induction n generalizing s with
  | zero => rfl
  | succ n ih => simp [draw, ih]

theorem bytes8_len (z : Int) : (bytes8 z).length = 8 := by simp [bytes8]

/-- k of what is ready, behind m that were drawn. -/
theorem draw_more (m k : Nat) (s : List Int × Int) (l : List Int) (st : Int) (hs : (draw m s).2 = (l, st)) (h : k ≤ l.length) :
    draw (m + k) s = ((draw m s).1 ++ l.take k, (l.drop k, st)) := by
  rw [draw_add, hs, draw_ready k l st h]

theorem draw_more8 (m k : Nat) (s : List Int × Int) (st : Int) (hs : (draw m s).2 = ([], st)) (h0 : 0 < k) (h : k ≤ 8) :
    draw (m + k) s = ((draw m s).1 ++ (bytes8 (num st)).take k, ((bytes8 (num st)).drop k, nst st)) := by
  rw [draw_add, hs, draw_refill k st h0, draw_ready k _ _ (by rw [bytes8_len]; exact h)]

theorem RandA.cell0 {w : World} {r : Nat} {v : Value} {xs : List Int} {st : Int} (h : RandA w r v xs st) : w.cell? ⟨r, 0, none⟩ = some v := by
  rw [cell_of_row w r 0 _ 62 (0, 0) h.1]; rfl
theorem RandA.cell1 {w : World} {r : Nat} {v : Value} {xs : List Int} {st : Int} (h : RandA w r v xs st) : w.cell? ⟨r, 1, none⟩ = some (.int .u64 st) := by
  rw [cell_of_row w r 1 _ 62 (0, 0) h.1]; rfl
theorem RandA.free {w : World} {r : Nat} {v : Value} {xs : List Int} {st : Int} (h : RandA w r v xs st) (o : Nat) : w.frozen? ⟨r, o, none⟩ = false := by
  simp [World.frozen?, h.1]
theorem RandA.lt {w : World} {r : Nat} {v : Value} {xs : List Int} {st : Int} (h : RandA w r v xs st) : r < w.heap.size := (Array.getElem?_eq_some_iff.1 h.1).1

theorem RandA.keep {w w' : World} {r : Nat} {v : Value} {xs : List Int} {st : Int} (h : RandA w r v xs st) (h1 : w'.heap[r]? = w.heap[r]?) (h2 : ∀ k, v.ownBlock = some k → w'.heap[k]? = w.heap[k]?) : RandA w' r v xs st :=
  ⟨h1.trans h.1, h.2.keep h2⟩

theorem heap_setCell_at (w : World) (r o : Nat) (u : Value) (cs : Array Value) (t : TypeId) (h : w.heap[r]? = some (.cells cs t (0, 0))) :
    (w.setCell ⟨r, o, none⟩ u).heap[r]? = some (.cells (cs.setIfInBounds o u) t (0, 0)) := by
  show (w.heap.modify r _)[r]? = _
  rw [Array.getElem?_modify, if_pos rfl, h]
  rfl

/-- A slice's length: for a loop's measure. -/
def lenV : Value → Nat | .slice _ n _ => n | _ => 0

theorem Tight.nil_of {w : World} {v : Value} (h : Tight w v []) : v = .slice none 0 0 := by
  rcases h with ⟨h, _⟩ | ⟨x, n, rfl, hn, h0, hmx, hx⟩
  · exact h
  · simp at hn; omega

theorem Tight.some_of {w : World} {v : Value} {l : List Int} (h : Tight w v l) (hl : l ≠ []) : ∃ x, v = .slice (some x) l.length l.length ∧ 0 < l.length ∧ l.length ≤ maxLen := by
  rcases h with ⟨_, h⟩ | ⟨x, n, rfl, hn, h0, hmx, hx⟩
  · exact absurd h hl
  · subst hn
    exact ⟨x, rfl, h0, hmx⟩

/-- What cut gives, of a slice that is not nil. -/
def cutA (x : Addr) (f t : Int) : Option Addr := if f = t then none else some (x.add f.toNat)
def cutN (f t : Int) : Nat := t.toNat - f.toNat

theorem cut_val (x : Addr) (n c : Nat) (f t : Int) (w : World) (h0 : 0 ≤ f) (h1 : f ≤ t) (h2 : t ≤ c) (h3 : c ≤ 9223372036854775807) :
    Calls Try.prog 29 #[.slice (some x) n c, .int .i64 f, .int .i64 t] w fun e w' => e = .returned (.slice (cutA x f t) (cutN f t) (cutN f t)) ∧ w' = w := by
  unfold cutA cutN
  obtain ⟨f, rfl⟩ := Int.eq_ofNat_of_zero_le h0
  obtain ⟨t, rfl⟩ := Int.eq_ofNat_of_zero_le (Int.le_trans h0 h1)
  by_cases hft : f = t
  · subst hft
    rw [if_pos rfl, Nat.sub_self]
    exact cut_nil _ f w
  · rw [if_neg (by omega)]
    simp only [Int.toNat_natCast]
    exact cut_some x n c f t w (by omega) (by omega) h3

theorem cutV_tight {w : World} {x : Addr} {n c : Nat} {l : List Int} (h : Rd w (.slice (some x) n c) l) (f t : Int) (h0 : 0 ≤ f) (h1 : f ≤ t) (h2 : t = l.length) :
    Tight w (.slice (cutA x f t) (cutN f t) (cutN f t)) (l.drop f.toNat) ∧ ∀ k, (Value.slice (cutA x f t) (cutN f t) (cutN f t)).ownBlock = some k → k = x.block := by
  obtain ⟨ao, n', c', e, hn, hc, hmx, h00, hx⟩ := h
  cases e
  unfold maxLen at hmx
  obtain ⟨f, rfl⟩ := Int.eq_ofNat_of_zero_le h0
  subst h2
  unfold cutA cutN
  by_cases hft : f = l.length
  · subst hft
    rw [if_pos rfl, Nat.sub_self]
    exact ⟨.inl ⟨rfl, by simp⟩, fun k e => by simp [Value.ownBlock] at e⟩
  · rw [if_neg (by omega)]
    have hb : (x.add f).block = x.block := by unfold Addr.add; split <;> rfl
    simp only [Int.toNat_natCast]
    refine ⟨.inr ⟨_, _, rfl, by simp, by omega, by unfold maxLen; omega, fun j u hj => ?_⟩, fun k e => ?_⟩
    · rw [List.getElem?_drop] at hj
      rw [← hx x rfl (f + j) u hj]
      congr 1
      unfold Addr.add
      by_cases hf0 : f = 0 <;> by_cases hj0 : j = 0 <;> simp [hf0, hj0, Nat.add_assoc]
    · simp only [Value.ownBlock, hb] at e
      cases e
      rfl

theorem rd_take {w : World} {x : Addr} {n c m : Nat} {l : List Int} (h : Rd w (.slice (some x) n c) l) (hm : m ≤ n) : Rd w (.slice (some x) m c) (l.take m) := by
  obtain ⟨ao, n', c', e, hn, hc, hmx, h0, hx⟩ := h
  cases e
  refine ⟨_, _, _, rfl, by simp; omega, by omega, hmx, fun e => by (cases e), fun y e j u hj => ?_⟩
  cases e
  rw [List.getElem?_take] at hj
  split at hj
  · exact hx x rfl j u hj
  · cases hj

/-- What a round of Read leaves. -/
theorem read_close {w1 wc w3 : World} {r k N L : Nat} {x : Addr} {v : Value} {l1 : List Int} {st1 : Int} {S : List Int × Int} {f t : Int} (j K : Nat)
    (hR : RandA wc r (.slice (some x) L L) l1 st1) (hc : Chg (One r) w1 wc) (hd : ∀ j, 0 < j → j ≤ L → draw (k + j) S = ((draw k S).1 ++ l1.take j, (l1.drop j, st1)))
    (ho : Own w3 w1.heap.size 0 K N ((draw k S).1 ++ l1.take j)) (hc3 : Chg (One w1.heap.size) wc w3) (hK : K = k + j) (hj0 : 0 < j) (hjL : j ≤ l1.length) (hf : f = j) (ht : t = l1.length)
    (hx1 : x.block ≠ r) (hx2 : x.block ≠ w1.heap.size) (hx3 : v.ownBlock = some x.block ∨ w1.heap.size ≤ x.block) (hrlt : r < w1.heap.size) (hl1 : l1.length ≤ 140737488355328) :
    ∃ (vv : Value) (l : List Int) (st' : Int), Own (w3.setCell ⟨r, 0, none⟩ (.slice (cutA x f t) (cutN f t) (cutN f t))).drew w1.heap.size 0 K N (draw K S).1 ∧ (draw K S).2 = (l, st') ∧
      RandA (w3.setCell ⟨r, 0, none⟩ (.slice (cutA x f t) (cutN f t) (cutN f t))).drew r vv l st' ∧ Chg (One r) w1 (w3.setCell ⟨r, 0, none⟩ (.slice (cutA x f t) (cutN f t) (cutN f t))).drew ∧
      vv.ownBlock ≠ some r ∧ vv.ownBlock ≠ some w1.heap.size ∧ (∀ j, vv.ownBlock = some j → v.ownBlock = some j ∨ w1.heap.size ≤ j) ∧ l.length ≤ 140737488355328 := by
  have hLl : L = l1.length := by
    obtain ⟨_, _, _, e, hx, _⟩ := hR.2.rd
    cases e
    exact hx
  have hdj := hd j hj0 (by omega)
  rw [← hK] at hdj
  obtain ⟨ht1, ht2⟩ := cutV_tight hR.2.rd f t (by omega) (by omega) ht
  generalize hv2 : Value.slice (cutA x f t) (cutN f t) (cutN f t) = v2 at *
  have hgw : w1.heap.size < w3.heap.size := ho.lt
  have hrw : r < wc.heap.size := hR.lt
  have hxw : x.block < wc.heap.size := hR.2.lt _ rfl
  have hr3 : w3.heap[r]? = wc.heap[r]? := hc3.block r hrw (fun e => by cases e; omega)
  have hkeep : ∀ q, q ≠ r → (w3.setCell ⟨r, 0, none⟩ v2).drew.heap[q]? = w3.heap[q]? := fun q hq => Below.heap_setCell _ _ _ _ hq
  refine ⟨v2, l1.drop j, st1, ?_, by rw [hdj], ⟨?_, ?_⟩, ?_, ?_, ?_, ?_, ?_⟩
  · rw [hdj]; exact ho.keep (hkeep _ (by omega))
  · have := heap_setCell_at w3 r 0 v2 _ 62 (hr3.trans hR.1)
    exact this
  · have hfj : f.toNat = j := by omega
    rw [hfj] at ht1
    refine ht1.keep (fun q e => ?_)
    have := ht2 q e
    subst this
    rw [hkeep _ hx1]
    exact hc3.block _ hxw (fun e => hx2 e)
  · exact ((hc.trans hc3 (fun i hi e => by cases e; omega)).setCell (p := ⟨r, 0, none⟩) (fun _ => rfl) _).drew
  · exact fun e => hx1 (ht2 _ e).symm
  · exact fun e => hx2 (ht2 _ e).symm
  · intro q e
    have := ht2 q e
    subst this
    exact hx3
  · simp; omega

theorem num_nonneg (st : Int) : 0 ≤ num st := (bounds_u64 (wf_bits BinOp.xor .u64 (mixB (mixA (nst st))) (mixB (mixA (nst st)) / 2147483648))).1

set_option maxHeartbeats 1000000 in
theorem read_any (r : Nat) (v : Value) (xs : List Int) (st n : Int) (w : World) (h : RandA w r v xs st) (hl : xs.length ≤ 140737488355328) (hvr : v.ownBlock ≠ some r) :
    Calls Try.prog 15 #[.pointer (some ⟨r, 0, none⟩), .int .i64 n] w fun e w' => ∃ N : Nat, (N : Int) = max 0 (min n 65536) ∧ ∃ g v', e = .returned (.slice (some ⟨g, 0, none⟩) N N) ∧ Own w' g 0 N N (draw N (xs, st)).1 ∧
      RandA w' r v' (draw N (xs, st)).2.1 (draw N (xs, st)).2.2 ∧ Chg (One r) w w' ∧ w.heap.size ≤ g ∧ v'.ownBlock ≠ some r ∧ v'.ownBlock ≠ some g ∧ ∀ k, v'.ownBlock = some k → v.ownBlock = some k ∨ w.heap.size ≤ k := by
  obtain ⟨N, hN⟩ : ∃ N : Nat, (N : Int) = max 0 (min n 65536) := ⟨(max 0 (min n 65536)).toNat, by omega⟩
  have HNN : Hid ((N : Int) = max 0 (min n 65536)) := hN
  have hN2 : N ≤ 65536 := by omega
  clear hN
  obtain ⟨i0, hi, hz0, hz1, hz2⟩ := info_parts Try.info5
  go_enter Try.func15, Try.ntmps15
  go_wp2_with fail
  refine (between_any _ _ _).mono ?_
  rintro e w1 ⟨rfl, rfl⟩
  rw [← HNN.out]
  go_wp2_with (at_make; refine wpList_make_own _ rfl _ _ 32 rfl w1.heap.size 5 i0 (.int .u8 0) 1 Try.underlying32 hi hz0 hz1 _ _ _ N rfl rfl rfl (by rw [hz2]; omega) (by unfold maxLen; omega) (Nat.le_refl _) ?_)
  intro w2 hrow hgrow
  have hown := Own.of_row (xs := []) hrow
  have hc2 := Chg.of_none hgrow
  have hgl := hown.lt
  clear hrow hgrow hi hz0 hz1 hz2
  have hR2 : RandA w2 r v xs st := h.keep (hc2.block r h.lt (fun e => e)) (fun k e => hc2.block k (h.2.lt k e) (fun e => e))
  go_wp2_with fail
  have HC2 : Hid (Chg Non w1 w2) := hc2
  have HO2 : Hid (Own w2 w1.heap.size 0 0 N []) := hown
  have HR2 : Hid (RandA w2 r v xs st) := hR2
  have HV : Hid (∀ k, v.ownBlock = some k → k < w1.heap.size) := h.2.lt
  have HVR : Hid (v.ownBlock ≠ some r) := hvr
  have hrlt : r < w1.heap.size := h.lt
  clear hc2 hown hR2 hvr h
  go_loopw [5] (fun out wr => ∃ (k : Nat) (vv : Value) (l : List Int) (st' : Int), k ≤ N ∧ out = .slice (some ⟨w1.heap.size, 0, none⟩) k N ∧ Own wr w1.heap.size 0 k N (draw k (xs, st)).1 ∧ (draw k (xs, st)).2 = (l, st') ∧
      RandA wr r vv l st' ∧ Chg (One r) w1 wr ∧ vv.ownBlock ≠ some r ∧ vv.ownBlock ≠ some w1.heap.size ∧ (∀ j, vv.ownBlock = some j → v.ownBlock = some j ∨ w1.heap.size ≤ j) ∧ l.length ≤ 140737488355328)
    (fun out _ => N - lenV out)
  case atStart =>
    exact ⟨0, v, xs, st, Nat.zero_le _, rfl, HO2.out, rfl, HR2.out, HC2.out.non _, HVR.out, fun e => by have := HV.out _ e; omega, fun j e => .inl e, hl⟩
  case round =>
    obtain ⟨k, vv, l, st', hk, rfl, ho, hd, hR, hc, hn1, hn2, hn3, hll⟩ := hrel
    by_cases hlt : k < N
    · have c0 := hR.cell0
      have c1 := hR.cell1
      have f1 := hR.free
      have hrw := hR.lt
      obtain ⟨ao, nn, hsh⟩ := hR.2.shape
      subst hsh
      have HH : Hid (Own wr w1.heap.size 0 k N (draw k (xs, st)).1 ∧ (draw k (xs, st)).2 = (l, st') ∧ RandA wr r (.slice ao nn nn) l st' ∧ Chg (One r) w1 wr ∧ (Value.slice ao nn nn).ownBlock ≠ some r ∧ (Value.slice ao nn nn).ownBlock ≠ some w1.heap.size ∧ (∀ j, (Value.slice ao nn nn).ownBlock = some j → v.ownBlock = some j ∨ w1.heap.size ≤ j)) := ⟨ho, hd, hR, hc, hn1, hn2, hn3⟩
      clear ho hd hR hc hn1 hn2 hn3
      go_upto_if 20 with fail
      go_cut [] (fun wc => ∃ (x : Addr) (l1 : List Int) (st1 : Int), RandA wc r (.slice (some x) l1.length l1.length) l1 st1 ∧ Own wc w1.heap.size 0 k N (draw k (xs, st)).1 ∧ Chg (One r) w1 wc ∧ x.block ≠ r ∧ x.block ≠ w1.heap.size ∧
        (v.ownBlock = some x.block ∨ w1.heap.size ≤ x.block) ∧ l1.length ≤ 140737488355328 ∧ 0 < l1.length ∧ ∀ j, 0 < j → j ≤ l1.length → draw (k + j) (xs, st) = ((draw k (xs, st)).1 ++ l1.take j, (l1.drop j, st1)))
      case first =>
        by_cases hn0 : nn = 0
        · subst hn0
          obtain ⟨ho, hd, hR, hc, hn1, hn2, hn3⟩ := HH.out
          have hle : l = [] := by
            obtain ⟨_, _, _, e, hx, _⟩ := hR.2.rd
            cases e
            exact List.eq_nil_of_length_eq_zero hx.symm
          subst hle
          have HD : Hid ((draw k (xs, st)).2 = ([], st')) := hd
          have hgl2 : w1.heap.size < wr.heap.size := ho.lt
          clear ho hd hR hc hn1 hn2 hn3
          go_wp2_with fail
          refine (next_any r st' _ c1 (f1 1)).mono ?_
          rintro e w3 ⟨rfl, hw3⟩
          have hz3 : w3.heap.size ≤ wr.heap.size := by rw [hw3]; simp [World.setCell]
          have hz3' : wr.heap.size ≤ w3.heap.size := by rw [hw3]; simp [World.setCell]
          have HW3 : Hid (w3 = wr.setCell ⟨r, 1, none⟩ (.int .u64 (nst st'))) := hw3
          clear hw3 c0 c1 f1
          go_wp2_with fail
          refine (bytesOf_any (num st') _ (num_nonneg st')).mono ?_
          rintro e w4 ⟨rfl, ho4, hc4⟩
          have hR3 : w3.heap[r]? = some (.cells #[.slice ao 0 0, .int .u64 (nst st')] 62 (0, 0)) := by
            rw [HW3.out, heap_setCell_at _ _ _ _ _ _ HH.out.2.2.1.1]; rfl
          have hR4 : w4.heap[r]? = some (.cells #[.slice ao 0 0, .int .u64 (nst st')] 62 (0, 0)) := by
            rw [hc4.block r (by omega) (fun e => e)]; exact hR3
          have c4 : w4.cell? ⟨r, 0, none⟩ = some (.slice ao 0 0) := by rw [cell_of_row w4 r 0 _ 62 (0, 0) hR4]; rfl
          have f4 : w4.frozen? ⟨r, 0, none⟩ = false := by simp [World.frozen?, hR4]
          have HF : Hid (Own w4 w3.heap.size 0 8 8 (bytes8 (num st')) ∧ Chg Non w3 w4 ∧ w4.heap[r]? = some (.cells #[.slice ao 0 0, .int .u64 (nst st')] 62 (0, 0))) := ⟨ho4, hc4, hR4⟩
          clear ho4 hc4 hR3 hR4
          go_wp2_with fail
          go_meet
          case rel =>
            obtain ⟨ho4, hc4, hR4⟩ := HF.out
            obtain ⟨ho, hd, hR, hc, hn1, hn2, hn3⟩ := HH.out
            have hkeep : ∀ j, j < wr.heap.size → j ≠ r → (w4.setCell ⟨r, 0, none⟩ (.slice (some ⟨w3.heap.size, 0, none⟩) 8 8)).heap[j]? = wr.heap[j]? := by
              intro j hj hjr
              rw [Below.heap_setCell _ _ _ _ hjr, hc4.block j (by omega) (fun e => e), HW3.out, Below.heap_setCell _ _ _ _ hjr]
            refine ⟨⟨w3.heap.size, 0, none⟩, bytes8 (num st'), nst st', ⟨?_, ?_⟩, ho.keep (hkeep _ hgl2 (by omega)), ?_, ?_, ?_, .inr ?_, by simp [bytes8_len], by simp [bytes8_len], ?_⟩
            · rw [heap_setCell_at _ _ _ _ _ _ hR4, bytes8_len]; rfl
            · rw [bytes8_len]
              have := ho4.keep (w' := w4.setCell ⟨r, 0, none⟩ (.slice (some ⟨w3.heap.size, 0, none⟩) 8 8)) (Below.heap_setCell _ _ _ _ (by show w3.heap.size ≠ r; omega))
              exact .inr ⟨_, _, rfl, by rw [bytes8_len], by omega, by decide, fun j u hj => by rw [Addr.add_lit]; exact this.cell j u hj⟩
            · have h1 : Chg (One r) w1 w3 := by rw [HW3.out]; exact hc.setCell (p := ⟨r, 1, none⟩) (fun _ => rfl) _
              exact ((h1.trans hc4 (fun _ _ e => e.elim)).setCell (p := ⟨r, 0, none⟩) (fun _ => rfl) _)
            · show w3.heap.size ≠ r; omega
            · show w3.heap.size ≠ w1.heap.size; omega
            · show w1.heap.size ≤ w3.heap.size; omega
            · intro j hj hj8
              exact draw_more8 k j _ st' hd hj (by simpa [bytes8_len] using hj8)
        · have hne : ((nn : Int) == 0) = false := by simp; omega
          go_wp2_with fail
          go_meet
          case rel =>
            obtain ⟨ho, hd, hR, hc, hn1, hn2, hn3⟩ := HH.out
            have hnl : nn = l.length := by
              obtain ⟨_, _, _, e, hx, _⟩ := hR.2.rd
              cases e
              exact hx
            obtain ⟨x, e, hp, hmx⟩ := hR.2.some_of (fun e => by rw [e] at hnl; simp at hnl; omega)
            cases e
            exact ⟨x, l, st', hR, ho, hc, fun e => hn1 (by simp [Value.ownBlock, e]), fun e => hn2 (by simp [Value.ownBlock, e]), hn3 _ rfl, hll, hp, fun j _ hj => draw_more k j _ l st' hd hj⟩
      case rest =>
        obtain ⟨x, l1, st1, hR, ho, hc, hx1, hx2, hx3, hl1, hp1, hdr⟩ := hcut
        have HH2 : Hid (RandA wc r (.slice (some x) l1.length l1.length) l1 st1 ∧ Own wc w1.heap.size 0 k N (draw k (xs, st)).1 ∧ Chg (One r) w1 wc ∧ ∀ j, 0 < j → j ≤ l1.length → draw (k + j) (xs, st) = ((draw k (xs, st)).1 ++ l1.take j, (l1.drop j, st1))) := ⟨hR, ho, hc, hdr⟩
        have cc := hR.cell0
        have fc := hR.free
        have hrwc := hR.lt
        have hgwc := ho.lt
        clear hR ho hc hdr c0 c1 f1 HH
        generalize hL : l1.length = L at *
        have HL : Hid (l1.length = L) := hL
        clear hL
        by_cases hm : N - k ≤ L
        · have hmi : (N : Int) - k ≤ L := by omega
          go_wp2_with (at_builtin; refine wpList_room _ rfl (.tmp 37) (.tmp 43) rfl w1.heap.size 0 k N (.slice (some x) (N - k) L) (draw k (xs, st)).1 (l1.take (N - k)) rfl rfl HH2.out.2.1 ?hrd (N - k) ?hlen (by omega) ?hkk)
          case hrd => exact rd_take HH2.out.1.2.rd (by omega) 
          case hlen => simp [HL.out]; omega
          case hkk =>
            intro w3 ho3 hc3
            have c3 : w3.cell? ⟨r, 0, none⟩ = some (.slice (some x) L L) := by
              rw [← cc]; exact World.cell?_of_block (hc3.block r hrwc (fun e => by cases e; omega))
            have f3 : ∀ o, w3.frozen? ⟨r, o, none⟩ = false := by
              intro o; rw [← fc o]; exact World.frozen?_of_block (hc3.block r hrwc (fun e => by cases e; omega))
            have HO3 : Hid (Own w3 w1.heap.size 0 N N ((draw k (xs, st)).1 ++ l1.take (N - k)) ∧ Chg (One w1.heap.size) wc w3) := ⟨ho3, hc3⟩
            clear cc fc ho3 hc3
            go_wp2_with fail
            go_region_with (go_at_call 29; refine (cut_val x _ _ _ _ _ (by omega) (by omega) (by omega) (by omega)).mono ?_; rintro e w' ⟨rfl, rfl⟩)
            all_goals
              go_wp2
              go_roundw
              case rel =>
                obtain ⟨vv, l, st', hfin⟩ := read_close (x := x) (f := (N : Int) - k) (t := (L : Int)) (N - k) N HH2.out.1 HH2.out.2.2.1 HH2.out.2.2.2 HO3.out.1 HO3.out.2 (by omega) (by omega) (by rw [HL.out]; omega) (by omega) (by rw [HL.out]) hx1 hx2 hx3 hrlt (by rw [HL.out]; omega)
                exact ⟨N, vv, l, st', Nat.le_refl _, rfl, hfin.1, hfin.2⟩
              case measure => simp [lenV]; omega
        · have hmi : (L : Int) < (N : Int) - k := by omega
          go_wp2_with (at_builtin; refine wpList_room _ rfl (.tmp 37) (.tmp 43) rfl w1.heap.size 0 k N (.slice (some x) L L) (draw k (xs, st)).1 (l1.take L) rfl rfl HH2.out.2.1 ?hrd2 L ?hlen2 (by omega) ?hkk2)
          case hrd2 => exact rd_take HH2.out.1.2.rd (by omega)
          case hlen2 => simp [HL.out]
          case hkk2 =>
            intro w3 ho3 hc3
            have c3 : w3.cell? ⟨r, 0, none⟩ = some (.slice (some x) L L) := by
              rw [← cc]; exact World.cell?_of_block (hc3.block r hrwc (fun e => by cases e; omega))
            have f3 : ∀ o, w3.frozen? ⟨r, o, none⟩ = false := by
              intro o; rw [← fc o]; exact World.frozen?_of_block (hc3.block r hrwc (fun e => by cases e; omega))
            have HO3 : Hid (Own w3 w1.heap.size 0 (k + L) N ((draw k (xs, st)).1 ++ l1.take L) ∧ Chg (One w1.heap.size) wc w3) := ⟨ho3, hc3⟩
            clear cc fc ho3 hc3
            go_wp2_with fail
            go_region_with (go_at_call 29; refine (cut_val x _ _ _ _ _ (by omega) (by omega) (by omega) (by omega)).mono ?_; rintro e w' ⟨rfl, rfl⟩)
            all_goals
              go_wp2
              go_roundw
              case rel =>
                obtain ⟨vv, l, st', hfin⟩ := read_close (x := x) (f := (L : Int)) (t := (L : Int)) L (k + L) HH2.out.1 HH2.out.2.2.1 HH2.out.2.2.2 HO3.out.1 HO3.out.2 rfl (by omega) (by rw [HL.out]; omega) (by omega) (by rw [HL.out]) hx1 hx2 hx3 hrlt (by rw [HL.out]; omega)
                exact ⟨k + L, vv, l, st', by omega, rfl, hfin.1, hfin.2⟩
              case measure => simp [lenV]; omega
    · have : k = N := by omega
      subst this
      go_wp2
      go_ret
      exact ⟨k, HNN.out, _, vv, rfl, ho, by rw [hd]; exact hR, hc, Nat.le_refl _, hn1, hn2, hn3⟩
end Go.Proofs.Ytiegofelidnnlaa
