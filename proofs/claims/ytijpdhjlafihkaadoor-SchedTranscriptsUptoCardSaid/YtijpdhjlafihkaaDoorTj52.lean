/-
  SchedTranscripts, walked.
-/
import Derived.Test.YtijpdhjlafihkaaDoorTj50
import Derived.Test.YtijpdhjlafihkaaDoorTj23
import Derived.Test.YtijpdhjlafihkaaDoorTj51
import Derived.Deep.CutBlock
import Derived.Deep.CutRange
import Derived.Deep.RegionHeld3
namespace Go.Proofs.YtijpdhjlafihkaaDoor
open Go.RowKit
set_option linter.unusedVariables false
set_option maxRecDepth 100000

/-- What the law's loop keeps: both transcripts, apart from one another. -/
structure TI (w : World) (P Q : Nat) (vp vd : Value) (xp xd : List Int) (wr : World) : Prop where
  kw : Chg w wr
  p : TC wr P 54 vp
  q : TC wr Q 35 vd
  op : Ap.OwnV wr vp xp
  od : Ap.OwnV wr vd xd
  gp : w.heap.size ≤ P
  gq : w.heap.size ≤ Q
  pq : P ≠ Q
  np : ∀ k, vp.ownBlock = some k → w.heap.size ≤ k ∧ k ≠ P ∧ k ≠ Q ∧ ¬ vd.ownBlock = some k
  nd : ∀ k, vd.ownBlock = some k → w.heap.size ≤ k ∧ k ≠ P ∧ k ≠ Q
theorem TI.ap {w : World} {P Q : Nat} {vp vd : Value} {xp xd : List Int} {wr wr' : World} {S : Nat → Prop} (h : TI w P Q vp vd xp xd wr) (k : Ap.Chg S wr wr') (hS : ∀ i, S i → w.heap.size ≤ i ∧ i ≠ P ∧ i ≠ Q ∧ ¬ vp.ownBlock = some i ∧ ¬ vd.ownBlock = some i) : TI w P Q vp vd xp xd wr' :=
  ⟨Chg.ap h.kw k (fun i e => (hS i e).1), tc_ap h.p k (fun e => (hS _ e).2.1 rfl), tc_ap h.q k (fun e => (hS _ e).2.2.1 rfl), h.op.keep (fun i e => k.block i (h.op.lt i e) (fun s => (hS i s).2.2.2.1 e)), h.od.keep (fun i e => k.block i (h.od.lt i e) (fun s => (hS i s).2.2.2.2 e)), h.gp, h.gq, h.pq, h.np, h.nd⟩
theorem TI.chg {w : World} {P Q : Nat} {vp vd : Value} {xp xd : List Int} {wr wr' : World} (h : TI w P Q vp vd xp xd wr) (k : Chg wr wr') : TI w P Q vp vd xp xd wr' := h.ap k.toAp (fun _ e => e.elim)
theorem TI.stepP {w : World} {P Q : Nat} {vp vd vp' : Value} {xp xd ys : List Int} {wr wr' : World} (h : TI w P Q vp vd xp xd wr) (a : AD P 54 vp ys wr wr' vp') : TI w P Q vp' vd ys xd wr' := by
  have hq : ¬ (Q = P ∨ vp.ownBlock = some Q) := fun e => by
    rcases e with e | e
    · exact h.pq e.symm
    · exact (h.np Q e).2.2.1 rfl
  refine ⟨Chg.ap h.kw a.chg (fun i e => ?_), a.tc, tc_ap h.q a.chg hq, a.own, h.od.keep (fun i e => a.chg.block i (h.od.lt i e) (fun s => ?_)), h.gp, h.gq, h.pq, fun k e => ?_, h.nd⟩
  · rcases e with e | e
    · rw [e]; exact h.gp
    · exact (h.np i e).1
  · rcases s with s | s
    · exact (h.nd i e).2.1 s
    · exact (h.np i s).2.2.2 e
  · rcases a.row k e with s | s
    · exact h.np k s
    · have h1 := h.kw.size
      have h2 := lt_blk h.q
      exact ⟨by omega, fun g => a.ne (by rw [e, g]), by omega, fun g => by have := h.od.lt k g; omega⟩
theorem TI.stepD {w : World} {P Q : Nat} {vp vd vd' v0 : Value} {xp xd ys : List Int} {wr wr' : World} (h : TI w P Q vp vd xp xd wr) (a : AD Q 35 v0 ys wr wr' vd') (h0 : ∀ k, v0.ownBlock = some k → vd.ownBlock = some k) : TI w P Q vp vd' xp ys wr' := by
  have hp : ¬ (P = Q ∨ v0.ownBlock = some P) := fun e => by
    rcases e with e | e
    · exact h.pq e
    · exact (h.nd P (h0 P e)).2.1 rfl
  refine ⟨Chg.ap h.kw a.chg (fun i e => ?_), tc_ap h.p a.chg hp, a.tc, h.op.keep (fun i e => a.chg.block i (h.op.lt i e) (fun s => ?_)), a.own, h.gp, h.gq, h.pq, fun k e => ?_, fun k e => ?_⟩
  · rcases e with e | e
    · rw [e]; exact h.gq
    · exact (h.nd i (h0 i e)).1
  · rcases s with s | s
    · exact (h.np i e).2.2.1 s
    · exact (h.np i e).2.2.2 (h0 i s)
  · obtain ⟨k1, k2, k3, k4⟩ := h.np k e
    refine ⟨k1, k2, k3, fun g => ?_⟩
    rcases a.row k g with s | s
    · exact k4 (h0 k s)
    · have := h.op.lt k e; omega
  · rcases a.row k e with s | s
    · exact h.nd k (h0 k s)
    · have h1 := h.kw.size
      have h2 := lt_blk h.p
      exact ⟨by omega, by omega, fun g => a.ne (by rw [e, g])⟩
/-- A row of bytes that may be written. -/
def RW (w : World) (g off m : Nat) : Prop := ∃ cur : Array Value, w.heap[g]? = some (.cells cur 5 (0, 0)) ∧ ∀ j, j < m → ∃ z : Int, cur[off + j]? = some (.int .u8 z)
theorem RW.set {w : World} {g off m : Nat} (h : RW w g off m) {k : Nat} (hk : k < m) (y : Int) : RW (w.setCell ⟨g, off + k, none⟩ (.int .u8 y)) g off m := by
  obtain ⟨cur, h1, h2⟩ := h
  refine ⟨cur.setIfInBounds (off + k) (.int .u8 y), ?_, fun j hj => ?_⟩
  · simp [World.setCell, Array.getElem?_modify, h1]
  · by_cases e : j = k
    · subst e
      obtain ⟨z, hz⟩ := h2 j hj
      have hl := (Array.getElem?_eq_some_iff.1 hz).1
      exact ⟨y, by simp [hl]⟩
    · obtain ⟨z, hz⟩ := h2 j hj
      exact ⟨z, by rw [Array.getElem?_setIfInBounds, if_neg (by omega)]; exact hz⟩
theorem RW.cell {w : World} {g off m : Nat} (h : RW w g off m) {k : Nat} (hk : k < m) : ∃ z : Int, w.cell? ⟨g, off + k, none⟩ = some (.int .u8 z) ∧ w.frozen? ⟨g, off + k, none⟩ = false := by
  obtain ⟨cur, h1, h2⟩ := h
  obtain ⟨z, hz⟩ := h2 k hk
  exact ⟨z, by rw [Lib.cell_of_heap h1]; exact hz, Lib.frozen_of_heap h1 _⟩
theorem RW.keep {w w' : World} {g off m : Nat} (h : RW w g off m) (k : w'.heap[g]? = w.heap[g]?) : RW w' g off m := by
  obtain ⟨cur, h1, h2⟩ := h
  exact ⟨cur, by rw [k]; exact h1, h2⟩
theorem RW.of {w : World} {g off n cap : Nat} {xs : List Int} (h : Ap.Own w g off n cap xs) : RW w g off n := by
  obtain ⟨cur, h1, h2, h3⟩ := h.blk
  refine ⟨cur, h1, fun j hj => ?_⟩
  have hj' : j < xs.length := by have := h.len; omega
  have hc := h.cell j xs[j] (List.getElem?_eq_getElem hj')
  rw [cell_of_row w g (off + j) cur 5 (0, 0) h1] at hc
  exact ⟨_, hc⟩
theorem retL_le (q : Int) (xs : List Int) : (retL q xs).length ≤ xs.length + 68 ∧ (retL q xs = xs ∨ (retL q xs).length ≤ 68) := by
  unfold retL
  have h := size_le q
  split
  · exact ⟨by omega, .inl rfl⟩
  · refine ⟨?_, .inr ?_⟩ <;> (simp only [List.length_append, List.length_cons, List.length_nil, sumL_len]; omega)
theorem retL_byte (q : Int) (xs : List Int) (hx : ∀ x ∈ xs, 0 ≤ x ∧ x < 256) : ∀ x ∈ retL q xs, 0 ≤ x ∧ x < 256 := by
  intro x h
  unfold retL at h
  split at h
  · exact hx x h
  · rcases List.mem_append.1 h with e | e
    · simp only [List.mem_cons, List.not_mem_nil, or_false] at e
      rcases e with e | e | e | e <;> omega
    · exact sumL_range q xs x e

set_option maxHeartbeats 25600000 in
theorem trans_law (q : Int) (lo : Option Addr) (ln lc : Nat) (rt : Int) (vq : Value) (yss : List (List Int)) (pt : List Int) (w : World) (ht : Tabs w) (hl : PtR w (.slice lo ln lc) yss) (hlb : ∀ xs ∈ yss, ∀ x ∈ xs, 0 ≤ x ∧ x < 256) (hll : yss.flatten.length ≤ 1048576) (hp : Ap.Rd w vq pt) (hpb : ∀ x ∈ pt, 0 ≤ x ∧ x < 256) (hpl : pt.length ≤ 1048576) :
    Calls Tryd.prog 4 #[.int .i64 q, .slice lo ln lc, .int .i64 rt, vq] w fun e w' => e = .returned (.bool true) ∧ Chg w w' := by
  have hnn : ln = yss.length ∧ ln < 281474976710657 := by
    obtain ⟨n0, p0, cap0, hn, hsh, hnl⟩ := hl.shape
    injection hsh with _ e2 _
    omega
  have hn := hnn.1
  have hnl := hnn.2
  have HX : Hid (Tabs w ∧ PtR w (.slice lo ln lc) yss ∧ (∀ xs ∈ yss, ∀ x ∈ xs, 0 ≤ x ∧ x < 256) ∧ yss.flatten.length ≤ 1048576 ∧ Ap.Rd w vq pt ∧ (∀ x ∈ pt, 0 ≤ x ∧ x < 256) ∧ pt.length ≤ 1048576 ∧ ln = yss.length) := ⟨ht, hl, hlb, hll, hp, hpb, hpl, hn⟩
  have hlnm : ln ≤ 9223372036854775807 := by omega
  have hd := head_any w ht
  clear ht hl hlb hll hp hpb hpl hn hnl hnn
  go_enter Tryd.func4, Tryd.ntmps4
  go_wp2_with fail
  refine hd.mono ?_
  rintro e w0 ⟨rfl, hc0⟩
  have K0 : Hid (Chg w w0) := hc0
  have hnt := newT_any w0
  clear hd hc0
  go_wp2_with (go_at_call 11; refine hnt.mono ?_)
  rintro e w1 ⟨rfl, rfl⟩
  clear hnt
  obtain ⟨W, hW⟩ : ∃ W, W = (w0.alloc (.cells #[.slice none 0 0] 54)).alloc (.cells #[.slice none 0 0] 35) := ⟨_, rfl⟩
  have HI : Hid (TI w w0.heap.size (w0.heap.size + 1) (.slice none 0 0) (.slice none 0 0) [] [] W) := by
    have h1 := K0.out.size
    refine ⟨K0.out.trans (by rw [hW]; exact ((Chg.refl _).alloc _).alloc _), ?_, ?_, .inl ⟨rfl, rfl⟩, .inl ⟨rfl, rfl⟩, h1, by omega, by omega, (fun k e => by cases e), (fun k e => by cases e)⟩
    · show _ = _
      rw [hW, Below.heap_alloc _ _ _ (by simp)]
      exact heap_alloc_last w0 _
    · show _ = _
      rw [hW]
      have h2 := heap_alloc_last (w0.alloc (.cells #[.slice none 0 0] 54)) (.cells #[.slice none 0 0] 35)
      rw [World.size_alloc] at h2
      exact h2
  have HW : Hid (W = (w0.alloc (.cells #[.slice none 0 0] 54)).alloc (.cells #[.slice none 0 0] 35)) := hW
  obtain ⟨P, hP⟩ : ∃ P, P = w0.heap.size := ⟨_, rfl⟩
  obtain ⟨Q, hQ⟩ : ∃ Q, Q = w0.heap.size + 1 := ⟨_, rfl⟩
  rw [← hQ, ← hP] at HI
  clear hW
  have HPQ : Hid (w.heap.size ≤ P ∧ w.heap.size ≤ Q ∧ P ≠ Q) := ⟨HI.out.gp, HI.out.gq, HI.out.pq⟩
  go_wp2_with fail
  rw [← HW.out, ← hQ, ← hP]
  clear hP hQ HW
  go_loopg [12] ln (fun m iv wr => ∃ i : Nat, i + m = ln ∧ iv = .int .i64 i ∧ ∃ vp vd xs, Hid (TI w P Q vp vd xs xs wr ∧ (∀ x ∈ xs, 0 ≤ x ∧ x < 256) ∧ xs.length ≤ (yss.take i).flatten.length + 68))
  case atStart => exact ⟨0, by omega, rfl, .slice none 0 0, .slice none 0 0, [], HI.out, (fun x h => absurd h (by simp)), by simp⟩
  case round =>
    obtain ⟨i, him, rfl, vp, vd, xs, hT⟩ := hrel
    by_cases hlt : i < ln
    · have hi : i < yss.length := by rw [← HX.out.2.2.2.2.2.2.2]; exact hlt
      obtain ⟨b, o, u, rfl, -, hc, hru⟩ := HX.out.2.1.part hi
      obtain ⟨uo, um, uc, rfl, -⟩ := hru.shape
      obtain ⟨ys, hys⟩ : ∃ ys, ys = yss[i] := ⟨_, rfl⟩
      rw [← hys] at hru
      have hfl : (yss.take (i + 1)).flatten = (yss.take i).flatten ++ ys := by rw [flat_take hi, hys]
      have hle := flat_le yss (i + 1)
      have HYB : Hid ((∀ x ∈ ys, 0 ≤ x ∧ x < 256) ∧ ys.length ≤ 1048576 ∧ (yss.take (i + 1)).flatten.length = (yss.take i).flatten.length + ys.length ∧ (yss.take i).flatten.length + ys.length ≤ 1048576) := ⟨by rw [hys]; exact HX.out.2.2.1 _ (List.getElem_mem hi), by
        rw [hfl, List.length_append] at hle
        have := HX.out.2.2.2.1
        omega, by rw [hfl, List.length_append], by
        rw [hfl, List.length_append] at hle
        have := HX.out.2.2.2.1
        omega⟩
      have HU : Hid (Ap.Rd w (.slice uo um uc) ys ∧ w.cell? ⟨b, o + i, none⟩ = some (.slice uo um uc)) := ⟨hru, hc⟩
      have HG : Hid (0 < gk ∧ i + gk = ln ∧ i + 1 ≤ ln) := ⟨by omega, him, hlt⟩
      have q1 : Chg wr (wr.alloc (.cells #[] 5)) := (Chg.refl wr).alloc _
      have c1 := cell_at (hT.out.1.kw.trans q1) hc
      have Q1 : Hid (Chg wr (wr.alloc (.cells #[] 5))) := q1
      clear hys hfl hle hc hru hi q1 him
      go_wp2_with (at_builtin; refine Ap.wpList_app _ rfl _ _ rfl (.slice (some ⟨wr.heap.size, 0, none⟩) 0 0) (.slice uo um uc) [] ys rfl rfl (OwnV.empty wr) (Rd.chg HU.out.1 (hT.out.1.kw.trans Q1.out)) (by have := HYB.out.2.1; simp only [List.length_nil]; omega) ?_)
      intro v1 wA r1 r2 r3
      obtain ⟨o1, m1, n1, rfl, -⟩ := r1.rd.shape
      have hge : ∀ k, (Value.slice o1 m1 n1).ownBlock = some k → wr.heap.size ≤ k := fun k e => by
        rcases r3 with q | q
        · rw [q] at e
          simp [Value.ownBlock] at e
          omega
        · rw [q] at e
          injection e with e
          have : (wr.alloc (.cells #[] 5)).heap.size = wr.heap.size + 1 := by simp
          omega
      have cA : Chg wr wA := Chg.app (Chg.refl wr) r2
      have HA : Hid (TI w P Q vp vd xs xs wA ∧ Ap.OwnV wA (.slice o1 m1 n1) ys ∧ (∀ k, (Value.slice o1 m1 n1).ownBlock = some k → wr.heap.size ≤ k) ∧ (∀ k, vp.ownBlock = some k → k < wr.heap.size) ∧ (∀ k, vd.ownBlock = some k → k < wr.heap.size) ∧ P < wr.heap.size ∧ Q < wr.heap.size ∧ xs.length ≤ (yss.take i).flatten.length + 68 ∧ ∀ x ∈ xs, 0 ≤ x ∧ x < 256) := ⟨hT.out.1.chg cA, r1, hge, hT.out.1.op.lt, hT.out.1.od.lt, lt_blk hT.out.1.p, lt_blk hT.out.1.q, hT.out.2.2, hT.out.2.1⟩
      clear r1 r2 r3 hge cA c1 hT
      have ha := tadd_any P vp (.slice o1 m1 n1) xs ys wA HA.out.1.p HA.out.1.op (fun e => (HA.out.1.np P e).2.1 rfl) HA.out.2.1.rd (by have := HA.out.2.2.2.2.2.2.2.1; have := HYB.out; omega)
      go_wp2_with (go_at_call 12; refine ha.mono ?_)
      rintro e wB ⟨rfl, vp2, hB⟩
      have HB : Hid (TI w P Q vp2 vd (xs ++ ys) xs wB ∧ Ap.OwnV wB (.slice o1 m1 n1) ys ∧ (∀ k, (Value.slice o1 m1 n1).ownBlock = some k → ¬ vp2.ownBlock = some k)) := ⟨HA.out.1.stepP hB, HA.out.2.1.keep (fun k e => hB.chg.block k (HA.out.2.1.lt k e) (fun s => by
        have h1 := HA.out.2.2.1 k e
        rcases s with s | s
        · have := HA.out.2.2.2.2.2.1; omega
        · have := HA.out.2.2.2.1 k s; omega)), fun k e g => by
        have h1 := HA.out.2.2.1 k e
        have h2 := HA.out.2.1.lt k e
        rcases hB.row k g with s | s
        · have := HA.out.2.2.2.1 k s; omega
        · omega⟩
      clear ha hB
      have c2 := cell_at HB.out.1.kw HU.out.2
      have ha := dadd_any Q vd (.slice uo um uc) xs ys wB HB.out.1.q HB.out.1.od.rd (Rd.chg HU.out.1 HB.out.1.kw) (by have := HA.out.2.2.2.2.2.2.2.1; have := HYB.out; omega)
      go_wp2_with (go_at_call 13; refine ha.mono ?_)
      rintro e wC ⟨rfl, vd2, hC⟩
      have HC : Hid (TI w P Q vp2 vd2 (xs ++ ys) (xs ++ ys) wC ∧ Ap.OwnV wC (.slice o1 m1 n1) ys ∧ (∀ k, (Value.slice o1 m1 n1).ownBlock = some k → w.heap.size ≤ k ∧ k ≠ P ∧ k ≠ Q ∧ ¬ vp2.ownBlock = some k ∧ ¬ vd2.ownBlock = some k)) := ⟨HB.out.1.stepD hC (fun k e => by cases e), HB.out.2.1.keep (fun k e => hC.chg.block k (HB.out.2.1.lt k e) (fun s => by
        have h1 := HA.out.2.2.1 k e
        rcases s with s | s
        · have := HA.out.2.2.2.2.2.2.1; omega
        · cases s)), fun k e => by
        have h1 := HA.out.2.2.1 k e
        have h3 := HB.out.2.1.lt k e
        have h4 := HA.out.2.2.2.2.2.1
        have h5 := HA.out.2.2.2.2.2.2.1
        have h6 := HPQ.out
        refine ⟨by omega, by omega, by omega, HB.out.2.2 k e, fun g => ?_⟩
        rcases hC.row k g with s | s
        · cases s
        · omega⟩
      have HXL : Hid ((xs ++ ys).length ≤ (yss.take (i + 1)).flatten.length + 68 ∧ (yss.take (i + 1)).flatten.length ≤ 1048576 ∧ ∀ x ∈ xs ++ ys, 0 ≤ x ∧ x < 256) := ⟨by rw [List.length_append, HYB.out.2.2.1]; have := HA.out.2.2.2.2.2.2.2.1; omega, by rw [HYB.out.2.2.1]; exact HYB.out.2.2.2, fun x h => by
        rcases List.mem_append.1 h with e | e
        · exact HA.out.2.2.2.2.2.2.2.2 x e
        · exact HYB.out.1 x e⟩
      obtain ⟨zs, hzs⟩ : ∃ zs, zs = xs ++ ys := ⟨_, rfl⟩
      rw [← hzs] at HC HXL
      clear ha hC hzs c2 HA HB
      obtain ⟨G, hG⟩ : ∃ G, G = gk := ⟨_, rfl⟩
      have HG0 : Hid (G = gk) := hG
      rw [← hG] at HG
      clear hG
      have hm1m : m1 ≤ 9223372036854775807 := by
        obtain ⟨ao, n', c', e, h1, h2, h3, -⟩ := HC.out.2.1.rd
        injection e with e4 e5 e6
        subst e4 e5 e6
        have : maxLen = 9223372036854775807 := rfl
        omega
      have HRW : Hid (0 < m1 → ∃ g off, o1 = some ⟨g, off, none⟩ ∧ RW wC g off m1) := fun h0 => by
        rcases HC.out.2.1 with ⟨e, -⟩ | ⟨g, off, n, cap, e, ho⟩
        · injection e with _ e _
          omega
        · injection e with e1 e2 e3
          subst e1 e2 e3
          exact ⟨g, off, rfl, RW.of ho⟩
      go_wp2_with fail
      go_loopg [14] m1 (fun mm kv wi => ∃ k : Nat, k + mm = m1 ∧ kv = .int .i64 k ∧ Hid (TI w P Q vp2 vd2 zs zs wi ∧ (0 < m1 → ∃ g off, o1 = some ⟨g, off, none⟩ ∧ RW wi g off m1)))
      case atStart => exact ⟨0, by omega, rfl, HC.out.1, HRW.out⟩
      case round =>
        obtain ⟨k, hkm, rfl, hI⟩ := hrel
        by_cases hk : k < m1
        · obtain ⟨g, off, rfl, hrw⟩ := hI.out.2 (by omega)
          obtain ⟨z, z1, z2⟩ := hrw.cell hk
          have hdis := HC.out.2.2 g rfl
          have HK : Hid (TI w P Q vp2 vd2 zs zs wr ∧ RW wr g off m1 ∧ k + 1 ≤ m1 ∧ 0 < gk ∧ k + gk = m1 ∧ (w.heap.size ≤ g ∧ g ≠ P ∧ g ≠ Q ∧ ¬ vp2.ownBlock = some g ∧ ¬ vd2.ownBlock = some g)) := ⟨hI.out.1, hrw, hk, by omega, hkm, hdis⟩
          clear hI hrw hkm hdis
          go_wp2_with fail
          go_roundg (gk - 1)
          case measure => have := HK.out; omega
          case rel => exact ⟨k + 1, by have := HK.out; omega, by go_num, HK.out.1.ap (Ap.Chg.setCell (S := fun i => i = g) (Ap.Chg.refl _ wr) (fun _ => rfl) _) (fun i e => by rw [e]; exact HK.out.2.2.2.2.2), fun _ => ⟨g, off, rfl, HK.out.2.1.set (by have := HK.out; omega) _⟩⟩
        · have hkk : k = m1 := by omega
          subst hkk
          have HT2 : Hid (TI w P Q vp2 vd2 zs zs wr) := hI.out.1
          clear hI
          go_upto_if 60 with fail
          go_cut [] from 60 to 66 (fun wc => ∃ vp3 vd3 xs3, Hid (TI w P Q vp3 vd3 xs3 xs3 wc ∧ (∀ x ∈ xs3, 0 ≤ x ∧ x < 256) ∧ xs3.length ≤ (yss.take (i + 1)).flatten.length + 68))
          case first =>
            by_cases hr : (i : Int) = rt
            · have hrt : ((i : Int) == rt) = true := by simp [hr]
              clear hr
              have ha := tretry_any q P vp2 zs wr (HX.out.1.chg HT2.out.kw) HT2.out.p HT2.out.op (fun e => (HT2.out.np P e).2.1 rfl) (by have := HXL.out; omega)
              go_wp2_with (go_at_call 14; refine ha.mono ?_)
              rintro e wD ⟨rfl, vp3, hD⟩
              have HD : Hid (TI w P Q vp3 vd2 (retL q zs) zs wD) := HT2.out.stepP hD
              clear ha hD
              have ha := dretry_any q Q vd2 zs wD HD.out.q HD.out.od (fun e => (HD.out.nd Q e).2.2 rfl) HXL.out.2.2 (by have := HXL.out; omega)
              go_wp2_with (go_at_call 15; refine ha.mono ?_)
              rintro e wE ⟨rfl, vd3, hE⟩
              have HE : Hid (TI w P Q vp3 vd3 (retL q zs) (retL q zs) wE) := HD.out.stepD hE (fun k e => e)
              clear ha hE
              go_wp2_with fail
              go_meet
              case rel => exact ⟨vp3, vd3, _, HE.out, retL_byte q zs HXL.out.2.2, by
                rcases (retL_le q zs).2 with e | e
                · rw [e]; exact HXL.out.1
                · omega⟩
            · have hrt : ((i : Int) == rt) = false := by simp [hr]
              clear hr
              go_wp2_with fail
              go_meet
              case rel => exact ⟨vp2, vd2, zs, HT2.out, HXL.out.2.2, HXL.out.1⟩
          case rest =>
          obtain ⟨vp3, vd3, xs3, hcut⟩ := hcut
          have HT3 : Hid (TI w P Q vp3 vd3 xs3 xs3 wc ∧ (∀ x ∈ xs3, 0 ≤ x ∧ x < 256) ∧ xs3.length ≤ (yss.take (i + 1)).flatten.length + 68) := hcut.out
          clear hcut HT2 HC HRW
          obtain ⟨W0, hW0⟩ : ∃ W0, W0 = wc := ⟨_, rfl⟩
          rw [← hW0] at HT3 ⊢
          clear hW0
          have hl3 : xs3.length ≤ 1048644 := by have h1 := HT3.out.2.2; have h2 := HXL.out.2.1; omega
          have TT : ∀ u, Chg W0 u → Tabs u := fun u hu => HX.out.1.chg (HT3.out.1.kw.trans hu)
          have HWp : Hid (∀ u, Chg W0 u → Calls Tryd.prog 16 #[.pointer (some ⟨P, 0, none⟩), .int .i64 q, vq] u fun e w' => RL (sumL q (xs3 ++ pt)) u w' e) := fun u hu => twith_any q P vp3 xs3 vq pt u (TT u hu) (HT3.out.1.chg hu).p (HT3.out.1.chg hu).op.rd (by omega) (Rd.chg HX.out.2.2.2.2.1 (HT3.out.1.kw.trans hu)) (by have := HX.out.2.2.2.2.2.2.1; omega)
          have HWd : Hid (∀ u, Chg W0 u → Calls Tryd.prog 17 #[.pointer (some ⟨Q, 0, none⟩), .int .i64 q, vq] u fun e w' => RL (sumL q (xs3 ++ pt)) u w' e) := fun u hu => dwith_any q Q vd3 xs3 vq pt u (HT3.out.1.chg hu).q (HT3.out.1.chg hu).od.rd HT3.out.2.1 (Rd.chg HX.out.2.2.2.2.1 (HT3.out.1.kw.trans hu)) HX.out.2.2.2.2.2.1 (by have := HX.out.2.2.2.2.2.2.1; omega)
          have HSp : Hid (∀ u qq, Chg W0 u → Calls Tryd.prog 18 #[.pointer (some ⟨P, 0, none⟩), .int .i64 qq] u fun e w' => RL (sumL qq xs3) u w' e) := fun u qq hu => tsum_any qq P vp3 xs3 u (TT u hu) (HT3.out.1.chg hu).p (HT3.out.1.chg hu).op.rd (by omega)
          have HSd : Hid (∀ u qq, Chg W0 u → Calls Tryd.prog 19 #[.pointer (some ⟨Q, 0, none⟩), .int .i64 qq] u fun e w' => RL (sumL qq xs3) u w' e) := fun u qq hu => dsum_any qq Q vd3 xs3 u (HT3.out.1.chg hu).q (HT3.out.1.chg hu).od.rd HT3.out.2.1 (by omega)
          have KC : Hid (Chg W0 W0) := Chg.refl _
          clear TT hl3
          go_upto_region 19 with fail
          have c0 : Chg W0 W0.drew := KC.out.drew
          refine wp_region_held_drew (S := fun u => Chg W0 u) (by kernel_rfl) c0 (fun _ => ?_)
          generalize W0.drew = WD at c0 ⊢
          refine wpAnyH_take (i := 0) (oi := { dst := some 67, op := Go.Op.move (Go.Operand.tmp 10), type := 31, pos := "law.go:58", after := #[], guard := none }) (v := ?_) rfl (by kernel_rfl) (by kernel_rfl) (by kernel_rfl) (fun _ _ _ h => h) (Or.inl ⟨by rfl, ?_⟩) c0 ?_
          rotate_left
          · intro u hu
            have hu : Chg W0 u := hu
            go_simp
            try with_reducible rfl
          try simp only [Act.put, List.setIfInBounds_toArray, List.set_cons_zero, List.set_cons_succ]
          refine wpAnyH_take (i := 1) (oi := { dst := some 68, op := Go.Op.move (Go.Operand.tmp 0), type := 22, pos := "law.go:58", after := #[], guard := none }) (v := ?_) rfl (by kernel_rfl) (by kernel_rfl) (by kernel_rfl) (fun _ _ _ h => h) (Or.inl ⟨by rfl, ?_⟩) c0 ?_
          rotate_left
          · intro u hu
            have hu : Chg W0 u := hu
            go_simp
            try with_reducible rfl
          try simp only [Act.put, List.setIfInBounds_toArray, List.set_cons_zero, List.set_cons_succ]
          refine wpAnyH_take (i := 2) (oi := { dst := some 69, op := Go.Op.move (Go.Operand.tmp 3), type := 23, pos := "law.go:58", after := #[], guard := none }) (v := ?_) rfl (by kernel_rfl) (by kernel_rfl) (by kernel_rfl) (fun _ _ _ h => h) (Or.inl ⟨by rfl, ?_⟩) c0 ?_
          rotate_left
          · intro u hu
            have hu : Chg W0 u := hu
            go_simp
            try with_reducible rfl
          try simp only [Act.put, List.setIfInBounds_toArray, List.set_cons_zero, List.set_cons_succ]
          refine wpAnyH_take (i := 5) (oi := { dst := some 72, op := Go.Op.move (Go.Operand.tmp 11), type := 33, pos := "law.go:58", after := #[], guard := none }) (v := ?_) rfl (by kernel_rfl) (by kernel_rfl) (by kernel_rfl) (fun _ _ _ h => h) (Or.inl ⟨by rfl, ?_⟩) c0 ?_
          rotate_left
          · intro u hu
            have hu : Chg W0 u := hu
            go_simp
            try with_reducible rfl
          try simp only [Act.put, List.setIfInBounds_toArray, List.set_cons_zero, List.set_cons_succ]
          refine wpAnyH_take (i := 6) (oi := { dst := some 73, op := Go.Op.move (Go.Operand.tmp 0), type := 22, pos := "law.go:58", after := #[], guard := none }) (v := ?_) rfl (by kernel_rfl) (by kernel_rfl) (by kernel_rfl) (fun _ _ _ h => h) (Or.inl ⟨by rfl, ?_⟩) c0 ?_
          rotate_left
          · intro u hu
            have hu : Chg W0 u := hu
            go_simp
            try with_reducible rfl
          try simp only [Act.put, List.setIfInBounds_toArray, List.set_cons_zero, List.set_cons_succ]
          refine wpAnyH_take (i := 7) (oi := { dst := some 74, op := Go.Op.move (Go.Operand.tmp 3), type := 23, pos := "law.go:58", after := #[], guard := none }) (v := ?_) rfl (by kernel_rfl) (by kernel_rfl) (by kernel_rfl) (fun _ _ _ h => h) (Or.inl ⟨by rfl, ?_⟩) c0 ?_
          rotate_left
          · intro u hu
            have hu : Chg W0 u := hu
            go_simp
            try with_reducible rfl
          try simp only [Act.put, List.setIfInBounds_toArray, List.set_cons_zero, List.set_cons_succ]
          refine wpAnyH_ready (rs := [3]) (by kernel_rfl) (by simp) ?_
          refine AllReadyH.cons (o := { dst := some 70, op := Go.Op.call { callee := Go.Callee.value (Go.Operand.func 16), args := #[Go.Operand.tmp 67, Go.Operand.tmp 68, Go.Operand.tmp 69], argTypes := #[31, 22, 23] }, type := 23, pos := "law.go:58", after := #[{ on := 0, ground := Go.Ground.data }, { on := 1, ground := Go.Ground.data }, { on := 2, ground := Go.Ground.data }], guard := none }) rfl (fun K hK => ?_) ?_
          · skip
            go_simp
            go_at_call 16
            refine (HWp.out WD c0).mono ?_
            rintro e x1 ⟨o4, m5, n6, rfl, s2, r3⟩
            have c7 : Chg W0 x1 := c0.trans s2
            have t9 := TxV.of r3
            have y8 : Chg W0 x1 := c0.trans s2
            refine hK.out _ _ y8 (fun _ => wpAnyH_imp (S' := fun u => Chg x1 u) (fun u hu => y8.trans hu) _ _ _ _ ?_)
            have y10 : Chg x1 x1 := Chg.refl _
            clear hK K
            try simp only [Act.put, List.setIfInBounds_toArray, List.set_cons_zero, List.set_cons_succ]
            refine wpAnyH_take (i := 4) (oi := { dst := some 71, op := Go.Op.convert 23 9 (Go.Operand.tmp 70), type := 9, pos := "law.go:58", after := #[{ on := 3, ground := Go.Ground.data }], guard := none }) (v := ?_) rfl (by kernel_rfl) (by kernel_rfl) (by kernel_rfl) (fun _ _ _ h => h) (Or.inl ⟨by rfl, ?_⟩) y10 ?_
            rotate_left
            · intro u hu
              have hu : Chg x1 u := hu
              have hcv := t9 u hu
              go_simp
              try with_reducible rfl
            try simp only [Act.put, List.setIfInBounds_toArray, List.set_cons_zero, List.set_cons_succ]
            refine wpAnyH_ready (rs := [8]) (by kernel_rfl) (by simp) ?_
            refine AllReadyH.cons (o := { dst := some 75, op := Go.Op.call { callee := Go.Callee.value (Go.Operand.func 17), args := #[Go.Operand.tmp 72, Go.Operand.tmp 73, Go.Operand.tmp 74], argTypes := #[33, 22, 23] }, type := 23, pos := "law.go:58", after := #[{ on := 5, ground := Go.Ground.data }, { on := 6, ground := Go.Ground.data }, { on := 7, ground := Go.Ground.data }, { on := 3, ground := Go.Ground.chain }], guard := none }) rfl (fun K hK => ?_) ?_
            · skip
              go_simp
              go_at_call 17
              refine (HWd.out x1 c7).mono ?_
              rintro e x11 ⟨o14, m15, n16, rfl, s12, r13⟩
              have c17 : Chg W0 x11 := c7.trans s12
              have t19 := TxV.of r13
              have y18 : Chg x1 x11 := y10.trans s12
              refine hK.out _ _ y18 (fun _ => wpAnyH_imp (S' := fun u => Chg x11 u) (fun u hu => y18.trans hu) _ _ _ _ ?_)
              have y20 : Chg x11 x11 := Chg.refl _
              clear hK K
              try simp only [Act.put, List.setIfInBounds_toArray, List.set_cons_zero, List.set_cons_succ]
              refine wpAnyH_take (i := 9) (oi := { dst := some 76, op := Go.Op.convert 23 9 (Go.Operand.tmp 75), type := 9, pos := "law.go:58", after := #[{ on := 8, ground := Go.Ground.data }], guard := none }) (v := ?_) rfl (by kernel_rfl) (by kernel_rfl) (by kernel_rfl) (fun _ _ _ h => h) (Or.inl ⟨by rfl, ?_⟩) y20 ?_
              rotate_left
              · intro u hu
                have hu : Chg x11 u := hu
                have hcv := t19 u hu
                go_simp
                try with_reducible rfl
              try simp only [Act.put, List.setIfInBounds_toArray, List.set_cons_zero, List.set_cons_succ]
              refine wpAnyH_take (i := 10) (oi := { dst := some 77, op := Go.Op.binOp Go.BinOp.neq 9 (Go.Operand.tmp 71) (Go.Operand.tmp 76) 9, type := 4, pos := "law.go:58", after := #[{ on := 4, ground := Go.Ground.data }, { on := 9, ground := Go.Ground.data }], guard := none }) (v := ?_) rfl (by kernel_rfl) (by kernel_rfl) (by kernel_rfl) (fun _ _ _ h => h) (Or.inl ⟨by rfl, ?_⟩) y20 ?_
              rotate_left
              · intro u hu
                have hu : Chg x11 u := hu
                go_simp
                try with_reducible rfl
              try simp only [Act.put, List.setIfInBounds_toArray, List.set_cons_zero, List.set_cons_succ]
              refine wpAnyH_take (i := 11) (oi := { dst := some 78, op := Go.Op.move (Go.Operand.tmp 77), type := 4, pos := "law.go:58", after := #[{ on := 10, ground := Go.Ground.data }, { on := 8, ground := Go.Ground.chain }], guard := none }) (v := ?_) rfl (by kernel_rfl) (by kernel_rfl) (by kernel_rfl) (fun _ _ _ h => h) (Or.inl ⟨by rfl, ?_⟩) y20 ?_
              rotate_left
              · intro u hu
                have hu : Chg x11 u := hu
                go_simp
                try with_reducible rfl
              try simp only [Act.put, List.setIfInBounds_toArray, List.set_cons_zero, List.set_cons_succ]
              refine wpAnyH_take (i := 12) (oi := { dst := some 79, op := Go.Op.move (Go.Operand.tmp 10), type := 31, pos := "law.go:58", after := #[{ on := 11, ground := Go.Ground.guard }], guard := some (11, false) }) (v := ?_) rfl (by kernel_rfl) (by kernel_rfl) (by kernel_rfl) (fun _ _ _ h => h) (Or.inl ⟨by rfl, ?_⟩) y20 ?_
              rotate_left
              · intro u hu
                have hu : Chg x11 u := hu
                go_simp
                try with_reducible rfl
              try simp only [Act.put, List.setIfInBounds_toArray, List.set_cons_zero, List.set_cons_succ]
              refine wpAnyH_take (i := 13) (oi := { dst := some 80, op := Go.Op.move (Go.Operand.tmp 0), type := 22, pos := "law.go:58", after := #[{ on := 11, ground := Go.Ground.guard }], guard := some (11, false) }) (v := ?_) rfl (by kernel_rfl) (by kernel_rfl) (by kernel_rfl) (fun _ _ _ h => h) (Or.inl ⟨by rfl, ?_⟩) y20 ?_
              rotate_left
              · intro u hu
                have hu : Chg x11 u := hu
                go_simp
                try with_reducible rfl
              try simp only [Act.put, List.setIfInBounds_toArray, List.set_cons_zero, List.set_cons_succ]
              refine wpAnyH_take (i := 16) (oi := { dst := some 83, op := Go.Op.move (Go.Operand.tmp 11), type := 33, pos := "law.go:58", after := #[{ on := 11, ground := Go.Ground.guard }], guard := some (11, false) }) (v := ?_) rfl (by kernel_rfl) (by kernel_rfl) (by kernel_rfl) (fun _ _ _ h => h) (Or.inl ⟨by rfl, ?_⟩) y20 ?_
              rotate_left
              · intro u hu
                have hu : Chg x11 u := hu
                go_simp
                try with_reducible rfl
              try simp only [Act.put, List.setIfInBounds_toArray, List.set_cons_zero, List.set_cons_succ]
              refine wpAnyH_take (i := 17) (oi := { dst := some 84, op := Go.Op.move (Go.Operand.tmp 0), type := 22, pos := "law.go:58", after := #[{ on := 11, ground := Go.Ground.guard }], guard := some (11, false) }) (v := ?_) rfl (by kernel_rfl) (by kernel_rfl) (by kernel_rfl) (fun _ _ _ h => h) (Or.inl ⟨by rfl, ?_⟩) y20 ?_
              rotate_left
              · intro u hu
                have hu : Chg x11 u := hu
                go_simp
                try with_reducible rfl
              try simp only [Act.put, List.setIfInBounds_toArray, List.set_cons_zero, List.set_cons_succ]
              refine wpAnyH_ready (rs := [14]) (by kernel_rfl) (by simp) ?_
              refine AllReadyH.cons (o := { dst := some 81, op := Go.Op.call { callee := Go.Callee.value (Go.Operand.func 18), args := #[Go.Operand.tmp 79, Go.Operand.tmp 80], argTypes := #[31, 22] }, type := 23, pos := "law.go:58", after := #[{ on := 12, ground := Go.Ground.data }, { on := 13, ground := Go.Ground.data }, { on := 11, ground := Go.Ground.chain }, { on := 11, ground := Go.Ground.guard }], guard := some (11, false) }) rfl (fun K hK => ?_) ?_
              · skip
                go_simp
                go_at_call 18
                refine (HSp.out x11 _ c17).mono ?_
                rintro e x21 ⟨o24, m25, n26, rfl, s22, r23⟩
                have c27 : Chg W0 x21 := c17.trans s22
                have t29 := TxV.of r23
                have y28 : Chg x11 x21 := y20.trans s22
                refine hK.out _ _ y28 (fun _ => wpAnyH_imp (S' := fun u => Chg x21 u) (fun u hu => y28.trans hu) _ _ _ _ ?_)
                have y30 : Chg x21 x21 := Chg.refl _
                clear hK K
                try simp only [Act.put, List.setIfInBounds_toArray, List.set_cons_zero, List.set_cons_succ]
                refine wpAnyH_take (i := 15) (oi := { dst := some 82, op := Go.Op.convert 23 9 (Go.Operand.tmp 81), type := 9, pos := "law.go:58", after := #[{ on := 14, ground := Go.Ground.data }, { on := 11, ground := Go.Ground.guard }], guard := some (11, false) }) (v := ?_) rfl (by kernel_rfl) (by kernel_rfl) (by kernel_rfl) (fun _ _ _ h => h) (Or.inl ⟨by rfl, ?_⟩) y30 ?_
                rotate_left
                · intro u hu
                  have hu : Chg x21 u := hu
                  have hcv := t29 u hu
                  go_simp
                  try with_reducible rfl
                try simp only [Act.put, List.setIfInBounds_toArray, List.set_cons_zero, List.set_cons_succ]
                refine wpAnyH_ready (rs := [18]) (by kernel_rfl) (by simp) ?_
                refine AllReadyH.cons (o := { dst := some 85, op := Go.Op.call { callee := Go.Callee.value (Go.Operand.func 19), args := #[Go.Operand.tmp 83, Go.Operand.tmp 84], argTypes := #[33, 22] }, type := 23, pos := "law.go:58", after := #[{ on := 16, ground := Go.Ground.data }, { on := 17, ground := Go.Ground.data }, { on := 14, ground := Go.Ground.chain }, { on := 11, ground := Go.Ground.guard }], guard := some (11, false) }) rfl (fun K hK => ?_) ?_
                · skip
                  go_simp
                  go_at_call 19
                  refine (HSd.out x21 _ c27).mono ?_
                  rintro e x31 ⟨o34, m35, n36, rfl, s32, r33⟩
                  have c37 : Chg W0 x31 := c27.trans s32
                  have t39 := TxV.of r33
                  have y38 : Chg x21 x31 := y30.trans s32
                  refine hK.out _ _ y38 (fun _ => wpAnyH_imp (S' := fun u => Chg x31 u) (fun u hu => y38.trans hu) _ _ _ _ ?_)
                  have y40 : Chg x31 x31 := Chg.refl _
                  clear hK K
                  try simp only [Act.put, List.setIfInBounds_toArray, List.set_cons_zero, List.set_cons_succ]
                  refine wpAnyH_take (i := 19) (oi := { dst := some 86, op := Go.Op.convert 23 9 (Go.Operand.tmp 85), type := 9, pos := "law.go:58", after := #[{ on := 18, ground := Go.Ground.data }, { on := 11, ground := Go.Ground.guard }], guard := some (11, false) }) (v := ?_) rfl (by kernel_rfl) (by kernel_rfl) (by kernel_rfl) (fun _ _ _ h => h) (Or.inl ⟨by rfl, ?_⟩) y40 ?_
                  rotate_left
                  · intro u hu
                    have hu : Chg x31 u := hu
                    have hcv := t39 u hu
                    go_simp
                    try with_reducible rfl
                  try simp only [Act.put, List.setIfInBounds_toArray, List.set_cons_zero, List.set_cons_succ]
                  refine wpAnyH_take (i := 20) (oi := { dst := some 87, op := Go.Op.binOp Go.BinOp.neq 9 (Go.Operand.tmp 82) (Go.Operand.tmp 86) 9, type := 4, pos := "law.go:58", after := #[{ on := 15, ground := Go.Ground.data }, { on := 19, ground := Go.Ground.data }, { on := 11, ground := Go.Ground.guard }], guard := some (11, false) }) (v := ?_) rfl (by kernel_rfl) (by kernel_rfl) (by kernel_rfl) (fun _ _ _ h => h) (Or.inl ⟨by rfl, ?_⟩) y40 ?_
                  rotate_left
                  · intro u hu
                    have hu : Chg x31 u := hu
                    go_simp
                    try with_reducible rfl
                  try simp only [Act.put, List.setIfInBounds_toArray, List.set_cons_zero, List.set_cons_succ]
                  refine wpAnyH_take (i := 21) (oi := { dst := some 88, op := Go.Op.pick (Go.Operand.tmp 78) (Go.Operand.const (Go.Value.bool true)) (Go.Operand.tmp 87), type := 4, pos := "law.go:58", after := #[{ on := 11, ground := Go.Ground.data }, { on := 20, ground := Go.Ground.data }], guard := none }) (v := ?_) rfl (by kernel_rfl) (by kernel_rfl) (by kernel_rfl) (fun _ _ _ h => h) (Or.inl ⟨by rfl, ?_⟩) y40 ?_
                  rotate_left
                  · intro u hu
                    have hu : Chg x31 u := hu
                    go_simp
                    try with_reducible rfl
                  try simp only [Act.put, List.setIfInBounds_toArray, List.set_cons_zero, List.set_cons_succ]
                  refine wpAnyH_take (i := 22) (oi := { dst := some 89, op := Go.Op.move (Go.Operand.tmp 88), type := 4, pos := "law.go:58", after := #[{ on := 21, ground := Go.Ground.data }, { on := 18, ground := Go.Ground.chain }], guard := none }) (v := ?_) rfl (by kernel_rfl) (by kernel_rfl) (by kernel_rfl) (fun _ _ _ h => h) (Or.inl ⟨by rfl, ?_⟩) y40 ?_
                  rotate_left
                  · intro u hu
                    have hu : Chg x31 u := hu
                    go_simp
                    try with_reducible rfl
                  try simp only [Act.put, List.setIfInBounds_toArray, List.set_cons_zero, List.set_cons_succ]
                  refine wpAnyH_take (i := 23) (oi := { dst := some 90, op := Go.Op.move (Go.Operand.tmp 10), type := 31, pos := "law.go:58", after := #[{ on := 22, ground := Go.Ground.guard }], guard := some (22, false) }) (v := ?_) rfl (by kernel_rfl) (by kernel_rfl) (by kernel_rfl) (fun _ _ _ h => h) (Or.inl ⟨by rfl, ?_⟩) y40 ?_
                  rotate_left
                  · intro u hu
                    have hu : Chg x31 u := hu
                    go_simp
                    try with_reducible rfl
                  try simp only [Act.put, List.setIfInBounds_toArray, List.set_cons_zero, List.set_cons_succ]
                  refine wpAnyH_take (i := 26) (oi := { dst := some 93, op := Go.Op.move (Go.Operand.tmp 11), type := 33, pos := "law.go:58", after := #[{ on := 22, ground := Go.Ground.guard }], guard := some (22, false) }) (v := ?_) rfl (by kernel_rfl) (by kernel_rfl) (by kernel_rfl) (fun _ _ _ h => h) (Or.inl ⟨by rfl, ?_⟩) y40 ?_
                  rotate_left
                  · intro u hu
                    have hu : Chg x31 u := hu
                    go_simp
                    try with_reducible rfl
                  try simp only [Act.put, List.setIfInBounds_toArray, List.set_cons_zero, List.set_cons_succ]
                  refine wpAnyH_ready (rs := [24]) (by kernel_rfl) (by simp) ?_
                  refine AllReadyH.cons (o := { dst := some 91, op := Go.Op.call { callee := Go.Callee.value (Go.Operand.func 18), args := #[Go.Operand.tmp 90, Go.Operand.const (Go.Value.int Go.IntKind.i64 2)], argTypes := #[31, 22] }, type := 23, pos := "law.go:58", after := #[{ on := 23, ground := Go.Ground.data }, { on := 22, ground := Go.Ground.chain }, { on := 22, ground := Go.Ground.guard }], guard := some (22, false) }) rfl (fun K hK => ?_) ?_
                  · skip
                    go_simp
                    go_at_call 18
                    refine (HSp.out x31 _ c37).mono ?_
                    rintro e x41 ⟨o44, m45, n46, rfl, s42, r43⟩
                    have c47 : Chg W0 x41 := c37.trans s42
                    have t49 := TxV.of r43
                    have y48 : Chg x31 x41 := y40.trans s42
                    refine hK.out _ _ y48 (fun _ => wpAnyH_imp (S' := fun u => Chg x41 u) (fun u hu => y48.trans hu) _ _ _ _ ?_)
                    have y50 : Chg x41 x41 := Chg.refl _
                    clear hK K
                    try simp only [Act.put, List.setIfInBounds_toArray, List.set_cons_zero, List.set_cons_succ]
                    refine wpAnyH_take (i := 25) (oi := { dst := some 92, op := Go.Op.convert 23 9 (Go.Operand.tmp 91), type := 9, pos := "law.go:58", after := #[{ on := 24, ground := Go.Ground.data }, { on := 22, ground := Go.Ground.guard }], guard := some (22, false) }) (v := ?_) rfl (by kernel_rfl) (by kernel_rfl) (by kernel_rfl) (fun _ _ _ h => h) (Or.inl ⟨by rfl, ?_⟩) y50 ?_
                    rotate_left
                    · intro u hu
                      have hu : Chg x41 u := hu
                      have hcv := t49 u hu
                      go_simp
                      try with_reducible rfl
                    try simp only [Act.put, List.setIfInBounds_toArray, List.set_cons_zero, List.set_cons_succ]
                    refine wpAnyH_ready (rs := [27]) (by kernel_rfl) (by simp) ?_
                    refine AllReadyH.cons (o := { dst := some 94, op := Go.Op.call { callee := Go.Callee.value (Go.Operand.func 19), args := #[Go.Operand.tmp 93, Go.Operand.const (Go.Value.int Go.IntKind.i64 2)], argTypes := #[33, 22] }, type := 23, pos := "law.go:58", after := #[{ on := 26, ground := Go.Ground.data }, { on := 24, ground := Go.Ground.chain }, { on := 22, ground := Go.Ground.guard }], guard := some (22, false) }) rfl (fun K hK => ?_) ?_
                    · skip
                      go_simp
                      go_at_call 19
                      refine (HSd.out x41 _ c47).mono ?_
                      rintro e x51 ⟨o54, m55, n56, rfl, s52, r53⟩
                      have c57 : Chg W0 x51 := c47.trans s52
                      have t59 := TxV.of r53
                      have y58 : Chg x41 x51 := y50.trans s52
                      refine hK.out _ _ y58 (fun _ => wpAnyH_imp (S' := fun u => Chg x51 u) (fun u hu => y58.trans hu) _ _ _ _ ?_)
                      have y60 : Chg x51 x51 := Chg.refl _
                      clear hK K
                      try simp only [Act.put, List.setIfInBounds_toArray, List.set_cons_zero, List.set_cons_succ]
                      refine wpAnyH_take (i := 28) (oi := { dst := some 95, op := Go.Op.convert 23 9 (Go.Operand.tmp 94), type := 9, pos := "law.go:58", after := #[{ on := 27, ground := Go.Ground.data }, { on := 22, ground := Go.Ground.guard }], guard := some (22, false) }) (v := ?_) rfl (by kernel_rfl) (by kernel_rfl) (by kernel_rfl) (fun _ _ _ h => h) (Or.inl ⟨by rfl, ?_⟩) y60 ?_
                      rotate_left
                      · intro u hu
                        have hu : Chg x51 u := hu
                        have hcv := t59 u hu
                        go_simp
                        try with_reducible rfl
                      try simp only [Act.put, List.setIfInBounds_toArray, List.set_cons_zero, List.set_cons_succ]
                      refine wpAnyH_take (i := 29) (oi := { dst := some 96, op := Go.Op.binOp Go.BinOp.neq 9 (Go.Operand.tmp 92) (Go.Operand.tmp 95) 9, type := 4, pos := "law.go:58", after := #[{ on := 25, ground := Go.Ground.data }, { on := 28, ground := Go.Ground.data }, { on := 22, ground := Go.Ground.guard }], guard := some (22, false) }) (v := ?_) rfl (by kernel_rfl) (by kernel_rfl) (by kernel_rfl) (fun _ _ _ h => h) (Or.inl ⟨by rfl, ?_⟩) y60 ?_
                      rotate_left
                      · intro u hu
                        have hu : Chg x51 u := hu
                        go_simp
                        try with_reducible rfl
                      try simp only [Act.put, List.setIfInBounds_toArray, List.set_cons_zero, List.set_cons_succ]
                      refine wpAnyH_take (i := 30) (oi := { dst := some 97, op := Go.Op.pick (Go.Operand.tmp 89) (Go.Operand.const (Go.Value.bool true)) (Go.Operand.tmp 96), type := 4, pos := "law.go:58", after := #[{ on := 22, ground := Go.Ground.data }, { on := 29, ground := Go.Ground.data }], guard := none }) (v := ?_) rfl (by kernel_rfl) (by kernel_rfl) (by kernel_rfl) (fun _ _ _ h => h) (Or.inl ⟨by rfl, ?_⟩) y60 ?_
                      rotate_left
                      · intro u hu
                        have hu : Chg x51 u := hu
                        go_simp
                        try with_reducible rfl
                      try simp only [Act.put, List.setIfInBounds_toArray, List.set_cons_zero, List.set_cons_succ]
                      refine wpAnyH_done (by kernel_rfl) ?_ _
                      go_wp2_with fail
                      go_roundg (G - 1)
                      case measure => have := HG.out; have := HG0.out; omega
                      case rel => exact ⟨i + 1, by have := HG.out; omega, by go_num, vp3, vd3, xs3, HT3.out.1.chg c57, HT3.out.2.1, HT3.out.2.2⟩
                    exact AllReadyH.nil
                  exact AllReadyH.nil
                exact AllReadyH.nil
              exact AllReadyH.nil
            exact AllReadyH.nil
          exact AllReadyH.nil
    · have hiN : i = ln := by omega
      subst hiN
      have KF : Hid (Chg w wr) := hT.out.1.kw
      clear hT
      go_wp2
      go_ret
      exact ⟨rfl, KF.out⟩
end Go.Proofs.YtijpdhjlafihkaaDoor
