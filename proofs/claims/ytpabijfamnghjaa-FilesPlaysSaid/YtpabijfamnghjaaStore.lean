/-
  The program's store: what it holds, and its calls New, mayWrite, newList, seen, Torn, Read.
-/
import Derived.Test.YtpabijfamnghjaaName
namespace Go.Proofs.Ytpabijfamnghjaa
open Go.RowKit
set_option linter.unusedVariables false

theorem OwnV.shape {w : World} {v : Value} {xs : List Int} (h : OwnV w v xs) : ∃ ao n c, v = .slice ao n c ∧ n = xs.length ∧ n ≤ c ∧ c ≤ maxLen := h.rd.shape

theorem OwnV.blk {w : World} {v : Value} {xs : List Int} (h : OwnV w v xs) : ∀ k, v.ownBlock = some k → ∃ cur, w.heap[k]? = some (.cells cur 5 (0, 0)) := by
  intro k hk
  rcases h with ⟨rfl, rfl⟩ | ⟨g, off, n, cap, rfl, h⟩
  · simp [Value.ownBlock] at hk
  · simp [Value.ownBlock] at hk
    subst hk
    obtain ⟨cur, hg, _⟩ := h.blk
    exact ⟨cur, hg⟩

structure EntOk (w : World) (e : Ent) : Prop where
  old : OwnV w e.vo e.xo
  new : OwnV w e.vf e.xf
  lo : e.xo.length ≤ 65536
  lf : e.xf.length ≤ 65536
  n : e.n ≤ e.xf.length
  calm : e.torn = false → e.n = 0 ∧ e.xf = []

/-- A store of the program's, at block p, its map at block b, its files L. -/
structure St (w : World) (p b : Nat) (L : List Ent) : Prop where
  blk : w.heap[p]? = some (.cells #[.map (some b)] 52 (0, 0))
  map : MapAt w b L
  ent : ∀ e ∈ L, EntOk w e
  len : L.length ≤ 64

/-- Block k is none of the store's. -/
def Off (p b : Nat) (L : List Ent) (k : Nat) : Prop := k ≠ p ∧ k ≠ b ∧ ∀ e ∈ L, e.vo.ownBlock ≠ some k ∧ e.vf.ownBlock ≠ some k

theorem St.lt {w : World} {p b : Nat} {L : List Ent} (h : St w p b L) : p < w.heap.size := (Array.getElem?_eq_some_iff.1 h.blk).1

theorem St.off {w : World} {p b : Nat} {L : List Ent} (h : St w p b L) {k : Nat} (hk : w.heap.size ≤ k) : Off p b L k :=
  ⟨fun e => by have := h.lt; omega, fun e => by have := h.map.lt; omega, fun e he => ⟨fun x => by have := (h.ent e he).old.lt k x; omega, fun x => by have := (h.ent e he).new.lt k x; omega⟩⟩

theorem St.keep {w w' : World} {p b : Nat} {L : List Ent} (h : St w p b L) (hk : ∀ k, k < w.heap.size → ¬ Off p b L k → w'.heap[k]? = w.heap[k]?) : St w' p b L := by
  refine ⟨(hk p h.lt (fun x => x.1 rfl)).trans h.blk, h.map.keep (hk b h.map.lt (fun x => x.2.1 rfl)), fun e he => ?_, h.len⟩
  have := h.ent e he
  exact ⟨this.old.keep (fun k hk' => hk k (this.old.lt k hk') (fun x => (x.2.2 e he).1 hk')), this.new.keep (fun k hk' => hk k (this.new.lt k hk') (fun x => (x.2.2 e he).2 hk')), this.lo, this.lf, this.n, this.calm⟩

theorem St.chg {w w' : World} {p b : Nat} {L : List Ent} {S : Nat → Prop} (h : St w p b L) (hc : Chg S w w') (hS : ∀ k, S k → Off p b L k) : St w' p b L :=
  h.keep (fun k hk hn => hc.block k hk (fun x => hn (hS k x)))

theorem St.non {w w' : World} {p b : Nat} {L : List Ent} (h : St w p b L) (hc : Chg Non w w') : St w' p b L := h.chg hc (fun k x => x.elim)

theorem St.drew {w : World} {p b : Nat} {L : List Ent} (h : St w p b L) : St w.drew p b L := h.keep (fun _ _ _ => rfl)

theorem St.cell {w : World} {p b : Nat} {L : List Ent} (h : St w p b L) : w.cell? ⟨p, 0, none⟩ = some (.map (some b)) := by
  rw [cell_of_row w p 0 _ 52 (0, 0) h.blk]
  rfl

theorem St.ne {w : World} {p b : Nat} {L : List Ent} (h : St w p b L) : p ≠ b := by
  intro e
  subst e
  obtain ⟨es, clock, hb, _⟩ := h.map
  rw [h.blk] at hb
  cases hb

theorem St.apart {w : World} {p b : Nat} {L : List Ent} (h : St w p b L) {v : Value} {xs : List Int} (hv : OwnV w v xs) : v.ownBlock ≠ some p ∧ v.ownBlock ≠ some b := by
  refine ⟨fun e => ?_, fun e => ?_⟩
  · obtain ⟨cur, hc⟩ := hv.blk p e
    rw [h.blk] at hc
    cases hc
  · obtain ⟨cur, hc⟩ := hv.blk b e
    obtain ⟨es, clock, hb, _⟩ := h.map
    rw [hb] at hc
    cases hc

set_option maxHeartbeats 400000 in
theorem newList_any (s : Value) (ys : List Int) (w : World) (hs : Rd w s ys) (hb : ys.length ≤ 140737488355328) :
    Calls Try.prog 28 #[s] w fun e w' => ∃ v', e = .returned v' ∧ OwnV w' v' ys ∧ Chg Non w w' ∧ ∀ k, v'.ownBlock = some k → w.heap.size ≤ k := by
  go_enter Try.func28, Try.ntmps28
  go_wp2_with (at_builtin; refine wpList_app _ rfl _ _ rfl _ s [] ys rfl rfl (.inl ⟨rfl, rfl⟩) hs (by simpa using hb) ?_)
  intro v' w' ho hc hk
  go_wp2
  go_ret
  refine ⟨v', rfl, ho, hc.mono (fun k _ e => by simp [Value.ownBlock] at e), fun k e => ?_⟩
  rcases hk with h | h
  · rw [h] at e; simp [Value.ownBlock] at e
  · rw [h] at e; cases e; exact Nat.le_refl _

set_option maxHeartbeats 400000 in
theorem new_any (w : World) :
    Calls Try.prog 8 #[] w fun e w' => ∃ p b, e = .returned (.pointer (some ⟨p, 0, none⟩)) ∧ St w' p b [] ∧ Chg Non w w' ∧ w.heap.size ≤ p ∧ w.heap.size ≤ b := by
  have hmm := @run_makeMap Try.prog
  go_enter Try.func8, Try.ntmps8
  go_wp2
  go_ret
  exact ⟨_, _, rfl, ⟨by simpa using heap_alloc_new (w.alloc (.map #[] 0)) (.cells #[.map (some w.heap.size)] 52), (MapAt.made w).keep (Below.heap_alloc _ _ _ (MapAt.made w).lt), fun e he => by simp at he, by simp⟩, ((Chg.refl _ _).alloc _).alloc _, by simp, Nat.le_refl _⟩

theorem valL_none {nm : List UInt8} {L : List Ent} (h : findL nm L = none) : valL nm L = zeroFile := by unfold valL; rw [h]
theorem valL_some {nm : List UInt8} {L : List Ent} {e : Ent} (h : findL nm L = some e) : valL nm L = e.val := by unfold valL; rw [h]

def tornL (nm : List UInt8) (L : List Ent) : Bool := match findL nm L with | some e => e.torn | none => false

theorem field1 (ao fo : Option Addr) (an ac fn fc : Nat) (t : Bool) (n : Int) (w : World) : (Instr.field 55 (.agg #[.slice ao an ac, .bool t, .slice fo fn fc, .int .i64 n]) 1).run Try.prog w = .ok (.bool t) w := by kernel_rfl

set_option maxHeartbeats 400000 in
theorem torn_any (p b : Nat) (L : List Ent) (s : ByteArray) (w : World) (h : St w p b L) (hs : s.size ≤ maxLen) :
    Calls Try.prog 16 #[.pointer (some ⟨p, 0, none⟩), .string s] w fun e w' => e = .returned (.bool (tornL s.data.toList L)) ∧ w' = w := by
  have c0 := h.cell
  have hl := h.map.look s hs
  cases hf : findL s.data.toList L with
  | none =>
    rw [valL_none hf] at hl
    unfold zeroFile at hl
    have HF : Hid (findL s.data.toList L = none) := hf
    clear hf h
    have hfd := field1
    go_enter Try.func16, Try.ntmps16
    go_wp2
    go_ret
    exact ⟨ret_bool (by unfold tornL; rw [HF.out]), rfl⟩
  | some e =>
    have ho := h.ent e (find_name hf).2
    obtain ⟨ao, an, ac, ha, _⟩ := ho.old.shape
    obtain ⟨fo, fn, fc, hb, _⟩ := ho.new.shape
    rw [valL_some hf] at hl
    unfold Ent.val at hl
    rw [ha, hb] at hl
    have HF : Hid (findL s.data.toList L = some e) := hf
    clear hf h
    have hfd := field1
    go_enter Try.func16, Try.ntmps16
    go_wp2
    go_ret
    exact ⟨ret_bool (by unfold tornL; rw [HF.out]), rfl⟩

def mayL (nm : List UInt8) (len : Nat) (L : List Ent) : Int :=
  if isNm nm = false then 21 else if 65536 < len then 23 else if findL nm L = none ∧ 64 ≤ L.length then 24 else 0

set_option maxHeartbeats 1000000 in
theorem may_any (p b : Nat) (L : List Ent) (s : ByteArray) (v : Value) (xs : List Int) (w : World) (h : St w p b L) (hs : s.size ≤ maxLen) (hv : Rd w v xs) :
    Calls Try.prog 27 #[.pointer (some ⟨p, 0, none⟩), .string s, v] w fun e w' => e = .returned (.int .i64 (mayL s.data.toList xs.length L)) ∧ Chg Non w w' := by
  obtain ⟨vo, vn, vc, rfl, hvn, hvc, hvm⟩ := hv.shape
  have hms : maxLen = 9223372036854775807 := rfl
  subst hvn
  have HM : Hid (xs.length ≤ 9223372036854775807) := by show _ ≤ _; omega
  generalize xs.length = xl at *
  clear hv hvc
  go_enter Try.func27, Try.ntmps27
  go_wp2_with fail
  refine (isName_any s _ (by omega)).mono ?_
  rintro e w1 ⟨rfl, hc1⟩
  have h1 := h.non hc1
  have HC1 : Hid (Chg Non w w1) := hc1
  clear hc1 h
  cases hn : isNm s.data.toList
  · go_wp2
    go_ret
    exact ⟨ret_int (by unfold mayL; simp [hn]), HC1.out⟩
  · by_cases hl : 65536 < xl
    · go_wp2
      go_ret
      exact ⟨ret_int (by unfold mayL; simp [hn, hl]), HC1.out⟩
    · have c0 := h1.cell
      have hlo := h1.map.look_ok s hs
      have hll : L.length ≤ 64 := h1.len
      cases hf : findL s.data.toList L with
      | none =>
        rw [valL_none hf, hf] at hlo
        unfold zeroFile at hlo
        have hln := fun w' => (h1.map.keep (w' := w1.alloc w') (Below.heap_alloc _ _ _ h1.map.lt)).len
        have hcl : ∀ o, (w1.alloc o).cell? ⟨p, 0, none⟩ = some (.map (some b)) := fun o => (h1.non ((Chg.refl _ _).alloc o)).cell
        have HF : Hid (findL s.data.toList L = none) := hf
        clear hf h1
        by_cases hfull : 64 ≤ L.length
        · go_wp2
          go_ret
          exact ⟨ret_int (by unfold mayL; simp [hn, hl, HF.out, hfull]), HC1.out.alloc _⟩
        · go_wp2
          go_ret
          exact ⟨ret_int (by unfold mayL; simp [hn, hl, HF.out, hfull]), HC1.out.alloc _⟩
      | some e =>
        have ho := h1.ent e (find_name hf).2
        obtain ⟨ao, an, ac, ha, _⟩ := ho.old.shape
        obtain ⟨fo, fn, fc, hb, _⟩ := ho.new.shape
        rw [valL_some hf, hf] at hlo
        unfold Ent.val at hlo
        rw [ha, hb] at hlo
        have HF : Hid (findL s.data.toList L = some e) := hf
        clear hf
        go_wp2
        go_ret
        exact ⟨ret_int (by unfold mayL; simp [hn, hl, HF.out]), HC1.out.alloc _⟩

theorem Rd.take {w : World} {ao : Option Addr} {n c : Nat} {xs : List Int} (h : Rd w (.slice ao n c) xs) {k : Nat} (hk : k ≤ n) : Rd w (.slice ao k c) (xs.take k) := by
  obtain ⟨ao', n', c', e, hn, hc, hmx, h0, hx⟩ := h
  cases e
  refine ⟨_, _, _, rfl, by simp; omega, by omega, hmx, h0, fun x e j u hj => ?_⟩
  rw [List.getElem?_take] at hj
  split at hj
  · exact hx x e j u hj
  · cases hj

theorem Rd.drop {w : World} {x : Addr} {n c : Nat} {xs : List Int} (h : Rd w (.slice (some x) n c) xs) {k : Nat} (hk : k ≤ n) : Rd w (.slice (some (x.add k)) (n - k) (c - k)) (xs.drop k) := by
  obtain ⟨ao', n', c', e, hn, hc, hmx, h0, hx⟩ := h
  cases e
  refine ⟨_, _, _, rfl, by simp; omega, by omega, by omega, fun e => by (cases e), fun y e j u hj => ?_⟩
  cases e
  rw [List.getElem?_drop] at hj
  rw [← hx x rfl (k + j) u hj]
  congr 1
  unfold Addr.add
  by_cases hf0 : k = 0 <;> by_cases hj0 : j = 0 <;> simp [hf0, hj0, Nat.add_assoc]

def seenE (e : Ent) : List Int := e.xf.take e.n ++ e.xo.drop e.n

set_option maxHeartbeats 1000000 in
theorem seen_any (e : Ent) (w : World) (h : EntOk w e) :
    Calls Try.prog 25 #[e.val] w fun r w' => ∃ v', r = .returned v' ∧ OwnV w' v' (seenE e) ∧ Chg Non w w' ∧ ∀ k, v'.ownBlock = some k → w.heap.size ≤ k := by
  obtain ⟨nm, vo, xo, t, vf, xf, n⟩ := e
  obtain ⟨ho, hf, hlo, hlf, hn, hcalm⟩ := h
  simp only at ho hf hlo hlf hn hcalm
  unfold seenE Ent.val
  simp only
  obtain ⟨ao, an, ac, rfl, han, hac, ham⟩ := ho.shape
  obtain ⟨fo, fn, fc, rfl, hfn, hfc, hfm⟩ := hf.shape
  have hms : maxLen = 9223372036854775807 := rfl
  have HO : Hid (Rd w (.slice ao an ac) xo) := ho.rd
  have HF : Hid (Rd w (.slice fo fn fc) xf) := hf.rd
  have HN : Hid (an = xo.length ∧ fn = xf.length) := ⟨han, hfn⟩
  have h1 : an ≤ 65536 := by omega
  have h2 : fn ≤ 65536 := by omega
  have h3 : n ≤ fn := by omega
  cases t
  · obtain ⟨rfl, rfl⟩ := hcalm rfl
    clear ho hf han hfn hlo hlf hn hcalm
    go_enter Try.func25, Try.ntmps25
    go_wp2_with fail
    refine (newList_any _ xo _ (HO.out.keep (fun k _ hk => Below.heap_alloc _ _ _ hk)) (by have := HN.out.1; omega)).mono ?_
    rintro r w1 ⟨v', rfl, ho1, hc1, hk1⟩
    go_wp2
    go_ret
    refine ⟨v', rfl, by simpa using ho1, ((Chg.refl _ _).alloc _).trans hc1 (fun _ _ x => x), fun k e => ?_⟩
    have := hk1 k e
    simp at this
    omega
  · clear ho hf han hfn hlo hlf hn hcalm
    have hfo : Rd (w.alloc (.cells #[.slice ao an ac, .bool true, .slice fo fn fc, .int .i64 n] 55)) (.slice fo n fc) (xf.take n) := (HF.out.take h3).keep (fun k _ hk => Below.heap_alloc _ _ _ hk)
    have hnl := newList_any _ _ _ hfo (by simp; omega)
    clear hfo
    go_enter Try.func25, Try.ntmps25
    go_wp2_with fail
    refine hnl.mono ?_
    clear hnl
    rintro r w1 ⟨v', rfl, ho1, hc1, hk1⟩
    obtain ⟨uo, un, uc, rfl, hun, huc, hum⟩ := ho1.shape
    have hb : w1.heap[w.heap.size]? = some (.cells #[.slice ao an ac, .bool true, .slice fo fn fc, .int .i64 n] 55) := (hc1.block w.heap.size (by simp) (fun x => x)).trans (heap_alloc_new w _)
    have d0 : w1.cell? ⟨w.heap.size, 0, none⟩ = some (.slice ao an ac) := by rw [cell_of_row w1 w.heap.size 0 _ 55 _ hb]; rfl
    have d3 : w1.cell? ⟨w.heap.size, 3, none⟩ = some (.int .i64 n) := by rw [cell_of_row w1 w.heap.size 3 _ 55 _ hb]; rfl
    have HW : Hid (OwnV w1 (.slice uo un uc) (xf.take n) ∧ Chg Non w w1 ∧ ∀ k, (Value.slice uo un uc).ownBlock = some k → w.heap.size < k) := ⟨ho1, ((Chg.refl _ _).alloc _).trans hc1 (fun _ _ x => x), fun k e => by have := hk1 k e; simp at this; omega⟩
    have HO1 : Hid (Rd w1 (.slice ao an ac) xo) := HO.out.keep (fun k _ hk => (hc1.block k (by simp; omega) (fun x => x)).trans (Below.heap_alloc _ _ _ hk))
    clear ho1 hc1 hk1 hun hb HO HF
    by_cases hlt : n < an
    · cases ao with
      | none => exfalso; obtain ⟨_, _, _, e, _, _, _, h0, _⟩ := HO1.out; cases e; have := h0 rfl; omega
      | some x =>
        go_wp2_with (at_builtin; refine wpList_app _ rfl _ _ rfl _ _ (xf.take n) (xo.drop n) rfl rfl HW.out.1 (HO1.out.drop (k := n) (by omega)) (by have := HN.out; simp; omega) ?_)
        intro v2 w2 ho2 hc2 hk2
        go_wp2
        go_ret
        obtain ⟨q1, q2, q3⟩ := HW.out
        refine ⟨v2, rfl, ho2, q2.trans hc2 (fun i hi e => ?_), fun k e => ?_⟩
        · have := q3 i e; omega
        · rcases hk2 with h | h
          · rw [h] at e; have := q3 k e; omega
          · rw [h] at e; cases e; exact q2.size
    · go_wp2
      go_ret
      obtain ⟨q1, q2, q3⟩ := HW.out
      refine ⟨_, rfl, ?_, q2, fun k e => by have := q3 k e; omega⟩
      rw [List.drop_eq_nil_of_le (by have := HN.out; omega), List.append_nil]
      exact q1

def readR (nm : List UInt8) (L : List Ent) : Int := match findL nm L with | some _ => 0 | none => 22
def seenL (nm : List UInt8) (L : List Ent) : List Int := match findL nm L with | some e => seenE e | none => []

set_option maxHeartbeats 1000000 in
theorem read_any (p b : Nat) (L : List Ent) (s : ByteArray) (w : World) (h : St w p b L) (hs : s.size ≤ maxLen) :
    Calls Try.prog 11 #[.pointer (some ⟨p, 0, none⟩), .string s] w fun r w' => ∃ v', r = .returned (.tuple #[v', .int .i64 (readR s.data.toList L)]) ∧ OwnV w' v' (seenL s.data.toList L) ∧ Chg Non w w' ∧ ∀ k, v'.ownBlock = some k → w.heap.size ≤ k := by
  have c0 := h.cell
  have hlo := h.map.look_ok s hs
  unfold readR seenL
  cases hf : findL s.data.toList L with
  | none =>
    rw [valL_none hf, hf] at hlo
    unfold zeroFile at hlo
    clear hf h
    go_enter Try.func11, Try.ntmps11
    go_wp2
    go_ret2
    exact ⟨_, rfl, .inl ⟨rfl, rfl⟩, (Chg.refl _ _).alloc _, fun k e => by simp [Value.ownBlock] at e⟩
  | some e =>
    have ho := h.ent e (find_name hf).2
    rw [valL_some hf, hf] at hlo
    obtain ⟨nm, vo, xo, t, vf, xf, n⟩ := e
    obtain ⟨ao, an, ac, rfl, -⟩ := ho.old.shape
    obtain ⟨fo, fn, fc, rfl, -⟩ := ho.new.shape
    unfold Ent.val at hlo
    simp only at hlo ⊢
    have HE : Hid (EntOk w ⟨nm, .slice ao an ac, xo, t, .slice fo fn fc, xf, n⟩) := ho
    clear hf h ho
    go_enter Try.func11, Try.ntmps11
    go_wp2_with fail
    refine (seen_any ⟨nm, .slice ao an ac, xo, t, .slice fo fn fc, xf, n⟩ _ ?_).mono ?_
    · have := HE.out
      exact ⟨this.old.keep (fun k e => Below.heap_alloc _ _ _ (this.old.lt k e)), this.new.keep (fun k e => Below.heap_alloc _ _ _ (this.new.lt k e)), this.lo, this.lf, this.n, this.calm⟩
    rintro r w1 ⟨v', rfl, ho1, hc1, hk1⟩
    go_wp2
    go_ret2
    exact ⟨v', rfl, ho1, ((Chg.refl _ _).alloc _).trans hc1 (fun _ _ x => x), fun k e => by have := hk1 k e; simp at this; omega⟩
end Go.Proofs.Ytpabijfamnghjaa
