/-
  The document's store: Put.
-/
import Derived.Test.YtpabijfamnghjaaRef3
namespace Go.Proofs.Ytpabijfamnghjaa
open Go.RowKit
set_option linter.unusedVariables false

/-- append, as one step of a region that draws. -/
theorem step_app {ops : Array Oper} {o : Oper} {a : Act} {w : World} {K : Act → World → Prop} {Q : Exit → Act → World → Prop} {E : Prop}
    (hg : o.guard = none) (s x : Operand) (hop : o.op = Op.call { callee := Callee.builtin Builtin.append, args := #[s, x], argTypes := #[31, 31] })
    (v sv : Value) (xs ys : List Int) (hs : a.eval s = v) (hx : a.eval x = sv) (hv : OwnV w v xs) (hr : Rd w sv ys) (hb : xs.length + ys.length ≤ 140737488355328)
    (hK : ∀ v' w', OwnV w' v' (xs ++ ys) → Chg (fun k => v.ownBlock = some k) w w' → (v'.ownBlock = v.ownBlock ∨ v'.ownBlock = some w.heap.size) → K (a.put o.dst v') w') :
    if Region.wanted o (yielded ops a.tmps) = true then Oper.wp Try.prog o a w K Q else E := by
  have hw : Region.wanted o (yielded ops a.tmps) = true := by simp [Region.wanted, hg]
  rw [if_pos hw]
  obtain ⟨v', w', hrun, r1, r2, r3⟩ := run_app o.type w v sv xs ys hv hr hb
  unfold Oper.wp
  simp [execOp, hop, resolve, invoke, builtin, hs, hx, hrun, Result.andThen]
  exact hK v' w' r1 r2 r3

theorem Rd.keep' {w w' : World} {v : Value} {xs : List Int} (h : Rd w v xs) (hk : xs ≠ [] → ∀ k, v.ownBlock = some k → k < w.heap.size → w'.heap[k]? = w.heap[k]?) : Rd w' v xs := by
  by_cases hx : xs = []
  · subst hx
    obtain ⟨ao, n, c, rfl, hn, hc, hmx, h0, _⟩ := h
    exact ⟨ao, n, c, rfl, hn, hc, hmx, h0, fun x e j u hj => by simp at hj⟩
  · exact h.keep (hk hx)

theorem OwnV.drew {w : World} {v : Value} {xs : List Int} (h : OwnV w v xs) : OwnV w.drew v xs := h.keep (fun _ _ => rfl)

theorem rowE_set : ∀ (R : List Ent) (i j : Nat) (f f' : Ent) (u : Value), R[i]? = some f → j < 5 → cellsE f' = (cellsE f).set j u → rowE (R.set i f') = (rowE R).set (i * 5 + j) u
  | [], i, j, f, f', u, h, _, _ => by simp at h
  | x :: R, 0, j, f, f', u, h, hj, hc => by
    simp at h
    subst h
    unfold rowE
    simp only [List.set_cons_zero, List.flatMap_cons, Nat.zero_mul, Nat.zero_add]
    rw [hc, List.set_append_left _ _ (by simp [cellsE]; omega)]
  | x :: R, i + 1, j, f, f', u, h, hj, hc => by
    have := rowE_set R i j f f' u (by simpa using h) hj hc
    unfold rowE at this ⊢
    simp only [List.set_cons_succ, List.flatMap_cons]
    rw [this, List.set_append_right _ _ (by simp [cellsE]; omega)]
    congr 2
    simp [cellsE]
    omega

/-- The store's block and its row, without what the files' lists hold. -/
structure RRow (w : World) (q : Nat) (g c : Nat) (R : List Ent) : Prop where
  blk : w.heap[q]? = some (.cells #[.slice (some ⟨g, 0, none⟩) R.length c] 29 (0, 0))
  row : w.ownsRow 0 37 5 (.slice (some ⟨g, 0, none⟩) R.length c) R.length (rowE R)
  ne : g ≠ q

theorem RSt.rrow {w : World} {q g c : Nat} {R : List Ent} (h : RSt w q (.slice (some ⟨g, 0, none⟩) R.length c) R) : RRow w q g c R := ⟨h.blk, h.row, fun e => h.offq (by rw [← e]; rfl)⟩

theorem RRow.set {w : World} {q g c : Nat} {R : List Ent} (h : RRow w q g c R) {i j : Nat} {f f' : Ent} {u : Value} (hi : R[i]? = some f) (hj : j < 5) (hc : cellsE f' = (cellsE f).set j u) : RRow (w.setCell ⟨g, i * 5 + j, none⟩ u) q g c (R.set i f') := by
  have hs := (h.row.stored (i * 5 + j) u).1
  refine ⟨?_, ?_, h.ne⟩
  · rw [Below.heap_setCell _ _ _ _ (fun e => h.ne e.symm), List.length_set]
    exact h.blk
  · rw [rowE_set R i j f f' u hi hj hc, List.length_set]
    exact hs

theorem RRow.set0 {w : World} {q g c : Nat} {R : List Ent} (h : RRow w q g c R) {i : Nat} {f f' : Ent} {u : Value} (hi : R[i]? = some f) (hc : cellsE f' = (cellsE f).set 0 u) : RRow (w.setCell ⟨g, i * 5, none⟩ u) q g c (R.set i f') := h.set hi (j := 0) (by decide) hc

/-- All five cells of a file are written. -/
theorem RRow.five {w : World} {q g c : Nat} {R : List Ent} (h : RRow w q g c R) {i : Nat} {f e : Ent} (hi : R[i]? = some f) :
    RRow (((((w.setCell ⟨g, i * 5, none⟩ (.string ⟨e.name.toArray⟩)).setCell ⟨g, i * 5 + 1, none⟩ e.vo).setCell ⟨g, i * 5 + 2, none⟩ (.bool e.torn)).setCell ⟨g, i * 5 + 3, none⟩ e.vf).setCell ⟨g, i * 5 + 4, none⟩ (.int .i64 e.n)) q g c (R.set i e) := by
  have hlt := (List.getElem?_eq_some_iff.1 hi).1
  have h1 := h.set0 (f' := ⟨e.name, f.vo, f.xo, f.torn, f.vf, f.xf, f.n⟩) hi (u := .string ⟨e.name.toArray⟩) (by simp [cellsE])
  have h2 := h1.set (f := ⟨e.name, f.vo, f.xo, f.torn, f.vf, f.xf, f.n⟩) (f' := ⟨e.name, e.vo, e.xo, f.torn, f.vf, f.xf, f.n⟩) (i := i) (j := 1) (u := e.vo) (by simp [hlt]) (by decide) (by simp [cellsE])
  have h3 := h2.set (f := ⟨e.name, e.vo, e.xo, f.torn, f.vf, f.xf, f.n⟩) (f' := ⟨e.name, e.vo, e.xo, e.torn, f.vf, f.xf, f.n⟩) (i := i) (j := 2) (u := .bool e.torn) (by simp [hlt]) (by decide) (by simp [cellsE])
  have h4 := h3.set (f := ⟨e.name, e.vo, e.xo, e.torn, f.vf, f.xf, f.n⟩) (f' := ⟨e.name, e.vo, e.xo, e.torn, e.vf, e.xf, f.n⟩) (i := i) (j := 3) (u := e.vf) (by simp [hlt]) (by decide) (by simp [cellsE])
  have h5 := h4.set (f := ⟨e.name, e.vo, e.xo, e.torn, e.vf, e.xf, f.n⟩) (f' := e) (i := i) (j := 4) (u := .int .i64 e.n) (by simp [hlt]) (by decide) (by simp [cellsE])
  simpa using h5

/-- The whole store again, where a file was written anew. -/
theorem RRow.whole {w w' : World} {q g c : Nat} {R : List Ent} {i : Nat} {e : Ent} (h : RSt w q (.slice (some ⟨g, 0, none⟩) R.length c) R) (h' : RRow w' q g c (R.set i e)) (hc : Chg (One g) w w') (he : EntOk w e) (hr : Rising (R.set i e)) :
    RSt w' q (.slice (some ⟨g, 0, none⟩) R.length c) (R.set i e) := by
  have hl : (R.set i e).length = R.length := List.length_set
  refine ⟨by have := h'.blk; rwa [hl] at this, by have := h'.row; rwa [hl] at this ⊢, fun x hx => ?_, by rw [hl]; exact h.len, hr⟩
  have hx' : EntOk w x := by
    rcases List.mem_or_eq_of_mem_set hx with hx | rfl
    · exact h.ent x hx
    · exact he
  refine hx'.keep (fun k hk => ?_)
  rcases hk with hk | hk
  · exact hc.block k (hx'.old.lt k hk) (fun e1 => (h.apart hx'.old k hk).2 (by rw [e1]; rfl))
  · exact hc.block k (hx'.new.lt k hk) (fun e1 => (h.apart hx'.new k hk).2 (by rw [e1]; rfl))

theorem five_chg (w : World) (g i : Nat) (a b c d e : Value) : Chg (One g) w (((((w.setCell ⟨g, i * 5, none⟩ a).setCell ⟨g, i * 5 + 1, none⟩ b).setCell ⟨g, i * 5 + 2, none⟩ c).setCell ⟨g, i * 5 + 3, none⟩ d).setCell ⟨g, i * 5 + 4, none⟩ e) :=
  (((((Chg.refl (One g) w).setCell (p := ⟨g, i * 5, none⟩) (fun _ => rfl) _).setCell (p := ⟨g, i * 5 + 1, none⟩) (fun _ => rfl) _).setCell (p := ⟨g, i * 5 + 2, none⟩) (fun _ => rfl) _).setCell (p := ⟨g, i * 5 + 3, none⟩) (fun _ => rfl) _).setCell (p := ⟨g, i * 5 + 4, none⟩) (fun _ => rfl) _

/-- What the document's Put leaves. -/
structure RPut (w w' : World) (q : Nat) (sv : Value) (nm : List UInt8) (xs : List Int) (R : List Ent) : Prop where
  no : mayL nm xs.length R ≠ 0 → RSt w' q sv R
  yes : mayL nm xs.length R = 0 → ∃ v' sv', RSt w' q sv' (putL (fresh nm v' xs) R) ∧ (∀ k, v'.ownBlock = some k → w.heap.size ≤ k) ∧ ∀ k, sv'.ownBlock = some k → sv.ownBlock = some k ∨ w.heap.size ≤ k
  chg : Chg (QS q sv) w w'

theorem chg_end {w w1 w2 w3 w5 : World} {q g rn c : Nat} {sv : Value} (hc1 : Chg Non w w1) (hc2 : Chg (One q) w1 w2) (hsv : Value.slice (some ⟨g, 0, none⟩) rn c = sv ∨ w1.heap.size ≤ g) (hc3 : Chg Non w2 w3) (hc5 : Chg (One g) w3 w5) : Chg (QS q sv) w w5 := by
  have h12 : Chg (QS q sv) w w2 := (hc1.non _).trans hc2 (fun i hi e => .inl e)
  refine (h12.trans (hc3.non Non) (fun _ _ x => x.elim)).trans hc5 (fun i hi e => ?_)
  cases e
  rcases hsv with h | h
  · exact .inr (by rw [← h]; rfl)
  · have := hc1.size; omega

theorem row_end {w w1 : World} {g rn c : Nat} {sv : Value} (hc1 : Chg Non w w1) (hsv : Value.slice (some ⟨g, 0, none⟩) rn c = sv ∨ w1.heap.size ≤ g) {rn' c' : Nat} : ∀ k, (Value.slice (some ⟨g, 0, none⟩) rn' c').ownBlock = some k → sv.ownBlock = some k ∨ w.heap.size ≤ k := by
  intro k e
  have e' : some g = some k := e
  cases e'
  rcases hsv with h | h
  · exact .inl (by rw [← h]; rfl)
  · exact .inr (by have := hc1.size; omega)

theorem put_end {w w1 w2 w3 : World} {q g c i : Nat} {sv : Value} {R R1 : List Ent} {f : Ent} {s : ByteArray} {xs : List Int} {uo : Option Addr} {un uc : Nat} (hm : 0 = mayL s.data.toList xs.length R) (hl : xs.length ≤ 65536) (h1 : RSt w1 q sv R) (hc1 : Chg Non w w1)
    (h2 : RSt w2 q (.slice (some ⟨g, 0, none⟩) R1.length c) R1) (hmp : MadeP s.data.toList R R1 i f) (hc2 : Chg (One q) w1 w2) (hsv : Value.slice (some ⟨g, 0, none⟩) R1.length c = sv ∨ w1.heap.size ≤ g) (ho : OwnV w3 (.slice uo un uc) xs) (hc3 : Chg Non w2 w3)
    (hn : ∀ k, (Value.slice uo un uc).ownBlock = some k → w2.heap.size ≤ k) :
    RPut w (((((w3.setCell ⟨g, i * 5, none⟩ (.string s)).setCell ⟨g, i * 5 + 1, none⟩ (.slice uo un uc)).setCell ⟨g, i * 5 + 2, none⟩ (.bool false)).setCell ⟨g, i * 5 + 3, none⟩ (.slice none 0 0)).setCell ⟨g, i * 5 + 4, none⟩ (.int .i64 0)) q sv s.data.toList xs R := by
  have hst3 := h2.non hc3
  have hr := hst3.rrow.five (e := fresh s.data.toList (.slice uo un uc) xs) hmp.at_
  have hset := hmp.set (fresh s.data.toList (.slice uo un uc) xs) rfl
  have hris : Rising (R1.set i (fresh s.data.toList (.slice uo un uc) xs)) := by rw [hset]; exact rising_put h1.ris
  have hfin := hr.whole hst3 (five_chg w3 g i _ _ _ _ _) (fresh_ok ho hl) hris
  simp only [fresh, str_eta] at hfin hset
  refine ⟨fun e => absurd hm.symm e, fun _ => ⟨.slice uo un uc, .slice (some ⟨g, 0, none⟩) R1.length c, ?_, fun k e => ?_, row_end hc1 hsv⟩, chg_end hc1 hc2 hsv hc3 (five_chg w3 g i _ _ _ _ _)⟩
  · unfold fresh
    rw [← hset]
    exact hfin
  · have := hn k e
    have := hc1.size
    have := hc2.size
    omega

set_option maxRecDepth 100000 in
set_option maxHeartbeats 2000000 in
theorem rput_any (q : Nat) (sv : Value) (R : List Ent) (s : ByteArray) (v : Value) (xs : List Int) (w : World) (h : RSt w q sv R) (hs : s.size ≤ maxLen) (hv : Rd w v xs) (hvq : xs ≠ [] → v.ownBlock ≠ some q) :
    Calls Try.prog 18 #[.pointer (some ⟨q, 0, none⟩), .string s, v] w fun r w' => r = .returned (.int .i64 (mayL s.data.toList xs.length R)) ∧ RPut w w' q sv s.data.toList xs R := by
  obtain ⟨vo, vn, vc, rfl, -⟩ := hv.shape
  have HVQ : Hid (xs ≠ [] → (Value.slice vo vn vc).ownBlock ≠ some q) := hvq
  clear hvq
  have HM : Hid (mayL s.data.toList xs.length R = 0 → isNm s.data.toList = true ∧ xs.length ≤ 65536 ∧ ((findL s.data.toList R).isSome = true ∨ R.length < 64)) := may_room
  have hma := rmay_any q sv R s _ xs _ h hs hv
  obtain ⟨m, hm⟩ : ∃ m, m = mayL s.data.toList xs.length R := ⟨_, rfl⟩
  rw [← hm] at HM hma ⊢
  have HMM : Hid (m = mayL s.data.toList xs.length R) := hm
  clear hm
  go_enter Try.func18, Try.ntmps18
  go_wp2_with fail
  refine hma.mono ?_
  clear hma
  rintro e w1 ⟨rfl, n, rfl⟩
  obtain ⟨w1, hw1⟩ : ∃ w1, w1 = w.drewN n := ⟨_, rfl⟩
  have HW : Hid (RSt w1 q sv R ∧ Rd w1 (.slice vo vn vc) xs ∧ Chg Non w w1) := by rw [hw1]; exact ⟨h.drewN n, hv.keep (fun _ _ _ => rfl), drewN_chg w n⟩
  rw [← hw1]
  clear hw1 h hv
  by_cases hm0 : m = 0
  · subst hm0
    have HM2 : Hid (isNm s.data.toList = true ∧ xs.length ≤ 65536 ∧ ((findL s.data.toList R).isSome = true ∨ R.length < 64)) := HM.out rfl
    clear HM
    go_wp2_with fail
    refine (made_any q sv R s _ HW.out.1 HM2.out.2.2).mono ?_
    rintro e w2 ⟨i, sv2, R1, f, rfl, hst2, hmp, hc2, hsv⟩
    obtain ⟨g, c, ao, an, ac, fo, fn, fc, rfl, hvo, hvf, d0, d1, d2, d3, d4, hok, hfz, hlt, hle⟩ := hst2.five hmp.at_
    have c0 := hst2.cell
    have hl64 := hst2.len
    have H2 : Hid (RSt w2 q (.slice (some ⟨g, 0, none⟩) R1.length c) R1 ∧ MadeP s.data.toList R R1 i f ∧ Chg (One q) w1 w2 ∧ (Value.slice (some ⟨g, 0, none⟩) R1.length c = sv ∨ w1.heap.size ≤ g) ∧ Rd w2 (.slice vo vn vc) xs) := ⟨hst2, hmp, hc2, hsv.imp id (fun h => h g rfl), HW.out.2.1.keep' (fun hne k e hk => hc2.block k hk (fun e' => HVQ.out hne (by rw [e, e'])))⟩
    clear hst2 hmp hc2 hsv d0 d1 d2 d3 d4 hvo hvf hok hfz
    obtain ⟨rn, hrn⟩ : ∃ rn, rn = R1.length := ⟨_, rfl⟩
    rw [← hrn] at c0 hlt hle hl64
    have HN : Hid (rn = R1.length) := hrn
    clear hrn
    have d0 : (w2.alloc (.cells #[] 5)).cell? ⟨q, 0, none⟩ = some (.slice (some ⟨g, 0, none⟩) rn c) := by rw [World.cell?_of_block (Below.heap_alloc _ _ _ H2.out.1.lt)]; exact c0
    go_wp2_with fail
    go_region_law (refine step_app rfl (.tmp 25) (.tmp 26) rfl _ _ [] xs rfl rfl ?_ ?_ ?_ ?_; (exact (OwnV.empty w2).drew); (exact (H2.out.2.2.2.2.keep (fun k _ hk => Below.heap_alloc _ _ _ hk)).drew); (have := HM2.out.2.1; simp; omega); intro v3 w3 ho3 hc3 hk3; have hc3' : Chg Non w2 w3 := (((Chg.refl Non w2).alloc (.cells #[] 5)).trans hc3.from_drew (fun k hk e => by have e' : some w2.heap.size = some k := e; cases e'; omega)); have hst3 := H2.out.1.non hc3'; have c3 := hst3.cell; obtain ⟨uo, un, uc, rfl, -⟩ := ho3.shape; obtain ⟨g', c', ao', an', ac', fo', fn', fc', e5, -, -, d0', d1', d2', d3', d4', -, hfz', -, -⟩ := hst3.five H2.out.2.1.at_; cases e5; rw [← HN.out] at c3)
    all_goals
      have H3 : Hid (OwnV w3 (.slice uo un uc) xs ∧ Chg Non w2 w3 ∧ ∀ k, (Value.slice uo un uc).ownBlock = some k → w2.heap.size ≤ k) := ⟨ho3, hc3', fun k e => by
        rcases hk3 with h | h
        · rw [h] at e; have e' : some w2.heap.size = some k := e; cases e'; exact Nat.le_refl _
        · rw [h] at e; have e' := Option.some.inj e; have e2 : (w2.alloc (.cells #[] 5)).drew.heap.size = w2.heap.size + 1 := (by simp [World.drew]); omega⟩
      clear ho3 hc3 hc3' hk3 hst3 c3 d0' d1' d2' d3' d4' hfz' c0 d0
      go_wp2
      go_ret
      exact ⟨rfl, put_end HMM.out HM2.out.2.1 HW.out.1 HW.out.2.2 H2.out.1 H2.out.2.1 H2.out.2.2.1 H2.out.2.2.2.1 H3.out.1 H3.out.2.1 H3.out.2.2⟩
  · have hmq : (m == 0) = false := by simpa using hm0
    have HM3 : Hid (m ≠ 0) := hm0
    clear hm0 HM
    go_wp2
    go_ret
    exact ⟨rfl, fun _ => HW.out.1, fun e => absurd (HMM.out.trans e) HM3.out, HW.out.2.2.non _⟩
end Go.Proofs.Ytpabijfamnghjaa
