/-
  The document's store: Torn, Read.
-/
import Derived.Test.YtpabijfamnghjaaRef2
import Derived.Deep.RegionLaw
namespace Go.Proofs.Ytpabijfamnghjaa
open Go.RowKit
set_option linter.unusedVariables false

theorem RSt.drewN {w : World} {q : Nat} {sv : Value} {R : List Ent} (h : RSt w q sv R) (n : Nat) : RSt (w.drewN n) q sv R := h.non (drewN_chg w n)

/-- The file at place i: its five cells. -/
theorem RSt.five {w : World} {q : Nat} {sv : Value} {R : List Ent} (h : RSt w q sv R) {i : Nat} {f : Ent} (hi : R[i]? = some f) :
    ∃ g c ao an ac fo fn fc, sv = .slice (some ⟨g, 0, none⟩) R.length c ∧ f.vo = .slice ao an ac ∧ f.vf = .slice fo fn fc ∧ w.cell? ⟨g, i * 5, none⟩ = some (.string ⟨f.name.toArray⟩) ∧ w.cell? ⟨g, i * 5 + 1, none⟩ = some (.slice ao an ac) ∧
      w.cell? ⟨g, i * 5 + 2, none⟩ = some (.bool f.torn) ∧ w.cell? ⟨g, i * 5 + 3, none⟩ = some (.slice fo fn fc) ∧ w.cell? ⟨g, i * 5 + 4, none⟩ = some (.int .i64 f.n) ∧ EntOk w f ∧ (∀ k, w.frozen? ⟨g, k, none⟩ = false) ∧ i < R.length ∧ R.length ≤ c := by
  obtain ⟨ao, c, rfl, hc, hcm, hnil, hsm⟩ := h.shape
  have hlt := (List.getElem?_eq_some_iff.1 hi).1
  cases ao with
  | none => rw [(hnil rfl).1] at hlt; simp at hlt
  | some x =>
    obtain ⟨g, rfl⟩ := hsm x rfl
    have he := h.ent f (List.mem_of_getElem? hi)
    obtain ⟨ao, an, ac, ha, -⟩ := he.old.shape
    obtain ⟨fo, fn, fc, hb, -⟩ := he.new.shape
    have h0 := h.cellE hi 0 (by decide)
    have h1 := h.cellE hi 1 (by decide)
    have h2 := h.cellE hi 2 (by decide)
    have h3 := h.cellE hi 3 (by decide)
    have h4 := h.cellE hi 4 (by decide)
    simp only [cellsE, ha, hb] at h0 h1 h2 h3 h4
    exact ⟨g, c, ao, an, ac, fo, fn, fc, rfl, ha, hb, h0, h1, h2, h3, h4, he, fun k => h.row.frozenAt k, hlt, hc⟩

set_option maxHeartbeats 1000000 in
theorem rtorn_any (q : Nat) (sv : Value) (R : List Ent) (s : ByteArray) (w : World) (h : RSt w q sv R) :
    Calls Try.prog 23 #[.pointer (some ⟨q, 0, none⟩), .string s] w fun e w' => e = .returned (.bool (tornL s.data.toList R)) ∧ ∃ n, w' = w.drewN n := by
  have H : Hid (RSt w q sv R) := h
  clear h
  unfold tornL
  cases hf : findL s.data.toList R with
  | none =>
    go_enter Try.func23, Try.ntmps23
    go_wp2_with fail
    refine (at_any q _ R s _ H.out).mono ?_
    rintro e w1 ⟨i, n, rfl, rfl, hat⟩
    rw [hf]
    clear hat hf
    go_wp2
    go_ret
    exact ⟨rfl, n, rfl⟩
  | some f =>
    go_enter Try.func23, Try.ntmps23
    go_wp2_with fail
    refine (at_any q _ R s _ H.out).mono ?_
    rintro e w1 ⟨i, n, rfl, rfl, hat⟩
    rw [hf]
    obtain ⟨h1, -, -⟩ := hat.some H.out.ris hf
    have hl64 := H.out.len
    obtain ⟨g, c, ao, an, ac, fo, fn, fc, rfl, -, -, d0, d1, d2, d3, d4, -, -, hlt, hle⟩ := (H.out.drewN n).five h1
    have c0 := (H.out.drewN n).cell
    clear hat hf h1 d0 d1 d3 d4
    go_wp2
    go_ret
    exact ⟨rfl, n, rfl⟩

set_option maxRecDepth 100000 in
set_option maxHeartbeats 2000000 in
theorem rread_any (q : Nat) (sv : Value) (R : List Ent) (s : ByteArray) (w : World) (h : RSt w q sv R) :
    Calls Try.prog 12 #[.pointer (some ⟨q, 0, none⟩), .string s] w fun r w' => ∃ v', r = .returned (.tuple #[v', .int .i64 (readR s.data.toList R)]) ∧ OwnV w' v' (seenL s.data.toList R) ∧ Chg Non w w' ∧ ∀ k, v'.ownBlock = some k → w.heap.size ≤ k := by
  have H : Hid (RSt w q sv R) := h
  clear h
  unfold readR seenL
  cases hf : findL s.data.toList R with
  | none =>
    go_enter Try.func12, Try.ntmps12
    go_wp2_with fail
    refine (at_any q _ R s _ H.out).mono ?_
    rintro e w1 ⟨i, n, rfl, rfl, hat⟩
    rw [hf]
    clear hat hf
    go_wp2
    go_ret2
    exact ⟨_, rfl, .inl ⟨rfl, rfl⟩, drewN_chg w n, fun k e => by simp [Value.ownBlock] at e⟩
  | some f =>
    simp only
    go_enter Try.func12, Try.ntmps12
    go_wp2_with fail
    refine (at_any q _ R s _ H.out).mono ?_
    rintro e w1 ⟨i, n, rfl, rfl, hat⟩
    rw [hf]
    obtain ⟨h1, -, -⟩ := hat.some H.out.ris hf
    have hl64 := H.out.len
    obtain ⟨w1, hw1⟩ : ∃ w1, w1 = w.drewN n := ⟨_, rfl⟩
    have hst1 : RSt w1 q sv R := by rw [hw1]; exact H.out.drewN n
    have hc1 : Chg Non w w1 := by rw [hw1]; exact drewN_chg w n
    rw [← hw1]
    obtain ⟨g, c, ao, an, ac, fo, fn, fc, rfl, hvo, hvf, d0, d1, d2, d3, d4, hok, -, hlt, hle⟩ := hst1.five h1
    have c0 := hst1.cell
    have hold := hok.old
    have hnew := hok.new
    rw [hvo] at hold
    rw [hvf] at hnew
    obtain ⟨_, _, _, e1, han, hac, ham⟩ := hold.shape
    cases e1
    obtain ⟨_, _, _, e1, hfn, hfc, hfm⟩ := hnew.shape
    cases e1
    have hn := hok.n
    have hlo := hok.lo
    have hlf := hok.lf
    have hnf : f.n ≤ fn := by omega
    have han6 : an ≤ 65536 := by omega
    have hfn6 : fn ≤ 65536 := by omega
    have HX : Hid (an = f.xo.length ∧ fn = f.xf.length) := ⟨han, hfn⟩
    have H1 : Hid (OwnV w1 (.slice ao an ac) f.xo ∧ OwnV w1 (.slice fo fn fc) f.xf ∧ Chg Non w w1) := ⟨hold, hnew, hc1⟩
    have hms : maxLen = 9223372036854775807 := rfl
    clear hat hf h1 hw1 hst1 hc1 hok hold hnew han hfn hn hlo hlf hvo hvf
    obtain ⟨nm, vo, xo, t, vf, xf, m⟩ := f
    simp only at *
    obtain ⟨wa, hwa⟩ : ∃ wa, wa = w1.alloc (.cells #[.string ⟨nm.toArray⟩, .slice ao an ac, .bool t, .slice fo fn fc, .int .i64 m] 37) := ⟨_, rfl⟩
    have hba : wa.heap[w1.heap.size]? = some (.cells #[.string ⟨nm.toArray⟩, .slice ao an ac, .bool t, .slice fo fn fc, .int .i64 m] 37) := by rw [hwa]; exact heap_alloc_new w1 _
    have hca : Chg Non w1 wa := by rw [hwa]; exact (Chg.refl _ _).alloc _
    have H2 : Hid (OwnV wa (.slice ao an ac) xo ∧ OwnV wa (.slice fo fn fc) xf ∧ Chg Non w wa ∧ wa.heap[w1.heap.size]? = some (.cells #[.string ⟨nm.toArray⟩, .slice ao an ac, .bool t, .slice fo fn fc, .int .i64 m] 37) ∧ w.heap.size ≤ w1.heap.size) :=
      ⟨H1.out.1.keep (fun k e => hca.block k (H1.out.1.lt k e) (fun x => x)), H1.out.2.1.keep (fun k e => hca.block k (H1.out.2.1.lt k e) (fun x => x)), H1.out.2.2.trans hca (fun _ _ x => x), hba, H1.out.2.2.size⟩
    have HWS : Hid (wa.heap.size = w1.heap.size + 1) := by show _ = _; rw [hwa]; simp
    clear hca hba
    go_wp2_with (at_builtin; refine wpList_app _ rfl _ _ rfl _ _ [] (xf.take m) rfl rfl ?ho ?hr ?hb ?hK)
    case ho =>
      have := OwnV.empty (w1.alloc (.cells #[.string ⟨nm.toArray⟩, .slice ao an ac, .bool t, .slice fo fn fc, .int .i64 m] 37))
      rw [show (w1.alloc (.cells #[.string ⟨nm.toArray⟩, .slice ao an ac, .bool t, .slice fo fn fc, .int .i64 m] 37)).heap.size = w1.heap.size + 1 by simp] at this
      exact this
    case hr =>
      rw [← hwa]
      exact (H2.out.2.1.rd.take hnf).keep (fun k _ hk => Below.heap_alloc _ _ _ hk)
    case hb => simp; omega
    case hK =>
    rw [← hwa]
    intro v2 w2 ho2 hc2 hk2
    have ho2' : OwnV w2 v2 (xf.take m) := by simpa using ho2
    obtain ⟨uo, un, uc, rfl, -⟩ := ho2'.shape
    have hcw : Chg Non wa w2 := ((Chg.refl Non wa).alloc (.cells #[] 5)).trans hc2 (fun k hk e => by have h9 := HWS.out; have e' : some (w1.heap.size + 1) = some k := e; cases e'; omega)
    have hb2 := (hcw.block w1.heap.size (Array.getElem?_eq_some_iff.1 H2.out.2.2.2.1).1 (fun x => x)).trans H2.out.2.2.2.1
    have e1 : w2.cell? ⟨w1.heap.size, 1, none⟩ = some (.slice ao an ac) := by rw [cell_of_row w2 w1.heap.size 1 _ 37 _ hb2]; rfl
    have e4 : w2.cell? ⟨w1.heap.size, 4, none⟩ = some (.int .i64 m) := by rw [cell_of_row w2 w1.heap.size 4 _ 37 _ hb2]; rfl
    have H3 : Hid (OwnV w2 (.slice uo un uc) (xf.take m) ∧ Chg Non w w2 ∧ Rd w2 (.slice ao an ac) xo ∧ ∀ k, (Value.slice uo un uc).ownBlock = some k → w.heap.size ≤ k) := ⟨ho2', H2.out.2.2.1.trans hcw (fun _ _ x => x), H2.out.1.rd.keep (fun k _ hk => hcw.block k hk (fun x => x)), fun k e => by
      have h5 := H2.out.2.2.1.size
      rcases hk2 with h | h
      · rw [h] at e; have e' : some (w1.heap.size + 1) = some k := e; cases e'; have := H2.out.2.2.2.2; omega
      · have e' := Option.some.inj (h.symm.trans e)
        have e2 := H2.out.2.2.2.2
        omega⟩
    clear ho2 hc2 hk2 ho2' hcw hb2 hwa H2 H1 d0 d1 d2 d3 d4 c0
    by_cases hlt2 : m < an
    · cases ao with
      | none => exfalso; obtain ⟨_, _, _, e, _, _, _, h0, _⟩ := H3.out.2.2.1; cases e; have := h0 rfl; omega
      | some x =>
        have hmc : m < ac := by omega
        go_wp2_with (at_builtin; refine wpList_app _ rfl _ _ rfl _ _ (xf.take m) (xo.drop m) rfl rfl H3.out.1 (H3.out.2.2.1.drop (k := m) (by omega)) (by have := HX.out; simp; omega) ?_)
        intro v3 w3 ho3 hc3 hk3
        go_wp2
        go_ret2
        obtain ⟨q1, q2, q3, q4⟩ := H3.out
        refine ⟨v3, rfl, by unfold seenE; exact ho3, q2.trans hc3 (fun i hi e => by have := q4 i e; omega), fun k e => ?_⟩
        rcases hk3 with h | h
        · rw [h] at e; exact q4 k e
        · rw [h] at e; cases e; exact q2.size
    · go_wp2
      go_ret2
      obtain ⟨q1, q2, q3, q4⟩ := H3.out
      refine ⟨_, rfl, ?_, q2, q4⟩
      unfold seenE
      simp only
      rw [List.drop_eq_nil_of_le (by have := HX.out; omega), List.append_nil]
      exact q1
end Go.Proofs.Ytpabijfamnghjaa
