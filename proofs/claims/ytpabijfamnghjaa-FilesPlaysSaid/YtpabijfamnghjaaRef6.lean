/-
  The document's store: Tear.
-/
import Derived.Test.YtpabijfamnghjaaRef4
namespace Go.Proofs.Ytpabijfamnghjaa
open Go.RowKit
set_option linter.unusedVariables false

structure RTear (w w' : World) (q : Nat) (sv : Value) (nm : List UInt8) (xs : List Int) (n : Int) (R : List Ent) : Prop where
  no : tearC nm xs.length n R ≠ 0 → RSt w' q sv R
  yes : tearC nm xs.length n R = 0 → ∃ v' sv', RSt w' q sv' (putL (tearE nm v' xs n.toNat R) R) ∧ (∀ k, v'.ownBlock = some k → w.heap.size ≤ k) ∧ ∀ k, sv'.ownBlock = some k → sv.ownBlock = some k ∨ w.heap.size ≤ k
  chg : Chg (QS q sv) w w'

/-- One cell of a file is written. -/
theorem RSt.one {w : World} {q g c : Nat} {R1 : List Ent} (h : RSt w q (.slice (some ⟨g, 0, none⟩) R1.length c) R1) {i j : Nat} {f f' : Ent} {u : Value} (hi : R1[i]? = some f) (hj : j < 5) (hc : cellsE f' = (cellsE f).set j u) (hn : f'.name = f.name) (he : EntOk w f') :
    RSt (w.setCell ⟨g, i * 5 + j, none⟩ u) q (.slice (some ⟨g, 0, none⟩) (R1.set i f').length c) (R1.set i f') := by
  rw [show (R1.set i f').length = R1.length from List.length_set]
  have hr := h.rrow.set hi hj hc
  refine hr.whole h ((Chg.refl (One g) w).setCell (p := ⟨g, i * 5 + j, none⟩) (fun _ => rfl) _) he ?_
  have hlt := (List.getElem?_eq_some_iff.1 hi).1
  have hge := (List.getElem?_eq_some_iff.1 hi).2
  have hmap : (R1.set i f').map Ent.name = R1.map Ent.name := by
    apply List.ext_getElem?
    intro k
    rw [List.getElem?_map, List.getElem?_map, List.getElem?_set]
    by_cases hk : i = k
    · subst hk
      simp [hlt, hn, hge]
    · simp [hk]
  unfold Rising
  have h1 : (R1.map Ent.name).Pairwise (fun a b => bytesBefore a b = true) := List.pairwise_map.2 h.ris
  rw [← hmap] at h1
  exact List.pairwise_map.1 h1

theorem tear_mid {w3 wA w5 : World} {q c g i : Nat} {R2 : List Ent} {f : Ent} {uo : Option Addr} {un uc : Nat} {xs : List Int} (hok : EntOk w3 f) (ht : f.torn = false) (hA : RSt wA q (.slice (some ⟨g, 0, none⟩) R2.length c) R2) (hat : R2[i]? = some ⟨f.name, f.vo, f.xo, true, f.vf, f.xf, f.n⟩) (hc : Chg Non wA w5)
    (ho : OwnV w5 (.slice uo un uc) xs) (hl : xs.length ≤ 65536) : EntOk w5 ⟨f.name, f.vo, f.xo, true, .slice uo un uc, xs, f.n⟩ := by
  have h1 := (hA.ent _ (List.mem_of_getElem? hat)).non hc
  exact ⟨h1.old, ho, h1.lo, hl, by have := (hok.calm ht).1; simp only; omega, fun e => by cases e⟩

theorem tear_end {w w2 w3 wA w5 wC : World} {q g c i N : Nat} {sv : Value} {R R1 R3 : List Ent} {f : Ent} {s : ByteArray} {xs : List Int} {uo : Option Addr} {un uc : Nat} (he : tearC s.data.toList xs.length N R = 0) (hN : N ≤ xs.length) (h2 : RSt w2 q sv R) (hc2 : Chg Non w w2)
    (h3 : RSt w3 q (.slice (some ⟨g, 0, none⟩) R1.length c) R1) (hmp : MadeP s.data.toList R R1 i f) (hc3 : Chg (One q) w2 w3) (hsv : Value.slice (some ⟨g, 0, none⟩) R1.length c = sv ∨ w2.heap.size ≤ g) (hok : EntOk w3 f) (hcA : Chg (One g) w3 wA) (hc5 : Chg Non wA w5)
    (hC : RSt wC q (.slice (some ⟨g, 0, none⟩) R3.length c) R3) (hat : R3[i]? = some ⟨f.name, f.vo, f.xo, true, .slice uo un uc, xs, f.n⟩) (hcC : Chg (One g) w5 wC) (hset : ∀ e : Ent, R3.set i e = R1.set i e) (ho : OwnV w5 (.slice uo un uc) xs) (hnew : ∀ k, (Value.slice uo un uc).ownBlock = some k → wA.heap.size ≤ k) (hl : xs.length ≤ 65536) :
    RTear w (wC.setCell ⟨g, i * 5 + 4, none⟩ (.int .i64 N)) q sv s.data.toList xs N R := by
  have hent := hC.ent _ (List.mem_of_getElem? hat)
  have hfin := hC.one (f' := ⟨f.name, f.vo, f.xo, true, .slice uo un uc, xs, N⟩) (j := 4) (u := .int .i64 N) hat (by decide) (by simp [cellsE]) rfl ⟨hent.old, hent.new, hent.lo, hent.lf, hN, fun e => by cases e⟩
  have hput : R3.set i ⟨f.name, f.vo, f.xo, true, .slice uo un uc, xs, N⟩ = putL (tearE s.data.toList (.slice uo un uc) xs N R) R := by
    rw [hset, hmp.set ⟨f.name, f.vo, f.xo, true, .slice uo un uc, xs, N⟩ hmp.name]
    unfold tearE
    rw [hmp.vo, hmp.xo, hmp.name]
  have hs23 : w2.heap.size ≤ wA.heap.size := Nat.le_trans hc3.size hcA.size
  have hcg : Chg (One g) w3 (wC.setCell ⟨g, i * 5 + 4, none⟩ (.int .i64 N)) := ((hcA.trans (hc5.non Non) (fun _ _ x => x.elim)).trans hcC (fun _ _ x => x)).setCell (p := ⟨g, i * 5 + 4, none⟩) (fun _ => rfl) _
  refine ⟨fun e => absurd he e, fun _ => ⟨.slice uo un uc, .slice (some ⟨g, 0, none⟩) (R3.set i ⟨f.name, f.vo, f.xo, true, .slice uo un uc, xs, N⟩).length c, ?_, fun k e => ?_, row_end hc2 hsv⟩, chg_end hc2 hc3 hsv (Chg.refl _ _) hcg⟩
  · rw [Int.toNat_natCast, ← hput]
    exact hfin
  · have := hnew k e
    have := hc2.size
    omega

set_option maxRecDepth 100000 in
set_option maxHeartbeats 4000000 in
theorem rtear_any (q : Nat) (sv : Value) (R : List Ent) (s : ByteArray) (v : Value) (xs : List Int) (n : Int) (w : World) (h : RSt w q sv R) (hs : s.size ≤ maxLen) (hv : Rd w v xs) (hvq : xs ≠ [] → v.ownBlock ≠ some q) (hvr : xs ≠ [] → ∀ k, v.ownBlock = some k → sv.ownBlock ≠ some k) :
    Calls Try.prog 19 #[.pointer (some ⟨q, 0, none⟩), .string s, v, .int .i64 n] w fun r w' => r = .returned (.int .i64 (tearC s.data.toList xs.length n R)) ∧ RTear w w' q sv s.data.toList xs n R := by
  have HM : Hid (mayL s.data.toList xs.length R = 0 → isNm s.data.toList = true ∧ xs.length ≤ 65536 ∧ ((findL s.data.toList R).isSome = true ∨ R.length < 64)) := may_room
  have HT : Hid (tearC s.data.toList xs.length n R = if mayL s.data.toList xs.length R ≠ 0 then mayL s.data.toList xs.length R else if tornL s.data.toList R = true then 25 else if n < 0 ∨ (xs.length : Int) < n then 1 else 0) := rfl
  have hma := rmay_any q sv R s _ xs _ h hs hv
  generalize mayL s.data.toList xs.length R = m at *
  obtain ⟨vo, vn, vc, rfl, hvn, hvc, hvm⟩ := hv.shape
  have hms : maxLen = 9223372036854775807 := rfl
  have HV : Hid (vn = xs.length) := hvn
  have HVQ : Hid ((xs ≠ [] → (Value.slice vo vn vc).ownBlock ≠ some q) ∧ (xs ≠ [] → ∀ k, (Value.slice vo vn vc).ownBlock = some k → sv.ownBlock ≠ some k)) := ⟨hvq, hvr⟩
  have hvl : vn ≤ 9223372036854775807 := by omega
  clear hvn hvc hvq hvr
  go_enter Try.func19, Try.ntmps19
  go_wp2_with fail
  refine hma.mono ?_
  clear hma
  rintro e w1 ⟨rfl, d, rfl⟩
  obtain ⟨w1, hw1⟩ : ∃ w1, w1 = w.drewN d := ⟨_, rfl⟩
  have HW : Hid (RSt w1 q sv R ∧ Rd w1 (.slice vo vn vc) xs ∧ Chg Non w w1) := by rw [hw1]; exact ⟨h.drewN d, hv.keep (fun _ _ _ => rfl), drewN_chg w d⟩
  rw [← hw1]
  clear hw1 h hv
  by_cases hm0 : m = 0
  · subst hm0
    have HM2 : Hid (isNm s.data.toList = true ∧ xs.length ≤ 65536 ∧ ((findL s.data.toList R).isSome = true ∨ R.length < 64)) := HM.out rfl
    clear HM
    have HT2 : Hid (tearC s.data.toList xs.length n R = if tornL s.data.toList R = true then 25 else if n < 0 ∨ (xs.length : Int) < n then 1 else 0) := by have := HT.out; show _ = _; simpa using this
    clear HT
    go_wp2_with fail
    refine (at_any q sv R s _ HW.out.1).mono ?_
    rintro e w2 ⟨i0, d2, rfl, rfl, hat⟩
    obtain ⟨w2, hw2⟩ : ∃ w2, w2 = w1.drewN d2 := ⟨_, rfl⟩
    have HW2 : Hid (RSt w2 q sv R ∧ Rd w2 (.slice vo vn vc) xs ∧ Chg Non w w2) := by rw [hw2]; exact ⟨HW.out.1.drewN d2, HW.out.2.1.keep (fun _ _ _ => rfl), HW.out.2.2.trans (drewN_chg w1 d2) (fun _ _ x => x)⟩
    rw [← hw2]
    clear hw2 HW
    -- is it there, and torn?
    have hcases : ((findL s.data.toList R).isSome = false ∧ tornL s.data.toList R = false) ∨ ∃ f, findL s.data.toList R = some f ∧ R[i0]? = some f := by
      cases hf : findL s.data.toList R with
      | none => left; exact ⟨rfl, by unfold tornL; rw [hf]⟩
      | some f => right; exact ⟨f, rfl, (hat.some HW2.out.1.ris hf).1⟩
    clear hat
    rcases hcases with ⟨hfn, htn⟩ | ⟨f0, hf0, hi0⟩
    · rw [hfn]
      have HTF : Hid (tornL s.data.toList R = false) := htn
      clear hfn htn
      by_cases hn0 : n < 0
      · go_wp2
        go_ret
        have e1 : tearC s.data.toList xs.length n R = 1 := by rw [HT2.out, HTF.out]; simp [hn0]
        exact ⟨ret_int e1.symm, fun _ => HW2.out.1, fun e => by omega, HW2.out.2.2.non _⟩
      · by_cases hn1 : (vn : Int) < n
        · go_wp2
          go_ret
          have e1 : tearC s.data.toList xs.length n R = 1 := by rw [HT2.out, HTF.out]; have := HV.out; simp; omega
          exact ⟨ret_int e1.symm, fun _ => HW2.out.1, fun e => by omega, HW2.out.2.2.non _⟩
        · have HE : Hid (tearC s.data.toList xs.length n R = 0) := by have := HT2.out; rw [HTF.out] at this; have h5 := HV.out; rw [if_neg (by decide), if_neg (by omega)] at this; exact this
          clear HT2
          obtain ⟨N, rfl⟩ := Int.eq_ofNat_of_zero_le (show 0 ≤ n by omega)
          go_wp2_with fail
          refine (made_any q sv R s _ HW2.out.1 HM2.out.2.2).mono ?_
          rintro e w3 ⟨i, sv3, R1, f, rfl, hst3, hmp, hc3, hsv⟩
          obtain ⟨g, c, ao, an, ac, fo, fn, fc, rfl, hvo, hvf, d0, d1, d2, d3, d4, hok, hfz, hlt, hle⟩ := hst3.five hmp.at_
          have c0 := hst3.cell
          have hl64 := hst3.len
          have hf0 : f.torn = false := hmp.torn.trans HTF.out
          have H3 : Hid (RSt w3 q (.slice (some ⟨g, 0, none⟩) R1.length c) R1 ∧ MadeP s.data.toList R R1 i f ∧ Chg (One q) w2 w3 ∧ (Value.slice (some ⟨g, 0, none⟩) R1.length c = sv ∨ w2.heap.size ≤ g) ∧ EntOk w3 f ∧ f.torn = false) :=
            ⟨hst3, hmp, hc3, hsv.imp id (fun h => h g rfl), hok, hf0⟩
          obtain ⟨rn, hrn⟩ : ∃ rn, rn = R1.length := ⟨_, rfl⟩
          rw [← hrn] at c0 hlt hle hl64
          have HN : Hid (rn = R1.length) := hrn
          clear hrn hst3 hmp hc3 hsv d0 d1 d3 d4 hvo hvf hok hf0
          have hfzq : w3.frozen? ⟨g, i * 5 + 2, none⟩ = false := hfz _
          have hstA := H3.out.1.one (f' := ⟨f.name, f.vo, f.xo, true, f.vf, f.xf, f.n⟩) (j := 2) (u := .bool true) H3.out.2.1.at_ (by decide) (by simp [cellsE]) rfl ⟨H3.out.2.2.2.2.1.old, H3.out.2.2.2.2.1.new, H3.out.2.2.2.2.1.lo, H3.out.2.2.2.2.1.lf, H3.out.2.2.2.2.1.n, fun e => by cases e⟩
          have hltR : i < R1.length := by have := HN.out; omega
          have hcA : Chg (One g) w3 (w3.setCell ⟨g, i * 5 + 2, none⟩ (.bool true)) := (Chg.refl (One g) w3).setCell (p := ⟨g, i * 5 + 2, none⟩) (fun _ => rfl) _
          obtain ⟨wA, hwA⟩ : ∃ wA, wA = w3.setCell ⟨g, i * 5 + 2, none⟩ (.bool true) := ⟨_, rfl⟩
          obtain ⟨R2, hR2⟩ : ∃ R2, R2 = R1.set i ⟨f.name, f.vo, f.xo, true, f.vf, f.xf, f.n⟩ := ⟨_, rfl⟩
          rw [← hwA, ← hR2] at hstA
          rw [← hwA] at hcA
          have hatA : R2[i]? = some ⟨f.name, f.vo, f.xo, true, f.vf, f.xf, f.n⟩ := by rw [hR2]; simp [hltR]
          have hsetA : ∀ e : Ent, R2.set i e = R1.set i e := fun e => by rw [hR2]; simp
          have hgk : xs ≠ [] → ∀ k, k < w2.heap.size → (Value.slice vo vn vc).ownBlock = some k → k ≠ g := fun hne k hk e e' => by
            subst e'
            rcases H3.out.2.2.2.1 with h5 | h5
            · exact HVQ.out.2 hne k e (by rw [← h5]; rfl)
            · omega
          have hRdA : Rd wA (.slice vo vn vc) xs := HW2.out.2.1.keep' (fun hne k e hk => (hcA.block k (by have := H3.out.2.2.1.size; omega) (hgk hne k hk e)).trans (H3.out.2.2.1.block k hk (fun e' => HVQ.out.1 hne (by rw [e, e']))))
          have HA : Hid (RSt wA q (.slice (some ⟨g, 0, none⟩) R2.length c) R2 ∧ R2[i]? = some ⟨f.name, f.vo, f.xo, true, f.vf, f.xf, f.n⟩ ∧ Chg (One g) w3 wA ∧ Rd wA (.slice vo vn vc) xs ∧ ∀ e : Ent, R2.set i e = R1.set i e) := ⟨hstA, hatA, hcA, hRdA, hsetA⟩
          have HN2 : Hid (rn = R2.length) := by show _ = _; rw [hR2, List.length_set]; exact HN.out
          have cA := hstA.cell
          rw [← HN2.out] at cA
          go_wp2_with fail
          try rw [← hwA]
          clear hwA hR2 hstA hatA hcA hRdA hgk hsetA c0 d2 hfz hfzq
          have dA : (wA.alloc (.cells #[] 5)).cell? ⟨q, 0, none⟩ = some (.slice (some ⟨g, 0, none⟩) rn c) := by rw [World.cell?_of_block (Below.heap_alloc _ _ _ HA.out.1.lt)]; exact cA
          go_region_law (refine step_app rfl (.tmp 59) (.tmp 60) rfl _ _ [] xs rfl rfl ?_ ?_ ?_ ?_; (exact (OwnV.empty wA).drew); (exact (HA.out.2.2.2.1.keep (fun k _ hk => Below.heap_alloc _ _ _ hk)).drew); (have := HM2.out.2.1; simp; omega); intro v5 w5 ho5 hc5 hk5; have hc5' : Chg Non wA w5 := (((Chg.refl Non wA).alloc (.cells #[] 5)).trans hc5.from_drew (fun k hk e => by have e' : some wA.heap.size = some k := e; cases e'; omega)); have hst5 := HA.out.1.non hc5'; have c5 := hst5.cell; obtain ⟨uo, un, uc, rfl, -⟩ := ho5.shape; obtain ⟨g', c', ao', an', ac', fo', fn', fc', e5, -, -, -, -, -, d3', -, -, hfz', -, -⟩ := hst5.five HA.out.2.1; cases e5; have hfz3 : w5.frozen? ⟨g, i * 5 + 3, none⟩ = false := hfz' _; rw [← HN2.out] at c5)
          all_goals
            have hstC := hst5.one (f' := ⟨f.name, f.vo, f.xo, true, .slice uo un uc, xs, f.n⟩) (j := 3) (u := .slice uo un uc) HA.out.2.1 (by decide) (by simp [cellsE]) rfl (tear_mid H3.out.2.2.2.2.1 H3.out.2.2.2.2.2 HA.out.1 HA.out.2.1 hc5' (by simpa using ho5) HM2.out.2.1)
            have hcC : Chg (One g) w5 (w5.setCell ⟨g, i * 5 + 3, none⟩ (.slice uo un uc)) := (Chg.refl (One g) w5).setCell (p := ⟨g, i * 5 + 3, none⟩) (fun _ => rfl) _
            obtain ⟨wC, hwC⟩ : ∃ wC, wC = w5.setCell ⟨g, i * 5 + 3, none⟩ (.slice uo un uc) := ⟨_, rfl⟩
            rw [← hwC] at hstC hcC ⊢
            obtain ⟨R3, hR3⟩ : ∃ R3, R3 = R2.set i ⟨f.name, f.vo, f.xo, true, .slice uo un uc, xs, f.n⟩ := ⟨_, rfl⟩
            rw [← hR3] at hstC
            have hlt2 : i < R2.length := by have := HN2.out; omega
            have hatC : R3[i]? = some ⟨f.name, f.vo, f.xo, true, .slice uo un uc, xs, f.n⟩ := by rw [hR3]; simp [hlt2]
            have HC : Hid (RSt wC q (.slice (some ⟨g, 0, none⟩) R3.length c) R3 ∧ R3[i]? = some ⟨f.name, f.vo, f.xo, true, .slice uo un uc, xs, f.n⟩ ∧ Chg (One g) w5 wC ∧ (∀ e : Ent, R3.set i e = R1.set i e) ∧ Chg Non wA w5 ∧ OwnV w5 (.slice uo un uc) xs ∧ ∀ k, (Value.slice uo un uc).ownBlock = some k → wA.heap.size ≤ k) := ⟨hstC, hatC, hcC, fun e => by rw [hR3, List.set_set]; exact HA.out.2.2.2.2 e, hc5', by simpa using ho5, fun k e => by
              rcases hk5 with h | h
              · rw [h] at e; have e' : some wA.heap.size = some k := e; cases e'; exact Nat.le_refl _
              · rw [h] at e; have e' := Option.some.inj e; have e2 : (wA.alloc (.cells #[] 5)).drew.heap.size = wA.heap.size + 1 := (by simp [World.drew]); omega⟩
            have cC := hstC.cell
            obtain ⟨g', c', ao2, an2, ac2, fo2, fn2, fc2, e5, -, -, -, -, -, -, d4C, -, hfzC, -, -⟩ := hstC.five hatC
            cases e5
            have hfz4 : wC.frozen? ⟨g, i * 5 + 4, none⟩ = false := hfzC _
            have HN3 : Hid (rn = R3.length) := by show _ = _; rw [hR3, List.length_set]; exact HN2.out
            rw [← HN3.out] at cC
            clear hwC hR3 hstC hcC hatC hst5 c5 d3' hfz' hfz3 ho5 hc5 hc5' hk5 cA dA hfzC
            go_wp2
            go_ret
            exact ⟨ret_int HE.out.symm, tear_end HE.out (by have := HV.out; omega) HW2.out.1 HW2.out.2.2 H3.out.1 H3.out.2.1 H3.out.2.2.1 H3.out.2.2.2.1 H3.out.2.2.2.2.1 HA.out.2.2.1 HC.out.2.2.2.2.1 HC.out.1 HC.out.2.1 HC.out.2.2.1 HC.out.2.2.2.1 HC.out.2.2.2.2.2.1 HC.out.2.2.2.2.2.2 HM2.out.2.1⟩
    · rw [hf0]
      obtain ⟨g0, c00, ao0, an0, ac0, fo0, fn0, fc0, hsv0, -, -, -, -, k2, -, -, -, -, klt, kle⟩ := HW2.out.1.five hi0
      have k0 := HW2.out.1.cell
      have kl := HW2.out.1.len
      have htl : tornL s.data.toList R = f0.torn := by unfold tornL; rw [hf0]
      obtain ⟨r0, hr0⟩ : ∃ r0, r0 = R.length := ⟨_, rfl⟩
      rw [hsv0, ← hr0] at k0
      rw [← hr0] at klt kle kl
      obtain ⟨t0, ht0⟩ : ∃ t0, t0 = f0.torn := ⟨_, rfl⟩
      rw [← ht0] at k2 htl
      have HTL : Hid (tornL s.data.toList R = t0) := htl
      clear hf0 hi0 hsv0 htl hr0 ht0
      cases t0
      · have HTF : Hid (tornL s.data.toList R = false) := HTL.out
        clear HTL
        by_cases hn0 : n < 0
        · go_wp2
          go_ret
          have e1 : tearC s.data.toList xs.length n R = 1 := by rw [HT2.out, HTF.out]; simp [hn0]
          exact ⟨ret_int e1.symm, fun _ => HW2.out.1, fun e => by omega, HW2.out.2.2.non _⟩
        · by_cases hn1 : (vn : Int) < n
          · go_wp2
            go_ret
            have e1 : tearC s.data.toList xs.length n R = 1 := by rw [HT2.out, HTF.out]; have := HV.out; simp; omega
            exact ⟨ret_int e1.symm, fun _ => HW2.out.1, fun e => by omega, HW2.out.2.2.non _⟩
          · have HE : Hid (tearC s.data.toList xs.length n R = 0) := by have := HT2.out; rw [HTF.out] at this; have h5 := HV.out; rw [if_neg (by decide), if_neg (by omega)] at this; exact this
            clear HT2
            obtain ⟨N, rfl⟩ := Int.eq_ofNat_of_zero_le (show 0 ≤ n by omega)
            go_wp2_with fail
            refine (made_any q sv R s _ HW2.out.1 HM2.out.2.2).mono ?_
            rintro e w3 ⟨i, sv3, R1, f, rfl, hst3, hmp, hc3, hsv⟩
            obtain ⟨g, c, ao, an, ac, fo, fn, fc, rfl, hvo, hvf, d0, d1, d2, d3, d4, hok, hfz, hlt, hle⟩ := hst3.five hmp.at_
            have c0 := hst3.cell
            have hl64 := hst3.len
            have hf0 : f.torn = false := hmp.torn.trans HTF.out
            have H3 : Hid (RSt w3 q (.slice (some ⟨g, 0, none⟩) R1.length c) R1 ∧ MadeP s.data.toList R R1 i f ∧ Chg (One q) w2 w3 ∧ (Value.slice (some ⟨g, 0, none⟩) R1.length c = sv ∨ w2.heap.size ≤ g) ∧ EntOk w3 f ∧ f.torn = false) :=
              ⟨hst3, hmp, hc3, hsv.imp id (fun h => h g rfl), hok, hf0⟩
            obtain ⟨rn, hrn⟩ : ∃ rn, rn = R1.length := ⟨_, rfl⟩
            rw [← hrn] at c0 hlt hle hl64
            have HN : Hid (rn = R1.length) := hrn
            clear hrn hst3 hmp hc3 hsv d0 d1 d3 d4 hvo hvf hok hf0
            have hfzq : w3.frozen? ⟨g, i * 5 + 2, none⟩ = false := hfz _
            have hstA := H3.out.1.one (f' := ⟨f.name, f.vo, f.xo, true, f.vf, f.xf, f.n⟩) (j := 2) (u := .bool true) H3.out.2.1.at_ (by decide) (by simp [cellsE]) rfl ⟨H3.out.2.2.2.2.1.old, H3.out.2.2.2.2.1.new, H3.out.2.2.2.2.1.lo, H3.out.2.2.2.2.1.lf, H3.out.2.2.2.2.1.n, fun e => by cases e⟩
            have hltR : i < R1.length := by have := HN.out; omega
            have hcA : Chg (One g) w3 (w3.setCell ⟨g, i * 5 + 2, none⟩ (.bool true)) := (Chg.refl (One g) w3).setCell (p := ⟨g, i * 5 + 2, none⟩) (fun _ => rfl) _
            obtain ⟨wA, hwA⟩ : ∃ wA, wA = w3.setCell ⟨g, i * 5 + 2, none⟩ (.bool true) := ⟨_, rfl⟩
            obtain ⟨R2, hR2⟩ : ∃ R2, R2 = R1.set i ⟨f.name, f.vo, f.xo, true, f.vf, f.xf, f.n⟩ := ⟨_, rfl⟩
            rw [← hwA, ← hR2] at hstA
            rw [← hwA] at hcA
            have hatA : R2[i]? = some ⟨f.name, f.vo, f.xo, true, f.vf, f.xf, f.n⟩ := by rw [hR2]; simp [hltR]
            have hsetA : ∀ e : Ent, R2.set i e = R1.set i e := fun e => by rw [hR2]; simp
            have hgk : xs ≠ [] → ∀ k, k < w2.heap.size → (Value.slice vo vn vc).ownBlock = some k → k ≠ g := fun hne k hk e e' => by
              subst e'
              rcases H3.out.2.2.2.1 with h5 | h5
              · exact HVQ.out.2 hne k e (by rw [← h5]; rfl)
              · omega
            have hRdA : Rd wA (.slice vo vn vc) xs := HW2.out.2.1.keep' (fun hne k e hk => (hcA.block k (by have := H3.out.2.2.1.size; omega) (hgk hne k hk e)).trans (H3.out.2.2.1.block k hk (fun e' => HVQ.out.1 hne (by rw [e, e']))))
            have HA : Hid (RSt wA q (.slice (some ⟨g, 0, none⟩) R2.length c) R2 ∧ R2[i]? = some ⟨f.name, f.vo, f.xo, true, f.vf, f.xf, f.n⟩ ∧ Chg (One g) w3 wA ∧ Rd wA (.slice vo vn vc) xs ∧ ∀ e : Ent, R2.set i e = R1.set i e) := ⟨hstA, hatA, hcA, hRdA, hsetA⟩
            have HN2 : Hid (rn = R2.length) := by show _ = _; rw [hR2, List.length_set]; exact HN.out
            have cA := hstA.cell
            rw [← HN2.out] at cA
            go_wp2_with fail
            try rw [← hwA]
            clear hwA hR2 hstA hatA hcA hRdA hgk hsetA c0 d2 hfz hfzq
            have dA : (wA.alloc (.cells #[] 5)).cell? ⟨q, 0, none⟩ = some (.slice (some ⟨g, 0, none⟩) rn c) := by rw [World.cell?_of_block (Below.heap_alloc _ _ _ HA.out.1.lt)]; exact cA
            go_region_law (refine step_app rfl (.tmp 59) (.tmp 60) rfl _ _ [] xs rfl rfl ?_ ?_ ?_ ?_; (exact (OwnV.empty wA).drew); (exact (HA.out.2.2.2.1.keep (fun k _ hk => Below.heap_alloc _ _ _ hk)).drew); (have := HM2.out.2.1; simp; omega); intro v5 w5 ho5 hc5 hk5; have hc5' : Chg Non wA w5 := (((Chg.refl Non wA).alloc (.cells #[] 5)).trans hc5.from_drew (fun k hk e => by have e' : some wA.heap.size = some k := e; cases e'; omega)); have hst5 := HA.out.1.non hc5'; have c5 := hst5.cell; obtain ⟨uo, un, uc, rfl, -⟩ := ho5.shape; obtain ⟨g', c', ao', an', ac', fo', fn', fc', e5, -, -, -, -, -, d3', -, -, hfz', -, -⟩ := hst5.five HA.out.2.1; cases e5; have hfz3 : w5.frozen? ⟨g, i * 5 + 3, none⟩ = false := hfz' _; rw [← HN2.out] at c5)
            all_goals
              have hstC := hst5.one (f' := ⟨f.name, f.vo, f.xo, true, .slice uo un uc, xs, f.n⟩) (j := 3) (u := .slice uo un uc) HA.out.2.1 (by decide) (by simp [cellsE]) rfl (tear_mid H3.out.2.2.2.2.1 H3.out.2.2.2.2.2 HA.out.1 HA.out.2.1 hc5' (by simpa using ho5) HM2.out.2.1)
              have hcC : Chg (One g) w5 (w5.setCell ⟨g, i * 5 + 3, none⟩ (.slice uo un uc)) := (Chg.refl (One g) w5).setCell (p := ⟨g, i * 5 + 3, none⟩) (fun _ => rfl) _
              obtain ⟨wC, hwC⟩ : ∃ wC, wC = w5.setCell ⟨g, i * 5 + 3, none⟩ (.slice uo un uc) := ⟨_, rfl⟩
              rw [← hwC] at hstC hcC ⊢
              obtain ⟨R3, hR3⟩ : ∃ R3, R3 = R2.set i ⟨f.name, f.vo, f.xo, true, .slice uo un uc, xs, f.n⟩ := ⟨_, rfl⟩
              rw [← hR3] at hstC
              have hlt2 : i < R2.length := by have := HN2.out; omega
              have hatC : R3[i]? = some ⟨f.name, f.vo, f.xo, true, .slice uo un uc, xs, f.n⟩ := by rw [hR3]; simp [hlt2]
              have HC : Hid (RSt wC q (.slice (some ⟨g, 0, none⟩) R3.length c) R3 ∧ R3[i]? = some ⟨f.name, f.vo, f.xo, true, .slice uo un uc, xs, f.n⟩ ∧ Chg (One g) w5 wC ∧ (∀ e : Ent, R3.set i e = R1.set i e) ∧ Chg Non wA w5 ∧ OwnV w5 (.slice uo un uc) xs ∧ ∀ k, (Value.slice uo un uc).ownBlock = some k → wA.heap.size ≤ k) := ⟨hstC, hatC, hcC, fun e => by rw [hR3, List.set_set]; exact HA.out.2.2.2.2 e, hc5', by simpa using ho5, fun k e => by
                rcases hk5 with h | h
                · rw [h] at e; have e' : some wA.heap.size = some k := e; cases e'; exact Nat.le_refl _
                · rw [h] at e; have e' := Option.some.inj e; have e2 : (wA.alloc (.cells #[] 5)).drew.heap.size = wA.heap.size + 1 := (by simp [World.drew]); omega⟩
              have cC := hstC.cell
              obtain ⟨g', c', ao2, an2, ac2, fo2, fn2, fc2, e5, -, -, -, -, -, -, d4C, -, hfzC, -, -⟩ := hstC.five hatC
              cases e5
              have hfz4 : wC.frozen? ⟨g, i * 5 + 4, none⟩ = false := hfzC _
              have HN3 : Hid (rn = R3.length) := by show _ = _; rw [hR3, List.length_set]; exact HN2.out
              rw [← HN3.out] at cC
              clear hwC hR3 hstC hcC hatC hst5 c5 d3' hfz' hfz3 ho5 hc5 hc5' hk5 cA dA hfzC
              go_wp2
              go_ret
              exact ⟨ret_int HE.out.symm, tear_end HE.out (by have := HV.out; omega) HW2.out.1 HW2.out.2.2 H3.out.1 H3.out.2.1 H3.out.2.2.1 H3.out.2.2.2.1 H3.out.2.2.2.2.1 HA.out.2.2.1 HC.out.2.2.2.2.1 HC.out.1 HC.out.2.1 HC.out.2.2.1 HC.out.2.2.2.1 HC.out.2.2.2.2.2.1 HC.out.2.2.2.2.2.2 HM2.out.2.1⟩
      · go_wp2
        go_ret
        have e1 : tearC s.data.toList xs.length n R = 25 := by rw [HT2.out, HTL.out]; simp
        exact ⟨ret_int e1.symm, fun _ => HW2.out.1, fun e => by omega, HW2.out.2.2.non _⟩
  · have hmq : (m == 0) = false := by simpa using hm0
    have HM3 : Hid (m ≠ 0) := hm0
    clear hm0 HM
    go_wp2
    go_ret
    have e1 : tearC s.data.toList xs.length n R = m := by have := HT.out; rw [if_pos HM3.out] at this; exact this
    exact ⟨ret_int e1.symm, fun _ => HW.out.1, fun e => absurd (e1.symm.trans e) HM3.out, HW.out.2.2.non _⟩
end Go.Proofs.Ytpabijfamnghjaa
