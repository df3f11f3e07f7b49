/-
  The document's store: Settle, Tear.
-/
import Derived.Test.YtpabijfamnghjaaRef4
namespace Go.Proofs.Ytpabijfamnghjaa
open Go.RowKit
set_option linter.unusedVariables false

structure RSettle (w w' : World) (q : Nat) (sv : Value) (nm : List UInt8) (R : List Ent) : Prop where
  no : settleC nm R ≠ 0 → RSt w' q sv R
  yes : settleC nm R = 0 → RSt w' q sv (putL (fresh nm (newV nm R) (newX nm R)) R)
  chg : Chg (QS q sv) w w'

set_option maxRecDepth 100000 in
set_option maxHeartbeats 2000000 in
theorem rsettle_any (q : Nat) (sv : Value) (R : List Ent) (s : ByteArray) (w : World) (h : RSt w q sv R) :
    Calls Try.prog 20 #[.pointer (some ⟨q, 0, none⟩), .string s] w fun r w' => r = .returned (.int .i64 (settleC s.data.toList R)) ∧ RSettle w w' q sv s.data.toList R := by
  have H : Hid (RSt w q sv R) := h
  clear h
  cases hf : findL s.data.toList R with
  | none =>
    go_enter Try.func20, Try.ntmps20
    go_wp2_with fail
    refine (at_any q _ R s _ H.out).mono ?_
    rintro e w1 ⟨i, n, rfl, rfl, hat⟩
    rw [hf]
    have HF : Hid (findL s.data.toList R = none) := hf
    clear hat hf
    go_wp2
    go_ret
    have e1 : settleC s.data.toList R = 22 := by unfold settleC; rw [HF.out]
    exact ⟨ret_int e1.symm, fun _ => H.out.drewN n, fun e => by omega, (drewN_chg w n).non _⟩
  | some f =>
    go_enter Try.func20, Try.ntmps20
    go_wp2_with fail
    refine (at_any q _ R s _ H.out).mono ?_
    rintro e w1 ⟨i, n, rfl, rfl, hat⟩
    rw [hf]
    obtain ⟨h1, -, hset⟩ := hat.some H.out.ris hf
    have hl64 := H.out.len
    obtain ⟨w1, hw1⟩ : ∃ w1, w1 = w.drewN n := ⟨_, rfl⟩
    have hst1 : RSt w1 q sv R := by rw [hw1]; exact H.out.drewN n
    have hc1 : Chg Non w w1 := by rw [hw1]; exact drewN_chg w n
    rw [← hw1]
    have e2 : newV s.data.toList R = f.vf := by unfold newV; rw [hf]
    have e3 : newX s.data.toList R = f.xf := by unfold newX; rw [hf]
    have e4 : settleC s.data.toList R = if f.torn = true then 0 else 25 := by unfold settleC; rw [hf]
    have hnm := (find_name hf).1
    obtain ⟨g, c, ao, an, ac, fo, fn, fc, rfl, hvo, hvf, d0, d1, d2, d3, d4, hok, hfz, hlt, hle⟩ := hst1.five h1
    have c0 := hst1.cell
    have HE : Hid (RSt w1 q (.slice (some ⟨g, 0, none⟩) R.length c) R ∧ Chg Non w w1 ∧ R[i]? = some f ∧ EntOk w1 f ∧ newV s.data.toList R = .slice fo fn fc ∧ newX s.data.toList R = f.xf ∧ f.vf = .slice fo fn fc ∧ (settleC s.data.toList R = if f.torn = true then 0 else 25) ∧ f.name = s.data.toList ∧ ∀ e : Ent, e.name = s.data.toList → putL e R = R.set i e) := ⟨hst1, hc1, h1, hok, e2.trans hvf, e3, hvf, e4, hnm, hset⟩
    obtain ⟨rn, hrn⟩ : ∃ rn, rn = R.length := ⟨_, rfl⟩
    rw [← hrn] at c0 hlt hle hl64
    have HN : Hid (rn = R.length) := hrn
    clear hrn hst1 hc1 h1 hok e2 e3 e4 hvo hvf hnm hset hat hf hw1
    obtain ⟨t, ht⟩ : ∃ t, t = f.torn := ⟨_, rfl⟩
    rw [← ht] at d2
    have HT : Hid (t = f.torn) := ht
    clear ht
    cases t
    · go_wp2
      go_ret
      have e1 : settleC s.data.toList R = 25 := by have := HE.out.2.2.2.2.2.2.2.1; rw [← HT.out] at this; simpa using this
      exact ⟨ret_int e1.symm, fun _ => HE.out.1, fun e => by omega, HE.out.2.1.non _⟩
    · go_wp2_with fail
      go_region
      all_goals
        clear c0 d0 d1 d2 d3 d4 hfz
        go_wp2
        go_ret
        obtain ⟨p1, p2, p3, p4, p5, p6, p7, p8, p9, p10⟩ := HE.out
        have e1 : settleC s.data.toList R = 0 := by rw [← HT.out] at p8; simpa using p8
        have p1' : RSt w1.drew q (.slice (some ⟨g, 0, none⟩) R.length c) R := p1.drewN 1
        have hr := p1'.rrow.five (e := fresh s.data.toList (.slice fo fn fc) f.xf) p3
        have hset := p10 (fresh s.data.toList (.slice fo fn fc) f.xf) rfl
        have hris : Rising (R.set i (fresh s.data.toList (.slice fo fn fc) f.xf)) := by rw [← hset]; exact rising_put p1.ris
        have hnew := p4.new
        rw [p7] at hnew
        have hfin := hr.whole p1' (five_chg w1.drew g i _ _ _ _ _) (fresh_ok hnew.drew p4.lf) hris
        refine ⟨ret_int e1.symm, fun e => absurd e1 e, fun _ => ?_, ?_⟩
        · rw [p5, p6, hset]
          simp only [fresh, str_eta] at hfin ⊢
          exact hfin
        · exact ((p2.non _).drew).trans (five_chg w1.drew g i _ _ _ _ _) (fun k _ e => .inr (by cases e; rfl))
end Go.Proofs.Ytpabijfamnghjaa
