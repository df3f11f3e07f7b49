/-
  Transcripts: Retry, of both.
-/
import Derived.Test.YtijpdhjlafihkaaDoorTj49
namespace Go.Proofs.YtijpdhjlafihkaaDoor
open Go.RowKit
set_option linter.unusedVariables false
set_option maxRecDepth 100000

/-- What stands there behind Retry. -/
def retL (q : Int) (xs : List Int) : List Int := if sizeOfH q = 0 then xs else [254, 0, 0, (sizeOfH q : Int) % 256] ++ sumL q xs

set_option maxHeartbeats 4000000 in
theorem tretry_any (q : Int) (P : Nat) (v : Value) (xs : List Int) (w : World) (ht : Tabs w) (h : TC w P 54 v) (ho : Ap.OwnV w v xs) (hn : ¬ v.ownBlock = some P) (hl : xs.length < 4611686018427387904) :
    Calls Tryd.prog 14 #[.pointer (some ⟨P, 0, none⟩), .int .i64 q] w fun e w' => e = .returned (.tuple #[]) ∧ ∃ v', AD P 54 v (retL q xs) w w' v' := by
  have hs := size_any q w
  have hz64 := size_le q
  obtain ⟨Z, hZ⟩ : ∃ Z, Z = sizeOfH q := ⟨_, rfl⟩
  rw [← hZ] at hs hz64
  by_cases h0 : Z = 0
  · subst h0
    have HX : Hid (TC w P 54 v ∧ Ap.OwnV w v xs ∧ ¬ v.ownBlock = some P ∧ retL q xs = xs) := ⟨h, ho, hn, by unfold retL; rw [if_pos hZ.symm]⟩
    clear ht h ho hn hl hZ hz64
    go_enter Tryd.func14, Tryd.ntmps14
    go_wp2_with (go_at_call 20; refine hs.mono ?_; rintro e w1 ⟨rfl, hw⟩; subst hw)
    go_end0
    rw [HX.out.2.2.2]
    exact ⟨rfl, v, HX.out.1, HX.out.2.1, Ap.Chg.refl _ _, fun k e => .inl e, HX.out.2.2.1⟩
  · have hr : retL q xs = [254, 0, 0, (Z : Int) % 256] ++ sumL q xs := by unfold retL; rw [← hZ, if_neg h0]
    obtain ⟨wb, hwb⟩ : ∃ wb, wb = w.alloc (.cells #[.int .u8 254, .int .u8 0, .int .u8 0, .int .u8 ((Z : Int) % 256)] 5) := ⟨_, rfl⟩
    have cb : Chg w wb := by rw [hwb]; exact (Chg.refl _).alloc _
    have ob : Ap.OwnV wb (.slice (some ⟨w.heap.size, 0, none⟩) 4 4) [254, 0, 0, (Z : Int) % 256] := by rw [hwb]; exact own_four w _ _ _ _
    have hp := tsum_any q P v xs wb (ht.chg cb) (by unfold TC; rw [cb.block P (lt_blk h)]; exact h) (Rd.chg ho.rd cb) hl
    have HX : Hid (TC w P 54 v ∧ ¬ v.ownBlock = some P ∧ retL q xs = [254, 0, 0, (Z : Int) % 256] ++ sumL q xs ∧ P < w.heap.size) := ⟨h, hn, hr, lt_blk h⟩
    have HB : Hid (Chg w wb ∧ Ap.OwnV wb (.slice (some ⟨w.heap.size, 0, none⟩) 4 4) [254, 0, 0, (Z : Int) % 256]) := ⟨cb, ob⟩
    have HWB : Hid (wb = w.alloc (.cells #[.int .u8 254, .int .u8 0, .int .u8 0, .int .u8 ((Z : Int) % 256)] 5)) := hwb
    have HSL : Hid ((sumL q xs).length ≤ 64) := by
      show _ ≤ _
      rw [sumL_len]
      exact size_le q
    have p0n : 0 < Z := by omega
    have HZ64 : Hid (Z ≤ 64) := hz64
    clear ht h ho hn hl hZ hr hwb cb ob hz64
    go_enter Tryd.func14, Tryd.ntmps14
    go_wp2_with (go_at_call 20; refine hs.mono ?_; rintro e w1 ⟨rfl, hw⟩; subst hw)
    rw [← HWB.out]
    refine hp.mono ?_
    rintro e w2 ⟨o2, m2, c2, rfl, hc2, hr2⟩
    have H2 : Hid (Chg w1 w2 ∧ Ap.OwnV w2 (.slice (some ⟨w1.heap.size, 0, none⟩) 4 4) [254, 0, 0, (Z : Int) % 256] ∧ Ap.Rd w2 (.slice o2 m2 c2) (sumL q xs)) := ⟨HB.out.1.trans hc2, OwnV.chg HB.out.2 hc2, hr2⟩
    clear hp hc2 hr2 hs
    go_wp2_with (at_builtin; refine Ap.wpList_app _ rfl _ _ rfl (.slice (some ⟨w1.heap.size, 0, none⟩) 4 4) (.slice o2 m2 c2) [254, 0, 0, (Z : Int) % 256] (sumL q xs) rfl rfl H2.out.2.1 H2.out.2.2 (by have := HSL.out; simp only [List.length_cons, List.length_nil]; omega) ?_)
    intro v3 w3 r1 r2 r3
    obtain ⟨o3, m3, c3, rfl, -⟩ := r1.rd.shape
    have hc3 : Chg w1 w3 := Chg.ap H2.out.1 r2 (fun i e => by simp [Value.ownBlock] at e; omega)
    have ht : TC w3 P 54 v := by
      unfold TC
      rw [hc3.block P HX.out.2.2.2]
      exact HX.out.1
    have hge : ∀ k, (Value.slice o3 m3 c3).ownBlock = some k → w1.heap.size ≤ k := fun k e => by
      rcases r3 with q | q
      · rw [q] at e
        simp [Value.ownBlock] at e
        omega
      · rw [q] at e
        injection e with e
        have := H2.out.1.size
        omega
    have H3 : Hid (Chg w1 w3 ∧ Ap.OwnV w3 (.slice o3 m3 c3) (retL q xs) ∧ TC w3 P 54 v ∧ ∀ k, (Value.slice o3 m3 c3).ownBlock = some k → w1.heap.size ≤ k) := ⟨hc3, by rw [HX.out.2.2.1]; exact r1, ht, hge⟩
    have k1 := ht.cell
    have f1 := ht.frozen
    clear r1 r2 r3 hc3 ht hge
    go_wp2
    go_end0
    have hne : ¬ (Value.slice o3 m3 c3).ownBlock = some P := fun e => by
      have h1 := H3.out.2.2.2 P e
      have h2 := HX.out.2.2.2
      omega
    exact ⟨rfl, .slice o3 m3 c3, H3.out.2.2.1.set _, own_set H3.out.2.1 hne _, (H3.out.1.toAp.mono (fun _ _ e => e.elim)).trans (set_ap _) (fun _ _ e => .inl e), fun k e => .inr (H3.out.2.2.2 k e), hne⟩

set_option maxHeartbeats 4000000 in
theorem dretry_any (q : Int) (P : Nat) (v : Value) (xs : List Int) (w : World) (h : TC w P 35 v) (ho : Ap.OwnV w v xs) (hn : ¬ v.ownBlock = some P) (hx : ∀ x ∈ xs, 0 ≤ x ∧ x < 256) (hl : xs.length ≤ 140737488353280) :
    Calls Tryd.prog 15 #[.pointer (some ⟨P, 0, none⟩), .int .i64 q] w fun e w' => e = .returned (.tuple #[]) ∧ ∃ v', AD P 35 v (retL q xs) w w' v' := by
  obtain ⟨o, m, c, rfl, -⟩ := ho.rd.shape
  have hp := refOf_both q (.slice o m c) xs w ho.rd hx hl
  have c0 := h.cell
  have hz64 := size_le q
  obtain ⟨Z, hZ⟩ : ∃ Z, Z = sizeOfH q := ⟨_, rfl⟩
  rw [← hZ] at hz64
  have HX : Hid (TC w P 35 (.slice o m c) ∧ Ap.OwnV w (.slice o m c) xs ∧ ¬ (Value.slice o m c).ownBlock = some P ∧ P < w.heap.size ∧ Z = sizeOfH q ∧ Z ≤ 64) := ⟨h, ho, hn, lt_blk h, hZ, hz64⟩
  clear h ho hn hx hl hZ hz64
  go_enter Tryd.func15, Tryd.ntmps15
  go_wp2_with (go_at_call 35; refine hp.mono ?_)
  rintro e w1 ⟨o1, m1, c1, rfl, hc1, hr1⟩
  have hm1 : m1 = Z := by
    obtain ⟨ao, n, c', e, h1, -⟩ := hr1.shape
    injection e with _ e _
    rw [e, h1, sumL_len, HX.out.2.2.2.2.1]
  subst hm1
  have H1 : Hid (Chg w w1 ∧ Ap.Rd w1 (.slice o1 m1 c1) (sumL q xs) ∧ TC w1 P 35 (.slice o m c)) := ⟨hc1, hr1, by unfold TC; rw [hc1.block P HX.out.2.2.2.1]; exact HX.out.1⟩
  clear hp hc1 hr1 c0
  by_cases h0 : m1 = 0
  · subst h0
    have hr : retL q xs = xs := by unfold retL; rw [if_pos HX.out.2.2.2.2.1.symm]
    have HR : Hid (retL q xs = xs) := hr
    clear hr
    go_wp2
    go_end0
    rw [HR.out]
    exact ⟨rfl, .slice o m c, H1.out.2.2, OwnV.chg HX.out.2.1 H1.out.1, H1.out.1.toAp.mono (fun _ _ e => e.elim), fun k e => .inl e, HX.out.2.2.1⟩
  · have hr : retL q xs = [254, 0, 0, (m1 : Int) % 256] ++ sumL q xs := by unfold retL; rw [← HX.out.2.2.2.2.1, if_neg h0]
    have HR : Hid (retL q xs = [254, 0, 0, (m1 : Int) % 256] ++ sumL q xs) := hr
    obtain ⟨wb, hwb⟩ : ∃ wb, wb = w1.alloc (.cells #[.int .u8 254, .int .u8 0, .int .u8 0, .int .u8 ((m1 : Int) % 256)] 5) := ⟨_, rfl⟩
    have HWB : Hid (wb = w1.alloc (.cells #[.int .u8 254, .int .u8 0, .int .u8 0, .int .u8 ((m1 : Int) % 256)] 5)) := hwb
    have HB : Hid (Chg w1 wb ∧ Ap.OwnV wb (.slice (some ⟨w1.heap.size, 0, none⟩) 4 4) [254, 0, 0, (m1 : Int) % 256]) := by
      rw [hwb]
      exact ⟨(Chg.refl _).alloc _, own_four w1 _ _ _ _⟩
    have HSL : Hid ((sumL q xs).length ≤ 64) := by
      show _ ≤ _
      rw [sumL_len]
      exact size_le q
    have p0n : 0 < m1 := by omega
    clear hr hwb
    go_wp2_with (at_builtin; rw [← HWB.out]; refine Ap.wpList_app _ rfl _ _ rfl (.slice (some ⟨w1.heap.size, 0, none⟩) 4 4) (.slice o1 m1 c1) [254, 0, 0, (m1 : Int) % 256] (sumL q xs) rfl rfl HB.out.2 (Rd.chg H1.out.2.1 HB.out.1) (by have := HSL.out; simp only [List.length_cons, List.length_nil]; omega) ?_)
    intro v3 w3 r1 r2 r3
    obtain ⟨o3, m3, c3, rfl, -⟩ := r1.rd.shape
    have hc3 : Chg w1 w3 := Chg.ap HB.out.1 r2 (fun i e => by simp [Value.ownBlock] at e; omega)
    have ht : TC w3 P 35 (.slice o m c) := by
      unfold TC
      rw [hc3.block P (lt_blk H1.out.2.2)]
      exact H1.out.2.2
    have hge : ∀ k, (Value.slice o3 m3 c3).ownBlock = some k → w.heap.size ≤ k := fun k e => by
      have g := H1.out.1.size
      rcases r3 with q | q
      · rw [q] at e
        simp [Value.ownBlock] at e
        omega
      · rw [q] at e
        injection e with e
        have := HB.out.1.size
        omega
    have H3 : Hid (Chg w w3 ∧ Ap.OwnV w3 (.slice o3 m3 c3) (retL q xs) ∧ TC w3 P 35 (.slice o m c) ∧ ∀ k, (Value.slice o3 m3 c3).ownBlock = some k → w.heap.size ≤ k) := ⟨H1.out.1.trans hc3, by rw [HR.out]; exact r1, ht, hge⟩
    have k1 := ht.cell
    have f1 := ht.frozen
    clear r1 r2 r3 hc3 ht hge
    go_wp2
    go_end0
    have hne : ¬ (Value.slice o3 m3 c3).ownBlock = some P := fun e => by
      have h1 := H3.out.2.2.2 P e
      have h2 := HX.out.2.2.2.1
      omega
    exact ⟨rfl, .slice o3 m3 c3, H3.out.2.2.1.set _, own_set H3.out.2.1 hne _, (H3.out.1.toAp.mono (fun _ _ e => e.elim)).trans (set_ap _) (fun _ _ e => .inl e), fun k e => .inr (H3.out.2.2.2 k e), hne⟩
end Go.Proofs.YtijpdhjlafihkaaDoor
