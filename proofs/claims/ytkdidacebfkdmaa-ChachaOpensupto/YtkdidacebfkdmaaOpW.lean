/-
  What is opened of a locked text with a turned byte: ChachaOpens walked.
-/
import Derived.Test.YtkdidacebfkdmaaSeW
import Derived.Test.YtkdidacebfkdmaaCoW
namespace Go.Proofs.Ytkdidacebfkdmaa
open Go.RowKit
set_option linter.unusedVariables false

/-- What stands behind the turned byte. -/
def turned (sf : Nat → By) (n at' : Nat) (x : By) : Nat → By := if n = 0 then sf else updB sf (at' % n) (sf (at' % n) ^^^ x)

set_option maxRecDepth 100000 in
set_option maxHeartbeats 8000000 in
/-- The law's calls, and what is said of them. -/
theorem opens_walk (key nonce sf : Nat → By) (ao so : Option Addr) (na ca ns cs at' : Nat) (x : By) (w : World) (hat : at' < 65536)
    (hvs : Ap.Rd w (.slice so ns cs) (nums ns sf)) (hns : ns ≤ 1048576)
    (hO : ∀ (v : Value) (w1 : World), Chg w w1 → Ap.Rd w1 v (nums ns (turned sf ns at' x)) →
      (∃ e : Int, e ≠ 0 ∧ Calls Try.prog 16 #[.agg (ba 32 key), .agg (ba 12 nonce), .slice ao na ca, v] w1 (fun r w' => r = .returned (.tuple #[.slice none 0 0, .int .i64 e]) ∧ Chg w1 w') ∧ ∀ w2, Chg w1 w2 → Calls Try.prog 18 #[.agg (ba 32 key), .agg (ba 12 nonce), .slice ao na ca, v] w2 (fun r w' => r = .returned (.tuple #[.slice none 0 0, .int .i64 e]) ∧ Chg w2 w')) ∨
      (∃ (n2 : Nat) (t : Nat → By), Calls Try.prog 16 #[.agg (ba 32 key), .agg (ba 12 nonce), .slice ao na ca, v] w1 (fun r w' => ∃ v2, r = .returned (.tuple #[v2, .int .i64 0]) ∧ Chg w1 w' ∧ Ap.Rd w' v2 (nums n2 t)) ∧ (∀ w2, Chg w1 w2 → Calls Try.prog 18 #[.agg (ba 32 key), .agg (ba 12 nonce), .slice ao na ca, v] w2 (fun r w' => ∃ v2, r = .returned (.tuple #[v2, .int .i64 0]) ∧ Chg w2 w' ∧ Ap.Rd w' v2 (nums n2 t))) ∧
        ∀ w2 v2, Chg w1 w2 → Ap.Rd w2 v2 (nums n2 t) → Calls Try.prog 15 #[.agg (ba 32 key), .agg (ba 12 nonce), .slice ao na ca, v2] w2 (fun r w' => ∃ v3, r = .returned v3 ∧ Chg w2 w' ∧ Ap.Rd w' v3 (nums ns (turned sf ns at' x))))) :
    Calls Try.prog 6 #[.agg (ba 32 key), .agg (ba 12 nonce), .slice ao na ca, .slice so ns cs, .int .u16 (at' : Int), .int .u8 (x.toNat : Int)] w fun r w' => r = .returned (.bool true) ∧ Chg w w' := by
  have HX : Hid (Ap.Rd w (.slice so ns cs) (nums ns sf)) := hvs
  have HO : Hid (∀ (v : Value) (w1 : World), Chg w w1 → Ap.Rd w1 v (nums ns (turned sf ns at' x)) →
      (∃ e : Int, e ≠ 0 ∧ Calls Try.prog 16 #[.agg (ba 32 key), .agg (ba 12 nonce), .slice ao na ca, v] w1 (fun r w' => r = .returned (.tuple #[.slice none 0 0, .int .i64 e]) ∧ Chg w1 w') ∧ ∀ w2, Chg w1 w2 → Calls Try.prog 18 #[.agg (ba 32 key), .agg (ba 12 nonce), .slice ao na ca, v] w2 (fun r w' => r = .returned (.tuple #[.slice none 0 0, .int .i64 e]) ∧ Chg w2 w')) ∨
      (∃ (n2 : Nat) (t : Nat → By), Calls Try.prog 16 #[.agg (ba 32 key), .agg (ba 12 nonce), .slice ao na ca, v] w1 (fun r w' => ∃ v2, r = .returned (.tuple #[v2, .int .i64 0]) ∧ Chg w1 w' ∧ Ap.Rd w' v2 (nums n2 t)) ∧ (∀ w2, Chg w1 w2 → Calls Try.prog 18 #[.agg (ba 32 key), .agg (ba 12 nonce), .slice ao na ca, v] w2 (fun r w' => ∃ v2, r = .returned (.tuple #[v2, .int .i64 0]) ∧ Chg w2 w' ∧ Ap.Rd w' v2 (nums n2 t))) ∧
        ∀ w2 v2, Chg w1 w2 → Ap.Rd w2 v2 (nums n2 t) → Calls Try.prog 15 #[.agg (ba 32 key), .agg (ba 12 nonce), .slice ao na ca, v2] w2 (fun r w' => ∃ v3, r = .returned v3 ∧ Chg w2 w' ∧ Ap.Rd w' v3 (nums ns (turned sf ns at' x))))) := hO
  obtain ⟨A, hA⟩ : ∃ A, A = ba 32 key := ⟨_, rfl⟩
  obtain ⟨D, hD⟩ : ∃ D, D = ba 12 nonce := ⟨_, rfl⟩
  have hsA : A.size = 32 := by rw [hA]; exact ba_size _ _
  have hsD : D.size = 12 := by rw [hD]; exact ba_size _ _
  have HSA : Hid ((Try.prog.info? 22).map (·.size) = some A.size ∧ (Try.prog.info? 24).map (·.size) = some D.size) := ⟨by rw [hA]; exact szB key i22, by rw [hD]; exact szB nonce i24⟩
  have HAD : Hid (A = ba 32 key ∧ D = ba 12 nonce) := ⟨hA, hD⟩
  rw [← hA, ← hD]
  clear hA hD hvs hO
  go_enter Try.func6, Try.ntmps6
  go_wp2_with fail
  go_at_call 8
  refine (head_any _).mono ?_
  rintro r w1 ⟨rfl, hc1⟩
  have Z1 : Hid (KN w w1 key nonce) := by
    rw [HAD.out.1, HAD.out.2] at hc1
    exact KN.to (⟨((Chg.refl w).alloc _).alloc _, (Ar.new w _ _).alloc _, Ar.new1 w _ _ _⟩ : KN w ((w.alloc (.cells (ba 32 key) 22)).alloc (.cells (ba 12 nonce) 24)) key nonce) hc1
  clear hc1 hsA hsD
  have Zr : Hid (Ap.Rd (w1.alloc (.cells #[] 5)) (.slice so ns cs) (nums ns sf)) := Rd.chg HX.out (Z1.out.chg.alloc _)
  go_wp2_with (at_builtin; refine Ap.wpList_app _ rfl _ _ rfl (.slice (some ⟨w1.heap.size, 0, none⟩) 0 0) (.slice so ns cs) [] (nums ns sf) rfl rfl (OwnV.empty w1) Zr.out (by rw [nums_len]; simp; omega) ?_)
  intro v2 w2 o2 cc2 b2
  have k0 : OwnN w1 (w1.alloc (.cells #[] 5)) (.slice (some ⟨w1.heap.size, 0, none⟩) 0 0) [] := ⟨OwnV.empty w1, fun k e => by simp [Value.ownBlock] at e; omega, (Chg.refl w1).alloc _⟩
  have k2' := k0.more o2 cc2 (by first | exact b2 | (rw [World.size_alloc]; exact b2))
  obtain ⟨oo, m, oc, rfl, hm, -⟩ := o2.rd.shape
  rw [nums_len] at hm
  subst hm
  have Z2 : Hid (OwnN w1 w2 (.slice oo m oc) (nums m sf) ∧ Chg w w2 ∧ Ar w2 w.heap.size A ∧ Ar w2 (w.heap.size + 1) D) := by
    have q := KN.to Z1.out k2'.chg
    rw [HAD.out.1, HAD.out.2]
    exact ⟨k2', q.chg, q.ky, q.non⟩
  have HS1 : Hid (w.heap.size + 1 < w1.heap.size) := Z1.out.non.lt
  clear k0 k2' o2 cc2 b2 Z1 Zr
  obtain ⟨bb, hbb⟩ : ∃ bb, decide (0 < m) = bb := ⟨_, rfl⟩
  have HBB : Hid (bb = true ↔ 0 < m) := by
    show _ ↔ _
    rw [← hbb]
    simp
  go_upto_if 26 with fail
  go_cut [15] from 27 to 41 (fun v wc => Chg w wc ∧ Ar wc w.heap.size A ∧ Ar wc (w.heap.size + 1) D ∧ Ap.Rd wc (.slice oo m oc) (nums m (turned sf m at' x)))
  case first =>
    cases bb with
    | true =>
      have hm0 : 0 < m := HBB.out.1 (by first | rfl | trivial)
      obtain ⟨q, hq⟩ : ∃ q : Nat, (at' : Int).tmod m = q := ⟨at' % m, by rw [Int.tmod_eq_emod_of_nonneg (by omega)]; omega⟩
      have hq' : q = at' % m := by rw [Int.tmod_eq_emod_of_nonneg (by omega)] at hq; omega
      have lq : q < m := by rw [hq']; exact Nat.mod_lt _ hm0
      have lq' : (q : Int) < m := by omega
      have wq := wrap_i (x := (q : Int)) (by omega) (by omega)
      have wat := wrap_i (x := (at' : Int)) (by omega) (by omega)
      have hne : ¬ (m : Int) = 0 := by omega
      have hne' : ¬ m = 0 := by omega
      have HT : Hid (turned sf m at' x = updB sf q (sf q ^^^ x)) := by
        show turned sf m at' x = _
        unfold turned
        rw [if_neg (by omega), ← hq']
      obtain ⟨ho, h1, h2, h3⟩ := Z2.out
      have hnew := ho.new
      rcases ho.own with ⟨e, _⟩ | ⟨g, off, n', cap', e, hown⟩
      · injection e with _ e2 _
        omega
      injection e with e1 e2 e3
      subst e1 e2 e3
      have hg := hnew g rfl
      have c1 := hown.cell q _ (nums_get m sf lq)
      have f1 : w2.frozen? ⟨g, off + q, none⟩ = false := by
        obtain ⟨_, _, _, cur, hb, _, _⟩ := hown
        simp [World.frozen?, hb]
      obtain ⟨y, Hy, ey⟩ := nameXor (sf q) x
      have HOW : Hid (Ap.Own w2 g off m oc (nums m sf) ∧ w.heap.size + 1 < g ∧ y = sf q ^^^ x ∧ Chg w w2 ∧ (Ar w2 w.heap.size A ∧ Ar w2 (w.heap.size + 1) D) ∧ q < m) := ⟨hown, by have := HS1.out; omega, Hy.out, h1, ⟨h2, h3⟩, lq⟩
      obtain ⟨z, hz⟩ : ∃ z, z = sf q := ⟨_, rfl⟩
      rw [← hz] at c1 ey
      clear ho h1 h2 h3 hnew hown hg hq' Hy hz
      go_wp2_with fail
      go_meet
      obtain ⟨r1, r2, r3, r4, r5, r6⟩ := HOW.out
      refine ⟨r4.setCell (by dsimp only; omega) _, r5.1.other (by dsimp only; omega) _, r5.2.other (by dsimp only; omega) _, ?_⟩
      rw [HT.out, ← r3]
      exact (own_set r1 r6 y).rd
    | false =>
      have hm0 : m = 0 := by
        have := HBB.out.2
        by_cases h : 0 < m
        · cases this h
        · omega
      go_wp2_with fail
      go_meet
      obtain ⟨ho, h1, h2, h3⟩ := Z2.out
      refine ⟨h1, h2, h3, ?_⟩
      have e : turned sf m at' x = sf := by unfold turned; rw [if_pos hm0]
      rw [e]
      exact ho.own.rd
  case rest =>
    obtain ⟨h1, h2, h2', h3⟩ := hcut
    obtain ⟨w3, hw3⟩ : ∃ w3, w3 = wc := ⟨_, rfl⟩
    obtain ⟨sf', hsf⟩ : ∃ sf', sf' = turned sf m at' x := ⟨_, rfl⟩
    rw [← hsf] at h3 HO
    have Z3 : Hid (Chg w w3 ∧ Ar w3 w.heap.size A ∧ Ar w3 (w.heap.size + 1) D ∧ Ap.Rd w3 (.slice oo m oc) (nums m sf')) := by
      rw [hw3]
      exact ⟨h1, h2, h2', h3⟩
    have hO := HO.out (.slice oo m oc) w3 Z3.out.1 Z3.out.2.2.2
    rw [← hw3]
    clear hw3 h1 h2 h2' h3 Z2 HO hsf hbb
    obtain ⟨tA, gA⟩ := Z3.out.2.1
    obtain ⟨tD, gD⟩ := Z3.out.2.2.1
    rcases hO with ⟨e, he, hc1, hc2⟩ | ⟨n2, t, hc1, hc2, hc3⟩
    · have HC : Hid (Calls Try.prog 16 #[.agg A, .agg D, .slice ao na ca, .slice oo m oc] w3 (fun r w' => r = .returned (.tuple #[.slice none 0 0, .int .i64 e]) ∧ Chg w3 w') ∧ ∀ w2, Chg w3 w2 → Calls Try.prog 18 #[.agg A, .agg D, .slice ao na ca, .slice oo m oc] w2 (fun r w' => r = .returned (.tuple #[.slice none 0 0, .int .i64 e]) ∧ Chg w2 w')) := by
        rw [HAD.out.1, HAD.out.2]
        exact ⟨hc1, hc2⟩
      have hee : (e != e) = false := by simp
      have he0 : (e != 0) = true := by simpa using he
      clear hc1 hc2 he
      go_wp2_with (first | refine wpList_load_row rfl 22 _ rfl _ rfl _ _ _ _ gA und22 rfl HSA.out.1 ?_ | refine wpList_load_row rfl 24 _ rfl _ rfl _ _ _ _ gD und24 rfl HSA.out.2 ?_)
      go_at_call 16
      refine HC.out.1.mono ?_
      rintro r w4 ⟨rfl, hc4⟩
      have Z4 : Hid (Chg w w4 ∧ Chg w3 w4 ∧ Ar w4 w.heap.size A ∧ Ar w4 (w.heap.size + 1) D) := ⟨Z3.out.1.trans hc4, hc4, Z3.out.2.1.chg hc4, Z3.out.2.2.1.chg hc4⟩
      clear hc4 gA gD
      obtain ⟨tA, gA⟩ := Z4.out.2.2.1
      obtain ⟨tD, gD⟩ := Z4.out.2.2.2
      go_wp2_with (first | refine wpList_load_row rfl 22 _ rfl _ rfl _ _ _ _ gA und22 rfl HSA.out.1 ?_ | refine wpList_load_row rfl 24 _ rfl _ rfl _ _ _ _ gD und24 rfl HSA.out.2 ?_)
      go_at_call 18
      refine (HC.out.2 _ Z4.out.2.1).mono ?_
      rintro r w5 ⟨rfl, hc5⟩
      have Z5 : Hid (Chg w w5) := Z4.out.1.trans hc5
      have s1 := Ap.run_str w5 _ _ (Ap.Rd.nil w5)
      obtain ⟨E, hE⟩ : ∃ E, E = strOfNums [] := ⟨_, rfl⟩
      rw [← hE] at s1
      clear hc5 gA gD hE
      go_wp2_with fail
      go_ret
      exact ⟨rfl, Z5.out⟩
    · have HC : Hid (Calls Try.prog 16 #[.agg A, .agg D, .slice ao na ca, .slice oo m oc] w3 (fun r w' => ∃ v2, r = .returned (.tuple #[v2, .int .i64 0]) ∧ Chg w3 w' ∧ Ap.Rd w' v2 (nums n2 t)) ∧ (∀ w2, Chg w3 w2 → Calls Try.prog 18 #[.agg A, .agg D, .slice ao na ca, .slice oo m oc] w2 (fun r w' => ∃ v2, r = .returned (.tuple #[v2, .int .i64 0]) ∧ Chg w2 w' ∧ Ap.Rd w' v2 (nums n2 t)))) := by
        rw [HAD.out.1, HAD.out.2]
        exact ⟨hc1, hc2⟩
      have HC2 : Hid (∀ w2 v2, Chg w3 w2 → Ap.Rd w2 v2 (nums n2 t) → Calls Try.prog 15 #[.agg (ba 32 key), .agg (ba 12 nonce), .slice ao na ca, v2] w2 (fun r w' => ∃ v3, r = .returned v3 ∧ Chg w2 w' ∧ Ap.Rd w' v3 (nums m sf'))) := hc3
      clear hc1 hc2 hc3
      go_wp2_with (first | refine wpList_load_row rfl 22 _ rfl _ rfl _ _ _ _ gA und22 rfl HSA.out.1 ?_ | refine wpList_load_row rfl 24 _ rfl _ rfl _ _ _ _ gD und24 rfl HSA.out.2 ?_)
      go_at_call 16
      refine HC.out.1.mono ?_
      rintro r w4 ⟨v4, rfl, hc4, hr4⟩
      obtain ⟨p4, m4, q4, rfl, -⟩ := hr4.shape
      have Z4 : Hid (Chg w w4 ∧ Chg w3 w4 ∧ (Ar w4 w.heap.size A ∧ Ar w4 (w.heap.size + 1) D) ∧ Ap.Rd w4 (.slice p4 m4 q4) (nums n2 t)) := ⟨Z3.out.1.trans hc4, hc4, ⟨Z3.out.2.1.chg hc4, Z3.out.2.2.1.chg hc4⟩, hr4⟩
      clear hc4 gA gD hr4
      obtain ⟨tA, gA⟩ := Z4.out.2.2.1.1
      obtain ⟨tD, gD⟩ := Z4.out.2.2.1.2
      go_wp2_with (first | refine wpList_load_row rfl 22 _ rfl _ rfl _ _ _ _ gA und22 rfl HSA.out.1 ?_ | refine wpList_load_row rfl 24 _ rfl _ rfl _ _ _ _ gD und24 rfl HSA.out.2 ?_)
      go_at_call 18
      refine (HC.out.2 _ Z4.out.2.1).mono ?_
      rintro r w5 ⟨v5, rfl, hc5, hr5⟩
      obtain ⟨p5, m5, q5, rfl, -⟩ := hr5.shape
      have Z5 : Hid (Chg w w5 ∧ Chg w3 w5 ∧ (Ar w5 w.heap.size A ∧ Ar w5 (w.heap.size + 1) D) ∧ Ap.Rd w5 (.slice p4 m4 q4) (nums n2 t)) := ⟨Z4.out.1.trans hc5, Z4.out.2.1.trans hc5, ⟨Z4.out.2.2.1.1.chg hc5, Z4.out.2.2.1.2.chg hc5⟩, Rd.chg Z4.out.2.2.2 hc5⟩
      have s1 := Ap.run_str w5 _ _ hr5
      have s2 := Ap.run_str w5 _ _ Z5.out.2.2.2
      obtain ⟨E, hE⟩ : ∃ E, E = strOfNums (nums n2 t) := ⟨_, rfl⟩
      rw [← hE] at s1 s2
      clear hc5 gA gD hE hr5 Z4
      go_upto_region 12 with fail
      clear s1 s2
      obtain ⟨w7, hw7⟩ : ∃ w7, w7 = w5 := ⟨_, rfl⟩
      have Z7 : Hid (KN w w7 key nonce ∧ Ap.Rd w7 (.slice oo m oc) (nums m sf')) := by
        rw [hw7]
        refine ⟨⟨Z5.out.1, ?_, ?_⟩, Rd.chg Z3.out.2.2.2 Z5.out.2.1⟩
        · rw [← HAD.out.1]; exact Z5.out.2.2.1.1
        · rw [← HAD.out.2]; exact Z5.out.2.2.1.2
      have HC3 : Hid (∀ u, Chg w7.drew u → Calls Try.prog 15 #[.agg (ba 32 key), .agg (ba 12 nonce), .slice ao na ca, .slice p4 m4 q4] u (fun r w' => ∃ v3, r = .returned v3 ∧ Chg u w' ∧ Ap.Rd w' v3 (nums m sf'))) := fun u c => by
        rw [hw7] at c
        exact HC2.out u _ (Z5.out.2.1.drew.trans c) (Rd.chg Z5.out.2.2.2 ((Chg.refl w5).drew.trans c))
      obtain ⟨E2, hE2⟩ : ∃ E, E = strOfNums (nums m sf') := ⟨_, rfl⟩
      have HE2 : Hid (E2 = strOfNums (nums m sf')) := hE2
      try rw [← hw7]
      clear hE2 hw7 Z5
      refine wp_region_good 9 (fun j v wg => match j with
        | 0 => v = .agg (ba 32 key)
        | 1 => v = .agg (ba 12 nonce)
        | 2 => v = .slice ao na ca
        | 3 => v = .slice p4 m4 q4
        | 4 => ∃ vx, v = vx ∧ Ap.Rd wg vx (nums m sf')
        | 5 => v = .string E2
        | 6 => v = .slice oo m oc
        | 7 => v = .string E2
        | 8 => v = .bool true
        | _ => True) (by kernel_rfl) (by kernel_rfl) (by kernel_rfl) (by kernel_rfl) (by kernel_rfl) ?_ ?_ ?_
      · intro j v u1 u2 h hc
        match j, h with
        | 0, h => exact h
        | 1, h => exact h
        | 2, h => exact h
        | 3, h => exact h
        | 4, h => (obtain ⟨vx, h1, h2⟩ := h; exact ⟨vx, h1, Rd.chg h2 hc⟩)
        | 5, h => exact h
        | 6, h => exact h
        | 7, h => exact h
        | 8, h => exact h
        | _ + 9, h => exact trivial
      · intro i o ac u hi ho hsz hf hg hc
        have hcs : i = 0 ∨ i = 1 ∨ i = 2 ∨ i = 3 ∨ i = 4 ∨ i = 5 ∨ i = 6 ∨ i = 7 ∨ i = 8 := by omega
        rcases hcs with rfl | rfl | rfl | rfl | rfl | rfl | rfl | rfl | rfl
        · injection ho with ho
          subst ho
          refine .inl ⟨wanted_none rfl, ?_⟩
          have e1 : ac.eval (.tmp 6) = .pointer (some ⟨w.heap.size, 0, none⟩) := hf 6 (by kernel_rfl)
          exact wp_load_mid 22 (.tmp 6) rfl _ _ e1 ((ba 32 key).toList) _ (rangeA (Ar.chg (w := w7.drew) Z7.out.1.ky hc)) und22 rfl (info32 _) ⟨_, rfl, rfl, Chg.refl _⟩
        · injection ho with ho
          subst ho
          refine .inl ⟨wanted_none rfl, ?_⟩
          have e1 : ac.eval (.tmp 7) = .pointer (some ⟨w.heap.size + 1, 0, none⟩) := hf 7 (by kernel_rfl)
          exact wp_load_mid 24 (.tmp 7) rfl _ _ e1 ((ba 12 nonce).toList) _ (rangeA (Ar.chg (w := w7.drew) Z7.out.1.non hc)) und24 rfl (info12 _) ⟨_, rfl, rfl, Chg.refl _⟩
        · injection ho with ho
          subst ho
          refine .inl ⟨wanted_none rfl, ?_⟩
          have e1 : ac.eval (.tmp 2) = .slice ao na ca := hf 2 (by kernel_rfl)
          exact opG_val (by simp [execOp, e1]) rfl (Chg.refl _)
        · injection ho with ho
          subst ho
          refine .inl ⟨wanted_none rfl, ?_⟩
          have e1 : ac.eval (.tmp 16) = .slice p4 m4 q4 := hf 16 (by kernel_rfl)
          exact opG_val (by simp [execOp, e1]) rfl (Chg.refl _)
        · injection ho with ho
          subst ho
          refine .inl ⟨wanted_none rfl, ?_⟩
          have e1 : ac.eval (.tmp 76) = .agg (ba 32 key) := hg 0 (by kernel_rfl) (by decide)
          have e2 : ac.eval (.tmp 77) = .agg (ba 12 nonce) := hg 1 (by kernel_rfl) (by decide)
          have e3 : ac.eval (.tmp 78) = .slice ao na ca := hg 2 (by kernel_rfl) (by decide)
          have e4 : ac.eval (.tmp 79) = .slice p4 m4 q4 := hg 3 (by kernel_rfl) (by decide)
          refine opG_go 15 Try.f15 #[.tmp 76, .tmp 77, .tmp 78, .tmp 79] #[22, 24, 25, 25] rfl Try.func15 (by kernel_rfl) (by kernel_rfl) (by simp [e1, e2, e3, e4]) (Calls.mono (HC3.out _ hc) ?_)
          rintro e u2 ⟨v2, rfl, ho1, ho2⟩
          exact ⟨_, rfl, ⟨v2, rfl, ho2⟩, ho1⟩
        · injection ho with ho
          subst ho
          refine .inl ⟨wanted_none rfl, ?_⟩
          obtain ⟨vx, e10, xx⟩ := hg 4 (by kernel_rfl) (by decide)
          have e1 : ac.eval (.tmp 80) = vx := e10
          have hcv := (show (convert 25 9 (vx)).run Try.prog u = .ok (.string E2) u from by rw [HE2.out]; exact Ap.run_str u _ _ (xx))
          exact opG_val (by simp [execOp, e1, hcv]) rfl (Chg.refl _)
        · injection ho with ho
          subst ho
          refine .inl ⟨wanted_none rfl, ?_⟩
          have e1 : ac.eval (.tmp 14) = .slice oo m oc := hf 14 (by kernel_rfl)
          exact opG_val (by simp [execOp, e1]) rfl (Chg.refl _)
        · injection ho with ho
          subst ho
          refine .inl ⟨wanted_none rfl, ?_⟩
          have e1 : ac.eval (.tmp 82) = .slice oo m oc := hg 6 (by kernel_rfl) (by decide)
          have hcv := (show (convert 25 9 (.slice oo m oc)).run Try.prog u = .ok (.string E2) u from by rw [HE2.out]; exact Ap.run_str u _ _ (Rd.chg (w := w7.drew) (Ap.Rd.drew Z7.out.2) hc))
          exact opG_val (by simp [execOp, e1, hcv]) rfl (Chg.refl _)
        · injection ho with ho
          subst ho
          refine .inl ⟨wanted_none rfl, ?_⟩
          have e1 : ac.eval (.tmp 81) = .string E2 := hg 5 (by kernel_rfl) (by decide)
          have e2 : ac.eval (.tmp 83) = .string E2 := hg 7 (by kernel_rfl) (by decide)
          exact opG_val (by revert e1 e2; generalize ac.eval = ρ; intro e1 e2; simp [go_sem, execOp, e1, e2]) rfl (Chg.refl _)
      · intro o u V ho hV hc
        injection ho with ho
        subst ho
        refine ⟨rfl, ?_⟩
        have q76 : V 0 = .agg (ba 32 key) := hV 0 (by decide)
        have q77 : V 1 = .agg (ba 12 nonce) := hV 1 (by decide)
        have q78 : V 2 = .slice ao na ca := hV 2 (by decide)
        have q79 : V 3 = .slice p4 m4 q4 := hV 3 (by decide)
        obtain ⟨vx, q80, xx⟩ := hV 4 (by decide)
        have q81 : V 5 = .string E2 := hV 5 (by decide)
        have q82 : V 6 = .slice oo m oc := hV 6 (by decide)
        have q83 : V 7 = .string E2 := hV 7 (by decide)
        have q84 : V 8 = .bool true := hV 8 (by decide)
        refine op_val1 (v := .bool true) (by rw [← q84]; rfl) ?_
        go_wp2_with fail
        go_ret
        exact ⟨rfl, Z7.out.1.chg.drew.trans hc⟩

theorem opens_good (key nonce sf : Nat → By) (ao so : Option Addr) (na ca ns cs at' : Nat) (xs : List Int) (x : By) (w : World) (hat : at' < 65536) (hx : Ap.Rd w (.slice ao na ca) xs) (hxb : Bt xs) (hxl : xs.length ≤ 8388608)
    (hvs : Ap.Rd w (.slice so ns cs) (nums ns sf)) (hns : ns ≤ 1048576) :
    Calls Try.prog 6 #[.agg (ba 32 key), .agg (ba 12 nonce), .slice ao na ca, .slice so ns cs, .int .u16 (at' : Int), .int .u8 (x.toNat : Int)] w fun r w' => r = .returned (.bool true) ∧ Chg w w' := by
  refine opens_walk key nonce sf ao so na ca ns cs at' x w hat hvs hns ?_
  intro v w1 c1 hv1
  obtain ⟨sf', hsf⟩ : ∃ sf', sf' = turned sf ns at' x := ⟨_, rfl⟩
  rw [← hsf] at hv1 ⊢
  clear hsf
  obtain ⟨s1, m1, c2, rfl, hm1, -⟩ := hv1.shape
  rw [nums_len] at hm1
  subst hm1
  by_cases h16 : m1 < 16
  · exact .inl ⟨91, by decide, openShort_any key nonce m1 c2 s1 _ w1 h16, fun w2 k2 => refOpenShort_any key nonce m1 c2 s1 _ w2 h16⟩
  · obtain ⟨m, rfl⟩ : ∃ m, m1 = m + 16 := ⟨m1 - 16, by omega⟩
    obtain ⟨sb, so', cs', hsh, hc1, hc2, hbs⟩ := Rd.bs hv1 (by omega)
    rw [hsh]
    cases hb : sameB 16 (tagF key nonce xs (nums m sf')) (fun j => sf' (m + j)) with
    | false =>
      refine .inl ⟨91, by decide, ?_, fun w2 k2 => ?_⟩
      · refine (open_any key nonce sf' na ca m sb so' cs' ao xs w1 (Rd.chg hx c1) hxb hxl hbs hc1 hc2 (by omega)).mono ?_
        rintro r w' ⟨hc, h⟩
        rw [hb] at h
        rcases h with ⟨h1, _⟩ | ⟨_, h1⟩
        · cases h1
        · exact ⟨h1, hc⟩
      · refine (refOpen_any key nonce sf' na ca m sb so' cs' ao xs w2 (Rd.chg hx (c1.trans k2)) hxb hxl (hbs.chg k2) hc1 hc2 (by omega)).mono ?_
        rintro r w' ⟨hc, h⟩
        rw [hb] at h
        rcases h with ⟨h1, _⟩ | ⟨_, h1⟩
        · cases h1
        · exact ⟨h1, hc⟩
    | true =>
      refine .inr ⟨m, stF key 1#32 nonce sf', ?_, fun w2 k2 => ?_, fun w2 v2 k2 hr2 => ?_⟩
      · refine (open_any key nonce sf' na ca m sb so' cs' ao xs w1 (Rd.chg hx c1) hxb hxl hbs hc1 hc2 (by omega)).mono ?_
        rintro r w' ⟨hc, h⟩
        rw [hb] at h
        rcases h with ⟨_, v2, h1, h2⟩ | ⟨h1, _⟩
        · exact ⟨v2, h1, hc, h2⟩
        · cases h1
      · refine (refOpen_any key nonce sf' na ca m sb so' cs' ao xs w2 (Rd.chg hx (c1.trans k2)) hxb hxl (hbs.chg k2) hc1 hc2 (by omega)).mono ?_
        rintro r w' ⟨hc, h⟩
        rw [hb] at h
        rcases h with ⟨_, v2, h1, h2⟩ | ⟨h1, _⟩
        · exact ⟨v2, h1, hc, h2⟩
        · cases h1
      · obtain ⟨a2, b2, d2, rfl, hb2, -⟩ := hr2.shape
        rw [nums_len] at hb2
        subst hb2
        refine (seal_any key nonce (stF key 1#32 nonce sf') ao a2 na ca b2 d2 xs w2 (Rd.chg hx (c1.trans k2)) hr2 hxb hxl (by omega)).mono ?_
        rintro r w' ⟨v3, hr, ho⟩
        refine ⟨v3, hr, ho.chg, ?_⟩
        rw [← opens_seal key nonce xs b2 sf' hb]
        exact ho.own.rd

theorem opens_int (va vs : Value) (na ns : Nat) (a b : Int) (key nonce ta sf : Nat → By) (w : World) (ha : 0 ≤ a ∧ a < 65536) (hb : 0 ≤ b ∧ b < 256) (hva : Ap.Rd w va (nums na ta)) (hvs : Ap.Rd w vs (nums ns sf)) (hna : na ≤ 1048576) (hns : ns ≤ 1048576) : Calls Try.prog 6 #[.agg (ba 32 key), .agg (ba 12 nonce), va, vs, .int .u16 a, .int .u8 b] w fun e w' => e = .returned (.bool true) ∧ Chg w w' := by
  have e1 : a = ((a.toNat : Nat) : Int) := by omega
  have e2 : b = (((BitVec.ofNat 8 b.toNat).toNat : Nat) : Int) := by rw [BitVec.toNat_ofNat]; omega
  rw [e1, e2]
  obtain ⟨ao, m, c, rfl, hm, -⟩ := hva.shape
  obtain ⟨xo, m2, c2, rfl, hm2, -⟩ := hvs.shape
  rw [nums_len] at hm2
  subst hm2
  exact opens_good key nonce sf ao xo m c m2 c2 a.toNat (nums na ta) _ w (by omega) hva (Bt.nums na ta) (by rw [nums_len]; omega) hvs hns
end Go.Proofs.Ytkdidacebfkdmaa
