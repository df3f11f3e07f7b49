/-
  Any bytes are opened, or refused, as the document says; what is opened is what is made of the answer: GcmOpens walked.
-/
import Derived.Test.YtfnibmfmjglmlaaSeW
namespace Go.Proofs.Ytfnibmfmjglmlaa
open Go.RowKit
set_option linter.unusedVariables false

/-- A row of bytes that may be written. -/
theorem own_set {w : World} {g o n c : Nat} {f : Nat → By} (h : Ap.Own w g o n c (nums n f)) {i : Nat} (hi : i < n) (x : By) : Ap.Own (w.setCell ⟨g, o + i, none⟩ (.int .u8 (x.toNat : Int))) g o n c (nums n (updB f i x)) := by
  obtain ⟨h1, h2, h3, cur, hb, hs, ht⟩ := h
  refine ⟨nums_len _ _, h2, h3, cur.setIfInBounds (o + i) (.int .u8 (x.toNat : Int)), ?_, by simpa using hs, ?_⟩
  · rw [setCell_eq_setRow w g (o + i) cur 5 (0, 0) _ hb, setRow_heap _ _ _ _ _ _ hb]
  · apply List.ext_getElem?
    intro j
    have htj := congrArg (·[j]?) ht
    simp only [List.getElem?_take, List.getElem?_drop, List.getElem?_map, Array.getElem?_toList] at htj ⊢
    rw [Array.getElem?_setIfInBounds]
    by_cases hj : j < n
    · rw [if_pos hj] at htj ⊢
      rw [nums_get n f hj] at htj
      rw [nums_get n _ hj]
      by_cases e : i = j
      · subst e
        have hlt : o + i < cur.size := by omega
        simp [hlt, updB]
      · have e1 : ¬ o + i = o + j := by omega
        have e2 : ¬ j = i := fun h => e h.symm
        rw [if_neg e1, htj, updB, if_neg e2]
    · rw [if_neg hj, List.getElem?_eq_none (by rw [nums_len]; omega)]
      rfl

/-- What stands behind the turned byte. -/
def turned (sf : Nat → By) (n at' : Nat) (x : By) : Nat → By := if n = 0 then sf else updB sf (at' % n) (sf (at' % n) ^^^ x)

set_option maxRecDepth 100000 in
set_option maxHeartbeats 8000000 in
/-- The law's two calls, and what is said of them: both refuse. -/
theorem opens_walk (kv : Value) (na ns cs at' : Nat) (nc ta sf : Nat → By) (x : By) (va : Value) (so : Option Addr) (w : World) (hat : at' < 65536)
    (hva : Ap.Rd w va (nums na ta)) (hvs : Ap.Rd w (.slice so ns cs) (nums ns sf)) (hna : na ≤ 1048576) (hns : ns ≤ 1048576)
    (hO : ∀ (v : Value) (w1 : World), Chg w w1 → Ap.Rd w1 v (nums ns (turned sf ns at' x)) →
      (∃ e : Int, e ≠ 0 ∧ Calls Try.prog 22 #[kv, .agg (ba 12 nc), va, v] w1 (fun r w' => r = .returned (.tuple #[.slice none 0 0, .int .i64 e]) ∧ Chg w1 w') ∧ ∀ w2, Chg w1 w2 → Calls Try.prog 23 #[kv, .agg (ba 12 nc), va, v] w2 (fun r w' => r = .returned (.tuple #[.slice none 0 0, .int .i64 e]) ∧ Chg w2 w')) ∨
      (∃ (m : Nat) (t : Nat → By), m ≤ 1048576 ∧ Calls Try.prog 22 #[kv, .agg (ba 12 nc), va, v] w1 (fun r w' => ∃ v2, r = .returned (.tuple #[v2, .int .i64 0]) ∧ Chg w1 w' ∧ Ap.Rd w' v2 (nums m t)) ∧ (∀ w2, Chg w1 w2 → Calls Try.prog 23 #[kv, .agg (ba 12 nc), va, v] w2 (fun r w' => ∃ v2, r = .returned (.tuple #[v2, .int .i64 0]) ∧ Chg w2 w' ∧ Ap.Rd w' v2 (nums m t))) ∧
        ∀ w2 v2, Chg w1 w2 → Ap.Rd w2 v2 (nums m t) → Calls Try.prog 20 #[kv, .agg (ba 12 nc), va, v2] w2 (fun r w' => ∃ v3, r = .returned (.tuple #[v3, .int .i64 0]) ∧ Chg w2 w' ∧ Ap.Rd w' v3 (nums ns (turned sf ns at' x))))) :
    Calls Try.prog 7 #[kv, .agg (ba 12 nc), va, .slice so ns cs, .int .u16 (at' : Int), .int .u8 (x.toNat : Int)] w fun r w' => r = .returned (.bool true) ∧ Chg w w' := by
  have HX : Hid (Ap.Rd w va (nums na ta) ∧ Ap.Rd w (.slice so ns cs) (nums ns sf)) := ⟨hva, hvs⟩
  have HO : Hid (∀ (v : Value) (w1 : World), Chg w w1 → Ap.Rd w1 v (nums ns (turned sf ns at' x)) →
      (∃ e : Int, e ≠ 0 ∧ Calls Try.prog 22 #[kv, .agg (ba 12 nc), va, v] w1 (fun r w' => r = .returned (.tuple #[.slice none 0 0, .int .i64 e]) ∧ Chg w1 w') ∧ ∀ w2, Chg w1 w2 → Calls Try.prog 23 #[kv, .agg (ba 12 nc), va, v] w2 (fun r w' => r = .returned (.tuple #[.slice none 0 0, .int .i64 e]) ∧ Chg w2 w')) ∨
      (∃ (m : Nat) (t : Nat → By), m ≤ 1048576 ∧ Calls Try.prog 22 #[kv, .agg (ba 12 nc), va, v] w1 (fun r w' => ∃ v2, r = .returned (.tuple #[v2, .int .i64 0]) ∧ Chg w1 w' ∧ Ap.Rd w' v2 (nums m t)) ∧ (∀ w2, Chg w1 w2 → Calls Try.prog 23 #[kv, .agg (ba 12 nc), va, v] w2 (fun r w' => ∃ v2, r = .returned (.tuple #[v2, .int .i64 0]) ∧ Chg w2 w' ∧ Ap.Rd w' v2 (nums m t))) ∧
        ∀ w2 v2, Chg w1 w2 → Ap.Rd w2 v2 (nums m t) → Calls Try.prog 20 #[kv, .agg (ba 12 nc), va, v2] w2 (fun r w' => ∃ v3, r = .returned (.tuple #[v3, .int .i64 0]) ∧ Chg w2 w' ∧ Ap.Rd w' v3 (nums ns (turned sf ns at' x))))) := hO
  have hsA := ba_size 12 nc
  have hszA := szB nc zero38.2
  obtain ⟨A, hA⟩ : ∃ A, A = ba 12 nc := ⟨_, rfl⟩
  have HA : Hid (A = ba 12 nc) := hA
  rw [← hA] at hsA hszA HO ⊢
  clear hA hva hvs hO
  go_enter Try.func7, Try.ntmps7
  go_wp2_with fail
  go_at_call 14
  refine (ghead_any _).mono ?_
  rintro r w1 ⟨rfl, hc1⟩
  have Z1 : Hid (Chg w w1 ∧ Ar w1 w.heap.size A) := ⟨((Chg.refl w).alloc _).trans hc1, (Ar.new w _ _).chg hc1⟩
  clear hc1 hsA
  have Zr : Hid (Ap.Rd (w1.alloc (.cells #[] 5)) (.slice so ns cs) (nums ns sf)) := Rd.chg HX.out.2 (Z1.out.1.alloc _)
  go_wp2_with (at_builtin; refine Ap.wpList_app _ rfl _ _ rfl (.slice (some ⟨w1.heap.size, 0, none⟩) 0 0) (.slice so ns cs) [] (nums ns sf) rfl rfl (OwnV.empty w1) Zr.out (by rw [nums_len]; simp; omega) ?_)
  intro v2 w2 o2 cc2 b2
  have k0 : OwnN w1 (w1.alloc (.cells #[] 5)) (.slice (some ⟨w1.heap.size, 0, none⟩) 0 0) [] := ⟨OwnV.empty w1, fun k e => by simp [Value.ownBlock] at e; omega, (Chg.refl w1).alloc _⟩
  have k2' := k0.more o2 cc2 (by first | exact b2 | (rw [World.size_alloc]; exact b2))
  have e2 : nums ns sf = [] ++ nums ns sf := rfl
  obtain ⟨oo, m, oc, rfl, hm, -⟩ := o2.rd.shape
  rw [nums_len] at hm
  subst hm
  have Z2 : Hid (OwnN w1 w2 (.slice oo m oc) (nums m sf) ∧ Chg w w2 ∧ Ar w2 w.heap.size A) := ⟨k2', Z1.out.1.trans k2'.chg, Z1.out.2.chg k2'.chg⟩
  have HS1 : Hid (w.heap.size < w1.heap.size) := Z1.out.2.lt
  clear k0 k2' o2 cc2 b2 Z1 Zr e2
  obtain ⟨bb, hbb⟩ : ∃ bb, decide (0 < m) = bb := ⟨_, rfl⟩
  have HBB : Hid (bb = true ↔ 0 < m) := by
    show _ ↔ _
    rw [← hbb]
    simp
  go_upto_if 28 with fail
  go_cut [15] from 29 to 43 (fun v wc => Chg w wc ∧ Ar wc w.heap.size A ∧ Ap.Rd wc (.slice oo m oc) (nums m (turned sf m at' x)))
  case first =>
    cases bb with
    | true =>
      have hm0 : 0 < m := HBB.out.1 (by first | rfl | trivial)
      obtain ⟨q, hq⟩ : ∃ q : Nat, (at' : Int).tmod m = q := ⟨at' % m, by rw [Int.tmod_eq_emod_of_nonneg (by omega)]; omega⟩
      have hq' : q = at' % m := by rw [Int.tmod_eq_emod_of_nonneg (by omega)] at hq; omega
      have lq : q < m := by rw [hq']; exact Nat.mod_lt _ hm0
      have lq' : (q : Int) < m := by omega
      have wq := wrap_i (x := (q : Int)) (by omega) (by omega)
      have wat := wrap_i (x := (at' : Int)) (by omega) (by omega)
      have hne : ¬ (m : Int) = 0 := by omega
      have hne' : ¬ m = 0 := by omega
      have HT : Hid (turned sf m at' x = updB sf q (sf q ^^^ x)) := by
        show turned sf m at' x = _
        unfold turned
        rw [if_neg (by omega), ← hq']
      obtain ⟨ho, h1, h2⟩ := Z2.out
      have hnew := ho.new
      rcases ho.own with ⟨e, _⟩ | ⟨g, off, n', cap', e, hown⟩
      · injection e with _ e2 _
        omega
      injection e with e1 e2 e3
      subst e1 e2 e3
      have hg := hnew g rfl
      have c1 := hown.cell q _ (nums_get m sf lq)
      have f1 : w2.frozen? ⟨g, off + q, none⟩ = false := by
        obtain ⟨_, _, _, cur, hb, _, _⟩ := hown
        simp [World.frozen?, hb]
      obtain ⟨y, Hy, ey⟩ := nameXor (sf q) x
      have HOW : Hid (Ap.Own w2 g off m oc (nums m sf) ∧ w.heap.size < g ∧ y = sf q ^^^ x ∧ Chg w w2 ∧ Ar w2 w.heap.size A ∧ q < m) := ⟨hown, by have := HS1.out; omega, Hy.out, h1, h2, lq⟩
      obtain ⟨z, hz⟩ : ∃ z, z = sf q := ⟨_, rfl⟩
      rw [← hz] at c1 ey
      clear ho h1 h2 hnew hown hg hq' Hy hz
      go_wp2_with fail
      go_meet
      obtain ⟨r1, r2, r3, r4, r5, r6⟩ := HOW.out
      refine ⟨r4.setCell (by dsimp only; omega) _, r5.other (by dsimp only; omega) _, ?_⟩
      rw [HT.out, ← r3]
      exact (own_set r1 r6 y).rd
    | false =>
      have hm0 : m = 0 := by
        have := HBB.out.2
        by_cases h : 0 < m
        · cases this h
        · omega
      go_wp2_with fail
      go_meet
      obtain ⟨ho, h1, h2⟩ := Z2.out
      refine ⟨h1, h2, ?_⟩
      have e : turned sf m at' x = sf := by unfold turned; rw [if_pos hm0]
      rw [e]
      exact ho.own.rd
  case rest =>
    obtain ⟨h1, h2, h3⟩ := hcut
    obtain ⟨w3, hw3⟩ : ∃ w3, w3 = wc := ⟨_, rfl⟩
    obtain ⟨sf', hsf⟩ : ∃ sf', sf' = turned sf m at' x := ⟨_, rfl⟩
    rw [← hsf] at h3 HO
    have Z3 : Hid (Chg w w3 ∧ Ar w3 w.heap.size A ∧ Ap.Rd w3 (.slice oo m oc) (nums m sf')) := by
      rw [hw3]
      exact ⟨h1, h2, h3⟩
    have hO := HO.out (.slice oo m oc) w3 Z3.out.1 Z3.out.2.2
    rw [← hw3]
    clear hw3 h1 h2 h3 Z2 HO hsf hbb
    obtain ⟨tA, gA⟩ := Z3.out.2.1
    rcases hO with ⟨e, he, hc1, hc2⟩ | ⟨n2, t, hn2, hc1, hc2, hc3⟩
    · have HC : Hid (Calls Try.prog 22 #[kv, .agg A, va, .slice oo m oc] w3 (fun r w' => r = .returned (.tuple #[.slice none 0 0, .int .i64 e]) ∧ Chg w3 w') ∧ ∀ w2, Chg w3 w2 → Calls Try.prog 23 #[kv, .agg A, va, .slice oo m oc] w2 (fun r w' => r = .returned (.tuple #[.slice none 0 0, .int .i64 e]) ∧ Chg w2 w')) := ⟨hc1, hc2⟩
      have hee : (e != e) = false := by simp
      have he0 : (e != 0) = true := by simpa using he
      clear hc1 hc2 he
      go_wp2_with (first | refine wpList_load_row rfl 38 _ rfl _ rfl _ _ _ _ gA und38 rfl hszA ?_)
      go_at_call 22
      refine HC.out.1.mono ?_
      rintro r w4 ⟨rfl, hc4⟩
      have Z4 : Hid (Chg w w4 ∧ Chg w3 w4 ∧ Ar w4 w.heap.size A) := ⟨Z3.out.1.trans hc4, hc4, Z3.out.2.1.chg hc4⟩
      clear hc4 gA
      obtain ⟨tB, gB⟩ := Z4.out.2.2
      go_wp2_with (first | refine wpList_load_row rfl 38 _ rfl _ rfl _ _ _ _ gB und38 rfl hszA ?_)
      go_at_call 23
      refine (HC.out.2 _ Z4.out.2.1).mono ?_
      rintro r w5 ⟨rfl, hc5⟩
      have Z5 : Hid (Chg w w5) := Z4.out.1.trans hc5
      have s1 := Ap.run_str w5 _ _ (Ap.Rd.nil w5)
      obtain ⟨E, hE⟩ : ∃ E, E = strOfNums [] := ⟨_, rfl⟩
      rw [← hE] at s1
      clear hc5 gB hE
      go_wp2_with fail
      go_ret
      exact ⟨rfl, Z5.out⟩
    · have HC : Hid (Calls Try.prog 22 #[kv, .agg A, va, .slice oo m oc] w3 (fun r w' => ∃ v2, r = .returned (.tuple #[v2, .int .i64 0]) ∧ Chg w3 w' ∧ Ap.Rd w' v2 (nums n2 t)) ∧ (∀ w2, Chg w3 w2 → Calls Try.prog 23 #[kv, .agg A, va, .slice oo m oc] w2 (fun r w' => ∃ v2, r = .returned (.tuple #[v2, .int .i64 0]) ∧ Chg w2 w' ∧ Ap.Rd w' v2 (nums n2 t))) ∧
        ∀ w2 v2, Chg w3 w2 → Ap.Rd w2 v2 (nums n2 t) → Calls Try.prog 20 #[kv, .agg A, va, v2] w2 (fun r w' => ∃ v3, r = .returned (.tuple #[v3, .int .i64 0]) ∧ Chg w2 w' ∧ Ap.Rd w' v3 (nums m sf'))) := ⟨hc1, hc2, hc3⟩
      clear hc1 hc2 hc3
      go_wp2_with (first | refine wpList_load_row rfl 38 _ rfl _ rfl _ _ _ _ gA und38 rfl hszA ?_)
      go_at_call 22
      refine HC.out.1.mono ?_
      rintro r w4 ⟨v4, rfl, hc4, hr4⟩
      obtain ⟨p4, m4, q4, rfl, -⟩ := hr4.shape
      have Z4 : Hid (Chg w w4 ∧ Chg w3 w4 ∧ Ar w4 w.heap.size A ∧ Ap.Rd w4 (.slice p4 m4 q4) (nums n2 t)) := ⟨Z3.out.1.trans hc4, hc4, Z3.out.2.1.chg hc4, hr4⟩
      clear hc4 gA hr4
      obtain ⟨tB, gB⟩ := Z4.out.2.2.1
      go_wp2_with (first | refine wpList_load_row rfl 38 _ rfl _ rfl _ _ _ _ gB und38 rfl hszA ?_)
      go_at_call 23
      refine (HC.out.2.1 _ Z4.out.2.1).mono ?_
      rintro r w5 ⟨v5, rfl, hc5, hr5⟩
      obtain ⟨p5, m5, q5, rfl, -⟩ := hr5.shape
      have Z5 : Hid (Chg w w5 ∧ Chg w3 w5 ∧ Ar w5 w.heap.size A ∧ Ap.Rd w5 (.slice p4 m4 q4) (nums n2 t)) := ⟨Z4.out.1.trans hc5, Z4.out.2.1.trans hc5, Z4.out.2.2.1.chg hc5, Rd.chg Z4.out.2.2.2 hc5⟩
      have s1 := Ap.run_str w5 _ _ hr5
      have s2 := Ap.run_str w5 _ _ Z5.out.2.2.2
      obtain ⟨E, hE⟩ : ∃ E, E = strOfNums (nums n2 t) := ⟨_, rfl⟩
      rw [← hE] at s1 s2
      clear hc5 gB hE hr5 Z4
      go_upto_region 12 with fail
      clear s1 s2
      obtain ⟨tC, gC⟩ := Z5.out.2.2.1
      go_wp2_with (first | refine wpList_load_row rfl 38 _ rfl _ rfl _ _ _ _ gC und38 rfl hszA ?_)
      go_at_call 20
      refine (HC.out.2.2 _ _ Z5.out.2.1 Z5.out.2.2.2).mono ?_
      rintro r w6 ⟨v6, rfl, hc6, hr6⟩
      obtain ⟨p6, m6, q6, rfl, -⟩ := hr6.shape
      have Z6 : Hid (Chg w w6) := Z5.out.1.trans hc6
      have s3 := Ap.run_str w6 _ _ hr6
      have s4 := Ap.run_str w6 _ _ (Rd.chg Z3.out.2.2 (Z5.out.2.1.trans hc6))
      obtain ⟨E2, hE2⟩ : ∃ E, E = strOfNums (nums m sf') := ⟨_, rfl⟩
      rw [← hE2] at s3 s4
      clear hc6 gC hE2 hr6
      go_wp2_with fail
      go_ret
      exact ⟨rfl, Z6.out⟩

/-- A key has round keys. -/
theorem Ks.there (n : Nat) (hn : 0 < n) (key : Nat → By) (m : Nat) : ∃ k, Ks n (n + m) key k := by
  induction m with
  | zero => exact ⟨key, fun _ _ => rfl, fun i h1 h2 => by omega⟩
  | succ m ih =>
    obtain ⟨k, hk⟩ := ih
    obtain ⟨k', hk'⟩ : ∃ k' : Nat → By, k' = fun j => if 4 * (n + m) ≤ j then k (4 * (n + m - n) + (j - 4 * (n + m))) ^^^ tw n k (n + m) (j - 4 * (n + m)) else k j := ⟨_, rfl⟩
    have low : ∀ j, j < 4 * (n + m) → k' j = k j := fun j hj => by rw [hk']; exact if_neg (by omega)
    refine ⟨k', fun j hj => by rw [low j (by omega), hk.lo j hj], fun i h1 h2 r hr => ?_⟩
    by_cases hi : i < n + m
    · rw [low _ (by omega), low _ (by omega), hk.hi i h1 hi r hr, tw_congr hr (k := k) (k' := k') (fun j hj => (low j (by omega)).symm) (by omega)]
    · have e : i = n + m := by omega
      subst e
      rw [low (4 * (n + m - n) + r) (by omega), ← tw_congr hr (k := k) (k' := k') (fun j hj => (low j (by omega)).symm) (by omega)]
      rw [hk']
      show (if 4 * (n + m) ≤ 4 * (n + m) + r then _ else _) = _
      rw [if_pos (by omega), show 4 * (n + m) + r - 4 * (n + m) = r by omega]

theorem opens_good (kb ko kcap L nk R na ns cs at' : Nat) (key nc ta sf : Nat → By) (x : By) (va : Value) (so : Option Addr) (w : World) (hat : at' < 65536) (hv : Bs w kb ko L key) (hL : L = 4 * nk) (hn : nk = 4 ∨ nk = 8) (hR : R = nk + 6) (hcap : L ≤ kcap) (hcap' : kcap ≤ 9223372036854775807)
    (hva : Ap.Rd w va (nums na ta)) (hvs : Ap.Rd w (.slice so ns cs) (nums ns sf)) (hna : na ≤ 1048576) (hns : ns ≤ 1048576) :
    Calls Try.prog 7 #[.slice (some ⟨kb, ko, none⟩) L kcap, .agg (ba 12 nc), va, .slice so ns cs, .int .u16 (at' : Int), .int .u8 (x.toNat : Int)] w fun r w' => r = .returned (.bool true) ∧ Chg w w' := by
  refine opens_walk _ na ns cs at' nc ta sf x va so w hat hva hvs hna hns ?_
  intro v w1 c1 hv1
  obtain ⟨sf', hsf⟩ : ∃ sf', sf' = turned sf ns at' x := ⟨_, rfl⟩
  rw [← hsf] at hv1 ⊢
  by_cases h16 : ns < 16
  · obtain ⟨vo, vm, vc, rfl, hm, -⟩ := hv1.shape
    rw [nums_len] at hm
    subst hm
    exact .inl ⟨81, by decide, openShort_any kb ko kcap L nk R key nc vm vc vo va w1 (hv.chg c1) hL hn hR hcap hcap' h16, fun w2 c2 => refOpenShort_any kb ko kcap L nk R key nc vm vc vo va w2 (hv.chg (c1.trans c2)) hL hn hR hcap hcap' h16⟩
  · obtain ⟨m, rfl⟩ : ∃ m, ns = m + 16 := ⟨ns - 16, by omega⟩
    obtain ⟨sb, so', cs', rfl, hc1, hc2, hbs⟩ := Rd.bs hv1 (by omega)
    obtain ⟨k, hk⟩ := Ks.there nk (by omega) key (4 * (R + 1) - nk)
    rw [show nk + (4 * (R + 1) - nk) = 4 * (R + 1) by omega] at hk
    have hsame : ∀ k', Ks nk (4 * (R + 1)) key k' → sameB 16 (tagF R k' nc ta na sf' m) (fun j => sf' (m + j)) = sameB 16 (tagF R k nc ta na sf' m) (fun j => sf' (m + j)) := fun k' hk' => by
      rw [Bool.eq_iff_iff, sameB_iff, sameB_iff]
      have e := tag_congr hR hn hk' hk nc ta na (t1 := sf') (t2 := sf') (nx := m) (fun _ _ => rfl)
      exact ⟨fun h j hj => by rw [← e j hj]; exact h j hj, fun h j hj => by rw [e j hj]; exact h j hj⟩
    cases hb : sameB 16 (tagF R k nc ta na sf' m) (fun j => sf' (m + j)) with
    | false =>
      refine .inl ⟨81, by decide, ?_, fun w2 c2 => ?_⟩
      · refine (open_any kb ko kcap L nk R key nc ta sf' na m sb so' cs' va w1 (hv.chg c1) hL hn hR hcap hcap' (Rd.chg hva c1) hbs hc1 hc2 (by omega) (by omega)).mono ?_
        rintro r w' ⟨k3, hk3, hc, h⟩
        rw [hsame k3 hk3, hb] at h
        rcases h with ⟨h1, _⟩ | ⟨_, h1⟩
        · cases h1
        · exact ⟨h1, hc⟩
      · refine (refOpen_any kb ko kcap L nk R key nc ta sf' na m sb so' cs' va w2 (hv.chg (c1.trans c2)) hL hn hR hcap hcap' (Rd.chg hva (c1.trans c2)) (hbs.chg c2) hc1 hc2 (by omega) (by omega)).mono ?_
        rintro r w' ⟨k3, hk3, hc, h⟩
        rw [hsame k3 hk3, hb] at h
        rcases h with ⟨h1, _⟩ | ⟨_, h1⟩
        · cases h1
        · exact ⟨h1, hc⟩
    | true =>
      refine .inr ⟨m, stF R k (ctrB nc 2#8) sf', by omega, ?_, fun w2 c2 => ?_, fun w2 v2 c2 hr2 => ?_⟩
      · refine (open_any kb ko kcap L nk R key nc ta sf' na m sb so' cs' va w1 (hv.chg c1) hL hn hR hcap hcap' (Rd.chg hva c1) hbs hc1 hc2 (by omega) (by omega)).mono ?_
        rintro r w' ⟨k3, hk3, hc, h⟩
        rw [hsame k3 hk3, hb, key_st hR hn hk3 hk] at h
        rcases h with ⟨_, v2, h1, h2⟩ | ⟨h1, _⟩
        · exact ⟨v2, h1, hc, h2⟩
        · cases h1
      · refine (refOpen_any kb ko kcap L nk R key nc ta sf' na m sb so' cs' va w2 (hv.chg (c1.trans c2)) hL hn hR hcap hcap' (Rd.chg hva (c1.trans c2)) (hbs.chg c2) hc1 hc2 (by omega) (by omega)).mono ?_
        rintro r w' ⟨k3, hk3, hc, h⟩
        rw [hsame k3 hk3, hb, key_st hR hn hk3 hk] at h
        rcases h with ⟨_, v2, h1, h2⟩ | ⟨h1, _⟩
        · exact ⟨v2, h1, hc, h2⟩
        · cases h1
      · refine (seal_any kb ko kcap L nk R key nc ta (stF R k (ctrB nc 2#8) sf') na m va v2 w2 (hv.chg (c1.trans c2)) hL hn hR hcap hcap' (Rd.chg hva (c1.trans c2)) hr2 (by omega) (by omega)).mono ?_
        rintro r w' ⟨k3, v3, hr, ho, hk3⟩
        refine ⟨v3, hr, ho.chg, ?_⟩
        rw [← opens_seal hR hn hk hk3 nc ta na sf' m hb]
        exact ho.own.rd

theorem opens_any (v va vs : Value) (L na ns at' : Nat) (key nc ta sf : Nat → By) (x : By) (w : World) (hat : at' < 65536) (hv : Ap.Rd w v (nums L key)) (hva : Ap.Rd w va (nums na ta)) (hvs : Ap.Rd w vs (nums ns sf)) (hna : na ≤ 1048576) (hns : ns ≤ 1048576) : Calls Try.prog 7 #[v, .agg (ba 12 nc), va, vs, .int .u16 (at' : Int), .int .u8 (x.toNat : Int)] w fun e w' => e = .returned (.bool true) ∧ Chg w w' := by
  obtain ⟨so, m2, cs, rfl, hm2, -⟩ := hvs.shape
  rw [nums_len] at hm2
  subst hm2
  by_cases h : L = 16 ∨ L = 32
  · obtain ⟨kb, ko, c, rfl, h1, h2, h3⟩ := Rd.bs hv (by omega)
    rcases h with rfl | rfl
    · exact opens_good kb ko c 16 4 10 na m2 cs at' key nc ta sf x va so w hat h3 rfl (.inl rfl) rfl h1 h2 hva hvs hna hns
    · exact opens_good kb ko c 32 8 14 na m2 cs at' key nc ta sf x va so w hat h3 rfl (.inr rfl) rfl h1 h2 hva hvs hna hns
  · obtain ⟨ao, m, c, rfl, hm, _⟩ := hv.shape
    rw [nums_len] at hm
    subst hm
    refine opens_walk _ na m2 cs at' nc ta sf x va so w hat hva hvs hna hns ?_
    intro v w1 c1 hv1
    exact .inl ⟨1, by decide, openBad_any ao m c nc va v w1 (by omega) (by omega), fun w2 c2 => refOpenBad_any ao m c nc va v w2 (by omega) (by omega)⟩
theorem opens_int (v va vs : Value) (L na ns : Nat) (a b : Int) (key nc ta sf : Nat → By) (w : World) (ha : 0 ≤ a ∧ a < 65536) (hb : 0 ≤ b ∧ b < 256) (hv : Ap.Rd w v (nums L key)) (hva : Ap.Rd w va (nums na ta)) (hvs : Ap.Rd w vs (nums ns sf)) (hna : na ≤ 1048576) (hns : ns ≤ 1048576) : Calls Try.prog 7 #[v, .agg (ba 12 nc), va, vs, .int .u16 a, .int .u8 b] w fun e w' => e = .returned (.bool true) ∧ Chg w w' := by
  have e1 : a = ((a.toNat : Nat) : Int) := by omega
  have e2 : b = (((BitVec.ofNat 8 b.toNat).toNat : Nat) : Int) := by rw [BitVec.toNat_ofNat]; omega
  rw [e1, e2]
  exact opens_any v va vs L na ns a.toNat key nc ta sf _ w (by omega) hv hva hvs hna hns
end Go.Proofs.Ytfnibmfmjglmlaa
