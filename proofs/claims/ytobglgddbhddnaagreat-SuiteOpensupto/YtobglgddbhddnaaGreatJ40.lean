/-
  The law of Open: walked over whatever the suite does.
  Both laws over all suites and keys: a lock that fits, a key of another length, no such suite.
-/
import Derived.Test.YtobglgddbhddnaaGreatJ39
import Derived.Test.YtobglgddbhddnaaGreatJ19
namespace Go.Proofs.YtobglgddbhddnaaGreat
open Go.RowKit
set_option linter.unusedVariables false

set_option maxRecDepth 100000 in
set_option maxHeartbeats 8000000 in
theorem sopens_walk (s : Int) (kv : Value) (na ns cs at' : Nat) (nc ta sf : Nat → By) (x : By) (va : Value) (so : Option Addr) (w : World) (hat : at' < 65536)
    (hva : Ap.Rd w va (nums na ta)) (hvs : Ap.Rd w (.slice so ns cs) (nums ns sf)) (hna : na ≤ 1048576) (hns : ns ≤ 1048576)
    (hO : ∀ (v : Value) (w1 : World), Chg w w1 → Ap.Rd w1 v (nums ns (turned sf ns at' x)) →
      (∃ e : Int, e ≠ 0 ∧ Calls Tryz.prog 8 #[.int .u16 s, kv, .agg (ba 12 nc), va, v] w1 (fun r w' => r = .returned (.tuple #[.slice none 0 0, .int .i64 e]) ∧ Chg w1 w') ∧ ∀ w2, Chg w1 w2 → Calls Tryz.prog 9 #[.int .u16 s, kv, .agg (ba 12 nc), va, v] w2 (fun r w' => r = .returned (.tuple #[.slice none 0 0, .int .i64 e]) ∧ Chg w2 w')) ∨
      (∃ (m : Nat) (t : Nat → By), m ≤ 1048576 ∧ Calls Tryz.prog 8 #[.int .u16 s, kv, .agg (ba 12 nc), va, v] w1 (fun r w' => ∃ v2, r = .returned (.tuple #[v2, .int .i64 0]) ∧ Chg w1 w' ∧ Ap.Rd w' v2 (nums m t)) ∧ (∀ w2, Chg w1 w2 → Calls Tryz.prog 9 #[.int .u16 s, kv, .agg (ba 12 nc), va, v] w2 (fun r w' => ∃ v2, r = .returned (.tuple #[v2, .int .i64 0]) ∧ Chg w2 w' ∧ Ap.Rd w' v2 (nums m t))) ∧
        ∀ w2 v2, Chg w1 w2 → Ap.Rd w2 v2 (nums m t) → Calls Tryz.prog 6 #[.int .u16 s, kv, .agg (ba 12 nc), va, v2] w2 (fun r w' => ∃ v3, r = .returned (.tuple #[v3, .int .i64 0]) ∧ Chg w2 w' ∧ Ap.Rd w' v3 (nums ns (turned sf ns at' x))))) :
    Calls Tryz.prog 4 #[.int .u16 s, kv, .agg (ba 12 nc), va, .slice so ns cs, .int .u16 (at' : Int), .int .u8 (x.toNat : Int)] w fun r w' => r = .returned (.bool true) ∧ Chg w w' := by
  have HX : Hid (Ap.Rd w va (nums na ta) ∧ Ap.Rd w (.slice so ns cs) (nums ns sf)) := ⟨hva, hvs⟩
  have HO : Hid (∀ (v : Value) (w1 : World), Chg w w1 → Ap.Rd w1 v (nums ns (turned sf ns at' x)) →
      (∃ e : Int, e ≠ 0 ∧ Calls Tryz.prog 8 #[.int .u16 s, kv, .agg (ba 12 nc), va, v] w1 (fun r w' => r = .returned (.tuple #[.slice none 0 0, .int .i64 e]) ∧ Chg w1 w') ∧ ∀ w2, Chg w1 w2 → Calls Tryz.prog 9 #[.int .u16 s, kv, .agg (ba 12 nc), va, v] w2 (fun r w' => r = .returned (.tuple #[.slice none 0 0, .int .i64 e]) ∧ Chg w2 w')) ∨
      (∃ (m : Nat) (t : Nat → By), m ≤ 1048576 ∧ Calls Tryz.prog 8 #[.int .u16 s, kv, .agg (ba 12 nc), va, v] w1 (fun r w' => ∃ v2, r = .returned (.tuple #[v2, .int .i64 0]) ∧ Chg w1 w' ∧ Ap.Rd w' v2 (nums m t)) ∧ (∀ w2, Chg w1 w2 → Calls Tryz.prog 9 #[.int .u16 s, kv, .agg (ba 12 nc), va, v] w2 (fun r w' => ∃ v2, r = .returned (.tuple #[v2, .int .i64 0]) ∧ Chg w2 w' ∧ Ap.Rd w' v2 (nums m t))) ∧
        ∀ w2 v2, Chg w1 w2 → Ap.Rd w2 v2 (nums m t) → Calls Tryz.prog 6 #[.int .u16 s, kv, .agg (ba 12 nc), va, v2] w2 (fun r w' => ∃ v3, r = .returned (.tuple #[v3, .int .i64 0]) ∧ Chg w2 w' ∧ Ap.Rd w' v3 (nums ns (turned sf ns at' x))))) := hO
  have hsA := ba_size 12 nc
  have hszA := szB nc zero38.2
  obtain ⟨A, hA⟩ : ∃ A, A = ba 12 nc := ⟨_, rfl⟩
  have HA : Hid (A = ba 12 nc) := hA
  rw [← hA] at hsA hszA HO ⊢
  clear hA hva hvs hO
  go_enter Tryz.func4, Tryz.ntmps4
  go_wp2_with fail
  go_at_call 5
  refine (shead_any _).mono ?_
  rintro r w1 ⟨rfl, hc1⟩
  have Z1 : Hid (Chg w w1 ∧ Ar w1 w.heap.size A) := ⟨((Chg.refl w).alloc _).trans hc1, (Ar.new w _ _).chg hc1⟩
  clear hc1 hsA
  have Zr : Hid (Ap.Rd (w1.alloc (.cells #[] 5)) (.slice so ns cs) (nums ns sf)) := Rd.chg HX.out.2 (Z1.out.1.alloc _)
  go_wp2_with (at_builtin; refine Ap.wpList_app _ rfl _ _ rfl (.slice (some ⟨w1.heap.size, 0, none⟩) 0 0) (.slice so ns cs) [] (nums ns sf) rfl rfl (OwnV.empty w1) Zr.out (by rw [nums_len]; simp; omega) ?_)
  intro v2 w2 o2 cc2 b2
  have k0 : OwnN w1 (w1.alloc (.cells #[] 5)) (.slice (some ⟨w1.heap.size, 0, none⟩) 0 0) [] := ⟨OwnV.empty w1, fun k e => by simp [Value.ownBlock] at e; omega, (Chg.refl w1).alloc _⟩
  have k2' := k0.more o2 cc2 (by first | exact b2 | (rw [World.size_alloc]; exact b2))
  have e2 : nums ns sf = [] ++ nums ns sf := rfl
  obtain ⟨oo, m, oc, rfl, hm, -⟩ := o2.rd.shape
  rw [nums_len] at hm
  subst hm
  have Z2 : Hid (OwnN w1 w2 (.slice oo m oc) (nums m sf) ∧ Chg w w2 ∧ Ar w2 w.heap.size A) := ⟨k2', Z1.out.1.trans k2'.chg, Z1.out.2.chg k2'.chg⟩
  have HS1 : Hid (w.heap.size < w1.heap.size) := Z1.out.2.lt
  clear k0 k2' o2 cc2 b2 Z1 Zr e2
  obtain ⟨bb, hbb⟩ : ∃ bb, decide (0 < m) = bb := ⟨_, rfl⟩
  have HBB : Hid (bb = true ↔ 0 < m) := by
    show _ ↔ _
    rw [← hbb]
    simp
  go_upto_if 30 with fail
  go_cut [17] from 31 to 45 (fun v wc => Chg w wc ∧ Ar wc w.heap.size A ∧ Ap.Rd wc (.slice oo m oc) (nums m (turned sf m at' x)))
  case first =>
    cases bb with
    | true =>
      have hm0 : 0 < m := HBB.out.1 (by first | rfl | trivial)
      obtain ⟨q, hq⟩ : ∃ q : Nat, (at' : Int).tmod m = q := ⟨at' % m, by rw [Int.tmod_eq_emod_of_nonneg (by omega)]; omega⟩
      have hq' : q = at' % m := by rw [Int.tmod_eq_emod_of_nonneg (by omega)] at hq; omega
      have lq : q < m := by rw [hq']; exact Nat.mod_lt _ hm0
      have lq' : (q : Int) < m := by omega
      have wq := wrap_i (x := (q : Int)) (by omega) (by omega)
      have wat := wrap_i (x := (at' : Int)) (by omega) (by omega)
      have hne : ¬ (m : Int) = 0 := by omega
      have hne' : ¬ m = 0 := by omega
      have HT : Hid (turned sf m at' x = updB sf q (sf q ^^^ x)) := by
        show turned sf m at' x = _
        unfold turned
        rw [if_neg (by omega), ← hq']
      obtain ⟨ho, h1, h2⟩ := Z2.out
      have hnew := ho.new
      rcases ho.own with ⟨e, _⟩ | ⟨g, off, n', cap', e, hown⟩
      · injection e with _ e2 _
        omega
      injection e with e1 e2 e3
      subst e1 e2 e3
      have hg := hnew g rfl
      have c1 := hown.cell q _ (nums_get m sf lq)
      have f1 : w2.frozen? ⟨g, off + q, none⟩ = false := by
        obtain ⟨_, _, _, cur, hb, _, _⟩ := hown
        simp [World.frozen?, hb]
      obtain ⟨y, Hy, ey⟩ := nameXor (sf q) x
      have HOW : Hid (Ap.Own w2 g off m oc (nums m sf) ∧ w.heap.size < g ∧ y = sf q ^^^ x ∧ Chg w w2 ∧ Ar w2 w.heap.size A ∧ q < m) := ⟨hown, by have := HS1.out; omega, Hy.out, h1, h2, lq⟩
      obtain ⟨z, hz⟩ : ∃ z, z = sf q := ⟨_, rfl⟩
      rw [← hz] at c1 ey
      clear ho h1 h2 hnew hown hg hq' Hy hz
      go_wp2_with fail
      go_meet
      obtain ⟨r1, r2, r3, r4, r5, r6⟩ := HOW.out
      refine ⟨r4.setCell (by dsimp only; omega) _, r5.other (by dsimp only; omega) _, ?_⟩
      rw [HT.out, ← r3]
      exact (own_set r1 r6 y).rd
    | false =>
      have hm0 : m = 0 := by
        have := HBB.out.2
        by_cases h : 0 < m
        · cases this h
        · omega
      go_wp2_with fail
      go_meet
      obtain ⟨ho, h1, h2⟩ := Z2.out
      refine ⟨h1, h2, ?_⟩
      have e : turned sf m at' x = sf := by unfold turned; rw [if_pos hm0]
      rw [e]
      exact ho.own.rd
  case rest =>
    obtain ⟨h1, h2, h3⟩ := hcut
    obtain ⟨w3, hw3⟩ : ∃ w3, w3 = wc := ⟨_, rfl⟩
    obtain ⟨sf', hsf⟩ : ∃ sf', sf' = turned sf m at' x := ⟨_, rfl⟩
    rw [← hsf] at h3 HO
    have Z3 : Hid (Chg w w3 ∧ Ar w3 w.heap.size A ∧ Ap.Rd w3 (.slice oo m oc) (nums m sf')) := by
      rw [hw3]
      exact ⟨h1, h2, h3⟩
    have hO := HO.out (.slice oo m oc) w3 Z3.out.1 Z3.out.2.2
    rw [← hw3]
    clear hw3 h1 h2 h3 Z2 HO hsf hbb
    obtain ⟨tA, gA⟩ := Z3.out.2.1
    rcases hO with ⟨e, he, hc1, hc2⟩ | ⟨n2, t, hn2, hc1, hc2, hc3⟩
    · have HC : Hid (Calls Tryz.prog 8 #[.int .u16 s, kv, .agg A, va, .slice oo m oc] w3 (fun r w' => r = .returned (.tuple #[.slice none 0 0, .int .i64 e]) ∧ Chg w3 w') ∧ ∀ w2, Chg w3 w2 → Calls Tryz.prog 9 #[.int .u16 s, kv, .agg A, va, .slice oo m oc] w2 (fun r w' => r = .returned (.tuple #[.slice none 0 0, .int .i64 e]) ∧ Chg w2 w')) := ⟨hc1, hc2⟩
      have hee : (e != e) = false := by simp
      have he0 : (e != 0) = true := by simpa using he
      clear hc1 hc2 he
      go_wp2_with (first | refine wpList_load_row rfl 25 _ rfl _ rfl _ _ _ _ gA und38 rfl hszA ?_)
      go_at_call 8
      refine HC.out.1.mono ?_
      rintro r w4 ⟨rfl, hc4⟩
      have Z4 : Hid (Chg w w4 ∧ Chg w3 w4 ∧ Ar w4 w.heap.size A) := ⟨Z3.out.1.trans hc4, hc4, Z3.out.2.1.chg hc4⟩
      clear hc4 gA
      obtain ⟨tB, gB⟩ := Z4.out.2.2
      go_wp2_with (first | refine wpList_load_row rfl 25 _ rfl _ rfl _ _ _ _ gB und38 rfl hszA ?_)
      go_at_call 9
      refine (HC.out.2 _ Z4.out.2.1).mono ?_
      rintro r w5 ⟨rfl, hc5⟩
      have Z5 : Hid (Chg w w5) := Z4.out.1.trans hc5
      have s1 := Ap.run_str w5 _ _ (Ap.Rd.nil w5)
      obtain ⟨E, hE⟩ : ∃ E, E = strOfNums [] := ⟨_, rfl⟩
      rw [← hE] at s1
      clear hc5 gB hE
      go_wp2_with fail
      go_ret
      exact ⟨rfl, Z5.out⟩
    · have HC : Hid (Calls Tryz.prog 8 #[.int .u16 s, kv, .agg A, va, .slice oo m oc] w3 (fun r w' => ∃ v2, r = .returned (.tuple #[v2, .int .i64 0]) ∧ Chg w3 w' ∧ Ap.Rd w' v2 (nums n2 t)) ∧ (∀ w2, Chg w3 w2 → Calls Tryz.prog 9 #[.int .u16 s, kv, .agg A, va, .slice oo m oc] w2 (fun r w' => ∃ v2, r = .returned (.tuple #[v2, .int .i64 0]) ∧ Chg w2 w' ∧ Ap.Rd w' v2 (nums n2 t))) ∧
        ∀ w2 v2, Chg w3 w2 → Ap.Rd w2 v2 (nums n2 t) → Calls Tryz.prog 6 #[.int .u16 s, kv, .agg A, va, v2] w2 (fun r w' => ∃ v3, r = .returned (.tuple #[v3, .int .i64 0]) ∧ Chg w2 w' ∧ Ap.Rd w' v3 (nums m sf'))) := ⟨hc1, hc2, hc3⟩
      clear hc1 hc2 hc3
      go_wp2_with (first | refine wpList_load_row rfl 25 _ rfl _ rfl _ _ _ _ gA und38 rfl hszA ?_)
      go_at_call 8
      refine HC.out.1.mono ?_
      rintro r w4 ⟨v4, rfl, hc4, hr4⟩
      obtain ⟨p4, m4, q4, rfl, -⟩ := hr4.shape
      have Z4 : Hid (Chg w w4 ∧ Chg w3 w4 ∧ Ar w4 w.heap.size A ∧ Ap.Rd w4 (.slice p4 m4 q4) (nums n2 t)) := ⟨Z3.out.1.trans hc4, hc4, Z3.out.2.1.chg hc4, hr4⟩
      clear hc4 gA hr4
      obtain ⟨tB, gB⟩ := Z4.out.2.2.1
      go_wp2_with (first | refine wpList_load_row rfl 25 _ rfl _ rfl _ _ _ _ gB und38 rfl hszA ?_)
      go_at_call 9
      refine (HC.out.2.1 _ Z4.out.2.1).mono ?_
      rintro r w5 ⟨v5, rfl, hc5, hr5⟩
      obtain ⟨p5, m5, q5, rfl, -⟩ := hr5.shape
      have Z5 : Hid (Chg w w5 ∧ Chg w3 w5 ∧ Ar w5 w.heap.size A ∧ Ap.Rd w5 (.slice p4 m4 q4) (nums n2 t)) := ⟨Z4.out.1.trans hc5, Z4.out.2.1.trans hc5, Z4.out.2.2.1.chg hc5, Rd.chg Z4.out.2.2.2 hc5⟩
      have s1 := Ap.run_str w5 _ _ hr5
      have s2 := Ap.run_str w5 _ _ Z5.out.2.2.2
      obtain ⟨E, hE⟩ : ∃ E, E = strOfNums (nums n2 t) := ⟨_, rfl⟩
      rw [← hE] at s1 s2
      clear hc5 gB hE hr5 Z4
      go_upto_region 12 with fail
      clear s1 s2
      obtain ⟨tC, gC⟩ := Z5.out.2.2.1
      go_wp2_with (first | refine wpList_load_row rfl 25 _ rfl _ rfl _ _ _ _ gC und38 rfl hszA ?_)
      go_at_call 6
      refine (HC.out.2.2 _ _ Z5.out.2.1 Z5.out.2.2.2).mono ?_
      rintro r w6 ⟨v6, rfl, hc6, hr6⟩
      obtain ⟨p6, m6, q6, rfl, -⟩ := hr6.shape
      have Z6 : Hid (Chg w w6) := Z5.out.1.trans hc6
      have s3 := Ap.run_str w6 _ _ hr6
      have s4 := Ap.run_str w6 _ _ (Rd.chg Z3.out.2.2 (Z5.out.2.1.trans hc6))
      obtain ⟨E2, hE2⟩ : ∃ E, E = strOfNums (nums m sf') := ⟨_, rfl⟩
      rw [← hE2] at s3 s4
      clear hc6 gC hE2 hr6
      go_wp2_with fail
      go_ret
      exact ⟨rfl, Z6.out⟩

end Go.Proofs.YtobglgddbhddnaaGreat

namespace Go.Proofs.YtobglgddbhddnaaGreat
open Go.RowKit
set_option linter.unusedVariables false

theorem lock_seals {s : Int} {kv : Value} {nc : Nat → By} {va : Value} {w : World} {SL : Nat → (Nat → By) → Nat → By} {ok : Nat → (Nat → By) → Bool} {OP : Nat → (Nat → By) → Nat → By} (hl : Lock s kv nc va w SL ok OP) (xo : Option Addr) (nx cx : Nat) (tx : Nat → By)
    (hvx : Ap.Rd w (.slice xo nx cx) (nums nx tx)) (hnx : nx ≤ 1048576) :
    Calls Tryz.prog 3 #[.int .u16 s, kv, .agg (ba 12 nc), va, .slice xo nx cx] w fun r w' => r = .returned (.bool true) ∧ Chg w w' := by
  refine sseals_walk s kv nc tx va xo nx cx 0 (nums (nx + 16) (SL nx tx)) (nums nx (OP nx (SL nx tx))) w hvx (fun u c => hl.lck u _ nx tx c (Rd.chg hvx c) hnx) (fun u c => hl.lckR u _ nx tx c (Rd.chg hvx c) hnx) (fun u v c hr => hl.opn u v nx (SL nx tx) c hr hnx (hl.back nx tx).1) (.inl ⟨rfl, (hl.back nx tx).2⟩)

theorem lock_opens {s : Int} {kv : Value} {nc : Nat → By} {va : Value} {w : World} {SL : Nat → (Nat → By) → Nat → By} {ok : Nat → (Nat → By) → Bool} {OP : Nat → (Nat → By) → Nat → By} (hl : Lock s kv nc va w SL ok OP) (so : Option Addr) (na ns cs at' : Nat) (ta sf : Nat → By) (x : By) (hat : at' < 65536)
    (hva : Ap.Rd w va (nums na ta)) (hvs : Ap.Rd w (.slice so ns cs) (nums ns sf)) (hna : na ≤ 1048576) (hns : ns ≤ 1048576) :
    Calls Tryz.prog 4 #[.int .u16 s, kv, .agg (ba 12 nc), va, .slice so ns cs, .int .u16 (at' : Int), .int .u8 (x.toNat : Int)] w fun r w' => r = .returned (.bool true) ∧ Chg w w' := by
  refine sopens_walk s kv na ns cs at' nc ta sf x va so w hat hva hvs hna hns ?_
  intro v w1 c1 hv1
  obtain ⟨sf', hsf⟩ : ∃ sf', sf' = turned sf ns at' x := ⟨_, rfl⟩
  rw [← hsf] at hv1 ⊢
  clear hsf
  by_cases h16 : ns < 16
  · exact .inl ⟨103, by decide, hl.shortopn w1 v ns sf' c1 hv1 h16, fun w2 c2 => hl.shortopnR w2 v ns sf' (c1.trans c2) (Rd.chg hv1 c2) h16⟩
  · obtain ⟨m, rfl⟩ : ∃ m, ns = m + 16 := ⟨ns - 16, by omega⟩
    cases hb : ok m sf' with
    | false => exact .inl ⟨103, by decide, hl.noopn w1 v m sf' c1 hv1 (by omega) hb, fun w2 c2 => hl.noopnR w2 v m sf' (c1.trans c2) (Rd.chg hv1 c2) (by omega) hb⟩
    | true =>
      refine .inr ⟨m, OP m sf', by omega, ?_, fun w2 c2 => ?_, fun w2 v2 c2 hr2 => ?_⟩
      · refine (hl.opn w1 v m sf' c1 hv1 (by omega) hb).mono ?_
        rintro r w' ⟨v2, h1, h2, h3⟩
        exact ⟨v2, h1, h3, h2⟩
      · refine (hl.opnR w2 v m sf' (c1.trans c2) (Rd.chg hv1 c2) (by omega) hb).mono ?_
        rintro r w' ⟨v2, h1, h2, h3⟩
        exact ⟨v2, h1, h3, h2⟩
      · refine (hl.lck w2 v2 m (OP m sf') (c1.trans c2) hr2 (by omega)).mono ?_
        rintro r w' ⟨v3, h1, h2, h3⟩
        rw [hl.there m sf' hb] at h2
        exact ⟨v3, h1, h3, h2⟩

/-- What refuses. -/
structure Refuse (s : Int) (kv : Value) (nc : Nat → By) (va : Value) (e : Int) : Prop where
  ne : e ≠ 0
  lck : ∀ u v, Calls Tryz.prog 6 #[.int .u16 s, kv, .agg (ba 12 nc), va, v] u fun r w' => r = .returned (.tuple #[.slice none 0 0, .int .i64 e]) ∧ Chg u w'
  lckR : ∀ u v, Calls Tryz.prog 7 #[.int .u16 s, kv, .agg (ba 12 nc), va, v] u fun r w' => r = .returned (.tuple #[.slice none 0 0, .int .i64 e]) ∧ Chg u w'
  opn : ∀ u v, Calls Tryz.prog 8 #[.int .u16 s, kv, .agg (ba 12 nc), va, v] u fun r w' => r = .returned (.tuple #[.slice none 0 0, .int .i64 e]) ∧ Chg u w'
  opnR : ∀ u v, Calls Tryz.prog 9 #[.int .u16 s, kv, .agg (ba 12 nc), va, v] u fun r w' => r = .returned (.tuple #[.slice none 0 0, .int .i64 e]) ∧ Chg u w'
theorem nilRd {f : Nat} {vs : Array Value} {u : World} {e : Int} (h : Calls Tryz.prog f vs u fun r w' => r = .returned (.tuple #[.slice none 0 0, .int .i64 e]) ∧ Chg u w') : Calls Tryz.prog f vs u fun r w' => ∃ v, r = .returned (.tuple #[v, .int .i64 e]) ∧ Ap.Rd w' v [] ∧ Chg u w' := h.mono fun r w' ⟨h1, h2⟩ => ⟨_, h1, Ap.Rd.nil w', h2⟩
theorem refuse_seals {s : Int} {kv : Value} {nc : Nat → By} {va : Value} {e : Int} (hl : Refuse s kv nc va e) (w : World) (xo : Option Addr) (nx cx : Nat) (tx : Nat → By) (hvx : Ap.Rd w (.slice xo nx cx) (nums nx tx)) :
    Calls Tryz.prog 3 #[.int .u16 s, kv, .agg (ba 12 nc), va, .slice xo nx cx] w fun r w' => r = .returned (.bool true) ∧ Chg w w' :=
  sseals_walk s kv nc tx va xo nx cx e [] [] w hvx (fun u c => nilRd (hl.lck u _)) (fun u c => nilRd (hl.lckR u _)) (fun u v c hr => nilRd (hl.opn u v)) (.inr ⟨hl.ne, rfl, rfl⟩)
theorem refuse_opens {s : Int} {kv : Value} {nc : Nat → By} {va : Value} {e : Int} (hl : Refuse s kv nc va e) (w : World) (so : Option Addr) (na ns cs at' : Nat) (ta sf : Nat → By) (x : By) (hat : at' < 65536)
    (hva : Ap.Rd w va (nums na ta)) (hvs : Ap.Rd w (.slice so ns cs) (nums ns sf)) (hna : na ≤ 1048576) (hns : ns ≤ 1048576) :
    Calls Tryz.prog 4 #[.int .u16 s, kv, .agg (ba 12 nc), va, .slice so ns cs, .int .u16 (at' : Int), .int .u8 (x.toNat : Int)] w fun r w' => r = .returned (.bool true) ∧ Chg w w' := by
  refine sopens_walk s kv na ns cs at' nc ta sf x va so w hat hva hvs hna hns ?_
  intro v w1 c1 hv1
  exact .inl ⟨e, hl.ne, hl.opn w1 v, fun w2 c2 => hl.opnR w2 v⟩

theorem fnd65 : fndV 4865 = .iface 48 (.agg (lkG 1 ((16 : Nat) : Int))) := rfl
theorem fnd66 : fndV 4866 = .iface 48 (.agg (lkG 2 ((32 : Nat) : Int))) := rfl
/-- A lock that fits, or what refuses. -/
theorem lock_or (s : Int) (v va : Value) (L na : Nat) (key nc ta : Nat → By) (w : World) (hv : Ap.Rd w v (nums L key)) (hva : Ap.Rd w va (nums na ta)) (hna : na ≤ 1048576) :
    (∃ SL ok OP, Lock s v nc va w SL ok OP) ∨ (∃ e, Refuse s v nc va e) := by
  obtain ⟨ko, m, c, rfl, hm, -⟩ := hv.shape
  rw [nums_len] at hm
  subst hm
  by_cases h1 : s = 4865
  · subst h1
    by_cases hl : m = 16
    · subst hl
      obtain ⟨kb, ko2, c2, hsh, k1, k2, k3⟩ := Rd.bs hv (by omega)
      rw [hsh]
      obtain ⟨k, hk⟩ := Ks.there 4 (by omega) key 40
      exact .inl ⟨_, _, _, lockG 4865 1 kb ko2 c2 16 4 10 na key nc ta va w fnd65 rfl (by decide) rfl k3 rfl (.inl rfl) rfl k1 k2 hva hna k hk⟩
    · have hne : (m : Int) ≠ 16 := by omega
      have hmy : mayF 4865 m = 102 := by
        unfold mayF
        rw [show skeyLenF 4865 = 16 from rfl, if_neg (by decide), if_neg hne]
      exact .inr ⟨102, by decide, fun u v => sealG_len 4865 1 16 rfl rfl ko m c nc va v u hne, fun u v => refSeal_bad 4865 102 ko m c nc va v u hmy (by decide), fun u v => openG_len 4865 1 16 rfl rfl ko m c nc va v u hne, fun u v => refOpen_bad 4865 102 ko m c nc va v u hmy (by decide)⟩
  by_cases h2 : s = 4866
  · subst h2
    by_cases hl : m = 32
    · subst hl
      obtain ⟨kb, ko2, c2, hsh, k1, k2, k3⟩ := Rd.bs hv (by omega)
      rw [hsh]
      obtain ⟨k, hk⟩ := Ks.there 8 (by omega) key 52
      exact .inl ⟨_, _, _, lockG 4866 2 kb ko2 c2 32 8 14 na key nc ta va w fnd66 rfl (by decide) rfl k3 rfl (.inr rfl) rfl k1 k2 hva hna k hk⟩
    · have hne : (m : Int) ≠ 32 := by omega
      have hmy : mayF 4866 m = 102 := by
        unfold mayF
        rw [show skeyLenF 4866 = 32 from rfl, if_neg (by decide), if_neg hne]
      exact .inr ⟨102, by decide, fun u v => sealG_len 4866 2 32 rfl rfl ko m c nc va v u hne, fun u v => refSeal_bad 4866 102 ko m c nc va v u hmy (by decide), fun u v => openG_len 4866 2 32 rfl rfl ko m c nc va v u hne, fun u v => refOpen_bad 4866 102 ko m c nc va v u hmy (by decide)⟩
  by_cases h3 : s = 4867
  · subst h3
    by_cases hl : m = 32
    · subst hl
      obtain ⟨kb, ko2, c2, hsh, k1, k2, k3⟩ := Rd.bs hv (by omega)
      rw [hsh]
      obtain ⟨ao, ma, ca, rfl, -⟩ := hva.shape
      exact .inl ⟨_, _, _, lockC kb ko2 c2 ma ca ao key nc (nums na ta) w k3 k1 k2 hva (Cha.Bt.nums na ta) (by rw [nums_len]; omega)⟩
    · have hne : (m : Int) ≠ 32 := by omega
      have hmy : mayF 4867 m = 102 := by
        unfold mayF
        rw [show skeyLenF 4867 = 32 from rfl, if_neg (by decide), if_neg hne]
      exact .inr ⟨102, by decide, fun u v => sealC_len ko m c nc va v u hne, fun u v => refSeal_bad 4867 102 ko m c nc va v u hmy (by decide), fun u v => openC_len ko m c nc va v u hne, fun u v => refOpen_bad 4867 102 ko m c nc va v u hmy (by decide)⟩
  · have hmy : mayF s m = 101 := by
      unfold mayF
      rw [show skeyLenF s = 0 by simp [skeyLenF, h1, h2, h3], if_pos rfl]
    exact .inr ⟨101, by decide, fun u v => sealNone_any s _ nc va v u h1 h2 h3, fun u v => refSeal_bad s 101 ko m c nc va v u hmy (by decide), fun u v => openNone_any s _ nc va v u h1 h2 h3, fun u v => refOpen_bad s 101 ko m c nc va v u hmy (by decide)⟩

theorem sseals_any (s : Int) (v va vx : Value) (L na nx : Nat) (key nc ta tx : Nat → By) (w : World) (hv : Ap.Rd w v (nums L key)) (hva : Ap.Rd w va (nums na ta)) (hvx : Ap.Rd w vx (nums nx tx)) (hna : na ≤ 1048576) (hnx : nx ≤ 1048576) :
    Calls Tryz.prog 3 #[.int .u16 s, v, .agg (ba 12 nc), va, vx] w fun e w' => e = .returned (.bool true) ∧ Chg w w' := by
  obtain ⟨xo, m2, cx, rfl, hm2, -⟩ := hvx.shape
  rw [nums_len] at hm2
  subst hm2
  rcases lock_or s v va L na key nc ta w hv hva hna with ⟨SL, ok, OP, hl⟩ | ⟨e, hl⟩
  · exact lock_seals hl xo m2 cx tx hvx hnx
  · exact refuse_seals hl w xo m2 cx tx hvx
theorem sopens_int (s : Int) (v va vs : Value) (L na ns : Nat) (a b : Int) (key nc ta sf : Nat → By) (w : World) (ha : 0 ≤ a ∧ a < 65536) (hb : 0 ≤ b ∧ b < 256) (hv : Ap.Rd w v (nums L key)) (hva : Ap.Rd w va (nums na ta)) (hvs : Ap.Rd w vs (nums ns sf)) (hna : na ≤ 1048576) (hns : ns ≤ 1048576) :
    Calls Tryz.prog 4 #[.int .u16 s, v, .agg (ba 12 nc), va, vs, .int .u16 a, .int .u8 b] w fun e w' => e = .returned (.bool true) ∧ Chg w w' := by
  have e1 : a = ((a.toNat : Nat) : Int) := by omega
  have e2 : b = (((BitVec.ofNat 8 b.toNat).toNat : Nat) : Int) := by rw [BitVec.toNat_ofNat]; omega
  rw [e1, e2]
  obtain ⟨so, m2, cs, rfl, hm2, -⟩ := hvs.shape
  rw [nums_len] at hm2
  subst hm2
  rcases lock_or s v va L na key nc ta w hv hva hna with ⟨SL, ok, OP, hl⟩ | ⟨e, hl⟩
  · exact lock_opens hl so na m2 cs a.toNat ta sf _ (by omega) hva hvs hna hns
  · exact refuse_opens hl w so na m2 cs a.toNat ta sf _ (by omega) hva hvs hna hns
end Go.Proofs.YtobglgddbhddnaaGreat
