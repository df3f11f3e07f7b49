/-
  The document's comparisons of tickets and of certificates: what holds the same is told to be the same.
-/
import Derived.Test.YtdhckndehijemaaMj23
import Derived.Test.YtdhckndehijemaaMj42
namespace Go.Proofs.Ytdhckndehijemaa
open Go.RowKit
set_option linter.unusedVariables false
set_option maxRecDepth 100000

theorem Rel.num_eq {k : IntKind} {F G : Nat → Prop} {w : World} {n m : Int} {x : Int} (h : Rel (.num k) F w [.int k n] (show (Ty.num k).Dat from x)) (g : Rel (.num k) G w [.int k m] (show (Ty.num k).Dat from x)) : n = m := by
  obtain ⟨h1, -⟩ : ([Value.int k n] = [Value.int k x]) ∧ InK k x := h
  obtain ⟨g1, -⟩ : ([Value.int k m] = [Value.int k x]) ∧ InK k x := g
  injection h1 with h1
  injection h1 with _ h1
  injection g1 with g1
  injection g1 with _ g1
  rw [h1, g1]
theorem Rel.conv {F : Nat → Prop} {w u : World} {v : Value} {x : List Int} (h : Rel .byt F w [v] x) (c : Chg Non w u) : (convert 23 9 v).run Try.prog u = .ok (.string (strOfNums x)) u := by
  obtain ⟨v', e, m, -⟩ := h.oldN c
  injection e with e
  subst e
  exact run_str u _ _ m

set_option maxHeartbeats 3200000 in
theorem sameTicket_any (F G : Nat → Prop) (nA nB mA mB : Int) (a3 : Option Addr) (l3 c3 : Nat) (a4 : Option Addr) (l4 c4 : Nat) (a5 : Option Addr) (l5 c5 : Nat) (b3 : Option Addr) (p3 d3 : Nat) (b4 : Option Addr) (p4 d4 : Nat) (b5 : Option Addr) (p5 d5 : Nat) (x : tTick.Dat) (w : World)
    (h : Rel tTick F w [.int .u32 nA, .int .u32 nB, .slice a3 l3 c3, .slice a4 l4 c4, .slice a5 l5 c5] x) (g : Rel tTick G w [.int .u32 mA, .int .u32 mB, .slice b3 p3 d3, .slice b4 p4 d4, .slice b5 p5 d5] x) :
    Calls Try.prog 38 #[.agg #[.int .u32 nA, .int .u32 nB, .slice a3 l3 c3, .slice a4 l4 c4, .slice a5 l5 c5], .agg #[.int .u32 mA, .int .u32 mB, .slice b3 p3 d3, .slice b4 p4 d4, .slice b5 p5 d5]] w fun e w' => e = .returned (.bool true) ∧ Chg Non w w' := by
  obtain ⟨h1, h'⟩ := Rel.split (us1 := [.int .u32 nA]) (us2 := [.int .u32 nB, .slice a3 l3 c3, .slice a4 l4 c4, .slice a5 l5 c5]) h rfl
  obtain ⟨h2, h'⟩ := Rel.split (us1 := [.int .u32 nB]) (us2 := [.slice a3 l3 c3, .slice a4 l4 c4, .slice a5 l5 c5]) h' rfl
  obtain ⟨h3, h'⟩ := Rel.split (us1 := [.slice a3 l3 c3]) (us2 := [.slice a4 l4 c4, .slice a5 l5 c5]) h' rfl
  obtain ⟨h4, h5⟩ := Rel.split (us1 := [.slice a4 l4 c4]) (us2 := [.slice a5 l5 c5]) h' rfl
  obtain ⟨g1, g'⟩ := Rel.split (us1 := [.int .u32 mA]) (us2 := [.int .u32 mB, .slice b3 p3 d3, .slice b4 p4 d4, .slice b5 p5 d5]) g rfl
  obtain ⟨g2, g'⟩ := Rel.split (us1 := [.int .u32 mB]) (us2 := [.slice b3 p3 d3, .slice b4 p4 d4, .slice b5 p5 d5]) g' rfl
  obtain ⟨g3, g'⟩ := Rel.split (us1 := [.slice b3 p3 d3]) (us2 := [.slice b4 p4 d4, .slice b5 p5 d5]) g' rfl
  obtain ⟨g4, g5⟩ := Rel.split (us1 := [.slice b4 p4 d4]) (us2 := [.slice b5 p5 d5]) g' rfl
  obtain rfl : nA = mA := h1.num_eq g1
  obtain rfl : nB = mB := h2.num_eq g2
  obtain ⟨W, hW⟩ : ∃ W, W = (w.alloc (.cells #[.int .u32 nA, .int .u32 nB, .slice a3 l3 c3, .slice a4 l4 c4, .slice a5 l5 c5] 47)).alloc (.cells #[.int .u32 nA, .int .u32 nB, .slice b3 p3 d3, .slice b4 p4 d4, .slice b5 p5 d5] 47) := ⟨_, rfl⟩
  have cW : Chg Non w W := by rw [hW]; exact ((Chg.refl _ _).alloc _).alloc _
  have CW : Hid (Chg Non w W) := cW
  have v1 := h3.conv cW
  have v2 := g3.conv cW
  have v3 := h4.conv cW
  have v4 := g4.conv cW
  have hs := sameExts_any F G _ _ _ W (h5.oldN cW) (g5.oldN cW)
  have HW : Hid (W = (w.alloc (.cells #[.int .u32 nA, .int .u32 nB, .slice a3 l3 c3, .slice a4 l4 c4, .slice a5 l5 c5] 47)).alloc (.cells #[.int .u32 nA, .int .u32 nB, .slice b3 p3 d3, .slice b4 p4 d4, .slice b5 p5 d5] 47)) := hW
  obtain ⟨S3, hS3⟩ : ∃ S, S = strOfNums x.2.2.1 := ⟨_, rfl⟩
  obtain ⟨S4, hS4⟩ : ∃ S, S = strOfNums x.2.2.2.1 := ⟨_, rfl⟩
  rw [← hS3] at v1 v2
  rw [← hS4] at v3 v4
  rw [hW] at v1 v2 v3 v4 hs
  clear h g h1 h2 h3 h4 h5 h' g1 g2 g3 g4 g5 g' hS3 hS4 hW cW
  go_enter Try.func38, Try.ntmps38
  go_wp2_with (go_at_call 28; refine hs.mono ?_)
  rintro e w2 ⟨rfl, hc⟩
  rw [← HW.out] at hc
  have HC : Hid (Chg Non W w2) := hc
  clear hc hs v1 v2 v3 v4
  go_wp2
  go_ret
  exact ⟨rfl, CW.out.two HC.out⟩

set_option maxHeartbeats 3200000 in
theorem sameCert_any (F G : Nat → Prop) (a1 : Option Addr) (l1 c1 : Nat) (a2 : Option Addr) (l2 c2 : Nat) (b1 : Option Addr) (p1 d1 : Nat) (b2 : Option Addr) (p2 d2 : Nat) (x : tCert.Dat) (w : World)
    (h : Rel tCert F w [.slice a1 l1 c1, .slice a2 l2 c2] x) (g : Rel tCert G w [.slice b1 p1 d1, .slice b2 p2 d2] x) :
    Calls Try.prog 31 #[.agg #[.slice a1 l1 c1, .slice a2 l2 c2], .agg #[.slice b1 p1 d1, .slice b2 p2 d2]] w fun e w' => e = .returned (.bool true) ∧ Chg Non w w' := by
  obtain ⟨h1, h2⟩ := Rel.split (us1 := [.slice a1 l1 c1]) (us2 := [.slice a2 l2 c2]) h rfl
  obtain ⟨g1, g2⟩ := Rel.split (us1 := [.slice b1 p1 d1]) (us2 := [.slice b2 p2 d2]) g rfl
  obtain ⟨l, hl⟩ : ∃ l : List (List Int × List Ext), l = x.2 := ⟨_, rfl⟩
  have h2' : Rel (.lst tEntry) F w [.slice a2 l2 c2] l := by rw [hl]; exact h2
  have g2' : Rel (.lst tEntry) G w [.slice b2 p2 d2] l := by rw [hl]; exact g2
  obtain ⟨ao, N, c, e, m1⟩ := h2'.lies (by decide)
  injection e with e1 e2 e3
  subst e1; subst e2; subst e3
  obtain ⟨bo, N', d, e, m2⟩ := g2'.lies (by decide)
  injection e with e1 e2 e3
  subst e1; subst e2; subst e3
  obtain rfl : l2 = p2 := m1.len.trans m2.len.symm
  have HN : Hid (l2 = l.length ∧ l2 ≤ 9223372036854775807) := ⟨m1.len, m1.max⟩
  have HA : Hid (∀ (j : Nat) (a : List Int × List Ext), l[j]? = some a → ∃ b o us', a2 = some ⟨b, o, none⟩ ∧ Rel tEntry F w us' a ∧ ∀ i u, us'[i]? = some u → w.cell? ⟨b, o + j * 2 + i, none⟩ = some u) := m1.els
  have HB : Hid (∀ (j : Nat) (a : List Int × List Ext), l[j]? = some a → ∃ b o us', b2 = some ⟨b, o, none⟩ ∧ Rel tEntry G w us' a ∧ ∀ i u, us'[i]? = some u → w.cell? ⟨b, o + j * 2 + i, none⟩ = some u) := m2.els
  obtain ⟨W, hW⟩ : ∃ W, W = (w.alloc (.cells #[.slice a1 l1 c1, .slice a2 l2 c2] 44)).alloc (.cells #[.slice b1 p1 d1, .slice b2 l2 d2] 44) := ⟨_, rfl⟩
  have cW : Chg Non w W := by rw [hW]; exact ((Chg.refl _ _).alloc _).alloc _
  have CW : Hid (Chg Non w W) := cW
  have HBX : Hid (∀ u, Chg Non W u → u.cell? ⟨w.heap.size, 1, none⟩ = some (.slice a2 l2 c2) ∧ u.cell? ⟨w.heap.size + 1, 1, none⟩ = some (.slice b2 l2 d2)) := fun u hu => by
    have q1 : W.cell? ⟨w.heap.size, 1, none⟩ = some (.slice a2 l2 c2) := by rw [hW]; simp [go_sem]
    have q2 : W.cell? ⟨w.heap.size + 1, 1, none⟩ = some (.slice b2 l2 d2) := by rw [hW]; simp [go_sem]
    exact ⟨cell_kept q1 hu, cell_kept q2 hu⟩
  have v1 := h1.conv cW
  have v2 := g1.conv cW
  have HW : Hid (W = (w.alloc (.cells #[.slice a1 l1 c1, .slice a2 l2 c2] 44)).alloc (.cells #[.slice b1 p1 d1, .slice b2 l2 d2] 44)) := hW
  obtain ⟨S1, hS1⟩ : ∃ S, S = strOfNums x.1 := ⟨_, rfl⟩
  rw [← hS1] at v1 v2
  rw [hW] at v1 v2
  clear h g h1 h2 g1 g2 h2' g2' hS1 hW cW m1 m2 hl
  go_enter Try.func31, Try.ntmps31
  go_wp2_with fail
  rw [← HW.out]
  clear v1 v2
  go_loopw [5] (fun i wr => ∃ k : Nat, k ≤ l2 ∧ i = .int .i64 k ∧ Hid (Chg Non W wr)) (fun i _ => l2 - (intOf i).toNat)
  case atStart => exact ⟨0, Nat.zero_le _, rfl, Chg.refl _ _⟩
  case round =>
    obtain ⟨k, hk, rfl, hc⟩ := hrel
    obtain ⟨x1, x2⟩ := HBX.out wr hc.out
    by_cases hlt : k < l2
    · obtain ⟨y, hy⟩ : ∃ y, l[k]? = some y := ⟨l[k]'(by rw [← HN.out.1]; exact hlt), List.getElem?_eq_getElem _⟩
      obtain ⟨q1, o1, us1, rfl, r1, r2⟩ := HA.out k y hy
      obtain ⟨q2, o2, us2, rfl, s1, s2⟩ := HB.out k y hy
      obtain ⟨ta, tl, tc, ua, ul, uc, rfl⟩ := r1.entry
      obtain ⟨ra, rl, rc, sa, sl, sc, rfl⟩ := s1.entry
      obtain ⟨t1, t2⟩ := Rel.split (us1 := [.slice ta tl tc]) (us2 := [.slice ua ul uc]) r1 rfl
      obtain ⟨t3, t4⟩ := Rel.split (us1 := [.slice ra rl rc]) (us2 := [.slice sa sl sc]) s1 rfl
      have cc : Chg Non w wr := CW.out.two hc.out
      have hse := fun u (hu : Chg Non wr u) => sameExts_any F G (.slice ua ul uc) (.slice sa sl sc) y.2 u (t2.oldN (cc.two hu)) (t4.oldN (cc.two hu))
      have y1 : w.cell? ⟨q1, o1 + k * 2, none⟩ = some (.slice ta tl tc) := r2 0 _ rfl
      have y2 : w.cell? ⟨q2, o2 + k * 2, none⟩ = some (.slice ra rl rc) := s2 0 _ rfl
      have y3 : w.cell? ⟨q1, o1 + k * 2 + 1, none⟩ = some (.slice ua ul uc) := r2 1 _ rfl
      have y4 : w.cell? ⟨q2, o2 + k * 2 + 1, none⟩ = some (.slice sa sl sc) := s2 1 _ rfl
      have HV : Hid (∀ u, Chg Non wr u → (convert 23 9 (.slice ta tl tc)).run Try.prog u = .ok (.string (strOfNums y.1)) u ∧ (convert 23 9 (.slice ra rl rc)).run Try.prog u = .ok (.string (strOfNums y.1)) u) := fun u hu => ⟨t1.conv (cc.two hu), t3.conv (cc.two hu)⟩
      obtain ⟨S, hS⟩ : ∃ S, S = strOfNums y.1 := ⟨_, rfl⟩
      rw [← hS] at HV
      have HS6 : Hid (∀ u, Chg Non wr u → u.cell? ⟨w.heap.size, 1, none⟩ = some (.slice (some ⟨q1, o1, none⟩) l2 c2) ∧ u.cell? ⟨w.heap.size + 1, 1, none⟩ = some (.slice (some ⟨q2, o2, none⟩) l2 d2) ∧ u.cell? ⟨q1, o1 + k * 2 + 1, none⟩ = some (.slice ua ul uc) ∧ u.cell? ⟨q2, o2 + k * 2 + 1, none⟩ = some (.slice sa sl sc)) := fun u hu => ⟨(HBX.out u (hc.out.two hu)).1, (HBX.out u (hc.out.two hu)).2, cell_kept y3 (cc.two hu), cell_kept y4 (cc.two hu)⟩
      have HS7 : Hid (∀ u, Chg Non wr u → u.cell? ⟨w.heap.size, 1, none⟩ = some (.slice (some ⟨q1, o1, none⟩) l2 c2) ∧ u.cell? ⟨w.heap.size + 1, 1, none⟩ = some (.slice (some ⟨q2, o2, none⟩) l2 d2) ∧ u.cell? ⟨q1, o1 + k * 2, none⟩ = some (.slice ta tl tc) ∧ u.cell? ⟨q2, o2 + k * 2, none⟩ = some (.slice ra rl rc) ∧ (convert 23 9 (.slice ta tl tc)).run Try.prog u = .ok (.string S) u ∧ (convert 23 9 (.slice ra rl rc)).run Try.prog u = .ok (.string S) u) := fun u hu => ⟨(HBX.out u (hc.out.two hu)).1, (HBX.out u (hc.out.two hu)).2, cell_kept y1 (cc.two hu), cell_kept y2 (cc.two hu), (HV.out u hu).1, (HV.out u hu).2⟩
      have HL : Hid (k + 1 ≤ l2) := hlt
      have hk1 : k + 1 ≤ 9223372036854775807 := by have := HN.out.2; omega
      clear y1 y2 y3 y4 r1 r2 s1 s2 t1 t2 t3 t4 hS hy cc
      go_wp2_with fail
      go_region_held3 (fun u => u.cell? ⟨w.heap.size, 1, none⟩ = some (.slice (some ⟨q1, o1, none⟩) l2 c2) ∧ u.cell? ⟨w.heap.size + 1, 1, none⟩ = some (.slice (some ⟨q2, o2, none⟩) l2 d2) ∧ u.cell? ⟨q1, o1 + k * 2 + 1, none⟩ = some (.slice ua ul uc) ∧ u.cell? ⟨q2, o2 + k * 2 + 1, none⟩ = some (.slice sa sl sc)) (first | exact HS6.out _ (Chg.refl _ _).drew | exact hS6) ((go_at_call 28; refine (hse _ ((Chg.refl Non wr).drew)).mono ?_; rintro e w6 ⟨rfl, hc6⟩; have hu6 : Chg Non wr w6 := ((Chg.refl Non wr).drew).two hc6; have hS6 := HS6.out _ hu6))
      have HU : Hid (Chg Non wr w6) := hu6
      clear hse hc6 hS6 hu6 x1 x2
      go_wp2_with fail
      go_region_held3 (fun u => u.cell? ⟨w.heap.size, 1, none⟩ = some (.slice (some ⟨q1, o1, none⟩) l2 c2) ∧ u.cell? ⟨w.heap.size + 1, 1, none⟩ = some (.slice (some ⟨q2, o2, none⟩) l2 d2) ∧ u.cell? ⟨q1, o1 + k * 2, none⟩ = some (.slice ta tl tc) ∧ u.cell? ⟨q2, o2 + k * 2, none⟩ = some (.slice ra rl rc) ∧ (convert 23 9 (.slice ta tl tc)).run Try.prog u = .ok (.string S) u ∧ (convert 23 9 (.slice ra rl rc)).run Try.prog u = .ok (.string S) u) (exact HS7.out _ (HU.out.drew)) (fail)
      go_wp2
      go_roundw
      case rel => exact ⟨k + 1, HL.out, by go_num, (hc.out.two HU.out).drewN _⟩
      case measure => simp [intOf]; omega
    · go_wp2
      go_ret
      exact ⟨rfl, CW.out.two hc.out⟩
end Go.Proofs.Ytdhckndehijemaa
