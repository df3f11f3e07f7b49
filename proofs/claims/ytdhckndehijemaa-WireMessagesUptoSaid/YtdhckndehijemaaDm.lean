/-
  The document's reader of a certificate message.
-/
import Derived.Test.YtdhckndehijemaaDl
import Derived.Test.YtdhckndehijemaaEt
namespace Go.Proofs.Ytdhckndehijemaa
open Go.RowKit
set_option linter.unusedVariables false
set_option maxRecDepth 100000

/-- A loop whose list lies in a cell. -/
structure DK (t : Ty) (κ : TypeId) (p : Pr t.Dat) (B : Nat) (ctx : Value) (w4 : World) (r : Nat) (s2 : St) (ys : List Int) (pre : List t.Dat) (va : Value) (wr : World) (sc : St) : Prop where
  chg : Chg (fun k => k = r ∨ k = B) w4 wr
  st : DS wr r sc
  lop : Lop p (inn s2 ys) pre sc
  row : ∃ cs, LR t κ w4.heap.size wr va cs pre
  le : pre.length ≤ ys.length
  lt : ∀ zs o, sc = some (zs, o) → pre.length + zs.length ≤ ys.length
  blk : wr.heap[B]? = some (.cells #[ctx, va] 44)
  own : ∀ v sh od, wr.heap[r]? = some (.cells #[v, .bool sh, .bool od] 124) → ∀ k, v.ownBlock = some k → k ≠ B
theorem DK.start {t : Ty} {κ : TypeId} {p : Pr t.Dat} {B : Nat} {ctx : Value} {w4 : World} {r : Nat} {s2 : St} {ys : List Int} (h : DS w4 r (inn s2 ys)) (hb : w4.heap[B]? = some (.cells #[ctx, .slice none 0 0] 44))
    (ho : ∀ v sh od, w4.heap[r]? = some (.cells #[v, .bool sh, .bool od] 124) → ∀ k, v.ownBlock = some k → k ≠ B) : DK t κ p B ctx w4 r s2 ys [] (.slice none 0 0) w4 (inn s2 ys) := by
  have k : DI t κ p w4 r s2 ys [] (.slice none 0 0) w4 (inn s2 ys) := DI.start h
  exact ⟨Chg.refl _ _, h, k.lop, k.row, k.le, k.lt, hb, ho⟩
theorem DK.more {t : Ty} {κ : TypeId} {p : Pr t.Dat} {B : Nat} {ctx : Value} {w4 wr w1 w2 : World} {r : Nat} {s2 sc sc' : St} {ys : List Int} {pre : List t.Dat} {va va' : Value} {us : List Value} {x : t.Dat} {cs : List (List Value)} {o : Obj} (hp : Shr p) (h : DK t κ p B ctx w4 r s2 ys pre va wr sc)
    (hne : ∃ zs o, sc = some (zs, o) ∧ zs ≠ []) (hrel : Rel t (Btw wr.heap.size w1.heap.size) w1 us x) (hchg : Chg (One r) wr w1) (k2 : Res p sc x sc') (k1 : DS w1 r sc') (hsb : SameB wr w1 r) (hl : LR t κ w4.heap.size wr va cs pre)
    (hr : w2.ownsRow w4.heap.size κ t.sz va' (pre.length + 1) (cs.flatten ++ us)) (hg : (w1.alloc o).grownBy w2 va.ownBlock) (hv : va'.ownBlock = va.ownBlock ∨ va'.ownBlock = some (w1.heap.size + 1)) (hr4 : r < w4.heap.size) (hB4 : B < w4.heap.size) (hrB : B ≠ r) :
    w2.heap[B]? = some (.cells #[ctx, va] 44) ∧ DK t κ p B ctx w4 r s2 ys (snocD pre x) va' (w2.setCell ⟨B, 1, none⟩ va') sc' ∧ (sc' = none ∨ ∃ zs' o', sc' = some (zs', o') ∧ ∀ zs o, sc = some (zs, o) → zs'.length < zs.length) := by
  obtain ⟨zs, oz, hzs, hzn⟩ := hne
  have hszr : w4.heap.size ≤ wr.heap.size := h.chg.size
  have hrow1 : LR t κ w4.heap.size w1 va cs pre := hl.keep hchg (fun k e => by have e' : k = r := e; omega)
  have hrow2 : LR t κ w4.heap.size (w1.alloc o) va cs pre := hrow1.keep (S := Non) ((Chg.refl _ _).alloc o) (fun k e => e.elim)
  have hblk := hrow2.blk
  have c2 : Chg (fun k => va.ownBlock = some k) (w1.alloc o) w2 := ⟨hg.os, hg.tape, hg.output, hg.size, fun b hb hnn => hg.block b hb (fun e => hnn e.symm)⟩
  have c12 : Chg (fun k => va.ownBlock = some k) w1 w2 := ((Chg.refl _ _).alloc o).trans c2 (fun _ _ q => q)
  have hsz1 := hchg.size
  have hB1 : w1.heap[B]? = some (.cells #[ctx, va] 44) := by rw [hchg.block B (lt_somW h.blk) (fun e => hrB e)]; exact h.blk
  have hB2 : w2.heap[B]? = some (.cells #[ctx, va] 44) := by rw [c12.block B (lt_somW hB1) (fun e => by have := (hblk B e).1; omega)]; exact hB1
  have c3 : Chg (One B) w2 (w2.setCell ⟨B, 1, none⟩ va') := chg_rest _ _ _ _
  have hP1 : w1.heap[r]? = w2.heap[r]? := (c12.block r k1.lt (fun e => by have := (hblk r e).1; omega)).symm
  have hown1 : ∀ v sh od, w1.heap[r]? = some (.cells #[v, .bool sh, .bool od] 124) → ∀ k, v.ownBlock = some k → k ≠ B := by
    intro v sh od hvv k e
    obtain ⟨v0, sh0, od0, xs0, m0, -⟩ := h.st
    rcases hsb _ _ _ _ _ _ m0.blk hvv with q | q
    · rw [q] at e
      exact h.own _ _ _ m0.blk k e
    · rw [q] at e
      cases e
  have kk1 : DS w2 r sc' := k1.keep c12 (fun k q => by have := (hblk k q).1; omega)
  have hlen' : pre.length + 1 ≤ ys.length := by
    have := h.lt zs oz hzs
    have : 0 < zs.length := List.length_pos_iff.2 hzn
    omega
  have hres := k2
  rw [hzs] at hres
  unfold Res at hres
  dsimp only at hres
  have hchg2 : Chg (fun k => k = r ∨ k = B) w4 w2 := (h.chg.trans hchg (fun _ _ q => .inl q)).trans c12 (fun i hi q => by have := (hblk i q).1; omega)
  refine ⟨hB2, ⟨?_, ?_, ?_, ?_, ?_, ?_, set_cells 1 va' hB2, ?_⟩, ?_⟩
  · exact hchg2.trans c3 (fun _ _ q => .inr q)
  · exact kk1.keepG c3 (fun e => hrB e.symm) (by rw [← hP1]; exact hown1)
  · exact h.lop.step hp (fun ys' o' e => by rw [hzs] at e; injection e with e; injection e with e _; rw [← e]; exact hzn) k2
  · have hl2 : LR t κ w4.heap.size w2 va' (cs ++ [us]) (snocD pre x) := LR.more (w := wr) (w1 := w1.alloc o) hl (Nat.le_trans hchg.size (by simp)) hrow2 ((hrel.oldN ((Chg.refl _ _).alloc o)).btw (Nat.le_refl _) (by simp)) hr hg (by
      rcases hv with hv | hv
      · exact .inl hv
      · exact .inr ⟨_, hv, by simp⟩) h.chg.size
    exact ⟨_, hl2.keep c3 (fun k e => by have e' : k = B := e; omega)⟩
  · simp [snocD]; omega
  · intro zs' o' e
    cases hq : p zs with
    | none => rw [hq] at hres; rw [hres] at e; cases e
    | some q =>
      obtain ⟨a, zs2, o2⟩ := q
      rw [hq] at hres
      dsimp only at hres
      rw [hres.2] at e
      injection e with e
      injection e with e _
      have := hp _ _ _ _ hq
      have := h.lt zs oz hzs
      rw [← e]
      simp [snocD]
      omega
  · intro v sh od hvv k e
    rw [c3.block r kk1.lt (fun q => hrB q.symm), ← hP1] at hvv
    exact hown1 v sh od hvv k e
  · cases hq : p zs with
    | none => rw [hq] at hres; exact .inl hres
    | some q =>
      obtain ⟨a, zs2, o2⟩ := q
      rw [hq] at hres
      dsimp only at hres
      refine .inr ⟨zs2, _, hres.2, fun zs' o' e => ?_⟩
      rw [hzs] at e
      injection e with e
      injection e with e _
      rw [← e]
      exact hp _ _ _ _ hq


set_option maxHeartbeats 6400000 in
theorem dgetcert_any (v : Value) (xs : List Int) (w : World) (h : Bt (Bel w.heap.size) w v xs) : Calls Try.prog 30 #[v] w fun e w' => ∃ a1 l1 c1 a2 l2 c2 al, e = .returned (.tuple #[.agg #[.slice a1 l1 c1, .slice a2 l2 c2], .int .i64 al]) ∧ GP tCert pCert ([], []) w w' xs [.slice a1 l1 c1, .slice a2 l2 c2] al := by
  obtain ⟨w0, hw0⟩ : ∃ w0, w0 = w.alloc (.cells #[.slice none 0 0, .slice none 0 0] 44) := ⟨_, rfl⟩
  have kc0 : Chg Non w w0 := by rw [hw0]; exact (Chg.refl _ _).alloc _
  have hs0 : w0.heap.size = w.heap.size + 1 := by rw [hw0]; simp
  have hB0 : w0.heap[w.heap.size]? = some (.cells #[.slice none 0 0, .slice none 0 0] 44) := by rw [hw0]; exact heap_alloc_last w _
  obtain ⟨w1, hw1⟩ : ∃ w1, w1 = w0.alloc (.cells #[v, .bool false, .bool false] 124) := ⟨_, rfl⟩
  have R1 : DS w1 w0.heap.size (some (xs, false)) := by rw [hw1]; exact DS.begin ((h.oldN kc0).bel2 kc0.size)
  have kc1 : Chg Non w0 w1 := by rw [hw1]; exact (Chg.refl _ _).alloc _
  have HW : Hid (w1 = (w.alloc (.cells #[.slice none 0 0, .slice none 0 0] 44)).alloc (.cells #[v, .bool false, .bool false] 124)) := by show _ = _; rw [hw1, hw0]
  have H0 : Hid (w0.heap.size = w.heap.size + 1 ∧ Chg Non w w0 ∧ Chg Non w0 w1 ∧ w1.heap[w.heap.size]? = some (.cells #[.slice none 0 0, .slice none 0 0] 44) ∧ w.heap.size + 1 < w1.heap.size) := ⟨hs0, kc0, kc1, by rw [kc1.block _ (by omega) (fun s => s)]; exact hB0, by rw [← hs0]; exact R1.lt⟩
  obtain ⟨ao0, N0, c0, rfl⟩ : ∃ ao n c, v = .slice ao n c := by
    obtain ⟨h1, -⟩ := h
    obtain ⟨ao, n, c, e, -⟩ := h1.shape
    exact ⟨ao, n, c, e⟩
  rw [hs0] at R1
  have HP := dlist_any (w.heap.size + 1) 1 0 255 16777216 (by decide) 1 0 255 rfl rfl rfl (lim1 (by decide)) _ w1 R1
  clear h R1 hw1 hw0 kc0 kc1 hs0 hB0
  go_enter Try.func30, Try.ntmps30
  go_wp2_with fail
  rw [← HW.out]
  refine HP.mono ?_
  rintro e b1 ⟨a1, l1, c1, x1, rfl, hk, -, -⟩
  have D1 : DP .byt (pBytes 1 0 16777216) w1 b1 (w.heap.size + 1) (some (xs, false)) [.slice a1 l1 c1] x1 := hk.dp
  obtain ⟨s1, q1, q2⟩ := D1.ps.st
  have E1 : Hid (DP .byt (pBytes 1 0 16777216) w1 b1 (w.heap.size + 1) (some (xs, false)) [.slice a1 l1 c1] x1 ∧ Res (pBytes 1 0 16777216) (some (xs, false)) x1 s1) := ⟨D1, q2⟩
  obtain ⟨B, hBe⟩ : ∃ B, B = b1.heap.size := ⟨_, rfl⟩
  have HB : Hid (B = b1.heap.size ∧ w.heap.size + 1 < B ∧ w1.heap.size ≤ B) := ⟨hBe, by have h1 := D1.ps.chg.size; have h2 := H0.out.2.2.2.2; omega, by rw [hBe]; exact D1.ps.chg.size⟩
  obtain ⟨w2, hw2⟩ : ∃ w2, w2 = b1.alloc (.cells #[.slice a1 l1 c1, .slice none 0 0] 44) := ⟨_, rfl⟩
  have c2 : Chg Non b1 w2 := by rw [hw2]; exact (Chg.refl _ _).alloc _
  have G2 : Hid (w2.heap[B]? = some (.cells #[.slice a1 l1 c1, .slice none 0 0] 44) ∧ Chg Non b1 w2) := ⟨by rw [hw2, hBe]; exact heap_alloc_last b1 _, c2⟩
  have HW2 : Hid (w2 = b1.alloc (.cells #[.slice a1 l1 c1, .slice none 0 0] 44)) := hw2
  have HS1 : Hid (DS w2 (w.heap.size + 1) s1) := q1.non c2
  have HBY : Hid (∀ zs o, s1 = some (zs, o) → Byt zs) := fun zs o e => DB.byt HS1.out e
  have hp := dpartT_any (w.heap.size + 1) 3 0 16777215 16777216 (by decide) 3 0 16777215 rfl rfl rfl (lim3 (by decide)) s1 w2 HS1.out
  clear hk D1 q1 q2 hw2 c2
  go_wp2_with fail
  rw [← HW2.out]
  refine hp.mono ?_
  rintro e w4 ⟨P, s2, body, rfl, hpt, hown, -⟩
  have HPT : Hid (PT 3 0 16777216 w2 w4 (w.heap.size + 1) P s1 s2 body) := hpt
  have HP4 : Hid (P < w4.heap.size ∧ B < P ∧ w.heap.size + 1 < B) := ⟨hpt.part.lt, Nat.lt_of_lt_of_le (lt_somW G2.out.1) hpt.new, HB.out.2.1⟩
  have hB4 : w4.heap[B]? = some (.cells #[.slice a1 l1 c1, .slice none 0 0] 44) := by rw [hpt.chg.block _ (lt_somW G2.out.1) (fun e => by have e' : B = w.heap.size + 1 := e; have := HB.out.2.1; omega)]; exact G2.out.1
  have HL : Hid (DK tEntry 146 pEntry B (.slice a1 l1 c1) w4 P (prt s2) body [] (.slice none 0 0) w4 (inn (prt s2) body)) := DK.start (by rw [inn_prt]; exact hpt.part) hB4 (fun v sh od hv k e => by have h1 := hown v sh od hv k e; have h2 := lt_somW G2.out.1; omega)
  have HST : Hid (∀ zs o, inn (prt s2) body = some (zs, o) → zs.length ≤ body.length) := fun zs o e => by have := HL.out.lt zs o e; simpa using this
  rw [← hBe]
  clear hpt hp hown hB4 hBe
  go_wp2_with fail
  go_loopg [7] body.length (fun m pv wr => ∃ pre va sc, Hid (DK tEntry 146 pEntry B (.slice a1 l1 c1) w4 P (prt s2) body pre va wr sc) ∧ Hid (∀ zs o, sc = some (zs, o) → zs.length ≤ m))
  case atStart => exact ⟨[], .slice none 0 0, inn (prt s2) body, HL.out, HST.out⟩
  case round =>
    obtain ⟨pre, va, sc, hI, hm⟩ := hrel
    obtain ⟨cs, hcs⟩ := hI.out.row
    have hmo := dmore_any P sc wr hI.out.st
    obtain ⟨M, hM⟩ : ∃ M, M = mor sc := ⟨_, rfl⟩
    rw [← hM] at hmo
    have HMo : Hid (M = mor sc) := hM
    have HCS : Hid (LR tEntry 146 w4.heap.size wr va cs pre) := hcs
    clear hM hcs
    go_wp2_with (go_at_call 121; refine hmo.mono ?_)
    rintro e w5 ⟨rfl, rfl⟩
    clear hmo
    cases M with
    | true =>
      have HNE : Hid (∃ zs' o, sc = some (zs', o) ∧ zs' ≠ []) := mor_more HMo.out.symm
      have HP := dlistS_any P 3 1 16777215 16777216 (by decide) 3 1 16777215 rfl rfl rfl (lim3 (by decide)) sc w5 hI.out.st
      obtain ⟨i0, p1, p2, p3, p4⟩ := info_parts info146
      go_wp2_with (go_at_call 119; refine HP.mono ?_)
      rintro e wA ⟨ya, yl, yc, tb, rfl, hk, -, -, hsb⟩
      obtain ⟨sA, qA1, qA2⟩ := hk.ps.st
      have HA1 : Hid (DP .byt (pBytes 3 1 16777216) w5 wA P sc [.slice ya yl yc] tb ∧ Res (pBytes 3 1 16777216) sc tb sA ∧ P < w5.heap.size ∧ SameB w5 wA P ∧ DS wA P sA) := ⟨hk.dp, qA2, hI.out.st.lt, hsb, qA1⟩
      obtain ⟨wB, hwB⟩ : ∃ wB, wB = wA.alloc (.cells #[.slice ya yl yc, .slice none 0 0] 146) := ⟨_, rfl⟩
      have cB : Chg Non wA wB := by rw [hwB]; exact (Chg.refl _ _).alloc _
      have hl := dextsS_any P sA wB (qA1.non cB)
      have HB1 : Hid (Chg Non wA wB ∧ wA.heap.size < wB.heap.size ∧ wB.heap[wA.heap.size]? = some (.cells #[.slice ya yl yc, .slice none 0 0] 146) ∧ w5.heap.size ≤ wA.heap.size) := ⟨cB, by rw [hwB]; simp, by rw [hwB]; exact heap_alloc_last wA _, hk.ps.chg.size⟩
      have HWB : Hid (wB = wA.alloc (.cells #[.slice ya yl yc, .slice none 0 0] 146)) := hwB
      clear hk qA1 qA2 HP hwB cB hsb
      go_wp2_with fail
      rw [← HWB.out]
      refine hl.mono ?_
      rintro e wC ⟨za, zl, zc, ex, rfl, hy, hsb⟩
      have hBC : wC.heap[wA.heap.size]? = some (.cells #[.slice ya yl yc, .slice none 0 0] 146) := by
        rw [hy.ps.chg.block _ (lt_somW HB1.out.2.2.1) (fun e => by have e' : wA.heap.size = P := e; have := HA1.out.2.2.1; have := HB1.out.2.2.2; omega)]; exact HB1.out.2.2.1
      have HY : Hid (DP (.lst tExt) pExts wB wC P sA [.slice za zl zc] ex ∧ SameB wB wC P) := ⟨hy, hsb⟩
      obtain ⟨BB, hBBe⟩ : ∃ BB, BB = wA.heap.size := ⟨_, rfl⟩
      have HBB2 : Hid (BB = wA.heap.size) := hBBe
      rw [← hBBe] at hBC ⊢
      obtain ⟨y0, y1⟩ := cell2 hBC
      have g0 := frozen_of_row wC BB 0 _ _ hBC
      have g1 := frozen_of_row wC BB 1 _ _ hBC
      obtain ⟨w6, hw6⟩ : ∃ w6, w6 = wC.setCell ⟨BB, 1, none⟩ (.slice za zl zc) := ⟨_, rfl⟩
      have h63 : w6.heap[BB]? = some (.cells #[.slice ya yl yc, .slice za zl zc] 146) := by rw [hw6]; exact set_two1 _ hBC
      have c6 : Chg (One BB) wC w6 := by rw [hw6]; exact chg_rest _ _ _ _
      have HW6 : Hid (w6 = wC.setCell ⟨BB, 1, none⟩ (.slice za zl zc)) := hw6
      obtain ⟨x, hxe⟩ : ∃ x : List Int × List Ext, x = (tb, ex) := ⟨_, rfl⟩
      have hPA : P < wA.heap.size := by have := HA1.out.2.2.1; have := HB1.out.2.2.2; omega
      have hx' : DP tEntry pEntry w5 w6 P sc [.slice ya yl yc, .slice za zl zc] x := by
        subst hxe
        have q1 : DP (.lst tExt) pExts wA w6 P sA [.slice za zl zc] ex := HY.out.1.past HB1.out.1 c6 (by rw [HBB2.out]; exact Nat.le_refl _) (by rw [HBB2.out]; exact HB1.out.2.1) hPA
        exact HA1.out.1.pair HA1.out.2.1 q1 HA1.out.2.2.1
      obtain ⟨sc', h6, q6⟩ := hx'.ps.st
      have hBP : BB ≠ P := by have := HBB2.out; omega
      obtain ⟨sq, j1, -⟩ := hy.ps.st
      have hS6 : SameB w5 w6 P := (((HA1.out.2.2.2.1.trans (SameB.block HA1.out.2.2.2.2 (HB1.out.1.block P HA1.out.2.2.2.2.lt (fun s => s))) HA1.out.2.2.2.2).trans HY.out.2 (HA1.out.2.2.2.2.non HB1.out.1)).trans (SameB.block j1 (c6.block P j1.lt (fun e => hBP e.symm))) j1)
      have hB6 : w6.heap[B]? = some (.cells #[.slice a1 l1 c1, va] 44) := by rw [hx'.ps.chg.block B (lt_somW hI.out.blk) (fun e => by have e' : B = P := e; have := HP4.out.2.1; omega)]; exact hI.out.blk
      have HX : Hid (DP tEntry pEntry w5 w6 P sc [.slice ya yl yc, .slice za zl zc] x ∧ Res pEntry sc x sc' ∧ DS w6 P sc' ∧ SameB w5 w6 P ∧ w6.heap[BB]? = some (.cells #[.slice ya yl yc, .slice za zl zc] 146) ∧ w6.heap[B]? = some (.cells #[.slice a1 l1 c1, va] 44)) := ⟨hx', q6, h6, hS6, h63, hB6⟩
      have hro : LR tEntry 146 w4.heap.size (w6.alloc (.cells #[.slice ya yl yc, .slice za zl zc] 146)) va cs pre := (HCS.out.keep hx'.ps.chg (fun k e => by have e' : k = P := e; have := HP4.out.1; omega)).keep (S := Non) ((Chg.refl _ _).alloc _) (fun k e => e.elim)
      have HRO' : Hid ((w6.alloc (.cells #[.slice ya yl yc, .slice za zl zc] 146)).ownsRow w4.heap.size 146 2 va pre.length cs.flatten ∧ w4.heap.size ≤ (w6.alloc (.cells #[.slice ya yl yc, .slice za zl zc] 146)).heap.size) := ⟨hro.row, by have h1 := hI.out.chg.size; have h2 := hx'.ps.chg.size; simp; omega⟩
      clear hy hsb hBC hBBe hw6 h63 c6 hl hx' h6 q6 hxe j1 hS6 hB6 hro hBP hPA
      go_upto_region 7 with fail
      rw [← HW6.out]
      clear y0 y1 g0 g1
      obtain ⟨y0, y1⟩ := cell2 HX.out.2.2.2.2.1
      obtain ⟨m0, m1⟩ := cell2 HX.out.2.2.2.2.2
      have HBB : Hid (pre.length + 1 ≤ maxLen ∧ (pre.length + 1) * 48 ≤ 140737488355328) := by
        have h1 := hI.out.le
        have h2 := HPT.out.len
        exact ⟨by unfold maxLen; omega, by omega⟩
      have HONE : Hid (∀ u ∈ ([.slice ya yl yc, .slice za zl zc] : List Value), u.oneCell' = true) := by
        intro u hu
        simp at hu
        rcases hu with rfl | rfl <;> rfl
      have HNEW : Hid (∀ j u, ([.slice ya yl yc, .slice za zl zc] : List Value)[j]? = some u → (w6.alloc (.cells #[.slice ya yl yc, .slice za zl zc] 146)).cell? ((⟨w6.heap.size, 0, none⟩ : Addr).add j) = some u) := fun j u hj => by
        rw [Addr.add_lit, cell_of_row _ w6.heap.size (0 + j) _ 146 (0, 0) (heap_alloc_last w6 _)]
        simpa using hj
      go_wp2_with (at_builtin; refine wpList_append_own_at _ rfl _ _ 42 rfl w4.heap.size 146 i0 _ 2 48 Try.underlying42 p1 p2 p3 p4 rfl (by decide) va pre.length cs.flatten rfl HRO'.out.1 ⟨w6.heap.size, 0, none⟩ 1 1 [.slice ya yl yc, .slice za zl zc] rfl rfl HNEW.out HONE.out HBB.out.1 HBB.out.2 HRO'.out.2 ?_)
      intro va' w8 hrow8 hgrow8 _ hblk8
      obtain ⟨hB8, n1, n2⟩ := DK.more pEntry_shr hI.out HNE.out HX.out.1.rel HX.out.1.ps.chg HX.out.2.1 HX.out.2.2.1 HX.out.2.2.2.1 HCS.out hrow8 hgrow8 hblk8 HP4.out.1 (by have := HP4.out; omega) (by have := HP4.out; omega)
      have N1 : Hid (DK tEntry 146 pEntry B (.slice a1 l1 c1) w4 P (prt s2) body (snocD (t := tEntry) pre x) va' (w8.setCell ⟨B, 1, none⟩ va') sc') := n1
      have HG : Hid (0 < gk ∧ ∀ zs o, sc' = some (zs, o) → zs.length ≤ gk - 1) := by
        obtain ⟨zs1, o1, hs1, hn1⟩ := HNE.out
        have h1 := hm.out zs1 o1 hs1
        have h2 : 0 < zs1.length := List.length_pos_iff.2 hn1
        refine ⟨by omega, fun zs2 o2 e => ?_⟩
        rcases n2 with n2 | ⟨zs3, o3, e3, n2⟩
        · rw [n2] at e; cases e
        · rw [e3] at e
          injection e with e
          injection e with e _
          subst e
          have := n2 zs1 o1 hs1
          omega
      clear m0 m1 y0 y1
      obtain ⟨m0, m1⟩ := cell2 hB8
      have f0 := frozen_of_row w8 B 0 _ _ hB8
      have f1 := frozen_of_row w8 B 1 _ _ hB8
      obtain ⟨g8, cap8, rfl⟩ := ownsRow_succ hrow8
      clear hrow8 hgrow8 hblk8 n1 n2 HRO' HNEW HX HBB p1 p2 p3 p4 hB8
      go_wp2
      go_roundg (gk - 1)
      case measure => have := HG.out.1; omega
      case rel => exact ⟨snocD (t := tEntry) pre x, _, sc', N1.out, HG.out.2⟩
    | false =>
      obtain ⟨a2, l2, c2, rfl⟩ : ∃ ao n c, va = .slice ao n c := by
        obtain ⟨a, b, e⟩ := ownsRow_any HCS.out.row
        exact ⟨a, _, b, e⟩
      have hwi := dwith_any (w.heap.size + 1) P (by have := HP4.out; omega) s2 sc w5 (HPT.out.st.keep hI.out.chg (fun k e => by have := HP4.out; rcases e with e | e <;> omega)) hI.out.st
      go_wp2_with (go_at_call 122; refine hwi.mono ?_)
      rintro e w6 ⟨rfl, c6, h6⟩
      have hr : Res (pList 3 0 16777216 pEntry) s1 pre (wth s2 sc) := res_part pEntry_shr (by decide) HBY.out HPT.out.res (by have := hI.out.lop; rwa [inn_prt] at this) (mor_end HMo.out.symm) (fun b l o _ => ⟨fun _ => Nat.zero_le _, fun _ => Nat.zero_le _⟩)
      have hB6 : w6.heap[B]? = some (.cells #[.slice a1 l1 c1, .slice a2 l2 c2] 44) := by rw [c6.block B (lt_somW hI.out.blk) (fun e => by have e' : B = w.heap.size + 1 := e; have := HP4.out.2.2; omega)]; exact hI.out.blk
      obtain ⟨s9, hs9⟩ : ∃ s9, s9 = wth s2 sc := ⟨_, rfl⟩
      rw [← hs9] at hr h6
      have he := dend_any (w.heap.size + 1) s9 w6 h6
      obtain ⟨A, hA⟩ : ∃ A, A = endA s9 := ⟨_, rfl⟩
      rw [← hA] at he
      have t1 : Chg (fun k => k = w.heap.size + 1 ∨ B ≤ k) b1 w6 := (((G2.out.2.wide (fun i e => e.elim)).trans HPT.out.chg (fun _ _ e => .inl e)).trans hI.out.chg (fun _ _ e => .inr (by have := HP4.out; rcases e with e | e <;> omega))).trans c6 (fun _ _ e => .inl e)
      have z1 : Rel .byt (Btw w1.heap.size w6.heap.size) w6 [.slice a1 l1 c1] x1 := (E1.out.1.rel.chg2 t1 (fun k e => by
        have h1 := H0.out.2.2.2.2
        have h2 := HB.out
        rcases e with e | e
        · exact .inl (by omega)
        · exact .inr (by omega))).btw (Nat.le_refl _) t1.size
      have z2 : Rel (.lst tEntry) (Btw w1.heap.size w6.heap.size) w6 [.slice a2 l2 c2] pre := ((HCS.out.keep c6 (fun k e => by have e' : k = w.heap.size + 1 := e; have := HP4.out; omega)).rel).btw (by have h1 := E1.out.1.ps.chg.size; have h2 := G2.out.2.size; have h3 := HPT.out.chg.size; omega) (Nat.le_refl _)
      have hch : Chg (One (w.heap.size + 1)) w1 w6 := ((((E1.out.1.ps.chg).trans G2.out.2 (fun _ _ q => q.elim)).one HPT.out.chg).trans hI.out.chg (fun i hi e => by have h1 := HP4.out; have h2 := HB.out; rcases e with e | e <;> omega)).one c6
      have HX : Hid (DP tCert pCert w1 w6 w0.heap.size (some (xs, false)) [.slice a1 l1 c1, .slice a2 l2 c2] (x1, pre) ∧ Res pCert (some (xs, false)) (x1, pre) s9 ∧ A = endA s9) := by
        have hr2 := E1.out.2.pair hr
        refine ⟨?_, hr2, hA⟩
        rw [H0.out.1]
        exact ⟨⟨[.slice a1 l1 c1], [.slice a2 l2 c2], rfl, z1, z2⟩, hch, _, h6, hr2⟩
      have hBr : w6.heap[w.heap.size]? = some (.cells #[.slice none 0 0, .slice none 0 0] 44) := by
        rw [hch.block _ (lt_somW H0.out.2.2.2.1) (fun e => by have e' : w.heap.size = w.heap.size + 1 := e; omega)]; exact H0.out.2.2.2.1
      obtain ⟨y0, y1⟩ := cell2 hBr
      have g0 := frozen_of_row _ w.heap.size 0 _ _ hBr
      have g1 := frozen_of_row _ w.heap.size 1 _ _ hBr
      obtain ⟨m0, m1⟩ := cell2 hB6
      clear hwi c6 h6 hr hB6 hs9 hA t1 z1 z2 hch hBr
      go_wp2_with (go_at_call 106; refine he.mono ?_)
      rintro e w9 ⟨rfl, rfl⟩
      clear he
      by_cases hz : A = 0
      · subst hz
        go_wp2_with fail
        refine bodyPost_ret (v := .tuple #[.agg #[.slice a1 l1 c1, .slice a2 l2 c2], .int .i64 0]) ?_ rfl ⟨a1, l1, c1, a2, l2, c2, 0, rfl, (GP.dok HX.out.1 HX.out.2.1 HX.out.2.2.symm H0.out.2.2.1 (Chg.refl _ _)).outR H0.out.2.1 (by rw [H0.out.1]; omega) (chg_two _ _ _ _)⟩
        simp [results, Try.results30, go_sem, y0, y1]
      · have d1 : (A != 0) = true := by simpa using hz
        have HZ : Hid (A ≠ 0) := hz
        clear hz
        go_wp2_with fail
        refine bodyPost_ret (v := .tuple #[.agg #[.slice none 0 0, .slice none 0 0], .int .i64 A]) ?_ rfl ⟨none, 0, 0, none, 0, 0, A, rfl, (GP.dbad HX.out.1 HX.out.2.1 HX.out.2.2 HZ.out H0.out.2.2.1 (Chg.refl _ _) (⟨[_], [_], rfl, Rel.nilB _ _, Rel.nil _ _ _⟩)).outR H0.out.2.1 (by rw [H0.out.1]; omega) (chg_two _ _ _ _)⟩
        simp [results, Try.results30, go_sem, y0, y1]
end Go.Proofs.Ytdhckndehijemaa
