/-
  The document's extensions: a list, and what stands twice.
-/
import Derived.Test.YtdhckndehijemaaMj30
import Derived.Test.YtdhckndehijemaaMj08
import Derived.Test.YtdhckndehijemaaMj14
import Derived.Test.YtdhckndehijemaaDj
namespace Go.Proofs.Ytdhckndehijemaa
open Go.RowKit
set_option linter.unusedVariables false
set_option maxRecDepth 100000

def odr (b : Bool) (s : St) : St := s.map fun q => (q.1, q.2 || b)
theorem odr_false (s : St) : odr false s = s := by cases s <;> simp [odr]
theorem odr_odr (a b : Bool) (s : St) : odr a (odr b s) = odr (b || a) s := by cases s <;> simp [odr, Bool.or_assoc]
theorem odr_some {b : Bool} {s : St} {zs : List Int} {o : Bool} (h : odr b s = some (zs, o)) : ∃ o', s = some (zs, o') := by
  cases s with
  | none => cases h
  | some q =>
    obtain ⟨ys, o1⟩ := q
    unfold odr at h
    dsimp only [Option.map] at h
    injection h with h
    injection h with h1 _
    exact ⟨o1, by rw [h1]⟩
theorem mor_odr (b : Bool) (s : St) : mor (odr b s) = mor s := by cases s <;> rfl
theorem wth_odr (b : Bool) (s t : St) : wth s (odr b t) = odr b (wth s t) := by
  cases s <;> cases t <;> simp [odr, wth, Bool.or_assoc]
theorem Res.odr {α : Type} {p : Pr α} {D : Bool} {s s' : St} {x : α} (h : Res p (odr D s) x s') : ∃ t, s' = Go.Proofs.Ytdhckndehijemaa.odr D t ∧ Res p s x t := by
  cases s with
  | none => exact ⟨Option.none, h, rfl⟩
  | some q =>
    obtain ⟨xs, o⟩ := q
    unfold Res Go.Proofs.Ytdhckndehijemaa.odr at h
    dsimp only [Option.map] at h
    unfold Res
    dsimp only
    cases hp : p xs with
    | none => rw [hp] at h; exact ⟨Option.none, by rw [h]; rfl, rfl⟩
    | some z =>
      obtain ⟨a, ys, o1⟩ := z
      rw [hp] at h
      dsimp only at h ⊢
      obtain ⟨h1, h2⟩ := h
      refine ⟨Option.some (ys, o || o1), ?_, h1, rfl⟩
      rw [h2]
      unfold Go.Proofs.Ytdhckndehijemaa.odr
      dsimp only [Option.map]
      rw [Bool.or_right_comm]
theorem DB.odr {s : St} {xs : List Int} {sh od : Bool} (h : DB s xs sh od) (b : Bool) : DB (Go.Proofs.Ytdhckndehijemaa.odr b s) xs sh (od || b) := by
  rcases h with ⟨rfl, rfl⟩ | ⟨rfl, rfl⟩
  · exact .inl ⟨rfl, rfl⟩
  · exact .inr ⟨rfl, rfl⟩
theorem Res.oddIf {α : Type} {p : Pr α} {c : α → Bool} {s s1 : St} {x : α} (h : Res p s x s1) : Res (pOddIf p c) s x (Go.Proofs.Ytdhckndehijemaa.odr (c x) s1) := h.bind ((Res.odd _ _).bind (Res.ret _ _))

/-- A loop that also finds what stands twice. -/
structure DJ (t : Ty) (κ : TypeId) (p : Pr t.Dat) (c : List t.Dat → Bool) (w4 : World) (r : Nat) (s2 : St) (ys : List Int) (pre : List t.Dat) (va : Value) (wr : World) (sc : St) : Prop where
  chg : Chg (One r) w4 wr
  st : DS wr r (odr (c pre) sc)
  lop : Lop p (inn s2 ys) pre sc
  row : ∃ cs, LR t κ w4.heap.size wr va cs pre
  le : pre.length ≤ ys.length
  lt : ∀ zs o, sc = some (zs, o) → pre.length + zs.length ≤ ys.length
theorem DJ.start {t : Ty} {κ : TypeId} {p : Pr t.Dat} {c : List t.Dat → Bool} {w4 : World} {r : Nat} {s2 : St} {ys : List Int} (hc : c [] = false) (h : DS w4 r (inn s2 ys)) : DJ t κ p c w4 r s2 ys [] (.slice none 0 0) w4 (inn s2 ys) := by
  have k : DI t κ p w4 r s2 ys [] (.slice none 0 0) w4 (inn s2 ys) := DI.start h
  exact ⟨k.chg, by rw [hc, odr_false]; exact h, k.lop, k.row, k.le, k.lt⟩
theorem DJ.more {t : Ty} {κ : TypeId} {p : Pr t.Dat} {c : List t.Dat → Bool} {w4 wr w1 w2 : World} {r : Nat} {s2 sc sc' : St} {ys : List Int} {pre : List t.Dat} {va va' : Value} {us : List Value} {x : t.Dat} {cs : List (List Value)} {o : Obj} (hp : Shr p) (h : DJ t κ p c w4 r s2 ys pre va wr sc)
    (hne : ∃ zs o, sc = some (zs, o) ∧ zs ≠ []) (hrel : Rel t (Btw wr.heap.size w1.heap.size) w1 us x) (hchg : Chg (One r) wr w1) (k2 : Res p sc x sc') (k1 : DS w1 r (odr (c (snocD pre x)) sc')) (hl : LR t κ w4.heap.size wr va cs pre)
    (hr : w2.ownsRow w4.heap.size κ t.sz va' (pre.length + 1) (cs.flatten ++ us)) (hg : (w1.alloc o).grownBy w2 va.ownBlock) (hv : va'.ownBlock = va.ownBlock ∨ va'.ownBlock = some (w1.heap.size + 1)) (hr4 : r < w4.heap.size) :
    DJ t κ p c w4 r s2 ys (snocD pre x) va' w2 sc' ∧ (sc' = none ∨ ∃ zs' o', sc' = some (zs', o') ∧ ∀ zs o, sc = some (zs, o) → zs'.length < zs.length) := by
  obtain ⟨zs, oz, hzs, hzn⟩ := hne
  have hszr : w4.heap.size ≤ wr.heap.size := h.chg.size
  have hrow1 : LR t κ w4.heap.size w1 va cs pre := hl.keep hchg (fun k e => by have e' : k = r := e; omega)
  have hrow2 : LR t κ w4.heap.size (w1.alloc o) va cs pre := hrow1.keep (S := Non) ((Chg.refl _ _).alloc o) (fun k e => e.elim)
  have hblk := hrow2.blk
  have c2 : Chg (fun k => va.ownBlock = some k) (w1.alloc o) w2 := ⟨hg.os, hg.tape, hg.output, hg.size, fun b hb hnn => hg.block b hb (fun e => hnn e.symm)⟩
  have c12 : Chg (fun k => va.ownBlock = some k) w1 w2 := ((Chg.refl _ _).alloc o).trans c2 (fun _ _ q => q)
  have hlen' : pre.length + 1 ≤ ys.length := by
    have := h.lt zs oz hzs
    have : 0 < zs.length := List.length_pos_iff.2 hzn
    omega
  have hres := k2
  rw [hzs] at hres
  unfold Res at hres
  dsimp only at hres
  refine ⟨⟨?_, ?_, ?_, ?_, ?_, ?_⟩, ?_⟩
  · exact (h.chg.one hchg).trans c12 (fun i hi q => by have := (hblk i q).1; omega)
  · exact k1.keep c12 (fun k q => by have := (hblk k q).1; omega)
  · exact h.lop.step hp (fun ys' o' e => by rw [hzs] at e; injection e with e; injection e with e _; rw [← e]; exact hzn) k2
  · refine ⟨cs ++ [us], LR.more (w := wr) (w1 := w1.alloc o) hl ?_ hrow2 ?_ hr hg ?_ h.chg.size⟩
    · exact Nat.le_trans hchg.size (by simp)
    · exact (hrel.oldN ((Chg.refl _ _).alloc o)).btw (Nat.le_refl _) (by simp)
    · rcases hv with hv | hv
      · exact .inl hv
      · exact .inr ⟨_, hv, by simp⟩
  · simp [snocD]; omega
  · intro zs' o' e
    cases hq : p zs with
    | none => rw [hq] at hres; rw [hres] at e; cases e
    | some q =>
      obtain ⟨a, zs2, o2⟩ := q
      rw [hq] at hres
      dsimp only at hres
      rw [hres.2] at e
      injection e with e
      injection e with e _
      have := hp _ _ _ _ hq
      have := h.lt zs oz hzs
      rw [← e]
      simp [snocD]
      omega
  · cases hq : p zs with
    | none => rw [hq] at hres; exact .inl hres
    | some q =>
      obtain ⟨a, zs2, o2⟩ := q
      rw [hq] at hres
      dsimp only at hres
      refine .inr ⟨zs2, _, hres.2, fun zs' o' e => ?_⟩
      rw [hzs] at e
      injection e with e
      injection e with e _
      rw [← e]
      exact hp _ _ _ _ hq
theorem DJ.row2 {t : Ty} {κ : TypeId} {p : Pr t.Dat} {c : List t.Dat → Bool} {w4 wr w1 : World} {r : Nat} {s2 sc : St} {ys : List Int} {pre : List t.Dat} {va : Value} {cs : List (List Value)} (o : Obj) (h : DJ t κ p c w4 r s2 ys pre va wr sc)
    (hx : Chg (One r) wr w1) (hl : LR t κ w4.heap.size wr va cs pre) (hr4 : r < w4.heap.size) : (w1.alloc o).ownsRow w4.heap.size κ t.sz va pre.length cs.flatten ∧ w4.heap.size ≤ (w1.alloc o).heap.size := by
  refine ⟨((hl.keep hx (fun k e => by have e' : k = r := e; omega)).keep (S := Non) ((Chg.refl _ _).alloc o) (fun k e => e.elim)).row, ?_⟩
  have := h.chg.size
  have := hx.size
  simp
  omega
theorem dj_fin {t : Ty} {κ : TypeId} {q : Pr t.Dat} {c : List t.Dat → Bool} (hq : Shr q) {n least least' R P : Nat} (hn : n ≤ 3) {w1 w4 wr w6 : World} {s s1 sc : St} {body : List Int} {pre : List t.Dat} {va : Value} (hb : ∀ xs o, s = some (xs, o) → Byt xs) (hR : R < w1.heap.size)
    (hp : PT n least 16777216 w1 w4 R P s s1 body) (h : DJ t κ q c w4 P (prt s1) body pre va wr sc) (hend : mor sc = false) (c6 : Chg (One R) wr w6) (h6 : DS w6 R (wth s1 (odr (c pre) sc)))
    (hc : ∀ b l o, many q b = some (l, o) → (least ≤ b.length ↔ least' ≤ l.length)) : DP (.lst t) (pOddIf (pList n least' 16777216 q) c) w1 w6 R s [va] pre := by
  obtain ⟨cs, hcs⟩ := h.row
  have h4 := hp.chg.size
  have hr := res_part hq hn hb hp.res (by have := h.lop; rwa [inn_prt] at this) (mor_end hend) hc
  refine ⟨((hcs.keep c6 (fun k e => by have e' : k = R := e; omega)).rel).btw h4 (Nat.le_refl _), ⟨?_, _, h6, ?_⟩⟩
  · exact (hp.chg.trans h.chg (fun i hi e => by have e' : i = P := e; have := hp.new; omega)).one c6
  · rw [wth_odr]
    exact hr.oddIf
theorem tys_at {l : List Ext} {k : Nat} {z : Ext} (h : l[k]? = some z) : (tys l)[k]? = some z.1 := by simp [tys, h]
theorem tys_snoc (pre : List Ext) (x : Ext) : tys (snocD (t := tExt) pre x) = tys pre ++ [x.1] := by
  show List.map (fun q : Ext => q.1) (List.append pre [x]) = List.map (fun q : Ext => q.1) pre ++ [x.1]
  have : List.append pre [x] = pre ++ [x] := rfl
  rw [this, List.map_append]
  rfl
theorem take_has {l : List Int} {k : Nat} {a t : Int} (h : l[k]? = some a) : (l.take (k + 1)).contains t = ((l.take k).contains t || a == t) := by
  rw [take_snoc h, List.contains_eq_any_beq, List.contains_eq_any_beq, List.any_append]
  simp [BEq.comm]


set_option maxHeartbeats 6400000 in
theorem dexts_any (r : Nat) (s : St) (w : World) (h : DS w r s) : Calls Try.prog 116 #[.pointer (some ⟨r, 0, none⟩)] w fun e w' => ∃ ao L c x, e = .returned (.slice ao L c) ∧ DP (.lst tExt) pExts w w' r s [.slice ao L c] x := by
  have HB : Hid (∀ zs o, s = some (zs, o) → Byt zs) := fun zs o e => DB.byt h e
  have HLT : Hid (r < w.heap.size) := h.lt
  have hp := dpart_any r 2 0 65535 16777216 (by decide) 2 0 65535 rfl rfl rfl (lim2 (by decide)) s w h
  clear h
  go_enter Try.func116, Try.ntmps116
  go_wp2_with (go_at_call 120; refine hp.mono ?_)
  rintro e w4 ⟨P, s1, body, rfl, hpt⟩
  have HPT : Hid (PT 2 0 16777216 w w4 r P s s1 body) := hpt
  have HL : Hid (DJ tExt 135 pExt (fun l : List Ext => dup (tys l)) w4 P (prt s1) body [] (.slice none 0 0) w4 (inn (prt s1) body)) := DJ.start (by decide) (by rw [inn_prt]; exact hpt.part)
  have HP4 : Hid (P < w4.heap.size ∧ r < P) := ⟨hpt.part.lt, Nat.lt_of_lt_of_le HLT.out hpt.new⟩
  have HST : Hid (∀ zs o, inn (prt s1) body = some (zs, o) → zs.length ≤ body.length) := fun zs o e => by have := HL.out.lt zs o e; simpa using this
  clear hpt hp
  go_wp2_with fail
  go_loopg [4] body.length (fun m va wr => ∃ pre sc, Hid (DJ tExt 135 pExt (fun l : List Ext => dup (tys l)) w4 P (prt s1) body pre va wr sc) ∧ Hid (∀ zs o, sc = some (zs, o) → zs.length ≤ m))
  case atStart => exact ⟨[], inn (prt s1) body, HL.out, HST.out⟩
  case round =>
    obtain ⟨pre, sc, hI, hm⟩ := hrel
    obtain ⟨cs, hcs⟩ := hI.out.row
    obtain ⟨D, hD⟩ : ∃ D, D = dup (tys pre) := ⟨_, rfl⟩
    have hds : DS wr P (odr D sc) := by rw [hD]; exact hI.out.st
    have HD : Hid (D = dup (tys pre)) := hD
    have hmo := dmore_any P (odr D sc) wr hds
    rw [mor_odr] at hmo
    obtain ⟨M, hM⟩ : ∃ M, M = mor sc := ⟨_, rfl⟩
    rw [← hM] at hmo
    have HMo : Hid (M = mor sc) := hM
    have HDS : Hid (DS wr P (odr D sc)) := hds
    have HCS : Hid (LR tExt 135 w4.heap.size wr u4 cs pre) := hcs
    clear hM hcs hD hds
    go_wp2_with (go_at_call 121; refine hmo.mono ?_)
    rintro e w5 ⟨rfl, rfl⟩
    clear hmo
    cases M with
    | true =>
      have HNE : Hid (∃ zs' o, sc = some (zs', o) ∧ zs' ≠ []) := mor_more HMo.out.symm
      have hn := dnumber_any P 2 (by decide) (odr D sc) w5 HDS.out
      obtain ⟨i0, p1, p2, p3, p4⟩ := info_parts info135
      go_wp2_with (go_at_call 127; refine hn.mono ?_)
      rintro e wA ⟨tn, rfl, hk⟩
      have hw16 := hk.w16
      obtain ⟨sA, qA1, qA2⟩ := hk.ps.st
      have HA1 : Hid (DP (.num .u16) (pDig 2) w5 wA P (odr D sc) [.int .u16 tn] tn ∧ Res (pDig 2) (odr D sc) tn sA ∧ P < w5.heap.size) := ⟨hk.rp2, qA2, HDS.out.lt⟩
      obtain ⟨wB, hwB⟩ : ∃ wB, wB = wA.alloc (.cells #[.int .u16 tn, .slice none 0 0] 135) := ⟨_, rfl⟩
      have cB : Chg Non wA wB := by rw [hwB]; exact (Chg.refl _ _).alloc _
      have hl := dlist_any P 2 0 65535 16777216 (by decide) 2 0 65535 rfl rfl rfl (lim2 (by decide)) sA wB (qA1.non cB)
      have HB1 : Hid (Chg Non wA wB ∧ wA.heap.size < wB.heap.size ∧ wB.heap[wA.heap.size]? = some (.cells #[.int .u16 tn, .slice none 0 0] 135) ∧ w5.heap.size ≤ wA.heap.size) := ⟨cB, by rw [hwB]; simp, by rw [hwB]; exact heap_alloc_last wA _, hk.ps.chg.size⟩
      have HWB : Hid (wB = wA.alloc (.cells #[.int .u16 tn, .slice none 0 0] 135)) := hwB
      clear hk qA1 qA2 hn hwB cB
      go_wp2_with fail
      rw [← HWB.out]
      refine hl.mono ?_
      rintro e wC ⟨ya, yl, yc, tb, rfl, hy, -, -⟩
      have hBC : wC.heap[wA.heap.size]? = some (.cells #[.int .u16 tn, .slice none 0 0] 135) := by
        rw [hy.ps.chg.block _ (lt_somW HB1.out.2.2.1) (fun e => by have e' : wA.heap.size = P := e; have := HA1.out.2.2; have := HB1.out.2.2.2; omega)]; exact HB1.out.2.2.1
      have HY : Hid (DP .byt (pBytes 2 0 16777216) wB wC P sA [.slice ya yl yc] tb) := hy.dp
      obtain ⟨BB, hBBe⟩ : ∃ BB, BB = wA.heap.size := ⟨_, rfl⟩
      have HBB2 : Hid (BB = wA.heap.size) := hBBe
      rw [← hBBe] at hBC ⊢
      obtain ⟨y0, y1⟩ := cell2 hBC
      have g0 := frozen_of_row wC BB 0 _ _ hBC
      have g1 := frozen_of_row wC BB 1 _ _ hBC
      obtain ⟨w6, hw6⟩ : ∃ w6, w6 = wC.setCell ⟨BB, 1, none⟩ (.slice ya yl yc) := ⟨_, rfl⟩
      have h63 : w6.heap[BB]? = some (.cells #[.int .u16 tn, .slice ya yl yc] 135) := by rw [hw6]; exact set_two1 _ hBC
      have c6 : Chg (One BB) wC w6 := by rw [hw6]; exact chg_rest _ _ _ _
      have HW6 : Hid (w6 = wC.setCell ⟨BB, 1, none⟩ (.slice ya yl yc)) := hw6
      obtain ⟨x, hxe⟩ : ∃ x : Ext, x = (tn, tb) := ⟨_, rfl⟩
      have hx' : DP tExt pExt w5 w6 P (odr D sc) [.int .u16 tn, .slice ya yl yc] x := by
        subst hxe
        have hPA : P < wA.heap.size := by have := HA1.out.2.2; have := HB1.out.2.2.2; omega
        have q1 : DP .byt (pBytes 2 0 16777216) wA w6 P sA [.slice ya yl yc] tb := HY.out.past HB1.out.1 c6 (by rw [HBB2.out]; exact Nat.le_refl _) (by rw [HBB2.out]; exact HB1.out.2.1) hPA
        exact HA1.out.1.pair HA1.out.2.1 q1 HA1.out.2.2
      obtain ⟨s6, h6, q6⟩ := hx'.ps.st
      obtain ⟨sc', rfl, k2⟩ := q6.odr
      have HX : Hid (DP tExt pExt w5 w6 P (odr D sc) [.int .u16 tn, .slice ya yl yc] x ∧ Res pExt sc x sc' ∧ DS w6 P (odr D sc') ∧ w6.heap[BB]? = some (.cells #[.int .u16 tn, .slice ya yl yc] 135) ∧ x.1 = tn ∧ BB ≠ P) := ⟨hx', k2, h6, h63, by rw [hxe], by have := HBB2.out; have := HA1.out.2.2; have := HB1.out.2.2.2; omega⟩
      have HLR : Hid (LR tExt 135 w4.heap.size w6 u4 cs pre) := HCS.out.keep hx'.ps.chg (fun k e => by have e' : k = P := e; have := HP4.out.1; omega)
      obtain ⟨G, hG⟩ : ∃ G, G = gk := ⟨_, rfl⟩
      have HG0 : Hid (G = gk) := hG
      have HM : Hid (∀ zs o, sc = some (zs, o) → zs.length ≤ G) := by rw [hG]; exact hm.out
      obtain ⟨N, hN⟩ : ∃ N, N = List.length pre := ⟨_, rfl⟩
      have HN : Hid (N = List.length pre ∧ N ≤ 9223372036854775807) := ⟨hN, by rw [hN]; have h1 := hI.out.le; have h2 := HPT.out.len; exact Nat.le_trans h1 (Nat.le_trans h2 (by decide))⟩
      obtain ⟨au, cu, rfl⟩ : ∃ a c, u4 = .slice a N c := by
        rw [hN]
        obtain ⟨a, b, e⟩ := ownsRow_any HCS.out.row
        exact ⟨a, b, e⟩
      have hNm : N ≤ 9223372036854775807 := HN.out.2
      clear hN
      clear hy hBC hBBe hw6 h63 c6 hl hx' h6 q6 k2 hxe hG hm
      go_wp2_with fail
      rw [← HW6.out]
      clear y0 y1 g0 g1
      go_loopg [6] N (fun m iv wi => ∃ k : Nat, k + m = N ∧ iv = .int .i64 k ∧ Hid (Chg (One P) w6 wi) ∧ Hid (DS wi P (odr (((tys pre).take k).contains tn) (odr D sc'))))
      case atStart => exact ⟨0, by omega, rfl, Chg.refl _ _, by rw [List.take_zero]; show DS w6 P (odr false (odr D sc')); rw [odr_false]; exact HX.out.2.2.1⟩
      case round =>
        obtain ⟨k, hkm, rfl, hc, hd⟩ := hrel
        by_cases hlt : k < N
        · obtain ⟨z, hz⟩ : ∃ z : Ext, pre[k]? = some z := ⟨pre[k]'(by rw [← HN.out.1]; exact hlt), List.getElem?_eq_getElem _⟩
          obtain ⟨b, ob, cb, e, hb1, hb2, -, hb3⟩ := HLR.out.rel.at HN.out.1 (by omega) (by decide)
          injection e with e1 e2 e3
          subst e1
          obtain ⟨us, hr, hcel⟩ := hb3 k z hz
          obtain ⟨ea, el, ec, rfl, hr1, -⟩ := hr.ext
          obtain ⟨tz, htz⟩ : ∃ tz : Int, tz = z.1 := ⟨_, rfl⟩
          rw [← htz] at hcel
          have hbp : b ≠ P := by
            have hq := (HLR.out.blk b rfl).1
            have := HP4.out.1
            omega
          have q0 : wr.cell? ⟨b, ob + k * 2, none⟩ = some (.int .u16 tz) := by
            have := hcel 0 _ rfl
            rw [← this]
            exact World.cell?_of_block (hc.out.block _ (World.block_lt_of_cell? w6 _ this) (fun s => hbp s))
          have hBi : wr.heap[BB]? = some (.cells #[.int .u16 tn, .slice ya yl yc] 135) := by rw [hc.out.block _ (lt_somW HX.out.2.2.2.1) (fun e => HX.out.2.2.2.2.2 e)]; exact HX.out.2.2.2.1
          obtain ⟨x0, x1⟩ := cell2 hBi
          have HT : Hid ((tys pre)[k]? = some tz) := by show _ = _; rw [htz]; exact tys_at hz
          have HSTEP : Hid (((tys pre).take (k + 1)).contains tn = (((tys pre).take k).contains tn || tz == tn)) := take_has HT.out
          obtain ⟨v2, sh, od, zs, m2, kb⟩ := hd.out
          obtain ⟨z0, z1, z2, f0, f1, f2⟩ := m2.facts
          have HMM : Hid (DM wr P v2 sh od zs ∧ DB (odr (((tys pre).take k).contains tn) (odr D sc')) zs sh od) := ⟨m2, kb⟩
          have HK : Hid (k + 1 ≤ N ∧ 0 < gk) := ⟨hlt, by omega⟩
          clear m2 kb hb1 hb2 hb3 hcel hr hr1 e2 e3 htz hz hBi hbp
          cases od with
          | true =>
            go_wp2_with fail
            go_region
            all_goals
              go_wp2
              go_roundg (gk - 1)
              case measure => have := HK.out.2; omega
              case rel => exact ⟨k + 1, by have := HK.out.2; omega, by go_num, (hc.out.one (chg_rest _ _ _ _)).drewN _, DS.of ((HMM.out.1.odd true).non ((Chg.refl Non _).drewN _)) (by rw [HSTEP.out, ← odr_odr]; exact HMM.out.2.odr _)⟩
          | false =>
            by_cases hte : tz = tn
            · subst hte
              go_wp2_with fail
              go_region
              all_goals
                go_wp2
                go_roundg (gk - 1)
                case measure => have := HK.out.2; omega
                case rel => exact ⟨k + 1, by have := HK.out.2; omega, by go_num, (hc.out.one (chg_rest _ _ _ _)).drewN _, DS.of ((HMM.out.1.odd true).non ((Chg.refl Non _).drewN _)) (by rw [HSTEP.out, ← odr_odr]; have := HMM.out.2.odr (tz == tz); simpa using this)⟩
            · have hb1 : (tz == tn) = false := by simpa using hte
              have HB1' : Hid ((tz == tn) = false) := hb1
              go_wp2_with fail
              go_region
              all_goals
                go_wp2
                go_roundg (gk - 1)
                case measure => have := HK.out.2; omega
                case rel => exact ⟨k + 1, by have := HK.out.2; omega, by go_num, (hc.out.one (chg_rest _ _ _ _)).drewN _, DS.of ((HMM.out.1.odd false).non ((Chg.refl Non _).drewN _)) (by rw [HSTEP.out, ← odr_odr]; have := HMM.out.2.odr (tz == tn); rw [HB1'.out] at this ⊢; simpa using this)⟩
        · have hkN : k = N := by omega
          have h7 : DS wr P (odr (dup (tys (snocD (t := tExt) pre x))) sc') := by
            have e1 : tys (snocD (t := tExt) pre x) = tys pre ++ [tn] := by rw [← HX.out.2.2.2.2.1]; exact tys_snoc pre x
            have e2 : (tys pre).take k = tys pre := List.take_of_length_le (by rw [hkN, HN.out.1]; exact Nat.le_of_eq (List.length_map ..))
            have := hd.out
            rw [e2, odr_odr] at this
            rw [e1, dup_snoc, ← HD.out]
            exact this
          have hrel7 : Rel tExt (Btw w5.heap.size wr.heap.size) wr [.int .u16 tn, .slice ya yl yc] x := (HX.out.1.rel.chg hc.out (fun i e => by have e' : i = P := e; have := HA1.out.2.2; omega)).btw (Nat.le_refl _) hc.out.size
          have hchg7 : Chg (One P) w5 wr := HX.out.1.ps.chg.one hc.out
          have hB7 : wr.heap[BB]? = some (.cells #[.int .u16 tn, .slice ya yl yc] 135) := by rw [hc.out.block _ (lt_somW HX.out.2.2.2.1) (fun e => HX.out.2.2.2.2.2 e)]; exact HX.out.2.2.2.1
          obtain ⟨y0, y1⟩ := cell2 hB7
          have H7 : Hid (Rel tExt (Btw w5.heap.size wr.heap.size) wr [.int .u16 tn, .slice ya yl yc] x ∧ Chg (One P) w5 wr ∧ DS wr P (odr (dup (tys (snocD (t := tExt) pre x))) sc')) := ⟨hrel7, hchg7, h7⟩
          have HRO := DJ.row2 (.cells #[.int .u16 tn, .slice ya yl yc] 135) hI.out hchg7 HCS.out HP4.out.1
          have hlen : pre.length = N := HN.out.1.symm
          have HRO' : Hid ((wr.alloc (.cells #[.int .u16 tn, .slice ya yl yc] 135)).ownsRow w4.heap.size 135 2 (.slice au N cu) pre.length cs.flatten ∧ w4.heap.size ≤ (wr.alloc (.cells #[.int .u16 tn, .slice ya yl yc] 135)).heap.size) := HRO
          have HBB : Hid (pre.length + 1 ≤ maxLen ∧ (pre.length + 1) * 32 ≤ 140737488355328) := by
            have h1 := hI.out.le
            have h2 := HPT.out.len
            exact ⟨by unfold maxLen; omega, by omega⟩
          have HONE : Hid (∀ u ∈ ([.int .u16 tn, .slice ya yl yc] : List Value), u.oneCell' = true) := by
            intro u hu
            simp at hu
            rcases hu with rfl | rfl <;> rfl
          have HNEW : Hid (∀ j u, ([.int .u16 tn, .slice ya yl yc] : List Value)[j]? = some u → (wr.alloc (.cells #[.int .u16 tn, .slice ya yl yc] 135)).cell? ((⟨wr.heap.size, 0, none⟩ : Addr).add j) = some u) := fun j u hj => by
            rw [Addr.add_lit, cell_of_row _ wr.heap.size (0 + j) _ 135 (0, 0) (heap_alloc_last wr _)]
            simpa using hj
          clear HRO hrel7 hchg7 h7 hB7 hlen
          go_wp2_with (at_builtin; refine wpList_append_own_at _ rfl _ _ 34 rfl w4.heap.size 135 i0 _ 2 32 Try.underlying34 p1 p2 p3 p4 rfl (by decide) (.slice au N cu) pre.length cs.flatten rfl HRO'.out.1 ⟨wr.heap.size, 0, none⟩ 1 1 [.int .u16 tn, .slice ya yl yc] rfl rfl HNEW.out HONE.out HBB.out.1 HBB.out.2 HRO'.out.2 ?_)
          intro va' w8 hrow8 hgrow8 _ hblk8
          obtain ⟨n1, n2⟩ := DJ.more (t := tExt) (c := (fun l : List Ext => dup (tys l))) pExt_shr hI.out HNE.out H7.out.1 H7.out.2.1 HX.out.2.1 H7.out.2.2 HCS.out hrow8 hgrow8 hblk8 HP4.out.1
          have N1 : Hid (DJ tExt 135 pExt (fun l : List Ext => dup (tys l)) w4 P (prt s1) body (snocD (t := tExt) pre x) va' w8 sc') := n1
          have HG : Hid (0 < G ∧ ∀ zs o, sc' = some (zs, o) → zs.length ≤ G - 1) := by
            obtain ⟨zs1, o1, hs1, hn1⟩ := HNE.out
            have h1 := HM.out zs1 o1 hs1
            have h2 : 0 < zs1.length := List.length_pos_iff.2 hn1
            refine ⟨by omega, fun zs2 o2 e => ?_⟩
            rcases n2 with n2 | ⟨zs3, o3, e3, n2⟩
            · rw [n2] at e; cases e
            · rw [e3] at e
              injection e with e
              injection e with e _
              subst e
              have := n2 zs1 o1 hs1
              omega
          obtain ⟨g8, cap8, rfl⟩ := ownsRow_succ hrow8
          clear hrow8 hgrow8 hblk8 n1 n2 HRO' HNEW HX HBB p1 p2 p3 p4
          go_wp2
          go_roundg (G - 1)
          case measure => have := HG.out.1; have := HG0.out; omega
          case rel => exact ⟨snocD (t := tExt) pre x, sc', N1.out, HG.out.2⟩
    | false =>
      obtain ⟨ao, L, c, rfl⟩ : ∃ ao n c, u4 = .slice ao n c := by
        obtain ⟨a, b, e⟩ := ownsRow_any HCS.out.row
        exact ⟨a, _, b, e⟩
      have hwi := dwith_any r P (by have := HP4.out.2; omega) s1 (odr D sc) w5 (HPT.out.st.keep hI.out.chg (fun k e => by have e' : k = P := e; have := HP4.out.2; omega)) HDS.out
      go_wp2_with (go_at_call 122; refine hwi.mono ?_)
      rintro e w6 ⟨rfl, c6, h6⟩
      have hx : DP (.lst tExt) pExts w w6 r s [.slice ao L c] pre := dj_fin (t := tExt) (c := (fun l : List Ext => dup (tys l))) pExt_shr (by decide) HB.out HLT.out HPT.out hI.out HMo.out.symm c6 (by rw [HD.out] at h6; exact h6) (fun b l o _ => ⟨fun _ => Nat.zero_le _, fun _ => Nat.zero_le _⟩)
      have HX : Hid (DP (.lst tExt) pExts w w6 r s [.slice ao L c] pre) := hx
      clear hwi c6 h6 hx
      go_wp2
      go_ret
      exact ⟨ao, L, c, pre, rfl, HX.out⟩
end Go.Proofs.Ytdhckndehijemaa
