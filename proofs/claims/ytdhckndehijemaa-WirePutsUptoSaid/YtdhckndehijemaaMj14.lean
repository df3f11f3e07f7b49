/-
  list of extensions.
-/
import Derived.Test.YtdhckndehijemaaMj08
namespace Go.Proofs.Ytdhckndehijemaa
open Go.RowKit
set_option linter.unusedVariables false
set_option maxRecDepth 100000
theorem info135 : (Try.prog.info? 135).map (fun i => (i.zero, i.size, i.bytes)) = some (some (.agg #[.int .u16 0, .slice none 0 0]), 2, 32) := by kernel_rfl

set_option maxHeartbeats 3200000 in
theorem listE_any (r size least most : Nat) (a b c : Int) (ha : a = size) (hb : b = least) (hc : c = most) (hs : 0 < size) (hs3 : size ≤ 3) (s : St) (w : World) (h : RS w r s) :
    Calls Try.prog 196 #[.pointer (some ⟨r, 0, none⟩), .agg #[.int .i64 a, .int .i64 b, .int .i64 c], .func (.func 198) #[] #[]] w fun e w' => ∃ v x, e = .returned v ∧ RP (.lst (tExt)) (pList size least most (pExt)) w w' r s [v] x := by
  subst ha hb hc
  obtain ⟨w1, hw1⟩ : ∃ w1, w1 = w.alloc (.cells #[.int .i64 size, .int .i64 least, .int .i64 most] 231) := ⟨_, rfl⟩
  have c1 : Chg Non w w1 := by rw [hw1]; exact (Chg.refl _ _).alloc _
  have hB : w1.heap[w.heap.size]? = some (.cells #[.int .i64 size, .int .i64 least, .int .i64 most] 231) := by rw [hw1]; exact heap_alloc_last w _
  have HB : Hid (w1.heap[w.heap.size]? = some (.cells #[.int .i64 size, .int .i64 least, .int .i64 most] 231) ∧ r < w.heap.size ∧ Chg Non w w1) := ⟨hB, h.lt, c1⟩
  obtain ⟨y0, y1, y2⟩ := cell3 hB
  have HD := digits_any r size (by omega) s w1 (h.non c1)
  have HS : Hid (0 < size ∧ size ≤ 3) := ⟨hs, hs3⟩
  have HW1 : Hid (w1 = w.alloc (.cells #[.int .i64 size, .int .i64 least, .int .i64 most] 231)) := hw1
  clear h c1 hB hs hs3 hw1
  go_enter Try.func196, Try.ntmps196
  go_wp2_with fail
  rw [← HW1.out]
  refine HD.mono ?_
  rintro e w2 ⟨x, rfl, hd⟩
  obtain ⟨k, rfl⟩ : ∃ k : Nat, x = k := ⟨x.toNat, by have := hd.lo; omega⟩
  have hk : k < 16777216 := by
    have h1 := hd.hi
    have h2 : (256 : Nat) ^ size ≤ 256 ^ 3 := Nat.pow_le_pow_right (by decide) HS.out.2
    have h3 : ((256 : Int) ^ size) = ((256 ^ size : Nat) : Int) := by norm_cast
    rw [h3] at h1
    have h4 : (256 : Nat) ^ 3 = 16777216 := by decide
    omega
  obtain ⟨s1, q1, q2⟩ := hd.ps.st
  have HT := takeS_any r k s1 w2 q1
  have HD2 : Hid (Chg (One r) w1 w2 ∧ Res (pDig size) s (k : Int) s1) := ⟨hd.ps.chg, q2⟩
  have hwk : IntKind.i64.wrap (k : Int) = (k : Int) := by rw [IntKind.wrap_i64]; omega
  clear hd q1 q2 HD
  go_wp2_with (go_at_call 229; refine HT.mono ?_)
  rintro e w3 ⟨v', ys, s2, rfl, h1, h2, h3, h4, h5, h6, h7⟩
  obtain ⟨ao, L, c, rfl, hL, -, -⟩ := h1.shape
  obtain ⟨v8, al8, xs8, m1, m2⟩ := h6
  obtain ⟨ao8, L8, c8, rfl, -, -, -⟩ := m1.rd.shape
  obtain ⟨y0, y1, g0, g1⟩ := m1.facts
  obtain ⟨w4, hw4⟩ : ∃ w4, w4 = w3.setCell ⟨r, 0, none⟩ (.slice ao L c) := ⟨_, rfl⟩
  have m3 : RM w4 r (.slice ao L c) al8 ys := by rw [hw4]; exact m1.rest h1 h2 h4
  have c4 : Chg (One r) w1 w4 := (HD2.out.1.one h5).one (by rw [hw4]; exact chg_rest _ _ _ _)
  have i4 : RS w4 r (inn s2 ys) := by
    refine RS.of m3 ?_
    rcases m2 with ⟨rfl, rfl⟩ | ⟨o, rfl, rfl⟩
    · exact .inl ⟨rfl, rfl⟩
    · exact .inr ⟨o, rfl, rfl⟩
  have hLI : LI (tExt) 135 (pExt) w4 r s2 ys [] (.slice none 0 0) w4 (inn s2 ys) := LI.start i4
  have HL : Hid (LI (tExt) 135 (pExt) w4 r s2 ys [] (.slice none 0 0) w4 (inn s2 ys)) := hLI
  have H4 : Hid (Chg (One r) w1 w4 ∧ Res (pTake k) s1 ys s2 ∧ ys.length ≤ 16777216 ∧ r < w4.heap.size) := ⟨c4, h7, by omega, m3.lt⟩
  have H8 : Hid (AB s2 xs8 al8 ∧ Rd w3 (.slice ao8 L8 c8) xs8 ∧ Byt xs8 ∧ (∀ k, (Value.slice ao8 L8 c8).ownBlock = some k → k < r) ∧ Chg (One r) w3 w4) := ⟨m2, m1.rd, m1.byt, m1.own, by rw [hw4]; exact chg_rest _ _ _ _⟩
  have HW4 : Hid (w4 = w3.setCell ⟨r, 0, none⟩ (.slice ao L c)) := hw4
  have HST : Hid (∀ zs o, inn s2 ys = some (zs, o) → zs.length ≤ ys.length) := fun zs o e => by have := hLI.lt zs o e; simpa using this
  clear h1 h2 h3 h4 h5 h7 m1 m2 m3 c4 i4 hLI hw4 hL HT hwk hk
  go_wp2_with fail
  rw [← HW4.out]
  clear y0 y1 y2 g0 g1 HW4
  go_loopg [9] ys.length (fun m va wr => ∃ pre sc, Hid (LI (tExt) 135 (pExt) w4 r s2 ys pre va wr sc) ∧ Hid (∀ zs o, sc = some (zs, o) → zs.length ≤ m))
  case atStart => exact ⟨[], inn s2 ys, HL.out, HST.out⟩
  case round =>
    obtain ⟨pre, sc, hI, hm⟩ := hrel
    obtain ⟨v, al, zs, m1, m2⟩ := hI.out.st
    obtain ⟨aoz, N, cz, rfl, hN, -, -⟩ := m1.rd.shape
    obtain ⟨z0, z1, f0, f1⟩ := m1.facts
    obtain ⟨cs, hcs⟩ := hI.out.row
    have HM : Hid (AB sc zs al ∧ N = zs.length ∧ LR (tExt) 135 w4.heap.size wr u9 cs pre) := ⟨m2, hN, hcs⟩
    by_cases hgo : 0 < N ∧ ¬ al = 50
    · have d1 : decide (0 < N) = true := by simpa using hgo.1
      have d1' : 0 < N := hgo.1
      have d2 : (al == 50) = false := by simpa using hgo.2
      have HNE : Hid (∃ zs' o, sc = some (zs', o) ∧ zs' ≠ []) := by
        obtain ⟨o, ho⟩ := m2.some hgo.2
        exact ⟨zs, o, ho, by intro e; subst e; have := hgo.1; rw [hN] at this; exact absurd this (by simp)⟩
      have HBR := broken_any r _ al zs wr m1
      have HP := ext_any r sc wr hI.out.st
      have hzs : Hid (zs.length ≤ gk) := by
        obtain ⟨o, ho⟩ := m2.some hgo.2
        exact hm.out zs o ho
      obtain ⟨i0, p1, p2, p3, p4⟩ := info_parts info135
      clear m1 m2 hN hcs hgo
      go_wp2_with (go_at_call 228; refine HBR.mono ?_)
      rintro e w5 ⟨rfl, rfl⟩
      clear HBR
      go_wp2_with (go_at_call 198; refine HP.mono ?_)
      rintro e w6 ⟨tn, ta, tl, tc, x, rfl, hx'⟩
      have HX : Hid (RP (tExt) (pExt) w5 w6 r sc [.int .u16 tn, .slice ta tl tc] x) := hx'
      have HRO := LI.row2 (.cells #[.int .u16 tn, .slice ta tl tc] 135) hI.out hx' HM.out.2.2 H4.out.2.2.2
      have HRO' : Hid ((w6.alloc (.cells #[.int .u16 tn, .slice ta tl tc] 135)).ownsRow w4.heap.size 135 2 u9 pre.length cs.flatten ∧ w4.heap.size ≤ (w6.alloc (.cells #[.int .u16 tn, .slice ta tl tc] 135)).heap.size) := HRO
      have HBB : Hid (pre.length + 1 ≤ maxLen ∧ (pre.length + 1) * 32 ≤ 140737488355328) := by
        have h1 := hI.out.le
        have h2 := H4.out.2.2.1
        exact ⟨by unfold maxLen; omega, by omega⟩
      have HONE : Hid (∀ u ∈ ([.int .u16 tn, .slice ta tl tc] : List Value), u.oneCell' = true) := by
        intro u hu
        simp at hu
        rcases hu with rfl | rfl <;> rfl
      have HNEW : Hid (∀ j u, ([.int .u16 tn, .slice ta tl tc] : List Value)[j]? = some u → (w6.alloc (.cells #[.int .u16 tn, .slice ta tl tc] 135)).cell? ((⟨w6.heap.size, 0, none⟩ : Addr).add j) = some u) := fun j u hj => by
        rw [Addr.add_lit, cell_of_row _ w6.heap.size (0 + j) _ 135 (0, 0) (heap_alloc_last w6 _)]
        simpa using hj
      clear hx' HRO HP
      go_wp2_with (at_builtin; refine wpList_append_own_at _ rfl _ _ 34 rfl w4.heap.size 135 i0 _ 2 32 Try.underlying34 p1 p2 p3 p4 rfl (by decide) u9 pre.length cs.flatten rfl HRO'.out.1 ⟨w6.heap.size, 0, none⟩ 1 1 [.int .u16 tn, .slice ta tl tc] rfl rfl HNEW.out HONE.out HBB.out.1 HBB.out.2 HRO'.out.2 ?_)
      intro va' w8 hrow8 hgrow8 _ hblk8
      obtain ⟨sc', n1, n2⟩ := LI.more pExt_shr hI.out HNE.out HX.out HM.out.2.2 hrow8 hgrow8 hblk8 H4.out.2.2.2
      have N1 : Hid (LI (tExt) 135 (pExt) w4 r s2 ys (snocD (t := tExt) pre x) va' w8 sc') := n1
      have HG : Hid (0 < gk ∧ ∀ zs o, sc' = some (zs, o) → zs.length ≤ gk - 1) := by
        obtain ⟨zs1, o1, hs1, hn1⟩ := HNE.out
        have h1 := hm.out zs1 o1 hs1
        have h2 : 0 < zs1.length := List.length_pos_iff.2 hn1
        refine ⟨by omega, fun zs2 o2 e => ?_⟩
        rcases n2 with n2 | ⟨zs3, o3, e3, n2⟩
        · rw [n2] at e; cases e
        · rw [e3] at e
          injection e with e
          injection e with e _
          subst e
          have := n2 zs1 o1 hs1
          omega
      obtain ⟨g8, cap8, rfl⟩ := ownsRow_succ hrow8
      clear HONE hrow8 hgrow8 hblk8 n1 n2 HRO' HNEW HX HBB p1 p2 p3 p4
      go_wp2
      go_roundg (gk - 1)
      case measure => have := HG.out.1; omega
      case rel => exact ⟨snocD (t := tExt) pre x, sc', N1.out, HG.out.2⟩
    · have HE : Hid (zs = [] ∨ al = 50) := by
        by_cases h50 : al = 50
        · exact .inr h50
        · exact .inl (List.eq_nil_of_length_eq_zero (by rw [← hN]; by_cases hz : 0 < N; exact absurd ⟨hz, h50⟩ hgo; omega))
      have hBr : wr.heap[w.heap.size]? = some (.cells #[.int .i64 size, .int .i64 least, .int .i64 most] 231) := by
        rw [(H4.out.1.one hI.out.chg).block w.heap.size (lt_some HB.out.1) (fun e => by have e' : w.heap.size = r := e; have := HB.out.2.1; omega)]
        exact HB.out.1
      obtain ⟨y0, y1, y2⟩ := cell3 hBr
      have hrne : r ≠ w.heap.size := by have := HB.out.2.1; omega
      obtain ⟨aov, nv, cv, rfl⟩ : ∃ ao n c, u9 = .slice ao n c := by
        obtain ⟨a, b, c⟩ := ownsRow_any hcs.row
        exact ⟨a, _, b, c⟩
      have hnv : nv = pre.length := by
        obtain ⟨a, b, c⟩ := ownsRow_any hcs.row
        injection c
      have H6 : Hid (RM (wr.setCell ⟨r, 0, none⟩ (.slice ao8 L8 c8)) r (.slice ao8 L8 c8) al xs8) := m1.rest (H8.out.2.1.keep (fun k e hk => by
        have h1 := H8.out.2.2.2.1 k e
        rw [(H8.out.2.2.2.2.one hI.out.chg).block k hk (fun q => by have q' : k = r := q; omega)])) H8.out.2.2.1 H8.out.2.2.2.1
      have C6 : Hid (Chg (One r) wr (wr.setCell ⟨r, 0, none⟩ (.slice ao8 L8 c8))) := chg_rest _ _ _ _
      have HBR := broken_any r _ al zs wr m1
      have HNV : Hid (nv = pre.length) := hnv
      obtain ⟨w6, hw6⟩ : ∃ w6, w6 = wr.setCell ⟨r, 0, none⟩ (.slice ao8 L8 c8) := ⟨_, rfl⟩
      rw [← hw6] at H6 C6
      have HW6 : Hid (w6 = wr.setCell ⟨r, 0, none⟩ (.slice ao8 L8 c8)) := hw6
      have d1 : 0 < N → al = 50 := fun hz => by
        by_cases h50 : al = 50
        · exact h50
        · exact absurd ⟨hz, h50⟩ hgo
      have D1 : Hid (0 < N → al = 50) := d1
      clear m1 m2 hN hcs hgo hBr hw6 hnv d1
      by_cases hz : 0 < N
      · have d1 : decide (0 < N) = true := by simpa using hz
        have d2 : (al == 50) = true := by simpa using D1.out hz
        go_wp2_with (go_at_call 228; refine HBR.mono ?_)
        rintro e w5 ⟨rfl, hw5⟩
        obtain rfl := hw5.symm
        clear HBR
        go_wp2_with fail
        rw [← HW6.out]
        refine (fits_any _ _ _ _ _).mono ?_
        rintro e w7 ⟨rfl, hc7⟩
        have H67 : Hid (RM w7 r (.slice ao8 L8 c8) al xs8 ∧ Chg (One r) wr w7) := ⟨H6.out.non hc7, C6.out.one (hc7.non _)⟩
        clear hc7
        by_cases hf : least ≤ nv ∧ nv ≤ most
        · have df : decide (((least : Int) ≤ (nv : Int)) ∧ ((nv : Int) ≤ (most : Int))) = true := by simp; omega
          have HF : Hid (least ≤ nv ∧ nv ≤ most) := hf
          rw [df]
          clear df hf
          go_wp2_with fail
          go_ret
          refine ⟨_, pre, rfl, li_fin hI.out HB.out.2.2 H4.out.1 HD2.out.2 H4.out.2.1 H8.out.1 HM.out.1 HE.out H67.out.1 H67.out.2 HB.out.2.1 (.inl ⟨by rw [← HNV.out]; exact HF.out.1, by rw [← HNV.out]; exact HF.out.2, rfl⟩)⟩
        · have df : decide (((least : Int) ≤ (nv : Int)) ∧ ((nv : Int) ≤ (most : Int))) = false := by simp; omega
          have HF : Hid (¬ (least ≤ nv ∧ nv ≤ most)) := hf
          have HRF := refuse_any r 50 _ al xs8 w7 H67.out.1
          rw [tell50] at HRF
          rw [df]
          clear df hf
          go_wp2_with (go_at_call 182; refine HRF.mono ?_)
          rintro e w8 ⟨rfl, h8, hc8⟩
          have HQ : Hid (RM w8 r (.slice ao8 L8 c8) 50 xs8 ∧ Chg (One r) w7 w8) := ⟨h8, hc8⟩
          clear h8 hc8 HRF
          go_wp2_with fail
          go_ret
          refine ⟨_, pre, rfl, li_fin hI.out HB.out.2.2 H4.out.1 HD2.out.2 H4.out.2.1 H8.out.1 HM.out.1 HE.out H67.out.1 H67.out.2 HB.out.2.1 (.inr ⟨by rw [← HNV.out]; exact HF.out, HQ.out.1, HQ.out.2⟩)⟩
      · have d1 : decide (0 < N) = false := by simpa using hz
        clear HBR
        go_wp2_with fail
        rw [← HW6.out]
        refine (fits_any _ _ _ _ _).mono ?_
        rintro e w7 ⟨rfl, hc7⟩
        have H67 : Hid (RM w7 r (.slice ao8 L8 c8) al xs8 ∧ Chg (One r) wr w7) := ⟨H6.out.non hc7, C6.out.one (hc7.non _)⟩
        clear hc7
        by_cases hf : least ≤ nv ∧ nv ≤ most
        · have df : decide (((least : Int) ≤ (nv : Int)) ∧ ((nv : Int) ≤ (most : Int))) = true := by simp; omega
          have HF : Hid (least ≤ nv ∧ nv ≤ most) := hf
          rw [df]
          clear df hf
          go_wp2_with fail
          go_ret
          refine ⟨_, pre, rfl, li_fin hI.out HB.out.2.2 H4.out.1 HD2.out.2 H4.out.2.1 H8.out.1 HM.out.1 HE.out H67.out.1 H67.out.2 HB.out.2.1 (.inl ⟨by rw [← HNV.out]; exact HF.out.1, by rw [← HNV.out]; exact HF.out.2, rfl⟩)⟩
        · have df : decide (((least : Int) ≤ (nv : Int)) ∧ ((nv : Int) ≤ (most : Int))) = false := by simp; omega
          have HF : Hid (¬ (least ≤ nv ∧ nv ≤ most)) := hf
          have HRF := refuse_any r 50 _ al xs8 w7 H67.out.1
          rw [tell50] at HRF
          rw [df]
          clear df hf
          go_wp2_with (go_at_call 182; refine HRF.mono ?_)
          rintro e w8 ⟨rfl, h8, hc8⟩
          have HQ : Hid (RM w8 r (.slice ao8 L8 c8) 50 xs8 ∧ Chg (One r) w7 w8) := ⟨h8, hc8⟩
          clear h8 hc8 HRF
          go_wp2_with fail
          go_ret
          refine ⟨_, pre, rfl, li_fin hI.out HB.out.2.2 H4.out.1 HD2.out.2 H4.out.2.1 H8.out.1 HM.out.1 HE.out H67.out.1 H67.out.2 HB.out.2.1 (.inr ⟨by rw [← HNV.out]; exact HF.out, HQ.out.1, HQ.out.2⟩)⟩
end Go.Proofs.Ytdhckndehijemaa
namespace Go.Proofs.Ytdhckndehijemaa
open Go.RowKit
set_option linter.unusedVariables false
set_option maxRecDepth 100000

def pOddIf {α : Type} (p : Pr α) (c : α → Bool) : Pr α := pBind p fun l => pBind (pOdd (c l)) fun _ => pRet l
theorem pOddIf_shr {α : Type} {p : Pr α} (h : Shr p) (c : α → Bool) : Shr (pOddIf p c) := pBind_shr h fun _ => pBind_shq (pOdd_shq _) fun _ => pRet_shq _
def pExts : Pr (List Ext) := pOddIf (pList 2 0 16777216 pExt) fun l => dup (tys l)
theorem pExts_shr : Shr pExts := pOddIf_shr (pList_shr (by decide)) _

/-- Something odd is told, or not. -/
theorem RP.oddIf {t : Ty} {p : Pr t.Dat} {c : t.Dat → Bool} {a b b' : World} {r : Nat} {s s1 : St} {us : List Value} {x : t.Dat} (h : RP t p a b r s us x) (q : Res p s x s1) (k : PS (pOdd (c x)) b b' r s1 ()) (hr : r < a.heap.size) : RP t (pOddIf p c) a b' r s us x := by
  obtain ⟨s2, k1, k2⟩ := k.st
  exact ⟨(h.rel.chg k.chg (fun k e => by have e' : k = r := e; omega)).btw (Nat.le_refl _) k.chg.size, h.ps.chg.one k.chg, s2, k1, q.bind (k2.bind (Res.ret _ _))⟩
theorem PS.non {α : Type} {p : Pr α} {a b : World} {r : Nat} {s : St} {x : α} (h : PS p a a r s x) (k : Chg Non a b) : PS p a b r s x := h.after k

set_option maxHeartbeats 1600000 in
theorem exts_any (r : Nat) (s : St) (w : World) (h : RS w r s) : Calls Try.prog 115 #[.pointer (some ⟨r, 0, none⟩)] w fun e w' => ∃ ao L c x, e = .returned (.slice ao L c) ∧ RP (.lst tExt) pExts w w' r s [.slice ao L c] x := by
  have HR : Hid (r < w.heap.size) := h.lt
  go_enter Try.func115, Try.ntmps115
  go_wp2_with (go_at_call 197; refine (free_any 2 w).mono ?_)
  rintro e w2 ⟨rfl, hc⟩
  have h2 := listE_any r 2 0 16777216 2 0 16777216 rfl rfl rfl (by decide) (by decide) s w2 (h.non hc)
  have C2 : Hid (Chg Non w w2) := hc
  clear hc h
  go_wp2_with (go_at_call 196; refine h2.mono ?_)
  rintro e w3 ⟨v, x, rfl, hx⟩
  obtain ⟨ao, L, c, rfl⟩ := hx.slice
  obtain ⟨s1, q1, q2⟩ := hx.ps.st
  obtain ⟨v1, al, xs, m1, m2⟩ := q1
  have H2 : Hid (RP (.lst tExt) (pList 2 0 16777216 pExt) w w3 r s [.slice ao L c] x ∧ Res (pList 2 0 16777216 pExt) s x s1) := ⟨hx.ahead C2.out, q2⟩
  have HM : Hid (RM w3 r v1 al xs ∧ AB s1 xs al) := ⟨m1, m2⟩
  have h3 := twice_any _ _ x w3 hx.rel
  clear hx h2 q2 m1 m2
  go_wp2_with (go_at_call 199; refine h3.mono ?_)
  rintro e w4 ⟨rfl, hc4⟩
  have C4 : Hid (Chg Non w3 w4) := hc4
  clear hc4 h3
  cases hd : dup (tys x) with
  | false =>
    have HD : Hid (dup (tys x) = false) := hd
    clear hd
    go_wp2
    go_ret
    refine ⟨ao, L, c, x, rfl, (H2.out.1.oddIf (t := .lst tExt) (c := fun l => dup (tys l)) H2.out.2 ?_ HR.out)⟩
    show PS (pOdd (dup (tys x))) w3 w4 r s1 ()
    rw [HD.out]
    exact (PS.even ⟨_, _, _, HM.out.1, HM.out.2⟩).after C4.out
  | true =>
    have HD : Hid (dup (tys x) = true) := hd
    have h5 := refuse_any r 47 _ al xs w4 (HM.out.1.non C4.out)
    clear hd
    go_wp2_with (go_at_call 182; refine h5.mono ?_)
    rintro e w5 ⟨rfl, k1, k2⟩
    have HK : Hid (RM w5 r v1 (tell al 47) xs ∧ Chg (One r) w4 w5) := ⟨k1, k2⟩
    clear k1 k2 h5
    go_wp2
    go_ret
    refine ⟨ao, L, c, x, rfl, (H2.out.1.oddIf (t := .lst tExt) (c := fun l => dup (tys l)) H2.out.2 ?_ HR.out)⟩
    show PS (pOdd (dup (tys x))) w3 w5 r s1 ()
    rw [HD.out]
    exact (PS.odd (HM.out.1.non C4.out) HM.out.2 HK.out.1 HK.out.2).ahead C4.out
end Go.Proofs.Ytdhckndehijemaa
namespace Go.Proofs.Ytdhckndehijemaa
open Go.RowKit
set_option linter.unusedVariables false
set_option maxRecDepth 100000

abbrev tEntry : Ty := .pair .byt (.lst tExt)
def pEntry : Pr (List Int × List Ext) := pPair (pBytes 3 1 16777216) pExts
theorem pEntry_shr : Shr pEntry := pPair_shr (pBytes_shr (by decide)) pExts_shr.shq


set_option maxHeartbeats 3200000 in
theorem entry_any (r : Nat) (s0 : St) (w : World) (h : RS w r s0) : Calls Try.prog 203 #[.pointer (some ⟨r, 0, none⟩)] w fun e w' => ∃ a1 l1 c1 a2 l2 c2 x, e = .returned (.agg #[.slice a1 l1 c1, .slice a2 l2 c2]) ∧ RP (tEntry) (pEntry) w w' r s0 [.slice a1 l1 c1, .slice a2 l2 c2] x := by
  obtain ⟨w0, hw0⟩ : ∃ w0, w0 = w.alloc (.cells #[.slice none 0 0, .slice none 0 0] 146) := ⟨_, rfl⟩
  have c0 : Chg Non w w0 := by rw [hw0]; exact (Chg.refl _ _).alloc _
  have H0 : Hid (r < w.heap.size ∧ Chg Non w w0 ∧ w.heap.size < w0.heap.size ∧ w0.heap[w.heap.size]? = some (.cells #[.slice none 0 0, .slice none 0 0] 146)) := ⟨h.lt, c0, by rw [hw0]; simp, by rw [hw0]; exact heap_alloc_last w _⟩
  have HW0 : Hid (w0 = w.alloc (.cells #[.slice none 0 0, .slice none 0 0] 146)) := hw0
  have R0 : Hid (RS w0 r s0) := h.non c0
  clear h c0 hw0
  go_enter Try.func203, Try.ntmps203
  go_wp2_with fail
  rw [← HW0.out]
  refine (filled_any 3 w0).mono ?_
  rintro e u1 ⟨rfl, hc⟩
  have h1 := listB_any r 3 1 16777216 3 1 16777216 rfl rfl rfl (by decide) (by decide) s0 u1 (R0.out.non hc)
  have C1 : Hid (Chg Non w0 u1) := hc
  clear hc
  go_wp2_with (go_at_call 200; refine h1.mono ?_)
  rintro e w1 ⟨v, x1, rfl, hx⟩
  obtain ⟨a1, l1, c1, rfl⟩ := hx.slice
  have hy : RP (.byt) (pBytes 3 1 16777216) w0 w1 r s0 [.slice a1 l1 c1] x1 := (RP.byt hx).ahead C1.out
  obtain ⟨s1, q1, q2⟩ := hy.ps.st
  have H1 : Hid (RP (.byt) (pBytes 3 1 16777216) w0 w1 r s0 [.slice a1 l1 c1] x1 ∧ Res (pBytes 3 1 16777216) s0 x1 s1) := ⟨hy, q2⟩
  have R1 : Hid (RS w1 r s1) := q1
  clear hx hy q1 q2 h1
  have h2 := exts_any r s1 w1 R1.out
  go_wp2_with (go_at_call 115; refine h2.mono ?_)
  rintro e w2 ⟨a2, l2, c2, x2, rfl, hx⟩
  have hy := hx
  obtain ⟨s2, q1, q2⟩ := hy.ps.st
  have H2 : Hid (RP (.lst tExt) (pExts) w1 w2 r s1 [.slice a2 l2 c2] x2 ∧ Res (pExts) s1 x2 s2) := ⟨hy, q2⟩
  have R2 : Hid (RS w2 r s2) := q1
  clear hx hy q1 q2 h2
  have P2 := H2.out.1
  have P1 := H1.out.1.pair H1.out.2 P2 R0.out.lt
  have HP : Hid (∃ x, RP (tEntry) (pEntry) w0 w2 r s0 [.slice a1 l1 c1, .slice a2 l2 c2] x) := ⟨_, P1⟩
  have hB : w2.heap[w.heap.size]? = some (.cells #[.slice none 0 0, .slice none 0 0] 146) := by
    obtain ⟨x, hx⟩ := HP.out
    rw [hx.ps.chg.block w.heap.size H0.out.2.2.1 (fun e => by have e' : w.heap.size = r := e; have := H0.out.1; omega)]
    exact H0.out.2.2.2
  have y0 : w2.cell? ⟨w.heap.size, 0, none⟩ = some (.slice none 0 0) := by rw [cell_of_row w2 w.heap.size 0 _ 146 (0, 0) hB]; rfl
  have f0 := frozen_of_row w2 w.heap.size 0 _ _ hB
  have y1 : w2.cell? ⟨w.heap.size, 1, none⟩ = some (.slice none 0 0) := by rw [cell_of_row w2 w.heap.size 1 _ 146 (0, 0) hB]; rfl
  have f1 := frozen_of_row w2 w.heap.size 1 _ _ hB
  clear hB P2 P1
  go_wp2_with fail
  obtain ⟨x, hx⟩ := HP.out
  refine bodyPost_ret (v := .agg #[.slice a1 l1 c1, .slice a2 l2 c2]) ?_ rfl ⟨a1, l1, c1, a2, l2, c2, x, rfl, hx.outC H0.out.2.1 H0.out.2.2.1 ((chg_rest _ _ 0 _).one (chg_rest _ _ 1 _)) H0.out.1⟩
  simp [results, Try.results203, go_sem, y0, y1]
end Go.Proofs.Ytdhckndehijemaa
