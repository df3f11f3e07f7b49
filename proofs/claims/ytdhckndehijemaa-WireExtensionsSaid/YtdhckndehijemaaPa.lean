/-
  The parsers of the chapter's bodies, plainly; readings put together.
-/
import Derived.Test.YtdhckndehijemaaLb
namespace Go.Proofs.Ytdhckndehijemaa
open Go.RowKit
set_option linter.unusedVariables false
set_option maxRecDepth 100000

def pPair {α β : Type} (p : Pr α) (q : Pr β) : Pr (α × β) := pBind p fun x => pBind q fun y => pRet (x, y)
theorem pPair_shr {α β : Type} {p : Pr α} {q : Pr β} (h : Shr p) (k : Shq q) : Shr (pPair p q) := pBind_shr h fun _ => pBind_shq k fun _ => pRet_shq _
theorem pPair_shq {α β : Type} {p : Pr α} {q : Pr β} (h : Shq p) (k : Shq q) : Shq (pPair p q) := pBind_shq h fun _ => pBind_shq k fun _ => pRet_shq _

def pBytes (size least most : Nat) : Pr (List Int) := pList size least most (pDig 1)
theorem pBytes_shr {size least most : Nat} (h : 0 < size) : Shr (pBytes size least most) := pList_shr h

abbrev tExt : Ty := .pair (.num .u16) .byt
def pExt : Pr (Int × List Int) := pPair (pDig 2) (pBytes 2 0 16777216)
theorem pExt_shr : Shr pExt := pPair_shr (pDig_shr (by decide)) (pBytes_shr (by decide)).shq

theorem RP.pair {ta tb : Ty} {pa : Pr ta.Dat} {pb : Pr tb.Dat} {a b c : World} {r : Nat} {s s1 : St} {us1 us2 : List Value} {x1 : ta.Dat} {x2 : tb.Dat} (h1 : RP ta pa a b r s us1 x1) (q : Res pa s x1 s1) (h2 : RP tb pb b c r s1 us2 x2) (hr : r < a.heap.size) :
    RP (.pair ta tb) (pPair pa pb) a c r s (us1 ++ us2) (x1, x2) := by
  obtain ⟨s2, k1, k2⟩ := h2.ps.st
  refine ⟨⟨us1, us2, rfl, ?_, ?_⟩, h1.ps.chg.one h2.ps.chg, s2, k1, q.bind (k2.bind (Res.ret _ _))⟩
  · exact (h1.rel.chg h2.ps.chg (fun k e => by have e' : k = r := e; omega)).btw (Nat.le_refl _) h2.ps.chg.size
  · exact h2.rel.btw h1.ps.chg.size (Nat.le_refl _)
theorem RP.ahead {t : Ty} {p : Pr t.Dat} {a b c : World} {r : Nat} {s : St} {us : List Value} {x : t.Dat} (h : RP t p b c r s us x) (k : Chg Non a b) : RP t p a c r s us x :=
  ⟨h.rel.btw k.size (Nat.le_refl _), h.ps.ahead k⟩
theorem RP.after {t : Ty} {p : Pr t.Dat} {a b c : World} {r : Nat} {s : St} {us : List Value} {x : t.Dat} (h : RP t p a b r s us x) (k : Chg Non b c) : RP t p a c r s us x :=
  ⟨(h.rel.oldN k).btw (Nat.le_refl _) k.size, h.ps.after k⟩
/-- The result's own cell is new. -/
theorem RP.outC {t : Ty} {p : Pr t.Dat} {w w0 b b' : World} {r : Nat} {s : St} {us : List Value} {x : t.Dat} (h : RP t p w0 b r s us x) (k : Chg Non w w0) (k0 : w.heap.size < w0.heap.size) (c : Chg (One w.heap.size) b b') (hr : r < w.heap.size) : RP t p w b' r s us x := by
  obtain ⟨s2, k1, k2⟩ := h.ps.st
  refine ⟨(h.rel.chg c (fun i e => by have e' : i = w.heap.size := e; omega)).btw (by omega) c.size, ⟨((k.non _).trans h.ps.chg (fun _ _ q => q)).trans c (fun i hi e => by have e' : i = w.heap.size := e; omega), s2, k1.keep c (fun i e => by have e' : i = w.heap.size := e; omega), k2⟩⟩
theorem RP.map {t t' : Ty} {p : Pr t.Dat} {a b : World} {r : Nat} {s : St} {us : List Value} {x : t.Dat} (f : t.Dat → t'.Dat) (h : RP t p a b r s us x) (hf : Rel t (Btw a.heap.size b.heap.size) b us x → Rel t' (Btw a.heap.size b.heap.size) b us (f x)) : RP t' (pBind p fun y => pRet (f y)) a b r s us (f x) :=
  ⟨hf h.rel, h.ps.map f⟩
theorem RP.byt {p : Pr (List Int)} {a b : World} {r : Nat} {s : St} {us : List Value} {x : List Int} (h : RP (.lst (.num .u8)) p a b r s us x) : RP .byt p a b r s us x := ⟨h.rel.toByt, h.ps⟩
theorem RP.slice {t : Ty} {p : Pr (List t.Dat)} {a b : World} {r : Nat} {s : St} {v : Value} {x : List t.Dat} (h : RP (.lst t) p a b r s [v] x) : ∃ ao n c, v = .slice ao n c := by
  obtain ⟨ao, n, c, e, -⟩ := h.rel
  injection e with e
  exact ⟨ao, n, c, e⟩

theorem chg_two (w : World) (B : Nat) (a b : Value) : Chg (One B) w ((w.setCell ⟨B, 0, none⟩ a).setCell ⟨B, 1, none⟩ b) := (chg_rest w B 0 a).one (chg_rest _ B 1 b)

theorem und23 : Try.prog.underlying 23 = some (.slice 5) := Try.underlying23

set_option maxHeartbeats 1600000 in
theorem ext_any (r : Nat) (s : St) (w : World) (h : RS w r s) : Calls Try.prog 198 #[.pointer (some ⟨r, 0, none⟩)] w fun e w' => ∃ n ao L c x, e = .returned (.agg #[.int .u16 n, .slice ao L c]) ∧ RP tExt pExt w w' r s [.int .u16 n, .slice ao L c] x := by
  obtain ⟨w0, hw0⟩ : ∃ w0, w0 = w.alloc (.cells #[.int .u16 0, .slice none 0 0] 135) := ⟨_, rfl⟩
  have c0 : Chg Non w w0 := by rw [hw0]; exact (Chg.refl _ _).alloc _
  have H0 : Hid (r < w.heap.size ∧ Chg Non w w0 ∧ w.heap.size < w0.heap.size ∧ w0.heap[w.heap.size]? = some (.cells #[.int .u16 0, .slice none 0 0] 135)) := ⟨h.lt, c0, by rw [hw0]; simp, by rw [hw0]; exact heap_alloc_last w _⟩
  have HW0 : Hid (w0 = w.alloc (.cells #[.int .u16 0, .slice none 0 0] 135)) := hw0
  have h1 := number_any r s w0 (h.non c0)
  clear h c0 hw0
  go_enter Try.func198, Try.ntmps198
  go_wp2_with fail
  rw [← HW0.out]
  refine h1.mono ?_
  rintro e w1 ⟨n, rfl, hn⟩
  obtain ⟨s1, q1, q2⟩ := hn.ps.st
  have H1 : Hid (RP (.num .u16) (pDig 2) w0 w1 r s [.int .u16 n] n ∧ Res (pDig 2) s n s1 ∧ RS w1 r s1) := ⟨hn.rp2, q2, q1⟩
  clear hn q1 q2 h1
  go_wp2_with (go_at_call 197; refine (free_any 2 w1).mono ?_)
  rintro e w2 ⟨rfl, hc⟩
  have h2 := listB_any r 2 0 16777216 2 0 16777216 rfl rfl rfl (by decide) (by decide) s1 w2 (H1.out.2.2.non hc)
  have C2 : Hid (Chg Non w1 w2) := hc
  clear hc
  go_wp2_with (go_at_call 200; refine h2.mono ?_)
  rintro e w3 ⟨v, x, rfl, hx⟩
  obtain ⟨ao, L, c, rfl⟩ := hx.slice
  have H2 : Hid (RP tExt pExt w0 w3 r s [.int .u16 n, .slice ao L c] (n, x)) := H1.out.1.pair H1.out.2.1 ((RP.byt hx).ahead C2.out) (Nat.lt_trans H0.out.1 H0.out.2.2.1)
  have hB : w3.heap[w.heap.size]? = some (.cells #[.int .u16 0, .slice none 0 0] 135) := by
    rw [H2.out.ps.chg.block w.heap.size H0.out.2.2.1 (fun e => by have e' : w.heap.size = r := e; have := H0.out.1; omega)]
    exact H0.out.2.2.2
  obtain ⟨y0, y1⟩ := cell2 hB
  have f0 := frozen_of_row w3 w.heap.size 0 _ _ hB
  have f1 := frozen_of_row w3 w.heap.size 1 _ _ hB
  clear hx hB h2
  go_wp2_with fail
  refine bodyPost_ret (v := .agg #[.int .u16 n, .slice ao L c]) ?_ rfl ⟨n, ao, L, c, _, rfl, H2.out.outC H0.out.2.1 H0.out.2.2.1 (chg_two _ _ _ _) H0.out.1⟩
  simp [results, Try.results198, go_sem, y0, y1]
end Go.Proofs.Ytdhckndehijemaa
