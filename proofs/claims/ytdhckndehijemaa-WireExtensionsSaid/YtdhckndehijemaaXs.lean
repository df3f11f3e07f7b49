/-
  Extensions: a list, of which no type stands twice.
-/
import Derived.Test.YtdhckndehijemaaLe
namespace Go.Proofs.Ytdhckndehijemaa
open Go.RowKit
set_option linter.unusedVariables false
set_option maxRecDepth 100000

def pOddIf {α : Type} (p : Pr α) (c : α → Bool) : Pr α := pBind p fun l => pBind (pOdd (c l)) fun _ => pRet l
theorem pOddIf_shr {α : Type} {p : Pr α} (h : Shr p) (c : α → Bool) : Shr (pOddIf p c) := pBind_shr h fun _ => pBind_shq (pOdd_shq _) fun _ => pRet_shq _
def pExts : Pr (List Ext) := pOddIf (pList 2 0 16777216 pExt) fun l => dup (tys l)
theorem pExts_shr : Shr pExts := pOddIf_shr (pList_shr (by decide)) _

/-- Something odd is told, or not. -/
theorem RP.oddIf {t : Ty} {p : Pr t.Dat} {c : t.Dat → Bool} {a b b' : World} {r : Nat} {s s1 : St} {us : List Value} {x : t.Dat} (h : RP t p a b r s us x) (q : Res p s x s1) (k : PS (pOdd (c x)) b b' r s1 ()) (hr : r < a.heap.size) : RP t (pOddIf p c) a b' r s us x := by
  obtain ⟨s2, k1, k2⟩ := k.st
  exact ⟨(h.rel.chg k.chg (fun k e => by have e' : k = r := e; omega)).btw (Nat.le_refl _) k.chg.size, h.ps.chg.one k.chg, s2, k1, q.bind (k2.bind (Res.ret _ _))⟩
theorem PS.non {α : Type} {p : Pr α} {a b : World} {r : Nat} {s : St} {x : α} (h : PS p a a r s x) (k : Chg Non a b) : PS p a b r s x := h.after k

set_option maxHeartbeats 1600000 in
theorem exts_any (r : Nat) (s : St) (w : World) (h : RS w r s) : Calls Try.prog 115 #[.pointer (some ⟨r, 0, none⟩)] w fun e w' => ∃ ao L c x, e = .returned (.slice ao L c) ∧ RP (.lst tExt) pExts w w' r s [.slice ao L c] x := by
  have HR : Hid (r < w.heap.size) := h.lt
  go_enter Try.func115, Try.ntmps115
  go_wp2_with (go_at_call 197; refine (free_any 2 w).mono ?_)
  rintro e w2 ⟨rfl, hc⟩
  have h2 := listE_any r 2 0 16777216 2 0 16777216 rfl rfl rfl (by decide) (by decide) s w2 (h.non hc)
  have C2 : Hid (Chg Non w w2) := hc
  clear hc h
  go_wp2_with (go_at_call 196; refine h2.mono ?_)
  rintro e w3 ⟨v, x, rfl, hx⟩
  obtain ⟨ao, L, c, rfl⟩ := hx.slice
  obtain ⟨s1, q1, q2⟩ := hx.ps.st
  obtain ⟨v1, al, xs, m1, m2⟩ := q1
  have H2 : Hid (RP (.lst tExt) (pList 2 0 16777216 pExt) w w3 r s [.slice ao L c] x ∧ Res (pList 2 0 16777216 pExt) s x s1) := ⟨hx.ahead C2.out, q2⟩
  have HM : Hid (RM w3 r v1 al xs ∧ AB s1 xs al) := ⟨m1, m2⟩
  have h3 := twice_any _ _ x w3 hx.rel
  clear hx h2 q2 m1 m2
  go_wp2_with (go_at_call 199; refine h3.mono ?_)
  rintro e w4 ⟨rfl, hc4⟩
  have C4 : Hid (Chg Non w3 w4) := hc4
  clear hc4 h3
  cases hd : dup (tys x) with
  | false =>
    have HD : Hid (dup (tys x) = false) := hd
    clear hd
    go_wp2
    go_ret
    refine ⟨ao, L, c, x, rfl, (H2.out.1.oddIf (t := .lst tExt) (c := fun l => dup (tys l)) H2.out.2 ?_ HR.out)⟩
    show PS (pOdd (dup (tys x))) w3 w4 r s1 ()
    rw [HD.out]
    exact (PS.even ⟨_, _, _, HM.out.1, HM.out.2⟩).after C4.out
  | true =>
    have HD : Hid (dup (tys x) = true) := hd
    have h5 := refuse_any r 47 _ al xs w4 (HM.out.1.non C4.out)
    clear hd
    go_wp2_with (go_at_call 182; refine h5.mono ?_)
    rintro e w5 ⟨rfl, k1, k2⟩
    have HK : Hid (RM w5 r v1 (tell al 47) xs ∧ Chg (One r) w4 w5) := ⟨k1, k2⟩
    clear k1 k2 h5
    go_wp2
    go_ret
    refine ⟨ao, L, c, x, rfl, (H2.out.1.oddIf (t := .lst tExt) (c := fun l => dup (tys l)) H2.out.2 ?_ HR.out)⟩
    show PS (pOdd (dup (tys x))) w3 w5 r s1 ()
    rw [HD.out]
    exact (PS.odd (HM.out.1.non C4.out) HM.out.2 HK.out.1 HK.out.2).ahead C4.out
end Go.Proofs.Ytdhckndehijemaa
