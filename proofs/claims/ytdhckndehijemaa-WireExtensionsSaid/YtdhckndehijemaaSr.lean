/-
  Texts that are read.
-/
import Derived.Test.YtdhckndehijemaaMt
namespace Go.Proofs.Ytdhckndehijemaa
open Go.RowKit
set_option linter.unusedVariables false
set_option maxRecDepth 100000

theorem PS.then {α β : Type} {p : Pr α} {q : Pr β} {a b c : World} {r : Nat} {s s1 : St} {x : α} {y : β} (h : PS p a b r s x) (e : Res p s x s1) (k : PS q b c r s1 y) : PS (pBind p fun _ => q) a c r s y := by
  obtain ⟨s2, k1, k2⟩ := k.st
  exact ⟨h.chg.one k.chg, s2, k1, e.bind k2⟩
def pHost : Pr (List Int) := pBind (pOnly 0) fun _ => pBytes 2 1 16777216
theorem pHost_shr : Shr pHost := pBind_shr (pOnly_shr 0) fun _ => (pBytes_shr (by decide)).shq


set_option maxHeartbeats 1600000 in
theorem protocol_any (r : Nat) (s : St) (w : World) (h : RS w r s) : Calls Try.prog 212 #[.pointer (some ⟨r, 0, none⟩)] w fun e w' => ∃ S x, e = .returned (.string S) ∧ RP .str (pBytes 1 1 16777216) w w' r s [.string S] x := by
  go_enter Try.func212, Try.ntmps212
  go_wp2_with (go_at_call 185; refine (filled_any 1 w).mono ?_)
  rintro e w2 ⟨rfl, hc⟩
  have h2 := listB_any r 1 1 16777216 1 1 16777216 rfl rfl rfl (by decide) (by decide) s w2 (h.non hc)
  have C2 : Hid (Chg Non w w2) := hc
  clear hc h
  go_wp2_with (go_at_call 200; refine h2.mono ?_)
  rintro e w3 ⟨v, x, rfl, hx⟩
  obtain ⟨ao, L, c, rfl⟩ := hx.slice
  have hy := (RP.byt hx).ahead C2.out
  obtain ⟨v', e1, e2, e3, -⟩ := hy.rel
  injection e1 with e1
  subst e1
  have hs := run_str w3 _ x e2
  have H2 : Hid (RP .str (pBytes 1 1 16777216) w w3 r s [.string (strOfNums x)] x) := ⟨⟨rfl, e3⟩, hy.ps⟩
  obtain ⟨S, hS⟩ : ∃ S, S = strOfNums x := ⟨_, rfl⟩
  rw [← hS] at hs H2
  clear hx h2 hy e2 e3 hS
  go_wp2
  go_ret
  exact ⟨S, x, rfl, H2.out⟩

set_option maxHeartbeats 1600000 in
theorem host_any (r : Nat) (s : St) (w : World) (h : RS w r s) : Calls Try.prog 211 #[.pointer (some ⟨r, 0, none⟩)] w fun e w' => ∃ S x, e = .returned (.string S) ∧ RP .str (pHost) w w' r s [.string S] x := by
  have hO := only_any r 0 s w h
  go_enter Try.func211, Try.ntmps211
  go_wp2_with (go_at_call 219; refine hO.mono ?_)
  rintro e w1 ⟨rfl, hp⟩
  obtain ⟨s1, q1, q2⟩ := hp.st
  have HO : Hid (PS (pOnly 0) w w1 r s () ∧ Res (pOnly 0) s () s1) := ⟨hp, q2⟩
  have h1 := q1
  clear hp q1 q2 hO h
  go_wp2_with (go_at_call 185; refine (filled_any 2 w1).mono ?_)
  rintro e w2 ⟨rfl, hc⟩
  have h2 := listB_any r 2 1 16777216 2 1 16777216 rfl rfl rfl (by decide) (by decide) s1 w2 (h1.non hc)
  have C2 : Hid (Chg Non w1 w2) := hc
  clear hc h1
  go_wp2_with (go_at_call 200; refine h2.mono ?_)
  rintro e w3 ⟨v, x, rfl, hx⟩
  obtain ⟨ao, L, c, rfl⟩ := hx.slice
  have hy := (RP.byt hx).ahead C2.out
  obtain ⟨v', e1, e2, e3, -⟩ := hy.rel
  injection e1 with e1
  subst e1
  have hs := run_str w3 _ x e2
  have H2 : Hid (RP .str (pBytes 2 1 16777216) w1 w3 r s1 [.string (strOfNums x)] x) := ⟨⟨rfl, e3⟩, hy.ps⟩
  obtain ⟨S, hS⟩ : ∃ S, S = strOfNums x := ⟨_, rfl⟩
  rw [← hS] at hs H2
  clear hx h2 hy e2 e3 hS
  go_wp2
  go_ret
  exact ⟨S, x, rfl, ⟨H2.out.rel.btw HO.out.1.chg.size (Nat.le_refl _), HO.out.1.then HO.out.2 H2.out.ps⟩⟩
end Go.Proofs.Ytdhckndehijemaa
