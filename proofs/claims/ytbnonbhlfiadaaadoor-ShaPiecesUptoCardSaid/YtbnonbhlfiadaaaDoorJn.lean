/-
  The law's join, and its loops that count bytes on.
-/
import Derived.Test.YtbnonbhlfiadaaaDoorApL
import Derived.Test.YtbnonbhlfiadaaaDoorBlk
namespace Go.Proofs.YtbnonbhlfiadaaaDoor
open Go.RowKit
set_option linter.unusedVariables false

theorem PtR.chg {w w' : World} {v : Value} {xss : List (List Int)} (h : PtR w v xss) (k : Chg w w') : PtR w' v xss := by
  rcases h with h | h | ⟨b, o, cap, h1, h2, h3⟩
  · exact .inl h
  · exact .inr (.inl h)
  · refine .inr (.inr ⟨b, o, cap, h1, h2, fun j xs hj => ?_⟩)
    obtain ⟨u, g1, g2⟩ := h3 j xs hj
    exact ⟨u, cell_at k g1, Rd.chg g2 k⟩
theorem PtR.shape {w : World} {v : Value} {xss : List (List Int)} (h : PtR w v xss) : ∃ n p cap, n = xss.length ∧ v = .slice p n cap ∧ n < 281474976710657 := by
  rcases h with ⟨e1, e2⟩ | ⟨a, cap, e1, e2⟩ | ⟨b, o, cap, e1, e2, _⟩
  · exact ⟨0, none, 0, by rw [e2]; rfl, e1, by decide⟩
  · exact ⟨0, some a, cap, by rw [e2]; rfl, e1, by decide⟩
  · exact ⟨_, _, _, rfl, e1, e2⟩
/-- One of the parts. -/
theorem PtR.part {w : World} {p : Option Addr} {n cap : Nat} {xss : List (List Int)} (h : PtR w (.slice p n cap) xss) {i : Nat} (hi : i < xss.length) : ∃ b o u, p = some ⟨b, o, none⟩ ∧ n = xss.length ∧ w.cell? ⟨b, o + i, none⟩ = some u ∧ Ap.Rd w u xss[i] := by
  rcases h with ⟨e1, e2⟩ | ⟨a, cap, e1, e2⟩ | ⟨b, o, cap, e1, e2, e3⟩
  · rw [e2] at hi
    exact absurd hi (Nat.not_lt_zero i)
  · rw [e2] at hi
    exact absurd hi (Nat.not_lt_zero i)
  · injection e1 with e4 e5 e6
    obtain ⟨u, g1, g2⟩ := e3 i xss[i] (List.getElem?_eq_getElem hi)
    exact ⟨b, o, u, e4, e5, g1, g2⟩
theorem flat_take {xss : List (List Int)} {i : Nat} (hi : i < xss.length) : (xss.take (i + 1)).flatten = (xss.take i).flatten ++ xss[i] := by
  rw [List.take_add_one, List.getElem?_eq_getElem hi, List.flatten_append]
  simp
theorem flat_le (xss : List (List Int)) (i : Nat) : (xss.take i).flatten.length ≤ xss.flatten.length := by
  have : xss.flatten = (xss.take i).flatten ++ (xss.drop i).flatten := by rw [← List.flatten_append, List.take_append_drop]
  rw [this, List.length_append]
  omega

set_option maxRecDepth 100000 in
set_option maxHeartbeats 4000000 in
theorem join_any (v : Value) (xss : List (List Int)) (w : World) (hp : PtR w v xss) (hl : xss.flatten.length ≤ 140737488351232) :
    Calls Tryd.prog 19 #[v] w fun r w' => ∃ v', r = .returned v' ∧ OwnN w w' v' xss.flatten := by
  obtain ⟨n, p, cap, hn, rfl, hnb⟩ := hp.shape
  have HX : Hid (PtR w (.slice p n cap) xss ∧ n = xss.length ∧ xss.flatten.length ≤ 140737488351232) := ⟨hp, hn, hl⟩
  clear hp hn hl
  go_enter Tryd.func19, Tryd.ntmps19
  go_wp2_with fail
  go_loopw [3, 4] (fun v3 v4 wr => ∃ (i : Nat), v4 = .int .i64 i ∧ i ≤ n ∧ OwnN w wr v3 (xss.take i).flatten) (fun v3 v4 wr => n - (intOf v4).toNat)
  case atStart => exact ⟨0, rfl, by omega, .inl ⟨rfl, rfl⟩, (fun k e => by simp [Value.ownBlock] at e), Ap.Chg.refl _ w⟩
  case round =>
    obtain ⟨i, rfl, hi, ho⟩ := hrel
    obtain ⟨so, sm, sc, rfl, -⟩ := ho.own.rd.shape
    have H : Hid (OwnN w wr (.slice so sm sc) (xss.take i).flatten) := ho
    clear ho
    by_cases hin : i < n
    · have hid : decide ((i : Int) < n) = true := by simp; omega
      have li : (i : Int) < n := by omega
      have hlt : i < xss.length := by have := HX.out.2.1; omega
      obtain ⟨b, o, u, rfl, -, g1, g2⟩ := HX.out.1.part (i := i) hlt
      have hfl := flat_take hlt
      have h1 := flat_le xss (i + 1)
      obtain ⟨ys, hys⟩ : ∃ ys, ys = xss[i]'hlt := ⟨_, rfl⟩
      rw [← hys] at g2 hfl
      rw [hfl, List.length_append] at h1
      have c0 := cell_at (Chg.ofAp H.out.chg) g1
      have r0 := Rd.chg g2 (Chg.ofAp H.out.chg)
      obtain ⟨uo, un, uc, rfl, -⟩ := r0.shape
      have HR : Hid (Ap.Rd wr (.slice uo un uc) ys ∧ (xss.take i).flatten.length + ys.length ≤ 140737488351232 ∧ (xss.take (i + 1)).flatten = (xss.take i).flatten ++ ys) := ⟨r0, by have := HX.out.2.2; omega, hfl⟩
      clear hlt hys g1 g2 r0 h1 hfl
      go_wp2_with (at_builtin; refine Ap.wpList_app _ rfl _ _ rfl (.slice so sm sc) (.slice uo un uc) (xss.take i).flatten ys rfl rfl H.out.own HR.out.1 (by have := HR.out.2.1; omega) ?_)
      intro v2 w2 o2 c2 b2
      have Z : Hid (OwnN w w2 v2 (xss.take (i + 1)).flatten) := by
        have := H.out.more o2 c2 b2
        show OwnN _ _ _ _
        rw [HR.out.2.2]
        exact this
      clear o2 c2 b2
      go_wp2_with fail
      refine ⟨⟨i + 1, by go_num, by omega, Z.out⟩, ?_⟩
      simp [intOf]
      omega
    · have hid : decide ((i : Int) < n) = false := by simp; omega
      have Z : Hid (OwnN w wr (.slice so sm sc) xss.flatten) := by
        have := H.out
        have e : xss.take i = xss := List.take_of_length_le (by have := HX.out.2.1; omega)
        rw [e] at this
        exact this
      clear H
      go_wp2
      go_ret
      exact ⟨_, rfl, Z.out⟩
end Go.Proofs.YtbnonbhlfiadaaaDoor
