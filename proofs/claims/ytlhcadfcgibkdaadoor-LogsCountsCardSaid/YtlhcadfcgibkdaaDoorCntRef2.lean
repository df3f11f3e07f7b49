/-
  The document's Count: the walk.
-/
import Derived.Test.YtlhcadfcgibkdaaDoorCntMath
import Derived.Deep.LoopGhost
import Derived.Deep.CutBlock
namespace Go.Proofs.YtlhcadfcgibkdaaDoor
open Go.RowKit
set_option linter.unusedVariables false
set_option maxRecDepth 100000

/-- The list that is made, and the box of the one at hand. -/
structure CI (w wc : World) (B : Nat) (ov : Value) (O : List Ent) (cs : ByteArray) (m : Nat) : Prop where
  rp : RefP w wc ov O
  box : wc.heap[B]? = some (.cells #[.string cs, .int .u64 m] 56 (0, 0))
  ne : ov.ownBlock ≠ some B
  bge : w.heap.size ≤ B

theorem CI.app {w wc w2 : World} {B : Nat} {ov v2 : Value} {O : List Ent} {cs : ByteArray} {m : Nat} {e : Ent} (h : CI w wc B ov O cs m) (ho : COwn w2 v2 (O ++ [e])) (hc : Chg (fun k => ov.ownBlock = some k) wc w2) (hk : v2.ownBlock = ov.ownBlock ∨ ∃ n, v2.ownBlock = some n ∧ wc.heap.size ≤ n) : CI w w2 B v2 (O ++ [e]) cs m := by
  have hB := (Array.getElem?_eq_some_iff.1 h.box).1
  refine ⟨h.rp.app ho hc hk, by rw [hc.block B hB h.ne]; exact h.box, ?_, h.bge⟩
  rcases hk with x | ⟨n, x, hn⟩
  · rw [x]; exact h.ne
  · rw [x]
    intro e
    cases e
    omega
theorem CI.set {w wc : World} {B : Nat} {ov : Value} {O : List Ent} {cs : ByteArray} {m : Nat} (h : CI w wc B ov O cs m) (k : Nat) : CI w (wc.setCell ⟨B, 1, none⟩ (.int .u64 k)) B ov O cs k :=
  ⟨h.rp.box h.bge h.ne 1 _, by simp [World.setCell, Array.getElem?_modify, h.box], h.ne, h.bge⟩

theorem CI.start {w wr : World} {ov : Value} {O : List Ent} (h : RefP w wr ov O) (cs : ByteArray) (m : Nat) : CI w (wr.alloc (.cells #[.string cs, .int .u64 m] 56)) wr.heap.size ov O cs m :=
  ⟨h.boxed _, heap_alloc_new wr _, fun e => by have := h.own.lt _ e; omega, h.chg.size⟩

set_option maxHeartbeats 2000000 in
theorem refCount_yes (v : Value) (R : List Ent) (s : ByteArray) (n : Nat) (w : World) (h : COwn w v R) (hs : s.size ≤ 9223372036854775807) (hn : n < 18446744073709551616) (hR : ∀ e ∈ R, e.n < 18446744073709551616) (hb : (R.length + 1) * 24 ≤ 140737488355328) (hw : isWd s.data.toList = true) :
    Calls Tryd.prog 18 #[v, .string s, .int .u64 n] w fun e w' => ∃ v', e = .returned (.tuple #[v', .int .i64 0]) ∧ RefP w w' v' (goR s.data.toList n false R) := by
  obtain ⟨ao, c, rfl, hlc, hcm, hnil, hg0⟩ := h.shape
  obtain ⟨ln, hln⟩ : ∃ ln, ln = R.length := ⟨_, rfl⟩
  have H : Hid (COwn w (.slice ao R.length c) R ∧ ln = R.length ∧ (∀ e ∈ R, e.n < 18446744073709551616)) := ⟨h, hln, hR⟩
  rw [← hln] at hb hlc ⊢
  clear h hnil hg0 hR hln
  go_enter Tryd.func18, Tryd.ntmps18
  go_wp2_with fail
  refine (word_any _ _ hs).mono ?_
  rintro e w ⟨rfl, rfl⟩
  rw [hw]
  go_wp2_with fail
  go_loopg [9, 10, 11, 12] ln (fun m ov dv i _ wr => ∃ (k : Nat) (d : Bool) (O : List Ent) (oo : Option Addr) (oc : Nat), i = .int .i64 k ∧ dv = .bool d ∧ ov = .slice oo O.length oc ∧ m = ln - k ∧ k ≤ ln ∧ RefP w wr ov O ∧ O ++ goR s.data.toList n d (R.drop k) = goR s.data.toList n false R)
  case atStart => exact ⟨0, false, [], none, 0, rfl, rfl, rfl, rfl, by omega, ⟨COwn.nil _, Chg.refl _ _, fun k e => by simp [Value.ownBlock] at e⟩, by simp⟩
  case round =>
    obtain ⟨k, d, O, oo, oc, rfl, rfl, rfl, hm, hk, hP, hO⟩ := hrel
    have hOl : O.length + (goR s.data.toList n d (R.drop k)).length ≤ ln + 1 := by
      have h1 := congrArg List.length hO
      rw [List.length_append] at h1
      have h2 := goR_len s.data.toList n false R
      have := H.out.2.1
      omega
    have HP : Hid (RefP w wr (.slice oo O.length oc) O ∧ gk = ln - k ∧ O ++ goR s.data.toList n d (R.drop k) = goR s.data.toList n false R ∧ O.length + (goR s.data.toList n d (R.drop k)).length ≤ ln + 1) := ⟨hP, hm, hO, hOl⟩
    clear hP hO hm hOl
    by_cases hlt : k < ln
    · have hkl : k < R.length := by have := H.out.2.1; omega
      have hat : R[k]? = some (R[k]'hkl) := by simp
      obtain ⟨e, he⟩ : ∃ e, e = R[k]'hkl := ⟨_, rfl⟩
      rw [← he] at hat
      have hdrop : R.drop k = e :: R.drop (k + 1) := by rw [he]; exact List.drop_eq_getElem_cons hkl
      have hown : COwn wr (.slice ao R.length c) R := H.out.1.keep (fun j x => HP.out.1.chg.block j (H.out.1.lt j x) (fun y => y))
      obtain ⟨g, rfl⟩ : ∃ g, ao = some ⟨g, 0, none⟩ := by
        obtain ⟨ao', c', e', -, -, hn', hg'⟩ := hown.shape
        cases e'
        cases ao with
        | none => have := (hn' rfl).1; rw [this] at hat; simp at hat
        | some x => obtain ⟨g, rfl⟩ := hg' x rfl; exact ⟨g, rfl⟩
      have d0 := hown.cell hat 0 (by omega)
      have d1 := hown.cell hat 1 (by omega)
      simp [cntL] at d0 d1
      have hen : e.n < 18446744073709551616 := H.out.2.2 e (List.mem_of_getElem? hat)
      obtain ⟨nmE, nE⟩ := e
      simp only at d0 d1 hen
      obtain ⟨cs, hcs⟩ : ∃ cs : ByteArray, cs = ⟨nmE.toArray⟩ := ⟨_, rfl⟩
      have hcl : cs.toList = nmE := by rw [ByteArray.toList_eq, hcs]
      have hsl : s.toList = s.data.toList := ByteArray.toList_eq s
      rw [← hcs] at d0
      have HD : Hid (R.drop k = ⟨nmE, nE⟩ :: R.drop (k + 1) ∧ cs = ⟨nmE.toArray⟩ ∧ cs.toList = nmE ∧ s.toList = s.data.toList) := ⟨hdrop, hcs, hcl, hsl⟩
      have HC : Hid (CI w (wr.alloc (.cells #[.string cs, .int .u64 nE] 56)) wr.heap.size (.slice oo O.length oc) O cs nE) := CI.start HP.out.1 cs nE
      obtain ⟨lt, hlt'⟩ : ∃ lt, Op.bytesLess cs.toList s.toList = lt := ⟨_, rfl⟩
      obtain ⟨eq, heq'⟩ : ∃ eq, (cs.toList == s.toList) = eq := ⟨_, rfl⟩
      have HG : Hid (gtB s.data.toList nmE = (!lt && !eq) ∧ (nmE == s.data.toList) = eq) := by
        refine ⟨?_, by rw [← heq', hcl, hsl]⟩
        unfold gtB
        rw [← hlt', ← heq', hcl, hsl, Bool.and_comm]
      clear hown hat he hdrop hcs hcl hsl
      cases d
      · obtain ⟨O1, hO1⟩ : ∃ O1, O1 = O ++ (if !false && (!lt && !eq) then [(⟨s.data.toList, n⟩ : Ent)] else []) := ⟨_, rfl⟩
        obtain ⟨x, hx⟩ : ∃ x : Ent, x = ⟨nmE, if eq then sumU nE n else nE⟩ := ⟨_, rfl⟩
        have HO : Hid (O1 ++ (x :: goR s.data.toList n (false || (!lt && !eq) || eq) (R.drop (k + 1))) = goR s.data.toList n false R) := by
          have h1 := HP.out.2.2.1
          rw [HD.out.1, goR_cons] at h1
          simp only [HG.out.1, HG.out.2] at h1
          show _ = _
          rw [← h1, hO1, hx, List.append_assoc]
          congr 2
          cases heqb : eq
          · rfl
          · have : nmE = s.data.toList := by have := HG.out.2; rw [heqb] at this; simpa using this
            rw [this]; rfl
        have hOl : O1.length + 1 ≤ ln + 1 := by
          have h1 := congrArg List.length HO.out
          rw [List.length_append, List.length_cons] at h1
          have h2 := goR_len s.data.toList n false R
          have := H.out.2.1
          omega
        have hO0 : O.length ≤ O1.length := by rw [hO1]; simp
        have HO1 : Hid (O1 = O ++ (if !false && (!lt && !eq) then [(⟨s.data.toList, n⟩ : Ent)] else [])) := hO1
        have HX : Hid (x = ⟨nmE, if eq then sumU nE n else nE⟩) := hx
        clear hO1 hx
        go_upto_if 35 with fail
        go_cut [9, 10] from 36 to 41 (fun ov dv wc => ∃ (o1 : Option Addr) (l1 c1 : Nat), ov = .slice o1 l1 c1 ∧ dv = .bool (false || (!lt && !eq)) ∧ CI w wc wr.heap.size (.slice o1 l1 c1) O1 cs nE)
        case first =>
          have HN2 : Hid ((!lt && !eq) = true → O1 = O ++ [⟨s.data.toList, n⟩]) := by intro x; rw [HO1.out, x]; simp
          have HN : Hid ((!lt && !eq) = false → O1 = O) := by intro x; rw [HO1.out, x]; simp
          cases lt <;> cases eq
          · go_wp2_with (at_builtin; refine wpList_appD (wr.alloc (.cells #[.string cs, .int .u64 nE] 56)) rfl _ _ rfl (.slice oo O.length oc) O s n ⟨s.data.toList, n⟩ rfl rfl rfl (by show Value.slice (some ⟨wr.heap.size + 1, 0, none⟩) 1 1 = _; simp) HC.out.rp.own (by omega) ?_)
            intro v3 w3 ho3 hc3 hk3
            have HE3 : Hid (CI w w3 wr.heap.size v3 O1 cs nE) := by
              rw [HN2.out (by first | rfl | trivial)]
              exact HC.out.app ho3 hc3 (hk3.imp id (fun ⟨m, e, hm⟩ => ⟨m, e, by simpa using hm⟩))
            obtain ⟨ao3, n3, c3, rfl⟩ := shapeC ho3
            clear ho3 hc3 hk3
            go_wp2_with fail
            go_meet
            case rel => exact ⟨ao3, n3, c3, rfl, by simp, HE3.out⟩
          all_goals
            go_wp2_with fail
            go_meet
            case rel => exact ⟨oo, O.length, oc, rfl, by simp, by rw [HN.out (by first | rfl | trivial)]; exact HC.out⟩
        case rest =>
          obtain ⟨o1, l1, c1, rfl, rfl, hC1⟩ := hcut
          obtain ⟨wo, hwo⟩ : ∃ wo, wo = wc := ⟨_, rfl⟩
          subst hwo
          have H1 : Hid (CI w wo wr.heap.size (.slice o1 l1 c1) O1 cs nE) := hC1
          have q0 : wo.cell? ⟨wr.heap.size, 0, none⟩ = some (.string cs) := by rw [cell_of_row _ _ _ _ _ _ hC1.box]; rfl
          have q1 : wo.cell? ⟨wr.heap.size, 1, none⟩ = some (.int .u64 nE) := by rw [cell_of_row _ _ _ _ _ _ hC1.box]; rfl
          have fz : wo.frozen? ⟨wr.heap.size, 1, none⟩ = false := Lib.frozen_of_heap hC1.box 1
          clear hC1 d0 d1
          go_upto_if 45 with fail
          go_cut [10] from 46 to 56 (fun dv wc => dv = .bool (false || (!lt && !eq) || eq) ∧ CI w wc wr.heap.size (.slice o1 l1 c1) O1 cs x.n)
          case first =>
            have HXf : Hid (eq = false → x.n = nE) := by intro y; rw [HX.out, y]; rfl
            have HXt : Hid (eq = true → x.n = sumU nE n) := by intro y; rw [HX.out, y]; rfl
            by_cases hov : (18446744073709551615 : Int) - n < nE
            · have HS : Hid (sumU nE n = 18446744073709551615) := by
                show sumU nE n = _
                unfold sumU
                rw [if_pos (by omega)]
              cases lt <;> cases eq
              all_goals
                go_wp2_with fail
                go_meet
              · exact ⟨by simp, by rw [HXf.out (by first | rfl | trivial)]; exact H1.out⟩
              · exact ⟨by simp, by rw [HXt.out (by first | rfl | trivial), HS.out]; exact H1.out.set _⟩
              · exact ⟨by simp, by rw [HXf.out (by first | rfl | trivial)]; exact H1.out⟩
              · exact ⟨by simp, by rw [HXt.out (by first | rfl | trivial), HS.out]; exact H1.out.set _⟩
            · have HS : Hid (sumU nE n = nE + n) := by
                show sumU nE n = _
                unfold sumU
                rw [if_neg (by omega)]
              have hadd : (nE : Int) + n ≤ 18446744073709551615 := by omega
              have hov' : (nE : Int) ≤ 18446744073709551615 - n := by omega
              have HSet : Hid (CI w (wo.setCell ⟨wr.heap.size, 1, none⟩ (.int .u64 ((nE : Int) + n))) wr.heap.size (.slice o1 l1 c1) O1 cs (nE + n)) := by
                have := H1.out.set (nE + n)
                exact_mod_cast this
              cases lt <;> cases eq
              all_goals
                go_wp2_with fail
                go_meet
              · exact ⟨by simp, by rw [HXf.out (by first | rfl | trivial)]; exact H1.out⟩
              · exact ⟨by simp, by rw [HXt.out (by first | rfl | trivial), HS.out]; exact HSet.out⟩
              · exact ⟨by simp, by rw [HXf.out (by first | rfl | trivial)]; exact H1.out⟩
              · exact ⟨by simp, by rw [HXt.out (by first | rfl | trivial), HS.out]; exact HSet.out⟩
          case rest =>
            obtain ⟨rfl, hC2⟩ := hcut
            obtain ⟨wp, hwp⟩ : ∃ wp, wp = wc := ⟨_, rfl⟩
            subst hwp
            obtain ⟨m, hm⟩ : ∃ m : Nat, m = x.n := ⟨_, rfl⟩
            rw [← hm] at hC2
            have H2 : Hid (CI w wp wr.heap.size (.slice o1 l1 c1) O1 cs m ∧ cs = ⟨x.name.toArray⟩ ∧ m = x.n) := ⟨hC2, by rw [HX.out]; exact HD.out.2.1, hm⟩
            clear q0 q1 fz H1
            have q0 : wp.cell? ⟨wr.heap.size, 0, none⟩ = some (.string cs) := by rw [cell_of_row _ _ _ _ _ _ hC2.box]; rfl
            have q1 : wp.cell? ⟨wr.heap.size, 1, none⟩ = some (.int .u64 m) := by rw [cell_of_row _ _ _ _ _ _ hC2.box]; rfl
            clear hC2 hm
            go_wp2_with (at_builtin; refine wpList_appD wp rfl _ _ rfl (.slice o1 l1 c1) O1 cs m x H2.out.2.1 (by rw [H2.out.2.2]) rfl rfl H2.out.1.rp.own (by omega) ?_)
            intro v4 w4 ho4 hc4 hk4
            have HE : Hid (RefP w w4 v4 (O1 ++ [x]) ∧ (O1 ++ [x]) ++ goR s.data.toList n (false || (!lt && !eq) || eq) (R.drop (k + 1)) = goR s.data.toList n false R) := ⟨H2.out.1.rp.app ho4 hc4 hk4, by rw [List.append_assoc]; exact HO.out⟩
            generalize hqs : O1 ++ [x] = qs at *
            clear hqs
            obtain ⟨ao4, c4, rfl, -⟩ := ho4.shape
            clear ho4 hc4 hk4 q0 q1
            go_wp2_with fail
            go_roundg (ln - (k + 1))
            case measure => have := HP.out.2.1; omega
            case rel => exact ⟨k + 1, _, qs, ao4, c4, by go_num, rfl, rfl, rfl, by omega, HE.out.1, HE.out.2⟩
      · obtain ⟨O1, hO1⟩ : ∃ O1, O1 = O ++ (if !true && (!lt && !eq) then [(⟨s.data.toList, n⟩ : Ent)] else []) := ⟨_, rfl⟩
        obtain ⟨x, hx⟩ : ∃ x : Ent, x = ⟨nmE, if eq then sumU nE n else nE⟩ := ⟨_, rfl⟩
        have HO : Hid (O1 ++ (x :: goR s.data.toList n (true || (!lt && !eq) || eq) (R.drop (k + 1))) = goR s.data.toList n false R) := by
          have h1 := HP.out.2.2.1
          rw [HD.out.1, goR_cons] at h1
          simp only [HG.out.1, HG.out.2] at h1
          show _ = _
          rw [← h1, hO1, hx, List.append_assoc]
          congr 2
          cases heqb : eq
          · rfl
          · have : nmE = s.data.toList := by have := HG.out.2; rw [heqb] at this; simpa using this
            rw [this]; rfl
        have hOl : O1.length + 1 ≤ ln + 1 := by
          have h1 := congrArg List.length HO.out
          rw [List.length_append, List.length_cons] at h1
          have h2 := goR_len s.data.toList n false R
          have := H.out.2.1
          omega
        have hO0 : O.length ≤ O1.length := by rw [hO1]; simp
        have HO1 : Hid (O1 = O ++ (if !true && (!lt && !eq) then [(⟨s.data.toList, n⟩ : Ent)] else [])) := hO1
        have HX : Hid (x = ⟨nmE, if eq then sumU nE n else nE⟩) := hx
        clear hO1 hx
        go_upto_if 35 with fail
        go_cut [9, 10] from 36 to 41 (fun ov dv wc => ∃ (o1 : Option Addr) (l1 c1 : Nat), ov = .slice o1 l1 c1 ∧ dv = .bool (true || (!lt && !eq)) ∧ CI w wc wr.heap.size (.slice o1 l1 c1) O1 cs nE)
        case first =>
          have HN : Hid (O1 = O) := by show O1 = O; rw [HO1.out]; simp
          go_wp2_with fail
          go_meet
          case rel => exact ⟨oo, O.length, oc, rfl, by simp, by rw [HN.out]; exact HC.out⟩
        case rest =>
          obtain ⟨o1, l1, c1, rfl, rfl, hC1⟩ := hcut
          obtain ⟨wo, hwo⟩ : ∃ wo, wo = wc := ⟨_, rfl⟩
          subst hwo
          have H1 : Hid (CI w wo wr.heap.size (.slice o1 l1 c1) O1 cs nE) := hC1
          have q0 : wo.cell? ⟨wr.heap.size, 0, none⟩ = some (.string cs) := by rw [cell_of_row _ _ _ _ _ _ hC1.box]; rfl
          have q1 : wo.cell? ⟨wr.heap.size, 1, none⟩ = some (.int .u64 nE) := by rw [cell_of_row _ _ _ _ _ _ hC1.box]; rfl
          have fz : wo.frozen? ⟨wr.heap.size, 1, none⟩ = false := Lib.frozen_of_heap hC1.box 1
          clear hC1 d0 d1
          go_upto_if 45 with fail
          go_cut [10] from 46 to 56 (fun dv wc => dv = .bool (true || (!lt && !eq) || eq) ∧ CI w wc wr.heap.size (.slice o1 l1 c1) O1 cs x.n)
          case first =>
            have HXf : Hid (eq = false → x.n = nE) := by intro y; rw [HX.out, y]; rfl
            have HXt : Hid (eq = true → x.n = sumU nE n) := by intro y; rw [HX.out, y]; rfl
            by_cases hov : (18446744073709551615 : Int) - n < nE
            · have HS : Hid (sumU nE n = 18446744073709551615) := by
                show sumU nE n = _
                unfold sumU
                rw [if_pos (by omega)]
              cases lt <;> cases eq
              all_goals
                go_wp2_with fail
                go_meet
              · exact ⟨by simp, by rw [HXf.out (by first | rfl | trivial)]; exact H1.out⟩
              · exact ⟨by simp, by rw [HXt.out (by first | rfl | trivial), HS.out]; exact H1.out.set _⟩
              · exact ⟨by simp, by rw [HXf.out (by first | rfl | trivial)]; exact H1.out⟩
              · exact ⟨by simp, by rw [HXt.out (by first | rfl | trivial), HS.out]; exact H1.out.set _⟩
            · have HS : Hid (sumU nE n = nE + n) := by
                show sumU nE n = _
                unfold sumU
                rw [if_neg (by omega)]
              have hadd : (nE : Int) + n ≤ 18446744073709551615 := by omega
              have hov' : (nE : Int) ≤ 18446744073709551615 - n := by omega
              have HSet : Hid (CI w (wo.setCell ⟨wr.heap.size, 1, none⟩ (.int .u64 ((nE : Int) + n))) wr.heap.size (.slice o1 l1 c1) O1 cs (nE + n)) := by
                have := H1.out.set (nE + n)
                exact_mod_cast this
              cases lt <;> cases eq
              all_goals
                go_wp2_with fail
                go_meet
              · exact ⟨by simp, by rw [HXf.out (by first | rfl | trivial)]; exact H1.out⟩
              · exact ⟨by simp, by rw [HXt.out (by first | rfl | trivial), HS.out]; exact HSet.out⟩
              · exact ⟨by simp, by rw [HXf.out (by first | rfl | trivial)]; exact H1.out⟩
              · exact ⟨by simp, by rw [HXt.out (by first | rfl | trivial), HS.out]; exact HSet.out⟩
          case rest =>
            obtain ⟨rfl, hC2⟩ := hcut
            obtain ⟨wp, hwp⟩ : ∃ wp, wp = wc := ⟨_, rfl⟩
            subst hwp
            obtain ⟨m, hm⟩ : ∃ m : Nat, m = x.n := ⟨_, rfl⟩
            rw [← hm] at hC2
            have H2 : Hid (CI w wp wr.heap.size (.slice o1 l1 c1) O1 cs m ∧ cs = ⟨x.name.toArray⟩ ∧ m = x.n) := ⟨hC2, by rw [HX.out]; exact HD.out.2.1, hm⟩
            clear q0 q1 fz H1
            have q0 : wp.cell? ⟨wr.heap.size, 0, none⟩ = some (.string cs) := by rw [cell_of_row _ _ _ _ _ _ hC2.box]; rfl
            have q1 : wp.cell? ⟨wr.heap.size, 1, none⟩ = some (.int .u64 m) := by rw [cell_of_row _ _ _ _ _ _ hC2.box]; rfl
            clear hC2 hm
            go_wp2_with (at_builtin; refine wpList_appD wp rfl _ _ rfl (.slice o1 l1 c1) O1 cs m x H2.out.2.1 (by rw [H2.out.2.2]) rfl rfl H2.out.1.rp.own (by omega) ?_)
            intro v4 w4 ho4 hc4 hk4
            have HE : Hid (RefP w w4 v4 (O1 ++ [x]) ∧ (O1 ++ [x]) ++ goR s.data.toList n (true || (!lt && !eq) || eq) (R.drop (k + 1)) = goR s.data.toList n false R) := ⟨H2.out.1.rp.app ho4 hc4 hk4, by rw [List.append_assoc]; exact HO.out⟩
            generalize hqs : O1 ++ [x] = qs at *
            clear hqs
            obtain ⟨ao4, c4, rfl, -⟩ := ho4.shape
            clear ho4 hc4 hk4 q0 q1
            go_wp2_with fail
            go_roundg (ln - (k + 1))
            case measure => have := HP.out.2.1; omega
            case rel => exact ⟨k + 1, _, qs, ao4, c4, by go_num, rfl, rfl, rfl, by omega, HE.out.1, HE.out.2⟩
    · have hkR : R.drop k = [] := List.drop_eq_nil_of_le (by have := H.out.2.1; omega)
      cases d
      · have HG : Hid (O ++ [⟨s.data.toList, n⟩] = goR s.data.toList n false R) := by have h1 := HP.out.2.2.1; rw [hkR] at h1; exact h1
        have hO2 : O.length + 1 ≤ ln + 1 := by have h1 := HP.out.2.2.2; rw [hkR] at h1; simpa [goR] using h1
        clear hkR
        go_wp2_with (at_builtin; refine wpList_appD wr rfl _ _ rfl (.slice oo O.length oc) O s n ⟨s.data.toList, n⟩ rfl rfl rfl rfl HP.out.1.own (by omega) ?_)
        intro v4 w4 ho4 hc4 hk4
        have HE : Hid (RefP w w4 v4 (goR s.data.toList n false R)) := by rw [← HG.out]; exact HP.out.1.app ho4 hc4 hk4
        obtain ⟨ao4, n4, c4, rfl⟩ := shapeC ho4
        clear ho4 hc4 hk4
        go_wp2
        go_ret2
        exact ⟨_, rfl, HE.out⟩
      · have HE : Hid (RefP w wr (.slice oo O.length oc) (goR s.data.toList n false R)) := by
          have h1 := HP.out.2.2.1
          rw [hkR] at h1
          have h2 : O = goR s.data.toList n false R := by simpa [goR] using h1
          rw [← h2]
          exact HP.out.1
        clear hkR
        go_wp2
        go_ret2
        exact ⟨_, rfl, HE.out⟩

theorem refCount_no (v : Value) (s : ByteArray) (n : Nat) (w : World) (hs : s.size ≤ 9223372036854775807) (hw : isWd s.data.toList = false) (hv : ∃ ao n c, v = .slice ao n c) :
    Calls Tryd.prog 18 #[v, .string s, .int .u64 n] w fun e w' => e = .returned (.tuple #[v, .int .i64 31]) ∧ w' = w := by
  obtain ⟨ao, n', c, rfl⟩ := hv
  go_enter Tryd.func18, Tryd.ntmps18
  go_wp2_with fail
  refine (word_any _ _ hs).mono ?_
  rintro e w ⟨rfl, rfl⟩
  rw [hw]
  go_wp2
  go_ret2
  exact ⟨rfl, rfl⟩
end Go.Proofs.YtlhcadfcgibkdaaDoor
