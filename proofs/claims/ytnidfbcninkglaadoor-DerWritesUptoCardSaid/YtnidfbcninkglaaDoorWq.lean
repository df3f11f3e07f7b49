/-
  PutOID: the program's.
-/
import Derived.Test.YtnidfbcninkglaaDoorWp
import Derived.Test.YtnidfbcninkglaaDoorOx
namespace Go.Proofs.YtnidfbcninkglaaDoor
open Go.RowKit
set_option linter.unusedVariables false
set_option maxRecDepth 100000

theorem numsP_lt {s : List UInt8} {q : List Int} (h : numsP s = some q) : ∀ x ∈ q, 0 ≤ x ∧ x < 4294967296 := by
  unfold numsP at h
  split at h
  · intro x hx
    obtain ⟨i, hi, hxi⟩ := List.mem_iff_getElem.1 hx
    obtain ⟨e1, e2⟩ := mapM_len prP _ q h
    obtain ⟨x', g1, g2⟩ := e2 i _ (List.getElem?_eq_getElem (by omega))
    rw [List.getElem?_eq_getElem hi, hxi] at g1
    obtain rfl := Option.some.inj g1
    exact prP_lt g2
  · cases h
theorem folds_lt {q l : List Int} (h : ∀ x ∈ q, 0 ≤ x ∧ x < 4294967296) (hf : folds q = some l) : ∀ x ∈ l, 0 ≤ x ∧ x < 4398046511104 := by
  match q, h, hf with
  | a :: b :: r, h, hf =>
    obtain rfl : l = (40 * a + b) :: r := (Option.some.inj hf).symm
    have ha := h a List.mem_cons_self
    have hb := h b (List.mem_cons_of_mem _ List.mem_cons_self)
    intro y hy
    rcases List.mem_cons.1 hy with rfl | hy
    · omega
    · have := h y (List.mem_cons_of_mem _ (List.mem_cons_of_mem _ hy)); omega
theorem oidE_none {xs : List Int} (h : oidL xs = none) : oidE xs = 144 := by unfold oidE oidB; rw [h]; rfl
theorem oidE_some {xs l : List Int} (h : oidL xs = some l) : oidE xs = 0 ∧ oidS xs = oidT l := by
  unfold oidE oidB oidS
  rw [h]
  exact ⟨rfl, rfl⟩
theorem sev_byt {x : Int} (h0 : 0 ≤ x) : Byt (sev x) := by
  have hH : ∀ k, Byt (sevH k x) := fun k => by
    induction k with
    | zero => intro y hy; cases hy
    | succ k ih =>
      intro y hy
      rcases List.mem_cons.1 hy with rfl | hy
      · omega
      · exact ih y hy
  intro y hy
  rcases List.mem_append.1 hy with hy | hy
  · exact hH _ y hy
  · obtain rfl := List.mem_singleton.1 hy
    omega
theorem sevAll_byt : ∀ {l : List Int}, (∀ x ∈ l, 0 ≤ x) → Byt (sevAll l)
  | [], _ => fun y hy => by simp [sevAll] at hy
  | a :: r, h => by
    rw [sevAll_app]
    intro y hy
    rcases List.mem_append.1 hy with hy | hy
    · exact sev_byt (h a List.mem_cons_self) y hy
    · exact sevAll_byt (fun x hx => h x (List.mem_cons_of_mem _ hx)) y hy
theorem bodP_byt (s : List UInt8) : Byt (bodP s) := by
  unfold bodP
  cases hn : numsP s with
  | none => intro y hy; cases hy
  | some q =>
    dsimp only
    cases hf : folds q with
    | none => intro y hy; cases hy
    | some l => exact sevAll_byt (fun x hx => (folds_lt (numsP_lt hn) hf x hx).1)
theorem bodP_len (s : List UInt8) : (bodP s).length ≤ 102 := by
  unfold bodP
  cases hn : numsP s with
  | none => simp
  | some q =>
    dsimp only
    cases hf : folds q with
    | none => simp
    | some l =>
      dsimp only
      have h1 := sevAll_len l
      have h2 : l.length + 1 ≤ q.length + 1 := by
        match q, hf with
        | a :: b :: r, hf =>
          obtain rfl : l = (40 * a + b) :: r := (Option.some.inj hf).symm
          simp
      have h3 : q.length ≤ 17 := by
        unfold numsP at hn
        split at hn
        · rename_i h17
          rw [← (mapM_len prP _ q hn).1]
          exact h17
        · cases hn
      omega
theorem poP_eq (s : List UInt8) : poP s = if oidE (bodP s) = 0 ∧ oidS (bodP s) = s then putL 6 (bodP s) else [] := by
  have hl := bodP_len s
  have hput : putL 6 (bodP s) = encL 6 (bodP s) := by unfold putL; rw [if_pos ⟨by omega, by omega⟩]
  rw [hput]
  cases hn : numsP s with
  | none =>
    have h1 : poP s = [] := by
      unfold poP
      rw [show (if (spD s).length ≤ 17 then (spD s).mapM prP else none) = none from hn]
    have h2 : bodP s = [] := by
      unfold bodP
      rw [hn]
    rw [h1, h2, if_neg (fun q => by rw [oidE_none (by rfl)] at q; cases q.1)]
  | some q =>
    obtain ⟨fo, hf⟩ : ∃ fo, folds q = fo := ⟨_, rfl⟩
    have h1 : poP s = match (generalizing := false) fo with
        | none => []
        | some l => if oidL (sevAll l) = some l ∧ oidT l = s then encL 6 (sevAll l) else [] := by
      unfold poP
      rw [show (if (spD s).length ≤ 17 then (spD s).mapM prP else none) = some q from hn]
      dsimp only
      simp only [hf]
      cases fo <;> rfl
    have h2 : bodP s = match (generalizing := false) fo with
        | none => []
        | some l => sevAll l := by
      unfold bodP
      rw [hn]
      dsimp only
      simp only [hf]
      cases fo <;> rfl
    cases fo with
    | none => rw [h1, h2, if_neg (fun q => by have h := q.1; dsimp only at h; rw [oidE_none (by rfl)] at h; cases h)]
    | some l =>
      rw [h1, h2]
      dsimp only
      have ha := oidL_all l (folds_lt (numsP_lt hn) hf)
      by_cases hc : (l.all (fun x => decide (x < 4294967296)) = true ∧ 1 ≤ l.length ∧ l.length ≤ 16)
      · rw [if_pos hc] at ha
        obtain ⟨e1, e2⟩ := oidE_some ha
        rw [e1, e2]
        by_cases ht : oidT l = s
        · rw [if_pos ⟨ha, ht⟩, if_pos ⟨rfl, ht⟩]
        · rw [if_neg (fun q => ht q.2), if_neg (fun q => ht q.2)]
      · rw [if_neg hc] at ha
        rw [if_neg (fun q => by rw [ha] at q; cases q.1), if_neg (fun q => by rw [oidE_none ha] at q; cases q.1)]

theorem bs_list (l : List UInt8) : (bs l).toList = l := by rw [Lib.toList_data]; simp [bs]

set_option maxHeartbeats 4000000 in
theorem putOID_any (s : ByteArray) (hs : s.size ≤ 140737488355328) (w : World) (hE : ErrV w) (hT : Tab w) :
    Calls Tryd.prog 33 #[.string s] w fun e w' => ∃ v', e = .returned v' ∧ OwnN w w' v' (poP s.data.toList) := by
  have HBO : Hid (Calls Tryd.prog 57 #[.string s] w fun e w' => ∃ v', e = .returned v' ∧ OwnN w w' v' (bodP s.data.toList)) := body_any s hs w hE
  have HQ : Hid (poP s.data.toList = if oidE (bodP s.data.toList) = 0 ∧ oidS (bodP s.data.toList) = s.data.toList then putL 6 (bodP s.data.toList) else []) := poP_eq _
  have HBY : Hid (Byt (bodP s.data.toList)) := bodP_byt _
  have HT : Hid (Tab w) := hT
  obtain ⟨X, hX⟩ : ∃ X, X = bodP s.data.toList := ⟨_, rfl⟩
  obtain ⟨R, hR⟩ : ∃ R, R = poP s.data.toList := ⟨_, rfl⟩
  rw [← hX] at HBO HQ HBY
  rw [← hR] at HQ ⊢
  have HST : Hid (s.toList = s.data.toList) := Lib.toList_data s
  clear hX hR hE hT
  go_enter Tryd.func33, Tryd.ntmps33
  go_wp2_with (go_at_call 57; refine HBO.out.mono ?_)
  rintro e w1 ⟨v1, rfl, hO⟩
  have HO : Hid (OwnN w w1 v1 X) := hO
  obtain ⟨ao, n, c, rfl, -, -, -⟩ := hO.rd.shape
  have HOI : Hid (Calls Tryd.prog 24 #[.slice ao n c] w1 fun e w' => e = .returned (.tuple #[.string (bs (oidS X)), .int .i64 (oidE X)]) ∧ Chg Non w1 w') := oid_any _ X HBY.out w1 HO.out.rd (HT.out.non HO.out.chg)
  clear hO
  by_cases h1 : oidE X = 0
  · by_cases h2 : oidS X = s.data.toList
    · have HZ : Hid (R = putL 6 X) := by show _ = _; rw [HQ.out, if_pos ⟨h1, h2⟩]
      have hss : ((bs (oidS X)).toList == s.toList) = true := by rw [bs_list, h2, HST.out]; simp
      rw [h1] at HOI
      have HPU : Hid (∀ q, Chg Non w1 q → Calls Tryd.prog 15 #[.int .u8 6, .slice (some ⟨q.heap.size, 0, none⟩) 1 1] (q.alloc (.cells #[.slice ao n c] 22)) fun e w' => ∃ v', e = .returned v' ∧ OwnN (q.alloc (.cells #[.slice ao n c] 22)) w' v' (putL 6 X)) := fun q hq => by
        have := put_any 6 (by omega) (by omega) _ _ _ (PtR.one (HO.out.rd.chg hq))
        rw [flat1] at this
        exact this
      obtain ⟨S, hS⟩ : ∃ S, S = bs (oidS X) := ⟨_, rfl⟩
      rw [← hS] at hss HOI
      clear h1 h2 hS
      go_wp2_with (go_at_call 24; refine HOI.out.mono ?_)
      rintro e w2 ⟨rfl, c2⟩
      have C2 : Hid (Chg Non w1 w2) := c2
      have HPU2 : Hid (Calls Tryd.prog 15 #[.int .u8 6, .slice (some ⟨w2.heap.size, 0, none⟩) 1 1] (w2.alloc (.cells #[.slice ao n c] 22)) fun e w' => ∃ v', e = .returned v' ∧ OwnN (w2.alloc (.cells #[.slice ao n c] 22)) w' v' (putL 6 X)) := HPU.out w2 c2
      clear c2
      go_wp2_with (go_at_call 15; refine HPU2.out.mono ?_)
      rintro e w3 ⟨v3, rfl, hO3⟩
      obtain ⟨a3, n3, c3, rfl, -, -, -⟩ := hO3.rd.shape
      have HF : Hid (OwnN w w3 (.slice a3 n3 c3) R) := by rw [HZ.out]; exact hO3.from ((HO.out.chg.two C2.out).alloc _)
      clear hO3
      go_wp2
      go_ret
      exact ⟨_, rfl, HF.out⟩
    · have HZ : Hid (R = []) := by show _ = _; rw [HQ.out, if_neg (fun q => h2 q.2)]
      have hss : ((bs (oidS X)).toList == s.toList) = false := by rw [bs_list, HST.out]; simpa using h2
      rw [h1] at HOI
      obtain ⟨S, hS⟩ : ∃ S, S = bs (oidS X) := ⟨_, rfl⟩
      rw [← hS] at hss HOI
      clear h1 h2 hS
      go_wp2_with (go_at_call 24; refine HOI.out.mono ?_)
      rintro e w2 ⟨rfl, c2⟩
      have C2 : Hid (Chg Non w1 w2) := c2
      clear c2
      go_wp2
      go_ret
      exact ⟨.slice none 0 0, rfl, by rw [HZ.out]; exact (OwnN.nought w2).from (HO.out.chg.two C2.out)⟩
  · have HZ : Hid (R = []) := by show _ = _; rw [HQ.out, if_neg (fun q => h1 q.1)]
    have hee : oidE X = 144 := by
      unfold oidE at h1 ⊢
      split
      · rename_i h; rw [if_pos h] at h1; exact absurd rfl h1
      · rfl
    rw [hee] at HOI
    obtain ⟨S, hS⟩ : ∃ S, S = bs (oidS X) := ⟨_, rfl⟩
    rw [← hS] at HOI
    clear h1 hee hS
    go_wp2_with (go_at_call 24; refine HOI.out.mono ?_)
    rintro e w2 ⟨rfl, c2⟩
    have C2 : Hid (Chg Non w1 w2) := c2
    clear c2
    go_wp2
    go_ret
    exact ⟨.slice none 0 0, rfl, by rw [HZ.out]; exact (OwnN.nought w2).from (HO.out.chg.two C2.out)⟩
end Go.Proofs.YtnidfbcninkglaaDoor
