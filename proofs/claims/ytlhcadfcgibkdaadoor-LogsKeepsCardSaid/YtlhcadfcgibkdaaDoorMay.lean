/-
  What stands against a line ahead of its being written: the program's mayWrite.
-/
import Derived.Test.YtlhcadfcgibkdaaDoorLine
namespace Go.Proofs.YtlhcadfcgibkdaaDoor
open Go.RowKit
set_option linter.unusedVariables false
set_option maxRecDepth 100000

def keyAt (ps : List PairD) (i : Nat) : Bool := match ps[i]? with | some p => keyOk p.key (ps.take i) | none => true
def keysOk (ps : List PairD) : Bool := (List.range ps.length).all (keyAt ps)
def textOk (p : PairD) : Bool := p.isNum || decide (p.text.size ≤ 1024)
def mayW (ev : ByteArray) (ps : List PairD) : Int := if isWd ev.data.toList then (if 16 < ps.length then 2 else if keysOk ps then (if ps.all textOk then 0 else 32) else 31) else 31

theorem keysOk_false {ps : List PairD} {i : Nat} {p : PairD} (h : ps[i]? = some p) (hk : keyOk p.key (ps.take i) = false) : keysOk ps = false := by
  unfold keysOk
  rw [List.all_eq_false]
  refine ⟨i, List.mem_range.2 (List.getElem?_eq_some_iff.1 h).1, ?_⟩
  unfold keyAt
  rw [h]
  simp [hk]

theorem keysOk_true {ps : List PairD} (h : ∀ (i : Nat) (p : PairD), ps[i]? = some p → keyOk p.key (ps.take i) = true) : keysOk ps = true := by
  unfold keysOk
  rw [List.all_eq_true]
  intro i hi
  unfold keyAt
  cases hp : ps[i]? with
  | none => rfl
  | some p => exact h i p hp

theorem texts_false {ps : List PairD} {i : Nat} {p : PairD} (h : ps[i]? = some p) (hk : textOk p = false) : ps.all textOk = false := by
  rw [List.all_eq_false]
  exact ⟨p, List.mem_of_getElem? h, by simp [hk]⟩

theorem texts_true {ps : List PairD} (h : ∀ (i : Nat) (p : PairD), ps[i]? = some p → textOk p = true) : ps.all textOk = true := by
  rw [List.all_eq_true]
  intro p hp
  obtain ⟨i, hi⟩ := List.mem_iff_getElem?.1 hp
  exact h i p hi

theorem fits_of {ev : ByteArray} {ps : List PairD} {w : World} {sv : Value} (h : PRd w sv ps) (hm : mayW ev ps = 0) : isWd ev.data.toList = true ∧ ps.length ≤ 16 ∧ ∀ p ∈ ps, Fit p := by
  unfold mayW at hm
  split at hm
  · rename_i hw
    split at hm
    · omega
    · split at hm
      · split at hm
        · rename_i h16 hk ht
          refine ⟨hw, by omega, fun p hp => ?_⟩
          obtain ⟨i, hi⟩ := List.mem_iff_getElem?.1 hp
          obtain ⟨ao, n, c, rfl, _, _, _, hx⟩ := h
          obtain ⟨ok, _⟩ := hx i p hi
          have h1 : keyOk p.key (ps.take i) = true := by
            cases hh : keyOk p.key (ps.take i) with
            | true => rfl
            | false => rw [keysOk_false hi hh] at hk; cases hk
          have h2 := List.all_eq_true.1 ht p hp
          refine ⟨ok, ?_, fun hn => ?_⟩
          · have : isWd p.key.data.toList = true := by
              cases hh : isWd p.key.data.toList with
              | true => rfl
              | false => rw [keyOk_word hh] at h1; cases h1
            exact (isWd_size this).2
          · unfold textOk at h2
            rw [hn] at h2
            simpa using h2
        · omega
      · omega
  · omega

set_option maxHeartbeats 1000000 in
theorem mayWrite_any (time : Nat) (event : ByteArray) (sv : Value) (ps : List PairD) (w : World) (hev : event.size ≤ 9223372036854775807) (hps : PRd w sv ps) :
    Calls Tryd.prog 21 #[.agg #[.int .u64 time, .string event, sv]] w fun e w' => e = .returned (.int .i64 (mayW event ps)) ∧ Chg Non w w' := by
  obtain ⟨ao, n, c, rfl, hn, hc, hm, hx⟩ := hps
  have hps : PRd w (.slice ao n c) ps := ⟨ao, n, c, rfl, hn, hc, hm, hx⟩
  have H : Hid (PRd w (.slice ao n c) ps ∧ n = ps.length) := ⟨hps, hn⟩
  have hn64 : n ≤ 9223372036854775807 := by unfold maxLen at hm; omega
  clear hps hn hm hx
  cases hw : isWd event.data.toList
  · go_enter Tryd.func21, Tryd.ntmps21
    go_wp2_with fail
    refine (isWord_any _ _ hev).mono ?_
    rintro e w1 ⟨rfl, rfl⟩
    rw [hw]
    go_wp2
    go_ret
    exact ⟨ret_int (by unfold mayW; rw [hw]; rfl), (Chg.refl _ _).alloc _⟩
  · by_cases h16 : 16 < n
    · have h16' : (16 : Int) < n := by omega
      go_enter Tryd.func21, Tryd.ntmps21
      go_wp2_with fail
      refine (isWord_any _ _ hev).mono ?_
      rintro e w1 ⟨rfl, rfl⟩
      rw [hw]
      go_wp2
      go_ret
      exact ⟨ret_int (by unfold mayW; rw [hw, if_pos rfl, if_pos (by have := H.out.2; omega)]), (Chg.refl _ _).alloc _⟩
    · have h16' : ¬ (16 : Int) < n := by omega
      go_enter Tryd.func21, Tryd.ntmps21
      go_wp2_with fail
      refine (isWord_any _ _ hev).mono ?_
      rintro e w1 ⟨rfl, rfl⟩
      rw [hw]
      have hc1 : Chg Non w (w.alloc (.cells #[.int .u64 time, .string event, .slice ao n c] 25)) := (Chg.refl _ _).alloc _
      have hl1 := heap_alloc_new w (.cells #[.int .u64 time, .string event, .slice ao n c] 25)
      go_wp2_with fail
      go_loopw [3, 4, 18] (fun _ _ i wr => ∃ k : Nat, i = .int .i64 k ∧ k ≤ n ∧ Chg Non w wr ∧ wr.heap[w.heap.size]? = some (.cells #[.int .u64 time, .string event, .slice ao n c] 25 (0, 0)) ∧ ∀ (j : Nat) (p : PairD), ps[j]? = some p → j < k → keyOk p.key (ps.take j) = true) (fun _ _ i _ => n - (intOf i).toNat)
      case atStart => exact ⟨0, rfl, by omega, hc1, hl1, fun j p _ hj => by omega⟩
      case round =>
        obtain ⟨k, rfl, hkn, hch, hbx, hl⟩ := hrel
        have HL : Hid (Chg Non w wr ∧ wr.heap[w.heap.size]? = some (.cells #[.int .u64 time, .string event, .slice ao n c] 25 (0, 0)) ∧ ∀ (j : Nat) (p : PairD), ps[j]? = some p → j < k → keyOk p.key (ps.take j) = true) := ⟨hch, hbx, hl⟩
        clear hl hc1 hl1
        by_cases hp : k < n
        · have hpl : k < ps.length := by have := H.out.2; omega
          have hat : ps[k]? = some (ps[k]'hpl) := by simp
          obtain ⟨p, hpd⟩ : ∃ p, p = ps[k]'hpl := ⟨_, rfl⟩
          rw [← hpd] at hat
          obtain ⟨ao', n', c', e', -, -, -, hx⟩ := H.out.1.non hch
          cases e'
          obtain ⟨ok, g, off, rfl, hg, d0, d1, d2, d3⟩ := hx k p hat
          have HP : Hid (ps[k]? = some p ∧ p.Ok) := ⟨hat, ok⟩
          have hkc : k ≤ c := by omega
          obtain ⟨key, isNum, num, text⟩ := p
          simp only at d0 d1 d2 d3
          have hch2 : Chg Non wr (wr.alloc (.cells #[.string key, .bool isNum, .int .u64 num, .string text] 28)) := (Chg.refl _ _).alloc _
          have hx2 := heap_alloc_new wr (.cells #[.string key, .bool isNum, .int .u64 num, .string text] 28)
          have hb2 : (wr.alloc (.cells #[.string key, .bool isNum, .int .u64 num, .string text] 28)).heap[w.heap.size]? = some (.cells #[.int .u64 time, .string event, .slice (some ⟨g, off, none⟩) n c] 25 (0, 0)) := by
            rw [hch2.block _ (Array.getElem?_eq_some_iff.1 hbx).1 (fun x => x)]; exact hbx
          have y2 : (wr.alloc (.cells #[.string key, .bool isNum, .int .u64 num, .string text] 28)).cell? ⟨w.heap.size, 2, none⟩ = some (.slice (some ⟨g, off, none⟩) n c) := by rw [Lib.cell_of_heap hb2]; rfl
          have HW : Hid (Chg Non wr (wr.alloc (.cells #[.string key, .bool isNum, .int .u64 num, .string text] 28)) ∧ (wr.alloc (.cells #[.string key, .bool isNum, .int .u64 num, .string text] 28)).heap[w.heap.size]? = some (.cells #[.int .u64 time, .string event, .slice (some ⟨g, off, none⟩) n c] 25 (0, 0))) := ⟨hch2, hb2⟩
          clear hpd hat hx ok hch hbx hch2 hx2 hb2 hg
          go_wp2_with fail
          clear d0 d1 d2 d3
          go_region_with (go_at_call 41; (refine (isKey_any key _ (ps.take k) _ ?_ ?_).mono ?_; exact HP.out.2.key; exact ((H.out.1.non (HL.out.1.trans HW.out.1 (fun _ _ x => x))).non (Chg.refl _ _).drew).take (by omega); rintro e w3 ⟨rfl, hc3⟩))
          all_goals
            have H3 : Hid (Chg Non w w3 ∧ w3.heap[w.heap.size]? = some (.cells #[.int .u64 time, .string event, .slice (some ⟨g, off, none⟩) n c] 25 (0, 0))) := ⟨(HL.out.1.trans HW.out.1 (fun _ _ x => x)).trans hc3.undrew (fun _ _ x => x), by rw [hc3.undrew.block _ (Array.getElem?_eq_some_iff.1 HW.out.2).1 (fun x => x)]; exact HW.out.2⟩
            clear hc3 y2 HW
            cases hq : keyOk key (ps.take k)
            · go_wp2
              go_ret
              exact ⟨ret_int (by unfold mayW; rw [hw, if_pos rfl, if_neg (by have := H.out.2; omega), keysOk_false HP.out.1 hq]; rfl), H3.out.1⟩
            · go_wp2
              go_roundw
              case rel =>
                refine ⟨k + 1, by go_num, by omega, H3.out.1, H3.out.2, fun j q hj hjk => ?_⟩
                by_cases hjk' : j = k
                · subst hjk'
                  rw [HP.out.1] at hj
                  cases hj
                  exact hq
                · exact HL.out.2.2 j q hj (by omega)
              case measure => simp [intOf]; omega
        · have HK : Hid (keysOk ps = true) := keysOk_true (fun i p hp => HL.out.2.2 i p hp (by have := (List.getElem?_eq_some_iff.1 hp).1; have := H.out.2; omega))
          have y2 : wr.cell? ⟨w.heap.size, 2, none⟩ = some (.slice ao n c) := by rw [Lib.cell_of_heap hbx]; rfl
          have H0 : Hid (Chg Non w wr) := HL.out.1
          clear hbx hch
          go_wp2_with fail
          clear y2 HL
          obtain ⟨w2, hw2⟩ : ∃ w2, w2 = wr := ⟨_, rfl⟩
          subst hw2
          go_loopw [6, 35] (fun _ i wq => ∃ k : Nat, i = .int .i64 k ∧ k ≤ n ∧ Chg Non w wq ∧ ∀ (j : Nat) (p : PairD), ps[j]? = some p → j < k → textOk p = true) (fun _ i _ => n - (intOf i).toNat)
          case atStart => exact ⟨0, rfl, by omega, H0.out, fun j p _ hj => by omega⟩
          case round =>
            obtain ⟨m, rfl, hmn, hch, hl⟩ := hrel
            have HL : Hid (Chg Non w wr ∧ ∀ (j : Nat) (p : PairD), ps[j]? = some p → j < m → textOk p = true) := ⟨hch, hl⟩
            clear hl
            by_cases hp : m < n
            · have hpl : m < ps.length := by have := H.out.2; omega
              have hat : ps[m]? = some (ps[m]'hpl) := by simp
              obtain ⟨p, hpd⟩ : ∃ p, p = ps[m]'hpl := ⟨_, rfl⟩
              rw [← hpd] at hat
              obtain ⟨ao', n', c', e', -, -, -, hx⟩ := H.out.1.non hch
              cases e'
              obtain ⟨ok, g, off, rfl, hg, d0, d1, d2, d3⟩ := hx m p hat
              have hts : p.text.size ≤ 9223372036854775807 := ok.text
              have HP : Hid (ps[m]? = some p) := hat
              clear hpd hat hx ok hch hg
              obtain ⟨key, isNum, num, text⟩ := p
              simp only at d0 d1 d2 d3 hts
              cases isNum
              · by_cases htx : 1024 < text.size
                · have htx' : (1024 : Int) < text.size := by omega
                  go_wp2
                  go_ret
                  refine ⟨ret_int (by unfold mayW; rw [hw, if_pos rfl, if_neg (by have := H.out.2; omega), HK.out, texts_false HP.out (by unfold textOk; simp; omega)]; rfl), HL.out.1.alloc _⟩
                · have htx' : ¬ (1024 : Int) < text.size := by omega
                  go_wp2
                  go_roundw
                  case rel =>
                    refine ⟨m + 1, by go_num, by omega, HL.out.1.alloc _, fun j q hj hjk => ?_⟩
                    by_cases hjk' : j = m
                    · subst hjk'
                      rw [HP.out] at hj
                      cases hj
                      unfold textOk; simp; omega
                    · exact HL.out.2 j q hj (by omega)
                  case measure => simp [intOf]; omega
              · go_wp2
                go_roundw
                case rel =>
                  refine ⟨m + 1, by go_num, by omega, HL.out.1.alloc _, fun j q hj hjk => ?_⟩
                  by_cases hjk' : j = m
                  · subst hjk'
                    rw [HP.out] at hj
                    cases hj
                    rfl
                  · exact HL.out.2 j q hj (by omega)
                case measure => simp [intOf]; omega
            · go_wp2
              go_ret
              refine ⟨ret_int ?_, HL.out.1⟩
              unfold mayW
              rw [hw, if_pos rfl, if_neg (by have := H.out.2; omega), HK.out, texts_true (fun i p hp => HL.out.2 i p hp (by have := (List.getElem?_eq_some_iff.1 hp).1; have := H.out.2; omega))]
              rfl
end Go.Proofs.YtlhcadfcgibkdaaDoor
