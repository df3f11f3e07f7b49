/-
  The document's Encode answers what the program's answers.
-/
import Derived.Test.YtlhcadfcgibkdaaDoorQuo
namespace Go.Proofs.YtlhcadfcgibkdaaDoor
open Go.RowKit
set_option linter.unusedVariables false
set_option maxRecDepth 100000

theorem add_str (a b : ByteArray) (h : a.size + b.size ≤ 9223372036854775807) : ∃ S : ByteArray, S.data.toList = a.data.toList ++ b.data.toList ∧ S.size = a.size + b.size ∧ ∀ W : World, (Op.stringOp .add a b).run Tryd.prog W = .ok (.string S) W :=
  ⟨a ++ b, by simp, by simp, fun W => run_string_add_sum W a b h⟩

theorem str_of {S : ByteArray} {l : List UInt8} (h : S.data.toList = l) : S = ⟨l.toArray⟩ := by
  obtain ⟨⟨x⟩⟩ := S
  have h2 : x = l := h
  subst h2
  rfl

theorem str_size {S : ByteArray} {l : List UInt8} (h : S.data.toList = l) : S.size = l.length := by
  rw [← h]
  simp

theorem fit_take {w : World} {sv : Value} {ps : List PairD} (h : PRd w sv ps) (hk : keysOk ps = true) {k : Nat} (ht : ∀ (j : Nat) (p : PairD), ps[j]? = some p → j < k → textOk p = true) : ∀ p ∈ ps.take k, Fit p := by
  intro p hp
  obtain ⟨i, hi⟩ := List.mem_iff_getElem?.1 hp
  rw [List.getElem?_take] at hi
  split at hi
  · rename_i hik
    obtain ⟨ao, n, c, rfl, _, _, _, hx⟩ := h
    obtain ⟨ok, _⟩ := hx i p hi
    have h1 : keyOk p.key (ps.take i) = true := by
      cases hh : keyOk p.key (ps.take i) with
      | true => rfl
      | false => rw [keysOk_false hi hh] at hk; cases hk
    have h2 := ht i p hi hik
    refine ⟨ok, ?_, fun hn => ?_⟩
    · have : isWd p.key.data.toList = true := by
        cases hh : isWd p.key.data.toList with
        | true => rfl
        | false => rw [keyOk_word hh] at h1; cases h1
      exact (isWd_size this).2
    · unfold textOk at h2
      rw [hn] at h2
      simpa using h2
  · cases hi

theorem keys_at {ps : List PairD} (hk : keysOk ps = true) {i : Nat} {p : PairD} (hi : ps[i]? = some p) : p.key.size ≤ 32 := by
  have h1 : keyOk p.key (ps.take i) = true := by
    cases hh : keyOk p.key (ps.take i) with
    | true => rfl
    | false => rw [keysOk_false hi hh] at hk; cases hk
  have : isWd p.key.data.toList = true := by
    cases hh : isWd p.key.data.toList with
    | true => rfl
    | false => rw [keyOk_word hh] at h1; cases h1
  exact (isWd_size this).2

set_option maxHeartbeats 1000000 in
theorem refEncode_any (time : Nat) (event : ByteArray) (sv : Value) (ps : List PairD) (w : World) (ht : Tab w) (htime : time < 18446744073709551616) (hev : event.size ≤ 9223372036854775807) (hps : PRd w sv ps) :
    Calls Tryd.prog 10 #[.agg #[.int .u64 time, .string event, sv]] w fun e w' => e = .returned (.tuple #[.string (encT time event ps), .int .i64 (encE time event ps)]) ∧ Chg Non w w' := by
  obtain ⟨ao, n, c, rfl, hn, hc, hm, hx⟩ := hps
  have hps : PRd w (.slice ao n c) ps := ⟨ao, n, c, rfl, hn, hc, hm, hx⟩
  have H : Hid (PRd w (.slice ao n c) ps ∧ Tab w ∧ n = ps.length) := ⟨hps, ht, hn⟩
  have hn64 : n ≤ 9223372036854775807 := by unfold maxLen at hm; omega
  clear hps hn hm hx ht
  have hno : ∀ m : Int, mayW event ps = m → m ≠ 0 → encT time event ps = ⟨#[]⟩ ∧ encE time event ps = m := by
    intro m h1 h2
    refine ⟨?_, ?_⟩
    · unfold encT; rw [if_neg (by omega)]
    · unfold encE; rw [if_neg (by omega), h1]
  have HNO : Hid (∀ m : Int, mayW event ps = m → m ≠ 0 → encT time event ps = ⟨#[]⟩ ∧ encE time event ps = m) := hno
  clear hno
  have hc1 : Chg Non w (w.alloc (.cells #[.int .u64 time, .string event, .slice ao n c] 25)) := (Chg.refl _ _).alloc _
  have hl1 := heap_alloc_new w (.cells #[.int .u64 time, .string event, .slice ao n c] 25)
  have H1 : Hid (Chg Non w (w.alloc (.cells #[.int .u64 time, .string event, .slice ao n c] 25)) ∧ (w.alloc (.cells #[.int .u64 time, .string event, .slice ao n c] 25)).heap[w.heap.size]? = some (.cells #[.int .u64 time, .string event, .slice ao n c] 25 (0, 0))) := ⟨hc1, hl1⟩
  clear hc1 hl1
  cases hw : isWd event.data.toList
  · go_enter Tryd.func10, Tryd.ntmps10
    go_wp2_with fail
    refine (word_any _ _ hev).mono ?_
    rintro e w1 ⟨rfl, rfl⟩
    rw [hw]
    go_wp2
    go_ret2
    obtain ⟨q1, q2⟩ := HNO.out 31 (by unfold mayW; rw [hw]; rfl) (by decide)
    exact ⟨ret_two q1.symm q2.symm, H1.out.1⟩
  · by_cases h16 : 16 < n
    · have h16' : (16 : Int) < n := by omega
      go_enter Tryd.func10, Tryd.ntmps10
      go_wp2_with fail
      refine (word_any _ _ hev).mono ?_
      rintro e w1 ⟨rfl, rfl⟩
      rw [hw]
      go_wp2
      go_ret2
      obtain ⟨q1, q2⟩ := HNO.out 2 (by unfold mayW; rw [hw, if_pos rfl, if_pos (by have := H.out.2.2; omega)]) (by decide)
      exact ⟨ret_two q1.symm q2.symm, H1.out.1⟩
    · have h16' : ¬ (16 : Int) < n := by omega
      go_enter Tryd.func10, Tryd.ntmps10
      go_wp2_with fail
      refine (word_any _ _ hev).mono ?_
      rintro e w1 ⟨rfl, hw1⟩
      subst hw1
      rw [hw]
      go_wp2_with fail
      go_loopw [5, 6] (fun i _ wr => ∃ k : Nat, i = .int .i64 k ∧ k ≤ n ∧ Chg Non w wr ∧ wr.heap[w.heap.size]? = some (.cells #[.int .u64 time, .string event, .slice ao n c] 25 (0, 0)) ∧ ∀ (j : Nat) (p : PairD), ps[j]? = some p → j < k → keyOk p.key (ps.take j) = true) (fun i _ _ => n - (intOf i).toNat)
      case atStart => exact ⟨0, rfl, by omega, H1.out.1, H1.out.2, fun j p _ hj => by omega⟩
      case round =>
        obtain ⟨k, rfl, hkn, hch, hbx, hl⟩ := hrel
        have HL : Hid (Chg Non w wr ∧ wr.heap[w.heap.size]? = some (.cells #[.int .u64 time, .string event, .slice ao n c] 25 (0, 0)) ∧ ∀ (j : Nat) (p : PairD), ps[j]? = some p → j < k → keyOk p.key (ps.take j) = true) := ⟨hch, hbx, hl⟩
        have y2 : wr.cell? ⟨w.heap.size, 2, none⟩ = some (.slice ao n c) := by rw [Lib.cell_of_heap hbx]; rfl
        clear hl
        by_cases hp : k < n
        · have hpl : k < ps.length := by have := H.out.2.2; omega
          have hat : ps[k]? = some (ps[k]'hpl) := by simp
          obtain ⟨p, hpd⟩ : ∃ p, p = ps[k]'hpl := ⟨_, rfl⟩
          rw [← hpd] at hat
          obtain ⟨ao', n', c', e', -, -, -, hx⟩ := H.out.1.non hch
          cases e'
          obtain ⟨ok, g, off, rfl, hg, d0, d1, d2, d3⟩ := hx k p hat
          have HP : Hid (ps[k]? = some p ∧ p.Ok) := ⟨hat, ok⟩
          have hkc : k ≤ c := by omega
          obtain ⟨key, isNum, num, text⟩ := p
          simp only at d0 d1 d2 d3
          clear hpd hat hx ok hch hbx hg d1 d2 d3
          go_wp2_with fail
          go_region_with (go_at_call 28; (refine (mayKey_any key _ (ps.take k) _ ?_ ?_).mono ?_; exact HP.out.2.key; exact ((H.out.1.non HL.out.1).non (Chg.refl _ _).drew).take (by omega); rintro e w3 ⟨rfl, hc3⟩))
          all_goals
            have H3 : Hid (Chg Non w w3 ∧ w3.heap[w.heap.size]? = some (.cells #[.int .u64 time, .string event, .slice (some ⟨g, off, none⟩) n c] 25 (0, 0))) := ⟨HL.out.1.trans hc3.undrew (fun _ _ x => x), by rw [hc3.undrew.block _ (Array.getElem?_eq_some_iff.1 HL.out.2.1).1 (fun x => x)]; exact HL.out.2.1⟩
            clear hc3 y2 d0
            cases hq : keyOk key (ps.take k)
            · go_wp2
              go_ret2
              obtain ⟨q1, q2⟩ := HNO.out 31 (by unfold mayW; rw [hw, if_pos rfl, if_neg (by have := H.out.2.2; omega), keysOk_false HP.out.1 hq]; rfl) (by decide)
              exact ⟨ret_two q1.symm q2.symm, H3.out.1⟩
            · go_wp2
              go_roundw
              case rel =>
                refine ⟨k + 1, by go_num, by omega, H3.out.1, H3.out.2, fun j q hj hjk => ?_⟩
                by_cases hjk' : j = k
                · subst hjk'
                  rw [HP.out.1] at hj
                  cases hj
                  exact hq
                · exact HL.out.2.2 j q hj (by omega)
              case measure => simp [intOf]; omega
        · have HK : Hid (keysOk ps = true) := keysOk_true (fun i p hp => HL.out.2.2 i p hp (by have := (List.getElem?_eq_some_iff.1 hp).1; have := H.out.2.2; omega))
          have y0 : wr.cell? ⟨w.heap.size, 0, none⟩ = some (.int .u64 time) := by rw [Lib.cell_of_heap hbx]; rfl
          have y1 : wr.cell? ⟨w.heap.size, 1, none⟩ = some (.string event) := by rw [Lib.cell_of_heap hbx]; rfl
          have H0 : Hid (Chg Non w wr ∧ wr.heap[w.heap.size]? = some (.cells #[.int .u64 time, .string event, .slice ao n c] 25 (0, 0)) ∧ Tab wr) := ⟨HL.out.1, HL.out.2.1, H.out.2.1.non HL.out.1⟩
          have he32 := (isWd_size hw).2
          have hdl := dec_len time htime
          obtain ⟨D, hD⟩ : ∃ D : ByteArray, D = ⟨(Lib.decDigits time).toArray⟩ := ⟨_, rfl⟩
          have hDs : D.size ≤ 20 := by rw [hD, sz_arr]; exact hdl
          obtain ⟨S1, e1, z1, r1⟩ := add_str ⟨#[116, 61]⟩ D (by have q2 : (⟨#[116, 61]⟩ : ByteArray).size = 2 := rfl; omega)
          obtain ⟨S2, e2, z2, r2⟩ := add_str S1 ⟨#[32, 101, 118, 61]⟩ (by have q2 : (⟨#[116, 61]⟩ : ByteArray).size = 2 := rfl; have q4 : (⟨#[32, 101, 118, 61]⟩ : ByteArray).size = 4 := rfl; omega)
          obtain ⟨S3, e3, z3, r3⟩ := add_str S2 event (by have q2 : (⟨#[116, 61]⟩ : ByteArray).size = 2 := rfl; have q4 : (⟨#[32, 101, 118, 61]⟩ : ByteArray).size = 4 := rfl; omega)
          have HS : Hid (S3.data.toList = lineB time event (ps.take 0) ∧ D = ⟨(Lib.decDigits time).toArray⟩) := ⟨by rw [e3, e2, e1, hD]; simp [lineB], hD⟩
          clear hbx hch HL e1 e2 e3 z1 z2 z3 hD
          obtain ⟨w2, hw2⟩ : ∃ w2, w2 = wr := ⟨_, rfl⟩
          subst hw2
          go_wp2_with fail
          go_cut [7] from 39 to 46 (fun s wc => s = .string S3 ∧ Chg Non w wc ∧ wc.heap[w.heap.size]? = some (.cells #[.int .u64 time, .string event, .slice ao n c] 25 (0, 0)) ∧ Tab wc)
          case first =>
            go_region_with (go_at_call 29; (refine (formatUint_any time htime _ ?_).mono ?_; exact H0.out.2.2.non (Chg.refl _ _).drew; rintro e w3 ⟨rfl, hc3⟩; rw [← HS.out.2]; have k1 : w3.cell? ⟨w.heap.size, 1, none⟩ = some (.string event) := (by rw [Lib.cell_of_heap (by rw [hc3.undrew.block _ (Array.getElem?_eq_some_iff.1 H0.out.2.1).1 (fun x => x)]; exact H0.out.2.1)]; rfl)))
            all_goals
              have H3 : Hid (Chg Non w w3 ∧ w3.heap[w.heap.size]? = some (.cells #[.int .u64 time, .string event, .slice ao n c] 25 (0, 0)) ∧ Tab w3) := ⟨H0.out.1.trans hc3.undrew (fun _ _ x => x), by rw [hc3.undrew.block _ (Array.getElem?_eq_some_iff.1 H0.out.2.1).1 (fun x => x)]; exact H0.out.2.1, H0.out.2.2.non hc3.undrew⟩
              clear hc3
              go_wp2_with fail
              go_meet
              case rel => exact ⟨rfl, H3.out⟩
          case rest =>
            obtain ⟨rfl, hc3⟩ := hcut
            have H3 : Hid (Chg Non w wc ∧ wc.heap[w.heap.size]? = some (.cells #[.int .u64 time, .string event, .slice ao n c] 25 (0, 0)) ∧ Tab wc) := hc3
            clear hc3 y0 y1 y2 r1 r2 r3 H0
            go_wp2_with fail
            obtain ⟨w3, hw3⟩ : ∃ w3, w3 = wc := ⟨_, rfl⟩
            subst hw3
            go_loopw [7, 8, 9] (fun s i _ wr => ∃ (k : Nat) (S : ByteArray), i = .int .i64 k ∧ s = .string S ∧ k ≤ n ∧ S.data.toList = lineB time event (ps.take k) ∧ (∀ (j : Nat) (p : PairD), ps[j]? = some p → j < k → textOk p = true) ∧ Chg Non w wr ∧ wr.heap[w.heap.size]? = some (.cells #[.int .u64 time, .string event, .slice ao n c] 25 (0, 0)) ∧ Tab wr) (fun _ i _ _ => n - (intOf i).toNat)
            case atStart => exact ⟨0, S3, rfl, rfl, by omega, HS.out.1, fun j p _ hj => by omega, H3.out⟩
            case round =>
              obtain ⟨m, S, rfl, rfl, hmn, hS, htx, hch, hbx, htb⟩ := hrel
              have HQ : Hid (S.data.toList = lineB time event (ps.take m) ∧ (∀ (j : Nat) (p : PairD), ps[j]? = some p → j < m → textOk p = true) ∧ Chg Non w wr ∧ wr.heap[w.heap.size]? = some (.cells #[.int .u64 time, .string event, .slice ao n c] 25 (0, 0)) ∧ Tab wr) := ⟨hS, htx, hch, hbx, htb⟩
              have y2 : wr.cell? ⟨w.heap.size, 2, none⟩ = some (.slice ao n c) := by rw [Lib.cell_of_heap hbx]; rfl
              have hSz : S.size ≤ 66170 := by
                have h1 := line_len htime he32 (fit_take H.out.1 HK.out htx) (by have := H.out.2.2; simp; omega) m
                rw [List.take_take, Nat.min_self] at h1
                rw [str_size hS]
                exact h1
              clear H3 HS
              by_cases hp : m < n
              · have hpl : m < ps.length := by have := H.out.2.2; omega
                have hat : ps[m]? = some (ps[m]'hpl) := by simp
                obtain ⟨p, hpd⟩ : ∃ p, p = ps[m]'hpl := ⟨_, rfl⟩
                rw [← hpd] at hat
                obtain ⟨ao', n', c', e', -, -, -, hx⟩ := H.out.1.non hch
                cases e'
                obtain ⟨ok, g, off, rfl, hg, d0, d1, d2, d3⟩ := hx m p hat
                have hk32 := keys_at HK.out hat
                have hts : p.text.size ≤ 9223372036854775807 := ok.text
                have hnum : p.num < 18446744073709551616 := ok.num
                have HP : Hid (ps[m]? = some p) := hat
                obtain ⟨key, isNum, num, text⟩ := p
                simp only at d0 d1 d2 d3 hk32 hts hnum
                obtain ⟨T1, e1, z1, r1⟩ := add_str S ⟨#[32]⟩ (by have q1 : (⟨#[32]⟩ : ByteArray).size = 1 := rfl; omega)
                obtain ⟨T2, e2, z2, r2⟩ := add_str T1 key (by have q1 : (⟨#[32]⟩ : ByteArray).size = 1 := rfl; omega)
                obtain ⟨T3, e3, z3, r3⟩ := add_str T2 ⟨#[61]⟩ (by have q1 : (⟨#[32]⟩ : ByteArray).size = 1 := rfl; have q2 : (⟨#[61]⟩ : ByteArray).size = 1 := rfl; omega)
                have hT3z : T3.size ≤ 66210 := by have q1 : (⟨#[32]⟩ : ByteArray).size = 1 := rfl; have q2 : (⟨#[61]⟩ : ByteArray).size = 1 := rfl; omega
                have HT3 : Hid (T3.data.toList = lineB time event (ps.take m) ++ [32] ++ key.data.toList ++ [61]) := by show _ = _; rw [e3, e2, e1, hS]
                have hcA : Chg Non wr (wr.alloc (.cells #[.string key, .bool isNum, .int .u64 num, .string text] 28)) := (Chg.refl _ _).alloc _
                have HA : Hid (Chg Non w (wr.alloc (.cells #[.string key, .bool isNum, .int .u64 num, .string text] 28)) ∧ (wr.alloc (.cells #[.string key, .bool isNum, .int .u64 num, .string text] 28)).heap[w.heap.size]? = some (.cells #[.int .u64 time, .string event, .slice (some ⟨g, off, none⟩) n c] 25 (0, 0)) ∧ Tab (wr.alloc (.cells #[.string key, .bool isNum, .int .u64 num, .string text] 28))) := ⟨hch.trans hcA (fun _ _ x => x), by rw [hcA.block _ (Array.getElem?_eq_some_iff.1 hbx).1 (fun x => x)]; exact hbx, htb.non hcA⟩
                clear hpd hat hx ok hch hbx htb hg hS htx e1 e2 e3 z1 z2 z3 hcA hSz
                cases isNum
                · by_cases hlong : 1024 < text.size
                  · have hl' : (1024 : Int) < text.size := by omega
                    go_wp2
                    go_ret2
                    obtain ⟨q1, q2⟩ := HNO.out 32 (by unfold mayW; rw [hw, if_pos rfl, if_neg (by have := H.out.2.2; omega), HK.out, texts_false HP.out (by unfold textOk; simp; omega)]; rfl) (by decide)
                    exact ⟨ret_two q1.symm q2.symm, HA.out.1⟩
                  · have hl' : ¬ (1024 : Int) < text.size := by omega
                    obtain ⟨Q, hQ⟩ : ∃ Q : ByteArray, Q = ⟨([34] ++ text.data.toList.flatMap lett ++ [34]).toArray⟩ := ⟨_, rfl⟩
                    have hQz : Q.size ≤ 4098 := by
                      rw [hQ, sz_arr]
                      have := letts_len text.data.toList
                      have h3 : text.data.toList.length = text.size := by simp
                      simp only [List.length_append, List.length_cons, List.length_nil]
                      omega
                    obtain ⟨T4, e4, z4, r4⟩ := add_str T3 Q (by omega)
                    have HT4 : Hid (T4.data.toList = lineB time event (ps.take (m + 1)) ∧ Q = ⟨([34] ++ text.data.toList.flatMap lett ++ [34]).toArray⟩) := by
                      refine ⟨?_, hQ⟩
                      rw [e4, HT3.out, hQ, line_snoc time event HP.out]
                      rfl
                    clear e4 z4 hQz hQ
                    go_wp2_with fail
                    refine (quoted_any text _ (by omega)).mono ?_
                    rintro e w5 ⟨rfl, hc5⟩
                    rw [← HT4.out.2]
                    have H5 : Hid (Chg Non w w5 ∧ w5.heap[w.heap.size]? = some (.cells #[.int .u64 time, .string event, .slice (some ⟨g, off, none⟩) n c] 25 (0, 0)) ∧ Tab w5) := ⟨HA.out.1.trans hc5 (fun _ _ x => x), by rw [hc5.block _ (Array.getElem?_eq_some_iff.1 HA.out.2.1).1 (fun x => x)]; exact HA.out.2.1, HA.out.2.2.non hc5⟩
                    clear hc5 HA d0 d1 d2 d3 y2
                    go_wp2
                    go_roundw
                    case rel =>
                      refine ⟨m + 1, T4, by go_num, rfl, by omega, HT4.out.1, fun j q hj hjk => ?_, H5.out⟩
                      by_cases hjk' : j = m
                      · subst hjk'
                        rw [HP.out] at hj
                        cases hj
                        unfold textOk; simp; omega
                      · exact HQ.out.2.1 j q hj (by omega)
                    case measure => simp [intOf]; omega
                · obtain ⟨D, hD⟩ : ∃ D : ByteArray, D = ⟨(Lib.decDigits num).toArray⟩ := ⟨_, rfl⟩
                  have hDz : D.size ≤ 20 := by rw [hD, sz_arr]; exact dec_len num hnum
                  obtain ⟨T4, e4, z4, r4⟩ := add_str T3 D (by omega)
                  have HT4 : Hid (T4.data.toList = lineB time event (ps.take (m + 1)) ∧ D = ⟨(Lib.decDigits num).toArray⟩) := by
                    refine ⟨?_, hD⟩
                    rw [e4, HT3.out, hD, line_snoc time event HP.out]
                    rfl
                  clear e4 z4 hDz hD
                  go_wp2_with fail
                  refine (formatUint_any num hnum _ HA.out.2.2).mono ?_
                  rintro e w5 ⟨rfl, hc5⟩
                  rw [← HT4.out.2]
                  have H5 : Hid (Chg Non w w5 ∧ w5.heap[w.heap.size]? = some (.cells #[.int .u64 time, .string event, .slice (some ⟨g, off, none⟩) n c] 25 (0, 0)) ∧ Tab w5) := ⟨HA.out.1.trans hc5 (fun _ _ x => x), by rw [hc5.block _ (Array.getElem?_eq_some_iff.1 HA.out.2.1).1 (fun x => x)]; exact HA.out.2.1, HA.out.2.2.non hc5⟩
                  clear hc5 HA d0 d1 d2 d3 y2
                  go_wp2
                  go_roundw
                  case rel =>
                    refine ⟨m + 1, T4, by go_num, rfl, by omega, HT4.out.1, fun j q hj hjk => ?_, H5.out⟩
                    by_cases hjk' : j = m
                    · subst hjk'
                      rw [HP.out] at hj
                      cases hj
                      rfl
                    · exact HQ.out.2.1 j q hj (by omega)
                  case measure => simp [intOf]; omega
              · have et : ps.take m = ps := List.take_of_length_le (by have := H.out.2.2; omega)
                have HF : Hid (mayW event ps = 0 ∧ S.data.toList = lineB time event ps ∧ S.size = (lineB time event ps).length) := by
                  have h1 := HQ.out.1
                  rw [et] at h1
                  refine ⟨?_, h1, str_size h1⟩
                  unfold mayW
                  rw [hw, if_pos rfl, if_neg (by have := H.out.2.2; omega), HK.out, texts_true (fun i p hp => HQ.out.2.1 i p hp (by have := (List.getElem?_eq_some_iff.1 hp).1; have := H.out.2.2; omega))]
                  rfl
                clear hS htx hch hbx htb et
                by_cases hlong : S.size ≤ 1024
                · have hl' : ¬ (1024 : Int) < S.size := by omega
                  go_wp2
                  go_ret2
                  obtain ⟨q1, q2, q3⟩ := HF.out
                  refine ⟨ret_two ?_ ?_, HQ.out.2.2.1⟩
                  · unfold encT
                    rw [if_pos ⟨q1, by omega⟩]
                    exact str_of q2
                  · unfold encE
                    rw [if_pos q1, if_pos (by omega)]
                · have hl' : (1024 : Int) < S.size := by omega
                  go_wp2
                  go_ret2
                  obtain ⟨q1, q2, q3⟩ := HF.out
                  refine ⟨ret_two ?_ ?_, HQ.out.2.2.1⟩
                  · unfold encT
                    rw [if_neg (by omega)]
                  · unfold encE
                    rw [if_pos q1, if_neg (by omega)]
end Go.Proofs.YtlhcadfcgibkdaaDoor
