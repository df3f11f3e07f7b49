/-
  What a key's closure does: the code of parts.
-/
import Derived.Test.YtijpdhjlafihkaaDoorTj16
namespace Go.Proofs.YtijpdhjlafihkaaDoor
open Go.RowKit
set_option linter.unusedVariables false
set_option maxRecDepth 100000

set_option maxRecDepth 100000 in
set_option maxHeartbeats 4000000 in
theorem code_any (q : Int) (v : Value) (xss : List (List Int)) (P1 P2 D1 D2 : Nat) (ik ok : List Int) (w : World) (hv : Valid q) (ht : Tabs w) (hp : Pt w v xss)
    (h1 : w.cell? ⟨P1, 0, none⟩ = some (.pointer (some ⟨D1, 0, none⟩))) (h2 : w.cell? ⟨P2, 0, none⟩ = some (.pointer (some ⟨D2, 0, none⟩))) (hd1 : DgC w D1 q ik (cnt ik)) (hd2 : DgC w D2 q ok (cnt ok)) :
    Calls Tryd.prog 55 #[v, .pointer (some ⟨P1, 0, none⟩), .pointer (some ⟨P2, 0, none⟩)] w fun r w' => ∃ b, r = .returned (.slice (some ⟨b, 0, none⟩) (sizeOfH q) (sizeOfH q)) ∧ w.heap.size ≤ b ∧ Chg w w' ∧ Ar w' b (arr .u8 (sizeOfH q) (sumByte q (sumSt q (ok ++ sumL q (ik ++ xss.flatten))))) := by
  obtain ⟨n, p, cap, hn, rfl⟩ : ∃ n p cap, n = xss.length ∧ v = .slice p n cap := by
    rcases hp with ⟨e1, e2⟩ | ⟨a, cap, e1, e2⟩ | ⟨b, o, cap, e1, _⟩
    · exact ⟨0, none, 0, by rw [e2]; rfl, e1⟩
    · exact ⟨0, some a, cap, by rw [e2]; rfl, e1⟩
    · exact ⟨_, _, _, rfl, e1⟩
  have hnb : n < 281474976710657 := by
    rcases hp with ⟨e1, e2⟩ | ⟨a, cap, e1, e2⟩ | ⟨b, o, cap, e1, e2, _⟩
    · rw [hn, e2]; decide
    · rw [hn, e2]; decide
    · rw [hn]; exact e2
  have HX : Hid (Valid q ∧ Tabs w ∧ Pt w (.slice p n cap) xss ∧ n = xss.length) := ⟨hv, ht, hp, hn⟩
  have HP : Hid (w.cell? ⟨P2, 0, none⟩ = some (.pointer (some ⟨D2, 0, none⟩)) ∧ DgC w D2 q ok (cnt ok)) := ⟨h2, hd2⟩
  have HD1 : Hid (DgC w D1 q ik (cnt ik)) := hd1
  obtain ⟨S, hS⟩ : ∃ S, S = sizeOfH q := ⟨_, rfl⟩
  rw [← hS]
  have HS : Hid (S = sizeOfH q) := hS
  clear hv ht hp hn hS h2 hd1 hd2
  go_enter Tryd.func55, Tryd.ntmps55
  go_wp2_with fail
  refine (clone_any D1 q ik (cnt ik) w HD1.out).mono ?_
  rintro e w1 ⟨rfl, hc1, hd1⟩
  obtain ⟨E, hE⟩ : ∃ E, E = w.heap.size := ⟨_, rfl⟩
  rw [← hE] at hd1 ⊢
  have z0 : Hid (Chg w w1 ∧ DgC w1 E q ik (cnt ik) ∧ w.heap.size ≤ E) := ⟨hc1, hd1, by omega⟩
  clear hc1 hd1 hE h1
  go_wp2_with fail
  have HDw : Hid (w.heap.size ≤ E) := z0.out.2.2
  go_loopw [13] (fun v wr => ∃ (i : Nat), v = .int .i64 i ∧ i ≤ n ∧ Chg w wr ∧ DgC wr E q (ik ++ (xss.take i).flatten) (cnt (ik ++ (xss.take i).flatten))) (fun v wr => n - (intOf v).toNat)
  case atStart => exact ⟨0, rfl, by omega, z0.out.1, by simpa using z0.out.2.1⟩
  case round =>
    clear z0
    obtain ⟨i, rfl, hi, hch, hd⟩ := hrel
    obtain ⟨hv, ht, hp, hn⟩ := HX.out
    by_cases hin : i < n
    · rcases hp with ⟨e1, e2⟩ | ⟨a, cap, e1, e2⟩ | ⟨pb, po, pcap, e1, e2, e3⟩
      · rw [hn, e2] at hin
        exact absurd hin (Nat.not_lt_zero i)
      · rw [hn, e2] at hin
        exact absurd hin (Nat.not_lt_zero i)
      · injection e1 with e4 e5 e6
        subst e4
        obtain ⟨u, g1, g2⟩ := e3 i (xss[i]'(by omega)) (List.getElem?_eq_getElem (by omega))
        have c0 := cell_at hch g1
        have hle : (i : Int) < n := by omega
        have hid : decide ((i : Int) < n) = true := by simp; omega
        have HW : Hid (Calls Tryd.prog 37 #[.pointer (some ⟨E, 0, none⟩), u] wr fun e w' => e = .returned (.tuple #[]) ∧ Chg w w' ∧ DgC w' E q (ik ++ (xss.take (i + 1)).flatten) (cnt (ik ++ (xss.take (i + 1)).flatten))) := by
          have hsz := ht.size
          have hDw := HDw.out
          refine (write_any E q _ (xss[i]'(by omega)) u wr hv (ht.chg hch) (by omega) hd (g2.to hch hDw)).mono ?_
          rintro e w' ⟨rfl, k1, k2⟩
          have e7 : ik ++ (xss.take (i + 1)).flatten = (ik ++ (xss.take i).flatten) ++ xss[i]'(by omega) := by
            rw [List.take_add_one, List.getElem?_eq_getElem (by omega), List.flatten_append]
            simp
          rw [e7]
          exact ⟨rfl, Cb.low hch k1 hDw, k2⟩
        clear hv ht hn hch hd g1 g2 e2 e3 e5 e6
        go_wp2_with (first | (go_at_call 37; (refine HW.out.mono ?_; rintro e w4 ⟨rfl, hc4, hd4⟩)))
        go_roundw
        case rel => exact ⟨i + 1, by go_num, by omega, hc4, hd4⟩
        case measure => simp [intOf]; omega
    · have hid : decide ((i : Int) < n) = false := by simp; omega
      have hi' : i = n := by omega
      have e1 : xss.take i = xss := by rw [hi', hn]; exact List.take_length
      rw [e1] at hd
      have z2 : Hid (Chg w wr ∧ DgC wr E q (ik ++ xss.flatten) (cnt (ik ++ xss.flatten))) := ⟨hch, hd⟩
      have c2 := cell_at hch HP.out.1
      clear hv ht hp hn hch hd hi' e1
      go_wp2_with fail
      refine (clone_any D2 q ok (cnt ok) wr (HP.out.2.chg z2.out.1)).mono ?_
      rintro e w3 ⟨rfl, hc3, hd3⟩
      obtain ⟨F, hF⟩ : ∃ F, F = wr.heap.size := ⟨_, rfl⟩
      rw [← hF] at hd3 ⊢
      have z3 : Hid (Chg w w3 ∧ DgC w3 E q (ik ++ xss.flatten) (cnt (ik ++ xss.flatten)) ∧ DgC w3 F q ok (cnt ok) ∧ w.heap.size ≤ F) := ⟨z2.out.1.trans hc3, z2.out.2.chg hc3, hd3, by rw [hF]; exact z2.out.1.size⟩
      clear hc3 hd3 hF z2 c2
      go_wp2_with fail
      refine (sum_any E q _ w3 HX.out.1 (HX.out.2.1.chg z3.out.1) z3.out.2.1).mono ?_
      rintro e w4 ⟨b4, rfl, hb4, hc4, ha4⟩
      rw [← HS.out]
      have z4 : Hid (Chg w w4 ∧ DgC w4 F q ok (cnt ok) ∧ w.heap.size ≤ F ∧ Ap.Rd w4 (.slice (some ⟨b4, 0, none⟩) S S) (sumL q (ik ++ xss.flatten)) ∧ F < b4) := by
        have hr := Rd.ofArr ha4 (Nat.le_trans (size_le q) (by omega))
        rw [← HS.out] at hr
        refine ⟨z3.out.1.trans hc4, z3.out.2.2.1.chg hc4, z3.out.2.2.2, ?_, Nat.lt_of_lt_of_le z3.out.2.2.1.lt hb4⟩
        rw [sumL, ← HS.out]
        exact hr
      clear hc4 ha4 hb4 z3
      go_wp2_with fail
      refine (write_any F q ok (sumL q (ik ++ xss.flatten)) (.slice (some ⟨b4, 0, none⟩) S S) w4 HX.out.1 (HX.out.2.1.chg z4.out.1) (by have := z4.out.2.2.1; have := HX.out.2.1.size; omega) z4.out.2.1 (Rd.sl z4.out.2.2.2.1 (by rw [sumL_len]; have := size_le q; omega) F (fun e => by have := z4.out.2.2.2.2; simp [Value.ownBlock] at e; omega))).mono ?_
      rintro e w5 ⟨rfl, hc5, hd5⟩
      have z5 : Hid (Chg w w5 ∧ DgC w5 F q (ok ++ sumL q (ik ++ xss.flatten)) (cnt (ok ++ sumL q (ik ++ xss.flatten)))) := ⟨Cb.low z4.out.1 hc5 z4.out.2.2.1, hd5⟩
      clear hc5 hd5 z4
      go_wp2_with fail
      refine (sum_any F q _ w5 HX.out.1 (HX.out.2.1.chg z5.out.1) z5.out.2).mono ?_
      rintro e w6 ⟨b6, rfl, hb6, hc6, ha6⟩
      rw [← HS.out] at ha6 ⊢
      have z6 : Hid (w.heap.size ≤ b6 ∧ Chg w w6 ∧ Ar w6 b6 (arr .u8 S (sumByte q (sumSt q (ok ++ sumL q (ik ++ xss.flatten)))))) := ⟨Nat.le_trans z5.out.1.size hb6, z5.out.1.trans hc6, ha6⟩
      clear hb6 hc6 ha6 z5
      go_wp2_with fail
      go_ret
      exact ⟨b6, rfl, z6.out⟩
end Go.Proofs.YtijpdhjlafihkaaDoor
