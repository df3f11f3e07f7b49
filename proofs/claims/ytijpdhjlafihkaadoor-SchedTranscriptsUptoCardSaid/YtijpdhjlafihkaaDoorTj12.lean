/-
  The sum of parts: the function Of.
-/
import Derived.Test.YtijpdhjlafihkaaDoorTj11
namespace Go.Proofs.YtijpdhjlafihkaaDoor
open Go.RowKit
set_option linter.unusedVariables false
set_option maxRecDepth 100000

/-- Bytes that a slice shows. -/
def SlA (w : World) (v : Value) (xs : List Int) : Prop :=
  (v = .slice none 0 0 ∧ xs = []) ∨ (∃ a cap, v = .slice (some a) 0 cap ∧ xs = []) ∨ ∃ b o cap, v = .slice (some ⟨b, o, none⟩) xs.length cap ∧ xs.length ≤ cap ∧ (cap < 9223372036854775808 ∧ xs.length < 4611686018427387904) ∧ Bs w b o xs.length (gd xs)
theorem SlA.chg {w w' : World} {v : Value} {xs : List Int} (h : SlA w v xs) (k : Chg w w') : SlA w' v xs := by
  rcases h with h | h | ⟨b, o, cap, h1, h2, h3, h4⟩
  · exact .inl h
  · exact .inr (.inl h)
  · exact .inr (.inr ⟨b, o, cap, h1, h2, h3, h4.chg k⟩)
theorem SlA.to {w w' : World} {v : Value} {xs : List Int} (h : SlA w v xs) (k : Chg w w') {D : Nat} (hD : w.heap.size ≤ D) : Sl w' D v xs := by
  rcases h with h | h | ⟨b, o, cap, h1, h2, h3, h4⟩
  · exact .inl h
  · exact .inr (.inl h)
  · cases xs with
    | nil => exact .inr (.inl ⟨_, _, h1, rfl⟩)
    | cons x xs =>
      have := block_lt_of_cell (h4 0 (by simp))
      dsimp only at this
      exact .inr (.inr ⟨b, o, cap, h1, h2, h3, h4.chg k, by omega⟩)
/-- Parts that a slice shows. -/
def Pt (w : World) (v : Value) (xss : List (List Int)) : Prop :=
  (v = .slice none 0 0 ∧ xss = []) ∨ (∃ a cap, v = .slice (some a) 0 cap ∧ xss = []) ∨ ∃ b o cap, v = .slice (some ⟨b, o, none⟩) xss.length cap ∧ xss.length < 281474976710657 ∧ ∀ j xs, xss[j]? = some xs → ∃ u, w.cell? ⟨b, o + j, none⟩ = some u ∧ SlA w u xs
theorem Pt.chg {w w' : World} {v : Value} {xss : List (List Int)} (h : Pt w v xss) (k : Chg w w') : Pt w' v xss := by
  rcases h with h | h | ⟨b, o, cap, h1, h2, h3⟩
  · exact .inl h
  · exact .inr (.inl h)
  · refine .inr (.inr ⟨b, o, cap, h1, h2, fun j xs hj => ?_⟩)
    obtain ⟨u, g1, g2⟩ := h3 j xs hj
    exact ⟨u, cell_at k g1, g2.chg k⟩

theorem Pt.made2 {w u : World} (hu : Chg w u) {va vb : Value} {xa xb : List Int} (ha : SlA w va xa) (hb : SlA w vb xb) (t : TypeId) : Pt (u.alloc (.cells #[va, vb] t)) (.slice (some ⟨u.heap.size, 0, none⟩) 2 2) [xa, xb] := by
  have hn := Ar.new u #[va, vb] t
  refine .inr (.inr ⟨_, _, _, rfl, by simp, fun j xs hj => ?_⟩)
  match j, hj with
  | 0, hj =>
    simp at hj
    subst hj
    exact ⟨va, hn.cell 0, ha.chg (hu.alloc _)⟩
  | 1, hj =>
    simp at hj
    subst hj
    exact ⟨vb, hn.cell 1, hb.chg (hu.alloc _)⟩
theorem Pt.made3 {w u : World} (hu : Chg w u) {va vb vc : Value} {xa xb xc : List Int} (ha : SlA w va xa) (hb : SlA w vb xb) (hc : SlA w vc xc) (t : TypeId) : Pt (u.alloc (.cells #[va, vb, vc] t)) (.slice (some ⟨u.heap.size, 0, none⟩) 3 3) [xa, xb, xc] := by
  have hn := Ar.new u #[va, vb, vc] t
  refine .inr (.inr ⟨_, _, _, rfl, by simp, fun j xs hj => ?_⟩)
  match j, hj with
  | 0, hj =>
    simp at hj
    subst hj
    exact ⟨va, hn.cell 0, ha.chg (hu.alloc _)⟩
  | 1, hj =>
    simp at hj
    subst hj
    exact ⟨vb, hn.cell 1, hb.chg (hu.alloc _)⟩
  | 2, hj =>
    simp at hj
    subst hj
    exact ⟨vc, hn.cell 2, hc.chg (hu.alloc _)⟩
/-- A new slice's bytes. -/
theorem SlA.new (w : World) (xs : List Int) (t : TypeId) (hl : xs.length < 281474976710657) : SlA (w.alloc (.cells (xs.map (Value.int .u8)).toArray t)) (.slice (some ⟨w.heap.size, 0, none⟩) xs.length xs.length) xs := by
  have hn := Ar.new w (xs.map (Value.int .u8)).toArray t
  refine .inr (.inr ⟨_, _, _, rfl, Nat.le_refl _, ⟨by omega, by omega⟩, fun j hj => ?_⟩)
  rw [Nat.zero_add]
  refine (hn.cell j).trans ?_
  simp [gd, List.getD_eq_getElem?_getD, hj]

set_option maxRecDepth 100000 in
set_option maxHeartbeats 4000000 in
theorem of_any (q : Int) (v : Value) (xss : List (List Int)) (w : World) (hv : Valid q) (ht : Tabs w) (hp : Pt w v xss) :
    Calls Tryd.prog 21 #[.int .i64 q, v] w fun r w' => ∃ b, r = .returned (.slice (some ⟨b, 0, none⟩) (sizeOfH q) (sizeOfH q)) ∧ w.heap.size ≤ b ∧ Chg w w' ∧ Ar w' b (arr .u8 (sizeOfH q) (sumByte q (sumSt q xss.flatten))) := by
  obtain ⟨X, hX⟩ : ∃ X, X = dig q (startOf q) (fun _ => 0) 0 0 := ⟨_, rfl⟩
  have HBe : Hid (Calls Tryd.prog 36 #[.int .i64 q] w fun r w' => r = .returned (.agg X) ∧ Chg w w') := by
    rw [hX]
    exact begin_any q w ht
  have hz' : (Tryd.prog.info? 59).map (·.size) = some X.size := by rw [hX, dig_size]; exact zero44.2
  have hl' : (dig 0 (fun _ => 0) (fun _ => 0) 0 0).size = X.size := by rw [hX, dig_size, dig_size]
  have ho' : X.all (·.oneCell') = true := by rw [hX]; exact dig_one _ _ _ _ _
  have hz := zero44.1
  obtain ⟨n, p, cap, hn, rfl⟩ : ∃ n p cap, n = xss.length ∧ v = .slice p n cap := by
    rcases hp with ⟨e1, e2⟩ | ⟨a, cap, e1, e2⟩ | ⟨b, o, cap, e1, _⟩
    · exact ⟨0, none, 0, by rw [e2]; rfl, e1⟩
    · exact ⟨0, some a, cap, by rw [e2]; rfl, e1⟩
    · exact ⟨_, _, _, rfl, e1⟩
  have hnb : n < 281474976710657 := by
    rcases hp with ⟨e1, e2⟩ | ⟨a, cap, e1, e2⟩ | ⟨b, o, cap, e1, e2, _⟩
    · rw [hn, e2]; decide
    · rw [hn, e2]; decide
    · rw [hn]; exact e2
  have HX : Hid (X = dig q (startOf q) (fun _ => 0) 0 0 ∧ Valid q ∧ Tabs w ∧ Pt w (.slice p n cap) xss ∧ n = xss.length) := ⟨hX, hv, ht, hp, hn⟩
  obtain ⟨S, hS⟩ : ∃ S, S = sizeOfH q := ⟨_, rfl⟩
  rw [← hS]
  have HS : Hid (S = sizeOfH q) := hS
  clear hX hv ht hp hn hS
  go_enter Tryd.func21, Tryd.ntmps21
  go_wp2_with (first | (go_at_call 36; (refine HBe.out.mono ?_; rintro r' w2 ⟨rfl, hc2⟩)) | refine wpList_store_row rfl 59 _ _ rfl _ _ rfl rfl _ _ (heap_alloc_last w2 _) hz' hl' ho' ?_)
  obtain ⟨D, hD⟩ : ∃ D, D = w2.heap.size := ⟨_, rfl⟩
  obtain ⟨w3, hw3⟩ : ∃ w3, w3 = (w2.alloc (.cells (dig 0 (fun _ => 0) (fun _ => 0) 0 0) 59)).setRow w2.heap.size X := ⟨_, rfl⟩
  rw [← hw3, ← hD]
  have z0 : Hid (Chg w w3 ∧ DgC w3 D q [] (cnt []) ∧ w.heap.size ≤ D) := by
    refine ⟨?_, ⟨fun _ => 0, ?_, fun j hj => ?_⟩, by rw [hD]; exact hc2.size⟩
    · rw [hw3]
      exact (hc2.alloc _).setRow hc2.size _
    · have : Ar ((w2.alloc (.cells (dig 0 (fun _ => 0) (fun _ => 0) 0 0) 59)).setRow w2.heap.size X) w2.heap.size X := (Ar.new w2 _ _).row _
      rw [← hw3, ← hD, HX.out.1] at this
      have e : stOf q [] = startOf q := by simp [stOf, stN]
      rw [e]
      simpa [cnt] using this
    · simp at hj
  have HDw : Hid (w.heap.size ≤ D) := z0.out.2.2
  clear hz hz' hl' ho' hw3 hD hc2
  go_loopw [12] (fun v wr => ∃ (i : Nat), v = .int .i64 i ∧ i ≤ n ∧ Chg w wr ∧ DgC wr D q (xss.take i).flatten (cnt (xss.take i).flatten)) (fun v wr => n - (intOf v).toNat)
  case atStart => exact ⟨0, rfl, by omega, z0.out.1, z0.out.2.1⟩
  case round =>
    clear z0
    obtain ⟨i, rfl, hi, hch, hd⟩ := hrel
    obtain ⟨hX, hv, ht, hp, hn⟩ := HX.out
    by_cases hin : i < n
    · rcases hp with ⟨e1, e2⟩ | ⟨a, cap, e1, e2⟩ | ⟨pb, po, pcap, e1, e2, e3⟩
      · rw [hn, e2] at hin
        exact absurd hin (Nat.not_lt_zero i)
      · rw [hn, e2] at hin
        exact absurd hin (Nat.not_lt_zero i)
      · injection e1 with e4 e5 e6
        subst e4
        obtain ⟨u, g1, g2⟩ := e3 i (xss[i]'(by omega)) (List.getElem?_eq_getElem (by omega))
        have c0 := cell_at hch g1
        have hle : (i : Int) < n := by omega
        have hid : decide ((i : Int) < n) = true := by simp; omega
        have HW : Hid (Calls Tryd.prog 37 #[.pointer (some ⟨D, 0, none⟩), u] wr fun e w' => e = .returned (.tuple #[]) ∧ Chg w w' ∧ DgC w' D q (xss.take (i + 1)).flatten (cnt (xss.take (i + 1)).flatten)) := by
          have hsz := ht.size
          have hDw := HDw.out
          refine (write_any D q _ (xss[i]'(by omega)) u wr hv (ht.chg hch) (by omega) hd (g2.to hch hDw)).mono ?_
          rintro e w' ⟨rfl, k1, k2⟩
          have e7 : (xss.take (i + 1)).flatten = (xss.take i).flatten ++ xss[i]'(by omega) := by
            rw [List.take_add_one, List.getElem?_eq_getElem (by omega), List.flatten_append]
            simp
          rw [e7]
          exact ⟨rfl, Cb.low hch k1 hDw, k2⟩
        clear hX hv ht hn hch hd g1 g2 e2 e3 e5 e6
        go_wp2_with (first | (go_at_call 37; (refine HW.out.mono ?_; rintro e w4 ⟨rfl, hc4, hd4⟩)))
        go_roundw
        case rel => exact ⟨i + 1, by go_num, by omega, hc4, hd4⟩
        case measure => simp [intOf]; omega
    · have hid : decide ((i : Int) < n) = false := by simp; omega
      have hi' : i = n := by omega
      have e1 : xss.take i = xss := by rw [hi', hn]; exact List.take_length
      rw [e1] at hd
      have HSm : Hid (Calls Tryd.prog 38 #[.pointer (some ⟨D, 0, none⟩)] wr fun r w' => ∃ b, r = .returned (.slice (some ⟨b, 0, none⟩) S S) ∧ w.heap.size ≤ b ∧ Chg w w' ∧ Ar w' b (arr .u8 S (sumByte q (sumSt q xss.flatten)))) := by
        rw [HS.out]
        refine (sum_any D q _ wr hv (ht.chg hch) hd).mono ?_
        rintro r w' ⟨b, rfl, k1, k2, k3⟩
        exact ⟨b, rfl, Nat.le_trans hch.size k1, hch.trans k2, k3⟩
      clear hX hv ht hp hn hch hd hi' e1
      go_wp2_with (first | (go_at_call 38; (refine HSm.out.mono ?_; rintro e w4 ⟨b, rfl, hb4, hc4, ha4⟩)))
      go_ret
      exact ⟨b, rfl, hb4, hc4, ha4⟩

set_option maxRecDepth 100000 in
set_option maxHeartbeats 4000000 in
/-- Of no hash there is no sum. -/
theorem of_none (q : Int) (v : Value) (xss : List (List Int)) (w : World) (hv : ¬ Valid q) (ht : Tabs w) (hp : Pt w v xss) :
    Calls Tryd.prog 21 #[.int .i64 q, v] w fun r w' => r = .returned (.slice none 0 0) ∧ Chg w w' := by
  obtain ⟨X, hX⟩ : ∃ X, X = dig q (startOf q) (fun _ => 0) 0 0 := ⟨_, rfl⟩
  have HBe : Hid (Calls Tryd.prog 36 #[.int .i64 q] w fun r w' => r = .returned (.agg X) ∧ Chg w w') := by
    rw [hX]
    exact begin_any q w ht
  have hz' : (Tryd.prog.info? 59).map (·.size) = some X.size := by rw [hX, dig_size]; exact zero44.2
  have hl' : (dig 0 (fun _ => 0) (fun _ => 0) 0 0).size = X.size := by rw [hX, dig_size, dig_size]
  have ho' : X.all (·.oneCell') = true := by rw [hX]; exact dig_one _ _ _ _ _
  have hz := zero44.1
  obtain ⟨n, p, cap, hn, rfl⟩ : ∃ n p cap, n = xss.length ∧ v = .slice p n cap := by
    rcases hp with ⟨e1, e2⟩ | ⟨a, cap, e1, e2⟩ | ⟨b, o, cap, e1, _⟩
    · exact ⟨0, none, 0, by rw [e2]; rfl, e1⟩
    · exact ⟨0, some a, cap, by rw [e2]; rfl, e1⟩
    · exact ⟨_, _, _, rfl, e1⟩
  have hnb : n < 281474976710657 := by
    rcases hp with ⟨e1, e2⟩ | ⟨a, cap, e1, e2⟩ | ⟨b, o, cap, e1, e2, _⟩
    · rw [hn, e2]; decide
    · rw [hn, e2]; decide
    · rw [hn]; exact e2
  have HX : Hid (X = dig q (startOf q) (fun _ => 0) 0 0 ∧ ¬ Valid q ∧ Pt w (.slice p n cap) xss ∧ n = xss.length) := ⟨hX, hv, hp, hn⟩
  have hX0 : X[0]? = some (.int .i64 q) := by rw [hX]; exact dig_hash _ _ _ _ _
  have HX0 : Hid (X[0]? = some (.int .i64 q)) := hX0
  clear hX hv ht hp hn hX0
  go_enter Tryd.func21, Tryd.ntmps21
  go_wp2_with (first | (go_at_call 36; (refine HBe.out.mono ?_; rintro r' w2 ⟨rfl, hc2⟩)) | refine wpList_store_row rfl 59 _ _ rfl _ _ rfl rfl _ _ (heap_alloc_last w2 _) hz' hl' ho' ?_)
  obtain ⟨D, hD⟩ : ∃ D, D = w2.heap.size := ⟨_, rfl⟩
  obtain ⟨w3, hw3⟩ : ∃ w3, w3 = (w2.alloc (.cells (dig 0 (fun _ => 0) (fun _ => 0) 0 0) 59)).setRow w2.heap.size X := ⟨_, rfl⟩
  rw [← hw3, ← hD]
  have z0 : Hid (Chg w w3 ∧ Ar w3 D X) := by
    refine ⟨?_, ?_⟩
    · rw [hw3]
      exact (hc2.alloc _).setRow hc2.size _
    · rw [hw3, hD]
      exact (Ar.new w2 _ _).row _
  clear hz hz' hl' ho' hw3 hD hc2
  go_loopw [12] (fun v wr => ∃ (i : Nat), v = .int .i64 i ∧ i ≤ n ∧ Chg w wr ∧ Ar wr D X) (fun v wr => n - (intOf v).toNat)
  case atStart => exact ⟨0, rfl, by omega, z0.out.1, z0.out.2⟩
  case round =>
    clear z0
    obtain ⟨i, rfl, hi, hch, hd⟩ := hrel
    obtain ⟨hX, hv, hp, hn⟩ := HX.out
    by_cases hin : i < n
    · rcases hp with ⟨e1, e2⟩ | ⟨a, cap, e1, e2⟩ | ⟨pb, po, pcap, e1, e2, e3⟩
      · rw [hn, e2] at hin
        exact absurd hin (Nat.not_lt_zero i)
      · rw [hn, e2] at hin
        exact absurd hin (Nat.not_lt_zero i)
      · injection e1 with e4 e5 e6
        subst e4
        obtain ⟨u, g1, g2⟩ := e3 i (xss[i]'(by omega)) (List.getElem?_eq_getElem (by omega))
        have c0 := cell_at hch g1
        have hle : (i : Int) < n := by omega
        have hid : decide ((i : Int) < n) = true := by simp; omega
        have HW : Hid (Calls Tryd.prog 37 #[.pointer (some ⟨D, 0, none⟩), u] wr fun e w' => e = .returned (.tuple #[]) ∧ w' = wr) := write_none D q X u wr hv hd HX0.out
        have HC : Hid (Chg w wr ∧ Ar wr D X) := ⟨hch, hd⟩
        clear hX hv hn hch hd g1 g2 e2 e3 e5 e6
        go_wp2_with (first | (go_at_call 37; (refine HW.out.mono ?_; rintro e w4 ⟨rfl, hw4⟩; rw [hw4]; clear hw4 w4)))
        go_roundw
        case rel => exact ⟨i + 1, by go_num, by omega, HC.out.1, HC.out.2⟩
        case measure => simp [intOf]; omega
    · have hid : decide ((i : Int) < n) = false := by simp; omega
      have HSm : Hid (Calls Tryd.prog 38 #[.pointer (some ⟨D, 0, none⟩)] wr fun r w' => r = .returned (.slice none 0 0) ∧ w' = wr) := sum_none D q X wr hv hd HX0.out
      have HC : Hid (Chg w wr) := hch
      clear hX hv hp hn hch hd
      go_wp2_with (first | (go_at_call 38; (refine HSm.out.mono ?_; rintro e w4 ⟨rfl, hw4⟩; rw [hw4]; clear hw4 w4)))
      go_ret
      exact ⟨rfl, HC.out⟩

end Go.Proofs.YtijpdhjlafihkaaDoor
