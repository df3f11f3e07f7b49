/-
  The document's code of bytes under a key.
-/
import Derived.Test.YtijpdhjlafihkaaDoorTj47
import Derived.Test.YtijpdhjlafihkaaDoorTj29
namespace Go.Proofs.YtijpdhjlafihkaaDoor
open Go.RowKit
set_option linter.unusedVariables false
set_option maxRecDepth 100000

/-- A block of bytes: its cells, and that they are bytes' cells. -/
def Br (w : World) (b : Nat) (c : Array Value) : Prop := w.heap[b]? = some (.cells c 5 (0, 0))
theorem Br.ar {w : World} {b : Nat} {c : Array Value} (h : Br w b c) : Ar w b c := ⟨5, h⟩
theorem Br.set {w : World} {b : Nat} {c : Array Value} (h : Br w b c) (i : Nat) (v : Value) : Br (w.setCell ⟨b, i, none⟩ v) b (c.setIfInBounds i v) := by
  unfold Br at *
  rw [setCell_eq_setRow w b i c 5 (0, 0) v h, setRow_heap _ _ _ _ _ _ h]
theorem Br.other {w : World} {b : Nat} {c : Array Value} (h : Br w b c) {p : Addr} (hp : b ≠ p.block) (v : Value) : Br (w.setCell p v) b c := (Below.heap_setCell _ _ _ _ hp).trans h
theorem Br.chg {w w' : World} {b : Nat} {c : Array Value} (h : Br w b c) (k : Chg w w') : Br w' b c := (k.block b h.ar.lt).trans h
theorem Br.own {w : World} {b n : Nat} {f : Nat → Int} (h : Br w b (arr .u8 n f)) (hn : n ≤ 1000000) : Ap.OwnV w (.slice (some ⟨b, 0, none⟩) n n) ((List.range n).map f) := by
  refine .inr ⟨b, 0, n, n, rfl, by simp, Nat.le_refl _, Nat.le_trans hn (by decide), _, h, by rw [arr_size]; omega, ?_⟩
  rw [List.drop_zero, List.take_of_length_le (by simp [arr])]
  simp [arr]
theorem sumByte_range (q : Int) (s : Nat → Int) (i : Nat) : Byte (sumByte q s i) := by
  unfold sumByte Byte
  rw [IntKind.wrap_u8]
  omega
theorem sumL_range (q : Int) (xs : List Int) : ∀ x ∈ sumL q xs, 0 ≤ x ∧ x < 256 := by
  intro x hx
  unfold sumL at hx
  rw [List.mem_map] at hx
  obtain ⟨i, _, rfl⟩ := hx
  exact sumByte_range q _ i
theorem blkK_range (q : Int) (key : List Int) (y : Int) : ∀ x ∈ blkK q key y, 0 ≤ x ∧ x < 256 := by
  intro x hx
  unfold blkK at hx
  rw [List.mem_map] at hx
  obtain ⟨i, _, rfl⟩ := hx
  unfold blkF
  have h0 := bits_lo_u8 .xor (gd (keyOf q key) i) y
  have h1 := bits_hi_u8 .xor (gd (keyOf q key) i) y
  exact ⟨h0, by omega⟩
theorem app_range {a b : List Int} (ha : ∀ x ∈ a, 0 ≤ x ∧ x < 256) (hb : ∀ x ∈ b, 0 ≤ x ∧ x < 256) : ∀ x ∈ a ++ b, 0 ≤ x ∧ x < 256 := by
  intro x hx
  rcases List.mem_append.1 hx with h | h
  · exact ha x h
  · exact hb x h

set_option maxRecDepth 100000 in
set_option maxHeartbeats 8000000 in
theorem refMac_any (q : Int) (vk v : Value) (key msg : List Int) (w : World) (hv : Valid q) (hk : Ap.Rd w vk key) (hkx : ∀ x ∈ key, 0 ≤ x ∧ x < 256) (hkl : key.length ≤ 140737488351232) (hm : Ap.Rd w v msg) (hmx : ∀ x ∈ msg, 0 ≤ x ∧ x < 256) (hml : msg.length ≤ 140737488353000) :
    Calls Tryd.prog 45 #[.int .i64 q, vk, v] w fun r w' => ∃ o n c, r = .returned (.slice o n c) ∧ Chg w w' ∧ Ap.Rd w' (.slice o n c) (macL q key msg) ∧ ∀ k, (Value.slice o n c).ownBlock = some k → w.heap.size ≤ k := by
  obtain ⟨ao, n, c, rfl, hn, -⟩ := hk.shape
  obtain ⟨mo, mn, mc, rfl, hmn, -⟩ := hm.shape
  obtain ⟨B, hB⟩ : ∃ B, B = blockOf q := ⟨_, rfl⟩
  have hBb : 64 ≤ B ∧ B ≤ 128 := by rw [hB]; exact hv.pos
  have HX : Hid (Valid q ∧ B = blockOf q ∧ n = key.length ∧ Ap.Rd w (.slice ao n c) key ∧ (∀ x ∈ key, 0 ≤ x ∧ x < 256) ∧ key.length ≤ 140737488351232 ∧ Ap.Rd w (.slice mo mn mc) msg ∧ (∀ x ∈ msg, 0 ≤ x ∧ x < 256) ∧ msg.length ≤ 140737488353000) := ⟨hv, hB, hn, hk, hkx, hkl, hm, hmx, hml⟩
  have HBk : Hid (∀ u, Calls Tryd.prog 62 #[.int .i64 q] u fun r w' => r = .returned (.int .i64 B) ∧ w' = u) := by
    intro u
    rw [hB]
    exact refBlock_any q u
  have hB0 : ((B : Int) == 0) = false := by simp; omega
  have hB0' : ¬ (B : Int) = 0 := by omega
  have hmk := mk8 B (by omega)
  have hnl : n ≤ 140737488351232 := by omega
  clear hv hk hkx hkl hm hmx hml hB hn hmn
  go_enter Tryd.func45, Tryd.ntmps45
  go_upto_if 19 with (go_at_call 62; (refine (HBk.out _).mono ?_; rintro r' w5 ⟨rfl, hw5⟩; rw [hw5]; clear hw5 w5))
  go_cut [1] from 12 to 22 (fun v wc => ∃ o m cc, v = .slice o m cc ∧ Ap.Rd wc (.slice o m cc) (keyOf q key) ∧ Chg w wc)
  case first =>
    by_cases hnB : B < n
    · have hd : decide ((B : Int) < n) = true := by simp; omega
      have hd' : decide (B < n) = true := by simp; omega
      have HO : Hid (Calls Tryd.prog 35 #[.int .i64 q, .slice ao n c] w fun r w' => ∃ o m cc, r = .returned (.slice o m cc) ∧ Ap.Rd w' (.slice o m cc) (keyOf q key) ∧ Chg w w') := by
        refine (refOf_any q _ key w HX.out.1 HX.out.2.2.2.1 HX.out.2.2.2.2.1 (by have := HX.out.2.2.2.2.2.1; omega)).mono ?_
        rintro r w' ⟨v', rfl, k2, k3, _⟩
        obtain ⟨o, m, cc, rfl, -⟩ := k3.shape
        refine ⟨_, _, _, rfl, ?_, k2⟩
        rw [keyOf, if_pos (by rw [← HX.out.2.1, ← HX.out.2.2.1]; exact hnB)]
        exact k3
      go_wp2_with (go_at_call 35; (refine HO.out.mono ?_; rintro e w2 ⟨o, m, cc, rfl, hr, hc⟩))
      all_goals go_meet
      all_goals exact ⟨_, _, _, rfl, hr, hc⟩
    · have hd : decide ((B : Int) < n) = false := by simp; omega
      have hd' : decide (B < n) = false := by simp; omega
      have Z : Hid (Ap.Rd w (.slice ao n c) (keyOf q key)) := by
        show Ap.Rd _ _ _
        rw [keyOf, if_neg (by rw [← HX.out.2.1, ← HX.out.2.2.1]; exact hnB)]
        exact HX.out.2.2.2.1
      go_wp2_with fail
      all_goals go_meet
      all_goals exact ⟨_, _, _, rfl, Z.out, Chg.refl _⟩
  obtain ⟨o, m, cc, rfl, hr, hc⟩ := hcut
  obtain ⟨ks, hks⟩ : ∃ ks, ks = keyOf q key := ⟨_, rfl⟩
  have hmk1 := hmk wc
  obtain ⟨Ob, hOb⟩ : ∃ Ob, Ob = wc.heap.size := ⟨_, rfl⟩
  obtain ⟨w1, hw1⟩ : ∃ w1, w1 = wc.alloc (.cells (arr .u8 B fun _ => 0) 5) := ⟨_, rfl⟩
  rw [← hw1, ← hOb] at hmk1
  have hmk2 := hmk w1
  obtain ⟨Ib, hIb⟩ : ∃ Ib, Ib = w1.heap.size := ⟨_, rfl⟩
  obtain ⟨w2, hw2⟩ : ∃ w2, w2 = w1.alloc (.cells (arr .u8 B fun _ => 0) 5) := ⟨_, rfl⟩
  rw [← hw2, ← hIb] at hmk2
  have hm1 : m = ks.length := by obtain ⟨_, _, _, e, h1, _⟩ := hr; injection e with e1 e2 e3; subst e1 e2 e3; rw [h1, hks]
  have z2 : Hid (Chg wc w2 ∧ Br w2 Ob (arr .u8 B (fun j => if j < 0 then blkF q key 92 j else 0)) ∧ Br w2 Ib (arr .u8 B (fun j => if j < 0 then blkF q key 54 j else 0)) ∧ Ap.Rd wc (.slice o m cc) ks ∧ Chg w wc ∧ w.heap.size ≤ Ob ∧ wc.heap.size ≤ Ob ∧ Ob < Ib ∧ ks = keyOf q key ∧ m = ks.length ∧ m ≤ B) := by
    have b1 : Br w1 Ob (arr .u8 B fun _ => 0) := by rw [hw1, hOb]; exact heap_alloc_last wc _
    have b2 : Br w2 Ib (arr .u8 B fun _ => 0) := by rw [hw2, hIb]; exact heap_alloc_last w1 _
    have q1 : Chg wc w1 := by rw [hw1]; exact (Chg.refl wc).alloc _
    have q2 : Chg w1 w2 := by rw [hw2]; exact (Chg.refl w1).alloc _
    rw [← hks] at hr
    refine ⟨q1.trans q2, b1.chg q2, b2, hr, hc, by rw [hOb]; exact hc.size, by omega, by rw [hIb]; exact b1.ar.lt, hks, hm1, ?_⟩
    rw [hm1, hks, HX.out.2.1]
    exact keyOf_len q HX.out.1 key
  clear hmk hw1 hw2 hOb hIb hr hc hks hm1
  go_wp2_with fail
  go_loopw [10] (fun v wr => ∃ (i : Nat), v = .int .i64 i ∧ i ≤ B ∧ Chg wc wr ∧ Br wr Ob (arr .u8 B (fun j => if j < i then blkF q key 92 j else 0)) ∧ Br wr Ib (arr .u8 B (fun j => if j < i then blkF q key 54 j else 0))) (fun v wr => B - (intOf v).toNat)
  case atStart => exact ⟨0, rfl, by omega, z2.out.1, z2.out.2.1, z2.out.2.2.1⟩
  case round =>
    have HZ : Hid (Ap.Rd wc (.slice o m cc) ks ∧ Chg w wc ∧ w.heap.size ≤ Ob ∧ wc.heap.size ≤ Ob ∧ Ob < Ib ∧ ks = keyOf q key ∧ m = ks.length ∧ m ≤ B) := z2.out.2.2.2
    clear z2 hmk1 hmk2
    obtain ⟨i, rfl, hi, hch, h1, h2⟩ := hrel
    have H : Hid (Chg wc wr ∧ Br wr Ob (arr .u8 B (fun j => if j < i then blkF q key 92 j else 0)) ∧ Br wr Ib (arr .u8 B (fun j => if j < i then blkF q key 54 j else 0))) := ⟨hch, h1, h2⟩
    by_cases hiB : i < B
    · have hid : decide ((i : Int) < B) = true := by simp; omega
      have li : (i : Int) < B := by omega
      obtain ⟨x, hx⟩ : ∃ x, x = gd ks i := ⟨_, rfl⟩
      have HXx : Hid (x = gd ks i) := hx
      obtain ⟨y1, hy1⟩ : ∃ y, y = (fun j => if j < i then blkF q key 92 j else (0 : Int)) i := ⟨_, rfl⟩
      obtain ⟨y2, hy2⟩ : ∃ y, y = (fun j => if j < i then blkF q key 54 j else (0 : Int)) i := ⟨_, rfl⟩
      have c1 := (h1.ar.cell i).trans (arr_get .u8 B (fun j => if j < i then blkF q key 92 j else 0) hiB)
      have c2 := (h2.ar.cell i).trans (arr_get .u8 B (fun j => if j < i then blkF q key 54 j else 0) hiB)
      dsimp only at c1 c2 hy1 hy2
      rw [← hy1] at c1
      rw [← hy2] at c2
      have f1 := h1.ar.frozen i
      have f2 := h2.ar.frozen i
      have hne : ¬ Ib = Ob := by have := HZ.out.2.2.2.2.1; omega
      have hne' : ¬ Ob = Ib := by have := HZ.out.2.2.2.2.1; omega
      have c2' := cell_set (b' := Ob) (i' := i) (.int .u8 (Go.bits .xor .u8 x 92)) c2 (fun e => absurd e hne)
      have f2' := (h2.ar.other (p := ⟨Ob, i, none⟩) hne (.int .u8 (Go.bits .xor .u8 x 92))).frozen i
      clear hx hy1 hy2 h1 h2
      go_upto_if 35 with fail
      go_cut [11] from 32 to 39 (fun v wx => v = .int .u8 x ∧ wx = wr)
      case first =>
        by_cases him : i < m
        · have hd1 : decide ((i : Int) < m) = true := by simp; omega
          have hd2 : decide (i < m) = true := by simp; omega
          have lm : (i : Int) < m := by omega
          obtain ⟨g, off, rfl, c3⟩ := Rd.cell (Rd.chg HZ.out.1 hch) (by have := HZ.out.2.2.2.2.2.2; omega) (i := i) (by have := HZ.out.2.2.2.2.2.2.1; omega)
          rw [← HXx.out] at c3
          clear hch
          go_wp2_with fail
          all_goals go_meet
          all_goals exact ⟨rfl, rfl⟩
        · have hd1 : decide ((i : Int) < m) = false := by simp; omega
          have hd2 : decide (i < m) = false := by simp; omega
          have hx0 : x = 0 := by
            rw [HXx.out, gd, List.getD_eq_getElem?_getD, List.getElem?_eq_none (by have := HZ.out.2.2.2.2.2.2.1; omega)]
            rfl
          clear hch
          go_wp2_with fail
          all_goals go_meet
          all_goals exact ⟨by rw [hx0], rfl⟩
      obtain ⟨rfl, hwx⟩ := hcut
      subst hwx
      clear hch
      go_wp2_with fail
      obtain ⟨k0, k1, k2⟩ := H.out
      have hk := HZ.out
      refine ⟨⟨i + 1, by go_num, by omega, (k0.setCell (p := ⟨Ob, i, none⟩) hk.2.2.2.1 _).setCell (p := ⟨Ib, i, none⟩) (by dsimp only; omega) _, ?_, ?_⟩, ?_⟩
      · have hh := (k1.set i (.int .u8 (Go.bits .xor .u8 x 92))).other (p := ⟨Ib, i, none⟩) hne' (.int .u8 (Go.bits .xor .u8 x 54))
        rw [arr_set] at hh
        have e : upd (fun j => if j < i then blkF q key 92 j else 0) i (Go.bits .xor .u8 x 92) = (fun j => if j < i + 1 then blkF q key 92 j else 0) := by
          funext j
          unfold upd
          by_cases hj : j = i
          · subst hj
            simp [blkF, HXx.out, hk.2.2.2.2.2.1]
          · have e : (j < i + 1) ↔ j < i := by omega
            simp [hj, e]
        rw [e] at hh
        exact hh
      · have hh := (k2.other (p := ⟨Ob, i, none⟩) hne (.int .u8 (Go.bits .xor .u8 x 92))).set i (.int .u8 (Go.bits .xor .u8 x 54))
        rw [arr_set] at hh
        have e : upd (fun j => if j < i then blkF q key 54 j else 0) i (Go.bits .xor .u8 x 54) = (fun j => if j < i + 1 then blkF q key 54 j else 0) := by
          funext j
          unfold upd
          by_cases hj : j = i
          · subst hj
            simp [blkF, HXx.out, hk.2.2.2.2.2.1]
          · have e : (j < i + 1) ↔ j < i := by omega
            simp [hj, e]
        rw [e] at hh
        exact hh
      · simp [intOf]
        omega
    · have hid : decide ((i : Int) < B) = false := by simp; omega
      have Z : Hid (Chg w wr ∧ Ap.OwnV wr (.slice (some ⟨Ib, 0, none⟩) B B) (blkK q key 54) ∧ Ap.OwnV wr (.slice (some ⟨Ob, 0, none⟩) B B) (blkK q key 92) ∧ w.heap.size ≤ Ob ∧ Ob < Ib) := by
        have hk := HZ.out
        have e1 : arr .u8 B (fun j => if j < i then blkF q key 92 j else 0) = arr .u8 B (blkF q key 92) := arr_congr fun j hj => by rw [if_pos (by omega)]
        have e2 : arr .u8 B (fun j => if j < i then blkF q key 54 j else 0) = arr .u8 B (blkF q key 54) := arr_congr fun j hj => by rw [if_pos (by omega)]
        rw [e1] at h1
        rw [e2] at h2
        have o1 := h1.own (by omega)
        have o2 := h2.own (by omega)
        refine ⟨hk.2.1.trans hch, ?_, ?_, hk.2.2.1, hk.2.2.2.2.1⟩
        · rw [blkK, ← HX.out.2.1]
          exact o2
        · rw [blkK, ← HX.out.2.1]
          exact o1
      clear hch h1 h2 H HZ
      go_wp2_with (at_builtin; refine Ap.wpList_app _ rfl _ _ rfl (.slice (some ⟨Ib, 0, none⟩) B B) (.slice mo mn mc) (blkK q key 54) msg rfl rfl Z.out.2.1 (Rd.chg HX.out.2.2.2.2.2.2.1 Z.out.1) (by rw [blkK_len, ← HX.out.2.1]; have := HX.out.2.2.2.2.2.2.2.2; omega) ?_)
      intro v4 w4 o4 c4 b4
      obtain ⟨jo, jn, jc, rfl, -⟩ := o4.rd.shape
      have Z4 : Hid (Chg w w4 ∧ Ap.Rd w4 (.slice jo jn jc) (blkK q key 54 ++ msg) ∧ Ap.OwnV w4 (.slice (some ⟨Ob, 0, none⟩) B B) (blkK q key 92) ∧ w.heap.size ≤ Ob) := by
        obtain ⟨k1, k2, k3, k4, k5⟩ := Z.out
        refine ⟨k1.ap c4 (fun j e => by simp [Value.ownBlock] at e; omega), o4.rd, k3.keep (fun j e => c4.block j (k3.lt j e) (fun e2 => by simp [Value.ownBlock] at e e2; omega)), k4⟩
      clear o4 c4 b4 Z
      go_wp2_with fail
      refine (refOf_any q (.slice jo jn jc) _ w4 HX.out.1 Z4.out.2.1 (app_range (blkK_range q key 54) HX.out.2.2.2.2.2.2.2.1) (by rw [List.length_append, blkK_len, ← HX.out.2.1]; have := HX.out.2.2.2.2.2.2.2.2; omega)).mono ?_
      rintro e w5 ⟨v5, rfl, hc5, hr5, -⟩
      obtain ⟨so, sn, sc, rfl, -⟩ := hr5.shape
      have Z5 : Hid (Chg w w5 ∧ Ap.Rd w5 (.slice so sn sc) (sumL q (blkK q key 54 ++ msg)) ∧ Ap.OwnV w5 (.slice (some ⟨Ob, 0, none⟩) B B) (blkK q key 92) ∧ w.heap.size ≤ Ob) := ⟨Z4.out.1.trans hc5, hr5, OwnV.chg Z4.out.2.2.1 hc5, Z4.out.2.2.2⟩
      clear hc5 hr5 Z4
      go_wp2_with (at_builtin; refine Ap.wpList_app _ rfl _ _ rfl (.slice (some ⟨Ob, 0, none⟩) B B) (.slice so sn sc) (blkK q key 92) (sumL q (blkK q key 54 ++ msg)) rfl rfl Z5.out.2.2.1 Z5.out.2.1 (by rw [blkK_len, sumL_len, ← HX.out.2.1]; have := size_le q; omega) ?_)
      intro v6 w6 o6 c6 b6
      obtain ⟨po, pn, pc, rfl, -⟩ := o6.rd.shape
      have Z6 : Hid (Chg w w6 ∧ Ap.Rd w6 (.slice po pn pc) (blkK q key 92 ++ sumL q (blkK q key 54 ++ msg))) := ⟨Z5.out.1.ap c6 (fun j e => by have := Z5.out.2.2.2; simp [Value.ownBlock] at e; omega), o6.rd⟩
      clear o6 c6 b6 Z5
      go_wp2_with fail
      refine (refOf_any q (.slice po pn pc) _ w6 HX.out.1 Z6.out.2 (app_range (blkK_range q key 92) (sumL_range q _)) (by rw [List.length_append, blkK_len, sumL_len, ← HX.out.2.1]; have := size_le q; omega)).mono ?_
      rintro e w7 ⟨v7, rfl, hc7, hr7, hn7⟩
      obtain ⟨zo, tn, tc, rfl, -⟩ := hr7.shape
      have Z7 : Hid (Chg w w7 ∧ Ap.Rd w7 (.slice zo tn tc) (macL q key msg) ∧ ∀ k, (Value.slice zo tn tc).ownBlock = some k → w.heap.size ≤ k) := ⟨Z6.out.1.trans hc7, hr7, fun k e => Nat.le_trans Z6.out.1.size (hn7 k e)⟩
      clear hc7 hr7 hn7 Z6
      go_wp2_with fail
      go_ret
      exact ⟨zo, tn, tc, rfl, Z7.out⟩

set_option maxRecDepth 100000 in
theorem refMac_none (q : Int) (vk v : Value) (w : World) (hv : ¬ Valid q) :
    Calls Tryd.prog 45 #[.int .i64 q, vk, v] w fun r w' => r = .returned (.slice none 0 0) ∧ w' = w := by
  have hB : blockOf q = 0 := by
    unfold blockOf
    rw [if_neg (fun e => hv (.inl e)), if_neg (fun e => hv (.inr (.inl e))), if_neg (fun e => hv (.inr (.inr e)))]
  have HBk : Hid (∀ u, Calls Tryd.prog 62 #[.int .i64 q] u fun r w' => r = .returned (.int .i64 0) ∧ w' = u) := by
    intro u
    have := refBlock_any q u
    rw [hB] at this
    exact this
  clear hv hB
  go_enter Tryd.func45, Tryd.ntmps45
  go_wp2_with (go_at_call 62; (refine (HBk.out _).mono ?_; rintro r' w5 ⟨rfl, hw5⟩; rw [hw5]; clear hw5 w5))
  go_ret
  exact ⟨rfl, rfl⟩
theorem refMac_both (q : Int) (vk v : Value) (key msg : List Int) (w : World) (hk : Ap.Rd w vk key) (hkx : ∀ x ∈ key, 0 ≤ x ∧ x < 256) (hkl : key.length ≤ 140737488351232) (hm : Ap.Rd w v msg) (hmx : ∀ x ∈ msg, 0 ≤ x ∧ x < 256) (hml : msg.length ≤ 140737488353000) :
    Calls Tryd.prog 45 #[.int .i64 q, vk, v] w fun r w' => ∃ o n c, r = .returned (.slice o n c) ∧ Chg w w' ∧ Ap.Rd w' (.slice o n c) (macL q key msg) ∧ ∀ k, (Value.slice o n c).ownBlock = some k → w.heap.size ≤ k := by
  by_cases hv : Valid q
  · exact refMac_any q vk v key msg w hv hk hkx hkl hm hmx hml
  · refine (refMac_none q vk v w hv).mono ?_
    rintro r w' ⟨rfl, rfl⟩
    refine ⟨_, _, _, rfl, Chg.refl _, ?_, fun k e => by simp [Value.ownBlock] at e⟩
    rw [macL, sumL_none hv]
    exact Ap.Rd.nil _
end Go.Proofs.YtijpdhjlafihkaaDoor
