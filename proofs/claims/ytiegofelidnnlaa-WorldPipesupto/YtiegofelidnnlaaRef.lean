/-
  The document's source: NewRand, next and Read of drawbridgeref01 give the bytes of 'draw'.
-/
import Derived.Test.YtiegofelidnnlaaWholeWalk
namespace Go.Proofs.Ytiegofelidnnlaa
open Go.RowKit
set_option linter.unusedVariables false

/-- The document's source: the bytes that come first, what is left of a number, the state. -/
structure RandB (w : World) (r : Nat) (v1 v2 : Value) (f l : List Int) (st : Int) : Prop where
  blk : w.heap[r]? = some (.cells #[v1, .int .u64 st, v2] 64 (0, 0))
  one : OwnV w v1 f
  two : OwnV w v2 l
  sep : ∀ k, v2.ownBlock = some k → v1.ownBlock ≠ some k

theorem RandB.lt {w : World} {r : Nat} {v1 v2 : Value} {f l : List Int} {st : Int} (h : RandB w r v1 v2 f l st) : r < w.heap.size := (Array.getElem?_eq_some_iff.1 h.blk).1
theorem RandB.c0 {w : World} {r : Nat} {v1 v2 : Value} {f l : List Int} {st : Int} (h : RandB w r v1 v2 f l st) : w.cell? ⟨r, 0, none⟩ = some v1 := by
  rw [cell_of_row w r 0 _ 64 (0, 0) h.blk]; rfl
theorem RandB.c1 {w : World} {r : Nat} {v1 v2 : Value} {f l : List Int} {st : Int} (h : RandB w r v1 v2 f l st) : w.cell? ⟨r, 1, none⟩ = some (.int .u64 st) := by
  rw [cell_of_row w r 1 _ 64 (0, 0) h.blk]; rfl
theorem RandB.c2 {w : World} {r : Nat} {v1 v2 : Value} {f l : List Int} {st : Int} (h : RandB w r v1 v2 f l st) : w.cell? ⟨r, 2, none⟩ = some v2 := by
  rw [cell_of_row w r 2 _ 64 (0, 0) h.blk]; rfl
theorem RandB.free {w : World} {r : Nat} {v1 v2 : Value} {f l : List Int} {st : Int} (h : RandB w r v1 v2 f l st) (o : Nat) : w.frozen? ⟨r, o, none⟩ = false := by
  simp [World.frozen?, h.blk]

/-- A row of bytes is no source. -/
theorem OwnV.ne {w : World} {v : Value} {xs : List Int} (h : OwnV w v xs) {r : Nat} {cs : Array Value} {t : TypeId} {fr : Nat × Nat} (hr : w.heap[r]? = some (.cells cs t fr)) (ht : t ≠ 5) : v.ownBlock ≠ some r := by
  intro e
  rcases h with ⟨rfl, rfl⟩ | ⟨g, off, n, cap, rfl, h⟩
  · simp [Value.ownBlock] at e
  · simp [Value.ownBlock] at e
    subst e
    obtain ⟨cur, hg, _⟩ := h.blk
    rw [hg] at hr
    simp at hr
    exact ht hr.2.1.symm

theorem RandB.kept {S : Nat → Prop} {w w' : World} {r : Nat} {v1 v2 : Value} {f l : List Int} {st : Int} (h : RandB w r v1 v2 f l st) (hc : Chg S w w') (h0 : ¬ S r) (h1 : ∀ k, v1.ownBlock = some k → ¬ S k) (h2 : ∀ k, v2.ownBlock = some k → ¬ S k) : RandB w' r v1 v2 f l st :=
  ⟨(hc.block r h.lt h0).trans h.blk, h.one.keep (fun k e => hc.block k (h.one.lt k e) (h1 k e)), h.two.keep (fun k e => hc.block k (h.two.lt k e) (h2 k e)), h.sep⟩

/-- What a store into the source's own block leaves of the rows. -/
theorem OwnV.store {w : World} {v : Value} {xs : List Int} (h : OwnV w v xs) {r : Nat} (hne : v.ownBlock ≠ some r) (o : Nat) (u : Value) : OwnV (w.setCell ⟨r, o, none⟩ u) v xs :=
  h.keep (fun k e => Below.heap_setCell _ _ _ _ (fun e' => hne (by rw [e, e'])))

theorem OwnV.shape {w : World} {v : Value} {x : Int} {xs : List Int} (h : OwnV w v (x :: xs)) : ∃ g off n cap, v = .slice (some ⟨g, off, none⟩) n cap ∧ Own w g off n cap (x :: xs) ∧ 0 < n := by
  rcases h with ⟨rfl, e⟩ | ⟨g, off, n, cap, rfl, h⟩
  · cases e
  · exact ⟨g, off, n, cap, rfl, h, by have := h.len; simp at this; omega⟩

/-- x[1:]. -/
theorem Own.tail {w : World} {g off n cap : Nat} {x : Int} {xs : List Int} (h : Own w g off n cap (x :: xs)) : (cap = 1 → Own w g off (n - 1) (cap - 1) xs) ∧ (¬ cap = 1 → Own w g (off + 1) (n - 1) (cap - 1) xs) := by
  have hl := h.len
  have hle := h.le
  simp at hl
  obtain ⟨cur, hg, hs, ht⟩ := h.blk
  have hmx := h.mx
  refine ⟨fun hc => ⟨by omega, by omega, by omega, cur, hg, by omega, ?_⟩, fun hc => ⟨by omega, by omega, by omega, cur, hg, by omega, ?_⟩⟩
  · have : xs = [] := List.eq_nil_of_length_eq_zero (by omega)
    subst this
    have : n - 1 = 0 := by omega
    simp [this]
  · have e : ((cur.toList.drop off).take n).drop 1 = xs.map (Value.int .u8) := by rw [ht]; rfl
    rw [List.drop_take, List.drop_drop] at e
    exact e

theorem OwnV.empty (w : World) : OwnV (w.alloc (.cells #[] 5)) (.slice (some ⟨w.heap.size, 0, none⟩) 0 0) [] :=
  .inr ⟨_, 0, 0, 0, rfl, ⟨rfl, Nat.le_refl _, by decide, #[], heap_alloc_new w _, by simp, by simp⟩⟩

theorem Rd.alloc {w : World} {v : Value} {xs : List Int} (h : Rd w v xs) (o : Obj) : Rd (w.alloc o) v xs := h.keep (fun k _ hk => Below.heap_alloc _ _ _ hk)

set_option maxHeartbeats 400000 in
theorem refNew_any (s : Value) (ys : List Int) (st : Int) (w : World) (hs : Rd w s ys) (hb : ys.length ≤ 140737488355328) :
    Calls Try.prog 14 #[s, .int .u64 st] w fun e w' => ∃ r v1, e = .returned (.pointer (some ⟨r, 0, none⟩)) ∧ RandB w' r v1 (.slice none 0 0) ys [] st ∧ Chg Non w w' ∧ w.heap.size ≤ r ∧ ∀ k, v1.ownBlock = some k → w.heap.size ≤ k := by
  go_enter Try.func14, Try.ntmps14
  go_wp2_with (at_builtin; refine wpList_app _ rfl (.tmp 5) (.tmp 6) rfl _ s [] ys rfl rfl ?hov ?hrd (by simpa using hb) ?hkk)
  case hov => exact OwnV.empty w
  case hrd => exact hs.alloc _
  case hkk =>
    intro v' w1 ho hc hk
    obtain ⟨ao, n, c, rfl, -⟩ := ho.rd.shape
    have HH : Hid (OwnV w1 (.slice ao n c) ys ∧ Chg Non w w1 ∧ ∀ k, (Value.slice ao n c).ownBlock = some k → w.heap.size ≤ k) := by
      refine ⟨ho, ((Chg.refl Non w).alloc _).trans hc (fun i hi e => by simp [Value.ownBlock] at e; omega), fun k e => ?_⟩
      rcases hk with h | h <;> rw [h] at e <;> simp [Value.ownBlock] at e <;> omega
    clear ho hc hk
    go_wp2
    go_ret
    obtain ⟨ho, hc, hk⟩ := HH.out
    refine ⟨_, _, rfl, ⟨heap_alloc_new w1 _, ho.keep (fun k e => Below.heap_alloc _ _ _ (ho.lt k e)), .inl ⟨rfl, rfl⟩, fun k e => by simp [Value.ownBlock] at e⟩, hc.alloc _, hc.size, hk⟩

theorem RandB.set0 {w : World} {r : Nat} {v1 v2 : Value} {f l : List Int} {st : Int} (h : RandB w r v1 v2 f l st) {v1' : Value} {f' : List Int} (ho : OwnV w v1' f') (hb : v1'.ownBlock = v1.ownBlock) :
    RandB (w.setCell ⟨r, 0, none⟩ v1') r v1' v2 f' l st :=
  ⟨heap_setCell_at w r 0 v1' _ 64 h.blk, ho.store (ho.ne h.blk (by decide)) 0 v1', h.two.store (h.two.ne h.blk (by decide)) 0 v1', fun k e => by rw [hb]; exact h.sep k e⟩

theorem RandB.set1 {w : World} {r : Nat} {v1 v2 : Value} {f l : List Int} {st : Int} (h : RandB w r v1 v2 f l st) (st' : Int) :
    RandB (w.setCell ⟨r, 1, none⟩ (.int .u64 st')) r v1 v2 f l st' :=
  ⟨heap_setCell_at w r 1 _ _ 64 h.blk, h.one.store (h.one.ne h.blk (by decide)) 1 _, h.two.store (h.two.ne h.blk (by decide)) 1 _, h.sep⟩

theorem RandB.set2 {w : World} {r : Nat} {v1 v2 : Value} {f : List Int} {st : Int} (hblk : w.heap[r]? = some (.cells #[v1, .int .u64 st, v2] 64 (0, 0))) (h1 : OwnV w v1 f) {v2' : Value} {l' : List Int} (ho : OwnV w v2' l')
    (hs : ∀ k, v2'.ownBlock = some k → v1.ownBlock ≠ some k) : RandB (w.setCell ⟨r, 2, none⟩ v2') r v1 v2' f l' st :=
  ⟨heap_setCell_at w r 2 v2' _ 64 hblk, h1.store (h1.ne hblk (by decide)) 2 _, ho.store (ho.ne hblk (by decide)) 2 _, hs⟩

theorem Chg.one (w : World) (r o : Nat) (u : Value) : Chg (One r) w (w.setCell ⟨r, o, none⟩ u) := Chg.setCell (S := One r) (Chg.refl _ _) (p := ⟨r, o, none⟩) (fun _ => rfl) _

set_option maxHeartbeats 400000 in
theorem refNext_first (r : Nat) (v1 v2 : Value) (x : Int) (f l : List Int) (st : Int) (w : World) (h : RandB w r v1 v2 (x :: f) l st) :
    Calls Try.prog 30 #[.pointer (some ⟨r, 0, none⟩)] w fun e w' => e = .returned (.int .u8 x) ∧ ∃ v1', RandB w' r v1' v2 f l st ∧ Chg (One r) w w' ∧ v1'.ownBlock = v1.ownBlock := by
  obtain ⟨g, off, n, cap, rfl, ho, hn⟩ := h.one.shape
  have hc := ho.cell 0 x rfl
  simp only [Nat.add_zero] at hc
  have c0 := h.c0
  have f0 := h.free 0
  have hle := ho.le
  have hmx := ho.mx
  unfold maxLen at hmx
  have hn1 : (0 : Int) < n := by omega
  have HH : Hid (RandB w r (.slice (some ⟨g, off, none⟩) n cap) v2 (x :: f) l st ∧ Own w g off n cap (x :: f)) := ⟨h, ho⟩
  clear h ho
  by_cases hcap : cap = 1
  · subst hcap
    obtain rfl : n = 1 := by omega
    go_enter Try.func30, Try.ntmps30
    go_wp2
    go_ret
    obtain ⟨h, ho⟩ := HH.out
    exact ⟨rfl, _, h.set0 (.inr ⟨_, _, _, _, rfl, ho.tail.1 rfl⟩) rfl, Chg.one _ _ _ _, rfl⟩
  · go_enter Try.func30, Try.ntmps30
    go_wp2
    go_ret
    obtain ⟨h, ho⟩ := HH.out
    exact ⟨rfl, _, h.set0 (.inr ⟨_, _, _, _, rfl, ho.tail.2 hcap⟩) rfl, Chg.one _ _ _ _, rfl⟩

theorem OwnV.nil_len {w : World} {v : Value} (h : OwnV w v []) : ∃ ao c, v = .slice ao 0 c := by
  obtain ⟨ao, n, c, rfl, hn, _⟩ := h.rd.shape
  simp at hn
  subst hn
  exact ⟨ao, c, rfl⟩

set_option maxHeartbeats 400000 in
theorem refNext_left (r : Nat) (v1 v2 : Value) (x : Int) (l : List Int) (st : Int) (w : World) (h : RandB w r v1 v2 [] (x :: l) st) :
    Calls Try.prog 30 #[.pointer (some ⟨r, 0, none⟩)] w fun e w' => e = .returned (.int .u8 x) ∧ ∃ v2', RandB w' r v1 v2' [] l st ∧ Chg (One r) w w' ∧ v2'.ownBlock = v2.ownBlock := by
  obtain ⟨a1, c1, rfl⟩ := h.one.nil_len
  obtain ⟨g, off, n, cap, rfl, ho, hn⟩ := h.two.shape
  have hc := ho.cell 0 x rfl
  simp only [Nat.add_zero] at hc
  have c0 := h.c0
  have c2 := h.c2
  have f2 := h.free 2
  have hle := ho.le
  have hmx := ho.mx
  unfold maxLen at hmx
  have hn1 : ((n : Int) == 0) = false := by simp; omega
  have hn2 : (0 : Int) < n := by omega
  have HH : Hid (RandB w r (.slice a1 0 c1) (.slice (some ⟨g, off, none⟩) n cap) [] (x :: l) st ∧ Own w g off n cap (x :: l)) := ⟨h, ho⟩
  clear h ho
  by_cases hcap : cap = 1
  · subst hcap
    obtain rfl : n = 1 := by omega
    go_enter Try.func30, Try.ntmps30
    go_wp2
    go_ret
    obtain ⟨h, ho⟩ := HH.out
    exact ⟨rfl, _, RandB.set2 h.blk h.one (.inr ⟨_, _, _, _, rfl, ho.tail.1 rfl⟩) h.sep, Chg.one _ _ _ _, rfl⟩
  · go_enter Try.func30, Try.ntmps30
    go_wp2
    go_ret
    obtain ⟨h, ho⟩ := HH.out
    exact ⟨rfl, _, RandB.set2 h.blk h.one (.inr ⟨_, _, _, _, rfl, ho.tail.2 hcap⟩) h.sep, Chg.one _ _ _ _, rfl⟩

theorem div_step (z : Int) (k : Nat) : z / 2 ^ (8 * k) / 256 = z / 2 ^ (8 * (k + 1)) := by
  rw [Int.ediv_ediv_of_nonneg (Int.le_of_lt (Int.pow_pos (by decide)))]
  rw [show 8 * (k + 1) = 8 * k + 8 from by omega, Int.pow_add]
  rfl

set_option maxHeartbeats 1000000 in
theorem refNext_more (r : Nat) (v1 v2 : Value) (st : Int) (w : World) (h : RandB w r v1 v2 [] [] st) :
    Calls Try.prog 30 #[.pointer (some ⟨r, 0, none⟩)] w fun e w' => e = .returned (.int .u8 (u8At (num st) 0)) ∧ ∃ v2', RandB w' r v1 v2' [] (bytes8 (num st)).tail (nst st) ∧ Chg (fun k => k = r ∨ v2.ownBlock = some k) w w' ∧ (v2'.ownBlock = v2.ownBlock ∨ ∀ k, v2'.ownBlock = some k → w.heap.size ≤ k) := by
  obtain ⟨a1, c1, rfl⟩ := h.one.nil_len
  obtain ⟨a2, c2, rfl⟩ := h.two.nil_len
  have q0 := h.c0
  have q1 := h.c1
  have q2 := h.c2
  have f1 := h.free
  have HH : Hid (RandB w r (.slice a1 0 c1) (.slice a2 0 c2) [] [] st) := h
  clear h
  have hnn := num_nonneg st
  go_enter Try.func30, Try.ntmps30
  go_wp2
  clear q0 q1 q2 f1
  go_loopw [4, 5] (fun z i wr => ∃ (k : Nat) (zk : Int) (v2k : Value), k ≤ 8 ∧ i = .int .i64 k ∧ z = .int .u64 zk ∧ zk = num st / 2 ^ (8 * k) ∧ 0 ≤ zk ∧ RandB wr r (.slice a1 0 c1) v2k [] ((List.range k).map (u8At (num st))) (nst st) ∧
      Chg (fun q => q = r ∨ (Value.slice a2 0 c2).ownBlock = some q) w wr ∧ (v2k.ownBlock = (Value.slice a2 0 c2).ownBlock ∨ ∀ q, v2k.ownBlock = some q → w.heap.size ≤ q))
    (fun _ i _ => 8 - (intOf i).toNat)
  case atStart =>
    exact ⟨0, num st, _, by omega, rfl, by unfold num mixC mixB mixA nst; rfl, by simp, hnn, HH.out.set1 _, (Chg.one w r 1 _).mono (fun q _ e => .inl e), .inl rfl⟩
  case round =>
    obtain ⟨k, zk, v2k, hk, rfl, rfl, hzk, hz0, hR, hc, hv2⟩ := hrel
    have HZ : Hid (zk = num st / 2 ^ (8 * k)) := hzk
    have HR : Hid (RandB wr r (.slice a1 0 c1) v2k [] ((List.range k).map (u8At (num st))) (nst st) ∧ Chg (fun q => q = r ∨ (Value.slice a2 0 c2).ownBlock = some q) w wr ∧ (v2k.ownBlock = (Value.slice a2 0 c2).ownBlock ∨ ∀ q, v2k.ownBlock = some q → w.heap.size ≤ q)) := ⟨hR, hc, hv2⟩
    have q2 := hR.c2
    have f2 := hR.free 2
    have hrlt := hR.lt
    clear hzk hc hv2
    by_cases hlt : k < 8
    · obtain ⟨ao, nn, cc, rfl, hnn', hncc, hmxx⟩ := hR.two.rd.shape
      obtain rfl : nn = k := by simpa using hnn'
      clear hR hnn'
      go_wp2_with (at_builtin; refine wpList_app _ rfl (.tmp 68) (.tmp 71) rfl (.slice ao nn cc) _ _ [zk % 256] rfl rfl (HR.out.1.two.keep (fun q e => Below.heap_alloc _ _ _ (HR.out.1.two.lt q e))) (Rd.one _ _) ?hlen ?hkk)
      case hlen => simp; omega
      case hkk =>
        intro v' w1 ho1 hc1 hb1
        obtain ⟨ao', n', c', rfl, -⟩ := ho1.rd.shape
        have hne : (Value.slice ao nn cc).ownBlock ≠ some r := HR.out.1.two.ne HR.out.1.blk (by decide)
        have hblk1 : w1.heap[r]? = some (.cells #[.slice a1 0 c1, .int .u64 (nst st), .slice ao nn cc] 64 (0, 0)) := by
          rw [hc1.block r (by simp; omega) hne, Below.heap_alloc _ _ _ hrlt]; exact HR.out.1.blk
        have hown1 : OwnV w1 (.slice a1 0 c1) [] := HR.out.1.one.keep (fun q e => by
          have hq := HR.out.1.one.lt q e
          rw [hc1.block q (by simp; omega) (fun e' => HR.out.1.sep q e' e), Below.heap_alloc _ _ _ hq])
        have q3 : w1.cell? ⟨r, 2, none⟩ = some (.slice ao nn cc) := by rw [cell_of_row w1 r 2 _ 64 (0, 0) hblk1]; rfl
        have f3 : w1.frozen? ⟨r, 2, none⟩ = false := by simp [World.frozen?, hblk1]
        have hu : zk % 256 = u8At (num st) nn := by unfold u8At; rw [HZ.out]
        have hz2 : zk / 256 = num st / 2 ^ (8 * (nn + 1)) := by rw [HZ.out]; exact div_step _ _
        rw [hu] at ho1
        have HF : Hid (OwnV w1 (.slice ao' n' c') ((List.range nn).map (u8At (num st)) ++ [u8At (num st) nn]) ∧ Chg (fun k => (Value.slice ao nn cc).ownBlock = some k) (wr.alloc (.cells #[.int .u8 (zk % 256)] 5)) w1 ∧ ((Value.slice ao' n' c').ownBlock = (Value.slice ao nn cc).ownBlock ∨ (Value.slice ao' n' c').ownBlock = some (wr.alloc (.cells #[.int .u8 (zk % 256)] 5)).heap.size) ∧
          w1.heap[r]? = some (.cells #[.slice a1 0 c1, .int .u64 (nst st), .slice ao nn cc] 64 (0, 0)) ∧ OwnV w1 (.slice a1 0 c1) [] ∧ zk / 256 = num st / 2 ^ (8 * (nn + 1))) := ⟨ho1, hc1, by simpa using hb1, hblk1, hown1, hz2⟩
        clear ho1 hc1 hb1 hblk1 hown1 hu hz2 q2 f2 hne
        go_wp2
        go_roundw
        case rel =>
          obtain ⟨ho1, hc1, hb1, hblk1, hown1, hz2⟩ := HF.out
          obtain ⟨hR, hc, hv2⟩ := HR.out
          refine ⟨nn + 1, zk / 256, _, by omega, by go_num, rfl, hz2, by omega, RandB.set2 hblk1 hown1 (by rw [List.range_succ, List.map_append]; exact ho1) ?_, ?_, ?_⟩
          · intro q e
            rcases hb1 with h | h
            · rw [h] at e; exact hR.sep q e
            · rw [h] at e
              intro e'
              have := hR.one.lt q e'
              simp at e
              omega
          · refine ((hc.alloc _).trans hc1 (fun i hi e => ?_)).setCell (p := ⟨r, 2, none⟩) (fun _ => .inl rfl) _
            rcases hv2 with h | h
            · right; rw [← h]; exact e
            · have := h i e; omega
          · have hs := hc.size
            rcases hb1 with h | h
            · rw [h]; exact hv2
            · right
              intro q e
              rw [h] at e
              simp at e
              omega
        case measure => simp [intOf]; omega
    · obtain rfl : k = 8 := by omega
      have hl8 : (List.range 8).map (u8At (num st)) = u8At (num st) 0 :: (bytes8 (num st)).tail := rfl
      rw [hl8] at hR
      obtain ⟨g, off, n, cap, rfl, ho, hn⟩ := hR.two.shape
      have hcx := ho.cell 0 _ rfl
      simp only [Nat.add_zero] at hcx
      have hle := ho.le
      have hmx := ho.mx
      have hlen := ho.len
      simp [bytes8] at hlen
      unfold maxLen at hmx
      have hcap : ¬ cap = 1 := by omega
      have HO : Hid (RandB wr r (.slice a1 0 c1) (.slice (some ⟨g, off, none⟩) n cap) [] (u8At (num st) 0 :: (bytes8 (num st)).tail) (nst st) ∧ Own wr g off n cap (u8At (num st) 0 :: (bytes8 (num st)).tail)) := ⟨hR, ho⟩
      have hn2 : (0 : Int) < n := by omega
      generalize hu : u8At (num st) 0 = ub at *
      have HU : Hid (u8At (num st) 0 = ub) := hu
      clear hu hR ho hl8 hlen
      go_wp2
      go_ret
      obtain ⟨h, ho⟩ := HO.out
      obtain ⟨-, hc, hv2⟩ := HR.out
      exact ⟨by rw [HU.out]; rfl, _, RandB.set2 h.blk h.one (.inr ⟨_, _, _, _, rfl, ho.tail.2 hcap⟩) h.sep, hc.setCell (p := ⟨r, 2, none⟩) (fun _ => .inl rfl) _, hv2⟩
end Go.Proofs.Ytiegofelidnnlaa
