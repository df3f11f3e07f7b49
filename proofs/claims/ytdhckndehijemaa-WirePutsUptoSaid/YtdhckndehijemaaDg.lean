/-
  The document's small readers of the whole.
-/
import Derived.Test.YtdhckndehijemaaDf
namespace Go.Proofs.Ytdhckndehijemaa
open Go.RowKit
set_option linter.unusedVariables false
set_option maxRecDepth 100000

theorem DS.begin {w : World} {v : Value} {xs : List Int} (h : Bt (Bel w.heap.size) w v xs) : DS (w.alloc (.cells #[v, .bool false, .bool false] 124)) w.heap.size (some (xs, false)) := by
  obtain ⟨h1, h2, h3⟩ := h
  exact ⟨v, false, false, xs, ⟨heap_alloc_last w _, h1.chg ((Chg.refl _ _).alloc _), h2, h3⟩, .inr ⟨rfl, rfl⟩⟩
theorem outc_end {α : Type} {p : Pr α} {z x : α} {xs : List Int} {s' : St} (h : Res p (some (xs, false)) x s') : (endA s' = 0 → outc p z xs = (x, 0)) ∧ (endA s' ≠ 0 → outc p z xs = (z, endA s')) := by
  unfold Res at h
  dsimp only at h
  unfold outc
  cases hp : p xs with
  | none =>
    rw [hp] at h
    dsimp only at h ⊢
    subst h
    exact ⟨fun e => (by cases e), fun _ => rfl⟩
  | some q =>
    obtain ⟨a, ys, o⟩ := q
    rw [hp] at h
    dsimp only at h ⊢
    obtain ⟨rfl, rfl⟩ := h
    simp only [endA, Bool.false_or]
    by_cases hy : ys ≠ []
    · rw [if_pos hy, if_pos hy]
      exact ⟨fun e => (by cases e), fun _ => rfl⟩
    · rw [if_neg hy, if_neg hy]
      cases o with
      | true => exact ⟨fun e => (by cases e), fun _ => rfl⟩
      | false => exact ⟨fun _ => rfl, fun e => absurd rfl e⟩
theorem GP.dok {t : Ty} {p : Pr t.Dat} {z x : t.Dat} {w w1 w2 w3 : World} {xs : List Int} {us : List Value} {s' : St} (h : DP t p w1 w2 w.heap.size (some (xs, false)) us x) (q : Res p (some (xs, false)) x s') (k : endA s' = 0) (c1 : Chg Non w w1) (c2 : Chg Non w2 w3) : GP t p z w w3 xs us 0 :=
  ⟨(c1.trans h.ps.chg (fun i hi e => by have e' : i = w.heap.size := e; omega)).two c2, x, (outc_end q).1 k, (h.rel.oldN c2).btw c1.size c2.size⟩
theorem GP.dbad {t : Ty} {p : Pr t.Dat} {z x : t.Dat} {w w1 w2 w3 : World} {xs : List Int} {us us0 : List Value} {s' : St} {A : Int} (h : DP t p w1 w2 w.heap.size (some (xs, false)) us x) (q : Res p (some (xs, false)) x s') (hA : A = endA s') (k : A ≠ 0) (c1 : Chg Non w w1) (c2 : Chg Non w2 w3)
    (hz : Rel t (Btw w.heap.size w3.heap.size) w3 us0 z) : GP t p z w w3 xs us0 A :=
  ⟨(c1.trans h.ps.chg (fun i hi e => by have e' : i = w.heap.size := e; omega)).two c2, z, by rw [hA]; exact (outc_end q).2 (by rw [← hA]; exact k), hz⟩
theorem lim1 {m : Nat} (hm : 255 ≤ m) : ∀ L : Nat, L < 256 ^ 1 → L ≤ m ∧ L ≤ 16777216 := by
  intro L h
  have h' : L < 256 := by simpa using h
  omega
theorem lim2 {m : Nat} (hm : 65535 ≤ m) : ∀ L : Nat, L < 256 ^ 2 → L ≤ m ∧ L ≤ 16777216 := by
  intro L h
  have h' : L < 65536 := by simpa using h
  omega
theorem lim3 {m : Nat} (hm : 16777215 ≤ m) : ∀ L : Nat, L < 256 ^ 3 → L ≤ m ∧ L ≤ 16777216 := by
  intro L h
  have h' : L < 16777216 := by simpa using h
  omega
theorem DN.rp2 {w w' : World} {r : Nat} {s : St} {x : Int} (h : DN 2 w w' r s x) : DP (.num .u16) (pDig 2) w w' r s [.int .u16 x] x := ⟨⟨rfl, h.lo, by have := h.hi; simpa [kmax] using this⟩, h.ps⟩
theorem DN.rp1 {w w' : World} {r : Nat} {s : St} {x : Int} (h : DN 1 w w' r s x) : DP (.num .u8) (pDig 1) w w' r s [.int .u8 x] x := ⟨⟨rfl, h.lo, by have := h.hi; simpa [kmax] using this⟩, h.ps⟩
theorem DN.rp4 {w w' : World} {r : Nat} {s : St} {x : Int} (h : DN 4 w w' r s x) : DP (.num .u32) (pDig 4) w w' r s [.int .u32 x] x := ⟨⟨rfl, h.lo, by have := h.hi; simpa [kmax] using this⟩, h.ps⟩
theorem DN.w16 {w w' : World} {r : Nat} {s : St} {x : Int} (h : DN 2 w w' r s x) : IntKind.u16.wrap x = x := by
  have h1 := h.lo
  have h2 : x < 65536 := h.hi
  rw [IntKind.wrap_u16]
  omega
theorem DN.w32 {w w' : World} {r : Nat} {s : St} {x : Int} (h : DN 4 w w' r s x) : IntKind.u32.wrap x = x := by
  have h1 := h.lo
  have h2 : x < 4294967296 := h.hi
  rw [IntKind.wrap_u32]
  omega


set_option maxHeartbeats 3200000 in
theorem dmodes_any (v : Value) (xs : List Int) (w : World) (h : Bt (Bel w.heap.size) w v xs) : Calls Try.prog 60 #[v] w fun e w' => ∃ ao L c al, e = .returned (.tuple #[.slice ao L c, .int .i64 al]) ∧ GP (.byt) (pBytes 1 1 16777216) [] w w' xs [.slice ao L c] al := by
  obtain ⟨w1, hw1⟩ : ∃ w1, w1 = w.alloc (.cells #[v, .bool false, .bool false] 124) := ⟨_, rfl⟩
  have R1 : DS w1 w.heap.size (some (xs, false)) := by rw [hw1]; exact DS.begin h
  have C1 : Hid (Chg Non w w1) := by rw [hw1]; exact (Chg.refl _ _).alloc _
  have HW1 : Hid (w1 = w.alloc (.cells #[v, .bool false, .bool false] 124)) := hw1
  have HLT : Hid (w.heap.size < w1.heap.size) := by show _ < _; rw [hw1]; simp
  obtain ⟨ao0, N0, c0, rfl⟩ : ∃ ao n c, v = .slice ao n c := by
    obtain ⟨h1, -⟩ := h
    obtain ⟨ao, n, c, e, -⟩ := h1.shape
    exact ⟨ao, n, c, e⟩
  clear h hw1
  have hp := dlist_any w.heap.size 1 1 255 16777216 (by decide) 1 1 255 rfl rfl rfl (lim1 (by decide)) _ w1 R1
  clear R1
  go_enter Try.func60, Try.ntmps60
  go_wp2_with fail
  rw [← HW1.out]
  refine hp.mono ?_
  rintro e w2 ⟨ao, L, c, x, rfl, hk, -, -⟩
  have hx : DP .byt (pBytes 1 1 16777216) w1 w2 w.heap.size (some (xs, false)) [.slice ao L c] x := hk.dp
  clear hk hp
  obtain ⟨s9, q1, q2⟩ := hx.ps.st
  have he := dend_any w.heap.size s9 w2 q1
  obtain ⟨A, hA⟩ : ∃ A, A = endA s9 := ⟨_, rfl⟩
  rw [← hA] at he
  have HQ : Hid (DP (.byt) (pBytes 1 1 16777216) w1 w2 w.heap.size (some (xs, false)) [.slice ao L c] x ∧ Res (pBytes 1 1 16777216) (some (xs, false)) x s9 ∧ A = endA s9) := ⟨hx, q2, hA⟩
  clear hx q1 q2 hA
  go_wp2_with (go_at_call 106; refine he.mono ?_)
  rintro e w9 ⟨rfl, rfl⟩
  clear he
  by_cases hz : A = 0
  · subst hz
    go_wp2_with fail
    go_ret2
    exact ⟨ao, L, c, 0, rfl, GP.dok HQ.out.1 HQ.out.2.1 HQ.out.2.2.symm C1.out (Chg.refl _ _)⟩
  · have d1 : (A != 0) = true := by simpa using hz
    have HZ : Hid (A ≠ 0) := hz
    clear hz
    go_wp2_with fail
    go_ret2
    exact ⟨none, 0, 0, A, rfl, GP.dbad HQ.out.1 HQ.out.2.1 HQ.out.2.2 HZ.out C1.out (Chg.refl _ _) (Rel.nilB _ _)⟩

set_option maxHeartbeats 3200000 in
theorem dcookie_any (v : Value) (xs : List Int) (w : World) (h : Bt (Bel w.heap.size) w v xs) : Calls Try.prog 72 #[v] w fun e w' => ∃ ao L c al, e = .returned (.tuple #[.slice ao L c, .int .i64 al]) ∧ GP (.byt) (pBytes 2 1 16777216) [] w w' xs [.slice ao L c] al := by
  obtain ⟨w1, hw1⟩ : ∃ w1, w1 = w.alloc (.cells #[v, .bool false, .bool false] 124) := ⟨_, rfl⟩
  have R1 : DS w1 w.heap.size (some (xs, false)) := by rw [hw1]; exact DS.begin h
  have C1 : Hid (Chg Non w w1) := by rw [hw1]; exact (Chg.refl _ _).alloc _
  have HW1 : Hid (w1 = w.alloc (.cells #[v, .bool false, .bool false] 124)) := hw1
  have HLT : Hid (w.heap.size < w1.heap.size) := by show _ < _; rw [hw1]; simp
  obtain ⟨ao0, N0, c0, rfl⟩ : ∃ ao n c, v = .slice ao n c := by
    obtain ⟨h1, -⟩ := h
    obtain ⟨ao, n, c, e, -⟩ := h1.shape
    exact ⟨ao, n, c, e⟩
  clear h hw1
  have hp := dlist_any w.heap.size 2 1 65535 16777216 (by decide) 2 1 65535 rfl rfl rfl (lim2 (by decide)) _ w1 R1
  clear R1
  go_enter Try.func72, Try.ntmps72
  go_wp2_with fail
  rw [← HW1.out]
  refine hp.mono ?_
  rintro e w2 ⟨ao, L, c, x, rfl, hk, -, -⟩
  have hx : DP .byt (pBytes 2 1 16777216) w1 w2 w.heap.size (some (xs, false)) [.slice ao L c] x := hk.dp
  clear hk hp
  obtain ⟨s9, q1, q2⟩ := hx.ps.st
  have he := dend_any w.heap.size s9 w2 q1
  obtain ⟨A, hA⟩ : ∃ A, A = endA s9 := ⟨_, rfl⟩
  rw [← hA] at he
  have HQ : Hid (DP (.byt) (pBytes 2 1 16777216) w1 w2 w.heap.size (some (xs, false)) [.slice ao L c] x ∧ Res (pBytes 2 1 16777216) (some (xs, false)) x s9 ∧ A = endA s9) := ⟨hx, q2, hA⟩
  clear hx q1 q2 hA
  go_wp2_with (go_at_call 106; refine he.mono ?_)
  rintro e w9 ⟨rfl, rfl⟩
  clear he
  by_cases hz : A = 0
  · subst hz
    go_wp2_with fail
    go_ret2
    exact ⟨ao, L, c, 0, rfl, GP.dok HQ.out.1 HQ.out.2.1 HQ.out.2.2.symm C1.out (Chg.refl _ _)⟩
  · have d1 : (A != 0) = true := by simpa using hz
    have HZ : Hid (A ≠ 0) := hz
    clear hz
    go_wp2_with fail
    go_ret2
    exact ⟨none, 0, 0, A, rfl, GP.dbad HQ.out.1 HQ.out.2.1 HQ.out.2.2 HZ.out C1.out (Chg.refl _ _) (Rel.nilB _ _)⟩

set_option maxHeartbeats 3200000 in
theorem dgetnum_any (v : Value) (xs : List Int) (w : World) (h : Bt (Bel w.heap.size) w v xs) : Calls Try.prog 67 #[v] w fun e w' => ∃ n al, e = .returned (.tuple #[.int .u16 n, .int .i64 al]) ∧ GP (.num .u16) (pDig 2) (0 : Int) w w' xs [.int .u16 n] al := by
  obtain ⟨w1, hw1⟩ : ∃ w1, w1 = w.alloc (.cells #[v, .bool false, .bool false] 124) := ⟨_, rfl⟩
  have R1 : DS w1 w.heap.size (some (xs, false)) := by rw [hw1]; exact DS.begin h
  have C1 : Hid (Chg Non w w1) := by rw [hw1]; exact (Chg.refl _ _).alloc _
  have HW1 : Hid (w1 = w.alloc (.cells #[v, .bool false, .bool false] 124)) := hw1
  have HLT : Hid (w.heap.size < w1.heap.size) := by show _ < _; rw [hw1]; simp
  obtain ⟨ao0, N0, c0, rfl⟩ : ∃ ao n c, v = .slice ao n c := by
    obtain ⟨h1, -⟩ := h
    obtain ⟨ao, n, c, e, -⟩ := h1.shape
    exact ⟨ao, n, c, e⟩
  clear h hw1
  have hp := dnumber_any w.heap.size 2 (by decide) _ w1 R1
  clear R1
  go_enter Try.func67, Try.ntmps67
  go_wp2_with fail
  rw [← HW1.out]
  refine hp.mono ?_
  rintro e w2 ⟨n, rfl, hn⟩
  have hw16 := hn.w16
  obtain ⟨x, hxe⟩ : ∃ x : Int, x = n := ⟨_, rfl⟩
  have hx : DP (.num .u16) (pDig 2) w1 w2 w.heap.size (some (xs, false)) [.int .u16 n] x := by rw [hxe]; exact hn.rp2
  clear hn hp hxe
  obtain ⟨s9, q1, q2⟩ := hx.ps.st
  have he := dend_any w.heap.size s9 w2 q1
  obtain ⟨A, hA⟩ : ∃ A, A = endA s9 := ⟨_, rfl⟩
  rw [← hA] at he
  have HQ : Hid (DP (.num .u16) (pDig 2) w1 w2 w.heap.size (some (xs, false)) [.int .u16 n] x ∧ Res (pDig 2) (some (xs, false)) x s9 ∧ A = endA s9) := ⟨hx, q2, hA⟩
  clear hx q1 q2 hA
  go_wp2_with (go_at_call 106; refine he.mono ?_)
  rintro e w9 ⟨rfl, rfl⟩
  clear he
  by_cases hz : A = 0
  · subst hz
    go_wp2_with fail
    go_ret2
    exact ⟨n, 0, rfl, GP.dok HQ.out.1 HQ.out.2.1 HQ.out.2.2.symm C1.out (Chg.refl _ _)⟩
  · have d1 : (A != 0) = true := by simpa using hz
    have HZ : Hid (A ≠ 0) := hz
    clear hz
    go_wp2_with fail
    go_ret2
    exact ⟨0, A, rfl, GP.dbad HQ.out.1 HQ.out.2.1 HQ.out.2.2 HZ.out C1.out (Chg.refl _ _) (Rel.zero _ _ _)⟩

def pStaple : Pr (List Int) := pBind (pOnly 1) fun _ => pBytes 3 1 16777216

set_option maxHeartbeats 3200000 in
theorem dstatus_any (v : Value) (xs : List Int) (w : World) (h : Bt (Bel w.heap.size) w v xs) : Calls Try.prog 74 #[v] w fun e w' => ∃ ao L c al, e = .returned (.tuple #[.slice ao L c, .int .i64 al]) ∧ GP (.byt) (pStaple) [] w w' xs [.slice ao L c] al := by
  obtain ⟨w1, hw1⟩ : ∃ w1, w1 = w.alloc (.cells #[v, .bool false, .bool false] 124) := ⟨_, rfl⟩
  have R1 : DS w1 w.heap.size (some (xs, false)) := by rw [hw1]; exact DS.begin h
  have C1 : Hid (Chg Non w w1) := by rw [hw1]; exact (Chg.refl _ _).alloc _
  have HW1 : Hid (w1 = w.alloc (.cells #[v, .bool false, .bool false] 124)) := hw1
  have HLT : Hid (w.heap.size < w1.heap.size) := by show _ < _; rw [hw1]; simp
  obtain ⟨ao0, N0, c0, rfl⟩ : ∃ ao n c, v = .slice ao n c := by
    obtain ⟨h1, -⟩ := h
    obtain ⟨ao, n, c, e, -⟩ := h1.shape
    exact ⟨ao, n, c, e⟩
  clear h hw1
  have hp := dnumber_any w.heap.size 1 (by decide) _ w1 R1
  clear R1
  go_enter Try.func74, Try.ntmps74
  go_wp2_with fail
  rw [← HW1.out]
  refine hp.mono ?_
  rintro e w2 ⟨n, rfl, hn⟩
  obtain ⟨s2, q1, q2⟩ := hn.ps.st
  obtain ⟨v2, sh, od, zs, m, kb⟩ := q1
  obtain ⟨D, hD⟩ : ∃ D, D = (n != 1) := ⟨_, rfl⟩
  have m3 := m.odd D
  obtain ⟨w3, hw3⟩ : ∃ w3, w3 = w2.setCell ⟨w.heap.size, 2, none⟩ (.bool D) := ⟨_, rfl⟩
  rw [← hw3] at m3
  have c3 : Chg (One w.heap.size) w1 w3 := hn.ps.chg.one (by rw [hw3]; exact chg_rest _ _ _ _)
  have h3 : ∃ s3, DS w3 w.heap.size s3 ∧ Res (pOnly 1) (some (xs, false)) () s3 := by
    rcases kb with ⟨rfl, rfl⟩ | ⟨rfl, rfl⟩
    · refine ⟨none, DS.of m3 (.inl ⟨rfl, rfl⟩), ?_⟩
      exact q2.bind (by exact rfl)
    · have hod : od = false := by
        unfold Res at q2
        dsimp only at q2
        cases hq : pDig 1 xs with
        | none => rw [hq] at q2; cases q2
        | some z =>
          obtain ⟨a, ys, o⟩ := z
          rw [hq] at q2
          unfold pDig at hq
          split at hq
          · cases hq
          · injection hq with hq
            injection hq with _ hq
            injection hq with _ hq
            have e2 := q2.2
            injection e2 with e2
            injection e2 with _ e2
            rw [e2, ← hq]
            rfl
      subst hod
      refine ⟨some (zs, D), DS.of m3 (.inr ⟨rfl, rfl⟩), q2.bind ?_⟩
      rw [hD]
      exact Res.odd (n != 1) (some (zs, false))
  obtain ⟨s3, q3, q4⟩ := h3
  have hp := dlist_any w.heap.size 3 1 16777215 16777216 (by decide) 3 1 16777215 rfl rfl rfl (lim3 (by decide)) s3 w3 q3
  obtain ⟨z0, z1, z2, f0, f1, f2⟩ := m.facts
  have H3 : Hid (Chg (One w.heap.size) w1 w3 ∧ Res (pOnly 1) (some (xs, false)) () s3) := ⟨c3, q4⟩
  have HW3 : Hid (w3 = w2.setCell ⟨w.heap.size, 2, none⟩ (.bool D)) := hw3
  have HD : Hid (D = (n != 1)) := hD
  clear hn q2 kb m m3 c3 q3 q4 hw3 hD
  go_wp2_with fail
  rw [← HD.out, ← HW3.out]
  refine hp.mono ?_
  rintro e w4 ⟨ao, L, c, x, rfl, hk, -, -⟩
  have hx : DP .byt pStaple w1 w4 w.heap.size (some (xs, false)) [.slice ao L c] x := by
    obtain ⟨s4, k1, k2⟩ := hk.ps.st
    exact ⟨hk.dp.rel.btw H3.out.1.size (Nat.le_refl _), H3.out.1.one hk.ps.chg, s4, k1, H3.out.2.bind k2⟩
  clear hk hp z0 z1 z2 f0 f1 f2
  obtain ⟨s9, q1, q2⟩ := hx.ps.st
  have he := dend_any w.heap.size s9 w4 q1
  obtain ⟨A, hA⟩ : ∃ A, A = endA s9 := ⟨_, rfl⟩
  rw [← hA] at he
  have HQ : Hid (DP (.byt) (pStaple) w1 w4 w.heap.size (some (xs, false)) [.slice ao L c] x ∧ Res (pStaple) (some (xs, false)) x s9 ∧ A = endA s9) := ⟨hx, q2, hA⟩
  clear hx q1 q2 hA
  go_wp2_with (go_at_call 106; refine he.mono ?_)
  rintro e w9 ⟨rfl, rfl⟩
  clear he
  by_cases hz : A = 0
  · subst hz
    go_wp2_with fail
    go_ret2
    exact ⟨ao, L, c, 0, rfl, GP.dok HQ.out.1 HQ.out.2.1 HQ.out.2.2.symm C1.out (Chg.refl _ _)⟩
  · have d1 : (A != 0) = true := by simpa using hz
    have HZ : Hid (A ≠ 0) := hz
    clear hz
    go_wp2_with fail
    go_ret2
    exact ⟨none, 0, 0, A, rfl, GP.dbad HQ.out.1 HQ.out.2.1 HQ.out.2.2 HZ.out C1.out (Chg.refl _ _) (Rel.nilB _ _)⟩
end Go.Proofs.Ytdhckndehijemaa
