/-
  A part of the document's reader, read to its end.
-/
import Derived.Test.YtdhckndehijemaaDg
import Derived.Test.YtdhckndehijemaaLn
namespace Go.Proofs.Ytdhckndehijemaa
open Go.RowKit
set_option linter.unusedVariables false
set_option maxRecDepth 100000

theorem many_cases {α : Type} {q : Pr α} (hq : Shr q) {x : Int} {b : List Int} {l : List α} {o : Bool} (h : many q (x :: b) = some (l, o)) : ∃ a ys o1 l2 o2, q (x :: b) = some (a, ys, o1) ∧ many q ys = some (l2, o2) ∧ l = a :: l2 := by
  cases e : q (x :: b) with
  | none => rw [many_none (by simp) e] at h; cases h
  | some z =>
    obtain ⟨a, ys, o1⟩ := z
    rw [many_some hq (by simp) e] at h
    cases e2 : many q ys with
    | none => rw [e2] at h; cases h
    | some z =>
      obtain ⟨l2, o2⟩ := z
      rw [e2] at h
      injection h with h
      injection h with h _
      exact ⟨a, ys, o1, l2, o2, rfl, e2, h.symm⟩
theorem many_len {α : Type} {q : Pr α} (hq : Shr q) : ∀ (m : Nat) (b : List Int) (l : List α) (o : Bool), b.length ≤ m → many q b = some (l, o) → l.length ≤ b.length
  | _, [], l, o, _, h => by
    rw [many_nil] at h
    injection h with h
    injection h with h _
    subst h
    simp
  | 0, x :: b, _, _, hm, _ => by simp at hm
  | m + 1, x :: b, l, o, hm, h => by
    obtain ⟨a, ys, o1, l2, o2, e1, e2, rfl⟩ := many_cases hq h
    have h1 := hq _ _ _ _ e1
    have h2 := many_len hq m ys l2 o2 (by simp at hm; simp at h1; omega) e2
    simp at h1 ⊢
    omega
theorem many_pos {α : Type} {q : Pr α} (hq : Shr q) {m : Nat} (h1 : 1 ≤ m) (hmin : ∀ xs a ys o, q xs = some (a, ys, o) → m ≤ xs.length) (b : List Int) (l : List α) (o : Bool) (h : many q b = some (l, o)) : m ≤ b.length ↔ 1 ≤ l.length := by
  cases b with
  | nil =>
    rw [many_nil] at h
    injection h with h
    injection h with h _
    subst h
    simp
    omega
  | cons x b =>
    obtain ⟨a, ys, o1, l2, o2, e1, e2, rfl⟩ := many_cases hq h
    exact ⟨fun _ => by simp, fun _ => hmin _ _ _ _ e1⟩
theorem shr_min {α : Type} {q : Pr α} (hq : Shr q) : ∀ xs a ys o, q xs = some (a, ys, o) → 1 ≤ xs.length := fun xs a ys o e => by have := hq _ _ _ _ e; omega
theorem dig2_min : ∀ xs a ys o, pDig 2 xs = some (a, ys, o) → 2 ≤ xs.length := fun xs a ys o e => by
  unfold pDig at e
  split at e
  · cases e
  · omega
theorem many_dig1 : ∀ ys : List Int, many (pDig 1) ys = some (ys, false)
  | [] => many_nil _
  | y :: ys => by
    have h1 : pDig 1 (y :: ys) = some (y, ys, false) := by
      unfold pDig
      rw [if_neg (by simp)]
      simp [dig]
    rw [many_some (pDig_shr (by decide)) (by simp) h1, many_dig1 ys]
    rfl

theorem res_part {α : Type} {q : Pr α} (hq : Shr q) {n least least' : Nat} (hn : n ≤ 3) {s s1 sp : St} {body : List Int} {pre : List α} (hb : ∀ xs o, s = some (xs, o) → Byt xs) (h1 : Res (pBytes n least 16777216) s body s1) (h2 : Lop q (s1.map fun _ => (body, false)) pre sp)
    (he : ∀ ys o, sp = some (ys, o) → ys = []) (hc : ∀ b l o, many q b = some (l, o) → (least ≤ b.length ↔ least' ≤ l.length)) : Res (pList n least' 16777216 q) s pre (wth s1 sp) := by
  cases s with
  | none =>
    obtain rfl : s1 = none := h1
    rfl
  | some z =>
    obtain ⟨xs, o⟩ := z
    have hby := hb xs o rfl
    unfold Res pBytes pList at h1
    unfold Res pList
    dsimp only at h1 ⊢
    by_cases hl : xs.length < n
    · rw [if_pos hl] at h1 ⊢
      dsimp only at h1 ⊢
      rw [h1]
      rfl
    · rw [if_neg hl] at h1 ⊢
      obtain ⟨d0, d1⟩ := dig_mono (hby.take n) (n := n) (by rw [List.length_take]; omega)
      obtain ⟨k, hk⟩ : ∃ k : Nat, k = (dig (xs.take n)).toNat := ⟨_, rfl⟩
      rw [← hk] at h1 ⊢
      have hkl : k < 16777216 := by
        have h2 : (256 : Nat) ^ n ≤ 256 ^ 3 := Nat.pow_le_pow_right (by decide) hn
        have h3 : ((256 : Int) ^ n) = ((256 ^ n : Nat) : Int) := by norm_cast
        rw [h3] at d1
        have h4 : (256 : Nat) ^ 3 = 16777216 := by decide
        omega
      by_cases hd : (xs.drop n).length < k
      · rw [if_pos hd] at h1 ⊢
        dsimp only at h1 ⊢
        rw [h1]
        rfl
      · rw [if_neg hd] at h1 ⊢
        obtain ⟨b, hbd⟩ : ∃ b, b = (xs.drop n).take k := ⟨_, rfl⟩
        have hbl : b.length = k := by rw [hbd, List.length_take]; omega
        rw [← hbd] at h1 ⊢
        rw [many_dig1] at h1
        dsimp only at h1
        by_cases hg : least ≤ b.length
        · rw [if_pos ⟨hg, by omega⟩] at h1
          obtain ⟨rfl, rfl⟩ := h1
          rcases Lop.fin h2 he with ⟨rfl, hm⟩ | ⟨o1, rfl, hm⟩
          · rw [hm]
            rfl
          · rw [hm]
            dsimp only
            have hle := many_len hq _ _ _ _ (Nat.le_refl _) hm
            rw [if_pos ⟨(hc _ _ _ hm).1 hg, by omega⟩]
            exact ⟨rfl, by simp [wth]⟩
        · rw [if_neg (fun e => hg e.1)] at h1
          dsimp only at h1
          subst h1
          cases hm : many q b with
          | none => rfl
          | some z =>
            obtain ⟨l, o1⟩ := z
            dsimp only
            rw [if_neg (fun e => hg ((hc _ _ _ hm).2 e.1))]
            rfl

/-- Where a part begins. -/
def prt (s1 : St) : St := s1.map fun z => (z.1, false)
theorem inn_prt (s1 : St) (body : List Int) : inn (prt s1) body = s1.map fun _ => (body, false) := by cases s1 <;> rfl

theorem mor_end {s : St} (h : mor s = false) : ∀ ys o, s = some (ys, o) → ys = [] := fun ys o e => by
  rw [e] at h
  have : ¬ 0 < ys.length := by simpa [mor] using h
  exact List.eq_nil_of_length_eq_zero (by omega)
theorem mor_more {s : St} (h : mor s = true) : ∃ zs o, s = some (zs, o) ∧ zs ≠ [] := by
  cases s with
  | none => cases h
  | some z =>
    obtain ⟨zs, o⟩ := z
    have h' : decide (0 < zs.length) = true := h
    exact ⟨zs, o, rfl, by intro e; subst e; simp at h'⟩

theorem di_fin {t : Ty} {κ : TypeId} {q : Pr t.Dat} (hq : Shr q) {n least least' R P : Nat} (hn : n ≤ 3) {w1 w4 wr w6 : World} {s s1 sc : St} {body : List Int} {pre : List t.Dat} {va : Value} (hb : ∀ xs o, s = some (xs, o) → Byt xs) (hR : R < w1.heap.size)
    (hp : PT n least 16777216 w1 w4 R P s s1 body) (h : DI t κ q w4 P (prt s1) body pre va wr sc) (hend : mor sc = false) (c6 : Chg (One R) wr w6) (h6 : DS w6 R (wth s1 sc))
    (hc : ∀ b l o, many q b = some (l, o) → (least ≤ b.length ↔ least' ≤ l.length)) : DP (.lst t) (pList n least' 16777216 q) w1 w6 R s [va] pre := by
  obtain ⟨cs, hcs⟩ := h.row
  have h4 := hp.chg.size
  refine ⟨((hcs.keep c6 (fun k e => by have e' : k = R := e; omega)).rel).btw h4 (Nat.le_refl _), ⟨?_, _, h6, res_part hq hn hb hp.res ?_ (mor_end hend) hc⟩⟩
  · exact (hp.chg.trans h.chg (fun i hi e => by have e' : i = P := e; have := hp.new; omega)).one c6
  · have := h.lop
    rwa [inn_prt] at this
theorem di_start {t : Ty} {κ : TypeId} {q : Pr t.Dat} {n least R P : Nat} {w1 w4 : World} {s s1 : St} {body : List Int} (hp : PT n least 16777216 w1 w4 R P s s1 body) : DI t κ q w4 P (prt s1) body [] (.slice none 0 0) w4 (inn (prt s1) body) :=
  DI.start (by rw [inn_prt]; exact hp.part)
end Go.Proofs.Ytdhckndehijemaa
namespace Go.Proofs.Ytdhckndehijemaa
open Go.RowKit
set_option linter.unusedVariables false
set_option maxRecDepth 100000


set_option maxHeartbeats 3200000 in
theorem dnumbers_any (v : Value) (xs : List Int) (w : World) (h : Bt (Bel w.heap.size) w v xs) (n : Nat) (hn : n ≤ 3) (hl : ∀ L : Nat, L < 256 ^ n → L ≤ 65535 ∧ L ≤ 16777216) : Calls Try.prog 144 #[v, .int .i64 n] w fun e w' => ∃ ao L c al, e = .returned (.tuple #[.slice ao L c, .int .i64 al]) ∧ GP (.lst (.num .u16)) (pList n 1 16777216 (pDig 2)) [] w w' xs [.slice ao L c] al := by
  obtain ⟨w1, hw1⟩ : ∃ w1, w1 = w.alloc (.cells #[v, .bool false, .bool false] 124) := ⟨_, rfl⟩
  have R1 : DS w1 w.heap.size (some (xs, false)) := by rw [hw1]; exact DS.begin h
  have C1 : Hid (Chg Non w w1) := by rw [hw1]; exact (Chg.refl _ _).alloc _
  have HW1 : Hid (w1 = w.alloc (.cells #[v, .bool false, .bool false] 124)) := hw1
  have HLT : Hid (w.heap.size < w1.heap.size) := by show _ < _; rw [hw1]; simp
  obtain ⟨ao0, N0, c0, rfl⟩ : ∃ ao n c, v = .slice ao n c := by
    obtain ⟨h1, -⟩ := h
    obtain ⟨ao, n, c, e, -⟩ := h1.shape
    exact ⟨ao, n, c, e⟩
  clear h hw1
  have HB : Hid (∀ zs o, (some (xs, false) : St) = some (zs, o) → Byt zs) := fun zs o e => DB.byt R1 e
  have hp := dpart_any w.heap.size n 2 65535 16777216 hn n 2 65535 rfl rfl rfl hl _ w1 R1
  clear R1
  go_enter Try.func144, Try.ntmps144
  go_wp2_with fail
  rw [← HW1.out]
  refine hp.mono ?_
  rintro e w4 ⟨P, s1, body, rfl, hpt⟩
  have HPT : Hid (PT n 2 16777216 w1 w4 w.heap.size P (some (xs, false)) s1 body) := hpt
  have HL : Hid (DI (.num .u16) 32 (pDig 2) w4 P (prt s1) body [] (.slice none 0 0) w4 (inn (prt s1) body)) := di_start hpt
  have HP4 : Hid (P < w4.heap.size ∧ w.heap.size < P) := ⟨hpt.part.lt, Nat.lt_of_lt_of_le HLT.out hpt.new⟩
  have HST : Hid (∀ zs o, inn (prt s1) body = some (zs, o) → zs.length ≤ body.length) := fun zs o e => by have := HL.out.lt zs o e; simpa using this
  clear hpt hp
  go_wp2_with fail
  go_loopg [8] body.length (fun m va wr => ∃ pre sc, Hid (DI (.num .u16) 32 (pDig 2) w4 P (prt s1) body pre va wr sc) ∧ Hid (∀ zs o, sc = some (zs, o) → zs.length ≤ m))
  case atStart => exact ⟨[], inn (prt s1) body, HL.out, HST.out⟩
  case round =>
    obtain ⟨pre, sc, hI, hm⟩ := hrel
    obtain ⟨cs, hcs⟩ := hI.out.row
    have hmo := dmore_any P sc wr hI.out.st
    obtain ⟨M, hM⟩ : ∃ M, M = mor sc := ⟨_, rfl⟩
    rw [← hM] at hmo
    have HMo : Hid (M = mor sc) := hM
    have HCS : Hid (LR (.num .u16) 32 w4.heap.size wr u8 cs pre) := hcs
    clear hM hcs
    go_wp2_with (go_at_call 121; refine hmo.mono ?_)
    rintro e w5 ⟨rfl, rfl⟩
    clear hmo
    cases M with
    | true =>
      have HNE : Hid (∃ zs' o, sc = some (zs', o) ∧ zs' ≠ []) := mor_more HMo.out.symm
      have HP := dnumber_any P 2 (by decide) sc w5 hI.out.st
      obtain ⟨i0, p1, p2, p3, p4⟩ := info_parts info32
      go_wp2_with (go_at_call 127; refine HP.mono ?_)
      rintro e w6 ⟨y, rfl, hy⟩
      have hw16 := hy.w16
      obtain ⟨x, hxe⟩ : ∃ x : Int, x = y := ⟨_, rfl⟩
      have hx' : DP (.num .u16) (pDig 2) w5 w6 P sc [.int .u16 y] x := by rw [hxe]; exact hy.rp2
      clear hy hxe
      have HX : Hid (DP (.num .u16) (pDig 2) w5 w6 P sc [.int .u16 y] x) := hx'
      have HRO := DI.row2 (.cells #[.int .u16 y] 32) hI.out hx' HCS.out HP4.out.1
      have HRO' : Hid ((w6.alloc (.cells #[.int .u16 y] 32)).ownsRow w4.heap.size 32 1 u8 pre.length cs.flatten ∧ w4.heap.size ≤ (w6.alloc (.cells #[.int .u16 y] 32)).heap.size) := HRO
      have HBB : Hid (pre.length + 1 ≤ maxLen ∧ (pre.length + 1) * 2 ≤ 140737488355328) := by
        have h1 := hI.out.le
        have h2 := HPT.out.len
        exact ⟨by unfold maxLen; omega, by omega⟩
      have HONE : Hid (∀ u ∈ ([.int .u16 y] : List Value), u.oneCell' = true) := by
        intro u hu
        simp at hu
        rw [hu]; rfl
      have HNEW : Hid (∀ j u, ([.int .u16 y] : List Value)[j]? = some u → (w6.alloc (.cells #[.int .u16 y] 32)).cell? ((⟨w6.heap.size, 0, none⟩ : Addr).add j) = some u) := fun j u hj => by
        rw [Addr.add_lit, cell_of_row _ w6.heap.size (0 + j) _ 32 (0, 0) (heap_alloc_last w6 _)]
        simpa using hj
      clear hx' HRO HP
      go_wp2_with (at_builtin; refine wpList_append_own_at _ rfl _ _ 33 rfl w4.heap.size 32 i0 _ 1 2 Try.underlying33 p1 p2 p3 p4 rfl (by decide) u8 pre.length cs.flatten rfl HRO'.out.1 ⟨w6.heap.size, 0, none⟩ 1 1 [.int .u16 y] rfl rfl HNEW.out HONE.out HBB.out.1 HBB.out.2 HRO'.out.2 ?_)
      intro va' w8 hrow8 hgrow8 _ hblk8
      obtain ⟨sc', n1, n2⟩ := DI.more (pDig_shr (by decide)) hI.out HNE.out HX.out HCS.out hrow8 hgrow8 hblk8 HP4.out.1
      have N1 : Hid (DI (.num .u16) 32 (pDig 2) w4 P (prt s1) body (snocD (t := .num .u16) pre x) va' w8 sc') := n1
      have HG : Hid (0 < gk ∧ ∀ zs o, sc' = some (zs, o) → zs.length ≤ gk - 1) := by
        obtain ⟨zs1, o1, hs1, hn1⟩ := HNE.out
        have h1 := hm.out zs1 o1 hs1
        have h2 : 0 < zs1.length := List.length_pos_iff.2 hn1
        refine ⟨by omega, fun zs2 o2 e => ?_⟩
        rcases n2 with n2 | ⟨zs3, o3, e3, n2⟩
        · rw [n2] at e; cases e
        · rw [e3] at e
          injection e with e
          injection e with e _
          subst e
          have := n2 zs1 o1 hs1
          omega
      obtain ⟨g8, cap8, rfl⟩ := ownsRow_succ hrow8
      clear hrow8 hgrow8 hblk8 n1 n2 HRO' HNEW HX HBB p1 p2 p3 p4
      go_wp2
      go_roundg (gk - 1)
      case measure => have := HG.out.1; omega
      case rel => exact ⟨snocD (t := .num .u16) pre x, sc', N1.out, HG.out.2⟩
    | false =>
      obtain ⟨ao, L, c, rfl⟩ : ∃ ao n c, u8 = .slice ao n c := by
        obtain ⟨a, b, e⟩ := ownsRow_any HCS.out.row
        exact ⟨a, _, b, e⟩
      have hwi := dwith_any w.heap.size P (by have := HP4.out.2; omega) s1 sc w5 (HPT.out.st.keep hI.out.chg (fun k e => by have e' : k = P := e; have := HP4.out.2; omega)) hI.out.st
      go_wp2_with (go_at_call 122; refine hwi.mono ?_)
      rintro e w6 ⟨rfl, c6, h6⟩
      obtain ⟨x, hxe⟩ : ∃ x, x = pre := ⟨_, rfl⟩
      have hx : DP (.lst (.num .u16)) (pList n 1 16777216 (pDig 2)) w1 w6 w.heap.size (some (xs, false)) [.slice ao L c] x := by
        rw [hxe]
        exact di_fin (pDig_shr (by decide)) hn HB.out HLT.out HPT.out hI.out HMo.out.symm c6 h6 (many_pos (pDig_shr (by decide)) (by decide) dig2_min)
      clear hwi c6 h6 hxe
      obtain ⟨s9, q1, q2⟩ := hx.ps.st
      have he := dend_any w.heap.size s9 w6 q1
      obtain ⟨A, hA⟩ : ∃ A, A = endA s9 := ⟨_, rfl⟩
      rw [← hA] at he
      have HQ : Hid (DP (.lst (.num .u16)) (pList n 1 16777216 (pDig 2)) w1 w6 w.heap.size (some (xs, false)) [.slice ao L c] x ∧ Res (pList n 1 16777216 (pDig 2)) (some (xs, false)) x s9 ∧ A = endA s9) := ⟨hx, q2, hA⟩
      clear hx q1 q2 hA
      go_wp2_with (go_at_call 106; refine he.mono ?_)
      rintro e w9 ⟨rfl, rfl⟩
      clear he
      by_cases hz : A = 0
      · subst hz
        go_wp2_with fail
        go_ret2
        exact ⟨ao, L, c, 0, rfl, GP.dok HQ.out.1 HQ.out.2.1 HQ.out.2.2.symm C1.out (Chg.refl _ _)⟩
      · have d1 : (A != 0) = true := by simpa using hz
        have HZ : Hid (A ≠ 0) := hz
        clear hz
        go_wp2_with fail
        go_ret2
        exact ⟨none, 0, 0, A, rfl, GP.dbad HQ.out.1 HQ.out.2.1 HQ.out.2.2 HZ.out C1.out (Chg.refl _ _) (Rel.nil _ _ _)⟩
end Go.Proofs.Ytdhckndehijemaa
