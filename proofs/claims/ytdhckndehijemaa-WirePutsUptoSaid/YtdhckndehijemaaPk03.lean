/-
  The document's puts of shares and of numbers.
-/
import Derived.Test.YtdhckndehijemaaPk02
import Derived.Test.YtdhckndehijemaaMj20
import Derived.Test.YtdhckndehijemaaHn
namespace Go.Proofs.Ytdhckndehijemaa
open Go.RowKit
set_option linter.unusedVariables false
set_option maxRecDepth 100000

theorem share_min : ∀ (a : Ext) (b : List Int), wShare a = some b → 1 ≤ b.length := by
  intro a b h
  unfold wShare wSeq wNum at h
  simp only at h
  cases hb : wBytes 2 1 16777216 a.2 with
  | none =>
    rw [hb] at h
    cases h
  | some y =>
    rw [hb] at h
    injection h with h
    rw [← h, List.length_append, putD_len]
    omega


set_option maxHeartbeats 12800000 in
theorem dputShares_any (ao : Option Addr) (L c : Nat) (x : List Ext) (w : World) (h : Rel (.lst tExt) (Bel w.heap.size) w [.slice ao L c] x) (hn : List.length (α := Ext) x ≤ 1048576) : Calls Try.prog 86 #[.slice ao L c] w fun e w' => ∃ v, e = .returned v ∧ PO (wShares) w w' v x := by
  obtain ⟨P, hP⟩ : ∃ P, P = w.heap.size := ⟨_, rfl⟩
  obtain ⟨w1, hw1⟩ : ∃ w1, w1 = w.alloc (.cells #[.slice none 0 0, .bool false] 115) := ⟨_, rfl⟩
  have hm : VM w1 P (.slice none 0 0) false [] := by rw [hw1, hP]; exact VM.begin w
  have c1 : Chg Non w w1 := by rw [hw1]; exact (Chg.refl _ _).alloc _
  have hL : L = List.length (α := Ext) x := by
    obtain ⟨ao', n', c', e, e2, -⟩ := id h
    injection e with e
    injection e with _ e _
    exact e.trans e2
  have HL : Hid (L = List.length (α := Ext) x ∧ L ≤ 1048576) := ⟨hL, by rw [hL]; exact hn⟩
  have HR : Hid (Rel (.lst tExt) (Bel w.heap.size) w [.slice ao L c] x) := h
  have HP : Hid (P = w.heap.size ∧ VM w1 P (.slice none 0 0) false [] ∧ Chg Non w w1) := ⟨hP, hm, c1⟩
  have HW : Hid (w1 = w.alloc (.cells #[.slice none 0 0, .bool false] 115)) := hw1
  have HC : Hid (∀ wi vr nr body, VP P (.slice none 0 0) w1 wi vr nr body → Chg Non w wi) := fun wi vr nr body k => c1.trans k.chg (fun i hi e => by
    rcases e with e | e
    · omega
    · cases e)
  have hLm : L ≤ 1048576 := HL.out.2
  clear h hn hw1 hm c1 hL
  go_enter Try.func86, Try.ntmps86
  go_wp2_with fail
  rw [← HW.out, ← hP]
  clear hP
  go_loopg [4] L (fun mm kv wi => ∃ i : Nat, i + mm = L ∧ kv = .int .i64 i ∧ ∃ vr nr body, Hid (EL (wShare) 65539 P w1 x i wi vr nr body))
  case atStart => exact ⟨0, by omega, rfl, (.slice none 0 0), false, [], ⟨VP.refl HP.out.2.1, fun _ => rfl, (fun e => by cases e), Nat.zero_le _⟩⟩
  case round =>
    obtain ⟨i, him, rfl, vr, nr, body, hE⟩ := hrel
    by_cases hlt : i < L
    · obtain ⟨z, hz⟩ : ∃ z : Ext, x[i]? = some z := ⟨x[i]'(by rw [← HL.out.1]; exact hlt), List.getElem?_eq_getElem _⟩
      obtain ⟨b, ob, cb, e, hb1, hb2, -, hb3⟩ := HR.out.at HL.out.1 (by omega) (by decide)
      injection e with e1 e2 e3
      subst e1
      obtain ⟨us, hr, hcel⟩ := hb3 i z hz
      have hcN : L ≤ cb := hb1
      have hcm : cb ≤ 9223372036854775807 := hb2
      have hbl : body.length ≤ 69000000000 := by have h1 := hE.out.len; have h2 := HL.out.2; have : i * 65539 ≤ 1048576 * 65539 := Nat.mul_le_mul_right _ (by omega); omega
      have HG : Hid (0 < gk ∧ i + 1 ≤ L ∧ i + gk = L) := ⟨by omega, hlt, him⟩
      have HKC := HC.out _ _ _ _ hE.out.vp
      obtain ⟨ea, el, ec, rfl, hr1, hr2⟩ := hr.ext
      obtain ⟨ti, hti⟩ : ∃ ti : Int, ti = z.1 := ⟨_, rfl⟩
      rw [← hti] at hcel hr
      have q0 : w.cell? ⟨b, ob + i * 2, none⟩ = some (.int .u16 ti) := hcel 0 _ rfl
      have q1 : w.cell? ⟨b, ob + i * 2 + 1, none⟩ = some (.slice ea el ec) := hcel 1 _ rfl
      have q0 := cell_kept q0 HKC
      have q1 := cell_kept q1 HKC
      have hrv := hr.inV HP.out.2.2 (show w.heap.size ≤ P by have := HP.out.1; omega) hE.out.vp
      have hp := vshare_any P ti ea el ec z vr nr body wr hE.out.vp.wm hrv (by omega)
      have HZ : Hid (x[i]? = some z) := hz
      clear hb3 hcel hr hr1 hr2 hz hb1 hb2 e2 e3 hbl him hti hrv HKC
      go_wp2_with (go_at_call 173; refine hp.mono ?_)
      rintro e wB hq
      obtain rfl := hq.ret
      obtain ⟨vB, nB, ysB, hq⟩ := hq.q
      have HE2 : Hid (EL wShare 65539 P w1 x (i + 1) wB vB nB (body ++ ysB)) := hE.out.step HZ.out hq
      clear hq hp q0 q1
      go_wp2
      go_roundg (gk - 1)
      case measure => have := HG.out; omega
      case rel => exact ⟨i + 1, by have := HG.out; omega, by go_num, vB, nB, _, HE2.out⟩
    · have hiN : i = L := by omega
      subst hiN
      have hvp := hE.out.vp
      obtain ⟨w6, hw6⟩ : ∃ w6, w6 = wr.alloc (.cells #[.slice none 0 0, .bool false] 115) := ⟨_, rfl⟩
      have hm6 : VM w6 wr.heap.size (.slice none 0 0) false [] := by rw [hw6]; exact VM.begin wr
      have c6 : Chg Non wr w6 := by rw [hw6]; exact (Chg.refl _ _).alloc _
      have hPl := hvp.wm.lt
      have hpa := vpart_any wr.heap.size P 2 0 2 0 rfl rfl (.inr (.inl rfl)) vr nr body (.slice none 0 0) false [] w6 hm6 (hvp.wm.non c6) (by omega) (fun e => by cases e) (fun k e => ⟨fun q => by have := hvp.wm.own.lt k e; omega, fun q => by cases q⟩) (by simp)
      have HF1 : Hid (wPart nr 2 0 body = (wShares) x ∧ Chg Non wr w6 ∧ Chg Non w wr) := ⟨by
        have h1 := hE.out
        rw [HL.out.1] at h1
        exact h1.fin (m := 1) (n := 2) (least := 0) (by have h2 := HL.out; omega) (by decide) (by decide) share_min (by decide) (fun e => by
          have h3 := hE.out.len
          have h4 := HL.out.1
          rw [e] at h4
          rw [show i = 0 from h4] at h3
          rw [Nat.zero_mul] at h3
          exact List.length_eq_zero_iff.1 (by omega)), c6, HC.out _ _ _ _ hvp⟩
      have HW6 : Hid (w6 = wr.alloc (.cells #[.slice none 0 0, .bool false] 115)) := hw6
      clear hvp hw6 hm6 c6 hPl
      go_wp2_with fail
      rw [← HW6.out]
      refine hpa.mono ?_
      rintro e w7 hq
      obtain rfl := hq.ret
      obtain ⟨v2, m2, ys2, hq⟩ := hq.q
      have HQ : Hid (VQ (wShares) 16777217 wr.heap.size (.slice none 0 0) w6 w7 v2 false m2 [] ys2 x) := hq.like2 HF1.out.1
      clear hq hpa
      have hd := vdone_any wr.heap.size v2 m2 _ w7 HQ.out.wp.wm
      cases m2 with
      | true =>
        rw [if_pos rfl] at hd
        go_wp2_with (go_at_call 101; refine hd.mono ?_)
        rintro e w9 ⟨rfl, rfl⟩
        clear hd
        go_wp2
        go_ret
        exact ⟨_, rfl, (vo_none HQ.out HF1.out.2.1).ahead HF1.out.2.2⟩
      | false =>
        rw [if_neg (by decide)] at hd
        go_wp2_with (go_at_call 101; refine hd.mono ?_)
        rintro e w9 ⟨rfl, rfl⟩
        clear hd
        go_wp2
        go_ret
        exact ⟨_, rfl, (vo_some HQ.out HF1.out.2.1).ahead HF1.out.2.2⟩
end Go.Proofs.Ytdhckndehijemaa

namespace Go.Proofs.Ytdhckndehijemaa
open Go.RowKit
set_option linter.unusedVariables false
set_option maxRecDepth 100000

theorem num_min : ∀ (a : Int) (b : List Int), wNum 2 a = some b → 2 ≤ b.length := by
  intro a b h
  unfold wNum at h
  injection h with h
  rw [← h, putD_len]
  exact Nat.le_refl _


set_option maxHeartbeats 12800000 in
theorem dputNs_any (ao : Option Addr) (L c : Nat) (x : List Int) (w : World) (h : Rel (.lst (.num .u16)) (Bel w.heap.size) w [.slice ao L c] x) (hn : List.length (α := Int) x ≤ 1048576) : Calls Try.prog 165 #[.slice ao L c, .int .i64 2] w fun e w' => ∃ v, e = .returned v ∧ PO (wList 2 1 16777216 (wNum 2)) w w' v x := by
  obtain ⟨P, hP⟩ : ∃ P, P = w.heap.size := ⟨_, rfl⟩
  obtain ⟨w1, hw1⟩ : ∃ w1, w1 = w.alloc (.cells #[.slice none 0 0, .bool false] 115) := ⟨_, rfl⟩
  have hm : VM w1 P (.slice none 0 0) false [] := by rw [hw1, hP]; exact VM.begin w
  have c1 : Chg Non w w1 := by rw [hw1]; exact (Chg.refl _ _).alloc _
  have hL : L = List.length (α := Int) x := by
    obtain ⟨ao', n', c', e, e2, -⟩ := id h
    injection e with e
    injection e with _ e _
    exact e.trans e2
  have HL : Hid (L = List.length (α := Int) x ∧ L ≤ 1048576) := ⟨hL, by rw [hL]; exact hn⟩
  have HR : Hid (Rel (.lst (.num .u16)) (Bel w.heap.size) w [.slice ao L c] x) := h
  have HP : Hid (P = w.heap.size ∧ VM w1 P (.slice none 0 0) false [] ∧ Chg Non w w1) := ⟨hP, hm, c1⟩
  have HW : Hid (w1 = w.alloc (.cells #[.slice none 0 0, .bool false] 115)) := hw1
  have HC : Hid (∀ wi vr nr body, VP P (.slice none 0 0) w1 wi vr nr body → Chg Non w wi) := fun wi vr nr body k => c1.trans k.chg (fun i hi e => by
    rcases e with e | e
    · omega
    · cases e)
  have hLm : L ≤ 1048576 := HL.out.2
  clear h hn hw1 hm c1 hL
  go_enter Try.func165, Try.ntmps165
  go_wp2_with fail
  rw [← HW.out, ← hP]
  clear hP
  go_loopg [6] L (fun mm kv wi => ∃ i : Nat, i + mm = L ∧ kv = .int .i64 i ∧ ∃ vr nr body, Hid (EL (wNum 2) 2 P w1 x i wi vr nr body))
  case atStart => exact ⟨0, by omega, rfl, (.slice none 0 0), false, [], ⟨VP.refl HP.out.2.1, fun _ => rfl, (fun e => by cases e), Nat.zero_le _⟩⟩
  case round =>
    obtain ⟨i, him, rfl, vr, nr, body, hE⟩ := hrel
    by_cases hlt : i < L
    · obtain ⟨z, hz⟩ : ∃ z : Int, x[i]? = some z := ⟨x[i]'(by rw [← HL.out.1]; exact hlt), List.getElem?_eq_getElem _⟩
      obtain ⟨b, ob, cb, e, hb1, hb2, -, hb3⟩ := HR.out.at HL.out.1 (by omega) (by decide)
      injection e with e1 e2 e3
      subst e1
      obtain ⟨us, hr, hcel⟩ := hb3 i z hz
      have hcN : L ≤ cb := hb1
      have hcm : cb ≤ 9223372036854775807 := hb2
      have hbl : body.length ≤ 69000000000 := by have h1 := hE.out.len; have h2 := HL.out.2; have : i * 2 ≤ 1048576 * 2 := Nat.mul_le_mul_right _ (by omega); omega
      have HG : Hid (0 < gk ∧ i + 1 ≤ L ∧ i + gk = L) := ⟨by omega, hlt, him⟩
      have HKC := HC.out _ _ _ _ hE.out.vp
      obtain ⟨e1, k1⟩ := hr
      subst e1
      obtain ⟨t1, t2⟩ := k1
      have t2' : z < 65536 := t2
      have q0 : w.cell? ⟨b, ob + i, none⟩ = some (.int .u16 z) := by
        have q := hcel 0 _ rfl
        have e : (Ty.num .u16).sz = 1 := rfl
        rw [e, Nat.mul_one, Nat.add_zero] at q
        exact q
      have q0 := cell_kept q0 HKC
      have hwr := wrap_u16 (show InK .u16 z from ⟨t1, t2⟩)
      have hp := vnumber_any P 2 z (by decide) t1 (by omega) vr nr body wr hE.out.vp.wm (by omega)
      have HZ : Hid (x[i]? = some z) := hz
      clear hb3 hcel hz hb1 hb2 e2 e3 hbl him HKC t1 t2 t2'
      go_wp2_with (go_at_call 110; refine (calls_vo hp).mono ?_)
      rintro e wB ⟨rfl, vB, hA⟩
      have HE2 : Hid (EL (wNum 2) 2 P w1 x (i + 1) wB vB nr (body ++ putD 2 z)) := hE.out.step HZ.out (VQ.num hA)
      obtain ⟨nB, hnB⟩ : ∃ nB, nB = nr := ⟨_, rfl⟩
      rw [← hnB] at HE2
      clear hA hp q0 hwr
      go_wp2
      go_roundg (gk - 1)
      case measure => have := HG.out; omega
      case rel => exact ⟨i + 1, by have := HG.out; omega, by go_num, vB, nB, _, HE2.out⟩
    · have hiN : i = L := by omega
      subst hiN
      have hvp := hE.out.vp
      obtain ⟨w6, hw6⟩ : ∃ w6, w6 = wr.alloc (.cells #[.slice none 0 0, .bool false] 115) := ⟨_, rfl⟩
      have hm6 : VM w6 wr.heap.size (.slice none 0 0) false [] := by rw [hw6]; exact VM.begin wr
      have c6 : Chg Non wr w6 := by rw [hw6]; exact (Chg.refl _ _).alloc _
      have hPl := hvp.wm.lt
      have hpa := vpart_any wr.heap.size P 2 2 2 2 rfl rfl (.inr (.inl rfl)) vr nr body (.slice none 0 0) false [] w6 hm6 (hvp.wm.non c6) (by omega) (fun e => by cases e) (fun k e => ⟨fun q => by have := hvp.wm.own.lt k e; omega, fun q => by cases q⟩) (by simp)
      have HF1 : Hid (wPart nr 2 2 body = (wList 2 1 16777216 (wNum 2)) x ∧ Chg Non wr w6 ∧ Chg Non w wr) := ⟨by
        have h1 := hE.out
        rw [HL.out.1] at h1
        exact h1.fin (m := 2) (n := 2) (least := 1) (by have h2 := HL.out; omega) (by decide) (by decide) num_min (by decide) (fun e => by
          have h3 := hE.out.len
          have h4 := HL.out.1
          rw [e] at h4
          rw [show i = 0 from h4] at h3
          rw [Nat.zero_mul] at h3
          exact List.length_eq_zero_iff.1 (by omega)), c6, HC.out _ _ _ _ hvp⟩
      have HW6 : Hid (w6 = wr.alloc (.cells #[.slice none 0 0, .bool false] 115)) := hw6
      clear hvp hw6 hm6 c6 hPl
      go_wp2_with fail
      rw [← HW6.out]
      refine hpa.mono ?_
      rintro e w7 hq
      obtain rfl := hq.ret
      obtain ⟨v2, m2, ys2, hq⟩ := hq.q
      have HQ : Hid (VQ (wList 2 1 16777216 (wNum 2)) 16777217 wr.heap.size (.slice none 0 0) w6 w7 v2 false m2 [] ys2 x) := hq.like2 HF1.out.1
      clear hq hpa
      have hd := vdone_any wr.heap.size v2 m2 _ w7 HQ.out.wp.wm
      cases m2 with
      | true =>
        rw [if_pos rfl] at hd
        go_wp2_with (go_at_call 101; refine hd.mono ?_)
        rintro e w9 ⟨rfl, rfl⟩
        clear hd
        go_wp2
        go_ret
        exact ⟨_, rfl, (vo_none HQ.out HF1.out.2.1).ahead HF1.out.2.2⟩
      | false =>
        rw [if_neg (by decide)] at hd
        go_wp2_with (go_at_call 101; refine hd.mono ?_)
        rintro e w9 ⟨rfl, rfl⟩
        clear hd
        go_wp2
        go_ret
        exact ⟨_, rfl, (vo_some HQ.out HF1.out.2.1).ahead HF1.out.2.2⟩

set_option maxHeartbeats 12800000 in
theorem dputVs_any (ao : Option Addr) (L c : Nat) (x : List Int) (w : World) (h : Rel (.lst (.num .u16)) (Bel w.heap.size) w [.slice ao L c] x) (hn : List.length (α := Int) x ≤ 1048576) : Calls Try.prog 165 #[.slice ao L c, .int .i64 1] w fun e w' => ∃ v, e = .returned v ∧ PO (wList 1 1 16777216 (wNum 2)) w w' v x := by
  obtain ⟨P, hP⟩ : ∃ P, P = w.heap.size := ⟨_, rfl⟩
  obtain ⟨w1, hw1⟩ : ∃ w1, w1 = w.alloc (.cells #[.slice none 0 0, .bool false] 115) := ⟨_, rfl⟩
  have hm : VM w1 P (.slice none 0 0) false [] := by rw [hw1, hP]; exact VM.begin w
  have c1 : Chg Non w w1 := by rw [hw1]; exact (Chg.refl _ _).alloc _
  have hL : L = List.length (α := Int) x := by
    obtain ⟨ao', n', c', e, e2, -⟩ := id h
    injection e with e
    injection e with _ e _
    exact e.trans e2
  have HL : Hid (L = List.length (α := Int) x ∧ L ≤ 1048576) := ⟨hL, by rw [hL]; exact hn⟩
  have HR : Hid (Rel (.lst (.num .u16)) (Bel w.heap.size) w [.slice ao L c] x) := h
  have HP : Hid (P = w.heap.size ∧ VM w1 P (.slice none 0 0) false [] ∧ Chg Non w w1) := ⟨hP, hm, c1⟩
  have HW : Hid (w1 = w.alloc (.cells #[.slice none 0 0, .bool false] 115)) := hw1
  have HC : Hid (∀ wi vr nr body, VP P (.slice none 0 0) w1 wi vr nr body → Chg Non w wi) := fun wi vr nr body k => c1.trans k.chg (fun i hi e => by
    rcases e with e | e
    · omega
    · cases e)
  have hLm : L ≤ 1048576 := HL.out.2
  clear h hn hw1 hm c1 hL
  go_enter Try.func165, Try.ntmps165
  go_wp2_with fail
  rw [← HW.out, ← hP]
  clear hP
  go_loopg [6] L (fun mm kv wi => ∃ i : Nat, i + mm = L ∧ kv = .int .i64 i ∧ ∃ vr nr body, Hid (EL (wNum 2) 2 P w1 x i wi vr nr body))
  case atStart => exact ⟨0, by omega, rfl, (.slice none 0 0), false, [], ⟨VP.refl HP.out.2.1, fun _ => rfl, (fun e => by cases e), Nat.zero_le _⟩⟩
  case round =>
    obtain ⟨i, him, rfl, vr, nr, body, hE⟩ := hrel
    by_cases hlt : i < L
    · obtain ⟨z, hz⟩ : ∃ z : Int, x[i]? = some z := ⟨x[i]'(by rw [← HL.out.1]; exact hlt), List.getElem?_eq_getElem _⟩
      obtain ⟨b, ob, cb, e, hb1, hb2, -, hb3⟩ := HR.out.at HL.out.1 (by omega) (by decide)
      injection e with e1 e2 e3
      subst e1
      obtain ⟨us, hr, hcel⟩ := hb3 i z hz
      have hcN : L ≤ cb := hb1
      have hcm : cb ≤ 9223372036854775807 := hb2
      have hbl : body.length ≤ 69000000000 := by have h1 := hE.out.len; have h2 := HL.out.2; have : i * 2 ≤ 1048576 * 2 := Nat.mul_le_mul_right _ (by omega); omega
      have HG : Hid (0 < gk ∧ i + 1 ≤ L ∧ i + gk = L) := ⟨by omega, hlt, him⟩
      have HKC := HC.out _ _ _ _ hE.out.vp
      obtain ⟨e1, k1⟩ := hr
      subst e1
      obtain ⟨t1, t2⟩ := k1
      have t2' : z < 65536 := t2
      have q0 : w.cell? ⟨b, ob + i, none⟩ = some (.int .u16 z) := by
        have q := hcel 0 _ rfl
        have e : (Ty.num .u16).sz = 1 := rfl
        rw [e, Nat.mul_one, Nat.add_zero] at q
        exact q
      have q0 := cell_kept q0 HKC
      have hwr := wrap_u16 (show InK .u16 z from ⟨t1, t2⟩)
      have hp := vnumber_any P 2 z (by decide) t1 (by omega) vr nr body wr hE.out.vp.wm (by omega)
      have HZ : Hid (x[i]? = some z) := hz
      clear hb3 hcel hz hb1 hb2 e2 e3 hbl him HKC t1 t2 t2'
      go_wp2_with (go_at_call 110; refine (calls_vo hp).mono ?_)
      rintro e wB ⟨rfl, vB, hA⟩
      have HE2 : Hid (EL (wNum 2) 2 P w1 x (i + 1) wB vB nr (body ++ putD 2 z)) := hE.out.step HZ.out (VQ.num hA)
      obtain ⟨nB, hnB⟩ : ∃ nB, nB = nr := ⟨_, rfl⟩
      rw [← hnB] at HE2
      clear hA hp q0 hwr
      go_wp2
      go_roundg (gk - 1)
      case measure => have := HG.out; omega
      case rel => exact ⟨i + 1, by have := HG.out; omega, by go_num, vB, nB, _, HE2.out⟩
    · have hiN : i = L := by omega
      subst hiN
      have hvp := hE.out.vp
      obtain ⟨w6, hw6⟩ : ∃ w6, w6 = wr.alloc (.cells #[.slice none 0 0, .bool false] 115) := ⟨_, rfl⟩
      have hm6 : VM w6 wr.heap.size (.slice none 0 0) false [] := by rw [hw6]; exact VM.begin wr
      have c6 : Chg Non wr w6 := by rw [hw6]; exact (Chg.refl _ _).alloc _
      have hPl := hvp.wm.lt
      have hpa := vpart_any wr.heap.size P 1 2 1 2 rfl rfl (.inl rfl) vr nr body (.slice none 0 0) false [] w6 hm6 (hvp.wm.non c6) (by omega) (fun e => by cases e) (fun k e => ⟨fun q => by have := hvp.wm.own.lt k e; omega, fun q => by cases q⟩) (by simp)
      have HF1 : Hid (wPart nr 1 2 body = (wList 1 1 16777216 (wNum 2)) x ∧ Chg Non wr w6 ∧ Chg Non w wr) := ⟨by
        have h1 := hE.out
        rw [HL.out.1] at h1
        exact h1.fin (m := 2) (n := 1) (least := 1) (by have h2 := HL.out; omega) (by decide) (by decide) num_min (by decide) (fun e => by
          have h3 := hE.out.len
          have h4 := HL.out.1
          rw [e] at h4
          rw [show i = 0 from h4] at h3
          rw [Nat.zero_mul] at h3
          exact List.length_eq_zero_iff.1 (by omega)), c6, HC.out _ _ _ _ hvp⟩
      have HW6 : Hid (w6 = wr.alloc (.cells #[.slice none 0 0, .bool false] 115)) := hw6
      clear hvp hw6 hm6 c6 hPl
      go_wp2_with fail
      rw [← HW6.out]
      refine hpa.mono ?_
      rintro e w7 hq
      obtain rfl := hq.ret
      obtain ⟨v2, m2, ys2, hq⟩ := hq.q
      have HQ : Hid (VQ (wList 1 1 16777216 (wNum 2)) 16777216 wr.heap.size (.slice none 0 0) w6 w7 v2 false m2 [] ys2 x) := hq.like2 HF1.out.1
      clear hq hpa
      have hd := vdone_any wr.heap.size v2 m2 _ w7 HQ.out.wp.wm
      cases m2 with
      | true =>
        rw [if_pos rfl] at hd
        go_wp2_with (go_at_call 101; refine hd.mono ?_)
        rintro e w9 ⟨rfl, rfl⟩
        clear hd
        go_wp2
        go_ret
        exact ⟨_, rfl, (vo_none HQ.out HF1.out.2.1).ahead HF1.out.2.2⟩
      | false =>
        rw [if_neg (by decide)] at hd
        go_wp2_with (go_at_call 101; refine hd.mono ?_)
        rintro e w9 ⟨rfl, rfl⟩
        clear hd
        go_wp2
        go_ret
        exact ⟨_, rfl, (vo_some HQ.out HF1.out.2.1).ahead HF1.out.2.2⟩

set_option maxHeartbeats 800000 in
theorem dputList_any (ao : Option Addr) (L c : Nat) (x : List Int) (w : World) (h : Rel (.lst (.num .u16)) (Bel w.heap.size) w [.slice ao L c] x) (hn : List.length (α := Int) x ≤ 1048576) : Calls Try.prog 78 #[.slice ao L c] w fun e w' => ∃ v, e = .returned v ∧ PO (wList 2 1 16777216 (wNum 2)) w w' v x := by
  have hp := dputNs_any ao L c x w h hn
  clear h hn
  go_enter Try.func78, Try.ntmps78
  go_wp2_with (go_at_call 165; refine hp.mono ?_)
  rintro e w2 ⟨v, rfl, hq⟩
  obtain ⟨zo, zn, zc, rfl⟩ := hq.shape
  have HQ : Hid (PO (wList 2 1 16777216 (wNum 2)) w w2 (.slice zo zn zc) x) := hq
  clear hq hp
  go_wp2
  go_ret
  exact ⟨_, rfl, HQ.out⟩

set_option maxHeartbeats 800000 in
theorem dputVersions_any (ao : Option Addr) (L c : Nat) (x : List Int) (w : World) (h : Rel (.lst (.num .u16)) (Bel w.heap.size) w [.slice ao L c] x) (hn : List.length (α := Int) x ≤ 1048576) : Calls Try.prog 80 #[.slice ao L c] w fun e w' => ∃ v, e = .returned v ∧ PO (wList 1 1 16777216 (wNum 2)) w w' v x := by
  have hp := dputVs_any ao L c x w h hn
  clear h hn
  go_enter Try.func80, Try.ntmps80
  go_wp2_with (go_at_call 165; refine hp.mono ?_)
  rintro e w2 ⟨v, rfl, hq⟩
  obtain ⟨zo, zn, zc, rfl⟩ := hq.shape
  have HQ : Hid (PO (wList 1 1 16777216 (wNum 2)) w w2 (.slice zo zn zc) x) := hq
  clear hq hp
  go_wp2
  go_ret
  exact ⟨_, rfl, HQ.out⟩
end Go.Proofs.Ytdhckndehijemaa

namespace Go.Proofs.Ytdhckndehijemaa
open Go.RowKit
set_option linter.unusedVariables false
set_option maxRecDepth 100000

/-- New memory lies beside a writer. -/
theorem Rel.newV {t : Ty} {r : Nat} {v : Value} {no : Bool} {xs : List Int} {w w' : World} {us : List Value} {a : t.Dat} (h : Rel t (Btw w.heap.size w'.heap.size) w' us a) (hm : VM w r v no xs) : Rel t (Fa r v w') w' us a :=
  h.keep (fun k q => ⟨by have := hm.lt; have := q.1; omega, fun e => by have := hm.own.lt k e; have := q.1; omega, q.2⟩) (fun _ _ _ => rfl)
theorem bytes_min {n : Nat} : ∀ (a : List Int) (b : List Int), wBytes n 1 16777216 a = some b → 1 ≤ b.length := by
  intro a b h
  unfold wBytes wList at h
  by_cases hk : 1 ≤ a.length ∧ a.length ≤ 16777216
  · rw [if_pos hk] at h
    cases hc : conc (wNum 1) a with
    | none =>
      rw [hc] at h
      cases h
    | some y =>
      rw [hc] at h
      have hm := conc_min (m := 1) (fun u v e => by
        unfold wNum at e
        injection e with e
        rw [← e, putD_len]
        exact Nat.le_refl _) a y hc
      dsimp only at h
      split at h
      · injection h with h
        rw [← h, List.length_append]
        omega
      · cases h
  · rw [if_neg hk] at h
    cases h


set_option maxHeartbeats 12800000 in
theorem dputALPN_any (ao : Option Addr) (L c : Nat) (x : List (List Int)) (w : World) (h : Rel (.lst .str) (Bel w.heap.size) w [.slice ao L c] x) (hn : List.length (α := (List Int)) x ≤ 1048576) (HSZ : Hid (∀ a ∈ (show List (List Int) from x), List.length (α := Int) a ≤ 140737488355328)) : Calls Try.prog 82 #[.slice ao L c] w fun e w' => ∃ v, e = .returned v ∧ PO (wTexts) w w' v x := by
  obtain ⟨P, hP⟩ : ∃ P, P = w.heap.size := ⟨_, rfl⟩
  obtain ⟨w1, hw1⟩ : ∃ w1, w1 = w.alloc (.cells #[.slice none 0 0, .bool false] 115) := ⟨_, rfl⟩
  have hm : VM w1 P (.slice none 0 0) false [] := by rw [hw1, hP]; exact VM.begin w
  have c1 : Chg Non w w1 := by rw [hw1]; exact (Chg.refl _ _).alloc _
  have hL : L = List.length (α := (List Int)) x := by
    obtain ⟨ao', n', c', e, e2, -⟩ := id h
    injection e with e
    injection e with _ e _
    exact e.trans e2
  have HL : Hid (L = List.length (α := (List Int)) x ∧ L ≤ 1048576) := ⟨hL, by rw [hL]; exact hn⟩
  have HR : Hid (Rel (.lst .str) (Bel w.heap.size) w [.slice ao L c] x) := h
  have HP : Hid (P = w.heap.size ∧ VM w1 P (.slice none 0 0) false [] ∧ Chg Non w w1) := ⟨hP, hm, c1⟩
  have HW : Hid (w1 = w.alloc (.cells #[.slice none 0 0, .bool false] 115)) := hw1
  have HC : Hid (∀ wi vr nr body, VP P (.slice none 0 0) w1 wi vr nr body → Chg Non w wi) := fun wi vr nr body k => c1.trans k.chg (fun i hi e => by
    rcases e with e | e
    · omega
    · cases e)
  have hLm : L ≤ 1048576 := HL.out.2
  clear h hn hw1 hm c1 hL
  go_enter Try.func82, Try.ntmps82
  go_wp2_with fail
  rw [← HW.out, ← hP]
  clear hP
  go_loopg [4] L (fun mm kv wi => ∃ i : Nat, i + mm = L ∧ kv = .int .i64 i ∧ ∃ vr nr body, Hid (EL (wProt) 256 P w1 x i wi vr nr body))
  case atStart => exact ⟨0, by omega, rfl, (.slice none 0 0), false, [], ⟨VP.refl HP.out.2.1, fun _ => rfl, (fun e => by cases e), Nat.zero_le _⟩⟩
  case round =>
    obtain ⟨i, him, rfl, vr, nr, body, hE⟩ := hrel
    by_cases hlt : i < L
    · obtain ⟨z, hz⟩ : ∃ z : (List Int), x[i]? = some z := ⟨x[i]'(by rw [← HL.out.1]; exact hlt), List.getElem?_eq_getElem _⟩
      obtain ⟨b, ob, cb, e, hb1, hb2, -, hb3⟩ := HR.out.at HL.out.1 (by omega) (by decide)
      injection e with e1 e2 e3
      subst e1
      obtain ⟨us, hr, hcel⟩ := hb3 i z hz
      have hcN : L ≤ cb := hb1
      have hcm : cb ≤ 9223372036854775807 := hb2
      have hbl : body.length ≤ 280000000 := by have h1 := hE.out.len; have h2 := HL.out.2; have : i * 256 ≤ 1048576 * 256 := Nat.mul_le_mul_right _ (by omega); omega
      have HG : Hid (0 < gk ∧ i + 1 ≤ L ∧ i + gk = L) := ⟨by omega, hlt, him⟩
      have HKC := HC.out _ _ _ _ hE.out.vp
      obtain ⟨e1, hby⟩ := hr
      subst e1
      have q0 : w.cell? ⟨b, ob + i, none⟩ = some (.string (strOfNums z)) := by
        have q := hcel 0 _ rfl
        have e : (Ty.str).sz = 1 := rfl
        rw [e, Nat.mul_one, Nat.add_zero] at q
        exact q
      have q0 := cell_kept q0 HKC
      have hzl : z.length ≤ 140737488355328 := HSZ.out z (List.mem_of_getElem? hz)
      have HZ : Hid (x[i]? = some z ∧ Byt z) := ⟨hz, hby⟩
      obtain ⟨S, hS⟩ : ∃ S, S = strOfNums z := ⟨_, rfl⟩
      rw [← hS] at q0
      have hcv := Lib.run_convert_string_bytes (P := Try.prog) wr 9 23 5 S Try.underlying9 Try.underlying23 Try.underlying5
      obtain ⟨w3, hw3⟩ : ∃ w3, w3 = Lib.bytesWorld wr 5 S := ⟨_, rfl⟩
      have c3 : Chg Non wr w3 := by rw [hw3]; exact chg_conv _ _
      have hvm := hE.out.vp.wm
      have hr3 : Rel .byt (Fa P vr w3) w3 [.slice (some ⟨wr.heap.size, 0, none⟩) S.size (grownCap wr S.size 0 5)] z := by
        have := conv_rd wr z hby hzl
        rw [← hS, ← hw3] at this
        exact (this.btw (Nat.le_refl _) (by rw [hw3, Lib.bytesWorld_size]; exact Nat.le_refl _)).newV hvm
      have hp := vlist_any P 1 1 255 1 1 255 rfl rfl rfl (.inl rfl) (by decide) _ z vr nr body w3 (hvm.non c3) hr3 (by omega)
      have C3 : Hid (Chg Non wr w3) := c3
      obtain ⟨cap, hcap⟩ : ∃ cap, cap = grownCap wr S.size 0 5 := ⟨_, rfl⟩
      rw [← hw3] at hcv
      rw [← hcap] at hcv hp
      clear hb3 hcel hby hzl hz hb1 hb2 e2 e3 hbl him HKC hvm hr3 hw3 c3 hcap hS
      go_wp2_with (go_at_call 100; refine hp.mono ?_)
      rintro e wB hq
      obtain rfl := hq.ret
      obtain ⟨vB, nB, ysB, hq⟩ := hq.q
      have HE2 : Hid (EL wProt 256 P w1 x (i + 1) wB vB nB (body ++ ysB)) := hE.out.step HZ.out.1 ((hq.ahead C3.out).like (raw_wbytes HZ.out.2 (by decide) (by decide)))
      clear hq hp q0 hcv
      go_wp2
      go_roundg (gk - 1)
      case measure => have := HG.out; omega
      case rel => exact ⟨i + 1, by have := HG.out; omega, by go_num, vB, nB, _, HE2.out⟩
    · have hiN : i = L := by omega
      subst hiN
      have hvp := hE.out.vp
      obtain ⟨w6, hw6⟩ : ∃ w6, w6 = wr.alloc (.cells #[.slice none 0 0, .bool false] 115) := ⟨_, rfl⟩
      have hm6 : VM w6 wr.heap.size (.slice none 0 0) false [] := by rw [hw6]; exact VM.begin wr
      have c6 : Chg Non wr w6 := by rw [hw6]; exact (Chg.refl _ _).alloc _
      have hPl := hvp.wm.lt
      have hpa := vpart_any wr.heap.size P 2 1 2 1 rfl rfl (.inr (.inl rfl)) vr nr body (.slice none 0 0) false [] w6 hm6 (hvp.wm.non c6) (by omega) (fun e => by cases e) (fun k e => ⟨fun q => by have := hvp.wm.own.lt k e; omega, fun q => by cases q⟩) (by simp)
      have HF1 : Hid (wPart nr 2 1 body = (wTexts) x ∧ Chg Non wr w6 ∧ Chg Non w wr) := ⟨by
        have h1 := hE.out
        rw [HL.out.1] at h1
        exact h1.fin (m := 1) (n := 2) (least := 1) (by have h2 := HL.out; omega) (by decide) (by decide) bytes_min (by decide) (fun e => by
          have h3 := hE.out.len
          have h4 := HL.out.1
          rw [e] at h4
          rw [show i = 0 from h4] at h3
          rw [Nat.zero_mul] at h3
          exact List.length_eq_zero_iff.1 (by omega)), c6, HC.out _ _ _ _ hvp⟩
      have HW6 : Hid (w6 = wr.alloc (.cells #[.slice none 0 0, .bool false] 115)) := hw6
      clear hvp hw6 hm6 c6 hPl
      go_wp2_with fail
      rw [← HW6.out]
      refine hpa.mono ?_
      rintro e w7 hq
      obtain rfl := hq.ret
      obtain ⟨v2, m2, ys2, hq⟩ := hq.q
      have HQ : Hid (VQ (wTexts) 16777217 wr.heap.size (.slice none 0 0) w6 w7 v2 false m2 [] ys2 x) := hq.like2 HF1.out.1
      clear hq hpa
      have hd := vdone_any wr.heap.size v2 m2 _ w7 HQ.out.wp.wm
      cases m2 with
      | true =>
        rw [if_pos rfl] at hd
        go_wp2_with (go_at_call 101; refine hd.mono ?_)
        rintro e w9 ⟨rfl, rfl⟩
        clear hd
        go_wp2
        go_ret
        exact ⟨_, rfl, (vo_none HQ.out HF1.out.2.1).ahead HF1.out.2.2⟩
      | false =>
        rw [if_neg (by decide)] at hd
        go_wp2_with (go_at_call 101; refine hd.mono ?_)
        rintro e w9 ⟨rfl, rfl⟩
        clear hd
        go_wp2
        go_ret
        exact ⟨_, rfl, (vo_some HQ.out HF1.out.2.1).ahead HF1.out.2.2⟩
end Go.Proofs.Ytdhckndehijemaa

namespace Go.Proofs.Ytdhckndehijemaa
open Go.RowKit
set_option linter.unusedVariables false
set_option maxRecDepth 100000

theorem part_name {p : Pw (List Int)} {x : List Int} {nr : Bool} {ys : List Int} (h1 : nr = false → wBytes 2 1 16777216 x = some ys) (h2 : nr = true → wBytes 2 1 16777216 x = none) : wPart nr 2 1 ([0] ++ ys) = wName x := by
  have hs : wHost x = (wBytes 2 1 16777216 x).map ([0] ++ ·) := by
    unfold wHost wSeq wNum
    rw [show putD 1 0 = [0] by decide]
    try (cases wBytes 2 1 16777216 x <;> rfl)
  cases nr with
  | true =>
    have k := h2 rfl
    rw [k] at hs
    have hs' : wHost x = none := hs
    unfold wPart wName wList conc
    rw [if_pos rfl, hs']
    simp
  | false =>
    have k := h1 rfl
    rw [k] at hs
    have hs' : wHost x = some ([0] ++ ys) := hs
    unfold wPart wName wList wRaw
    rw [if_neg (show ¬ (false = true) by decide), if_pos (show 1 ≤ [x].length ∧ [x].length ≤ 1 from ⟨Nat.le_refl _, Nat.le_refl _⟩)]
    have hc : conc wHost [x] = some ([0] ++ ys) := by
      unfold conc
      rw [hs']
      unfold conc
      simp
    rw [hc]
    dsimp only
    by_cases hl : ([0] ++ ys).length < 256 ^ 2
    · rw [if_pos ⟨by simp, by omega, hl⟩, if_pos hl]
    · rw [if_neg (fun e => hl e.2.2), if_neg hl]

set_option maxHeartbeats 6400000 in
theorem dputName_any (S : ByteArray) (x : List Int) (w : World) (hS : S = strOfNums x) (hb : Byt x) (hx : x.length ≤ 140737488355328) : Calls Try.prog 76 #[.string S] w fun e w' => ∃ v, e = .returned v ∧ PO wName w w' v x := by
  obtain ⟨P, hP⟩ : ∃ P, P = w.heap.size + 1 := ⟨_, rfl⟩
  obtain ⟨w1, hw1⟩ : ∃ w1, w1 = (w.alloc (.cells #[.int .u8 0] 5)).alloc (.cells #[.slice (some ⟨w.heap.size, 0, none⟩) 1 1, .bool false] 115) := ⟨_, rfl⟩
  have kc1 : Chg Non w w1 := by rw [hw1]; exact ((Chg.refl _ _).alloc _).alloc _
  have hs1 : w1.heap.size = w.heap.size + 2 := by rw [hw1]; simp
  have hm : VM w1 P (.slice (some ⟨w.heap.size, 0, none⟩) 1 1) false [0] := by rw [hw1, hP]; exact vm_one w 0 (by decide)
  have hcv := Lib.run_convert_string_bytes (P := Try.prog) w1 9 23 5 S Try.underlying9 Try.underlying23 Try.underlying5
  obtain ⟨w2, hw2⟩ : ∃ w2, w2 = Lib.bytesWorld w1 5 S := ⟨_, rfl⟩
  have c2 : Chg Non w1 w2 := by rw [hw2]; exact chg_conv _ _
  have hr : Rel .byt (Fa P (.slice (some ⟨w.heap.size, 0, none⟩) 1 1) w2) w2 [.slice (some ⟨w1.heap.size, 0, none⟩) S.size (grownCap w1 S.size 0 5)] x := by
    have := conv_rd w1 x hb hx
    rw [← hS, ← hw2] at this
    exact (this.btw (Nat.le_refl _) (by rw [hw2, Lib.bytesWorld_size]; exact Nat.le_refl _)).newV hm
  have hp := vlist_any P 2 1 65535 2 1 65535 rfl rfl rfl (.inr (.inl rfl)) (by decide) _ x (.slice (some ⟨w.heap.size, 0, none⟩) 1 1) false [0] w2 (hm.non c2) hr (by simp)
  have HW : Hid (w1 = (w.alloc (.cells #[.int .u8 0] 5)).alloc (.cells #[.slice (some ⟨w.heap.size, 0, none⟩) 1 1, .bool false] 115)) := hw1
  have H0 : Hid (P = w.heap.size + 1 ∧ Chg Non w w1 ∧ Chg Non w1 w2 ∧ Byt x ∧ w1.heap.size = w.heap.size + 2) := ⟨hP, kc1, c2, hb, hs1⟩
  have HP : Hid (P = w.heap.size + 1) := hP
  obtain ⟨cap, hcap⟩ : ∃ cap, cap = grownCap w1 S.size 0 5 := ⟨_, rfl⟩
  rw [← hw2] at hcv
  rw [← hcap] at hcv hp
  clear hw1 hm kc1 hr hb hs1 c2 hw2 hcap hP hS hx
  go_enter Try.func76, Try.ntmps76
  go_wp2_with fail
  rw [← HW.out, ← HP.out, hcv]
  go_wp2_with (go_at_call 100; refine hp.mono ?_)
  rintro e w3 hq
  obtain rfl := hq.ret
  obtain ⟨v3, m3, ys, hq⟩ := hq.q
  have HQ : Hid (VQ (wBytes 2 1 16777216) (2 + 65535) P (.slice (some ⟨w.heap.size, 0, none⟩) 1 1) w2 w3 v3 false m3 [0] ys x) := hq.like (raw_wbytes H0.out.2.2.2.1 (by decide) (by decide))
  clear hq hp hcv
  have hvp := HQ.out.wp
  obtain ⟨w6, hw6⟩ : ∃ w6, w6 = w3.alloc (.cells #[.slice none 0 0, .bool false] 115) := ⟨_, rfl⟩
  have hm6 : VM w6 w3.heap.size (.slice none 0 0) false [] := by rw [hw6]; exact VM.begin w3
  have c6 : Chg Non w3 w6 := by rw [hw6]; exact (Chg.refl _ _).alloc _
  have hPl := hvp.wm.lt
  have hlen := HQ.out.len
  have hpa := vpart_any w3.heap.size P 2 1 2 1 rfl rfl (.inr (.inl rfl)) v3 m3 ([0] ++ ys) (.slice none 0 0) false [] w6 hm6 (hvp.wm.non c6) (by omega) (fun e => by cases e) (fun k e => ⟨fun q => by have := hvp.wm.own.lt k e; omega, fun q => by cases q⟩) (by simp)
  have c13 : Chg Non w w3 := (H0.out.2.1.trans H0.out.2.2.1 (fun i hi e => e)).trans hvp.chg (fun i hi q => by
    have h1 := H0.out.1
    rcases q with q | q
    · omega
    · simp [Value.ownBlock] at q; omega)
  have HF1 : Hid (wPart m3 2 1 ([0] ++ ys) = wName x ∧ Chg Non w3 w6 ∧ Chg Non w w3) := ⟨by
    refine part_name (p := wHost) (fun e => ?_) (fun e => ?_)
    · rcases HQ.out.out rfl with ⟨q1, q2⟩ | ⟨q1, q2⟩
      · rw [q2] at e; cases e
      · first | exact q1 | exact q2
    · rcases HQ.out.out rfl with ⟨q1, q2⟩ | ⟨q1, q2⟩
      · exact q1
      · first | (rw [q1] at e; cases e) | (rw [q2] at e; cases e), c6, c13⟩
  have HW6 : Hid (w6 = w3.alloc (.cells #[.slice none 0 0, .bool false] 115)) := hw6
  clear hvp hw6 hm6 c6 hPl c13 hlen
  go_wp2_with fail
  rw [← HW6.out]
  go_wp2_with (go_at_call 111; refine hpa.mono ?_)
  rintro e w7 hq
  obtain rfl := hq.ret
  obtain ⟨v2, m2, ys2, hq⟩ := hq.q
  have HR : Hid (VQ wName 16777217 w3.heap.size (.slice none 0 0) w6 w7 v2 false m2 [] ys2 x) := hq.like2 HF1.out.1
  clear hq hpa
  have hd := vdone_any w3.heap.size v2 m2 _ w7 HR.out.wp.wm
  cases m2 with
  | true =>
    rw [if_pos rfl] at hd
    go_wp2_with (go_at_call 101; refine hd.mono ?_)
    rintro e w9 ⟨rfl, rfl⟩
    clear hd
    go_wp2
    go_ret
    exact ⟨_, rfl, (vo_none HR.out HF1.out.2.1).ahead HF1.out.2.2⟩
  | false =>
    rw [if_neg (by decide)] at hd
    go_wp2_with (go_at_call 101; refine hd.mono ?_)
    rintro e w9 ⟨rfl, rfl⟩
    clear hd
    go_wp2
    go_ret
    exact ⟨_, rfl, (vo_some HR.out HF1.out.2.1).ahead HF1.out.2.2⟩

end Go.Proofs.Ytdhckndehijemaa
