/-
  The document's writer: extensions.
-/
import Derived.Test.YtdhckndehijemaaMj42
namespace Go.Proofs.Ytdhckndehijemaa
open Go.RowKit
set_option linter.unusedVariables false
set_option maxRecDepth 100000


set_option maxHeartbeats 12800000 in
theorem vexts_any (r : Nat) (lv : Value) (l : List Ext) (v : Value) (no : Bool) (xs : List Int) (w : World) (h : VM w r v no xs) (hx : Rel (.lst tExt) (Fa r v w) w [lv] l) (hl : xs.length ≤ 60000000000000) (hn : List.length l ≤ 1048576) :
    Calls Try.prog 112 #[.pointer (some ⟨r, 0, none⟩), lv] w fun e w' => VOq wExts 16777217 r v w w' no xs l e := by
  obtain ⟨N, hN⟩ : ∃ N, N = List.length l := ⟨_, rfl⟩
  obtain ⟨ao, c, rfl⟩ : ∃ ao c, lv = .slice ao N c := by
    obtain ⟨ao, n, c, e, e2, -⟩ := id hx
    injection e with e
    exact ⟨ao, c, by rw [e, hN]; exact congrArg (fun q => Value.slice ao q c) e2⟩
  obtain ⟨w0, hw0⟩ : ∃ w0, w0 = w.alloc (.cells #[.slice none 0 0, .bool false] 115) := ⟨_, rfl⟩
  have hv0 : VM w0 w.heap.size (.slice none 0 0) false [] := by rw [hw0]; exact VM.begin w
  have c0 : Chg Non w w0 := by rw [hw0]; exact (Chg.refl _ _).alloc _
  have HW0 : Hid (w0 = w.alloc (.cells #[.slice none 0 0, .bool false] 115)) := hw0
  obtain ⟨P, hP⟩ : ∃ P, P = w.heap.size := ⟨_, rfl⟩
  rw [← hP] at hv0
  have HP : Hid (P = w.heap.size ∧ Chg Non w w0) := ⟨hP, c0⟩
  have H : Hid (VM w r v no xs ∧ Rel (.lst tExt) (Fa r v w) w [.slice ao N c] l) := ⟨h, hx⟩
  have HN : Hid (N = List.length l ∧ N ≤ 1048576) := ⟨hN, by rw [hN]; exact hn⟩
  have HL : Hid (xs.length ≤ 60000000000000) := hl
  have HV0 : Hid (VM w0 P (.slice none 0 0) false []) := hv0
  have HC : Hid (∀ wi vr nr body, VP P (.slice none 0 0) w0 wi vr nr body → Chg Non w wi) := fun wi vr nr body k => c0.trans k.chg (fun i hi e => by
    rcases e with e | e
    · omega
    · cases e)
  have hNm : N ≤ 1048576 := HN.out.2
  clear h hx hl hn hN hw0 hv0 c0
  go_enter Try.func112, Try.ntmps112
  go_wp2_with fail
  rw [← HW0.out, ← hP]
  clear hP
  go_loopg [5] N (fun m iv wr => ∃ i : Nat, i + m = N ∧ iv = .int .i64 i ∧ ∃ vr nr body, Hid (EX P w0 l i wr vr nr body))
  case atStart => exact ⟨0, by omega, rfl, .slice none 0 0, false, [], ⟨VP.refl HV0.out, fun _ => ⟨rfl, rfl⟩, (fun e => by cases e), Nat.zero_le _⟩⟩
  case round =>
    obtain ⟨i, him, rfl, vr, nr, body, hE⟩ := hrel
    by_cases hlt : i < N
    · obtain ⟨z, hz⟩ : ∃ z : Ext, l[i]? = some z := ⟨l[i]'(by rw [← HN.out.1]; exact hlt), List.getElem?_eq_getElem _⟩
      obtain ⟨b, ob, cb, e, hb1, hb2, -, hb3⟩ := H.out.2.at HN.out.1 (by omega) (by decide)
      injection e with e1 e2 e3
      subst e1
      obtain ⟨us, hr, hcel⟩ := hb3 i z hz
      obtain ⟨ea, el, ec, rfl, hr1, hr2⟩ := hr.ext
      obtain ⟨ti, hti⟩ : ∃ ti : Int, ti = z.1 := ⟨_, rfl⟩
      rw [← hti] at hcel hr1
      have q0 : w.cell? ⟨b, ob + i * 2, none⟩ = some (.int .u16 ti) := hcel 0 _ rfl
      have q1 : w.cell? ⟨b, ob + i * 2 + 1, none⟩ = some (.slice ea el ec) := hcel 1 _ rfl
      have HI : Hid (w.cell? ⟨b, ob + i * 2, none⟩ = some (.int .u16 ti) ∧ w.cell? ⟨b, ob + i * 2 + 1, none⟩ = some (.slice ea el ec) ∧ ti = z.1 ∧ InK .u16 ti ∧ Rel .byt (Fa r v w) w [.slice ea el ec] z.2 ∧ l[i]? = some z) := ⟨q0, q1, hti, hr1, hr2, hz⟩
      have HBK : Hid (∀ (j : Nat) (a : Ext), l[j]? = some a → w.cell? ⟨b, ob + j * 2, none⟩ = some (.int .u16 a.1)) := fun j a hj => by
        obtain ⟨us', h1, h2⟩ := hb3 j a hj
        obtain ⟨_, _, _, rfl, -, -⟩ := h1.ext
        exact h2 0 _ rfl
      have hcN : N ≤ cb := hb1
      have hcm : cb ≤ 9223372036854775807 := hb2
      obtain ⟨G, hG⟩ : ∃ G, G = gk := ⟨_, rfl⟩
      have HG0 : Hid (G = gk ∧ 0 < G ∧ i + G = N) := ⟨hG, by omega, by omega⟩
      clear hb3 hcel hr hr1 hr2 hti hz q0 q1 hb1 hb2 e2 e3 hG him
      go_wp2_with fail
      go_loopg [6] i (fun m kv wi => ∃ k : Nat, k + m = i ∧ kv = .int .i64 k ∧ Hid (VP P (.slice none 0 0) w0 wi vr (nr || ((tys l).take k).contains ti) body))
      case atStart => exact ⟨0, by omega, rfl, by rw [List.take_zero]; show VP P (.slice none 0 0) w0 _ vr (nr || false) body; rw [Bool.or_false]; exact hE.out.vp⟩
      case round =>
        obtain ⟨k, hkm, rfl, hv⟩ := hrel
        by_cases hki : k < i
        · obtain ⟨y, hy⟩ : ∃ y : Ext, l[k]? = some y := ⟨l[k]'(by rw [← HN.out.1]; omega), List.getElem?_eq_getElem _⟩
          obtain ⟨tk, htk⟩ : ∃ tk : Int, tk = y.1 := ⟨_, rfl⟩
          have x1 := cell_kept (HBK.out k y hy) (HC.out _ _ _ _ hv.out)
          rw [← htk] at x1
          have x0 := cell_kept HI.out.1 (HC.out _ _ _ _ hv.out)
          have HSTEP : Hid (((tys l).take (k + 1)).contains ti = (((tys l).take k).contains ti || tk == ti)) := by
            refine take_has ?_
            rw [htk]
            exact tys_at hy
          obtain ⟨od, hod⟩ : ∃ od, od = (nr || ((tys l).take k).contains ti) := ⟨_, rfl⟩
          have hvm : VM wr P vr od body := by rw [hod]; exact hv.out.wm
          obtain ⟨z0, z1, f0, f1⟩ := hvm.facts
          have HVM : Hid (VM wr P vr od body ∧ od = (nr || ((tys l).take k).contains ti)) := ⟨hvm, hod⟩
          have HK : Hid (k + 1 ≤ i ∧ 0 < gk ∧ k + gk = i) := ⟨hki, by omega, hkm⟩
          have hkN : k < N := by omega
          have fin : ∀ bb : Bool, bb = (od || tk == ti) → ∀ n, VP P (.slice none 0 0) w0 ((wr.setCell ⟨P, 1, none⟩ (.bool bb)).drewN n) vr (nr || ((tys l).take (k + 1)).contains ti) body := fun bb e n => by
            have h1 : VP P (.slice none 0 0) w0 ((wr.setCell ⟨P, 1, none⟩ (.bool bb)).drewN n) vr bb body := hv.out.trans ((hvm.flag bb).after ((Chg.refl Non _).drewN n))
            rw [HSTEP.out, ← Bool.or_assoc, ← hod, ← e]
            exact h1
          have FIN : Hid (∀ bb : Bool, bb = (od || tk == ti) → ∀ n, VP P (.slice none 0 0) w0 ((wr.setCell ⟨P, 1, none⟩ (.bool bb)).drewN n) vr (nr || ((tys l).take (k + 1)).contains ti) body) := fin
          clear fin hvm hod hy htk hkm
          cases od with
          | true =>
            go_wp2_with fail
            go_region
            all_goals
              go_wp2
              go_roundg (gk - 1)
              case measure => have := HK.out.2.1; omega
              case rel => exact ⟨k + 1, by have := HK.out.2; omega, by go_num, FIN.out true rfl _⟩
          | false =>
            by_cases hte : tk = ti
            · subst hte
              go_wp2_with fail
              go_region
              all_goals
                go_wp2
                go_roundg (gk - 1)
                case measure => have := HK.out.2.1; omega
                case rel => exact ⟨k + 1, by have := HK.out.2; omega, by go_num, FIN.out true (by simp) _⟩
            · have HTE : Hid (¬ tk = ti) := hte
              go_wp2_with fail
              go_region
              all_goals
                go_wp2
                go_roundg (gk - 1)
                case measure => have := HK.out.2.1; omega
                case rel => exact ⟨k + 1, by have := HK.out.2; omega, by go_num, FIN.out (tk == ti) (by simp) _⟩
        · have hkk : k = i := by omega
          subst hkk
          obtain ⟨N1, hN1⟩ : ∃ N1, N1 = (nr || ((tys l).take k).contains ti) := ⟨_, rfl⟩
          have hvp : VP P (.slice none 0 0) w0 wr vr N1 body := by rw [hN1]; exact hv.out
          have x0 := cell_kept HI.out.1 (HC.out _ _ _ _ hvp)
          have hw64 : IntKind.i64.wrap ti = ti := by
            obtain ⟨k1, k2⟩ := HI.out.2.2.2.1
            have : ti < 65536 := k2
            rw [IntKind.wrap_i64]
            omega
          have hti0 : 0 ≤ ti ∧ ti < 65536 := HI.out.2.2.2.1
          have hbl : body.length ≤ 69000000000000 := by have h1 := hE.out.len; have h2 := HN.out.2; have : k * 65539 ≤ 1048576 * 65539 := Nat.mul_le_mul_right _ (by omega); omega
          have hnu := vnumber_any P 2 ti (by decide) hti0.1 (by omega) vr N1 body wr hvp.wm (by omega)
          have HVP : Hid (VP P (.slice none 0 0) w0 wr vr N1 body ∧ N1 = (nr || ((tys l).take k).contains ti) ∧ body.length ≤ 69000000000000) := ⟨hvp, hN1, hbl⟩
          clear hvp hN1 hbl hti0 hkm
          go_wp2_with (go_at_call 110; refine (calls_vo hnu).mono ?_)
          rintro e wA ⟨rfl, vA, hA⟩
          have pA : VP P (.slice none 0 0) w0 wA vA N1 (body ++ putD 2 ti) := HVP.out.1.trans hA
          have cA := HC.out _ _ _ _ pA
          have y1 := cell_kept HI.out.2.1 cA
          have hrb : Rel .byt (Fa P vA wA) wA [.slice ea el ec] z.2 := (HI.out.2.2.2.2.1).keep (fun q hq => ⟨by have := hq.2.2; have := HP.out.1; omega, fun e => by
            rcases pA.gr with g | ⟨g, g1, g2⟩
            · rw [g] at e; cases e
            · rw [g1] at e; injection e with e; have := hq.2.2; have := HP.out.2.size; omega, Nat.lt_of_lt_of_le hq.2.2 cA.size⟩) (fun q hq hk => cA.block q hk (fun s => s))
          have hli := vlist_any P 2 0 65535 2 0 65535 rfl rfl rfl (.inr (.inl rfl)) (by decide) (.slice ea el ec) z.2 vA N1 (body ++ putD 2 ti) wA hA.wm hrb (by rw [List.length_append, putD_len]; have h1 := hE.out.len; have h2 := HN.out.2; have : k * 65539 ≤ 1048576 * 65539 := Nat.mul_le_mul_right _ (by omega); omega)
          have HA : Hid (VQ (wNum 2) 2 P vr wr wA vA N1 N1 body (putD 2 ti) ti ∧ Rel .byt (Fa P vA wA) wA [.slice ea el ec] z.2) := ⟨VQ.num hA, hrb⟩
          clear hA pA cA hrb hnu x0
          go_wp2_with (go_at_call 100; refine hli.mono ?_)
          rintro e wB hq
          obtain rfl := hq.ret
          obtain ⟨v2, n2, ys, hq⟩ := hq.q
          have hby : Byt (show List Int from z.2) := by
            obtain ⟨_, _, _, k, _⟩ := HA.out.2
            exact k
          have hq2 : VQ (wBytes 2 0 16777216) 65537 P vA wA wB v2 N1 n2 (body ++ putD 2 ti) ys z.2 := hq.like (raw_wbytes hby (by decide) (by decide))
          have hst : VQ wExt 65539 P vr wr wB v2 N1 n2 body (putD 2 ti ++ ys) z := by
            have k1 := HA.out.1
            rw [HI.out.2.2.1] at k1 hq2 ⊢
            exact VQ.seq (f := fun x : Ext => x.1) (g := fun x : Ext => x.2) k1 hq2
          have HE2 : Hid (EX P w0 l (k + 1) wB v2 n2 (body ++ (putD 2 ti ++ ys))) := by
            have h1 := HVP.out.1
            rw [HVP.out.2.1] at h1 hst
            rw [HI.out.2.2.1] at h1 hst ⊢
            exact hE.out.step HI.out.2.2.2.2.2 h1 hst
          clear hq hq2 hst hli hby
          go_wp2
          go_roundg (G - 1)
          case measure => have := HG0.out; omega
          case rel => exact ⟨k + 1, by have := HG0.out; omega, by go_num, v2, n2, _, HE2.out⟩
    · have hiN : i = N := by omega
      subst hiN
      have hvp := hE.out.vp
      have cc := HC.out _ _ _ _ hvp
      have hvm : VM wr r v no xs := H.out.1.non cc
      have hrP : r ≠ P := by have := H.out.1.lt; have := HP.out.1; omega
      have hown : ∀ k, vr.ownBlock = some k → w0.heap.size ≤ k := fun k e => by
        rcases hvp.gr with g | ⟨g, g1, g2⟩
        · rw [g] at e; cases e
        · rw [g1] at e; injection e with e; omega
      have hsz : w.heap.size < w0.heap.size := by have := HV0.out.lt; have := HP.out.1; omega
      have hpa := vpart_any r P 2 0 2 0 rfl rfl (.inr (.inl rfl)) vr nr body v no xs wr hvm hvp.wm hrP (fun e => by have := H.out.1.own.lt P e; have := HP.out.1; omega) (fun k e => ⟨fun q => by have := hown k e; have := H.out.1.lt; omega, fun q => by have h1 := hown k e; have h2 := H.out.1.own.lt k q; omega⟩) (by have := HL.out; omega)
      have HX : Hid (Chg Non w wr ∧ wPart nr 2 0 body = wExts l) := ⟨cc, by
        have h1 := hE.out
        rw [HN.out.1] at h1
        exact h1.fin (by have h2 := HN.out; omega) hvp.wm.byt⟩
      clear hvp cc hvm hrP hown hsz
      go_wp2_with (go_at_call 111; refine hpa.mono ?_)
      rintro e w2 hq
      obtain rfl := hq.ret
      obtain ⟨v2, n2, ys, hq⟩ := hq.q
      have HQ : Hid (VQ wExts 16777217 r v w w2 v2 no n2 xs ys l) := (hq.like2 HX.out.2).ahead HX.out.1
      clear hq hpa
      go_wp2
      go_end0
      exact HQ.out.vo
end Go.Proofs.Ytdhckndehijemaa
