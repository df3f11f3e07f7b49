/-
  DerNests, walked.
-/
import Derived.Test.YtnidfbcninkglaaDoorKc1
import Derived.Test.YtnidfbcninkglaaDoorHd
import Derived.Deep.RegionHeld3
namespace Go.Proofs.YtnidfbcninkglaaDoor
open Go.RowKit
set_option linter.unusedVariables false
set_option maxRecDepth 100000

set_option maxHeartbeats 16000000 in
theorem nests_walk (v1 v2 : Value) (xss : List (List Int)) (tags : List Int) (d : Int) (w : World) (ht : Tab w) (hg : ErrT w) (hv : PtR w v1 xss) (hb : ∀ xs ∈ xss, Byt xs) (hl : xss.length ≤ 140737488355328) (hls : ∀ xs ∈ xss, xs.length ≤ 140737488355328) (h2 : Rd w v2 tags) (hbt : Byt tags) (hlt : tags.length ≤ 140737488355328) (d0 : 0 ≤ d) (d1 : d < 256) :
    Calls Tryd.prog 8 #[v1, v2, .int .u8 d] w fun e w' => e = .returned (.bool true) ∧ Chg Non w w' := by
  have HV : Hid (PtR w v1 xss) := hv
  have H2 : Hid (Rd w v2 tags) := h2
  have HT : Hid (Tab w) := ht
  have HG : Hid (ErrT w) := hg
  have HB : Hid ((∀ xs ∈ xss, Byt xs) ∧ (∀ xs ∈ xss, xs.length ≤ 140737488355328) ∧ Byt tags) := ⟨hb, hls, hbt⟩
  obtain ⟨lo, L, lc, rfl, e1, e2, e3, -⟩ := hv
  obtain ⟨tg, T, tc, rfl, f1, f2, f3⟩ := h2.shape
  have HL : Hid (L = xss.length ∧ T = tags.length) := ⟨e1, f1⟩
  have hL : L ≤ 140737488355328 := by omega
  have hT : T ≤ 140737488355328 := by omega
  unfold maxLen at f3
  clear ht hg hb hl hls h2 hbt hlt e1 f1
  go_enter Tryd.func8, Tryd.ntmps8
  go_wp2_with (go_at_call 9; refine (head_any _ HT.out).mono ?_)
  rintro e w1 ⟨rfl, hc1⟩
  have C1 : Hid (Chg Non w w1) := hc1
  clear hc1
  go_wp2
  go_loopw [8, 9, 10] (fun bd wt i wr => ∃ (k : Nat) (ts : List (Int × List Int)) (vals : List Value), i = .int .i64 k ∧ k ≤ L ∧ Hid (NS w ts bd wt vals wr)) (fun _ _ i _ => L - (intOf i).toNat)
  case atStart => exact ⟨0, [], [], rfl, Nat.zero_le _, NS.start w w1 C1.out⟩
  case round =>
    obtain ⟨k, ts, vals, rfl, hk, hN⟩ := hrel
    obtain ⟨bo, bn, bc, hbd, hbn, -, -⟩ := hN.out.body.rd.shape
    obtain ⟨wo, cw, hwt⟩ := rowk_shape hN.out.row
    subst hbd hwt
    have HBN : Hid (bn = (toksB ts).length) := hbn
    have hbn2 : bn ≤ 20003 := by have := hN.out.tot; omega
    obtain ⟨n, hn⟩ : ∃ n, n = ts.length := ⟨_, rfl⟩
    rw [← hn] at hN ⊢
    have HTN : Hid (n = ts.length) := hn
    clear hbn hn
    by_cases hc : k < L ∧ k < T ∧ bn + (xss[k]?.getD []).length < 20000
    · obtain ⟨h1, h2, h3⟩ := hc
      obtain ⟨xs, hx⟩ : ∃ xs, xss[k]? = some xs := ⟨xss[k]'(by have := HL.out.1; omega), List.getElem?_eq_getElem _⟩
      rw [hx] at h3
      dsimp only [Option.getD] at h3
      obtain ⟨lo', L', lc', e', -, -, -, h4⟩ := HV.out.chg hN.out.chg
      injection e' with e1 e2' e3'
      obtain ⟨lb, lofs, e4, h5⟩ := h4 (by intro e; rw [e] at hx; simp at hx)
      obtain ⟨u, hu, hr⟩ := h5 k xs hx
      obtain rfl := e1.trans e4
      obtain ⟨tb, tofs, tc', e5, -, -, hbs⟩ := (H2.out.chg hN.out.chg).bs (by intro e; have := HL.out.2; rw [e] at this; simp at this; omega)
      injection e5 with e6 e7 e8
      obtain rfl := e6
      obtain ⟨t, htk⟩ : ∃ t, tags[k]? = some t := ⟨tags[k]'(by have := HL.out.2; omega), List.getElem?_eq_getElem _⟩
      have hct := hbs k t htk
      obtain ⟨t0, t1⟩ := HB.out.2.2.get htk
      obtain ⟨uo, um, uc, rfl, hum, -, -⟩ := hr.shape
      have hm2 : um < 20000 := by omega
      have HXS : Hid (um = xs.length ∧ Byt xs) := ⟨hum, HB.out.1 xs (List.mem_of_getElem? hx)⟩
      have dd : decide ((bn : Int) + (um : Int) < 20000) = true := by simp; omega
      have hw : IntKind.i64.wrap ((bn : Int) + (um : Int)) = (bn : Int) + (um : Int) := by rw [IntKind.wrap_i64]; omega
      have HS : Hid (∀ q, Chg Non wr q → q.cell? ⟨tb, tofs + k, none⟩ = some (.int .u8 t) ∧ q.cell? ⟨lb, lofs + k, none⟩ = some (.slice uo um uc)) := fun q hq => by
        have c : ∀ {b i z}, wr.cell? ⟨b, i, none⟩ = some z → q.cell? ⟨b, i, none⟩ = some z := fun {b i z} hi => by rw [← hi]; exact World.cell?_of_block (hq.block b (World.block_lt_of_cell? wr _ hi) (fun x => x))
        exact ⟨c hct, c hu⟩
      have HPU : Hid (∀ q, Chg Non (wr.alloc (.cells #[.slice uo um uc] 22)) q → Calls Tryd.prog 15 #[.int .u8 t, .slice (some ⟨wr.heap.size, 0, none⟩) 1 1] q fun e w' => ∃ v', e = .returned v' ∧ OwnN q w' v' (putL t xs)) := fun q hq => by
        have := put_any t t0 t1 _ _ q ((PtR.one hr).chg hq)
        rw [flat1] at this
        exact this
      have HT3 : Hid ((toksB ts).length + xs.length < 20000) := by show _ < _; have := HBN.out; omega
      clear h4 h5 hr hum hx e1 e2' e3' e4 hbs htk h3 e7 e8
      go_wp2_with fail
      refine wp_region_noPanic ?_
      go_region_held3 (fun q => q.cell? ⟨tb, tofs + k, none⟩ = some (.int .u8 t) ∧ q.cell? ⟨lb, lofs + k, none⟩ = some (.slice uo um uc)) (first | exact HS.out _ (Chg.refl _ _).drew | exact HS.out _ ((Chg.refl _ _).alloc _).drew | exact HS.out _ hw2)
        (first | (go_at_call 15; refine (HPU.out _ (by first | exact (Chg.refl _ _).drew | exact Chg.refl _ _)).mono ?_; rintro e w2 ⟨v', rfl, hO⟩; have hw2 : Chg Non wr w2 := Chg.two ((Chg.refl _ _).alloc _) (Chg.two (by first | exact (Chg.refl _ _).drew | exact Chg.refl _ _) hO.chg); obtain ⟨po, pn, pc, rfl, hpn, -, -⟩ := hO.rd.shape; have HPN : Hid (pn = (putL t xs).length) := hpn; clear hpn))
      refine NoPanic.normal ?_
      by_cases htg : t % 32 = 31
      · have hp0 : pn = 0 := by rw [HPN.out]; unfold putL; rw [if_neg (fun h => h.1 htg)]; rfl
        subst hp0
        have HN2 : Hid (NS w ts (.slice bo bn bc) (.slice wo n cw) vals w2) := hN.out.non hw2
        clear hO hw2 hN HPN htg
        go_wp2
        go_roundw
        case rel => exact ⟨k + 1, ts, vals, by go_num, by omega, HN2⟩
        case measure => simp [intOf]; omega
      · have hpl : putL t xs = encL t xs := by unfold putL; rw [if_pos ⟨htg, by have := HXS.out.1; omega⟩]
        rw [hpl] at hO
        have hp1 : 2 ≤ pn := by rw [HPN.out, hpl, encL_len, lenB_len]; split <;> (try split) <;> omega
        have hp2 : pn ≤ 20003 := by
          rw [HPN.out, hpl, encL_len]
          have h9 : (lenB xs.length).length ≤ 3 := by rw [lenB_len]; split <;> (try split) <;> omega
          have := HXS.out.1
          omega
        have HN2 : Hid (NS w ts (.slice bo bn bc) (.slice wo n cw) vals w2) := hN.out.non hw2
        have HO : Hid (OwnV w2 (.slice po pn pc) (encL t xs) ∧ ∀ g, (Value.slice po pn pc).ownBlock = some g → ¬ (Value.slice bo bn bc).ownBlock = some g) := ⟨hO.own, fun g e q => by
          have a1 := hO.new g e
          have a2 := hN.out.body.lt g q
          simp at a1
          omega⟩
        have HTG : Hid (t % 32 ≠ 31) := htg
        obtain ⟨i0, p1, p2, p3, p4⟩ := info_parts info22
        have HNEW : Hid (∀ j z, ([.slice po pn pc] : List Value)[j]? = some z → (w2.alloc (.cells #[.slice po pn pc] 22)).cell? ((⟨w2.heap.size, 0, none⟩ : Addr).add j) = some z) := fun j z hj => by
          rw [Addr.add_lit, cell_of_row _ w2.heap.size (0 + j) _ 22 (0, 0) (heap_alloc_last w2 _)]
          simpa using hj
        have HONE : Hid (∀ z ∈ ([.slice po pn pc] : List Value), z.oneCell' = true) := by
          intro z hz
          simp at hz
          subst hz
          rfl
        have HRO : Hid ((w2.alloc (.cells #[.slice po pn pc] 22)).ownsRow w.heap.size 22 1 (.slice wo n cw) n vals) := by rw [HTN.out] at *; exact row_keep HN2.out.row (chg_cells ((Chg.refl _ _).alloc _))
        have hn9 : n ≤ 20003 := by rw [HTN.out]; have := toksB_ge ts; have := HN2.out.tot; omega
        have hsw : w.heap.size ≤ (w2.alloc (.cells #[.slice po pn pc] 22)).heap.size := by have := HN2.out.chg.size; simp; omega
        have HX4 : Hid (t % 32 ≠ 31 ∧ 0 ≤ t ∧ t < 256 ∧ Byt xs ∧ xs.length ≤ 20000) := ⟨htg, t0, t1, HXS.out.2, by have := HT3.out; omega⟩
        clear hO hw2 hN htg hpl
        go_wp2_with (at_builtin; refine wpList_append_own_at _ rfl (.tmp 59) (.tmp 61) 51 rfl w.heap.size 22 i0 _ 1 24 Tryd.underlying51 p1 p2 p3 p4 rfl (by decide) _ n vals rfl HRO.out ⟨w2.heap.size, 0, none⟩ 1 1 [.slice po pn pc] rfl rfl HNEW.out HONE.out (by unfold maxLen; omega) (by omega) hsw ?_)
        intro vw' w3 q1 q2 q3 q4
        obtain ⟨wo', cw', rfl⟩ := rowk_shape q1
        have HQ1 : Hid (w3.ownsRow w.heap.size 22 1 (.slice wo' (n + 1) cw') (n + 1) (vals ++ [.slice po pn pc])) := q1
        have HQ2 : Hid ((w2.alloc (.cells #[.slice po pn pc] 22)).grownBy w3 (Value.slice wo n cw).ownBlock) := q2
        have HBO : Hid (OwnV w3 (.slice bo bn bc) (toksB ts)) := HN2.out.body.beside HN2.out.row (by decide) q2
        have HPO : Hid (Rd w3 (.slice po pn pc) (encL t xs)) := (HO.out.1.beside HN2.out.row (by decide) q2).rd
        clear q1 q2 q3 q4
        have hlen : (toksB ts).length + (encL t xs).length ≤ 140737488355328 := by
          have h1 := HN2.out.tot
          obtain ⟨_, _, _, e, e2, _⟩ := HPO.out.shape
          injection e with _ e _
          omega
        have HLN : Hid ((toksB ts).length + (encL t xs).length ≤ 140737488355328) := hlen
        clear hlen
        go_wp2_with (at_builtin; refine wpList_app _ rfl (.tmp 63) (.tmp 64) rfl _ _ (toksB ts) (encL t xs) rfl rfl HBO.out HPO.out HLN.out ?_)
        intro vb' w4 g1 g2 g3
        have HN4 : Hid (NS w (ts ++ [(t, xs)]) vb' (.slice wo' (n + 1) cw') (vals ++ [.slice po pn pc]) w4) := HN2.out.more HX4.out HT3.out HO.out.1 HO.out.2 (by have := HQ1.out; rw [HTN.out] at this ⊢; exact this) HQ2.out g1 g2 g3
        obtain ⟨bo', bn', bc', rfl, -, -, -⟩ := g1.rd.shape
        clear g1 g2 g3
        go_wp2
        go_roundw
        case rel => exact ⟨k + 1, ts ++ [(t, xs)], vals ++ [.slice po pn pc], by go_num, by omega, HN4⟩
        case measure => simp [intOf]; omega
    · go_upto_region 5 with fail
      go_cut [43] from 23 to 43 (fun v43 wc => v43 = .bool false ∧ wc = wr)
      case first =>
        by_cases h1 : k < L
        · by_cases h2 : k < T
          · obtain ⟨xs, hx⟩ : ∃ xs, xss[k]? = some xs := ⟨xss[k]'(by have := HL.out.1; omega), List.getElem?_eq_getElem _⟩
            rw [hx] at hc
            dsimp only [Option.getD] at hc
            obtain ⟨lo', L', lc', e', -, -, -, h4⟩ := HV.out.chg hN.out.chg
            injection e' with e1 e2' e3'
            obtain ⟨lb, lofs, e4, h5⟩ := h4 (by intro e; rw [e] at hx; simp at hx)
            obtain ⟨u, hu, hr⟩ := h5 k xs hx
            obtain rfl := e1.trans e4
            obtain ⟨uo, um, uc, rfl, hum, -, -⟩ := hr.shape
            have hm47 : um ≤ 140737488355328 := by rw [hum]; exact HB.out.2.1 xs (List.mem_of_getElem? hx)
            have dd : decide ((bn : Int) + (um : Int) < 20000) = false := by simp; omega
            have hw : IntKind.i64.wrap ((bn : Int) + (um : Int)) = (bn : Int) + (um : Int) := by rw [IntKind.wrap_i64]; omega
            clear h4 h5 hr hum hx hc e1 e2' e3' e4
            go_wp2
            go_meet
            exact ⟨rfl, rfl⟩
          · clear hc
            go_wp2
            go_meet
            exact ⟨rfl, rfl⟩
        · clear hc
          go_wp2
          go_meet
          exact ⟨rfl, rfl⟩
      case rest =>
        obtain ⟨rfl, rfl⟩ := hcut
        obtain ⟨ND, hND⟩ : ∃ ND : Nat, (ND : Int) = d % 20 := ⟨(d % 20).toNat, by omega⟩
        have hND20 : ND < 20 := by omega
        obtain ⟨bs, hbs⟩ : ∃ bs, bs = toksB ts := ⟨_, rfl⟩
        have HBS : Hid (bs = toksB ts ∧ bs.length ≤ 20003 ∧ Byt bs) := ⟨hbs, by rw [hbs]; exact hN.out.tot, by rw [hbs]; exact toksB_byt ts (fun x hx => by obtain ⟨-, a2, a3, a4, a5⟩ := hN.out.ok x hx; exact ⟨a2, a3, a4, by omega⟩)⟩
        have HB0 : Hid (Rd wc (.slice bo bn bc) bs) := by rw [hbs]; exact hN.out.body.rd
        clear hc hbs
        go_wp2
        rw [← hND]
        clear hND
        go_loopw [12, 14] (fun b i wr => ∃ j : Nat, i = .int .i64 j ∧ j ≤ ND ∧ Hid (Chg Non wc wr ∧ Rd wr b (nest j bs))) (fun _ i _ => ND - (intOf i).toNat)
        case atStart => exact ⟨0, rfl, Nat.zero_le _, Chg.refl _ _, HB0.out⟩
        case round =>
          obtain ⟨j, rfl, hj, hI⟩ := hrel
          obtain ⟨po, pn, pc, hpe, -, -, -⟩ := hI.out.2.shape
          subst hpe
          by_cases hlt : j < ND
          · have hput : Calls Tryd.prog 15 #[.int .u8 48, .slice (some ⟨wr.heap.size, 0, none⟩) 1 1] (wr.alloc (.cells #[.slice po pn pc] 22)) fun e w' => ∃ v', e = .returned v' ∧ OwnN (wr.alloc (.cells #[.slice po pn pc] 22)) w' v' (nest (j + 1) bs) := by
              have := put_any 48 (by omega) (by omega) _ _ _ (PtR.one hI.out.2)
              have hln := nest_len j bs
              have := HBS.out.2.1
              have e : putL 48 [nest j bs].flatten = nest (j + 1) bs := by
                rw [flat1]
                unfold putL
                rw [if_pos ⟨by omega, by omega⟩]
                rfl
              rw [← e]
              assumption
            have HPUT : Hid (Calls Tryd.prog 15 #[.int .u8 48, .slice (some ⟨wr.heap.size, 0, none⟩) 1 1] (wr.alloc (.cells #[.slice po pn pc] 22)) fun e w' => ∃ v', e = .returned v' ∧ OwnN (wr.alloc (.cells #[.slice po pn pc] 22)) w' v' (nest (j + 1) bs)) := hput
            clear hput
            go_wp2_with (go_at_call 15; refine HPUT.out.mono ?_)
            rintro e w2 ⟨v', rfl, hO⟩
            have HR : Hid (Chg Non wc w2 ∧ Rd w2 v' (nest (j + 1) bs)) := ⟨(hI.out.1.alloc _).two hO.chg, hO.rd⟩
            obtain ⟨po', pn', pc', rfl, -, -, -⟩ := hO.rd.shape
            clear hO
            go_wp2
            go_roundw
            case rel => exact ⟨j + 1, by go_num, by omega, HR⟩
            case measure => simp [intOf]; omega
          · have hjN : j = ND := by omega
            subst hjN
            have HI2 : Hid (Chg Non wc wr ∧ Rd wr (.slice po pn pc) (nest j bs)) := hI
            obtain ⟨wy, hwy⟩ : ∃ wy, wy = wr := ⟨_, rfl⟩
            go_wp2
            rw [← hwy] at HI2 ⊢
            clear hwy hI
            go_loopw [12, 15] (fun b i wr => ∃ m : Nat, i = .int .i64 m ∧ m ≤ j ∧ Hid (Chg Non wc wr ∧ Rd wr b (nest (j - m) bs))) (fun _ i _ => j - (intOf i).toNat)
            case atStart => exact ⟨0, rfl, Nat.zero_le _, HI2.out.1, by simpa using HI2.out.2⟩
            case round =>
              obtain ⟨m, rfl, hm, hI⟩ := hrel
              by_cases hlt : m < j
              · obtain ⟨M, hM⟩ : ∃ M, j - m = M + 1 := ⟨j - m - 1, by omega⟩
                rw [hM] at hI
                obtain ⟨zz, hzz⟩ : ∃ zz, zz = nest (M + 1) bs := ⟨_, rfl⟩
                have hze : zz = 48 :: (lenB (nest M bs).length ++ nest M bs) := hzz
                have hln := nest_len M bs
                have hl2 := HBS.out.2.1
                have her := enc_read 48 (nest M bs) (by omega) (by omega)
                have hzb : Byt zz := by rw [hzz]; exact nest_byt (M + 1) bs HBS.out.2.2 (by omega)
                have hzl : zz.length = (encL 48 (nest M bs)).length := by rw [hze]; rfl
                have hz5 := nest_len (M + 1) bs
                rw [← hzz] at hI hz5
                have hnx := next_ok _ zz hzb 0 48 (lenB (nest M bs).length ++ nest M bs) wr hI.out.2 (by rw [hze]; simp) (by rw [hze]; rfl) (by omega) her.1
                rw [her.2.1, her.2.2, ← hzl] at hnx
                unfold itemV at hnx
                obtain ⟨po, pn', pc, hpe, hpn, -, -⟩ := hI.out.2.shape
                subst hpe
                rw [← hpn] at hnx
                have HNX : Hid (Calls Tryd.prog 10 #[.slice po pn' pc, .int .i64 (0 : Nat)] wr fun e w' => ∃ v', e = .returned (.tuple #[.agg #[.int .u8 48, v', .int .i64 (0 : Nat), .int .i64 pn'], .int .i64 0]) ∧ ReadP wr w' v' (nest M bs)) := hnx
                have HCM : Hid (j - (m + 1) = M) := by show _ = _; omega
                clear hnx her hzb hzl hz5 hze hzz hln hl2 hM hpn
                go_wp2_with (go_at_call 10; refine HNX.out.mono ?_)
                rintro e w2 ⟨v', rfl, hO⟩
                obtain ⟨qo, qn, qc, rfl, -, -, -⟩ := hO.own.rd.shape
                have HR : Hid (∀ x, Chg Non wc (w2.alloc x) ∧ Rd (w2.alloc x) (.slice qo qn qc) (nest (j - (m + 1)) bs)) := fun x => ⟨(hI.out.1.two hO.own.chg).alloc _, by rw [HCM.out]; exact hO.own.rd.chg ((Chg.refl _ _).alloc _)⟩
                clear hO
                go_wp2
                go_roundw
                case rel => exact ⟨m + 1, by go_num, by omega, HR.out _⟩
                case measure => simp [intOf]; omega
              · have hmj : m = j := by omega
                obtain ⟨qo, qn, qc, hpe, -, -, -⟩ := hI.out.2.shape
                subst hpe
                have HI3 : Hid (Chg Non wc wr ∧ Rd wr (.slice qo qn qc) bs) := ⟨hI.out.1, by have := hI.out.2; rw [show j - m = 0 by omega] at this; exact this⟩
                have HIT : Hid (Calls Tryd.prog 13 #[.slice qo qn qc] wr fun e w' => ∃ v' q F, e = .returned (.tuple #[v', .int .i64 q, .int .i64 F]) ∧ ItP wr w' bs v' q F) := items_any _ bs HBS.out.2.2 (by have := HBS.out.2.1; omega) wr (HG.out.chg (hN.out.chg.two HI3.out.1)) HI3.out.2
                clear hI HI2
                subst hmj
                go_wp2_with (go_at_call 13; refine HIT.out.mono ?_)
                rintro e w9 ⟨vl, q, F, rfl, hI9⟩
                have C9 : Hid (Chg Non wc w9) := HI3.out.1.two hI9.chg
                rw [HBS.out.1] at hI9
                obtain ⟨l, hl1, hq, hF, hrow, hbod⟩ := nest_items hI9 (fun x hx => by obtain ⟨a1, a2, a3, a4, a5⟩ := hN.out.ok x hx; exact ⟨a1, by omega⟩)
                subst hq hF
                obtain ⟨go, gc, rfl⟩ := rowk_shape hrow
                have HAT : Hid (∀ k, k < n → ∃ (gb wb : Nat) (t : Int) (v1 v2 : Value) (ys : List Int), go = some ⟨gb, 0, none⟩ ∧ wo = some ⟨wb, 0, none⟩ ∧ (n ≤ gc ∧ gc ≤ 9223372036854775807 ∧ n ≤ cw ∧ cw ≤ 9223372036854775807) ∧ (0 ≤ t ∧ t < 256) ∧ putL t ys = encL t ys ∧ w9.cell? ⟨gb, k * 4, none⟩ = some (.int .u8 t) ∧ w9.cell? ⟨gb, k * 4 + 1, none⟩ = some v1 ∧ w9.cell? ⟨wb, k, none⟩ = some v2 ∧ Rd w9 v1 ys ∧ Rd w9 v2 (encL t ys)) := by
                  have h0 := hN.out
                  have h1 := HTN.out
                  subst h1
                  exact fun k hk => nest_at (vw := .slice none 0 0) h0 C9.out hrow hl1 hbod hk
                have CW : Hid (Chg Non w w9) := hN.out.chg.two C9.out
                rw [← HTN.out]
                have hn9 : n ≤ 20003 := by rw [HTN.out]; have := toksB_ge ts; have := hN.out.tot; omega
                clear hI9 hrow hbod hl1 HIT HI3 hN HB0 HBS C9
                go_wp2
                go_loopw [21] (fun i wr => ∃ k : Nat, i = .int .i64 k ∧ k ≤ n ∧ Hid (Chg Non w9 wr)) (fun i _ => n - (intOf i).toNat)
                case atStart => exact ⟨0, rfl, Nat.zero_le _, Chg.refl _ _⟩
                case round =>
                  obtain ⟨kk, rfl, hkk, hC⟩ := hrel
                  by_cases hlt : kk < n
                  · obtain ⟨gb, wb, t, v1, v2, ys, hgo, hwo, ⟨b1, b2, b3, b4⟩, ⟨t0, t1⟩, hpl, c1, c2, c3, r1, r2⟩ := HAT.out kk hlt
                    subst hgo hwo
                    obtain ⟨sx, hsx⟩ : ∃ sx, sx = strOfNums (encL t ys) := ⟨_, rfl⟩
                    obtain ⟨x1, x2, x3, hv1, -, -, -⟩ := r1.shape
                    obtain ⟨y1, y2, y3, hv2, -, -, -⟩ := r2.shape
                    subst hv1 hv2
                    have HS : Hid (∀ q, Chg Non wr q → q.cell? ⟨gb, kk * 4, none⟩ = some (.int .u8 t) ∧ q.cell? ⟨gb, kk * 4 + 1, none⟩ = some (.slice x1 x2 x3) ∧ q.cell? ⟨wb, kk, none⟩ = some (.slice y1 y2 y3) ∧ (convert 22 9 (.slice y1 y2 y3)).run Tryd.prog q = .ok (.string sx) q) := fun q hq => by
                      have hq' := hC.out.two hq
                      have c : ∀ {b i z}, w9.cell? ⟨b, i, none⟩ = some z → q.cell? ⟨b, i, none⟩ = some z := fun {b i z} hi => by rw [← hi]; exact World.cell?_of_block (hq'.block b (World.block_lt_of_cell? w9 _ hi) (fun x => x))
                      exact ⟨c c1, c c2, c c3, by rw [hsx]; exact run_str q _ _ (r2.chg hq')⟩
                    have HPU : Hid (∀ q, Chg Non (wr.alloc (.cells #[.slice x1 x2 x3] 22)) q → Calls Tryd.prog 15 #[.int .u8 t, .slice (some ⟨wr.heap.size, 0, none⟩) 1 1] q fun e w' => ∃ ao n c, e = .returned (.slice ao n c) ∧ (convert 22 9 (.slice ao n c)).run Tryd.prog w' = .ok (.string sx) w' ∧ Chg Non q w') := fun q hq => by
                      have h := put_any t t0 t1 _ _ q ((PtR.one (r1.chg hC.out)).chg hq)
                      rw [flat1, hpl] at h
                      refine h.mono ?_
                      rintro e w' ⟨v', rfl, hO⟩
                      obtain ⟨ao, n, c, rfl, -, -, -⟩ := hO.rd.shape
                      exact ⟨_, _, _, rfl, by rw [hsx]; exact run_str w' _ _ hO.rd, hO.chg⟩
                    clear c1 c2 c3 r1 r2 hsx hpl HAT
                    go_upto_region 30 with fail
                    go_cut [151] from 133 to 151 (fun v151 wc => v151 = .bool false ∧ Hid (Chg Non wr wc))
                    case first =>
                      refine wp_region_noPanic ?_
                      go_region_held (fun q => q.cell? ⟨gb, kk * 4, none⟩ = some (.int .u8 t) ∧ q.cell? ⟨gb, kk * 4 + 1, none⟩ = some (.slice x1 x2 x3) ∧ q.cell? ⟨wb, kk, none⟩ = some (.slice y1 y2 y3) ∧ (convert 22 9 (.slice y1 y2 y3)).run Tryd.prog q = .ok (.string sx) q) (first | exact HS.out _ (Chg.refl _ _).drew | exact HS.out _ ((Chg.refl _ _).alloc _).drew | exact HS.out _ hw2)
                        (first | (go_at_call 15; refine (HPU.out _ (by first | exact (Chg.refl _ _).drew | exact Chg.refl _ _)).mono ?_; rintro e w2 ⟨zo, zn, zc, rfl, hcv, hO⟩; have hw2 : Chg Non wr w2 := Chg.two ((Chg.refl _ _).alloc _) (Chg.two (by first | exact (Chg.refl _ _).drew | exact Chg.refl _ _) hO)))
                      refine NoPanic.normal ?_
                      go_wp2_with fail
                      go_meet
                      exact ⟨by simp, hw2⟩
                    case rest =>
                      obtain ⟨rfl, hwc⟩ := hcut
                      go_wp2
                      go_roundw
                      case rel => exact ⟨kk + 1, by go_num, by omega, hC.out.two hwc.out⟩
                      case measure => simp [intOf]; omega
                  · have HE : Hid (Chg Non w wr) := CW.out.two hC.out
                    go_wp2
                    go_ret
                    exact ⟨rfl, HE.out⟩
end Go.Proofs.YtnidfbcninkglaaDoor
