/-
  The law AesBlocks, walked.
-/
import Derived.Test.YtpbnejgoppkghaaHd
import Derived.Test.YtpbnejgoppkghaaREn
import Derived.Test.YtpbnejgoppkghaaRNw
namespace Go.Proofs.Ytpbnejgoppkghaa
open Go.RowKit
set_option linter.unusedVariables false

/-- A row of bytes that may be written. -/
def BRow (w : World) (g off n : Nat) : Prop := ∃ cur, Ar w g cur ∧ ∀ k, k < n → ∃ x, cur[off + k]? = some (.int .u8 x)
theorem BRow.lt {w : World} {g off n : Nat} (h : BRow w g off n) : g < w.heap.size := by
  obtain ⟨cur, h1, _⟩ := h
  exact h1.lt
theorem BRow.cell {w : World} {g off n : Nat} (h : BRow w g off n) {k : Nat} (hk : k < n) : (∃ x, w.cell? ⟨g, off + k, none⟩ = some (.int .u8 x)) ∧ w.frozen? ⟨g, off + k, none⟩ = false := by
  obtain ⟨cur, h1, h2⟩ := h
  obtain ⟨x, hx⟩ := h2 k hk
  exact ⟨⟨x, (h1.cell _).trans hx⟩, h1.frozen _⟩
theorem BRow.set {w : World} {g off n : Nat} (h : BRow w g off n) (j : Nat) (y : Int) : BRow (w.setCell ⟨g, j, none⟩ (.int .u8 y)) g off n := by
  obtain ⟨cur, h1, h2⟩ := h
  refine ⟨_, h1.set j (.int .u8 y), fun k hk => ?_⟩
  obtain ⟨x, hx⟩ := h2 k hk
  by_cases e : j = off + k
  · subst e
    have hl : off + k < cur.size := by
      rcases Nat.lt_or_ge (off + k) cur.size with h' | h'
      · exact h'
      · rw [Array.getElem?_eq_none h'] at hx
        cases hx
    exact ⟨y, Array.getElem?_setIfInBounds_self_of_lt hl⟩
  · exact ⟨x, by rw [Array.getElem?_setIfInBounds_ne e]; exact hx⟩
theorem BRow.of_own {w : World} {g off n cap : Nat} {xs : List Int} (h : Ap.Own w g off n cap xs) : BRow w g off n := by
  obtain ⟨cur, hg, hle, ht⟩ := h.blk
  refine ⟨cur, ⟨5, hg⟩, fun k hk => ?_⟩
  have hk' : k < xs.length := by rw [h.len]; exact hk
  refine ⟨xs[k], ?_⟩
  have e : ((cur.toList.drop off).take n)[k]? = (xs.map (Value.int .u8))[k]? := by rw [ht]
  rw [List.getElem?_take, if_pos hk, List.getElem?_drop, List.getElem?_map, List.getElem?_eq_getElem hk'] at e
  simpa using e
theorem BRow.chg {w w' : World} {g off n : Nat} (h : BRow w g off n) (k : Chg w w') : BRow w' g off n := by
  obtain ⟨cur, h1, h2⟩ := h
  exact ⟨cur, h1.chg k, h2⟩

/-- A list of blocks among the arguments. -/
def LsB (w : World) (lo : Option Addr) (n : Nat) (g : Nat → Nat → By) : Prop := n = 0 ∨ ∃ lb lof, lo = some ⟨lb, lof, none⟩ ∧ ∀ i, i < n → ∀ j, j < 16 → w.cell? ⟨lb, lof + i * 16 + j, none⟩ = some (.int .u8 ((g i j).toNat : Int))

theorem op_neq {o : Oper} {a : Act} {w : World} {K : Act → World → Prop} {Q : Exit → Act → World → Prop} (x y : Operand) (ho : o.op = .binOp .neq 32 x y 32) (f f' : Nat → By) (hx : a.eval x = .agg (ba 16 f)) (hy : a.eval y = .agg (ba 16 f')) (he : eqB f f' = true) (hK : K (a.put o.dst (.bool false)) w) : o.wp Try.prog a w K Q := by
  refine op_val1 (v := .bool false) ?_ hK
  revert hx hy
  generalize a.eval = ρ
  intro hx hy
  simp [go_sem, execOp, ho, hx, hy, run_eqB, he]
theorem rangeLs {w0 u : World} {lb lof : Nat} {i : Nat} {g : Nat → Nat → By} (h : ∀ j, j < 16 → w0.cell? ⟨lb, lof + i * 16 + j, none⟩ = some (.int .u8 ((g i j).toNat : Int))) (hl : lb < w0.heap.size) (hc : Chg w0.drew u) : u.rangeAt lb (lof + i * 16) (bl (g i)) := by
  intro j v hv
  have hj : j < 16 := by rw [← bl_len (g i)]; exact (List.getElem?_eq_some_iff.1 hv).1
  rw [bl_get (g i) hj] at hv
  rw [← hv, ← h j hj]
  exact World.cell?_of_block (hc.block lb hl)

set_option maxRecDepth 100000 in
set_option maxHeartbeats 8000000 in
theorem blocks_walk (kb ko cap L nk R n c2 : Nat) (lo : Option Addr) (key : Nat → By) (g : Nat → Nat → By) (w : World) (hv : Bs w kb ko L key) (hL : L = 4 * nk) (hn : nk = 4 ∨ nk = 8) (hR : R = nk + 6) (hcap : L ≤ cap) (hcap' : cap ≤ 9223372036854775807)
    (hl : LsB w lo n g) :
    Calls Try.prog 3 #[.slice (some ⟨kb, ko, none⟩) L cap, .slice lo n c2] w fun r w' => r = .returned (.bool true) ∧ Chg w w' := by
  have HX : Hid (Bs w kb ko L key ∧ L = 4 * nk ∧ (nk = 4 ∨ nk = 8) ∧ R = nk + 6 ∧ L ≤ cap ∧ cap ≤ 9223372036854775807 ∧ LsB w lo n g) := ⟨hv, hL, hn, hR, hcap, hcap', hl⟩
  have hL32 : L ≤ 32 ∧ 16 ≤ L := by omega
  clear hv hL hn hR hcap hcap' hl
  go_enter Try.func3, Try.ntmps3
  go_wp2_with fail
  go_at_call 7
  refine (head_any _).mono ?_
  rintro r w1 ⟨rfl, hc1⟩
  have Z1 : Hid (Chg w w1 ∧ Ap.Rd (w1.alloc (.cells #[] 5)) (.slice (some ⟨kb, ko, none⟩) L cap) (nums L key)) := ⟨hc1, Bs.rd (HX.out.1.chg (hc1.alloc _)) HX.out.2.2.2.2.1 HX.out.2.2.2.2.2.1⟩
  clear hc1
  go_wp2_with (at_builtin; refine Ap.wpList_app _ rfl _ _ rfl (.slice (some ⟨w1.heap.size, 0, none⟩) 0 0) (.slice (some ⟨kb, ko, none⟩) L cap) [] (nums L key) rfl rfl (OwnV.empty w1) Z1.out.2 (by rw [nums_len]; simp; omega) ?_)
  intro v2 w2 o2 cc2 b2
  have k0 : OwnN w1 (w1.alloc (.cells #[] 5)) (.slice (some ⟨w1.heap.size, 0, none⟩) 0 0) [] := ⟨OwnV.empty w1, fun k e => by simp [Value.ownBlock] at e; omega, (Chg.refl w1).alloc _⟩
  have k2 := k0.more o2 cc2 (by first | exact b2 | (rw [World.size_alloc]; exact b2))
  rcases o2 with ⟨_, h⟩ | ⟨ob, oo, m, oc, rfl, hown⟩
  · exfalso
    have := congrArg List.length h
    rw [nums_len] at this
    simp at this
    omega
  obtain ⟨ob', oo', oc', hsh, hb1, hb2, hbs⟩ := Rd.bs hown.rd (by omega)
  injection hsh with s1 s2 s3
  injection s1 with s1
  injection s1 with s11 s12 _
  subst s11 s12 s2 s3
  have Z2 : Hid (Chg w w2 ∧ Bs w2 ob oo m key ∧ m ≤ oc ∧ oc ≤ 9223372036854775807 ∧ BRow w2 ob oo m ∧ w.heap.size ≤ ob) := ⟨Z1.out.1.trans k2.chg, hbs, hb1, hb2, BRow.of_own hown, Nat.le_trans Z1.out.1.size (k2.new ob rfl)⟩
  clear k0 k2 hown hbs hb1 hb2 cc2 b2 Z1
  have HR : Hid (R = 10 ∨ R = 14) := by have := HX.out; show R = 10 ∨ R = 14; omega
  go_wp2_with fail
  go_at_call 8
  refine (new_any ob oo oc m nk R key w2 Z2.out.2.1 HX.out.2.1 HX.out.2.2.1 HX.out.2.2.2.1 Z2.out.2.2.1 Z2.out.2.2.2.1).mono ?_
  rintro r w3 ⟨K1, k1, rfl, hK1, hc3, hA1, hks1⟩
  have Z3 : Hid (Chg w w3 ∧ Chg w2 w3 ∧ Ar w3 K1 (keyC R k1) ∧ ob < K1) := ⟨Z2.out.1.trans hc3, hc3, hA1, Nat.lt_of_lt_of_le Z2.out.2.2.2.2.1.lt hK1⟩
  have HKs1 : Hid (Ks nk (4 * (R + 1)) key k1) := hks1
  clear hK1 hc3 hA1 hks1
  go_wp2_with fail
  go_at_call 9
  refine (refNew_any kb ko cap m nk R key w3 (HX.out.1.chg Z3.out.1) HX.out.2.1 HX.out.2.2.1 HX.out.2.2.2.1 HX.out.2.2.2.2.1 HX.out.2.2.2.2.2.1).mono ?_
  rintro r w4 ⟨K2, k2, rfl, hK2, hc4, hA2, hks2⟩
  have Z4 : Hid (Chg w w4 ∧ Ar w4 K1 (keyC R k1) ∧ Ar w4 K2 (rkeyC R k2) ∧ BRow w4 ob oo m ∧ ob < K1 ∧ ob < K2 ∧ w.heap.size ≤ ob) := by
    have hcc := Z3.out.2.1.trans hc4
    have h1 := Z3.out.2.2.1.lt
    exact ⟨Z3.out.1.trans hc4, Z3.out.2.2.1.chg hc4, hA2, Z2.out.2.2.2.2.1.chg hcc, Z3.out.2.2.2, by have := Z3.out.2.2.2; omega, Z2.out.2.2.2.2.2⟩
  have s1 := Ap.run_str w4 _ _ (Bs.rd (Z2.out.2.1.chg (Z3.out.2.1.trans hc4)) Z2.out.2.2.1 Z2.out.2.2.2.1)
  have s2 := Ap.run_str w4 _ _ (Bs.rd (HX.out.1.chg (Z3.out.1.trans hc4)) HX.out.2.2.2.2.1 HX.out.2.2.2.2.2.1)
  have HE : Hid (∀ b : Nat → By, eqB (enc R k1 b) (enc R k2 b) = true) := fun b => by
    rw [eqB_iff]
    have := HX.out
    exact E16.enc (fun j hj => (HKs1.out.unique (by omega) hks2 (fun _ _ => rfl)) j (by omega)) (E16.refl b)
  clear hK2 hc4 hA2 hks2 Z3 Z2 HKs1
  obtain ⟨S, hS⟩ : ∃ S, S = strOfNums (nums m key) := ⟨_, rfl⟩
  rw [← hS] at s1 s2
  clear hS
  go_wp2_with fail
  clear s1 s2
  go_loopw [11] (fun v wr => ∃ (i : Nat), v = .int .i64 i ∧ i ≤ m ∧ Chg w wr ∧ Ar wr K1 (keyC R k1) ∧ Ar wr K2 (rkeyC R k2) ∧ BRow wr ob oo m) (fun v wr => m - (intOf v).toNat)
  case atStart => exact ⟨0, rfl, by omega, Z4.out.1, Z4.out.2.1, Z4.out.2.2.1, Z4.out.2.2.2.1⟩
  case round =>
    obtain ⟨i, rfl, hi, h1, h2, h3, h4⟩ := hrel
    have Z : Hid (Chg w wr ∧ Ar wr K1 (keyC R k1) ∧ Ar wr K2 (rkeyC R k2) ∧ BRow wr ob oo m) := ⟨h1, h2, h3, h4⟩
    clear h1 h2 h3
    by_cases him : i < m
    · have hd : decide ((i : Int) < m) = true := by simp; omega
      have lim : (i : Int) < m := by omega
      obtain ⟨⟨x, c1⟩, f1⟩ := h4.cell him
      clear h4
      go_wp2_with fail
      go_roundw
      case rel =>
        obtain ⟨z1, z2, z3, z4⟩ := Z.out
        obtain ⟨-, -, -, -, y1, y2, y3⟩ := Z4.out
        exact ⟨i + 1, by go_num, by omega, z1.setCell (by dsimp only; omega) _, z2.other (by dsimp only; omega) _, z3.other (by dsimp only; omega) _, z4.set _ _⟩
      case measure => simp [intOf]; omega
    · have him2 : i = m := by omega
      subst him2
      have hd : decide ((i : Int) < i) = false := by simp
      obtain ⟨wo, hwo⟩ : ∃ wo, wo = wr := ⟨_, rfl⟩
      have Zo : Hid (Chg w wo ∧ Ar wo K1 (keyC R k1) ∧ Ar wo K2 (rkeyC R k2)) := by
        rw [hwo]
        exact ⟨Z.out.1, Z.out.2.1, Z.out.2.2.1⟩
      rw [← hwo]
      clear hwo Z h4 Z4
      go_wp2_with fail
      go_loopw [12] (fun v wr => ∃ (i : Nat), v = .int .i64 i ∧ i ≤ 20 ∧ Chg w wr ∧ Ar wr K1 (keyC R k1) ∧ Ar wr K2 (rkeyC R k2)) (fun v wr => 20 - (intOf v).toNat)
      case atStart => exact ⟨0, rfl, by omega, Zo.out⟩
      case round =>
        clear Zo
        obtain ⟨i, rfl, hi2, h1, h2, h3⟩ := hrel
        have Z : Hid (Chg w wr ∧ Ar wr K1 (keyC R k1) ∧ Ar wr K2 (rkeyC R k2)) := ⟨h1, h2, h3⟩
        clear h1 h2 h3
        by_cases hin : i < n
        · have hd2 : decide ((i : Int) < n) = true := by simp; omega
          by_cases hi20 : i < 20
          · have hd3 : decide ((i : Int) < 20) = true := by simp; omega
            obtain ⟨lb, lof, rfl, hcell⟩ : ∃ lb lof, lo = some ⟨lb, lof, none⟩ ∧ ∀ i, i < n → ∀ j, j < 16 → w.cell? ⟨lb, lof + i * 16 + j, none⟩ = some (.int .u8 ((g i j).toNat : Int)) := by
              rcases HX.out.2.2.2.2.2.2 with h | h
              · omega
              · exact h
            have HGl : Hid (lb < wr.heap.size) := Nat.lt_of_lt_of_le (block_lt_of_cell (hcell i hin 0 (by decide))) Z.out.1.size
            have HG : Hid (∀ j, j < 16 → wr.cell? ⟨lb, lof + i * 16 + j, none⟩ = some (.int .u8 ((g i j).toNat : Int))) := fun j hj => by
              rw [← hcell i hin j hj]
              exact World.cell?_of_block (Z.out.1.block lb (block_lt_of_cell (hcell i hin 0 (by decide))))
            clear hcell
            go_upto_region 14 with fail
            go_cut [86] from 74 to 85 (fun v wc => v = .bool false ∧ Chg wr wc)
            case first =>
              refine wp_region_vals 12 (fun j => match j with
                | 0 => .pointer (some ⟨K1, 0, none⟩)
                | 1 => .slice (some ⟨lb, lof, none⟩) n c2
                | 2 => .int .i64 (i : Int)
                | 3 => .pointer (some ⟨lb, lof + i * 16, none⟩)
                | 4 => .agg (ba 16 (g i))
                | 5 => .agg (ba 16 (enc R k1 (g i)))
                | 6 => .pointer (some ⟨K2, 0, none⟩)
                | 7 => .slice (some ⟨lb, lof, none⟩) n c2
                | 8 => .int .i64 (i : Int)
                | 9 => .pointer (some ⟨lb, lof + i * 16, none⟩)
                | 10 => .agg (ba 16 (g i))
                | _ => .agg (ba 16 (enc R k2 (g i)))) (by kernel_rfl) (by kernel_rfl) (by kernel_rfl) (by kernel_rfl) (by kernel_rfl) (by kernel_rfl) ?_ ?_
              · intro ix o ac u hi ho hf hg hc
                have hcs : ix = 0 ∨ ix = 1 ∨ ix = 2 ∨ ix = 3 ∨ ix = 4 ∨ ix = 5 ∨ ix = 6 ∨ ix = 7 ∨ ix = 8 ∨ ix = 9 ∨ ix = 10 ∨ ix = 11 := by omega
                rcases hcs with rfl | rfl | rfl | rfl | rfl | rfl | rfl | rfl | rfl | rfl | rfl | rfl
                · injection ho with ho
                  subst ho
                  have e1 : ac.eval (.tmp 7) = .pointer (some ⟨K1, 0, none⟩) := hf 7 (by kernel_rfl)
                  exact op_val (by simp [execOp, e1]) (Chg.refl _)
                · injection ho with ho
                  subst ho
                  have e1 : ac.eval (.tmp 1) = .slice (some ⟨lb, lof, none⟩) n c2 := hf 1 (by kernel_rfl)
                  exact op_val (by simp [execOp, e1]) (Chg.refl _)
                · injection ho with ho
                  subst ho
                  have e1 : ac.eval (.tmp 12) = .int .i64 (i : Int) := hf 12 (by kernel_rfl)
                  exact op_val (by simp [execOp, e1]) (Chg.refl _)
                · injection ho with ho
                  subst ho
                  have e1 : ac.eval (.tmp 75) = .slice (some ⟨lb, lof, none⟩) n c2 := hg 1 (by kernel_rfl) (by decide)
                  have e2 : ac.eval (.tmp 76) = .int .i64 (i : Int) := hg 2 (by kernel_rfl) (by decide)
                  exact op_val (by revert e1 e2; generalize ac.eval = ρ; intro e1 e2; simp [go_sem, execOp, e1, e2, hin]) (Chg.refl _)
                · injection ho with ho
                  subst ho
                  have rangeG := rangeLs (lb := lb) (lof := lof) HG.out HGl.out hc
                  have e1 : ac.eval (.tmp 77) = .pointer (some ⟨lb, lof + i * 16, none⟩) := hg 3 (by kernel_rfl) (by decide)
                  exact wp_load_mid 32 (.tmp 77) rfl _ _ e1 (bl (g i)) _ (rangeG) und32 rfl (bl_info _) ⟨rfl, Chg.refl _⟩
                · injection ho with ho
                  subst ho
                  have e1 : ac.eval (.tmp 74) = .pointer (some ⟨K1, 0, none⟩) := hg 0 (by kernel_rfl) (by decide)
                  have e2 : ac.eval (.tmp 78) = .agg (ba 16 (g i)) := hg 4 (by kernel_rfl) (by decide)
                  exact op_go 10 Try.f10 #[.tmp 74, .tmp 78] #[25, 32] rfl Try.func10 (by kernel_rfl) (by kernel_rfl) (by simp [e1, e2]) (encrypt_any K1 R k1 (g i) _ (Ar.chg (w := wr.drew) Z.out.2.1 hc) HR.out)
                · injection ho with ho
                  subst ho
                  have e1 : ac.eval (.tmp 9) = .pointer (some ⟨K2, 0, none⟩) := hf 9 (by kernel_rfl)
                  exact op_val (by simp [execOp, e1]) (Chg.refl _)
                · injection ho with ho
                  subst ho
                  have e1 : ac.eval (.tmp 1) = .slice (some ⟨lb, lof, none⟩) n c2 := hf 1 (by kernel_rfl)
                  exact op_val (by simp [execOp, e1]) (Chg.refl _)
                · injection ho with ho
                  subst ho
                  have e1 : ac.eval (.tmp 12) = .int .i64 (i : Int) := hf 12 (by kernel_rfl)
                  exact op_val (by simp [execOp, e1]) (Chg.refl _)
                · injection ho with ho
                  subst ho
                  have e1 : ac.eval (.tmp 81) = .slice (some ⟨lb, lof, none⟩) n c2 := hg 7 (by kernel_rfl) (by decide)
                  have e2 : ac.eval (.tmp 82) = .int .i64 (i : Int) := hg 8 (by kernel_rfl) (by decide)
                  exact op_val (by revert e1 e2; generalize ac.eval = ρ; intro e1 e2; simp [go_sem, execOp, e1, e2, hin]) (Chg.refl _)
                · injection ho with ho
                  subst ho
                  have rangeG := rangeLs (lb := lb) (lof := lof) HG.out HGl.out hc
                  have e1 : ac.eval (.tmp 83) = .pointer (some ⟨lb, lof + i * 16, none⟩) := hg 9 (by kernel_rfl) (by decide)
                  exact wp_load_mid 32 (.tmp 83) rfl _ _ e1 (bl (g i)) _ (rangeG) und32 rfl (bl_info _) ⟨rfl, Chg.refl _⟩
                · injection ho with ho
                  subst ho
                  have e1 : ac.eval (.tmp 80) = .pointer (some ⟨K2, 0, none⟩) := hg 6 (by kernel_rfl) (by decide)
                  have e2 : ac.eval (.tmp 84) = .agg (ba 16 (g i)) := hg 10 (by kernel_rfl) (by decide)
                  exact op_go 11 Try.f11 #[.tmp 80, .tmp 84] #[29, 32] rfl Try.func11 (by kernel_rfl) (by kernel_rfl) (by simp [e1, e2]) (refEncrypt_any K2 R k2 (g i) _ (Ar.chg (w := wr.drew) Z.out.2.2 hc) HR.out)
              · intro o u ho hc
                injection ho with ho
                subst ho
                refine op_neq (.tmp 79) (.tmp 85) rfl (enc R k1 (g i)) (enc R k2 (g i)) rfl rfl (HE.out _) ?_
                go_wp2_with fail
                go_meet
                exact ⟨rfl, (Chg.refl wr).drew.trans hc⟩
            case rest =>
              obtain ⟨rfl, hcc⟩ := hcut
              have HCC : Hid (Chg wr wc) := hcc
              clear hcc
              go_wp2_with fail
              go_roundw
              case rel => exact ⟨i + 1, by go_num, by omega, Z.out.1.trans HCC.out, Z.out.2.1.chg HCC.out, Z.out.2.2.chg HCC.out⟩
              case measure => simp [intOf]; omega
          · have hd3 : decide ((i : Int) < 20) = false := by simp; omega
            go_wp2
            go_ret
            exact ⟨rfl, Z.out.1⟩
        · have hd2 : decide ((i : Int) < n) = false := by simp; omega
          go_wp2
          go_ret
          exact ⟨rfl, Z.out.1⟩

set_option maxRecDepth 100000 in
set_option maxHeartbeats 8000000 in
theorem blocksBad_walk (ao : Option Addr) (cap L n c2 : Nat) (lo : Option Addr) (key : Nat → By) (w : World) (hv : Ap.Rd w (.slice ao L cap) (nums L key)) (hLm : L ≤ 140737488351232) (h1 : L ≠ 16) (h2 : L ≠ 32) :
    Calls Try.prog 3 #[.slice ao L cap, .slice lo n c2] w fun r w' => r = .returned (.bool true) ∧ Chg w w' := by
  have HX : Hid (Ap.Rd w (.slice ao L cap) (nums L key)) := hv
  have HN : Hid (∀ (a : Option Addr) (c : Nat) (u : World), Calls Try.prog 8 #[.slice a L c] u fun r w' => r = .returned (.tuple #[.pointer none, .int .i64 1]) ∧ w' = u) := fun a c u => newBad_any a L c u h1 h2
  have HM : Hid (∀ (u : World), Calls Try.prog 9 #[.slice ao L cap] u fun r w' => r = .returned (.tuple #[.pointer none, .int .i64 1]) ∧ w' = u) := fun u => refNewBad_any ao L cap u h1 h2
  clear hv h1 h2
  go_enter Try.func3, Try.ntmps3
  go_wp2_with fail
  go_at_call 7
  refine (head_any _).mono ?_
  rintro r w1 ⟨rfl, hc1⟩
  have Z1 : Hid (Chg w w1 ∧ Ap.Rd (w1.alloc (.cells #[] 5)) (.slice ao L cap) (nums L key)) := ⟨hc1, Rd.chg HX.out (hc1.alloc _)⟩
  clear hc1
  go_wp2_with (at_builtin; refine Ap.wpList_app _ rfl _ _ rfl (.slice (some ⟨w1.heap.size, 0, none⟩) 0 0) (.slice ao L cap) [] (nums L key) rfl rfl (OwnV.empty w1) Z1.out.2 (by rw [nums_len]; simp; omega) ?_)
  intro v2 w2 o2 cc2 b2
  have k0 : OwnN w1 (w1.alloc (.cells #[] 5)) (.slice (some ⟨w1.heap.size, 0, none⟩) 0 0) [] := ⟨OwnV.empty w1, fun k e => by simp [Value.ownBlock] at e; omega, (Chg.refl w1).alloc _⟩
  have k2 := k0.more o2 cc2 (by first | exact b2 | (rw [World.size_alloc]; exact b2))
  obtain ⟨oa, m, oc, rfl, hm, -⟩ := o2.rd.shape
  rw [nums_len] at hm
  subst hm
  have Z2 : Hid (Chg w w2 ∧ Ap.OwnV w2 (.slice oa m oc) (nums m key) ∧ ∀ ob oo, oa = some ⟨ob, oo, none⟩ → w.heap.size ≤ ob) := ⟨Z1.out.1.trans k2.chg, o2, fun ob oo e => by subst e; exact Nat.le_trans Z1.out.1.size (k2.new ob rfl)⟩
  clear k0 k2 o2 cc2 b2 Z1
  have s1 := Ap.run_str w2 _ _ Z2.out.2.1.rd
  have s2 := Ap.run_str w2 _ _ (Rd.chg HX.out Z2.out.1)
  obtain ⟨S, hS⟩ : ∃ S, S = strOfNums (nums m key) := ⟨_, rfl⟩
  rw [← hS] at s1 s2
  clear hS
  go_wp2_with (first | (go_at_call 8; refine (HN.out _ _ _).mono ?_; rintro r w5 ⟨rfl, hw5⟩; rw [hw5]; clear hw5 w5) | (go_at_call 9; refine (HM.out _).mono ?_; rintro r w5 ⟨rfl, hw5⟩; rw [hw5]; clear hw5 w5))
  clear s1 s2
  go_loopw [11] (fun v wr => ∃ (i : Nat), v = .int .i64 i ∧ i ≤ m ∧ Chg w wr ∧ (0 < m → ∃ ob oo, oa = some ⟨ob, oo, none⟩ ∧ BRow wr ob oo m)) (fun v wr => m - (intOf v).toNat)
  case atStart =>
    refine ⟨0, rfl, by omega, Z2.out.1, fun h0 => ?_⟩
    rcases Z2.out.2.1 with ⟨e, _⟩ | ⟨ob, oo, m', oc', e, hown⟩
    · injection e with _ e2 _
      omega
    · injection e with e1 e2 e3
      subst e1 e2 e3
      exact ⟨ob, oo, rfl, BRow.of_own hown⟩
  case round =>
    obtain ⟨i, rfl, hi, h1, h4⟩ := hrel
    have Z : Hid (Chg w wr) := h1
    clear h1
    by_cases him : i < m
    · have hd : decide ((i : Int) < m) = true := by simp; omega
      have lim : (i : Int) < m := by omega
      obtain ⟨ob, oo, rfl, hb⟩ := h4 (by omega)
      have HB : Hid (BRow wr ob oo m) := hb
      obtain ⟨⟨x, c1⟩, f1⟩ := hb.cell him
      clear h4 hb
      go_wp2_with fail
      go_roundw
      case rel =>
        have hlo := Z2.out.2.2 ob oo rfl
        exact ⟨i + 1, by go_num, by omega, Z.out.setCell (by dsimp only; omega) _, fun _ => ⟨ob, oo, rfl, HB.out.set _ _⟩⟩
      case measure => simp [intOf]; omega
    · have him2 : i = m := by omega
      subst him2
      have hd : decide ((i : Int) < i) = false := by simp
      clear h4
      go_wp2_with fail
      go_loopw [12] (fun v wr => v = .int .i64 0 ∧ Chg w wr) (fun v wr => 0)
      case atStart => exact ⟨rfl, Z.out⟩
      case round =>
        obtain ⟨rfl, h5⟩ := hrel
        have HZ : Hid (Chg w wr) := h5
        clear h5
        go_wp2
        go_ret
        exact ⟨rfl, HZ.out⟩
end Go.Proofs.Ytpbnejgoppkghaa
