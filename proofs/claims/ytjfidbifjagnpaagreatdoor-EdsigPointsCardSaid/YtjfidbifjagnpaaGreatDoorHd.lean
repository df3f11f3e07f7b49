/-
The live question: RFC 8032's first public key, reckoned step by step.
-/
import Derived.Test.YtjfidbifjagnpaaGreatDoorPb
import Derived.Test.YtjfidbifjagnpaaGreatDoorSSd
import Derived.Test.YtjfidbifjagnpaaGreatDoorJt
namespace Go.Proofs.YtjfidbifjagnpaaGreatDoor
open Go.RowKit
set_option linter.unusedVariables false
set_option maxRecDepth 100000
def seedE : Nat → Int := Sha.gd Sha.seedL
theorem ls_seed : ls 32 seedE = Sha.seedL := by decide +kernel
theorem hL_seed {i : Nat} (h : i < 64) : hL Sha.seedL i = Sha.gd Sha.seedO i := by
 have e : Sha.sumL 3 Sha.seedL = Sha.seedO := Sha.seed_sum
 rw [sumL_ls] at e
 rw [← e, ls_gd _ h]
def hN : Nat := 36144925721603087658594284515452164870581325872720374094707712194495455132720
theorem ck_congr {e f : Nat → Int} (h : ∀ i, i < 32 → e i = f i) : val 256 32 (ck e) = val 256 32 (ck f) := val_congr fun i hi => by
 unfold ck upd
 rw [h 0 (by omega), h 31 (by omega), h i hi]
theorem sK_seed : (sK seedE).toNat = hN := by
 unfold sK sB
 rw [ls_seed, ck_congr (f := Sha.gd Sha.seedO) (fun i hi => hL_seed (by omega))]
 decide +kernel
theorem MU_seed : MU PB hN = (fz 38815646466658113194383306759739515082307681141926459231621296960732224964046, fz 11903303657706407974989296177215005343713679411332034699907763981919547054807) := runK_B (n := hN) 255 (by decide +kernel) (by decide +kernel)
theorem pK_seed : pK seedE 0 = 215 ∧ pK seedE 1 = 90 ∧ pK seedE 30 = 81 ∧ pK seedE 31 = 26 := by
 unfold pK
 rw [sK_seed, MU_seed]
 decide +kernel
theorem b_seed_op (a : Act) : Tryz.prog.built 22 (#[((0 : Nat), Operand.const (.int .u8 157)), ((1 : Nat), Operand.const (.int .u8 97)), ((2 : Nat), Operand.const (.int .u8 177)), ((3 : Nat), Operand.const (.int .u8 157)), ((4 : Nat), Operand.const (.int .u8 239)), ((5 : Nat), Operand.const (.int .u8 253)), ((6 : Nat), Operand.const (.int .u8 90)), ((7 : Nat), Operand.const (.int .u8 96)), ((8 : Nat), Operand.const (.int .u8 186)), ((9 : Nat), Operand.const (.int .u8 132)), ((10 : Nat), Operand.const (.int .u8 74)), ((11 : Nat), Operand.const (.int .u8 244)), ((12 : Nat), Operand.const (.int .u8 146)), ((13 : Nat), Operand.const (.int .u8 236)), ((14 : Nat), Operand.const (.int .u8 44)), ((15 : Nat), Operand.const (.int .u8 196)), ((16 : Nat), Operand.const (.int .u8 68)), ((17 : Nat), Operand.const (.int .u8 73)), ((18 : Nat), Operand.const (.int .u8 197)), ((19 : Nat), Operand.const (.int .u8 105)), ((20 : Nat), Operand.const (.int .u8 123)), ((21 : Nat), Operand.const (.int .u8 50)), ((22 : Nat), Operand.const (.int .u8 105)), ((23 : Nat), Operand.const (.int .u8 25)), ((24 : Nat), Operand.const (.int .u8 112)), ((25 : Nat), Operand.const (.int .u8 59)), ((26 : Nat), Operand.const (.int .u8 172)), ((27 : Nat), Operand.const (.int .u8 3)), ((28 : Nat), Operand.const (.int .u8 28)), ((29 : Nat), Operand.const (.int .u8 174)), ((30 : Nat), Operand.const (.int .u8 127)), ((31 : Nat), Operand.const (.int .u8 96))].map fun (p : Nat × Operand) => (p.1, a.eval p.2)).toList = some (byt seedE) := by kernel_rfl
set_option maxHeartbeats 8000000 in
theorem head_any (w : World) (ht : Sha.Tabs w) : Calls Tryz.prog 6 #[] w fun r w' => r = .returned (.bool true) ∧ Chg w w' := by
 have HT : Hid (Sha.Tabs w) := ht
 have HK : Hid (pK seedE 0 = 215 ∧ pK seedE 1 = 90 ∧ pK seedE 30 = 81 ∧ pK seedE 31 = 26) := pK_seed
 have HP : Hid (∀ W, Sha.Tabs W → Calls Tryz.prog 7 #[.agg (byt seedE)] W fun r w' => r = .returned (.agg (byt (pK seedE))) ∧ Chg W w') := fun W h => publicE_any seedE W h
 obtain ⟨E0, hE0⟩ : ∃ zz0, zz0 = pK seedE := ⟨_, rfl⟩
 rw [← hE0] at HK HP
 have HL : Hid (∀ a : Act, Tryz.prog.built 22 (#[((0 : Nat), Operand.const (.int .u8 157)), ((1 : Nat), Operand.const (.int .u8 97)), ((2 : Nat), Operand.const (.int .u8 177)), ((3 : Nat), Operand.const (.int .u8 157)), ((4 : Nat), Operand.const (.int .u8 239)), ((5 : Nat), Operand.const (.int .u8 253)), ((6 : Nat), Operand.const (.int .u8 90)), ((7 : Nat), Operand.const (.int .u8 96)), ((8 : Nat), Operand.const (.int .u8 186)), ((9 : Nat), Operand.const (.int .u8 132)), ((10 : Nat), Operand.const (.int .u8 74)), ((11 : Nat), Operand.const (.int .u8 244)), ((12 : Nat), Operand.const (.int .u8 146)), ((13 : Nat), Operand.const (.int .u8 236)), ((14 : Nat), Operand.const (.int .u8 44)), ((15 : Nat), Operand.const (.int .u8 196)), ((16 : Nat), Operand.const (.int .u8 68)), ((17 : Nat), Operand.const (.int .u8 73)), ((18 : Nat), Operand.const (.int .u8 197)), ((19 : Nat), Operand.const (.int .u8 105)), ((20 : Nat), Operand.const (.int .u8 123)), ((21 : Nat), Operand.const (.int .u8 50)), ((22 : Nat), Operand.const (.int .u8 105)), ((23 : Nat), Operand.const (.int .u8 25)), ((24 : Nat), Operand.const (.int .u8 112)), ((25 : Nat), Operand.const (.int .u8 59)), ((26 : Nat), Operand.const (.int .u8 172)), ((27 : Nat), Operand.const (.int .u8 3)), ((28 : Nat), Operand.const (.int .u8 28)), ((29 : Nat), Operand.const (.int .u8 174)), ((30 : Nat), Operand.const (.int .u8 127)), ((31 : Nat), Operand.const (.int .u8 96))].map fun (p : Nat × Operand) => (p.1, a.eval p.2)).toList = some (byt seedE)) := b_seed_op
 obtain ⟨S0, hS0⟩ : ∃ zz0, zz0 = seedE := ⟨_, rfl⟩
 rw [← hS0] at HP HL
 clear hE0 hS0 ht
 go_enter Tryz.func6, Tryz.ntmps6
 go_upto_region 1 with fail
 obtain ⟨w1, hw1⟩ : ∃ w1, w1 = w := ⟨_, rfl⟩
 have Z1 : Hid (Chg w w1) := by rw [hw1]; exact Chg.refl _
 rw [← hw1]
 go_cut [1] from 1 to 3 (fun v1 wc => ∃ b1, v1 = .pointer (some ⟨b1, 0, none⟩) ∧ w1.heap.size ≤ b1 ∧ Ar wc b1 (byt S0) ∧ Chg w1 wc)
 case first =>
  refine regS 2 (fun j v wg => match j with
   | 0 => v = .agg (byt S0)
   | 1 => ∃ b, v = .pointer (some ⟨b, 0, none⟩) ∧ Ar wg b (byt zD) ∧ w1.heap.size ≤ b
   | _ => True) (by kernel_rfl) (by kernel_rfl) ?_ ?_ ?_
  ·intro j v u1 u2 h hc
   match j, h with
   | 0, h => exact h
   | 1, h => (obtain ⟨b, h1, h2, h3⟩ := h; exact ⟨b, h1, h2.chg hc, h3⟩)
   | _ + 2, h => exact trivial
  ·intro i o ac u hi ho hsz hf hg hc
   have hcs : i = 0 ∨ i = 1 := by omega
   rcases hcs with rfl | rfl
   ·injection ho with ho
    subst ho
    refine .inl ⟨wanted_none rfl, ?_⟩
    exact opG_agg _ rfl (HL.out ac) rfl
   ·injection ho with ho
    subst ho
    refine .inl ⟨wanted_none rfl, ?_⟩
    exact opG_val (v := .pointer (some ⟨u.heap.size, 0, none⟩)) (w' := u.alloc (.cells (byt zD) 22)) (by generalize ac.eval = ρ; simp [go_sem, execOp, zero37.1]) ⟨_, rfl, Ar.new _ _ _, hc.size⟩ ((Chg.refl _).alloc _)
  ·intro o u V ho hV hc
   injection ho with ho
   subst ho
   refine ⟨rfl, ?_⟩
   have q3 : V 0 = .agg (byt S0) := hV 0 (by decide)
   obtain ⟨b1, q1, r1, s1⟩ := hV 1 (by decide)
   refine wp_store_mid 22 (.tmp 1) (.tmp 3) rfl b1 0 (byt S0) (Eq.trans (by rfl) q1) (Eq.trans (by rfl) q3) (by rw [byt_size]; exact thereY r1) (szY _) (oneY _) ?_
   rw [show u.setCells b1 0 (byt S0).toList = u.setRow b1 (byt S0) from setRowY r1 _]
   go_wp2_with fail
   go_meet
   exact ⟨b1, q1, s1, r1.row _, hc.setRow s1 _⟩
 obtain ⟨b1, rfl, l1, ha1, hcc⟩ := hcut
 obtain ⟨w2, hw2⟩ : ∃ zz0, zz0 = wc := ⟨_, rfl⟩
 rw [← hw2] at hcc ha1 ⊢
 rw [hw1] at l1
 have O1 : Hid (w.heap.size ≤ b1) := l1
 have Z2 : Hid (Chg w w2 ∧ Ar w2 b1 (byt S0)) := ⟨Z1.out.trans hcc, ha1⟩
 clear hcc ha1 l1 hw2 hw1 Z1
 go_upto_region 2 with fail
 go_cut [2] from 2 to 5 (fun v2 wc => ∃ b2, v2 = .pointer (some ⟨b2, 0, none⟩) ∧ w2.heap.size ≤ b2 ∧ Ar wc b2 (byt E0) ∧ Chg w2 wc)
 case first =>
  refine regS 3 (fun j v wg => match j with
   | 0 => v = .agg (byt S0)
   | 1 => v = .agg (byt E0)
   | 2 => ∃ b, v = .pointer (some ⟨b, 0, none⟩) ∧ Ar wg b (byt zD) ∧ w2.heap.size ≤ b
   | _ => True) (by kernel_rfl) (by kernel_rfl) ?_ ?_ ?_
  ·intro j v u1 u2 h hc
   match j, h with
   | 0, h => exact h
   | 1, h => exact h
   | 2, h => (obtain ⟨b, h1, h2, h3⟩ := h; exact ⟨b, h1, h2.chg hc, h3⟩)
   | _ + 3, h => exact trivial
  ·intro i o ac u hi ho hsz hf hg hc
   have hcs : i = 0 ∨ i = 1 ∨ i = 2 := by omega
   rcases hcs with rfl | rfl | rfl
   ·injection ho with ho
    subst ho
    refine .inl ⟨wanted_none rfl, ?_⟩
    have e1 : ac.eval (.tmp 1) = .pointer (some ⟨b1, 0, none⟩) := hf 1 (by kernel_rfl)
    exact wp_load_mid 22 (.tmp 1) rfl _ _ e1 ((byt S0).toList) _ (rangeAp (Z2.out.2.chg hc)) un37 rfl (infoY _) ⟨_, rfl, rfl, Chg.refl _⟩
   ·injection ho with ho
    subst ho
    refine .inl ⟨wanted_none rfl, ?_⟩
    have e1 : ac.eval (.tmp 4) = .agg (byt S0) := hg 0 (by decide) (by decide)
    refine opG_go 7 Tryz.f7 #[.tmp 4] #[22] rfl Tryz.func7 (by kernel_rfl) (by kernel_rfl) (by simp [e1]) (Calls.mono (HP.out _ (HT.out.chg (toS (Z2.out.1.trans hc)))) ?_)
    rintro r u2 ⟨rfl, hc2⟩
    exact ⟨_, rfl, rfl, hc2⟩
   ·injection ho with ho
    subst ho
    refine .inl ⟨wanted_none rfl, ?_⟩
    exact opG_val (v := .pointer (some ⟨u.heap.size, 0, none⟩)) (w' := u.alloc (.cells (byt zD) 22)) (by generalize ac.eval = ρ; simp [go_sem, execOp, zero37.1]) ⟨_, rfl, Ar.new _ _ _, hc.size⟩ ((Chg.refl _).alloc _)
  ·intro o u V ho hV hc
   injection ho with ho
   subst ho
   refine ⟨rfl, ?_⟩
   have q4 : V 0 = .agg (byt S0) := hV 0 (by decide)
   have q5 : V 1 = .agg (byt E0) := hV 1 (by decide)
   obtain ⟨b2, q2, r2, s2⟩ := hV 2 (by decide)
   refine wp_store_mid 22 (.tmp 2) (.tmp 5) rfl b2 0 (byt E0) (Eq.trans (by rfl) q2) (Eq.trans (by rfl) q5) (by rw [byt_size]; exact thereY r2) (szY _) (oneY _) ?_
   rw [show u.setCells b2 0 (byt E0).toList = u.setRow b2 (byt E0) from setRowY r2 _]
   go_wp2_with fail
   go_meet
   exact ⟨b2, q2, s2, r2.row _, hc.setRow s2 _⟩
 obtain ⟨b2, rfl, l2, ha2, hcc⟩ := hcut
 obtain ⟨w3, hw3⟩ : ∃ zz0, zz0 = wc := ⟨_, rfl⟩
 rw [← hw3] at hcc ha2 ⊢
 clear hw3
 have O2 : Hid (b1 < b2) := Nat.lt_of_lt_of_le (Z2.out.2.lt) l2
 have Z3 : Hid (Chg w w3 ∧ Ar w3 b1 (byt S0) ∧ Ar w3 b2 (byt E0)) := ⟨Z2.out.1.trans hcc, Z2.out.2.chg hcc, ha2⟩
 clear hcc ha2 l2 Z2
 have c0 : w3.cell? ⟨b2, 0, none⟩ = some (.int .u8 215) := by rw [← HK.out.1]; exact (Z3.out.2.2.cell 0).trans (arr_get _ _ _ (by decide))
 have c1 : w3.cell? ⟨b2, 1, none⟩ = some (.int .u8 90) := by rw [← HK.out.2.1]; exact (Z3.out.2.2.cell 1).trans (arr_get _ _ _ (by decide))
 have c30 : w3.cell? ⟨b2, 30, none⟩ = some (.int .u8 81) := by rw [← HK.out.2.2.1]; exact (Z3.out.2.2.cell 30).trans (arr_get _ _ _ (by decide))
 have c31 : w3.cell? ⟨b2, 31, none⟩ = some (.int .u8 26) := by rw [← HK.out.2.2.2]; exact (Z3.out.2.2.cell 31).trans (arr_get _ _ _ (by decide))
 go_wp2_with fail
 go_ret
 exact ⟨rfl, Z3.out.1⟩
end Go.Proofs.YtjfidbifjagnpaaGreatDoor
