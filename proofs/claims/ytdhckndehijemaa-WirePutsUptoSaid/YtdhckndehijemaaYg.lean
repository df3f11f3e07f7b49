/-
  WirePuts, walked.
-/
import Derived.Test.YtdhckndehijemaaPk06
import Derived.Test.YtdhckndehijemaaMj38
import Derived.Deep.CutBlock
import Derived.Deep.CutRange
import Derived.Deep.RegionHeld3
namespace Go.Proofs.Ytdhckndehijemaa
open Go.RowKit
set_option linter.unusedVariables false
set_option maxRecDepth 100000

abbrev tDatW : Ty := .pair .str (.pair (.lst (.num .u16)) (.pair (.lst .str) (.pair .byt (.pair (.lst tExt) (.pair (.lst tPSK) (.pair (.lst tExt) (.num .u16)))))))

theorem wpAnyH_imp {P : Program} {ops : Array Oper} {Q : Exit → Act → World → Prop} {md : Region.Mode} {S S' : World → Prop} (hi : ∀ w, S' w → S w) : ∀ (fuel : Nat) (listed : Array Bool) (a : Act) (w : World), wpAnyH P md ops Q S' fuel listed a w → wpAnyH P md ops Q S fuel listed a w
  | 0, _, _, _, h => h
  | fuel + 1, _, _, _, h => ⟨h.1, fun i hr => wpOp_mono (fun a' w' h' => ⟨hi _ h'.1, wpAnyH_imp hi fuel _ a' w' h'.2⟩) (h.2 i hr)⟩

/-- What a put answers, as a text. -/
structure PC (S : ByteArray) (u w' : World) (e : Ending) : Prop where
  out : ∃ zo zn zc, e = .returned (.slice zo zn zc) ∧ (∀ q, Chg Non w' q → (convert 23 9 (.slice zo zn zc)).run Try.prog q = .ok (.string S) q) ∧ Chg Non u w'
theorem PO.pc {α : Type} {p : Pw α} {f : Nat} {ar : Array Value} {u : World} {x : α} {S : ByteArray} (hS : S = strOfNums ((p x).getD [])) (h : Calls Try.prog f ar u fun e w' => ∃ v, e = .returned v ∧ PO p u w' v x) : Calls Try.prog f ar u fun e w' => PC S u w' e := by
  refine h.mono ?_
  rintro e w' ⟨v, rfl, ho⟩
  obtain ⟨zo, zn, zc, rfl⟩ := ho.shape
  exact ⟨zo, zn, zc, rfl, fun q hq => by rw [hS]; exact run_str q _ _ (ho.own.chg hq).rd, ho.chg⟩


set_option maxHeartbeats 12800000 in
theorem puts_law (hS : ByteArray) (a1 : Option Addr) (l1 c1 : Nat) (a2 : Option Addr) (l2 c2 : Nat) (a3 : Option Addr) (l3 c3 : Nat) (a4 : Option Addr) (l4 c4 : Nat) (a5 : Option Addr) (l5 c5 : Nat) (a6 : Option Addr) (l6 c6 : Nat) (n : Int) (d : tDatW.Dat) (w : World) (h : Rel tDatW (Bel w.heap.size) w [.string hS, .slice a1 l1 c1, .slice a2 l2 c2, .slice a3 l3 c3, .slice a4 l4 c4, .slice a5 l5 c5, .slice a6 l6 c6, .int .u16 n] d)
    (b0 : List.length (α := Int) d.1 ≤ 140737488355328) (b1 : List.length (α := Int) d.2.1 ≤ 1048576) (b2 : List.length (α := List Int) d.2.2.1 ≤ 1048576) (b3 : ∀ a ∈ (show List (List Int) from d.2.2.1), List.length (α := Int) a ≤ 140737488355328)
    (b4 : List.length (α := Ext) d.2.2.2.2.1 ≤ 1048576) (b5 : List.length (α := PSKW) d.2.2.2.2.2.1 ≤ 1048576) (b6 : ∀ a ∈ (show List Ext from d.2.2.2.2.2.2.1), List.length (α := Int) a.2 ≤ 140737488355328) :
    Calls Try.prog 7 #[.agg #[.string hS, .slice a1 l1 c1, .slice a2 l2 c2, .slice a3 l3 c3, .slice a4 l4 c4, .slice a5 l5 c5, .slice a6 l6 c6, .int .u16 n]] w fun e w' => e = .returned (.bool true) ∧ Chg Non w w' := by
  obtain ⟨W0, hW⟩ : ∃ W0, W0 = w.alloc (.cells #[.string hS, .slice a1 l1 c1, .slice a2 l2 c2, .slice a3 l3 c3, .slice a4 l4 c4, .slice a5 l5 c5, .slice a6 l6 c6, .int .u16 n] 98) := ⟨_, rfl⟩
  have cW : Chg Non w W0 := by rw [hW]; exact (Chg.refl Non w).alloc _
  have HBX : Hid (∀ u, Chg Non W0 u → u.heap[w.heap.size]? = some (.cells #[.string hS, .slice a1 l1 c1, .slice a2 l2 c2, .slice a3 l3 c3, .slice a4 l4 c4, .slice a5 l5 c5, .slice a6 l6 c6, .int .u16 n] 98)) := fun u hu => by
    have k0 : W0.heap[w.heap.size]? = some (.cells #[.string hS, .slice a1 l1 c1, .slice a2 l2 c2, .slice a3 l3 c3, .slice a4 l4 c4, .slice a5 l5 c5, .slice a6 l6 c6, .int .u16 n] 98) := by rw [hW]; exact heap_alloc_last w _
    rw [hu.block _ (lt_somW k0) (fun s => s)]; exact k0
  have HSC : Hid (∀ u, Chg Non W0 u → u.cell? ⟨w.heap.size, 0, none⟩ = some (.string hS) ∧ u.cell? ⟨w.heap.size, 1, none⟩ = some (.slice a1 l1 c1) ∧ u.cell? ⟨w.heap.size, 2, none⟩ = some (.slice a2 l2 c2) ∧ u.cell? ⟨w.heap.size, 3, none⟩ = some (.slice a3 l3 c3) ∧ u.cell? ⟨w.heap.size, 4, none⟩ = some (.slice a4 l4 c4) ∧ u.cell? ⟨w.heap.size, 5, none⟩ = some (.slice a5 l5 c5) ∧ u.cell? ⟨w.heap.size, 6, none⟩ = some (.slice a6 l6 c6) ∧ u.cell? ⟨w.heap.size, 7, none⟩ = some (.int .u16 n)) := fun u hu => ⟨cell_at 0 (HBX.out u hu) rfl, cell_at 1 (HBX.out u hu) rfl, cell_at 2 (HBX.out u hu) rfl, cell_at 3 (HBX.out u hu) rfl, cell_at 4 (HBX.out u hu) rfl, cell_at 5 (HBX.out u hu) rfl, cell_at 6 (HBX.out u hu) rfl, cell_at 7 (HBX.out u hu) rfl⟩
  have CW : Hid (Chg Non w W0) := cW
  have HW0 : Hid (W0 = w.alloc (.cells #[.string hS, .slice a1 l1 c1, .slice a2 l2 c2, .slice a3 l3 c3, .slice a4 l4 c4, .slice a5 l5 c5, .slice a6 l6 c6, .int .u16 n] 98)) := hW
  obtain ⟨g0, h0⟩ := Rel.split (us1 := [.string hS]) (us2 := [.slice a1 l1 c1, .slice a2 l2 c2, .slice a3 l3 c3, .slice a4 l4 c4, .slice a5 l5 c5, .slice a6 l6 c6, .int .u16 n]) h rfl
  obtain ⟨g1, h1⟩ := Rel.split (us1 := [.slice a1 l1 c1]) (us2 := [.slice a2 l2 c2, .slice a3 l3 c3, .slice a4 l4 c4, .slice a5 l5 c5, .slice a6 l6 c6, .int .u16 n]) h0 rfl
  obtain ⟨g2, h2⟩ := Rel.split (us1 := [.slice a2 l2 c2]) (us2 := [.slice a3 l3 c3, .slice a4 l4 c4, .slice a5 l5 c5, .slice a6 l6 c6, .int .u16 n]) h1 rfl
  obtain ⟨g3, h3⟩ := Rel.split (us1 := [.slice a3 l3 c3]) (us2 := [.slice a4 l4 c4, .slice a5 l5 c5, .slice a6 l6 c6, .int .u16 n]) h2 rfl
  obtain ⟨g4, h4⟩ := Rel.split (us1 := [.slice a4 l4 c4]) (us2 := [.slice a5 l5 c5, .slice a6 l6 c6, .int .u16 n]) h3 rfl
  obtain ⟨g5, h5⟩ := Rel.split (us1 := [.slice a5 l5 c5]) (us2 := [.slice a6 l6 c6, .int .u16 n]) h4 rfl
  obtain ⟨g6, h6⟩ := Rel.split (us1 := [.slice a6 l6 c6]) (us2 := [.int .u16 n]) h5 rfl
  have g7 := h6
  have R0 : Hid (∀ u, Chg Non W0 u → Rel (.str) (Bel u.heap.size) u [.string hS] (d.1)) := fun u hu => (g0.oldN (cW.two hu)).bel2 (cW.two hu).size
  have R1 : Hid (∀ u, Chg Non W0 u → Rel (.lst (.num .u16)) (Bel u.heap.size) u [.slice a1 l1 c1] (d.2.1)) := fun u hu => (g1.oldN (cW.two hu)).bel2 (cW.two hu).size
  have R2 : Hid (∀ u, Chg Non W0 u → Rel (.lst .str) (Bel u.heap.size) u [.slice a2 l2 c2] (d.2.2.1)) := fun u hu => (g2.oldN (cW.two hu)).bel2 (cW.two hu).size
  have R3 : Hid (∀ u, Chg Non W0 u → Rel (.byt) (Bel u.heap.size) u [.slice a3 l3 c3] (d.2.2.2.1)) := fun u hu => (g3.oldN (cW.two hu)).bel2 (cW.two hu).size
  have R4 : Hid (∀ u, Chg Non W0 u → Rel (.lst tExt) (Bel u.heap.size) u [.slice a4 l4 c4] (d.2.2.2.2.1)) := fun u hu => (g4.oldN (cW.two hu)).bel2 (cW.two hu).size
  have R5 : Hid (∀ u, Chg Non W0 u → Rel (.lst tPSK) (Bel u.heap.size) u [.slice a5 l5 c5] (d.2.2.2.2.2.1)) := fun u hu => (g5.oldN (cW.two hu)).bel2 (cW.two hu).size
  have R6 : Hid (∀ u, Chg Non W0 u → Rel (.lst tExt) (Bel u.heap.size) u [.slice a6 l6 c6] (d.2.2.2.2.2.2.1)) := fun u hu => (g6.oldN (cW.two hu)).bel2 (cW.two hu).size
  have R7 : Hid (∀ u, Chg Non W0 u → Rel (.num .u16) (Bel u.heap.size) u [.int .u16 n] (d.2.2.2.2.2.2.2)) := fun u hu => (g7.oldN (cW.two hu)).bel2 (cW.two hu).size
  have HB2 : Hid (∀ a ∈ (show List (List Int) from d.2.2.1), List.length (α := Int) a ≤ 140737488355328) := b3
  have HB6 : Hid (∀ a ∈ (show List Ext from d.2.2.2.2.2.2.1), List.length (α := Int) a.2 ≤ 140737488355328) := b6
  have HBN : Hid (List.length (α := Int) d.1 ≤ 140737488355328 ∧ List.length (α := Int) d.2.1 ≤ 1048576 ∧ List.length (α := List Int) d.2.2.1 ≤ 1048576 ∧ List.length (α := Ext) d.2.2.2.2.1 ≤ 1048576 ∧ List.length (α := PSKW) d.2.2.2.2.2.1 ≤ 1048576) := ⟨b0, b1, b2, b4, b5⟩
  have hstr : hS = strOfNums d.1 ∧ Byt d.1 := by
    obtain ⟨e1, e2⟩ := g0
    injection e1 with e1
    injection e1 with e1
    exact ⟨e1, e2⟩
  have HST : Hid (hS = strOfNums d.1 ∧ Byt d.1) := hstr
  have hnum : n = d.2.2.2.2.2.2.2 ∧ InK .u16 n := by
    obtain ⟨e1, e2⟩ := g7
    injection e1 with e1
    injection e1 with _ e1
    exact ⟨e1, by rw [e1]; exact e2⟩
  have HNU : Hid (n = d.2.2.2.2.2.2.2 ∧ InK .u16 n) := hnum
  clear h b0 b1 b2 b3 b4 b5 b6 hW cW hstr hnum g0 g1 g2 g3 g4 g5 g6 g7 h0 h1 h2 h3 h4 h5 h6
  obtain ⟨T0, hT0⟩ : ∃ T, T = strOfNums (((wName) (d.1)).getD []) := ⟨_, rfl⟩
  obtain ⟨T1, hT1⟩ : ∃ T, T = strOfNums (((wList 2 1 16777216 (wNum 2)) (d.2.1)).getD []) := ⟨_, rfl⟩
  obtain ⟨T2, hT2⟩ : ∃ T, T = strOfNums (((wList 1 1 16777216 (wNum 2)) (d.2.1)).getD []) := ⟨_, rfl⟩
  obtain ⟨T3, hT3⟩ : ∃ T, T = strOfNums (((wTexts) (d.2.2.1)).getD []) := ⟨_, rfl⟩
  obtain ⟨T4, hT4⟩ : ∃ T, T = strOfNums (((wBytes 1 1 16777216) (d.2.2.2.1)).getD []) := ⟨_, rfl⟩
  obtain ⟨T5, hT5⟩ : ∃ T, T = strOfNums (((wShares) (d.2.2.2.2.1)).getD []) := ⟨_, rfl⟩
  obtain ⟨T6, hT6⟩ : ∃ T, T = strOfNums (((wPSKs) (d.2.2.2.2.2.1)).getD []) := ⟨_, rfl⟩
  obtain ⟨T7, hT7⟩ : ∃ T, T = strOfNums (((wBytes 2 1 16777216) (d.2.2.2.1)).getD []) := ⟨_, rfl⟩
  obtain ⟨T8, hT8⟩ : ∃ T, T = strOfNums (((wStap) (d.2.2.2.1)).getD []) := ⟨_, rfl⟩
  obtain ⟨T9, hT9⟩ : ∃ T, T = strOfNums (((wNum 2) (d.2.2.2.2.2.2.2)).getD []) := ⟨_, rfl⟩
  have H75 : Hid (∀ u, Chg Non W0 u → Calls Try.prog 75 #[.string hS] u fun e w' => PC T0 u w' e) := fun u hu => PO.pc hT0 (putName_any hS d.1 u (R0.out u hu) HBN.out.1)
  have H76 : Hid (∀ u, Chg Non W0 u → Calls Try.prog 76 #[.string hS] u fun e w' => PC T0 u w' e) := fun u hu => PO.pc hT0 (dputName_any hS d.1 u HST.out.1 HST.out.2 HBN.out.1)
  have H77 : Hid (∀ u, Chg Non W0 u → Calls Try.prog 77 #[.slice a1 l1 c1] u fun e w' => PC T1 u w' e) := fun u hu => PO.pc hT1 (putList_any a1 l1 c1 d.2.1 u (R1.out u hu))
  have H78 : Hid (∀ u, Chg Non W0 u → Calls Try.prog 78 #[.slice a1 l1 c1] u fun e w' => PC T1 u w' e) := fun u hu => PO.pc hT1 (dputList_any a1 l1 c1 d.2.1 u (R1.out u hu) HBN.out.2.1)
  have H79 : Hid (∀ u, Chg Non W0 u → Calls Try.prog 79 #[.slice a1 l1 c1] u fun e w' => PC T2 u w' e) := fun u hu => PO.pc hT2 (putVersions_any a1 l1 c1 d.2.1 u (R1.out u hu))
  have H80 : Hid (∀ u, Chg Non W0 u → Calls Try.prog 80 #[.slice a1 l1 c1] u fun e w' => PC T2 u w' e) := fun u hu => PO.pc hT2 (dputVersions_any a1 l1 c1 d.2.1 u (R1.out u hu) HBN.out.2.1)
  have H81 : Hid (∀ u, Chg Non W0 u → Calls Try.prog 81 #[.slice a2 l2 c2] u fun e w' => PC T3 u w' e) := fun u hu => PO.pc hT3 (putALPN_any a2 l2 c2 d.2.2.1 u (R2.out u hu) HB2.out)
  have H82 : Hid (∀ u, Chg Non W0 u → Calls Try.prog 82 #[.slice a2 l2 c2] u fun e w' => PC T3 u w' e) := fun u hu => PO.pc hT3 (dputALPN_any a2 l2 c2 d.2.2.1 u (R2.out u hu) HBN.out.2.2.1 HB2)
  have H83 : Hid (∀ u, Chg Non W0 u → Calls Try.prog 83 #[.slice a3 l3 c3] u fun e w' => PC T4 u w' e) := fun u hu => PO.pc hT4 (putModes_any a3 l3 c3 d.2.2.2.1 u (R3.out u hu))
  have H84 : Hid (∀ u, Chg Non W0 u → Calls Try.prog 84 #[.slice a3 l3 c3] u fun e w' => PC T4 u w' e) := fun u hu => PO.pc hT4 (dputModes_any a3 l3 c3 d.2.2.2.1 u (R3.out u hu))
  have H85 : Hid (∀ u, Chg Non W0 u → Calls Try.prog 85 #[.slice a4 l4 c4] u fun e w' => PC T5 u w' e) := fun u hu => PO.pc hT5 (putShares_any a4 l4 c4 d.2.2.2.2.1 u (R4.out u hu))
  have H86 : Hid (∀ u, Chg Non W0 u → Calls Try.prog 86 #[.slice a4 l4 c4] u fun e w' => PC T5 u w' e) := fun u hu => PO.pc hT5 (dputShares_any a4 l4 c4 d.2.2.2.2.1 u (R4.out u hu) HBN.out.2.2.2.1)
  have H87 : Hid (∀ u, Chg Non W0 u → Calls Try.prog 87 #[.slice a5 l5 c5] u fun e w' => PC T6 u w' e) := fun u hu => PO.pc hT6 (putPSKs_any a5 l5 c5 d.2.2.2.2.2.1 u (R5.out u hu))
  have H88 : Hid (∀ u, Chg Non W0 u → Calls Try.prog 88 #[.slice a5 l5 c5] u fun e w' => PC T6 u w' e) := fun u hu => PO.pc hT6 (dputPSKs_any a5 l5 c5 d.2.2.2.2.2.1 u (R5.out u hu) HBN.out.2.2.2.2)
  have H89 : Hid (∀ u, Chg Non W0 u → Calls Try.prog 89 #[.slice a3 l3 c3] u fun e w' => PC T7 u w' e) := fun u hu => PO.pc hT7 (putCookie_any a3 l3 c3 d.2.2.2.1 u (R3.out u hu))
  have H90 : Hid (∀ u, Chg Non W0 u → Calls Try.prog 90 #[.slice a3 l3 c3] u fun e w' => PC T7 u w' e) := fun u hu => PO.pc hT7 (dputCookie_any a3 l3 c3 d.2.2.2.1 u (R3.out u hu))
  have H91 : Hid (∀ u, Chg Non W0 u → Calls Try.prog 91 #[.slice a3 l3 c3] u fun e w' => PC T8 u w' e) := fun u hu => PO.pc hT8 (putStatus_any a3 l3 c3 d.2.2.2.1 u (R3.out u hu))
  have H92 : Hid (∀ u, Chg Non W0 u → Calls Try.prog 92 #[.slice a3 l3 c3] u fun e w' => PC T8 u w' e) := fun u hu => PO.pc hT8 (dputStatus_any a3 l3 c3 d.2.2.2.1 u (R3.out u hu))
  have H93 : Hid (∀ u, Chg Non W0 u → Calls Try.prog 93 #[.int .u16 n] u fun e w' => PC T9 u w' e) := fun u hu => PO.pc hT9 (putNumber_any n d.2.2.2.2.2.2.2 u (R7.out u hu))
  have H94 : Hid (∀ u, Chg Non W0 u → Calls Try.prog 94 #[.int .u16 n] u fun e w' => PC T9 u w' e) := fun u hu => PO.pc (by rw [HNU.out.1]; exact hT9) (dputNumber_any n u HNU.out.2)
  clear hT0 hT1 hT2 hT3 hT4 hT5 hT6 hT7 hT8 hT9
  have hh := head_any W0
  go_enter Try.func7, Try.ntmps7
  go_wp2_with fail
  rw [← HW0.out]
  refine hh.mono ?_
  rintro e w0 ⟨rfl, hc⟩
  have K0 : Hid (Chg Non W0 w0) := hc
  clear hc hh
  go_upto_region 2 with fail
  go_cut [4] from 10 to 40 (fun u4 wc => u4 = .bool true ∧ Hid (Chg Non w0 wc))
  case first =>
    have hSS : Chg Non w0 w0.drew := (Chg.refl Non _).drew
    have kS : Chg Non w0 w0 := Chg.refl Non _
    refine wp_region_held_drew (S := fun u => Chg Non w0 u) (by kernel_rfl) hSS (fun _ => ?_)
    refine wpAnyH_take (i := 0) (oi := { dst := some 10, op := Go.Op.fieldAddr 98 (Go.Operand.tmp 1) 0, type := 0, pos := "law.go:127", after := #[], guard := none }) (v := ?_) rfl (by kernel_rfl) (by kernel_rfl) (by kernel_rfl) (fun _ _ _ h => h) (Or.inl ⟨by rfl, ?_⟩) hSS ?_
    rotate_left
    · intro u hu
      have hu : Chg Non _ u := hu
      go_simp
      try with_reducible rfl
    try simp only [Act.put, List.setIfInBounds_toArray, List.set_cons_zero, List.set_cons_succ]
    refine wpAnyH_take (i := 1) (oi := { dst := some 11, op := Go.Op.load 9 (Go.Operand.tmp 10), type := 9, pos := "law.go:127", after := #[{ on := 0, ground := Go.Ground.data }], guard := none }) (v := ?_) rfl (by kernel_rfl) (by kernel_rfl) (by kernel_rfl) (fun _ _ _ h => h) (Or.inl ⟨by rfl, ?_⟩) hSS ?_
    rotate_left
    · intro u hu
      have hu : Chg Non _ u := hu
      have hc := HSC.out u (K0.out.two (kS.two hu))
      go_split_ands
      go_simp
      try with_reducible rfl
    try simp only [Act.put, List.setIfInBounds_toArray, List.set_cons_zero, List.set_cons_succ]
    refine wpAnyH_take (i := 4) (oi := { dst := some 14, op := Go.Op.fieldAddr 98 (Go.Operand.tmp 1) 0, type := 0, pos := "law.go:127", after := #[], guard := none }) (v := ?_) rfl (by kernel_rfl) (by kernel_rfl) (by kernel_rfl) (fun _ _ _ h => h) (Or.inl ⟨by rfl, ?_⟩) hSS ?_
    rotate_left
    · intro u hu
      have hu : Chg Non _ u := hu
      go_simp
      try with_reducible rfl
    try simp only [Act.put, List.setIfInBounds_toArray, List.set_cons_zero, List.set_cons_succ]
    refine wpAnyH_take (i := 5) (oi := { dst := some 15, op := Go.Op.load 9 (Go.Operand.tmp 14), type := 9, pos := "law.go:127", after := #[{ on := 4, ground := Go.Ground.data }], guard := none }) (v := ?_) rfl (by kernel_rfl) (by kernel_rfl) (by kernel_rfl) (fun _ _ _ h => h) (Or.inl ⟨by rfl, ?_⟩) hSS ?_
    rotate_left
    · intro u hu
      have hu : Chg Non _ u := hu
      have hc := HSC.out u (K0.out.two (kS.two hu))
      go_split_ands
      go_simp
      try with_reducible rfl
    try simp only [Act.put, List.setIfInBounds_toArray, List.set_cons_zero, List.set_cons_succ]
    refine wpAnyH_ready (rs := [2]) (by kernel_rfl) (by simp) ?_
    refine AllReadyH.cons (o := { dst := some 12, op := Go.Op.call { callee := Go.Callee.value (Go.Operand.func 75), args := #[Go.Operand.tmp 11], argTypes := #[9] }, type := 23, pos := "law.go:127", after := #[{ on := 1, ground := Go.Ground.data }], guard := none }) rfl (fun K hK => ?_) AllReadyH.nil
    go_simp
    go_at_call 75
    refine (H75.out _ (K0.out.two (kS.two hSS))).mono ?_
    rintro e x75 ⟨zo75, zn75, zc75, rfl, cF75, o75⟩
    have c75 : Chg Non w0 x75 := hSS.two o75
    have e75 : ∀ q, Chg Non x75 q → (convert 23 9 (.slice zo75 zn75 zc75)).run Try.prog q = .ok (.string T0) q := cF75
    refine hK.out _ _ c75 (fun _ => wpAnyH_imp (S' := fun u => Chg Non x75 u) (fun u hu => c75.two hu) _ _ _ _ ?_)
    clear hK K hSS
    have kT : Chg Non w0 x75 := kS.two c75
    clear kS o75 cF75 c75
    have kS := kT
    clear kT
    have hSS : Chg Non x75 x75 := Chg.refl Non _
    try simp only [Act.put, List.setIfInBounds_toArray, List.set_cons_zero, List.set_cons_succ]
    refine wpAnyH_take (i := 3) (oi := { dst := some 13, op := Go.Op.convert 23 9 (Go.Operand.tmp 12), type := 9, pos := "law.go:127", after := #[{ on := 2, ground := Go.Ground.data }], guard := none }) (v := ?_) rfl (by kernel_rfl) (by kernel_rfl) (by kernel_rfl) (fun _ _ _ h => h) (Or.inl ⟨by rfl, ?_⟩) hSS ?_
    rotate_left
    · intro u hu
      have hu : Chg Non _ u := hu
      have hc := e75 u hu
      go_simp
      try with_reducible rfl
    try simp only [Act.put, List.setIfInBounds_toArray, List.set_cons_zero, List.set_cons_succ]
    refine wpAnyH_ready (rs := [6]) (by kernel_rfl) (by simp) ?_
    refine AllReadyH.cons (o := { dst := some 16, op := Go.Op.call { callee := Go.Callee.value (Go.Operand.func 76), args := #[Go.Operand.tmp 15], argTypes := #[9] }, type := 23, pos := "law.go:127", after := #[{ on := 5, ground := Go.Ground.data }, { on := 2, ground := Go.Ground.chain }], guard := none }) rfl (fun K hK => ?_) AllReadyH.nil
    go_simp
    go_at_call 76
    refine (H76.out _ (K0.out.two (kS.two hSS))).mono ?_
    rintro e x76 ⟨zo76, zn76, zc76, rfl, cF76, o76⟩
    have c76 : Chg Non x75 x76 := hSS.two o76
    have e76 : ∀ q, Chg Non x76 q → (convert 23 9 (.slice zo76 zn76 zc76)).run Try.prog q = .ok (.string T0) q := cF76
    refine hK.out _ _ c76 (fun _ => wpAnyH_imp (S' := fun u => Chg Non x76 u) (fun u hu => c76.two hu) _ _ _ _ ?_)
    clear hK K hSS
    have kT : Chg Non w0 x76 := kS.two c76
    clear kS o76 cF76 c76
    have kS := kT
    clear kT
    have hSS : Chg Non x76 x76 := Chg.refl Non _
    try simp only [Act.put, List.setIfInBounds_toArray, List.set_cons_zero, List.set_cons_succ]
    refine wpAnyH_take (i := 7) (oi := { dst := some 17, op := Go.Op.convert 23 9 (Go.Operand.tmp 16), type := 9, pos := "law.go:127", after := #[{ on := 6, ground := Go.Ground.data }], guard := none }) (v := ?_) rfl (by kernel_rfl) (by kernel_rfl) (by kernel_rfl) (fun _ _ _ h => h) (Or.inl ⟨by rfl, ?_⟩) hSS ?_
    rotate_left
    · intro u hu
      have hu : Chg Non _ u := hu
      have hc := e76 u hu
      go_simp
      try with_reducible rfl
    try simp only [Act.put, List.setIfInBounds_toArray, List.set_cons_zero, List.set_cons_succ]
    refine wpAnyH_take (i := 8) (oi := { dst := some 18, op := Go.Op.binOp Go.BinOp.eql 9 (Go.Operand.tmp 13) (Go.Operand.tmp 17) 9, type := 4, pos := "law.go:127", after := #[{ on := 3, ground := Go.Ground.data }, { on := 7, ground := Go.Ground.data }], guard := none }) (v := ?_) rfl (by kernel_rfl) (by kernel_rfl) (by kernel_rfl) (fun _ _ _ h => h) (Or.inl ⟨by rfl, ?_⟩) hSS ?_
    rotate_left
    · intro u hu
      have hu : Chg Non _ u := hu
      go_simp
      try with_reducible rfl
    try simp only [Act.put, List.setIfInBounds_toArray, List.set_cons_zero, List.set_cons_succ]
    refine wpAnyH_take (i := 9) (oi := { dst := some 19, op := Go.Op.move (Go.Operand.tmp 18), type := 4, pos := "law.go:127", after := #[{ on := 8, ground := Go.Ground.data }, { on := 6, ground := Go.Ground.chain }], guard := none }) (v := ?_) rfl (by kernel_rfl) (by kernel_rfl) (by kernel_rfl) (fun _ _ _ h => h) (Or.inl ⟨by rfl, ?_⟩) hSS ?_
    rotate_left
    · intro u hu
      have hu : Chg Non _ u := hu
      go_simp
      try with_reducible rfl
    try simp only [Act.put, List.setIfInBounds_toArray, List.set_cons_zero, List.set_cons_succ]
    refine wpAnyH_take (i := 10) (oi := { dst := some 20, op := Go.Op.fieldAddr 98 (Go.Operand.tmp 1) 1, type := 0, pos := "law.go:127", after := #[{ on := 9, ground := Go.Ground.guard }], guard := some (9, true) }) (v := ?_) rfl (by kernel_rfl) (by kernel_rfl) (by kernel_rfl) (fun _ _ _ h => h) (Or.inl ⟨by rfl, ?_⟩) hSS ?_
    rotate_left
    · intro u hu
      have hu : Chg Non _ u := hu
      go_simp
      try with_reducible rfl
    try simp only [Act.put, List.setIfInBounds_toArray, List.set_cons_zero, List.set_cons_succ]
    refine wpAnyH_take (i := 11) (oi := { dst := some 21, op := Go.Op.load 33 (Go.Operand.tmp 20), type := 33, pos := "law.go:127", after := #[{ on := 10, ground := Go.Ground.data }, { on := 9, ground := Go.Ground.guard }], guard := some (9, true) }) (v := ?_) rfl (by kernel_rfl) (by kernel_rfl) (by kernel_rfl) (fun _ _ _ h => h) (Or.inl ⟨by rfl, ?_⟩) hSS ?_
    rotate_left
    · intro u hu
      have hu : Chg Non _ u := hu
      have hc := HSC.out u (K0.out.two (kS.two hu))
      go_split_ands
      go_simp
      try with_reducible rfl
    try simp only [Act.put, List.setIfInBounds_toArray, List.set_cons_zero, List.set_cons_succ]
    refine wpAnyH_take (i := 14) (oi := { dst := some 24, op := Go.Op.fieldAddr 98 (Go.Operand.tmp 1) 1, type := 0, pos := "law.go:127", after := #[{ on := 9, ground := Go.Ground.guard }], guard := some (9, true) }) (v := ?_) rfl (by kernel_rfl) (by kernel_rfl) (by kernel_rfl) (fun _ _ _ h => h) (Or.inl ⟨by rfl, ?_⟩) hSS ?_
    rotate_left
    · intro u hu
      have hu : Chg Non _ u := hu
      go_simp
      try with_reducible rfl
    try simp only [Act.put, List.setIfInBounds_toArray, List.set_cons_zero, List.set_cons_succ]
    refine wpAnyH_take (i := 15) (oi := { dst := some 25, op := Go.Op.load 33 (Go.Operand.tmp 24), type := 33, pos := "law.go:127", after := #[{ on := 14, ground := Go.Ground.data }, { on := 9, ground := Go.Ground.guard }], guard := some (9, true) }) (v := ?_) rfl (by kernel_rfl) (by kernel_rfl) (by kernel_rfl) (fun _ _ _ h => h) (Or.inl ⟨by rfl, ?_⟩) hSS ?_
    rotate_left
    · intro u hu
      have hu : Chg Non _ u := hu
      have hc := HSC.out u (K0.out.two (kS.two hu))
      go_split_ands
      go_simp
      try with_reducible rfl
    try simp only [Act.put, List.setIfInBounds_toArray, List.set_cons_zero, List.set_cons_succ]
    refine wpAnyH_ready (rs := [12]) (by kernel_rfl) (by simp) ?_
    refine AllReadyH.cons (o := { dst := some 22, op := Go.Op.call { callee := Go.Callee.value (Go.Operand.func 77), args := #[Go.Operand.tmp 21], argTypes := #[33] }, type := 23, pos := "law.go:127", after := #[{ on := 11, ground := Go.Ground.data }, { on := 9, ground := Go.Ground.chain }, { on := 9, ground := Go.Ground.guard }], guard := some (9, true) }) rfl (fun K hK => ?_) AllReadyH.nil
    go_simp
    go_at_call 77
    refine (H77.out _ (K0.out.two (kS.two hSS))).mono ?_
    rintro e x77 ⟨zo77, zn77, zc77, rfl, cF77, o77⟩
    have c77 : Chg Non x76 x77 := hSS.two o77
    have e77 : ∀ q, Chg Non x77 q → (convert 23 9 (.slice zo77 zn77 zc77)).run Try.prog q = .ok (.string T1) q := cF77
    refine hK.out _ _ c77 (fun _ => wpAnyH_imp (S' := fun u => Chg Non x77 u) (fun u hu => c77.two hu) _ _ _ _ ?_)
    clear hK K hSS
    have kT : Chg Non w0 x77 := kS.two c77
    clear kS o77 cF77 c77
    have kS := kT
    clear kT
    have hSS : Chg Non x77 x77 := Chg.refl Non _
    try simp only [Act.put, List.setIfInBounds_toArray, List.set_cons_zero, List.set_cons_succ]
    refine wpAnyH_take (i := 13) (oi := { dst := some 23, op := Go.Op.convert 23 9 (Go.Operand.tmp 22), type := 9, pos := "law.go:127", after := #[{ on := 12, ground := Go.Ground.data }, { on := 9, ground := Go.Ground.guard }], guard := some (9, true) }) (v := ?_) rfl (by kernel_rfl) (by kernel_rfl) (by kernel_rfl) (fun _ _ _ h => h) (Or.inl ⟨by rfl, ?_⟩) hSS ?_
    rotate_left
    · intro u hu
      have hu : Chg Non _ u := hu
      have hc := e77 u hu
      go_simp
      try with_reducible rfl
    try simp only [Act.put, List.setIfInBounds_toArray, List.set_cons_zero, List.set_cons_succ]
    refine wpAnyH_ready (rs := [16]) (by kernel_rfl) (by simp) ?_
    refine AllReadyH.cons (o := { dst := some 26, op := Go.Op.call { callee := Go.Callee.value (Go.Operand.func 78), args := #[Go.Operand.tmp 25], argTypes := #[33] }, type := 23, pos := "law.go:127", after := #[{ on := 15, ground := Go.Ground.data }, { on := 12, ground := Go.Ground.chain }, { on := 9, ground := Go.Ground.guard }], guard := some (9, true) }) rfl (fun K hK => ?_) AllReadyH.nil
    go_simp
    go_at_call 78
    refine (H78.out _ (K0.out.two (kS.two hSS))).mono ?_
    rintro e x78 ⟨zo78, zn78, zc78, rfl, cF78, o78⟩
    have c78 : Chg Non x77 x78 := hSS.two o78
    have e78 : ∀ q, Chg Non x78 q → (convert 23 9 (.slice zo78 zn78 zc78)).run Try.prog q = .ok (.string T1) q := cF78
    refine hK.out _ _ c78 (fun _ => wpAnyH_imp (S' := fun u => Chg Non x78 u) (fun u hu => c78.two hu) _ _ _ _ ?_)
    clear hK K hSS
    have kT : Chg Non w0 x78 := kS.two c78
    clear kS o78 cF78 c78
    have kS := kT
    clear kT
    have hSS : Chg Non x78 x78 := Chg.refl Non _
    try simp only [Act.put, List.setIfInBounds_toArray, List.set_cons_zero, List.set_cons_succ]
    refine wpAnyH_take (i := 17) (oi := { dst := some 27, op := Go.Op.convert 23 9 (Go.Operand.tmp 26), type := 9, pos := "law.go:127", after := #[{ on := 16, ground := Go.Ground.data }, { on := 9, ground := Go.Ground.guard }], guard := some (9, true) }) (v := ?_) rfl (by kernel_rfl) (by kernel_rfl) (by kernel_rfl) (fun _ _ _ h => h) (Or.inl ⟨by rfl, ?_⟩) hSS ?_
    rotate_left
    · intro u hu
      have hu : Chg Non _ u := hu
      have hc := e78 u hu
      go_simp
      try with_reducible rfl
    try simp only [Act.put, List.setIfInBounds_toArray, List.set_cons_zero, List.set_cons_succ]
    refine wpAnyH_take (i := 18) (oi := { dst := some 28, op := Go.Op.binOp Go.BinOp.eql 9 (Go.Operand.tmp 23) (Go.Operand.tmp 27) 9, type := 4, pos := "law.go:127", after := #[{ on := 13, ground := Go.Ground.data }, { on := 17, ground := Go.Ground.data }, { on := 9, ground := Go.Ground.guard }], guard := some (9, true) }) (v := ?_) rfl (by kernel_rfl) (by kernel_rfl) (by kernel_rfl) (fun _ _ _ h => h) (Or.inl ⟨by rfl, ?_⟩) hSS ?_
    rotate_left
    · intro u hu
      have hu : Chg Non _ u := hu
      go_simp
      try with_reducible rfl
    try simp only [Act.put, List.setIfInBounds_toArray, List.set_cons_zero, List.set_cons_succ]
    refine wpAnyH_take (i := 19) (oi := { dst := some 29, op := Go.Op.pick (Go.Operand.tmp 19) (Go.Operand.tmp 28) (Go.Operand.const (Go.Value.bool false)), type := 4, pos := "law.go:127", after := #[{ on := 9, ground := Go.Ground.data }, { on := 18, ground := Go.Ground.data }], guard := none }) (v := ?_) rfl (by kernel_rfl) (by kernel_rfl) (by kernel_rfl) (fun _ _ _ h => h) (Or.inl ⟨by rfl, ?_⟩) hSS ?_
    rotate_left
    · intro u hu
      have hu : Chg Non _ u := hu
      go_simp
      try with_reducible rfl
    try simp only [Act.put, List.setIfInBounds_toArray, List.set_cons_zero, List.set_cons_succ]
    refine wpAnyH_take (i := 20) (oi := { dst := some 30, op := Go.Op.move (Go.Operand.tmp 29), type := 4, pos := "law.go:127", after := #[{ on := 19, ground := Go.Ground.data }, { on := 16, ground := Go.Ground.chain }], guard := none }) (v := ?_) rfl (by kernel_rfl) (by kernel_rfl) (by kernel_rfl) (fun _ _ _ h => h) (Or.inl ⟨by rfl, ?_⟩) hSS ?_
    rotate_left
    · intro u hu
      have hu : Chg Non _ u := hu
      go_simp
      try with_reducible rfl
    try simp only [Act.put, List.setIfInBounds_toArray, List.set_cons_zero, List.set_cons_succ]
    refine wpAnyH_take (i := 21) (oi := { dst := some 31, op := Go.Op.fieldAddr 98 (Go.Operand.tmp 1) 1, type := 0, pos := "law.go:127", after := #[{ on := 20, ground := Go.Ground.guard }], guard := some (20, true) }) (v := ?_) rfl (by kernel_rfl) (by kernel_rfl) (by kernel_rfl) (fun _ _ _ h => h) (Or.inl ⟨by rfl, ?_⟩) hSS ?_
    rotate_left
    · intro u hu
      have hu : Chg Non _ u := hu
      go_simp
      try with_reducible rfl
    try simp only [Act.put, List.setIfInBounds_toArray, List.set_cons_zero, List.set_cons_succ]
    refine wpAnyH_take (i := 22) (oi := { dst := some 32, op := Go.Op.load 33 (Go.Operand.tmp 31), type := 33, pos := "law.go:127", after := #[{ on := 21, ground := Go.Ground.data }, { on := 20, ground := Go.Ground.guard }], guard := some (20, true) }) (v := ?_) rfl (by kernel_rfl) (by kernel_rfl) (by kernel_rfl) (fun _ _ _ h => h) (Or.inl ⟨by rfl, ?_⟩) hSS ?_
    rotate_left
    · intro u hu
      have hu : Chg Non _ u := hu
      have hc := HSC.out u (K0.out.two (kS.two hu))
      go_split_ands
      go_simp
      try with_reducible rfl
    try simp only [Act.put, List.setIfInBounds_toArray, List.set_cons_zero, List.set_cons_succ]
    refine wpAnyH_take (i := 25) (oi := { dst := some 35, op := Go.Op.fieldAddr 98 (Go.Operand.tmp 1) 1, type := 0, pos := "law.go:127", after := #[{ on := 20, ground := Go.Ground.guard }], guard := some (20, true) }) (v := ?_) rfl (by kernel_rfl) (by kernel_rfl) (by kernel_rfl) (fun _ _ _ h => h) (Or.inl ⟨by rfl, ?_⟩) hSS ?_
    rotate_left
    · intro u hu
      have hu : Chg Non _ u := hu
      go_simp
      try with_reducible rfl
    try simp only [Act.put, List.setIfInBounds_toArray, List.set_cons_zero, List.set_cons_succ]
    refine wpAnyH_take (i := 26) (oi := { dst := some 36, op := Go.Op.load 33 (Go.Operand.tmp 35), type := 33, pos := "law.go:127", after := #[{ on := 25, ground := Go.Ground.data }, { on := 20, ground := Go.Ground.guard }], guard := some (20, true) }) (v := ?_) rfl (by kernel_rfl) (by kernel_rfl) (by kernel_rfl) (fun _ _ _ h => h) (Or.inl ⟨by rfl, ?_⟩) hSS ?_
    rotate_left
    · intro u hu
      have hu : Chg Non _ u := hu
      have hc := HSC.out u (K0.out.two (kS.two hu))
      go_split_ands
      go_simp
      try with_reducible rfl
    try simp only [Act.put, List.setIfInBounds_toArray, List.set_cons_zero, List.set_cons_succ]
    refine wpAnyH_ready (rs := [23]) (by kernel_rfl) (by simp) ?_
    refine AllReadyH.cons (o := { dst := some 33, op := Go.Op.call { callee := Go.Callee.value (Go.Operand.func 79), args := #[Go.Operand.tmp 32], argTypes := #[33] }, type := 23, pos := "law.go:127", after := #[{ on := 22, ground := Go.Ground.data }, { on := 20, ground := Go.Ground.chain }, { on := 20, ground := Go.Ground.guard }], guard := some (20, true) }) rfl (fun K hK => ?_) AllReadyH.nil
    go_simp
    go_at_call 79
    refine (H79.out _ (K0.out.two (kS.two hSS))).mono ?_
    rintro e x79 ⟨zo79, zn79, zc79, rfl, cF79, o79⟩
    have c79 : Chg Non x78 x79 := hSS.two o79
    have e79 : ∀ q, Chg Non x79 q → (convert 23 9 (.slice zo79 zn79 zc79)).run Try.prog q = .ok (.string T2) q := cF79
    refine hK.out _ _ c79 (fun _ => wpAnyH_imp (S' := fun u => Chg Non x79 u) (fun u hu => c79.two hu) _ _ _ _ ?_)
    clear hK K hSS
    have kT : Chg Non w0 x79 := kS.two c79
    clear kS o79 cF79 c79
    have kS := kT
    clear kT
    have hSS : Chg Non x79 x79 := Chg.refl Non _
    try simp only [Act.put, List.setIfInBounds_toArray, List.set_cons_zero, List.set_cons_succ]
    refine wpAnyH_take (i := 24) (oi := { dst := some 34, op := Go.Op.convert 23 9 (Go.Operand.tmp 33), type := 9, pos := "law.go:127", after := #[{ on := 23, ground := Go.Ground.data }, { on := 20, ground := Go.Ground.guard }], guard := some (20, true) }) (v := ?_) rfl (by kernel_rfl) (by kernel_rfl) (by kernel_rfl) (fun _ _ _ h => h) (Or.inl ⟨by rfl, ?_⟩) hSS ?_
    rotate_left
    · intro u hu
      have hu : Chg Non _ u := hu
      have hc := e79 u hu
      go_simp
      try with_reducible rfl
    try simp only [Act.put, List.setIfInBounds_toArray, List.set_cons_zero, List.set_cons_succ]
    refine wpAnyH_ready (rs := [27]) (by kernel_rfl) (by simp) ?_
    refine AllReadyH.cons (o := { dst := some 37, op := Go.Op.call { callee := Go.Callee.value (Go.Operand.func 80), args := #[Go.Operand.tmp 36], argTypes := #[33] }, type := 23, pos := "law.go:127", after := #[{ on := 26, ground := Go.Ground.data }, { on := 23, ground := Go.Ground.chain }, { on := 20, ground := Go.Ground.guard }], guard := some (20, true) }) rfl (fun K hK => ?_) AllReadyH.nil
    go_simp
    go_at_call 80
    refine (H80.out _ (K0.out.two (kS.two hSS))).mono ?_
    rintro e x80 ⟨zo80, zn80, zc80, rfl, cF80, o80⟩
    have c80 : Chg Non x79 x80 := hSS.two o80
    have e80 : ∀ q, Chg Non x80 q → (convert 23 9 (.slice zo80 zn80 zc80)).run Try.prog q = .ok (.string T2) q := cF80
    refine hK.out _ _ c80 (fun _ => wpAnyH_imp (S' := fun u => Chg Non x80 u) (fun u hu => c80.two hu) _ _ _ _ ?_)
    clear hK K hSS
    have kT : Chg Non w0 x80 := kS.two c80
    clear kS o80 cF80 c80
    have kS := kT
    clear kT
    have hSS : Chg Non x80 x80 := Chg.refl Non _
    try simp only [Act.put, List.setIfInBounds_toArray, List.set_cons_zero, List.set_cons_succ]
    refine wpAnyH_take (i := 28) (oi := { dst := some 38, op := Go.Op.convert 23 9 (Go.Operand.tmp 37), type := 9, pos := "law.go:127", after := #[{ on := 27, ground := Go.Ground.data }, { on := 20, ground := Go.Ground.guard }], guard := some (20, true) }) (v := ?_) rfl (by kernel_rfl) (by kernel_rfl) (by kernel_rfl) (fun _ _ _ h => h) (Or.inl ⟨by rfl, ?_⟩) hSS ?_
    rotate_left
    · intro u hu
      have hu : Chg Non _ u := hu
      have hc := e80 u hu
      go_simp
      try with_reducible rfl
    try simp only [Act.put, List.setIfInBounds_toArray, List.set_cons_zero, List.set_cons_succ]
    refine wpAnyH_take (i := 29) (oi := { dst := some 39, op := Go.Op.binOp Go.BinOp.eql 9 (Go.Operand.tmp 34) (Go.Operand.tmp 38) 9, type := 4, pos := "law.go:127", after := #[{ on := 24, ground := Go.Ground.data }, { on := 28, ground := Go.Ground.data }, { on := 20, ground := Go.Ground.guard }], guard := some (20, true) }) (v := ?_) rfl (by kernel_rfl) (by kernel_rfl) (by kernel_rfl) (fun _ _ _ h => h) (Or.inl ⟨by rfl, ?_⟩) hSS ?_
    rotate_left
    · intro u hu
      have hu : Chg Non _ u := hu
      go_simp
      try with_reducible rfl
    try simp only [Act.put, List.setIfInBounds_toArray, List.set_cons_zero, List.set_cons_succ]
    refine wpAnyH_take (i := 30) (oi := { dst := some 40, op := Go.Op.pick (Go.Operand.tmp 30) (Go.Operand.tmp 39) (Go.Operand.const (Go.Value.bool false)), type := 4, pos := "law.go:127", after := #[{ on := 20, ground := Go.Ground.data }, { on := 29, ground := Go.Ground.data }], guard := none }) (v := ?_) rfl (by kernel_rfl) (by kernel_rfl) (by kernel_rfl) (fun _ _ _ h => h) (Or.inl ⟨by rfl, ?_⟩) hSS ?_
    rotate_left
    · intro u hu
      have hu : Chg Non _ u := hu
      go_simp
      try with_reducible rfl
    try simp only [Act.put, List.setIfInBounds_toArray, List.set_cons_zero, List.set_cons_succ]
    refine wpAnyH_take (i := 31) (oi := { dst := some 4, op := Go.Op.assign (Go.Operand.tmp 40), type := 4, pos := "law.go:127", after := #[{ on := 30, ground := Go.Ground.data }, { on := 27, ground := Go.Ground.chain }, { on := 0, ground := Go.Ground.phase }, { on := 1, ground := Go.Ground.phase }, { on := 2, ground := Go.Ground.phase }, { on := 3, ground := Go.Ground.phase }, { on := 4, ground := Go.Ground.phase }, { on := 5, ground := Go.Ground.phase }, { on := 6, ground := Go.Ground.phase }, { on := 7, ground := Go.Ground.phase }, { on := 8, ground := Go.Ground.phase }, { on := 9, ground := Go.Ground.phase }, { on := 10, ground := Go.Ground.phase }, { on := 11, ground := Go.Ground.phase }, { on := 12, ground := Go.Ground.phase }, { on := 13, ground := Go.Ground.phase }, { on := 14, ground := Go.Ground.phase }, { on := 15, ground := Go.Ground.phase }, { on := 16, ground := Go.Ground.phase }, { on := 17, ground := Go.Ground.phase }, { on := 18, ground := Go.Ground.phase }, { on := 19, ground := Go.Ground.phase }, { on := 20, ground := Go.Ground.phase }, { on := 21, ground := Go.Ground.phase }, { on := 22, ground := Go.Ground.phase }, { on := 23, ground := Go.Ground.phase }, { on := 24, ground := Go.Ground.phase }, { on := 25, ground := Go.Ground.phase }, { on := 26, ground := Go.Ground.phase }, { on := 27, ground := Go.Ground.phase }, { on := 28, ground := Go.Ground.phase }, { on := 29, ground := Go.Ground.phase }, { on := 30, ground := Go.Ground.phase }], guard := none }) (v := ?_) rfl (by kernel_rfl) (by kernel_rfl) (by kernel_rfl) (fun _ _ _ h => h) (Or.inl ⟨by rfl, ?_⟩) hSS ?_
    rotate_left
    · intro u hu
      have hu : Chg Non _ u := hu
      go_simp
      try with_reducible rfl
    try simp only [Act.put, List.setIfInBounds_toArray, List.set_cons_zero, List.set_cons_succ]
    refine wpAnyH_done (by kernel_rfl) ?_ _
    go_wp2_with fail
    go_meet
    case rel => exact ⟨rfl, kS⟩
  case rest =>
  obtain ⟨rfl, hcut⟩ := hcut
  obtain ⟨z0, hz⟩ : ∃ z, z = wc := ⟨_, rfl⟩
  rw [← hz] at hcut ⊢
  have K1 : Hid (Chg Non W0 z0) := K0.out.two hcut.out
  clear hz hcut wc
  go_upto_region 3 with fail
  go_cut [4] from 41 to 74 (fun u4 wc => u4 = .bool true ∧ Hid (Chg Non z0 wc))
  case first =>
    have hSS : Chg Non z0 z0.drew := (Chg.refl Non _).drew
    have kS : Chg Non z0 z0 := Chg.refl Non _
    refine wp_region_held_drew (S := fun u => Chg Non z0 u) (by kernel_rfl) hSS (fun _ => ?_)
    refine wpAnyH_take (i := 0) (oi := { dst := some 41, op := Go.Op.move (Go.Operand.tmp 4), type := 4, pos := "law.go:128", after := #[], guard := none }) (v := ?_) rfl (by kernel_rfl) (by kernel_rfl) (by kernel_rfl) (fun _ _ _ h => h) (Or.inl ⟨by rfl, ?_⟩) hSS ?_
    rotate_left
    · intro u hu
      have hu : Chg Non _ u := hu
      go_simp
      try with_reducible rfl
    try simp only [Act.put, List.setIfInBounds_toArray, List.set_cons_zero, List.set_cons_succ]
    refine wpAnyH_take (i := 1) (oi := { dst := some 42, op := Go.Op.move (Go.Operand.tmp 41), type := 4, pos := "law.go:128", after := #[{ on := 0, ground := Go.Ground.data }], guard := none }) (v := ?_) rfl (by kernel_rfl) (by kernel_rfl) (by kernel_rfl) (fun _ _ _ h => h) (Or.inl ⟨by rfl, ?_⟩) hSS ?_
    rotate_left
    · intro u hu
      have hu : Chg Non _ u := hu
      go_simp
      try with_reducible rfl
    try simp only [Act.put, List.setIfInBounds_toArray, List.set_cons_zero, List.set_cons_succ]
    refine wpAnyH_take (i := 2) (oi := { dst := some 43, op := Go.Op.fieldAddr 98 (Go.Operand.tmp 1) 2, type := 0, pos := "law.go:128", after := #[{ on := 1, ground := Go.Ground.guard }], guard := some (1, true) }) (v := ?_) rfl (by kernel_rfl) (by kernel_rfl) (by kernel_rfl) (fun _ _ _ h => h) (Or.inl ⟨by rfl, ?_⟩) hSS ?_
    rotate_left
    · intro u hu
      have hu : Chg Non _ u := hu
      go_simp
      try with_reducible rfl
    try simp only [Act.put, List.setIfInBounds_toArray, List.set_cons_zero, List.set_cons_succ]
    refine wpAnyH_take (i := 3) (oi := { dst := some 44, op := Go.Op.load 76 (Go.Operand.tmp 43), type := 76, pos := "law.go:128", after := #[{ on := 2, ground := Go.Ground.data }, { on := 1, ground := Go.Ground.guard }], guard := some (1, true) }) (v := ?_) rfl (by kernel_rfl) (by kernel_rfl) (by kernel_rfl) (fun _ _ _ h => h) (Or.inl ⟨by rfl, ?_⟩) hSS ?_
    rotate_left
    · intro u hu
      have hu : Chg Non _ u := hu
      have hc := HSC.out u (K1.out.two (kS.two hu))
      go_split_ands
      go_simp
      try with_reducible rfl
    try simp only [Act.put, List.setIfInBounds_toArray, List.set_cons_zero, List.set_cons_succ]
    refine wpAnyH_take (i := 6) (oi := { dst := some 47, op := Go.Op.fieldAddr 98 (Go.Operand.tmp 1) 2, type := 0, pos := "law.go:128", after := #[{ on := 1, ground := Go.Ground.guard }], guard := some (1, true) }) (v := ?_) rfl (by kernel_rfl) (by kernel_rfl) (by kernel_rfl) (fun _ _ _ h => h) (Or.inl ⟨by rfl, ?_⟩) hSS ?_
    rotate_left
    · intro u hu
      have hu : Chg Non _ u := hu
      go_simp
      try with_reducible rfl
    try simp only [Act.put, List.setIfInBounds_toArray, List.set_cons_zero, List.set_cons_succ]
    refine wpAnyH_take (i := 7) (oi := { dst := some 48, op := Go.Op.load 76 (Go.Operand.tmp 47), type := 76, pos := "law.go:128", after := #[{ on := 6, ground := Go.Ground.data }, { on := 1, ground := Go.Ground.guard }], guard := some (1, true) }) (v := ?_) rfl (by kernel_rfl) (by kernel_rfl) (by kernel_rfl) (fun _ _ _ h => h) (Or.inl ⟨by rfl, ?_⟩) hSS ?_
    rotate_left
    · intro u hu
      have hu : Chg Non _ u := hu
      have hc := HSC.out u (K1.out.two (kS.two hu))
      go_split_ands
      go_simp
      try with_reducible rfl
    try simp only [Act.put, List.setIfInBounds_toArray, List.set_cons_zero, List.set_cons_succ]
    refine wpAnyH_ready (rs := [4]) (by kernel_rfl) (by simp) ?_
    refine AllReadyH.cons (o := { dst := some 45, op := Go.Op.call { callee := Go.Callee.value (Go.Operand.func 81), args := #[Go.Operand.tmp 44], argTypes := #[76] }, type := 23, pos := "law.go:128", after := #[{ on := 3, ground := Go.Ground.data }, { on := 1, ground := Go.Ground.chain }, { on := 1, ground := Go.Ground.guard }], guard := some (1, true) }) rfl (fun K hK => ?_) AllReadyH.nil
    go_simp
    go_at_call 81
    refine (H81.out _ (K1.out.two (kS.two hSS))).mono ?_
    rintro e x81 ⟨zo81, zn81, zc81, rfl, cF81, o81⟩
    have c81 : Chg Non z0 x81 := hSS.two o81
    have e81 : ∀ q, Chg Non x81 q → (convert 23 9 (.slice zo81 zn81 zc81)).run Try.prog q = .ok (.string T3) q := cF81
    refine hK.out _ _ c81 (fun _ => wpAnyH_imp (S' := fun u => Chg Non x81 u) (fun u hu => c81.two hu) _ _ _ _ ?_)
    clear hK K hSS
    have kT : Chg Non z0 x81 := kS.two c81
    clear kS o81 cF81 c81
    have kS := kT
    clear kT
    have hSS : Chg Non x81 x81 := Chg.refl Non _
    try simp only [Act.put, List.setIfInBounds_toArray, List.set_cons_zero, List.set_cons_succ]
    refine wpAnyH_take (i := 5) (oi := { dst := some 46, op := Go.Op.convert 23 9 (Go.Operand.tmp 45), type := 9, pos := "law.go:128", after := #[{ on := 4, ground := Go.Ground.data }, { on := 1, ground := Go.Ground.guard }], guard := some (1, true) }) (v := ?_) rfl (by kernel_rfl) (by kernel_rfl) (by kernel_rfl) (fun _ _ _ h => h) (Or.inl ⟨by rfl, ?_⟩) hSS ?_
    rotate_left
    · intro u hu
      have hu : Chg Non _ u := hu
      have hc := e81 u hu
      go_simp
      try with_reducible rfl
    try simp only [Act.put, List.setIfInBounds_toArray, List.set_cons_zero, List.set_cons_succ]
    refine wpAnyH_ready (rs := [8]) (by kernel_rfl) (by simp) ?_
    refine AllReadyH.cons (o := { dst := some 49, op := Go.Op.call { callee := Go.Callee.value (Go.Operand.func 82), args := #[Go.Operand.tmp 48], argTypes := #[76] }, type := 23, pos := "law.go:128", after := #[{ on := 7, ground := Go.Ground.data }, { on := 4, ground := Go.Ground.chain }, { on := 1, ground := Go.Ground.guard }], guard := some (1, true) }) rfl (fun K hK => ?_) AllReadyH.nil
    go_simp
    go_at_call 82
    refine (H82.out _ (K1.out.two (kS.two hSS))).mono ?_
    rintro e x82 ⟨zo82, zn82, zc82, rfl, cF82, o82⟩
    have c82 : Chg Non x81 x82 := hSS.two o82
    have e82 : ∀ q, Chg Non x82 q → (convert 23 9 (.slice zo82 zn82 zc82)).run Try.prog q = .ok (.string T3) q := cF82
    refine hK.out _ _ c82 (fun _ => wpAnyH_imp (S' := fun u => Chg Non x82 u) (fun u hu => c82.two hu) _ _ _ _ ?_)
    clear hK K hSS
    have kT : Chg Non z0 x82 := kS.two c82
    clear kS o82 cF82 c82
    have kS := kT
    clear kT
    have hSS : Chg Non x82 x82 := Chg.refl Non _
    try simp only [Act.put, List.setIfInBounds_toArray, List.set_cons_zero, List.set_cons_succ]
    refine wpAnyH_take (i := 9) (oi := { dst := some 50, op := Go.Op.convert 23 9 (Go.Operand.tmp 49), type := 9, pos := "law.go:128", after := #[{ on := 8, ground := Go.Ground.data }, { on := 1, ground := Go.Ground.guard }], guard := some (1, true) }) (v := ?_) rfl (by kernel_rfl) (by kernel_rfl) (by kernel_rfl) (fun _ _ _ h => h) (Or.inl ⟨by rfl, ?_⟩) hSS ?_
    rotate_left
    · intro u hu
      have hu : Chg Non _ u := hu
      have hc := e82 u hu
      go_simp
      try with_reducible rfl
    try simp only [Act.put, List.setIfInBounds_toArray, List.set_cons_zero, List.set_cons_succ]
    refine wpAnyH_take (i := 10) (oi := { dst := some 51, op := Go.Op.binOp Go.BinOp.eql 9 (Go.Operand.tmp 46) (Go.Operand.tmp 50) 9, type := 4, pos := "law.go:128", after := #[{ on := 5, ground := Go.Ground.data }, { on := 9, ground := Go.Ground.data }, { on := 1, ground := Go.Ground.guard }], guard := some (1, true) }) (v := ?_) rfl (by kernel_rfl) (by kernel_rfl) (by kernel_rfl) (fun _ _ _ h => h) (Or.inl ⟨by rfl, ?_⟩) hSS ?_
    rotate_left
    · intro u hu
      have hu : Chg Non _ u := hu
      go_simp
      try with_reducible rfl
    try simp only [Act.put, List.setIfInBounds_toArray, List.set_cons_zero, List.set_cons_succ]
    refine wpAnyH_take (i := 11) (oi := { dst := some 52, op := Go.Op.pick (Go.Operand.tmp 42) (Go.Operand.tmp 51) (Go.Operand.const (Go.Value.bool false)), type := 4, pos := "law.go:128", after := #[{ on := 1, ground := Go.Ground.data }, { on := 10, ground := Go.Ground.data }], guard := none }) (v := ?_) rfl (by kernel_rfl) (by kernel_rfl) (by kernel_rfl) (fun _ _ _ h => h) (Or.inl ⟨by rfl, ?_⟩) hSS ?_
    rotate_left
    · intro u hu
      have hu : Chg Non _ u := hu
      go_simp
      try with_reducible rfl
    try simp only [Act.put, List.setIfInBounds_toArray, List.set_cons_zero, List.set_cons_succ]
    refine wpAnyH_take (i := 12) (oi := { dst := some 53, op := Go.Op.move (Go.Operand.tmp 52), type := 4, pos := "law.go:128", after := #[{ on := 11, ground := Go.Ground.data }, { on := 8, ground := Go.Ground.chain }], guard := none }) (v := ?_) rfl (by kernel_rfl) (by kernel_rfl) (by kernel_rfl) (fun _ _ _ h => h) (Or.inl ⟨by rfl, ?_⟩) hSS ?_
    rotate_left
    · intro u hu
      have hu : Chg Non _ u := hu
      go_simp
      try with_reducible rfl
    try simp only [Act.put, List.setIfInBounds_toArray, List.set_cons_zero, List.set_cons_succ]
    refine wpAnyH_take (i := 13) (oi := { dst := some 54, op := Go.Op.fieldAddr 98 (Go.Operand.tmp 1) 3, type := 0, pos := "law.go:128", after := #[{ on := 12, ground := Go.Ground.guard }], guard := some (12, true) }) (v := ?_) rfl (by kernel_rfl) (by kernel_rfl) (by kernel_rfl) (fun _ _ _ h => h) (Or.inl ⟨by rfl, ?_⟩) hSS ?_
    rotate_left
    · intro u hu
      have hu : Chg Non _ u := hu
      go_simp
      try with_reducible rfl
    try simp only [Act.put, List.setIfInBounds_toArray, List.set_cons_zero, List.set_cons_succ]
    refine wpAnyH_take (i := 14) (oi := { dst := some 55, op := Go.Op.load 23 (Go.Operand.tmp 54), type := 23, pos := "law.go:128", after := #[{ on := 13, ground := Go.Ground.data }, { on := 12, ground := Go.Ground.guard }], guard := some (12, true) }) (v := ?_) rfl (by kernel_rfl) (by kernel_rfl) (by kernel_rfl) (fun _ _ _ h => h) (Or.inl ⟨by rfl, ?_⟩) hSS ?_
    rotate_left
    · intro u hu
      have hu : Chg Non _ u := hu
      have hc := HSC.out u (K1.out.two (kS.two hu))
      go_split_ands
      go_simp
      try with_reducible rfl
    try simp only [Act.put, List.setIfInBounds_toArray, List.set_cons_zero, List.set_cons_succ]
    refine wpAnyH_take (i := 17) (oi := { dst := some 58, op := Go.Op.fieldAddr 98 (Go.Operand.tmp 1) 3, type := 0, pos := "law.go:128", after := #[{ on := 12, ground := Go.Ground.guard }], guard := some (12, true) }) (v := ?_) rfl (by kernel_rfl) (by kernel_rfl) (by kernel_rfl) (fun _ _ _ h => h) (Or.inl ⟨by rfl, ?_⟩) hSS ?_
    rotate_left
    · intro u hu
      have hu : Chg Non _ u := hu
      go_simp
      try with_reducible rfl
    try simp only [Act.put, List.setIfInBounds_toArray, List.set_cons_zero, List.set_cons_succ]
    refine wpAnyH_take (i := 18) (oi := { dst := some 59, op := Go.Op.load 23 (Go.Operand.tmp 58), type := 23, pos := "law.go:128", after := #[{ on := 17, ground := Go.Ground.data }, { on := 12, ground := Go.Ground.guard }], guard := some (12, true) }) (v := ?_) rfl (by kernel_rfl) (by kernel_rfl) (by kernel_rfl) (fun _ _ _ h => h) (Or.inl ⟨by rfl, ?_⟩) hSS ?_
    rotate_left
    · intro u hu
      have hu : Chg Non _ u := hu
      have hc := HSC.out u (K1.out.two (kS.two hu))
      go_split_ands
      go_simp
      try with_reducible rfl
    try simp only [Act.put, List.setIfInBounds_toArray, List.set_cons_zero, List.set_cons_succ]
    refine wpAnyH_ready (rs := [15]) (by kernel_rfl) (by simp) ?_
    refine AllReadyH.cons (o := { dst := some 56, op := Go.Op.call { callee := Go.Callee.value (Go.Operand.func 83), args := #[Go.Operand.tmp 55], argTypes := #[23] }, type := 23, pos := "law.go:128", after := #[{ on := 14, ground := Go.Ground.data }, { on := 12, ground := Go.Ground.chain }, { on := 12, ground := Go.Ground.guard }], guard := some (12, true) }) rfl (fun K hK => ?_) AllReadyH.nil
    go_simp
    go_at_call 83
    refine (H83.out _ (K1.out.two (kS.two hSS))).mono ?_
    rintro e x83 ⟨zo83, zn83, zc83, rfl, cF83, o83⟩
    have c83 : Chg Non x82 x83 := hSS.two o83
    have e83 : ∀ q, Chg Non x83 q → (convert 23 9 (.slice zo83 zn83 zc83)).run Try.prog q = .ok (.string T4) q := cF83
    refine hK.out _ _ c83 (fun _ => wpAnyH_imp (S' := fun u => Chg Non x83 u) (fun u hu => c83.two hu) _ _ _ _ ?_)
    clear hK K hSS
    have kT : Chg Non z0 x83 := kS.two c83
    clear kS o83 cF83 c83
    have kS := kT
    clear kT
    have hSS : Chg Non x83 x83 := Chg.refl Non _
    try simp only [Act.put, List.setIfInBounds_toArray, List.set_cons_zero, List.set_cons_succ]
    refine wpAnyH_take (i := 16) (oi := { dst := some 57, op := Go.Op.convert 23 9 (Go.Operand.tmp 56), type := 9, pos := "law.go:128", after := #[{ on := 15, ground := Go.Ground.data }, { on := 12, ground := Go.Ground.guard }], guard := some (12, true) }) (v := ?_) rfl (by kernel_rfl) (by kernel_rfl) (by kernel_rfl) (fun _ _ _ h => h) (Or.inl ⟨by rfl, ?_⟩) hSS ?_
    rotate_left
    · intro u hu
      have hu : Chg Non _ u := hu
      have hc := e83 u hu
      go_simp
      try with_reducible rfl
    try simp only [Act.put, List.setIfInBounds_toArray, List.set_cons_zero, List.set_cons_succ]
    refine wpAnyH_ready (rs := [19]) (by kernel_rfl) (by simp) ?_
    refine AllReadyH.cons (o := { dst := some 60, op := Go.Op.call { callee := Go.Callee.value (Go.Operand.func 84), args := #[Go.Operand.tmp 59], argTypes := #[23] }, type := 23, pos := "law.go:128", after := #[{ on := 18, ground := Go.Ground.data }, { on := 15, ground := Go.Ground.chain }, { on := 12, ground := Go.Ground.guard }], guard := some (12, true) }) rfl (fun K hK => ?_) AllReadyH.nil
    go_simp
    go_at_call 84
    refine (H84.out _ (K1.out.two (kS.two hSS))).mono ?_
    rintro e x84 ⟨zo84, zn84, zc84, rfl, cF84, o84⟩
    have c84 : Chg Non x83 x84 := hSS.two o84
    have e84 : ∀ q, Chg Non x84 q → (convert 23 9 (.slice zo84 zn84 zc84)).run Try.prog q = .ok (.string T4) q := cF84
    refine hK.out _ _ c84 (fun _ => wpAnyH_imp (S' := fun u => Chg Non x84 u) (fun u hu => c84.two hu) _ _ _ _ ?_)
    clear hK K hSS
    have kT : Chg Non z0 x84 := kS.two c84
    clear kS o84 cF84 c84
    have kS := kT
    clear kT
    have hSS : Chg Non x84 x84 := Chg.refl Non _
    try simp only [Act.put, List.setIfInBounds_toArray, List.set_cons_zero, List.set_cons_succ]
    refine wpAnyH_take (i := 20) (oi := { dst := some 61, op := Go.Op.convert 23 9 (Go.Operand.tmp 60), type := 9, pos := "law.go:128", after := #[{ on := 19, ground := Go.Ground.data }, { on := 12, ground := Go.Ground.guard }], guard := some (12, true) }) (v := ?_) rfl (by kernel_rfl) (by kernel_rfl) (by kernel_rfl) (fun _ _ _ h => h) (Or.inl ⟨by rfl, ?_⟩) hSS ?_
    rotate_left
    · intro u hu
      have hu : Chg Non _ u := hu
      have hc := e84 u hu
      go_simp
      try with_reducible rfl
    try simp only [Act.put, List.setIfInBounds_toArray, List.set_cons_zero, List.set_cons_succ]
    refine wpAnyH_take (i := 21) (oi := { dst := some 62, op := Go.Op.binOp Go.BinOp.eql 9 (Go.Operand.tmp 57) (Go.Operand.tmp 61) 9, type := 4, pos := "law.go:128", after := #[{ on := 16, ground := Go.Ground.data }, { on := 20, ground := Go.Ground.data }, { on := 12, ground := Go.Ground.guard }], guard := some (12, true) }) (v := ?_) rfl (by kernel_rfl) (by kernel_rfl) (by kernel_rfl) (fun _ _ _ h => h) (Or.inl ⟨by rfl, ?_⟩) hSS ?_
    rotate_left
    · intro u hu
      have hu : Chg Non _ u := hu
      go_simp
      try with_reducible rfl
    try simp only [Act.put, List.setIfInBounds_toArray, List.set_cons_zero, List.set_cons_succ]
    refine wpAnyH_take (i := 22) (oi := { dst := some 63, op := Go.Op.pick (Go.Operand.tmp 53) (Go.Operand.tmp 62) (Go.Operand.const (Go.Value.bool false)), type := 4, pos := "law.go:128", after := #[{ on := 12, ground := Go.Ground.data }, { on := 21, ground := Go.Ground.data }], guard := none }) (v := ?_) rfl (by kernel_rfl) (by kernel_rfl) (by kernel_rfl) (fun _ _ _ h => h) (Or.inl ⟨by rfl, ?_⟩) hSS ?_
    rotate_left
    · intro u hu
      have hu : Chg Non _ u := hu
      go_simp
      try with_reducible rfl
    try simp only [Act.put, List.setIfInBounds_toArray, List.set_cons_zero, List.set_cons_succ]
    refine wpAnyH_take (i := 23) (oi := { dst := some 64, op := Go.Op.move (Go.Operand.tmp 63), type := 4, pos := "law.go:128", after := #[{ on := 22, ground := Go.Ground.data }, { on := 19, ground := Go.Ground.chain }], guard := none }) (v := ?_) rfl (by kernel_rfl) (by kernel_rfl) (by kernel_rfl) (fun _ _ _ h => h) (Or.inl ⟨by rfl, ?_⟩) hSS ?_
    rotate_left
    · intro u hu
      have hu : Chg Non _ u := hu
      go_simp
      try with_reducible rfl
    try simp only [Act.put, List.setIfInBounds_toArray, List.set_cons_zero, List.set_cons_succ]
    refine wpAnyH_take (i := 24) (oi := { dst := some 65, op := Go.Op.fieldAddr 98 (Go.Operand.tmp 1) 4, type := 0, pos := "law.go:128", after := #[{ on := 23, ground := Go.Ground.guard }], guard := some (23, true) }) (v := ?_) rfl (by kernel_rfl) (by kernel_rfl) (by kernel_rfl) (fun _ _ _ h => h) (Or.inl ⟨by rfl, ?_⟩) hSS ?_
    rotate_left
    · intro u hu
      have hu : Chg Non _ u := hu
      go_simp
      try with_reducible rfl
    try simp only [Act.put, List.setIfInBounds_toArray, List.set_cons_zero, List.set_cons_succ]
    refine wpAnyH_take (i := 25) (oi := { dst := some 66, op := Go.Op.load 82 (Go.Operand.tmp 65), type := 82, pos := "law.go:128", after := #[{ on := 24, ground := Go.Ground.data }, { on := 23, ground := Go.Ground.guard }], guard := some (23, true) }) (v := ?_) rfl (by kernel_rfl) (by kernel_rfl) (by kernel_rfl) (fun _ _ _ h => h) (Or.inl ⟨by rfl, ?_⟩) hSS ?_
    rotate_left
    · intro u hu
      have hu : Chg Non _ u := hu
      have hc := HSC.out u (K1.out.two (kS.two hu))
      go_split_ands
      go_simp
      try with_reducible rfl
    try simp only [Act.put, List.setIfInBounds_toArray, List.set_cons_zero, List.set_cons_succ]
    refine wpAnyH_take (i := 28) (oi := { dst := some 69, op := Go.Op.fieldAddr 98 (Go.Operand.tmp 1) 4, type := 0, pos := "law.go:128", after := #[{ on := 23, ground := Go.Ground.guard }], guard := some (23, true) }) (v := ?_) rfl (by kernel_rfl) (by kernel_rfl) (by kernel_rfl) (fun _ _ _ h => h) (Or.inl ⟨by rfl, ?_⟩) hSS ?_
    rotate_left
    · intro u hu
      have hu : Chg Non _ u := hu
      go_simp
      try with_reducible rfl
    try simp only [Act.put, List.setIfInBounds_toArray, List.set_cons_zero, List.set_cons_succ]
    refine wpAnyH_take (i := 29) (oi := { dst := some 70, op := Go.Op.load 82 (Go.Operand.tmp 69), type := 82, pos := "law.go:128", after := #[{ on := 28, ground := Go.Ground.data }, { on := 23, ground := Go.Ground.guard }], guard := some (23, true) }) (v := ?_) rfl (by kernel_rfl) (by kernel_rfl) (by kernel_rfl) (fun _ _ _ h => h) (Or.inl ⟨by rfl, ?_⟩) hSS ?_
    rotate_left
    · intro u hu
      have hu : Chg Non _ u := hu
      have hc := HSC.out u (K1.out.two (kS.two hu))
      go_split_ands
      go_simp
      try with_reducible rfl
    try simp only [Act.put, List.setIfInBounds_toArray, List.set_cons_zero, List.set_cons_succ]
    refine wpAnyH_ready (rs := [26]) (by kernel_rfl) (by simp) ?_
    refine AllReadyH.cons (o := { dst := some 67, op := Go.Op.call { callee := Go.Callee.value (Go.Operand.func 85), args := #[Go.Operand.tmp 66], argTypes := #[82] }, type := 23, pos := "law.go:128", after := #[{ on := 25, ground := Go.Ground.data }, { on := 23, ground := Go.Ground.chain }, { on := 23, ground := Go.Ground.guard }], guard := some (23, true) }) rfl (fun K hK => ?_) AllReadyH.nil
    go_simp
    go_at_call 85
    refine (H85.out _ (K1.out.two (kS.two hSS))).mono ?_
    rintro e x85 ⟨zo85, zn85, zc85, rfl, cF85, o85⟩
    have c85 : Chg Non x84 x85 := hSS.two o85
    have e85 : ∀ q, Chg Non x85 q → (convert 23 9 (.slice zo85 zn85 zc85)).run Try.prog q = .ok (.string T5) q := cF85
    refine hK.out _ _ c85 (fun _ => wpAnyH_imp (S' := fun u => Chg Non x85 u) (fun u hu => c85.two hu) _ _ _ _ ?_)
    clear hK K hSS
    have kT : Chg Non z0 x85 := kS.two c85
    clear kS o85 cF85 c85
    have kS := kT
    clear kT
    have hSS : Chg Non x85 x85 := Chg.refl Non _
    try simp only [Act.put, List.setIfInBounds_toArray, List.set_cons_zero, List.set_cons_succ]
    refine wpAnyH_take (i := 27) (oi := { dst := some 68, op := Go.Op.convert 23 9 (Go.Operand.tmp 67), type := 9, pos := "law.go:128", after := #[{ on := 26, ground := Go.Ground.data }, { on := 23, ground := Go.Ground.guard }], guard := some (23, true) }) (v := ?_) rfl (by kernel_rfl) (by kernel_rfl) (by kernel_rfl) (fun _ _ _ h => h) (Or.inl ⟨by rfl, ?_⟩) hSS ?_
    rotate_left
    · intro u hu
      have hu : Chg Non _ u := hu
      have hc := e85 u hu
      go_simp
      try with_reducible rfl
    try simp only [Act.put, List.setIfInBounds_toArray, List.set_cons_zero, List.set_cons_succ]
    refine wpAnyH_ready (rs := [30]) (by kernel_rfl) (by simp) ?_
    refine AllReadyH.cons (o := { dst := some 71, op := Go.Op.call { callee := Go.Callee.value (Go.Operand.func 86), args := #[Go.Operand.tmp 70], argTypes := #[82] }, type := 23, pos := "law.go:128", after := #[{ on := 29, ground := Go.Ground.data }, { on := 26, ground := Go.Ground.chain }, { on := 23, ground := Go.Ground.guard }], guard := some (23, true) }) rfl (fun K hK => ?_) AllReadyH.nil
    go_simp
    go_at_call 86
    refine (H86.out _ (K1.out.two (kS.two hSS))).mono ?_
    rintro e x86 ⟨zo86, zn86, zc86, rfl, cF86, o86⟩
    have c86 : Chg Non x85 x86 := hSS.two o86
    have e86 : ∀ q, Chg Non x86 q → (convert 23 9 (.slice zo86 zn86 zc86)).run Try.prog q = .ok (.string T5) q := cF86
    refine hK.out _ _ c86 (fun _ => wpAnyH_imp (S' := fun u => Chg Non x86 u) (fun u hu => c86.two hu) _ _ _ _ ?_)
    clear hK K hSS
    have kT : Chg Non z0 x86 := kS.two c86
    clear kS o86 cF86 c86
    have kS := kT
    clear kT
    have hSS : Chg Non x86 x86 := Chg.refl Non _
    try simp only [Act.put, List.setIfInBounds_toArray, List.set_cons_zero, List.set_cons_succ]
    refine wpAnyH_take (i := 31) (oi := { dst := some 72, op := Go.Op.convert 23 9 (Go.Operand.tmp 71), type := 9, pos := "law.go:128", after := #[{ on := 30, ground := Go.Ground.data }, { on := 23, ground := Go.Ground.guard }], guard := some (23, true) }) (v := ?_) rfl (by kernel_rfl) (by kernel_rfl) (by kernel_rfl) (fun _ _ _ h => h) (Or.inl ⟨by rfl, ?_⟩) hSS ?_
    rotate_left
    · intro u hu
      have hu : Chg Non _ u := hu
      have hc := e86 u hu
      go_simp
      try with_reducible rfl
    try simp only [Act.put, List.setIfInBounds_toArray, List.set_cons_zero, List.set_cons_succ]
    refine wpAnyH_take (i := 32) (oi := { dst := some 73, op := Go.Op.binOp Go.BinOp.eql 9 (Go.Operand.tmp 68) (Go.Operand.tmp 72) 9, type := 4, pos := "law.go:128", after := #[{ on := 27, ground := Go.Ground.data }, { on := 31, ground := Go.Ground.data }, { on := 23, ground := Go.Ground.guard }], guard := some (23, true) }) (v := ?_) rfl (by kernel_rfl) (by kernel_rfl) (by kernel_rfl) (fun _ _ _ h => h) (Or.inl ⟨by rfl, ?_⟩) hSS ?_
    rotate_left
    · intro u hu
      have hu : Chg Non _ u := hu
      go_simp
      try with_reducible rfl
    try simp only [Act.put, List.setIfInBounds_toArray, List.set_cons_zero, List.set_cons_succ]
    refine wpAnyH_take (i := 33) (oi := { dst := some 74, op := Go.Op.pick (Go.Operand.tmp 64) (Go.Operand.tmp 73) (Go.Operand.const (Go.Value.bool false)), type := 4, pos := "law.go:128", after := #[{ on := 23, ground := Go.Ground.data }, { on := 32, ground := Go.Ground.data }], guard := none }) (v := ?_) rfl (by kernel_rfl) (by kernel_rfl) (by kernel_rfl) (fun _ _ _ h => h) (Or.inl ⟨by rfl, ?_⟩) hSS ?_
    rotate_left
    · intro u hu
      have hu : Chg Non _ u := hu
      go_simp
      try with_reducible rfl
    try simp only [Act.put, List.setIfInBounds_toArray, List.set_cons_zero, List.set_cons_succ]
    refine wpAnyH_take (i := 34) (oi := { dst := some 4, op := Go.Op.assign (Go.Operand.tmp 74), type := 4, pos := "law.go:128", after := #[{ on := 33, ground := Go.Ground.data }, { on := 30, ground := Go.Ground.chain }, { on := 0, ground := Go.Ground.phase }, { on := 1, ground := Go.Ground.phase }, { on := 2, ground := Go.Ground.phase }, { on := 3, ground := Go.Ground.phase }, { on := 4, ground := Go.Ground.phase }, { on := 5, ground := Go.Ground.phase }, { on := 6, ground := Go.Ground.phase }, { on := 7, ground := Go.Ground.phase }, { on := 8, ground := Go.Ground.phase }, { on := 9, ground := Go.Ground.phase }, { on := 10, ground := Go.Ground.phase }, { on := 11, ground := Go.Ground.phase }, { on := 12, ground := Go.Ground.phase }, { on := 13, ground := Go.Ground.phase }, { on := 14, ground := Go.Ground.phase }, { on := 15, ground := Go.Ground.phase }, { on := 16, ground := Go.Ground.phase }, { on := 17, ground := Go.Ground.phase }, { on := 18, ground := Go.Ground.phase }, { on := 19, ground := Go.Ground.phase }, { on := 20, ground := Go.Ground.phase }, { on := 21, ground := Go.Ground.phase }, { on := 22, ground := Go.Ground.phase }, { on := 23, ground := Go.Ground.phase }, { on := 24, ground := Go.Ground.phase }, { on := 25, ground := Go.Ground.phase }, { on := 26, ground := Go.Ground.phase }, { on := 27, ground := Go.Ground.phase }, { on := 28, ground := Go.Ground.phase }, { on := 29, ground := Go.Ground.phase }, { on := 30, ground := Go.Ground.phase }, { on := 31, ground := Go.Ground.phase }, { on := 32, ground := Go.Ground.phase }, { on := 33, ground := Go.Ground.phase }], guard := none }) (v := ?_) rfl (by kernel_rfl) (by kernel_rfl) (by kernel_rfl) (fun _ _ _ h => h) (Or.inl ⟨by rfl, ?_⟩) hSS ?_
    rotate_left
    · intro u hu
      have hu : Chg Non _ u := hu
      go_simp
      try with_reducible rfl
    try simp only [Act.put, List.setIfInBounds_toArray, List.set_cons_zero, List.set_cons_succ]
    refine wpAnyH_done (by kernel_rfl) ?_ _
    go_wp2_with fail
    go_meet
    case rel => exact ⟨rfl, kS⟩
  case rest =>
  obtain ⟨rfl, hcut⟩ := hcut
  obtain ⟨z1, hz⟩ : ∃ z, z = wc := ⟨_, rfl⟩
  rw [← hz] at hcut ⊢
  have K2 : Hid (Chg Non W0 z1) := K1.out.two hcut.out
  clear hz hcut wc
  go_upto_region 4 with fail
  go_cut [4] from 75 to 119 (fun u4 wc => u4 = .bool true ∧ Hid (Chg Non z1 wc))
  case first =>
    have hSS : Chg Non z1 z1.drew := (Chg.refl Non _).drew
    have kS : Chg Non z1 z1 := Chg.refl Non _
    refine wp_region_held_drew (S := fun u => Chg Non z1 u) (by kernel_rfl) hSS (fun _ => ?_)
    refine wpAnyH_take (i := 0) (oi := { dst := some 75, op := Go.Op.move (Go.Operand.tmp 4), type := 4, pos := "law.go:129", after := #[], guard := none }) (v := ?_) rfl (by kernel_rfl) (by kernel_rfl) (by kernel_rfl) (fun _ _ _ h => h) (Or.inl ⟨by rfl, ?_⟩) hSS ?_
    rotate_left
    · intro u hu
      have hu : Chg Non _ u := hu
      go_simp
      try with_reducible rfl
    try simp only [Act.put, List.setIfInBounds_toArray, List.set_cons_zero, List.set_cons_succ]
    refine wpAnyH_take (i := 1) (oi := { dst := some 76, op := Go.Op.move (Go.Operand.tmp 75), type := 4, pos := "law.go:129", after := #[{ on := 0, ground := Go.Ground.data }], guard := none }) (v := ?_) rfl (by kernel_rfl) (by kernel_rfl) (by kernel_rfl) (fun _ _ _ h => h) (Or.inl ⟨by rfl, ?_⟩) hSS ?_
    rotate_left
    · intro u hu
      have hu : Chg Non _ u := hu
      go_simp
      try with_reducible rfl
    try simp only [Act.put, List.setIfInBounds_toArray, List.set_cons_zero, List.set_cons_succ]
    refine wpAnyH_take (i := 2) (oi := { dst := some 77, op := Go.Op.fieldAddr 98 (Go.Operand.tmp 1) 5, type := 0, pos := "law.go:129", after := #[{ on := 1, ground := Go.Ground.guard }], guard := some (1, true) }) (v := ?_) rfl (by kernel_rfl) (by kernel_rfl) (by kernel_rfl) (fun _ _ _ h => h) (Or.inl ⟨by rfl, ?_⟩) hSS ?_
    rotate_left
    · intro u hu
      have hu : Chg Non _ u := hu
      go_simp
      try with_reducible rfl
    try simp only [Act.put, List.setIfInBounds_toArray, List.set_cons_zero, List.set_cons_succ]
    refine wpAnyH_take (i := 3) (oi := { dst := some 78, op := Go.Op.load 92 (Go.Operand.tmp 77), type := 92, pos := "law.go:129", after := #[{ on := 2, ground := Go.Ground.data }, { on := 1, ground := Go.Ground.guard }], guard := some (1, true) }) (v := ?_) rfl (by kernel_rfl) (by kernel_rfl) (by kernel_rfl) (fun _ _ _ h => h) (Or.inl ⟨by rfl, ?_⟩) hSS ?_
    rotate_left
    · intro u hu
      have hu : Chg Non _ u := hu
      have hc := HSC.out u (K2.out.two (kS.two hu))
      go_split_ands
      go_simp
      try with_reducible rfl
    try simp only [Act.put, List.setIfInBounds_toArray, List.set_cons_zero, List.set_cons_succ]
    refine wpAnyH_take (i := 6) (oi := { dst := some 81, op := Go.Op.fieldAddr 98 (Go.Operand.tmp 1) 5, type := 0, pos := "law.go:129", after := #[{ on := 1, ground := Go.Ground.guard }], guard := some (1, true) }) (v := ?_) rfl (by kernel_rfl) (by kernel_rfl) (by kernel_rfl) (fun _ _ _ h => h) (Or.inl ⟨by rfl, ?_⟩) hSS ?_
    rotate_left
    · intro u hu
      have hu : Chg Non _ u := hu
      go_simp
      try with_reducible rfl
    try simp only [Act.put, List.setIfInBounds_toArray, List.set_cons_zero, List.set_cons_succ]
    refine wpAnyH_take (i := 7) (oi := { dst := some 82, op := Go.Op.load 92 (Go.Operand.tmp 81), type := 92, pos := "law.go:129", after := #[{ on := 6, ground := Go.Ground.data }, { on := 1, ground := Go.Ground.guard }], guard := some (1, true) }) (v := ?_) rfl (by kernel_rfl) (by kernel_rfl) (by kernel_rfl) (fun _ _ _ h => h) (Or.inl ⟨by rfl, ?_⟩) hSS ?_
    rotate_left
    · intro u hu
      have hu : Chg Non _ u := hu
      have hc := HSC.out u (K2.out.two (kS.two hu))
      go_split_ands
      go_simp
      try with_reducible rfl
    try simp only [Act.put, List.setIfInBounds_toArray, List.set_cons_zero, List.set_cons_succ]
    refine wpAnyH_ready (rs := [4]) (by kernel_rfl) (by simp) ?_
    refine AllReadyH.cons (o := { dst := some 79, op := Go.Op.call { callee := Go.Callee.value (Go.Operand.func 87), args := #[Go.Operand.tmp 78], argTypes := #[92] }, type := 23, pos := "law.go:129", after := #[{ on := 3, ground := Go.Ground.data }, { on := 1, ground := Go.Ground.chain }, { on := 1, ground := Go.Ground.guard }], guard := some (1, true) }) rfl (fun K hK => ?_) AllReadyH.nil
    go_simp
    go_at_call 87
    refine (H87.out _ (K2.out.two (kS.two hSS))).mono ?_
    rintro e x87 ⟨zo87, zn87, zc87, rfl, cF87, o87⟩
    have c87 : Chg Non z1 x87 := hSS.two o87
    have e87 : ∀ q, Chg Non x87 q → (convert 23 9 (.slice zo87 zn87 zc87)).run Try.prog q = .ok (.string T6) q := cF87
    refine hK.out _ _ c87 (fun _ => wpAnyH_imp (S' := fun u => Chg Non x87 u) (fun u hu => c87.two hu) _ _ _ _ ?_)
    clear hK K hSS
    have kT : Chg Non z1 x87 := kS.two c87
    clear kS o87 cF87 c87
    have kS := kT
    clear kT
    have hSS : Chg Non x87 x87 := Chg.refl Non _
    try simp only [Act.put, List.setIfInBounds_toArray, List.set_cons_zero, List.set_cons_succ]
    refine wpAnyH_take (i := 5) (oi := { dst := some 80, op := Go.Op.convert 23 9 (Go.Operand.tmp 79), type := 9, pos := "law.go:129", after := #[{ on := 4, ground := Go.Ground.data }, { on := 1, ground := Go.Ground.guard }], guard := some (1, true) }) (v := ?_) rfl (by kernel_rfl) (by kernel_rfl) (by kernel_rfl) (fun _ _ _ h => h) (Or.inl ⟨by rfl, ?_⟩) hSS ?_
    rotate_left
    · intro u hu
      have hu : Chg Non _ u := hu
      have hc := e87 u hu
      go_simp
      try with_reducible rfl
    try simp only [Act.put, List.setIfInBounds_toArray, List.set_cons_zero, List.set_cons_succ]
    refine wpAnyH_ready (rs := [8]) (by kernel_rfl) (by simp) ?_
    refine AllReadyH.cons (o := { dst := some 83, op := Go.Op.call { callee := Go.Callee.value (Go.Operand.func 88), args := #[Go.Operand.tmp 82], argTypes := #[92] }, type := 23, pos := "law.go:129", after := #[{ on := 7, ground := Go.Ground.data }, { on := 4, ground := Go.Ground.chain }, { on := 1, ground := Go.Ground.guard }], guard := some (1, true) }) rfl (fun K hK => ?_) AllReadyH.nil
    go_simp
    go_at_call 88
    refine (H88.out _ (K2.out.two (kS.two hSS))).mono ?_
    rintro e x88 ⟨zo88, zn88, zc88, rfl, cF88, o88⟩
    have c88 : Chg Non x87 x88 := hSS.two o88
    have e88 : ∀ q, Chg Non x88 q → (convert 23 9 (.slice zo88 zn88 zc88)).run Try.prog q = .ok (.string T6) q := cF88
    refine hK.out _ _ c88 (fun _ => wpAnyH_imp (S' := fun u => Chg Non x88 u) (fun u hu => c88.two hu) _ _ _ _ ?_)
    clear hK K hSS
    have kT : Chg Non z1 x88 := kS.two c88
    clear kS o88 cF88 c88
    have kS := kT
    clear kT
    have hSS : Chg Non x88 x88 := Chg.refl Non _
    try simp only [Act.put, List.setIfInBounds_toArray, List.set_cons_zero, List.set_cons_succ]
    refine wpAnyH_take (i := 9) (oi := { dst := some 84, op := Go.Op.convert 23 9 (Go.Operand.tmp 83), type := 9, pos := "law.go:129", after := #[{ on := 8, ground := Go.Ground.data }, { on := 1, ground := Go.Ground.guard }], guard := some (1, true) }) (v := ?_) rfl (by kernel_rfl) (by kernel_rfl) (by kernel_rfl) (fun _ _ _ h => h) (Or.inl ⟨by rfl, ?_⟩) hSS ?_
    rotate_left
    · intro u hu
      have hu : Chg Non _ u := hu
      have hc := e88 u hu
      go_simp
      try with_reducible rfl
    try simp only [Act.put, List.setIfInBounds_toArray, List.set_cons_zero, List.set_cons_succ]
    refine wpAnyH_take (i := 10) (oi := { dst := some 85, op := Go.Op.binOp Go.BinOp.eql 9 (Go.Operand.tmp 80) (Go.Operand.tmp 84) 9, type := 4, pos := "law.go:129", after := #[{ on := 5, ground := Go.Ground.data }, { on := 9, ground := Go.Ground.data }, { on := 1, ground := Go.Ground.guard }], guard := some (1, true) }) (v := ?_) rfl (by kernel_rfl) (by kernel_rfl) (by kernel_rfl) (fun _ _ _ h => h) (Or.inl ⟨by rfl, ?_⟩) hSS ?_
    rotate_left
    · intro u hu
      have hu : Chg Non _ u := hu
      go_simp
      try with_reducible rfl
    try simp only [Act.put, List.setIfInBounds_toArray, List.set_cons_zero, List.set_cons_succ]
    refine wpAnyH_take (i := 11) (oi := { dst := some 86, op := Go.Op.pick (Go.Operand.tmp 76) (Go.Operand.tmp 85) (Go.Operand.const (Go.Value.bool false)), type := 4, pos := "law.go:129", after := #[{ on := 1, ground := Go.Ground.data }, { on := 10, ground := Go.Ground.data }], guard := none }) (v := ?_) rfl (by kernel_rfl) (by kernel_rfl) (by kernel_rfl) (fun _ _ _ h => h) (Or.inl ⟨by rfl, ?_⟩) hSS ?_
    rotate_left
    · intro u hu
      have hu : Chg Non _ u := hu
      go_simp
      try with_reducible rfl
    try simp only [Act.put, List.setIfInBounds_toArray, List.set_cons_zero, List.set_cons_succ]
    refine wpAnyH_take (i := 12) (oi := { dst := some 87, op := Go.Op.move (Go.Operand.tmp 86), type := 4, pos := "law.go:129", after := #[{ on := 11, ground := Go.Ground.data }, { on := 8, ground := Go.Ground.chain }], guard := none }) (v := ?_) rfl (by kernel_rfl) (by kernel_rfl) (by kernel_rfl) (fun _ _ _ h => h) (Or.inl ⟨by rfl, ?_⟩) hSS ?_
    rotate_left
    · intro u hu
      have hu : Chg Non _ u := hu
      go_simp
      try with_reducible rfl
    try simp only [Act.put, List.setIfInBounds_toArray, List.set_cons_zero, List.set_cons_succ]
    refine wpAnyH_take (i := 13) (oi := { dst := some 88, op := Go.Op.fieldAddr 98 (Go.Operand.tmp 1) 3, type := 0, pos := "law.go:129", after := #[{ on := 12, ground := Go.Ground.guard }], guard := some (12, true) }) (v := ?_) rfl (by kernel_rfl) (by kernel_rfl) (by kernel_rfl) (fun _ _ _ h => h) (Or.inl ⟨by rfl, ?_⟩) hSS ?_
    rotate_left
    · intro u hu
      have hu : Chg Non _ u := hu
      go_simp
      try with_reducible rfl
    try simp only [Act.put, List.setIfInBounds_toArray, List.set_cons_zero, List.set_cons_succ]
    refine wpAnyH_take (i := 14) (oi := { dst := some 89, op := Go.Op.load 23 (Go.Operand.tmp 88), type := 23, pos := "law.go:129", after := #[{ on := 13, ground := Go.Ground.data }, { on := 12, ground := Go.Ground.guard }], guard := some (12, true) }) (v := ?_) rfl (by kernel_rfl) (by kernel_rfl) (by kernel_rfl) (fun _ _ _ h => h) (Or.inl ⟨by rfl, ?_⟩) hSS ?_
    rotate_left
    · intro u hu
      have hu : Chg Non _ u := hu
      have hc := HSC.out u (K2.out.two (kS.two hu))
      go_split_ands
      go_simp
      try with_reducible rfl
    try simp only [Act.put, List.setIfInBounds_toArray, List.set_cons_zero, List.set_cons_succ]
    refine wpAnyH_take (i := 17) (oi := { dst := some 92, op := Go.Op.fieldAddr 98 (Go.Operand.tmp 1) 3, type := 0, pos := "law.go:129", after := #[{ on := 12, ground := Go.Ground.guard }], guard := some (12, true) }) (v := ?_) rfl (by kernel_rfl) (by kernel_rfl) (by kernel_rfl) (fun _ _ _ h => h) (Or.inl ⟨by rfl, ?_⟩) hSS ?_
    rotate_left
    · intro u hu
      have hu : Chg Non _ u := hu
      go_simp
      try with_reducible rfl
    try simp only [Act.put, List.setIfInBounds_toArray, List.set_cons_zero, List.set_cons_succ]
    refine wpAnyH_take (i := 18) (oi := { dst := some 93, op := Go.Op.load 23 (Go.Operand.tmp 92), type := 23, pos := "law.go:129", after := #[{ on := 17, ground := Go.Ground.data }, { on := 12, ground := Go.Ground.guard }], guard := some (12, true) }) (v := ?_) rfl (by kernel_rfl) (by kernel_rfl) (by kernel_rfl) (fun _ _ _ h => h) (Or.inl ⟨by rfl, ?_⟩) hSS ?_
    rotate_left
    · intro u hu
      have hu : Chg Non _ u := hu
      have hc := HSC.out u (K2.out.two (kS.two hu))
      go_split_ands
      go_simp
      try with_reducible rfl
    try simp only [Act.put, List.setIfInBounds_toArray, List.set_cons_zero, List.set_cons_succ]
    refine wpAnyH_ready (rs := [15]) (by kernel_rfl) (by simp) ?_
    refine AllReadyH.cons (o := { dst := some 90, op := Go.Op.call { callee := Go.Callee.value (Go.Operand.func 89), args := #[Go.Operand.tmp 89], argTypes := #[23] }, type := 23, pos := "law.go:129", after := #[{ on := 14, ground := Go.Ground.data }, { on := 12, ground := Go.Ground.chain }, { on := 12, ground := Go.Ground.guard }], guard := some (12, true) }) rfl (fun K hK => ?_) AllReadyH.nil
    go_simp
    go_at_call 89
    refine (H89.out _ (K2.out.two (kS.two hSS))).mono ?_
    rintro e x89 ⟨zo89, zn89, zc89, rfl, cF89, o89⟩
    have c89 : Chg Non x88 x89 := hSS.two o89
    have e89 : ∀ q, Chg Non x89 q → (convert 23 9 (.slice zo89 zn89 zc89)).run Try.prog q = .ok (.string T7) q := cF89
    refine hK.out _ _ c89 (fun _ => wpAnyH_imp (S' := fun u => Chg Non x89 u) (fun u hu => c89.two hu) _ _ _ _ ?_)
    clear hK K hSS
    have kT : Chg Non z1 x89 := kS.two c89
    clear kS o89 cF89 c89
    have kS := kT
    clear kT
    have hSS : Chg Non x89 x89 := Chg.refl Non _
    try simp only [Act.put, List.setIfInBounds_toArray, List.set_cons_zero, List.set_cons_succ]
    refine wpAnyH_take (i := 16) (oi := { dst := some 91, op := Go.Op.convert 23 9 (Go.Operand.tmp 90), type := 9, pos := "law.go:129", after := #[{ on := 15, ground := Go.Ground.data }, { on := 12, ground := Go.Ground.guard }], guard := some (12, true) }) (v := ?_) rfl (by kernel_rfl) (by kernel_rfl) (by kernel_rfl) (fun _ _ _ h => h) (Or.inl ⟨by rfl, ?_⟩) hSS ?_
    rotate_left
    · intro u hu
      have hu : Chg Non _ u := hu
      have hc := e89 u hu
      go_simp
      try with_reducible rfl
    try simp only [Act.put, List.setIfInBounds_toArray, List.set_cons_zero, List.set_cons_succ]
    refine wpAnyH_ready (rs := [19]) (by kernel_rfl) (by simp) ?_
    refine AllReadyH.cons (o := { dst := some 94, op := Go.Op.call { callee := Go.Callee.value (Go.Operand.func 90), args := #[Go.Operand.tmp 93], argTypes := #[23] }, type := 23, pos := "law.go:129", after := #[{ on := 18, ground := Go.Ground.data }, { on := 15, ground := Go.Ground.chain }, { on := 12, ground := Go.Ground.guard }], guard := some (12, true) }) rfl (fun K hK => ?_) AllReadyH.nil
    go_simp
    go_at_call 90
    refine (H90.out _ (K2.out.two (kS.two hSS))).mono ?_
    rintro e x90 ⟨zo90, zn90, zc90, rfl, cF90, o90⟩
    have c90 : Chg Non x89 x90 := hSS.two o90
    have e90 : ∀ q, Chg Non x90 q → (convert 23 9 (.slice zo90 zn90 zc90)).run Try.prog q = .ok (.string T7) q := cF90
    refine hK.out _ _ c90 (fun _ => wpAnyH_imp (S' := fun u => Chg Non x90 u) (fun u hu => c90.two hu) _ _ _ _ ?_)
    clear hK K hSS
    have kT : Chg Non z1 x90 := kS.two c90
    clear kS o90 cF90 c90
    have kS := kT
    clear kT
    have hSS : Chg Non x90 x90 := Chg.refl Non _
    try simp only [Act.put, List.setIfInBounds_toArray, List.set_cons_zero, List.set_cons_succ]
    refine wpAnyH_take (i := 20) (oi := { dst := some 95, op := Go.Op.convert 23 9 (Go.Operand.tmp 94), type := 9, pos := "law.go:129", after := #[{ on := 19, ground := Go.Ground.data }, { on := 12, ground := Go.Ground.guard }], guard := some (12, true) }) (v := ?_) rfl (by kernel_rfl) (by kernel_rfl) (by kernel_rfl) (fun _ _ _ h => h) (Or.inl ⟨by rfl, ?_⟩) hSS ?_
    rotate_left
    · intro u hu
      have hu : Chg Non _ u := hu
      have hc := e90 u hu
      go_simp
      try with_reducible rfl
    try simp only [Act.put, List.setIfInBounds_toArray, List.set_cons_zero, List.set_cons_succ]
    refine wpAnyH_take (i := 21) (oi := { dst := some 96, op := Go.Op.binOp Go.BinOp.eql 9 (Go.Operand.tmp 91) (Go.Operand.tmp 95) 9, type := 4, pos := "law.go:129", after := #[{ on := 16, ground := Go.Ground.data }, { on := 20, ground := Go.Ground.data }, { on := 12, ground := Go.Ground.guard }], guard := some (12, true) }) (v := ?_) rfl (by kernel_rfl) (by kernel_rfl) (by kernel_rfl) (fun _ _ _ h => h) (Or.inl ⟨by rfl, ?_⟩) hSS ?_
    rotate_left
    · intro u hu
      have hu : Chg Non _ u := hu
      go_simp
      try with_reducible rfl
    try simp only [Act.put, List.setIfInBounds_toArray, List.set_cons_zero, List.set_cons_succ]
    refine wpAnyH_take (i := 22) (oi := { dst := some 97, op := Go.Op.pick (Go.Operand.tmp 87) (Go.Operand.tmp 96) (Go.Operand.const (Go.Value.bool false)), type := 4, pos := "law.go:129", after := #[{ on := 12, ground := Go.Ground.data }, { on := 21, ground := Go.Ground.data }], guard := none }) (v := ?_) rfl (by kernel_rfl) (by kernel_rfl) (by kernel_rfl) (fun _ _ _ h => h) (Or.inl ⟨by rfl, ?_⟩) hSS ?_
    rotate_left
    · intro u hu
      have hu : Chg Non _ u := hu
      go_simp
      try with_reducible rfl
    try simp only [Act.put, List.setIfInBounds_toArray, List.set_cons_zero, List.set_cons_succ]
    refine wpAnyH_take (i := 23) (oi := { dst := some 98, op := Go.Op.move (Go.Operand.tmp 97), type := 4, pos := "law.go:129", after := #[{ on := 22, ground := Go.Ground.data }, { on := 19, ground := Go.Ground.chain }], guard := none }) (v := ?_) rfl (by kernel_rfl) (by kernel_rfl) (by kernel_rfl) (fun _ _ _ h => h) (Or.inl ⟨by rfl, ?_⟩) hSS ?_
    rotate_left
    · intro u hu
      have hu : Chg Non _ u := hu
      go_simp
      try with_reducible rfl
    try simp only [Act.put, List.setIfInBounds_toArray, List.set_cons_zero, List.set_cons_succ]
    refine wpAnyH_take (i := 24) (oi := { dst := some 99, op := Go.Op.fieldAddr 98 (Go.Operand.tmp 1) 3, type := 0, pos := "law.go:129", after := #[{ on := 23, ground := Go.Ground.guard }], guard := some (23, true) }) (v := ?_) rfl (by kernel_rfl) (by kernel_rfl) (by kernel_rfl) (fun _ _ _ h => h) (Or.inl ⟨by rfl, ?_⟩) hSS ?_
    rotate_left
    · intro u hu
      have hu : Chg Non _ u := hu
      go_simp
      try with_reducible rfl
    try simp only [Act.put, List.setIfInBounds_toArray, List.set_cons_zero, List.set_cons_succ]
    refine wpAnyH_take (i := 25) (oi := { dst := some 100, op := Go.Op.load 23 (Go.Operand.tmp 99), type := 23, pos := "law.go:129", after := #[{ on := 24, ground := Go.Ground.data }, { on := 23, ground := Go.Ground.guard }], guard := some (23, true) }) (v := ?_) rfl (by kernel_rfl) (by kernel_rfl) (by kernel_rfl) (fun _ _ _ h => h) (Or.inl ⟨by rfl, ?_⟩) hSS ?_
    rotate_left
    · intro u hu
      have hu : Chg Non _ u := hu
      have hc := HSC.out u (K2.out.two (kS.two hu))
      go_split_ands
      go_simp
      try with_reducible rfl
    try simp only [Act.put, List.setIfInBounds_toArray, List.set_cons_zero, List.set_cons_succ]
    refine wpAnyH_take (i := 28) (oi := { dst := some 103, op := Go.Op.fieldAddr 98 (Go.Operand.tmp 1) 3, type := 0, pos := "law.go:129", after := #[{ on := 23, ground := Go.Ground.guard }], guard := some (23, true) }) (v := ?_) rfl (by kernel_rfl) (by kernel_rfl) (by kernel_rfl) (fun _ _ _ h => h) (Or.inl ⟨by rfl, ?_⟩) hSS ?_
    rotate_left
    · intro u hu
      have hu : Chg Non _ u := hu
      go_simp
      try with_reducible rfl
    try simp only [Act.put, List.setIfInBounds_toArray, List.set_cons_zero, List.set_cons_succ]
    refine wpAnyH_take (i := 29) (oi := { dst := some 104, op := Go.Op.load 23 (Go.Operand.tmp 103), type := 23, pos := "law.go:129", after := #[{ on := 28, ground := Go.Ground.data }, { on := 23, ground := Go.Ground.guard }], guard := some (23, true) }) (v := ?_) rfl (by kernel_rfl) (by kernel_rfl) (by kernel_rfl) (fun _ _ _ h => h) (Or.inl ⟨by rfl, ?_⟩) hSS ?_
    rotate_left
    · intro u hu
      have hu : Chg Non _ u := hu
      have hc := HSC.out u (K2.out.two (kS.two hu))
      go_split_ands
      go_simp
      try with_reducible rfl
    try simp only [Act.put, List.setIfInBounds_toArray, List.set_cons_zero, List.set_cons_succ]
    refine wpAnyH_ready (rs := [26]) (by kernel_rfl) (by simp) ?_
    refine AllReadyH.cons (o := { dst := some 101, op := Go.Op.call { callee := Go.Callee.value (Go.Operand.func 91), args := #[Go.Operand.tmp 100], argTypes := #[23] }, type := 23, pos := "law.go:129", after := #[{ on := 25, ground := Go.Ground.data }, { on := 23, ground := Go.Ground.chain }, { on := 23, ground := Go.Ground.guard }], guard := some (23, true) }) rfl (fun K hK => ?_) AllReadyH.nil
    go_simp
    go_at_call 91
    refine (H91.out _ (K2.out.two (kS.two hSS))).mono ?_
    rintro e x91 ⟨zo91, zn91, zc91, rfl, cF91, o91⟩
    have c91 : Chg Non x90 x91 := hSS.two o91
    have e91 : ∀ q, Chg Non x91 q → (convert 23 9 (.slice zo91 zn91 zc91)).run Try.prog q = .ok (.string T8) q := cF91
    refine hK.out _ _ c91 (fun _ => wpAnyH_imp (S' := fun u => Chg Non x91 u) (fun u hu => c91.two hu) _ _ _ _ ?_)
    clear hK K hSS
    have kT : Chg Non z1 x91 := kS.two c91
    clear kS o91 cF91 c91
    have kS := kT
    clear kT
    have hSS : Chg Non x91 x91 := Chg.refl Non _
    try simp only [Act.put, List.setIfInBounds_toArray, List.set_cons_zero, List.set_cons_succ]
    refine wpAnyH_take (i := 27) (oi := { dst := some 102, op := Go.Op.convert 23 9 (Go.Operand.tmp 101), type := 9, pos := "law.go:129", after := #[{ on := 26, ground := Go.Ground.data }, { on := 23, ground := Go.Ground.guard }], guard := some (23, true) }) (v := ?_) rfl (by kernel_rfl) (by kernel_rfl) (by kernel_rfl) (fun _ _ _ h => h) (Or.inl ⟨by rfl, ?_⟩) hSS ?_
    rotate_left
    · intro u hu
      have hu : Chg Non _ u := hu
      have hc := e91 u hu
      go_simp
      try with_reducible rfl
    try simp only [Act.put, List.setIfInBounds_toArray, List.set_cons_zero, List.set_cons_succ]
    refine wpAnyH_ready (rs := [30]) (by kernel_rfl) (by simp) ?_
    refine AllReadyH.cons (o := { dst := some 105, op := Go.Op.call { callee := Go.Callee.value (Go.Operand.func 92), args := #[Go.Operand.tmp 104], argTypes := #[23] }, type := 23, pos := "law.go:129", after := #[{ on := 29, ground := Go.Ground.data }, { on := 26, ground := Go.Ground.chain }, { on := 23, ground := Go.Ground.guard }], guard := some (23, true) }) rfl (fun K hK => ?_) AllReadyH.nil
    go_simp
    go_at_call 92
    refine (H92.out _ (K2.out.two (kS.two hSS))).mono ?_
    rintro e x92 ⟨zo92, zn92, zc92, rfl, cF92, o92⟩
    have c92 : Chg Non x91 x92 := hSS.two o92
    have e92 : ∀ q, Chg Non x92 q → (convert 23 9 (.slice zo92 zn92 zc92)).run Try.prog q = .ok (.string T8) q := cF92
    refine hK.out _ _ c92 (fun _ => wpAnyH_imp (S' := fun u => Chg Non x92 u) (fun u hu => c92.two hu) _ _ _ _ ?_)
    clear hK K hSS
    have kT : Chg Non z1 x92 := kS.two c92
    clear kS o92 cF92 c92
    have kS := kT
    clear kT
    have hSS : Chg Non x92 x92 := Chg.refl Non _
    try simp only [Act.put, List.setIfInBounds_toArray, List.set_cons_zero, List.set_cons_succ]
    refine wpAnyH_take (i := 31) (oi := { dst := some 106, op := Go.Op.convert 23 9 (Go.Operand.tmp 105), type := 9, pos := "law.go:129", after := #[{ on := 30, ground := Go.Ground.data }, { on := 23, ground := Go.Ground.guard }], guard := some (23, true) }) (v := ?_) rfl (by kernel_rfl) (by kernel_rfl) (by kernel_rfl) (fun _ _ _ h => h) (Or.inl ⟨by rfl, ?_⟩) hSS ?_
    rotate_left
    · intro u hu
      have hu : Chg Non _ u := hu
      have hc := e92 u hu
      go_simp
      try with_reducible rfl
    try simp only [Act.put, List.setIfInBounds_toArray, List.set_cons_zero, List.set_cons_succ]
    refine wpAnyH_take (i := 32) (oi := { dst := some 107, op := Go.Op.binOp Go.BinOp.eql 9 (Go.Operand.tmp 102) (Go.Operand.tmp 106) 9, type := 4, pos := "law.go:129", after := #[{ on := 27, ground := Go.Ground.data }, { on := 31, ground := Go.Ground.data }, { on := 23, ground := Go.Ground.guard }], guard := some (23, true) }) (v := ?_) rfl (by kernel_rfl) (by kernel_rfl) (by kernel_rfl) (fun _ _ _ h => h) (Or.inl ⟨by rfl, ?_⟩) hSS ?_
    rotate_left
    · intro u hu
      have hu : Chg Non _ u := hu
      go_simp
      try with_reducible rfl
    try simp only [Act.put, List.setIfInBounds_toArray, List.set_cons_zero, List.set_cons_succ]
    refine wpAnyH_take (i := 33) (oi := { dst := some 108, op := Go.Op.pick (Go.Operand.tmp 98) (Go.Operand.tmp 107) (Go.Operand.const (Go.Value.bool false)), type := 4, pos := "law.go:129", after := #[{ on := 23, ground := Go.Ground.data }, { on := 32, ground := Go.Ground.data }], guard := none }) (v := ?_) rfl (by kernel_rfl) (by kernel_rfl) (by kernel_rfl) (fun _ _ _ h => h) (Or.inl ⟨by rfl, ?_⟩) hSS ?_
    rotate_left
    · intro u hu
      have hu : Chg Non _ u := hu
      go_simp
      try with_reducible rfl
    try simp only [Act.put, List.setIfInBounds_toArray, List.set_cons_zero, List.set_cons_succ]
    refine wpAnyH_take (i := 34) (oi := { dst := some 109, op := Go.Op.move (Go.Operand.tmp 108), type := 4, pos := "law.go:129", after := #[{ on := 33, ground := Go.Ground.data }, { on := 30, ground := Go.Ground.chain }], guard := none }) (v := ?_) rfl (by kernel_rfl) (by kernel_rfl) (by kernel_rfl) (fun _ _ _ h => h) (Or.inl ⟨by rfl, ?_⟩) hSS ?_
    rotate_left
    · intro u hu
      have hu : Chg Non _ u := hu
      go_simp
      try with_reducible rfl
    try simp only [Act.put, List.setIfInBounds_toArray, List.set_cons_zero, List.set_cons_succ]
    refine wpAnyH_take (i := 35) (oi := { dst := some 110, op := Go.Op.fieldAddr 98 (Go.Operand.tmp 1) 7, type := 0, pos := "law.go:129", after := #[{ on := 34, ground := Go.Ground.guard }], guard := some (34, true) }) (v := ?_) rfl (by kernel_rfl) (by kernel_rfl) (by kernel_rfl) (fun _ _ _ h => h) (Or.inl ⟨by rfl, ?_⟩) hSS ?_
    rotate_left
    · intro u hu
      have hu : Chg Non _ u := hu
      go_simp
      try with_reducible rfl
    try simp only [Act.put, List.setIfInBounds_toArray, List.set_cons_zero, List.set_cons_succ]
    refine wpAnyH_take (i := 36) (oi := { dst := some 111, op := Go.Op.load 32 (Go.Operand.tmp 110), type := 32, pos := "law.go:129", after := #[{ on := 35, ground := Go.Ground.data }, { on := 34, ground := Go.Ground.guard }], guard := some (34, true) }) (v := ?_) rfl (by kernel_rfl) (by kernel_rfl) (by kernel_rfl) (fun _ _ _ h => h) (Or.inl ⟨by rfl, ?_⟩) hSS ?_
    rotate_left
    · intro u hu
      have hu : Chg Non _ u := hu
      have hc := HSC.out u (K2.out.two (kS.two hu))
      go_split_ands
      go_simp
      try with_reducible rfl
    try simp only [Act.put, List.setIfInBounds_toArray, List.set_cons_zero, List.set_cons_succ]
    refine wpAnyH_take (i := 39) (oi := { dst := some 114, op := Go.Op.fieldAddr 98 (Go.Operand.tmp 1) 7, type := 0, pos := "law.go:129", after := #[{ on := 34, ground := Go.Ground.guard }], guard := some (34, true) }) (v := ?_) rfl (by kernel_rfl) (by kernel_rfl) (by kernel_rfl) (fun _ _ _ h => h) (Or.inl ⟨by rfl, ?_⟩) hSS ?_
    rotate_left
    · intro u hu
      have hu : Chg Non _ u := hu
      go_simp
      try with_reducible rfl
    try simp only [Act.put, List.setIfInBounds_toArray, List.set_cons_zero, List.set_cons_succ]
    refine wpAnyH_take (i := 40) (oi := { dst := some 115, op := Go.Op.load 32 (Go.Operand.tmp 114), type := 32, pos := "law.go:129", after := #[{ on := 39, ground := Go.Ground.data }, { on := 34, ground := Go.Ground.guard }], guard := some (34, true) }) (v := ?_) rfl (by kernel_rfl) (by kernel_rfl) (by kernel_rfl) (fun _ _ _ h => h) (Or.inl ⟨by rfl, ?_⟩) hSS ?_
    rotate_left
    · intro u hu
      have hu : Chg Non _ u := hu
      have hc := HSC.out u (K2.out.two (kS.two hu))
      go_split_ands
      go_simp
      try with_reducible rfl
    try simp only [Act.put, List.setIfInBounds_toArray, List.set_cons_zero, List.set_cons_succ]
    refine wpAnyH_ready (rs := [37]) (by kernel_rfl) (by simp) ?_
    refine AllReadyH.cons (o := { dst := some 112, op := Go.Op.call { callee := Go.Callee.value (Go.Operand.func 93), args := #[Go.Operand.tmp 111], argTypes := #[32] }, type := 23, pos := "law.go:129", after := #[{ on := 36, ground := Go.Ground.data }, { on := 34, ground := Go.Ground.chain }, { on := 34, ground := Go.Ground.guard }], guard := some (34, true) }) rfl (fun K hK => ?_) AllReadyH.nil
    go_simp
    go_at_call 93
    refine (H93.out _ (K2.out.two (kS.two hSS))).mono ?_
    rintro e x93 ⟨zo93, zn93, zc93, rfl, cF93, o93⟩
    have c93 : Chg Non x92 x93 := hSS.two o93
    have e93 : ∀ q, Chg Non x93 q → (convert 23 9 (.slice zo93 zn93 zc93)).run Try.prog q = .ok (.string T9) q := cF93
    refine hK.out _ _ c93 (fun _ => wpAnyH_imp (S' := fun u => Chg Non x93 u) (fun u hu => c93.two hu) _ _ _ _ ?_)
    clear hK K hSS
    have kT : Chg Non z1 x93 := kS.two c93
    clear kS o93 cF93 c93
    have kS := kT
    clear kT
    have hSS : Chg Non x93 x93 := Chg.refl Non _
    try simp only [Act.put, List.setIfInBounds_toArray, List.set_cons_zero, List.set_cons_succ]
    refine wpAnyH_take (i := 38) (oi := { dst := some 113, op := Go.Op.convert 23 9 (Go.Operand.tmp 112), type := 9, pos := "law.go:129", after := #[{ on := 37, ground := Go.Ground.data }, { on := 34, ground := Go.Ground.guard }], guard := some (34, true) }) (v := ?_) rfl (by kernel_rfl) (by kernel_rfl) (by kernel_rfl) (fun _ _ _ h => h) (Or.inl ⟨by rfl, ?_⟩) hSS ?_
    rotate_left
    · intro u hu
      have hu : Chg Non _ u := hu
      have hc := e93 u hu
      go_simp
      try with_reducible rfl
    try simp only [Act.put, List.setIfInBounds_toArray, List.set_cons_zero, List.set_cons_succ]
    refine wpAnyH_ready (rs := [41]) (by kernel_rfl) (by simp) ?_
    refine AllReadyH.cons (o := { dst := some 116, op := Go.Op.call { callee := Go.Callee.value (Go.Operand.func 94), args := #[Go.Operand.tmp 115], argTypes := #[32] }, type := 23, pos := "law.go:129", after := #[{ on := 40, ground := Go.Ground.data }, { on := 37, ground := Go.Ground.chain }, { on := 34, ground := Go.Ground.guard }], guard := some (34, true) }) rfl (fun K hK => ?_) AllReadyH.nil
    go_simp
    go_at_call 94
    refine (H94.out _ (K2.out.two (kS.two hSS))).mono ?_
    rintro e x94 ⟨zo94, zn94, zc94, rfl, cF94, o94⟩
    have c94 : Chg Non x93 x94 := hSS.two o94
    have e94 : ∀ q, Chg Non x94 q → (convert 23 9 (.slice zo94 zn94 zc94)).run Try.prog q = .ok (.string T9) q := cF94
    refine hK.out _ _ c94 (fun _ => wpAnyH_imp (S' := fun u => Chg Non x94 u) (fun u hu => c94.two hu) _ _ _ _ ?_)
    clear hK K hSS
    have kT : Chg Non z1 x94 := kS.two c94
    clear kS o94 cF94 c94
    have kS := kT
    clear kT
    have hSS : Chg Non x94 x94 := Chg.refl Non _
    try simp only [Act.put, List.setIfInBounds_toArray, List.set_cons_zero, List.set_cons_succ]
    refine wpAnyH_take (i := 42) (oi := { dst := some 117, op := Go.Op.convert 23 9 (Go.Operand.tmp 116), type := 9, pos := "law.go:129", after := #[{ on := 41, ground := Go.Ground.data }, { on := 34, ground := Go.Ground.guard }], guard := some (34, true) }) (v := ?_) rfl (by kernel_rfl) (by kernel_rfl) (by kernel_rfl) (fun _ _ _ h => h) (Or.inl ⟨by rfl, ?_⟩) hSS ?_
    rotate_left
    · intro u hu
      have hu : Chg Non _ u := hu
      have hc := e94 u hu
      go_simp
      try with_reducible rfl
    try simp only [Act.put, List.setIfInBounds_toArray, List.set_cons_zero, List.set_cons_succ]
    refine wpAnyH_take (i := 43) (oi := { dst := some 118, op := Go.Op.binOp Go.BinOp.eql 9 (Go.Operand.tmp 113) (Go.Operand.tmp 117) 9, type := 4, pos := "law.go:129", after := #[{ on := 38, ground := Go.Ground.data }, { on := 42, ground := Go.Ground.data }, { on := 34, ground := Go.Ground.guard }], guard := some (34, true) }) (v := ?_) rfl (by kernel_rfl) (by kernel_rfl) (by kernel_rfl) (fun _ _ _ h => h) (Or.inl ⟨by rfl, ?_⟩) hSS ?_
    rotate_left
    · intro u hu
      have hu : Chg Non _ u := hu
      go_simp
      try with_reducible rfl
    try simp only [Act.put, List.setIfInBounds_toArray, List.set_cons_zero, List.set_cons_succ]
    refine wpAnyH_take (i := 44) (oi := { dst := some 119, op := Go.Op.pick (Go.Operand.tmp 109) (Go.Operand.tmp 118) (Go.Operand.const (Go.Value.bool false)), type := 4, pos := "law.go:129", after := #[{ on := 34, ground := Go.Ground.data }, { on := 43, ground := Go.Ground.data }], guard := none }) (v := ?_) rfl (by kernel_rfl) (by kernel_rfl) (by kernel_rfl) (fun _ _ _ h => h) (Or.inl ⟨by rfl, ?_⟩) hSS ?_
    rotate_left
    · intro u hu
      have hu : Chg Non _ u := hu
      go_simp
      try with_reducible rfl
    try simp only [Act.put, List.setIfInBounds_toArray, List.set_cons_zero, List.set_cons_succ]
    refine wpAnyH_take (i := 45) (oi := { dst := some 4, op := Go.Op.assign (Go.Operand.tmp 119), type := 4, pos := "law.go:129", after := #[{ on := 44, ground := Go.Ground.data }, { on := 41, ground := Go.Ground.chain }, { on := 0, ground := Go.Ground.phase }, { on := 1, ground := Go.Ground.phase }, { on := 2, ground := Go.Ground.phase }, { on := 3, ground := Go.Ground.phase }, { on := 4, ground := Go.Ground.phase }, { on := 5, ground := Go.Ground.phase }, { on := 6, ground := Go.Ground.phase }, { on := 7, ground := Go.Ground.phase }, { on := 8, ground := Go.Ground.phase }, { on := 9, ground := Go.Ground.phase }, { on := 10, ground := Go.Ground.phase }, { on := 11, ground := Go.Ground.phase }, { on := 12, ground := Go.Ground.phase }, { on := 13, ground := Go.Ground.phase }, { on := 14, ground := Go.Ground.phase }, { on := 15, ground := Go.Ground.phase }, { on := 16, ground := Go.Ground.phase }, { on := 17, ground := Go.Ground.phase }, { on := 18, ground := Go.Ground.phase }, { on := 19, ground := Go.Ground.phase }, { on := 20, ground := Go.Ground.phase }, { on := 21, ground := Go.Ground.phase }, { on := 22, ground := Go.Ground.phase }, { on := 23, ground := Go.Ground.phase }, { on := 24, ground := Go.Ground.phase }, { on := 25, ground := Go.Ground.phase }, { on := 26, ground := Go.Ground.phase }, { on := 27, ground := Go.Ground.phase }, { on := 28, ground := Go.Ground.phase }, { on := 29, ground := Go.Ground.phase }, { on := 30, ground := Go.Ground.phase }, { on := 31, ground := Go.Ground.phase }, { on := 32, ground := Go.Ground.phase }, { on := 33, ground := Go.Ground.phase }, { on := 34, ground := Go.Ground.phase }, { on := 35, ground := Go.Ground.phase }, { on := 36, ground := Go.Ground.phase }, { on := 37, ground := Go.Ground.phase }, { on := 38, ground := Go.Ground.phase }, { on := 39, ground := Go.Ground.phase }, { on := 40, ground := Go.Ground.phase }, { on := 41, ground := Go.Ground.phase }, { on := 42, ground := Go.Ground.phase }, { on := 43, ground := Go.Ground.phase }, { on := 44, ground := Go.Ground.phase }], guard := none }) (v := ?_) rfl (by kernel_rfl) (by kernel_rfl) (by kernel_rfl) (fun _ _ _ h => h) (Or.inl ⟨by rfl, ?_⟩) hSS ?_
    rotate_left
    · intro u hu
      have hu : Chg Non _ u := hu
      go_simp
      try with_reducible rfl
    try simp only [Act.put, List.setIfInBounds_toArray, List.set_cons_zero, List.set_cons_succ]
    refine wpAnyH_done (by kernel_rfl) ?_ _
    go_wp2_with fail
    go_meet
    case rel => exact ⟨rfl, kS⟩
  case rest =>
  obtain ⟨rfl, hcut⟩ := hcut
  obtain ⟨z2, hz⟩ : ∃ z, z = wc := ⟨_, rfl⟩
  rw [← hz] at hcut ⊢
  have K3 : Hid (Chg Non W0 z2) := K2.out.two hcut.out
  clear hz hcut wc
  obtain ⟨ff, hff⟩ : ∃ b, b = (findX n d.2.2.2.2.2.2.1).isSome := ⟨_, rfl⟩
  have HFF : Hid (ff = (findX n d.2.2.2.2.2.2.1).isSome) := hff
  clear hff
  by_cases hl4 : 0 < l4
  · have h4 := R4.out z2 K3.out
    have hL4 : l4 = List.length (α := Ext) d.2.2.2.2.1 := by
      obtain ⟨ao', n', c', e, e2, -⟩ := id h4
      injection e with e
      injection e with _ e _
      exact e.trans e2
    obtain ⟨z, hz⟩ : ∃ z : Ext, (show List Ext from d.2.2.2.2.1)[0]? = some z := ⟨(show List Ext from d.2.2.2.2.1)[0]'(by show 0 < List.length (α := Ext) d.2.2.2.2.1; omega), List.getElem?_eq_getElem _⟩
    obtain ⟨b, ob, cb, e, hb1, hb2, -, hb3⟩ := h4.at hL4 hl4 (by decide)
    injection e with e1 e2 e3
    subst e1
    subst e3
    obtain ⟨us, hr, hcel⟩ := hb3 0 z hz
    have hcN : l4 ≤ c4 := hb1
    have hcm : c4 ≤ 9223372036854775807 := hb2
    obtain ⟨ea, el, ec, rfl, hr1, hr2⟩ := hr.ext
    obtain ⟨ti, hti⟩ : ∃ ti : Int, ti = z.1 := ⟨_, rfl⟩
    rw [← hti] at hcel hr
    have q0 : z2.cell? ⟨b, ob, none⟩ = some (.int .u16 ti) := by simpa using hcel 0 _ rfl
    have q1 : z2.cell? ⟨b, ob + 1, none⟩ = some (.slice ea el ec) := by simpa using hcel 1 _ rfl
    have HSD : Hid (∀ u, Chg Non z2 u → u.cell? ⟨w.heap.size, 4, none⟩ = some (.slice (some ⟨b, ob, none⟩) l4 c4) ∧ u.cell? ⟨b, ob, none⟩ = some (.int .u16 ti) ∧ u.cell? ⟨b, ob + 1, none⟩ = some (.slice ea el ec)) := fun u hu => ⟨cell_at 4 (HBX.out u (K3.out.two hu)) rfl, cell_kept q0 hu, cell_kept q1 hu⟩
    have HRS : Hid (∀ u, Chg Non z2 u → Rel tExt (Bel u.heap.size) u [.int .u16 ti, .slice ea el ec] z) := fun u hu => (hr.oldN hu).bel2 hu.size
    obtain ⟨TA, hTA⟩ : ∃ T, T = strOfNums ((wShare z).getD []) := ⟨_, rfl⟩
    have H95 : Hid (∀ u, Chg Non z2 u → Calls Try.prog 95 #[.agg #[.int .u16 ti, .slice ea el ec]] u fun e w' => PC TA u w' e) := fun u hu => PO.pc hTA (putShare_any ti ea el ec z u (HRS.out u hu))
    have H96 : Hid (∀ u, Chg Non z2 u → Calls Try.prog 96 #[.agg #[.int .u16 ti, .slice ea el ec]] u fun e w' => PC TA u w' e) := fun u hu => PO.pc hTA (dputShare_any ti ea el ec z u (HRS.out u hu))
    clear hTA hb3 hcel hr hr1 hr2 hti hz q0 q1 hb1 hb2 e2 h4 hL4
    have hs := HSC.out z2 K3.out
    go_split_ands
    go_upto_region 6 with fail
    go_cut [4] from 124 to 139 (fun u4 wc => u4 = .bool true ∧ Hid (Chg Non z2 wc))
    case first =>
      have hSS : Chg Non z2 z2.drew := (Chg.refl Non _).drew
      have kS : Chg Non z2 z2 := Chg.refl Non _
      refine wp_region_held_drew (S := fun u => Chg Non z2 u) (by kernel_rfl) hSS (fun _ => ?_)
      refine wpAnyH_take (i := 0) (oi := { dst := some 124, op := Go.Op.move (Go.Operand.tmp 4), type := 4, pos := "law.go:131", after := #[], guard := none }) (v := ?_) rfl (by kernel_rfl) (by kernel_rfl) (by kernel_rfl) (fun _ _ _ h => h) (Or.inl ⟨by rfl, ?_⟩) hSS ?_
      rotate_left
      · intro u hu
        have hu : Chg Non _ u := hu
        go_simp
        try with_reducible rfl
      try simp only [Act.put, List.setIfInBounds_toArray, List.set_cons_zero, List.set_cons_succ]
      refine wpAnyH_take (i := 1) (oi := { dst := some 125, op := Go.Op.move (Go.Operand.tmp 124), type := 4, pos := "law.go:131", after := #[{ on := 0, ground := Go.Ground.data }], guard := none }) (v := ?_) rfl (by kernel_rfl) (by kernel_rfl) (by kernel_rfl) (fun _ _ _ h => h) (Or.inl ⟨by rfl, ?_⟩) hSS ?_
      rotate_left
      · intro u hu
        have hu : Chg Non _ u := hu
        go_simp
        try with_reducible rfl
      try simp only [Act.put, List.setIfInBounds_toArray, List.set_cons_zero, List.set_cons_succ]
      refine wpAnyH_take (i := 2) (oi := { dst := some 126, op := Go.Op.fieldAddr 98 (Go.Operand.tmp 1) 4, type := 0, pos := "law.go:131", after := #[{ on := 1, ground := Go.Ground.guard }], guard := some (1, true) }) (v := ?_) rfl (by kernel_rfl) (by kernel_rfl) (by kernel_rfl) (fun _ _ _ h => h) (Or.inl ⟨by rfl, ?_⟩) hSS ?_
      rotate_left
      · intro u hu
        have hu : Chg Non _ u := hu
        go_simp
        try with_reducible rfl
      try simp only [Act.put, List.setIfInBounds_toArray, List.set_cons_zero, List.set_cons_succ]
      refine wpAnyH_take (i := 3) (oi := { dst := some 127, op := Go.Op.load 82 (Go.Operand.tmp 126), type := 82, pos := "law.go:131", after := #[{ on := 2, ground := Go.Ground.data }, { on := 1, ground := Go.Ground.guard }], guard := some (1, true) }) (v := ?_) rfl (by kernel_rfl) (by kernel_rfl) (by kernel_rfl) (fun _ _ _ h => h) (Or.inl ⟨by rfl, ?_⟩) hSS ?_
      rotate_left
      · intro u hu
        have hu : Chg Non _ u := hu
        have hc := HSD.out u (kS.two hu)
        go_split_ands
        go_simp
        try with_reducible rfl
      try simp only [Act.put, List.setIfInBounds_toArray, List.set_cons_zero, List.set_cons_succ]
      refine wpAnyH_take (i := 4) (oi := { dst := some 128, op := Go.Op.indexAddr 82 (Go.Operand.tmp 127) (Go.Operand.const (Go.Value.int Go.IntKind.i64 0)), type := 0, pos := "law.go:131", after := #[{ on := 3, ground := Go.Ground.data }, { on := 1, ground := Go.Ground.guard }], guard := some (1, true) }) (v := ?_) rfl (by kernel_rfl) (by kernel_rfl) (by kernel_rfl) (fun _ _ _ h => h) (Or.inl ⟨by rfl, ?_⟩) hSS ?_
      rotate_left
      · intro u hu
        have hu : Chg Non _ u := hu
        go_simp
        try with_reducible rfl
      try simp only [Act.put, List.setIfInBounds_toArray, List.set_cons_zero, List.set_cons_succ]
      refine wpAnyH_take (i := 5) (oi := { dst := some 129, op := Go.Op.load 87 (Go.Operand.tmp 128), type := 87, pos := "law.go:131", after := #[{ on := 4, ground := Go.Ground.data }, { on := 1, ground := Go.Ground.guard }], guard := some (1, true) }) (v := ?_) rfl (by kernel_rfl) (by kernel_rfl) (by kernel_rfl) (fun _ _ _ h => h) (Or.inl ⟨by rfl, ?_⟩) hSS ?_
      rotate_left
      · intro u hu
        have hu : Chg Non _ u := hu
        have hc := HSD.out u (kS.two hu)
        go_split_ands
        go_simp
        try with_reducible rfl
      try simp only [Act.put, List.setIfInBounds_toArray, List.set_cons_zero, List.set_cons_succ]
      refine wpAnyH_take (i := 8) (oi := { dst := some 132, op := Go.Op.fieldAddr 98 (Go.Operand.tmp 1) 4, type := 0, pos := "law.go:131", after := #[{ on := 1, ground := Go.Ground.guard }], guard := some (1, true) }) (v := ?_) rfl (by kernel_rfl) (by kernel_rfl) (by kernel_rfl) (fun _ _ _ h => h) (Or.inl ⟨by rfl, ?_⟩) hSS ?_
      rotate_left
      · intro u hu
        have hu : Chg Non _ u := hu
        go_simp
        try with_reducible rfl
      try simp only [Act.put, List.setIfInBounds_toArray, List.set_cons_zero, List.set_cons_succ]
      refine wpAnyH_take (i := 9) (oi := { dst := some 133, op := Go.Op.load 82 (Go.Operand.tmp 132), type := 82, pos := "law.go:131", after := #[{ on := 8, ground := Go.Ground.data }, { on := 1, ground := Go.Ground.guard }], guard := some (1, true) }) (v := ?_) rfl (by kernel_rfl) (by kernel_rfl) (by kernel_rfl) (fun _ _ _ h => h) (Or.inl ⟨by rfl, ?_⟩) hSS ?_
      rotate_left
      · intro u hu
        have hu : Chg Non _ u := hu
        have hc := HSD.out u (kS.two hu)
        go_split_ands
        go_simp
        try with_reducible rfl
      try simp only [Act.put, List.setIfInBounds_toArray, List.set_cons_zero, List.set_cons_succ]
      refine wpAnyH_take (i := 10) (oi := { dst := some 134, op := Go.Op.indexAddr 82 (Go.Operand.tmp 133) (Go.Operand.const (Go.Value.int Go.IntKind.i64 0)), type := 0, pos := "law.go:131", after := #[{ on := 9, ground := Go.Ground.data }, { on := 1, ground := Go.Ground.guard }], guard := some (1, true) }) (v := ?_) rfl (by kernel_rfl) (by kernel_rfl) (by kernel_rfl) (fun _ _ _ h => h) (Or.inl ⟨by rfl, ?_⟩) hSS ?_
      rotate_left
      · intro u hu
        have hu : Chg Non _ u := hu
        go_simp
        try with_reducible rfl
      try simp only [Act.put, List.setIfInBounds_toArray, List.set_cons_zero, List.set_cons_succ]
      refine wpAnyH_take (i := 11) (oi := { dst := some 135, op := Go.Op.load 87 (Go.Operand.tmp 134), type := 87, pos := "law.go:131", after := #[{ on := 10, ground := Go.Ground.data }, { on := 1, ground := Go.Ground.guard }], guard := some (1, true) }) (v := ?_) rfl (by kernel_rfl) (by kernel_rfl) (by kernel_rfl) (fun _ _ _ h => h) (Or.inl ⟨by rfl, ?_⟩) hSS ?_
      rotate_left
      · intro u hu
        have hu : Chg Non _ u := hu
        have hc := HSD.out u (kS.two hu)
        go_split_ands
        go_simp
        try with_reducible rfl
      try simp only [Act.put, List.setIfInBounds_toArray, List.set_cons_zero, List.set_cons_succ]
      refine wpAnyH_ready (rs := [6]) (by kernel_rfl) (by simp) ?_
      refine AllReadyH.cons (o := { dst := some 130, op := Go.Op.call { callee := Go.Callee.value (Go.Operand.func 95), args := #[Go.Operand.tmp 129], argTypes := #[87] }, type := 23, pos := "law.go:131", after := #[{ on := 5, ground := Go.Ground.data }, { on := 1, ground := Go.Ground.chain }, { on := 1, ground := Go.Ground.guard }], guard := some (1, true) }) rfl (fun K hK => ?_) AllReadyH.nil
      go_simp
      go_at_call 95
      refine (H95.out _ ((Chg.refl Non z2).two (kS.two hSS))).mono ?_
      rintro e x95 ⟨zo95, zn95, zc95, rfl, cF95, o95⟩
      have c95 : Chg Non z2 x95 := hSS.two o95
      have e95 : ∀ q, Chg Non x95 q → (convert 23 9 (.slice zo95 zn95 zc95)).run Try.prog q = .ok (.string TA) q := cF95
      refine hK.out _ _ c95 (fun _ => wpAnyH_imp (S' := fun u => Chg Non x95 u) (fun u hu => c95.two hu) _ _ _ _ ?_)
      clear hK K hSS
      have kT : Chg Non z2 x95 := kS.two c95
      clear kS o95 cF95 c95
      have kS := kT
      clear kT
      have hSS : Chg Non x95 x95 := Chg.refl Non _
      try simp only [Act.put, List.setIfInBounds_toArray, List.set_cons_zero, List.set_cons_succ]
      refine wpAnyH_take (i := 7) (oi := { dst := some 131, op := Go.Op.convert 23 9 (Go.Operand.tmp 130), type := 9, pos := "law.go:131", after := #[{ on := 6, ground := Go.Ground.data }, { on := 1, ground := Go.Ground.guard }], guard := some (1, true) }) (v := ?_) rfl (by kernel_rfl) (by kernel_rfl) (by kernel_rfl) (fun _ _ _ h => h) (Or.inl ⟨by rfl, ?_⟩) hSS ?_
      rotate_left
      · intro u hu
        have hu : Chg Non _ u := hu
        have hc := e95 u hu
        go_simp
        try with_reducible rfl
      try simp only [Act.put, List.setIfInBounds_toArray, List.set_cons_zero, List.set_cons_succ]
      refine wpAnyH_ready (rs := [12]) (by kernel_rfl) (by simp) ?_
      refine AllReadyH.cons (o := { dst := some 136, op := Go.Op.call { callee := Go.Callee.value (Go.Operand.func 96), args := #[Go.Operand.tmp 135], argTypes := #[87] }, type := 23, pos := "law.go:131", after := #[{ on := 11, ground := Go.Ground.data }, { on := 6, ground := Go.Ground.chain }, { on := 1, ground := Go.Ground.guard }], guard := some (1, true) }) rfl (fun K hK => ?_) AllReadyH.nil
      go_simp
      go_at_call 96
      refine (H96.out _ ((Chg.refl Non z2).two (kS.two hSS))).mono ?_
      rintro e x96 ⟨zo96, zn96, zc96, rfl, cF96, o96⟩
      have c96 : Chg Non x95 x96 := hSS.two o96
      have e96 : ∀ q, Chg Non x96 q → (convert 23 9 (.slice zo96 zn96 zc96)).run Try.prog q = .ok (.string TA) q := cF96
      refine hK.out _ _ c96 (fun _ => wpAnyH_imp (S' := fun u => Chg Non x96 u) (fun u hu => c96.two hu) _ _ _ _ ?_)
      clear hK K hSS
      have kT : Chg Non z2 x96 := kS.two c96
      clear kS o96 cF96 c96
      have kS := kT
      clear kT
      have hSS : Chg Non x96 x96 := Chg.refl Non _
      try simp only [Act.put, List.setIfInBounds_toArray, List.set_cons_zero, List.set_cons_succ]
      refine wpAnyH_take (i := 13) (oi := { dst := some 137, op := Go.Op.convert 23 9 (Go.Operand.tmp 136), type := 9, pos := "law.go:131", after := #[{ on := 12, ground := Go.Ground.data }, { on := 1, ground := Go.Ground.guard }], guard := some (1, true) }) (v := ?_) rfl (by kernel_rfl) (by kernel_rfl) (by kernel_rfl) (fun _ _ _ h => h) (Or.inl ⟨by rfl, ?_⟩) hSS ?_
      rotate_left
      · intro u hu
        have hu : Chg Non _ u := hu
        have hc := e96 u hu
        go_simp
        try with_reducible rfl
      try simp only [Act.put, List.setIfInBounds_toArray, List.set_cons_zero, List.set_cons_succ]
      refine wpAnyH_take (i := 14) (oi := { dst := some 138, op := Go.Op.binOp Go.BinOp.eql 9 (Go.Operand.tmp 131) (Go.Operand.tmp 137) 9, type := 4, pos := "law.go:131", after := #[{ on := 7, ground := Go.Ground.data }, { on := 13, ground := Go.Ground.data }, { on := 1, ground := Go.Ground.guard }], guard := some (1, true) }) (v := ?_) rfl (by kernel_rfl) (by kernel_rfl) (by kernel_rfl) (fun _ _ _ h => h) (Or.inl ⟨by rfl, ?_⟩) hSS ?_
      rotate_left
      · intro u hu
        have hu : Chg Non _ u := hu
        go_simp
        try with_reducible rfl
      try simp only [Act.put, List.setIfInBounds_toArray, List.set_cons_zero, List.set_cons_succ]
      refine wpAnyH_take (i := 15) (oi := { dst := some 139, op := Go.Op.pick (Go.Operand.tmp 125) (Go.Operand.tmp 138) (Go.Operand.const (Go.Value.bool false)), type := 4, pos := "law.go:131", after := #[{ on := 1, ground := Go.Ground.data }, { on := 14, ground := Go.Ground.data }], guard := none }) (v := ?_) rfl (by kernel_rfl) (by kernel_rfl) (by kernel_rfl) (fun _ _ _ h => h) (Or.inl ⟨by rfl, ?_⟩) hSS ?_
      rotate_left
      · intro u hu
        have hu : Chg Non _ u := hu
        go_simp
        try with_reducible rfl
      try simp only [Act.put, List.setIfInBounds_toArray, List.set_cons_zero, List.set_cons_succ]
      refine wpAnyH_take (i := 16) (oi := { dst := some 4, op := Go.Op.assign (Go.Operand.tmp 139), type := 4, pos := "law.go:131", after := #[{ on := 15, ground := Go.Ground.data }, { on := 12, ground := Go.Ground.chain }, { on := 0, ground := Go.Ground.phase }, { on := 1, ground := Go.Ground.phase }, { on := 2, ground := Go.Ground.phase }, { on := 3, ground := Go.Ground.phase }, { on := 4, ground := Go.Ground.phase }, { on := 5, ground := Go.Ground.phase }, { on := 6, ground := Go.Ground.phase }, { on := 7, ground := Go.Ground.phase }, { on := 8, ground := Go.Ground.phase }, { on := 9, ground := Go.Ground.phase }, { on := 10, ground := Go.Ground.phase }, { on := 11, ground := Go.Ground.phase }, { on := 12, ground := Go.Ground.phase }, { on := 13, ground := Go.Ground.phase }, { on := 14, ground := Go.Ground.phase }, { on := 15, ground := Go.Ground.phase }], guard := none }) (v := ?_) rfl (by kernel_rfl) (by kernel_rfl) (by kernel_rfl) (fun _ _ _ h => h) (Or.inl ⟨by rfl, ?_⟩) hSS ?_
      rotate_left
      · intro u hu
        have hu : Chg Non _ u := hu
        go_simp
        try with_reducible rfl
      try simp only [Act.put, List.setIfInBounds_toArray, List.set_cons_zero, List.set_cons_succ]
      refine wpAnyH_done (by kernel_rfl) ?_ _
      go_wp2_with fail
      go_meet
      case rel => exact ⟨rfl, kS⟩
    case rest =>
    obtain ⟨rfl, hcut⟩ := hcut
    obtain ⟨z3, hz3⟩ : ∃ z, z = wc := ⟨_, rfl⟩
    rw [← hz3] at hcut ⊢
    have K4 : Hid (Chg Non W0 z3) := K3.out.two hcut.out
    clear hz3 hcut wc
    have hs := HSC.out z3 K4.out
    go_split_ands
    have hp := find_any a6 l6 c6 n d.2.2.2.2.2.2.1 z3 (R6.out z3 K4.out) HB6.out
    go_wp2_with (go_at_call 97; refine hp.mono ?_)
    rintro e y1 hq
    obtain ⟨fo, fn, fc, he, hown⟩ := hq.out
    rw [← HFF.out] at he
    subst he
    have Y1 : Hid (Chg Non z3 y1 ∧ OwnN z3 y1 (.slice fo fn fc) ((findX n d.2.2.2.2.2.2.1).getD [])) := ⟨hown.chg, hown⟩
    clear hq hown hp
    have hs := HSC.out y1 (K4.out.two Y1.out.1)
    go_split_ands
    have hp := dfind_any a6 l6 c6 n d.2.2.2.2.2.2.1 y1 (R6.out y1 (K4.out.two Y1.out.1)) HB6.out
    go_wp2_with (go_at_call 98; refine hp.mono ?_)
    rintro e y2 hq
    obtain ⟨go, gn, gc, he, hown⟩ := hq.out
    rw [← HFF.out] at he
    subst he
    have j1 := run_str y2 _ _ (Y1.out.2.own.chg hown.chg).rd
    have j2 := run_str y2 _ _ hown.own.rd
    have Y2 : Hid (Chg Non y1 y2) := hown.chg
    obtain ⟨TF, hTF⟩ : ∃ T, T = strOfNums ((findX n d.2.2.2.2.2.2.1).getD []) := ⟨_, rfl⟩
    rw [← hTF] at j1 j2
    clear hq hown hp hTF
    go_wp2_with fail
    go_ret
    exact ⟨rfl, ((CW.out.two K4.out).two Y1.out.1).two Y2.out⟩
  · obtain rfl : l4 = 0 := by omega
    have hs := HSC.out z2 K3.out
    go_split_ands
    have hp := find_any a6 l6 c6 n d.2.2.2.2.2.2.1 z2 (R6.out z2 K3.out) HB6.out
    go_wp2_with (go_at_call 97; refine hp.mono ?_)
    rintro e y1 hq
    obtain ⟨fo, fn, fc, he, hown⟩ := hq.out
    rw [← HFF.out] at he
    subst he
    have Y1 : Hid (Chg Non z2 y1 ∧ OwnN z2 y1 (.slice fo fn fc) ((findX n d.2.2.2.2.2.2.1).getD [])) := ⟨hown.chg, hown⟩
    clear hq hown hp
    have hs := HSC.out y1 (K3.out.two Y1.out.1)
    go_split_ands
    have hp := dfind_any a6 l6 c6 n d.2.2.2.2.2.2.1 y1 (R6.out y1 (K3.out.two Y1.out.1)) HB6.out
    go_wp2_with (go_at_call 98; refine hp.mono ?_)
    rintro e y2 hq
    obtain ⟨go, gn, gc, he, hown⟩ := hq.out
    rw [← HFF.out] at he
    subst he
    have j1 := run_str y2 _ _ (Y1.out.2.own.chg hown.chg).rd
    have j2 := run_str y2 _ _ hown.own.rd
    have Y2 : Hid (Chg Non y1 y2) := hown.chg
    obtain ⟨TF, hTF⟩ : ∃ T, T = strOfNums ((findX n d.2.2.2.2.2.2.1).getD []) := ⟨_, rfl⟩
    rw [← hTF] at j1 j2
    clear hq hown hp hTF
    go_wp2_with fail
    go_ret
    exact ⟨rfl, ((CW.out.two K3.out).two Y1.out.1).two Y2.out⟩
end Go.Proofs.Ytdhckndehijemaa
