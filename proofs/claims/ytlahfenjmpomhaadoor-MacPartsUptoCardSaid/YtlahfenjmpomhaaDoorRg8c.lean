/-
  A key that is filled up with noughts: each operation of the region keeps the invariant.
-/
import Derived.Test.YtlahfenjmpomhaaDoorRg8b
namespace Go.Proofs.YtlahfenjmpomhaaDoor
open Go.RowKit
set_option linter.unusedVariables false

structure F8 (c : K8) (w0 : World) (T : Array Value) : Prop where
  hv : Valid c.q
  hB : c.B = blockOf c.q
  ht : Tabs w0
  ha : Ap.Rd w0 c.a c.xa
  hal : c.xa.length ≤ 1048576
  hk : Ap.Rd w0 c.key c.xk
  hkl : c.xk.length ≤ 1048576
  hkm : c.km = c.xk.length
  hlg : c.lg = decide (c.B < c.km)
  hs : c.s = strOfNums (macL c.q c.xk c.xa)
  T0 : T.getD 0 undef = .int .i64 c.q
  T1 : T.getD 1 undef = c.key
  T2 : T.getD 2 undef = c.a
  T10 : T.getD 10 undef = .int .i64 c.B
theorem F8.short {c : K8} {w0 : World} {T : Array Value} (F : F8 c w0 T) (e : c.lg = false) : c.km ≤ c.B := by
  have := F.hlg
  rw [e] at this
  simp at this
  exact this
theorem F8.B_le {c : K8} {w0 : World} {T : Array Value} (F : F8 c w0 T) : c.B ≤ 128 := by
  rw [F.hB]
  rcases F.hv with h | h | h <;> rw [h] <;> decide
theorem F8.mac {c : K8} {w0 u : World} {T : Array Value} (F : F8 c w0 T) (k : Chg w0 u) (vk : Value) (xk : List Int) (hk : Ap.Rd u vk xk) (hkl : xk.length ≤ 1048576) (he : macL c.q xk c.xa = macL c.q c.xk c.xa) (b : Nat) (hc : u.cell? ⟨b, 0, none⟩ = some c.a) :
    Calls Tryd.prog 9 #[.int .i64 c.q, vk, .slice (some ⟨b, 0, none⟩) 1 1] u fun r w' => ∃ b m, r = .returned (.slice (some ⟨b, 0, none⟩) m m) ∧ u.heap.size ≤ b ∧ b < w'.heap.size ∧ Chg u w' ∧ Ap.Rd w' (.slice (some ⟨b, 0, none⟩) m m) (macL c.q c.xk c.xa) := by
  have hal := F.hal
  refine (mac_any c.q vk _ xk [c.xa] u F.hv (F.ht.chg k) hk (by omega) (Pt.cell1 hc (Rd.slA (Rd.chg F.ha k) (by omega)))).mono ?_
  rintro r w' ⟨b, rfl, h1, k1, k2⟩
  rw [show [c.xa].flatten = c.xa by simp] at k2
  have k3 := Rd.ofArr k2 (Nat.le_trans (size_le c.q) (by omega))
  refine ⟨b, _, rfl, h1, k2.lt, k1, ?_⟩
  rw [← he]
  exact k3
theorem st8_0 {Q : Exit → Act → World → Prop} {c : K8} {w0 : World} {T : Array Value} {l : Array Bool} {a : Act} {w : World} (F : F8 c w0 T) (hI : RF c w0 T l a w) (hn : l.getD 0 false = false) (hdep : ∀ j, depB (opsOf (reg Tryd.f7 8)) 0 j = true → l.getD j false = true) : wpOp Tryd.prog (opsOf (reg Tryd.f7 8)) Q 0 (fun a' w' => RF c w0 T (l.setIfInBounds 0 true) a' w') a w := by
  obtain ⟨o, ho, hd, hop, hg⟩ := op_of r8A0
  have hw := wanted_none (y := yielded (opsOf (reg Tryd.f7 8)) a.tmps) hg
  have e1 : a.eval (.tmp 1) = c.key := (hI.frame 1 (by intro j hj; revert j; decide)).trans F.T1
  exact step_val ho hw hd (v := a.eval (.tmp 1)) (by unfold execOp; rw [hop]; rfl) (hI.val 0 (by decide) _ e1 (by decide))
theorem st8_1 {Q : Exit → Act → World → Prop} {c : K8} {w0 : World} {T : Array Value} {l : Array Bool} {a : Act} {w : World} (F : F8 c w0 T) (hI : RF c w0 T l a w) (hn : l.getD 1 false = false) (hdep : ∀ j, depB (opsOf (reg Tryd.f7 8)) 1 j = true → l.getD j false = true) : wpOp Tryd.prog (opsOf (reg Tryd.f7 8)) Q 1 (fun a' w' => RF c w0 T (l.setIfInBounds 1 true) a' w') a w := by
  obtain ⟨o, ho, hd, hop, hg⟩ := op_of r8A1
  have hw := wanted_none (y := yielded (opsOf (reg Tryd.f7 8)) a.tmps) hg
  have e1 : a.eval (.tmp 63) = .slice c.ko c.km c.kc := hI.good 0 (by decide) (hdep 0 (by kernel_rfl))
  exact step_val ho hw hd (v := .int .i64 c.km) (w' := w) (by revert e1; generalize a.eval = ρ; intro e1; simp [go_sem, execOp, hop, resolve, invoke, builtin, e1, Builtin.lenOf]) (hI.val 1 (by decide) _ rfl (by decide))
theorem st8_2 {Q : Exit → Act → World → Prop} {c : K8} {w0 : World} {T : Array Value} {l : Array Bool} {a : Act} {w : World} (F : F8 c w0 T) (hI : RF c w0 T l a w) (hn : l.getD 2 false = false) (hdep : ∀ j, depB (opsOf (reg Tryd.f7 8)) 2 j = true → l.getD j false = true) : wpOp Tryd.prog (opsOf (reg Tryd.f7 8)) Q 2 (fun a' w' => RF c w0 T (l.setIfInBounds 2 true) a' w') a w := by
  obtain ⟨o, ho, hd, hop, hg⟩ := op_of r8A2
  have hw := wanted_none (y := yielded (opsOf (reg Tryd.f7 8)) a.tmps) hg
  have e1 : a.eval (.tmp 10) = .int .i64 c.B := (hI.frame 10 (by intro j hj; revert j; decide)).trans F.T10
  exact step_val ho hw hd (v := a.eval (.tmp 10)) (by unfold execOp; rw [hop]; rfl) (hI.val 2 (by decide) _ e1 (by decide))
theorem st8_3 {Q : Exit → Act → World → Prop} {c : K8} {w0 : World} {T : Array Value} {l : Array Bool} {a : Act} {w : World} (F : F8 c w0 T) (hI : RF c w0 T l a w) (hn : l.getD 3 false = false) (hdep : ∀ j, depB (opsOf (reg Tryd.f7 8)) 3 j = true → l.getD j false = true) : wpOp Tryd.prog (opsOf (reg Tryd.f7 8)) Q 3 (fun a' w' => RF c w0 T (l.setIfInBounds 3 true) a' w') a w := by
  obtain ⟨o, ho, hd, hop, hg⟩ := op_of r8A3
  have hw := wanted_none (y := yielded (opsOf (reg Tryd.f7 8)) a.tmps) hg
  have e1 : a.eval (.tmp 64) = .int .i64 c.km := hI.good 1 (by decide) (hdep 1 (by kernel_rfl))
  have e2 : a.eval (.tmp 65) = .int .i64 c.B := hI.good 2 (by decide) (hdep 2 (by kernel_rfl))
  have hl := F.hlg
  exact step_val ho hw hd (v := .bool c.lg) (w' := w) (by revert e1 e2; generalize a.eval = ρ; intro e1 e2; simp [go_sem, execOp, hop, e1, e2, hl]) (hI.val 3 (by decide) _ rfl (by decide))
theorem st8_4 {Q : Exit → Act → World → Prop} {c : K8} {w0 : World} {T : Array Value} {l : Array Bool} {a : Act} {w : World} (F : F8 c w0 T) (hI : RF c w0 T l a w) (hn : l.getD 4 false = false) (hdep : ∀ j, depB (opsOf (reg Tryd.f7 8)) 4 j = true → l.getD j false = true) : wpOp Tryd.prog (opsOf (reg Tryd.f7 8)) Q 4 (fun a' w' => RF c w0 T (l.setIfInBounds 4 true) a' w') a w := by
  obtain ⟨o, ho, hd, hop, hg⟩ := op_of r8A4
  have hw := wanted_none (y := yielded (opsOf (reg Tryd.f7 8)) a.tmps) hg
  have e1 : a.eval (.tmp 66) = .bool c.lg := hI.good 3 (by decide) (hdep 3 (by kernel_rfl))
  exact step_val ho hw hd (v := a.eval (.tmp 66)) (by unfold execOp; rw [hop]; rfl) (hI.val 4 (by decide) _ e1 (by decide))
theorem st8_5 {Q : Exit → Act → World → Prop} {c : K8} {w0 : World} {T : Array Value} {l : Array Bool} {a : Act} {w : World} (F : F8 c w0 T) (hI : RF c w0 T l a w) (hn : l.getD 5 false = false) (hdep : ∀ j, depB (opsOf (reg Tryd.f7 8)) 5 j = true → l.getD j false = true) : wpOp Tryd.prog (opsOf (reg Tryd.f7 8)) Q 5 (fun a' w' => RF c w0 T (l.setIfInBounds 5 true) a' w') a w := by
  obtain ⟨o, ho, hd, hop, hg⟩ := op_of r8A5
  refine step_g8 hI 5 hg ho hd (hdep 4 (by kernel_rfl)) (by decide) (by decide) (fun x => absurd x (by decide)) (fun x => absurd x (by decide)) fun e hw => ?_
  have e1 : a.eval (.tmp 0) = .int .i64 c.q := (hI.frame 0 (by intro j hj; revert j; decide)).trans F.T0
  exact step_val ho hw hd (v := a.eval (.tmp 0)) (by unfold execOp; rw [hop]; rfl) (hI.val 5 (by decide) _ (fun _ => e1) (by decide))
theorem st8_6 {Q : Exit → Act → World → Prop} {c : K8} {w0 : World} {T : Array Value} {l : Array Bool} {a : Act} {w : World} (F : F8 c w0 T) (hI : RF c w0 T l a w) (hn : l.getD 6 false = false) (hdep : ∀ j, depB (opsOf (reg Tryd.f7 8)) 6 j = true → l.getD j false = true) : wpOp Tryd.prog (opsOf (reg Tryd.f7 8)) Q 6 (fun a' w' => RF c w0 T (l.setIfInBounds 6 true) a' w') a w := by
  obtain ⟨o, ho, hd, hop, hg⟩ := op_of r8A6
  refine step_g8 hI 6 hg ho hd (hdep 4 (by kernel_rfl)) (by decide) (by decide) (fun x => absurd x (by decide)) (fun x => absurd x (by decide)) fun e hw => ?_
  have e1 : a.eval (.tmp 1) = c.key := (hI.frame 1 (by intro j hj; revert j; decide)).trans F.T1
  exact step_val ho hw hd (v := a.eval (.tmp 1)) (by unfold execOp; rw [hop]; rfl) (hI.val 6 (by decide) _ (fun _ => e1) (by decide))
theorem st8_7 {Q : Exit → Act → World → Prop} {c : K8} {w0 : World} {T : Array Value} {l : Array Bool} {a : Act} {w : World} (F : F8 c w0 T) (hI : RF c w0 T l a w) (hn : l.getD 7 false = false) (hdep : ∀ j, depB (opsOf (reg Tryd.f7 8)) 7 j = true → l.getD j false = true) : wpOp Tryd.prog (opsOf (reg Tryd.f7 8)) Q 7 (fun a' w' => RF c w0 T (l.setIfInBounds 7 true) a' w') a w := by
  obtain ⟨o, ho, hd, hop, hg⟩ := op_of r8A7
  refine step_g8 hI 7 hg ho hd (hdep 4 (by kernel_rfl)) (by decide) (by decide) (fun x => absurd x (by decide)) (fun x => absurd x (by decide)) fun e hw => ?_
  have e1 : a.eval (.tmp 2) = c.a := (hI.frame 2 (by intro j hj; revert j; decide)).trans F.T2
  exact step_val ho hw hd (v := a.eval (.tmp 2)) (by unfold execOp; rw [hop]; rfl) (hI.val 7 (by decide) _ (fun _ => e1) (by decide))
theorem st8_8 {Q : Exit → Act → World → Prop} {c : K8} {w0 : World} {T : Array Value} {l : Array Bool} {a : Act} {w : World} (F : F8 c w0 T) (hI : RF c w0 T l a w) (hn : l.getD 8 false = false) (hdep : ∀ j, depB (opsOf (reg Tryd.f7 8)) 8 j = true → l.getD j false = true) : wpOp Tryd.prog (opsOf (reg Tryd.f7 8)) Q 8 (fun a' w' => RF c w0 T (l.setIfInBounds 8 true) a' w') a w := by
  obtain ⟨o, ho, hd, hop, hg⟩ := op_of r8A8
  refine step_g8 hI 8 hg ho hd (hdep 4 (by kernel_rfl)) (by decide) (by decide) (fun x => absurd x (by decide)) (fun x => absurd x (by decide)) fun e hw => ?_
  have e1 : a.eval (.tmp 70) = .slice c.ao c.am c.ac := hI.good 7 (by decide) (hdep 7 (by kernel_rfl)) e
  exact step_val ho hw hd (v := .slice (some ⟨w.heap.size, 0, none⟩) 1 1) (w' := w.alloc (.cells #[.slice c.ao c.am c.ac] 23)) (by revert e1; generalize a.eval = ρ; intro e1; simp [go_sem, execOp, hop, e1]) (hI.norm 8 (by decide) _ ((Chg.refl _).alloc _) (fun _ => ⟨w.heap.size, rfl, hI.chg.size, by simp, (Ar.new w #[.slice c.ao c.am c.ac] 23).cell 0⟩) (fun x => absurd x (by decide)) (by decide) (by decide) (by decide) (fun _ b hb => by simp [Value.ownBlock] at hb; omega))
theorem st8_9 {Q : Exit → Act → World → Prop} {c : K8} {w0 : World} {T : Array Value} {l : Array Bool} {a : Act} {w : World} (F : F8 c w0 T) (hI : RF c w0 T l a w) (hn : l.getD 9 false = false) (hdep : ∀ j, depB (opsOf (reg Tryd.f7 8)) 9 j = true → l.getD j false = true) : wpOp Tryd.prog (opsOf (reg Tryd.f7 8)) Q 9 (fun a' w' => RF c w0 T (l.setIfInBounds 9 true) a' w') a w := by
  obtain ⟨o, ho, hd, hop, hg⟩ := op_of r8A9
  refine step_g8 hI 9 hg ho hd (hdep 4 (by kernel_rfl)) (by decide) (by decide) (fun x => absurd x (by decide)) (fun x => absurd x (by decide)) fun e hw => ?_
  have e1 : a.eval (.tmp 68) = .int .i64 c.q := hI.good 5 (by decide) (hdep 5 (by kernel_rfl)) e
  have e2 : a.eval (.tmp 69) = c.key := hI.good 6 (by decide) (hdep 6 (by kernel_rfl)) e
  obtain ⟨b, e3, _, _, h4⟩ := (hI.good 8 (by decide) (hdep 8 (by kernel_rfl)) e)
  have e3' : a.eval (.tmp 71) = .slice (some ⟨b, 0, none⟩) 1 1 := e3
  have hrun := run_go a o 9 Tryd.f9 #[.tmp 68, .tmp 69, .tmp 71] #[22, 23, 24] w Tryd.func9 (by kernel_rfl) (by kernel_rfl) hop
  rw [show (#[.tmp 68, .tmp 69, .tmp 71] : Array Operand).map a.eval = #[a.eval (.tmp 68), a.eval (.tmp 69), a.eval (.tmp 71)] from by simp, e1, e2, e3'] at hrun
  refine step_call ho hw hd hrun ((F.mac hI.chg c.key c.xk (Rd.chg F.hk hI.chg) F.hkl rfl b h4).mono ?_)
  rintro r w2 ⟨b2, m, rfl, k1, k2, k3, k4⟩
  exact ⟨_, rfl, hI.norm 9 (by decide) _ k3 (fun _ => ⟨b2, m, rfl, Nat.le_trans hI.chg.size k1, k2, k4⟩) (fun x => absurd x (by decide)) (by decide) (by decide) (by decide) (fun _ b hb => by simp [Value.ownBlock] at hb; omega)⟩
theorem st8_10 {Q : Exit → Act → World → Prop} {c : K8} {w0 : World} {T : Array Value} {l : Array Bool} {a : Act} {w : World} (F : F8 c w0 T) (hI : RF c w0 T l a w) (hn : l.getD 10 false = false) (hdep : ∀ j, depB (opsOf (reg Tryd.f7 8)) 10 j = true → l.getD j false = true) : wpOp Tryd.prog (opsOf (reg Tryd.f7 8)) Q 10 (fun a' w' => RF c w0 T (l.setIfInBounds 10 true) a' w') a w := by
  obtain ⟨o, ho, hd, hop, hg⟩ := op_of r8A10
  refine step_g8 hI 10 hg ho hd (hdep 4 (by kernel_rfl)) (by decide) (by decide) (fun x => absurd x (by decide)) (fun x => absurd x (by decide)) fun e hw => ?_
  obtain ⟨b, m, e1', _, _, x1⟩ := (hI.good 9 (by decide) (hdep 9 (by kernel_rfl)) e)
  have e1 : a.eval (.tmp 72) = .slice (some ⟨b, 0, none⟩) m m := e1'
  have x2 : Ap.Rd w (.slice (some ⟨b, 0, none⟩) m m) (macL c.q c.xk c.xa) := by rw [← e1]; exact x1
  have hc := TxV.of x2 w (Chg.refl _)
  rw [← F.hs] at hc
  exact step_val ho hw hd (v := .string c.s) (w' := w) (by simp [execOp, hop, e1, hc]) (hI.val 10 (by decide) _ (fun _ => rfl) (by decide))
theorem st8_11 {Q : Exit → Act → World → Prop} {c : K8} {w0 : World} {T : Array Value} {l : Array Bool} {a : Act} {w : World} (F : F8 c w0 T) (hI : RF c w0 T l a w) (hn : l.getD 11 false = false) (hdep : ∀ j, depB (opsOf (reg Tryd.f7 8)) 11 j = true → l.getD j false = true) : wpOp Tryd.prog (opsOf (reg Tryd.f7 8)) Q 11 (fun a' w' => RF c w0 T (l.setIfInBounds 11 true) a' w') a w := by
  obtain ⟨o, ho, hd, hop, hg⟩ := op_of r8A11
  refine step_g8 hI 11 hg ho hd (hdep 4 (by kernel_rfl)) (by decide) (by decide) (fun x => absurd x (by decide)) (fun x => absurd x (by decide)) fun e hw => ?_
  have e1 : a.eval (.tmp 0) = .int .i64 c.q := (hI.frame 0 (by intro j hj; revert j; decide)).trans F.T0
  exact step_val ho hw hd (v := a.eval (.tmp 0)) (by unfold execOp; rw [hop]; rfl) (hI.val 11 (by decide) _ (fun _ => e1) (by decide))
theorem st8_12 {Q : Exit → Act → World → Prop} {c : K8} {w0 : World} {T : Array Value} {l : Array Bool} {a : Act} {w : World} (F : F8 c w0 T) (hI : RF c w0 T l a w) (hn : l.getD 12 false = false) (hdep : ∀ j, depB (opsOf (reg Tryd.f7 8)) 12 j = true → l.getD j false = true) : wpOp Tryd.prog (opsOf (reg Tryd.f7 8)) Q 12 (fun a' w' => RF c w0 T (l.setIfInBounds 12 true) a' w') a w := by
  obtain ⟨o, ho, hd, hop, hg⟩ := op_of r8A12
  refine step_g8 hI 12 hg ho hd (hdep 4 (by kernel_rfl)) (by decide) (by decide) (fun x => absurd x (by decide)) (fun x => absurd x (by decide)) fun e hw => ?_
  exact step_val ho hw hd (v := .slice (some ⟨w.heap.size, 0, none⟩) 0 0) (w' := w.alloc (.cells #[] 5)) (by simp [go_sem, execOp, hop]) (hI.put 12 (by decide) _ (hI.chg.alloc _) (hI.abs.op12 hI.chg.size))
theorem st8_13 {Q : Exit → Act → World → Prop} {c : K8} {w0 : World} {T : Array Value} {l : Array Bool} {a : Act} {w : World} (F : F8 c w0 T) (hI : RF c w0 T l a w) (hn : l.getD 13 false = false) (hdep : ∀ j, depB (opsOf (reg Tryd.f7 8)) 13 j = true → l.getD j false = true) : wpOp Tryd.prog (opsOf (reg Tryd.f7 8)) Q 13 (fun a' w' => RF c w0 T (l.setIfInBounds 13 true) a' w') a w := by
  obtain ⟨o, ho, hd, hop, hg⟩ := op_of r8A13
  refine step_g8 hI 13 hg ho hd (hdep 4 (by kernel_rfl)) (by decide) (by decide) (fun x => absurd x (by decide)) (fun x => absurd x (by decide)) fun e hw => ?_
  have e1 : a.eval (.tmp 1) = c.key := (hI.frame 1 (by intro j hj; revert j; decide)).trans F.T1
  exact step_val ho hw hd (v := a.eval (.tmp 1)) (by unfold execOp; rw [hop]; rfl) (hI.val 13 (by decide) _ (fun _ => e1) (by decide))
theorem st8_14 {Q : Exit → Act → World → Prop} {c : K8} {w0 : World} {T : Array Value} {l : Array Bool} {a : Act} {w : World} (F : F8 c w0 T) (hI : RF c w0 T l a w) (hn : l.getD 14 false = false) (hdep : ∀ j, depB (opsOf (reg Tryd.f7 8)) 14 j = true → l.getD j false = true) : wpOp Tryd.prog (opsOf (reg Tryd.f7 8)) Q 14 (fun a' w' => RF c w0 T (l.setIfInBounds 14 true) a' w') a w := by
  obtain ⟨o, ho, hd, hop, hg⟩ := op_of r8A14
  refine step_g8 hI 14 hg ho hd (hdep 4 (by kernel_rfl)) (by decide) (by decide) (fun x => absurd x (by decide)) (fun x => absurd x (by decide)) fun e hw => ?_
  have e2 : a.eval (.tmp 76) = c.key := hI.good 13 (by decide) (hdep 13 (by kernel_rfl)) e
  have h12 := hdep 12 (by kernel_rfl)
  obtain ⟨g, g1, g2, g3, _⟩ := hI.abs.c12 e h12 hn
  have e1 : a.eval (.tmp 75) = .slice (some ⟨g, 0, none⟩) 0 0 := g1
  have hkl := F.hkl
  obtain ⟨v', w', hrun, r1, r2, r3⟩ := Ap.run_app o.type w (a.eval (.tmp 75)) c.key [] c.xk (.inr ⟨g, 0, 0, 0, e1, rfl, Nat.le_refl _, by decide, #[], g3, by simp, by simp⟩) (Rd.chg F.hk hI.chg) (by simp; omega)
  rw [List.nil_append] at r1
  refine step_val ho hw hd (v := v') (w' := w') ?_ (hI.put 14 (by decide) _ (Chg.ap hI.chg r2 (fun i x => ?_)) (hI.abs.op14 hI.chg.size e h12 hn v' r1 r2 r3))
  · simp [execOp, hop, resolve, invoke, builtin, e2, hrun, Result.andThen]
  · rw [e1] at x
    simp [Value.ownBlock] at x
    omega
theorem st8_15 {Q : Exit → Act → World → Prop} {c : K8} {w0 : World} {T : Array Value} {l : Array Bool} {a : Act} {w : World} (F : F8 c w0 T) (hI : RF c w0 T l a w) (hn : l.getD 15 false = false) (hdep : ∀ j, depB (opsOf (reg Tryd.f7 8)) 15 j = true → l.getD j false = true) : wpOp Tryd.prog (opsOf (reg Tryd.f7 8)) Q 15 (fun a' w' => RF c w0 T (l.setIfInBounds 15 true) a' w') a w := by
  obtain ⟨o, ho, hd, hop, hg⟩ := op_of r8A15
  refine step_g8 hI 15 hg ho hd (hdep 4 (by kernel_rfl)) (by decide) (by decide) (fun x => absurd x (by decide)) (fun x => absurd x (by decide)) fun e hw => ?_
  have e1 : a.eval (.tmp 10) = .int .i64 c.B := (hI.frame 10 (by intro j hj; revert j; decide)).trans F.T10
  exact step_val ho hw hd (v := a.eval (.tmp 10)) (by unfold execOp; rw [hop]; rfl) (hI.val 15 (by decide) _ (fun _ => e1) (by decide))
theorem st8_16 {Q : Exit → Act → World → Prop} {c : K8} {w0 : World} {T : Array Value} {l : Array Bool} {a : Act} {w : World} (F : F8 c w0 T) (hI : RF c w0 T l a w) (hn : l.getD 16 false = false) (hdep : ∀ j, depB (opsOf (reg Tryd.f7 8)) 16 j = true → l.getD j false = true) : wpOp Tryd.prog (opsOf (reg Tryd.f7 8)) Q 16 (fun a' w' => RF c w0 T (l.setIfInBounds 16 true) a' w') a w := by
  obtain ⟨o, ho, hd, hop, hg⟩ := op_of r8A16
  refine step_g8 hI 16 hg ho hd (hdep 4 (by kernel_rfl)) (by decide) (by decide) (fun x => absurd x (by decide)) (fun x => absurd x (by decide)) fun e hw => ?_
  have e1 : a.eval (.tmp 1) = c.key := (hI.frame 1 (by intro j hj; revert j; decide)).trans F.T1
  exact step_val ho hw hd (v := a.eval (.tmp 1)) (by unfold execOp; rw [hop]; rfl) (hI.val 16 (by decide) _ (fun _ => e1) (by decide))
theorem st8_17 {Q : Exit → Act → World → Prop} {c : K8} {w0 : World} {T : Array Value} {l : Array Bool} {a : Act} {w : World} (F : F8 c w0 T) (hI : RF c w0 T l a w) (hn : l.getD 17 false = false) (hdep : ∀ j, depB (opsOf (reg Tryd.f7 8)) 17 j = true → l.getD j false = true) : wpOp Tryd.prog (opsOf (reg Tryd.f7 8)) Q 17 (fun a' w' => RF c w0 T (l.setIfInBounds 17 true) a' w') a w := by
  obtain ⟨o, ho, hd, hop, hg⟩ := op_of r8A17
  refine step_g8 hI 17 hg ho hd (hdep 4 (by kernel_rfl)) (by decide) (by decide) (fun x => absurd x (by decide)) (fun x => absurd x (by decide)) fun e hw => ?_
  have e1 : a.eval (.tmp 79) = .slice c.ko c.km c.kc := hI.good 16 (by decide) (hdep 16 (by kernel_rfl)) e
  exact step_val ho hw hd (v := .int .i64 c.km) (w' := w) (by revert e1; generalize a.eval = ρ; intro e1; simp [go_sem, execOp, hop, resolve, invoke, builtin, e1, Builtin.lenOf]) (hI.val 17 (by decide) _ (fun _ => rfl) (by decide))
theorem st8_18 {Q : Exit → Act → World → Prop} {c : K8} {w0 : World} {T : Array Value} {l : Array Bool} {a : Act} {w : World} (F : F8 c w0 T) (hI : RF c w0 T l a w) (hn : l.getD 18 false = false) (hdep : ∀ j, depB (opsOf (reg Tryd.f7 8)) 18 j = true → l.getD j false = true) : wpOp Tryd.prog (opsOf (reg Tryd.f7 8)) Q 18 (fun a' w' => RF c w0 T (l.setIfInBounds 18 true) a' w') a w := by
  obtain ⟨o, ho, hd, hop, hg⟩ := op_of r8A18
  refine step_g8 hI 18 hg ho hd (hdep 4 (by kernel_rfl)) (by decide) (by decide) (fun x => absurd x (by decide)) (fun x => absurd x (by decide)) fun e hw => ?_
  have e1 : a.eval (.tmp 78) = .int .i64 c.B := hI.good 15 (by decide) (hdep 15 (by kernel_rfl)) e
  have e2 : a.eval (.tmp 80) = .int .i64 c.km := hI.good 17 (by decide) (hdep 17 (by kernel_rfl)) e
  have hB := F.B_le
  have hle := F.short e
  have hwr : IntKind.i64.wrap ((c.B : Int) - (c.km : Int)) = ((c.B - c.km : Nat) : Int) := by rw [IntKind.wrap_i64]; omega
  exact step_val ho hw hd (v := .int .i64 ((c.B - c.km : Nat) : Int)) (w' := w) (by revert e1 e2; generalize a.eval = ρ; intro e1 e2; simp [go_sem, execOp, hop, e1, e2, hwr]) (hI.val 18 (by decide) _ (fun _ => rfl) (by decide))
theorem st8_19 {Q : Exit → Act → World → Prop} {c : K8} {w0 : World} {T : Array Value} {l : Array Bool} {a : Act} {w : World} (F : F8 c w0 T) (hI : RF c w0 T l a w) (hn : l.getD 19 false = false) (hdep : ∀ j, depB (opsOf (reg Tryd.f7 8)) 19 j = true → l.getD j false = true) : wpOp Tryd.prog (opsOf (reg Tryd.f7 8)) Q 19 (fun a' w' => RF c w0 T (l.setIfInBounds 19 true) a' w') a w := by
  obtain ⟨o, ho, hd, hop, hg⟩ := op_of r8A19
  refine step_g8 hI 19 hg ho hd (hdep 4 (by kernel_rfl)) (by decide) (by decide) (fun x => absurd x (by decide)) (fun _ => hdep 14 (by kernel_rfl)) fun e hw => ?_
  have e2 : a.eval (.tmp 81) = .int .i64 ((c.B - c.km : Nat) : Int) := hI.good 18 (by decide) (hdep 18 (by kernel_rfl)) e
  have h14 := hdep 14 (by kernel_rfl)
  obtain ⟨g1, g2, _⟩ := hI.abs.c14 e h14 hn
  have g1' : Ap.OwnV w (a.eval (.tmp 77)) c.xk := g1
  have hkl := F.hkl
  have hB := F.B_le
  obtain ⟨v', w', hrun, r1, r2, r3⟩ := run_appZ o.type w (a.eval (.tmp 77)) (c.B - c.km) c.xk g1' (by omega) (by omega)
  refine step_val ho hw hd (v := v') (w' := w') ?_ (hI.put 19 (by decide) _ (Chg.ap hI.chg r2 (fun i x => g2 i x)) (hI.abs.op19 e h14 hn v' r1.rd r2))
  simp only [execOp, hop, resolve, invoke, builtin]
  simp [e2, hrun, Result.andThen]
theorem st8_20 {Q : Exit → Act → World → Prop} {c : K8} {w0 : World} {T : Array Value} {l : Array Bool} {a : Act} {w : World} (F : F8 c w0 T) (hI : RF c w0 T l a w) (hn : l.getD 20 false = false) (hdep : ∀ j, depB (opsOf (reg Tryd.f7 8)) 20 j = true → l.getD j false = true) : wpOp Tryd.prog (opsOf (reg Tryd.f7 8)) Q 20 (fun a' w' => RF c w0 T (l.setIfInBounds 20 true) a' w') a w := by
  obtain ⟨o, ho, hd, hop, hg⟩ := op_of r8A20
  refine step_g8 hI 20 hg ho hd (hdep 4 (by kernel_rfl)) (by decide) (by decide) (fun x => absurd x (by decide)) (fun x => absurd x (by decide)) fun e hw => ?_
  have e1 : a.eval (.tmp 2) = c.a := (hI.frame 2 (by intro j hj; revert j; decide)).trans F.T2
  exact step_val ho hw hd (v := a.eval (.tmp 2)) (by unfold execOp; rw [hop]; rfl) (hI.val 20 (by decide) _ (fun _ => e1) (by decide))
theorem st8_21 {Q : Exit → Act → World → Prop} {c : K8} {w0 : World} {T : Array Value} {l : Array Bool} {a : Act} {w : World} (F : F8 c w0 T) (hI : RF c w0 T l a w) (hn : l.getD 21 false = false) (hdep : ∀ j, depB (opsOf (reg Tryd.f7 8)) 21 j = true → l.getD j false = true) : wpOp Tryd.prog (opsOf (reg Tryd.f7 8)) Q 21 (fun a' w' => RF c w0 T (l.setIfInBounds 21 true) a' w') a w := by
  obtain ⟨o, ho, hd, hop, hg⟩ := op_of r8A21
  refine step_g8 hI 21 hg ho hd (hdep 4 (by kernel_rfl)) (by decide) (by decide) (fun x => absurd x (by decide)) (fun x => absurd x (by decide)) fun e hw => ?_
  have e1 : a.eval (.tmp 83) = .slice c.ao c.am c.ac := hI.good 20 (by decide) (hdep 20 (by kernel_rfl)) e
  exact step_val ho hw hd (v := .slice (some ⟨w.heap.size, 0, none⟩) 1 1) (w' := w.alloc (.cells #[.slice c.ao c.am c.ac] 23)) (by revert e1; generalize a.eval = ρ; intro e1; simp [go_sem, execOp, hop, e1]) (hI.norm 21 (by decide) _ ((Chg.refl _).alloc _) (fun _ => ⟨w.heap.size, rfl, hI.chg.size, by simp, (Ar.new w #[.slice c.ao c.am c.ac] 23).cell 0⟩) (fun x => absurd x (by decide)) (by decide) (by decide) (by decide) (fun _ b hb => by simp [Value.ownBlock] at hb; omega))
theorem st8_22 {Q : Exit → Act → World → Prop} {c : K8} {w0 : World} {T : Array Value} {l : Array Bool} {a : Act} {w : World} (F : F8 c w0 T) (hI : RF c w0 T l a w) (hn : l.getD 22 false = false) (hdep : ∀ j, depB (opsOf (reg Tryd.f7 8)) 22 j = true → l.getD j false = true) : wpOp Tryd.prog (opsOf (reg Tryd.f7 8)) Q 22 (fun a' w' => RF c w0 T (l.setIfInBounds 22 true) a' w') a w := by
  obtain ⟨o, ho, hd, hop, hg⟩ := op_of r8A22
  refine step_g8 hI 22 hg ho hd (hdep 4 (by kernel_rfl)) (by decide) (by decide) (fun _ => hdep 19 (by kernel_rfl)) (fun x => absurd x (by decide)) fun e hw => ?_
  have e1 : a.eval (.tmp 74) = .int .i64 c.q := hI.good 11 (by decide) (hdep 11 (by kernel_rfl)) e
  have x2 : Ap.Rd w (a.eval (.tmp 82)) (c.xk ++ List.replicate (c.B - c.km) 0) := (hI.good 19 (by decide) (hdep 19 (by kernel_rfl)) e)
  obtain ⟨b, e3, _, _, h4⟩ := (hI.good 21 (by decide) (hdep 21 (by kernel_rfl)) e)
  have e3' : a.eval (.tmp 84) = .slice (some ⟨b, 0, none⟩) 1 1 := e3
  have hrun := run_go a o 9 Tryd.f9 #[.tmp 74, .tmp 82, .tmp 84] #[22, 23, 24] w Tryd.func9 (by kernel_rfl) (by kernel_rfl) hop
  rw [show (#[.tmp 74, .tmp 82, .tmp 84] : Array Operand).map a.eval = #[a.eval (.tmp 74), a.eval (.tmp 82), a.eval (.tmp 84)] from by simp, e1, e3'] at hrun
  have hle := F.short e
  have hB := F.B_le
  have hBq := F.hB
  have hkm := F.hkm
  refine step_call ho hw hd hrun ((F.mac hI.chg _ _ x2 (by simp; omega) (mac_filled _ _ _ _ (by omega)) b h4).mono ?_)
  rintro r w2 ⟨b2, m, rfl, k1, k2, k3, k4⟩
  exact ⟨_, rfl, hI.norm 22 (by decide) _ k3 (fun _ => k4) (fun _ => hdep 19 (by kernel_rfl)) (by decide) (by decide) (by decide) (fun x => by rcases x with x | x | x <;> cases x)⟩
theorem st8_23 {Q : Exit → Act → World → Prop} {c : K8} {w0 : World} {T : Array Value} {l : Array Bool} {a : Act} {w : World} (F : F8 c w0 T) (hI : RF c w0 T l a w) (hn : l.getD 23 false = false) (hdep : ∀ j, depB (opsOf (reg Tryd.f7 8)) 23 j = true → l.getD j false = true) : wpOp Tryd.prog (opsOf (reg Tryd.f7 8)) Q 23 (fun a' w' => RF c w0 T (l.setIfInBounds 23 true) a' w') a w := by
  obtain ⟨o, ho, hd, hop, hg⟩ := op_of r8A23
  refine step_g8 hI 23 hg ho hd (hdep 4 (by kernel_rfl)) (by decide) (by decide) (fun x => absurd x (by decide)) (fun x => absurd x (by decide)) fun e hw => ?_
  have x1 : Ap.Rd w (a.eval (.tmp 85)) (macL c.q c.xk c.xa) := (hI.good 22 (by decide) (hdep 22 (by kernel_rfl)) e)
  obtain ⟨ao, m, cc, e1', _⟩ := id x1
  have e1 : a.eval (.tmp 85) = .slice ao m cc := e1'
  have x2 : Ap.Rd w (.slice ao m cc) (macL c.q c.xk c.xa) := by rw [← e1]; exact x1
  have hc := TxV.of x2 w (Chg.refl _)
  rw [← F.hs] at hc
  exact step_val ho hw hd (v := .string c.s) (w' := w) (by simp [execOp, hop, e1, hc]) (hI.val 23 (by decide) _ (fun _ => rfl) (by decide))
theorem st8_24 {Q : Exit → Act → World → Prop} {c : K8} {w0 : World} {T : Array Value} {l : Array Bool} {a : Act} {w : World} (F : F8 c w0 T) (hI : RF c w0 T l a w) (hn : l.getD 24 false = false) (hdep : ∀ j, depB (opsOf (reg Tryd.f7 8)) 24 j = true → l.getD j false = true) : wpOp Tryd.prog (opsOf (reg Tryd.f7 8)) Q 24 (fun a' w' => RF c w0 T (l.setIfInBounds 24 true) a' w') a w := by
  obtain ⟨o, ho, hd, hop, hg⟩ := op_of r8A24
  refine step_g8 hI 24 hg ho hd (hdep 4 (by kernel_rfl)) (by decide) (by decide) (fun x => absurd x (by decide)) (fun x => absurd x (by decide)) fun e hw => ?_
  have e1 : a.eval (.tmp 73) = .string c.s := hI.good 10 (by decide) (hdep 10 (by kernel_rfl)) e
  have e2 : a.eval (.tmp 86) = .string c.s := hI.good 23 (by decide) (hdep 23 (by kernel_rfl)) e
  exact step_val ho hw hd (v := .bool true) (w' := w) (by revert e1 e2; generalize a.eval = ρ; intro e1 e2; simp [go_sem, execOp, hop, e1, e2]) (hI.val 24 (by decide) _ (fun _ => rfl) (by decide))
theorem st8_25 {Q : Exit → Act → World → Prop} {c : K8} {w0 : World} {T : Array Value} {l : Array Bool} {a : Act} {w : World} (F : F8 c w0 T) (hI : RF c w0 T l a w) (hn : l.getD 25 false = false) (hdep : ∀ j, depB (opsOf (reg Tryd.f7 8)) 25 j = true → l.getD j false = true) : wpOp Tryd.prog (opsOf (reg Tryd.f7 8)) Q 25 (fun a' w' => RF c w0 T (l.setIfInBounds 25 true) a' w') a w := by
  obtain ⟨o, ho, hd, hop, hg⟩ := op_of r8A25
  have hw := wanted_none (y := yielded (opsOf (reg Tryd.f7 8)) a.tmps) hg
  have e1 : a.eval (.tmp 67) = .bool c.lg := hI.good 4 (by decide) (hdep 4 (by kernel_rfl))
  have e2 : c.lg = false → a.eval (.tmp 87) = .bool true := hI.good 24 (by decide) (hdep 24 (by kernel_rfl))
  refine step_val ho hw hd (v := .bool true) (w' := w) ?_ (hI.val 25 (by decide) _ rfl (by decide))
  cases e : c.lg with
  | true =>
    rw [e] at e1
    have e0 : a.eval (.const (.bool true)) = .bool true := rfl
    revert e0 e1; generalize a.eval = ρ; intro e0 e1
    simp [go_sem, execOp, hop, e0, e1]
  | false =>
    rw [e] at e1
    have e3 := e2 e
    revert e1 e3; generalize a.eval = ρ; intro e1 e3
    simp [go_sem, execOp, hop, e1, e3]
theorem st8_26 {Q : Exit → Act → World → Prop} {c : K8} {w0 : World} {T : Array Value} {l : Array Bool} {a : Act} {w : World} (F : F8 c w0 T) (hI : RF c w0 T l a w) (hn : l.getD 26 false = false) (hdep : ∀ j, depB (opsOf (reg Tryd.f7 8)) 26 j = true → l.getD j false = true) : wpOp Tryd.prog (opsOf (reg Tryd.f7 8)) Q 26 (fun a' w' => RF c w0 T (l.setIfInBounds 26 true) a' w') a w := by
  obtain ⟨o, ho, hd, hop, hg⟩ := op_of r8A26
  have hw := wanted_none (y := yielded (opsOf (reg Tryd.f7 8)) a.tmps) hg
  have e1 : a.eval (.tmp 88) = .bool true := hI.good 25 (by decide) (hdep 25 (by kernel_rfl))
  exact step_val ho hw hd (v := a.eval (.tmp 88)) (by unfold execOp; rw [hop]; rfl) (hI.val 26 (by decide) _ e1 (by decide))
end Go.Proofs.YtlahfenjmpomhaaDoor
