/-
  A key that is filled up with noughts: what the law asks of it (the region that draws its order).
-/
import Derived.Test.YtlahfenjmpomhaaDoorRg7
import Derived.Test.YtlahfenjmpomhaaDoorApZ
namespace Go.Proofs.YtlahfenjmpomhaaDoor
open Go.RowKit
set_option linter.unusedVariables false

theorem r8R : reg Tryd.f7 8 = .region 8 (opsOf (reg Tryd.f7 8)) true := by kernel_rfl
theorem r8N : (opsOf (reg Tryd.f7 8)).size = 27 := by kernel_rfl
theorem r8D : dagB (opsOf (reg Tryd.f7 8)) = true := by kernel_rfl
theorem r8A0 : ((opsOf (reg Tryd.f7 8))[0]?).map (fun o => (o.dst, o.op, o.guard)) = some (some 63, Op.move (.tmp 1), none) := by kernel_rfl
theorem r8A1 : ((opsOf (reg Tryd.f7 8))[1]?).map (fun o => (o.dst, o.op, o.guard)) = some (some 64, Op.call { callee := .builtin .len, args := #[.tmp 63], argTypes := #[23] }, none) := by kernel_rfl
theorem r8A2 : ((opsOf (reg Tryd.f7 8))[2]?).map (fun o => (o.dst, o.op, o.guard)) = some (some 65, Op.move (.tmp 10), none) := by kernel_rfl
theorem r8A3 : ((opsOf (reg Tryd.f7 8))[3]?).map (fun o => (o.dst, o.op, o.guard)) = some (some 66, Op.binOp .gtr 3 (.tmp 64) (.tmp 65) 3, none) := by kernel_rfl
theorem r8A4 : ((opsOf (reg Tryd.f7 8))[4]?).map (fun o => (o.dst, o.op, o.guard)) = some (some 67, Op.move (.tmp 66), none) := by kernel_rfl
theorem r8A5 : ((opsOf (reg Tryd.f7 8))[5]?).map (fun o => (o.dst, o.op, o.guard)) = some (some 68, Op.move (.tmp 0), some (4, false)) := by kernel_rfl
theorem r8A6 : ((opsOf (reg Tryd.f7 8))[6]?).map (fun o => (o.dst, o.op, o.guard)) = some (some 69, Op.move (.tmp 1), some (4, false)) := by kernel_rfl
theorem r8A7 : ((opsOf (reg Tryd.f7 8))[7]?).map (fun o => (o.dst, o.op, o.guard)) = some (some 70, Op.move (.tmp 2), some (4, false)) := by kernel_rfl
theorem r8A8 : ((opsOf (reg Tryd.f7 8))[8]?).map (fun o => (o.dst, o.op, o.guard)) = some (some 71, Op.buildSlice 24 1 #[(0, .tmp 70)], some (4, false)) := by kernel_rfl
theorem r8A9 : ((opsOf (reg Tryd.f7 8))[9]?).map (fun o => (o.dst, o.op, o.guard)) = some (some 72, Op.call { callee := .value (.func 9), args := #[.tmp 68, .tmp 69, .tmp 71], argTypes := #[22, 23, 24] }, some (4, false)) := by kernel_rfl
theorem r8A10 : ((opsOf (reg Tryd.f7 8))[10]?).map (fun o => (o.dst, o.op, o.guard)) = some (some 73, Op.convert 23 9 (.tmp 72), some (4, false)) := by kernel_rfl
theorem r8A11 : ((opsOf (reg Tryd.f7 8))[11]?).map (fun o => (o.dst, o.op, o.guard)) = some (some 74, Op.move (.tmp 0), some (4, false)) := by kernel_rfl
theorem r8A12 : ((opsOf (reg Tryd.f7 8))[12]?).map (fun o => (o.dst, o.op, o.guard)) = some (some 75, Op.buildSlice 23 0 #[], some (4, false)) := by kernel_rfl
theorem r8A13 : ((opsOf (reg Tryd.f7 8))[13]?).map (fun o => (o.dst, o.op, o.guard)) = some (some 76, Op.move (.tmp 1), some (4, false)) := by kernel_rfl
theorem r8A14 : ((opsOf (reg Tryd.f7 8))[14]?).map (fun o => (o.dst, o.op, o.guard)) = some (some 77, Op.call { callee := .builtin .append, args := #[.tmp 75, .tmp 76], argTypes := #[23, 23] }, some (4, false)) := by kernel_rfl
theorem r8A15 : ((opsOf (reg Tryd.f7 8))[15]?).map (fun o => (o.dst, o.op, o.guard)) = some (some 78, Op.move (.tmp 10), some (4, false)) := by kernel_rfl
theorem r8A16 : ((opsOf (reg Tryd.f7 8))[16]?).map (fun o => (o.dst, o.op, o.guard)) = some (some 79, Op.move (.tmp 1), some (4, false)) := by kernel_rfl
theorem r8A17 : ((opsOf (reg Tryd.f7 8))[17]?).map (fun o => (o.dst, o.op, o.guard)) = some (some 80, Op.call { callee := .builtin .len, args := #[.tmp 79], argTypes := #[23] }, some (4, false)) := by kernel_rfl
theorem r8A18 : ((opsOf (reg Tryd.f7 8))[18]?).map (fun o => (o.dst, o.op, o.guard)) = some (some 81, Op.binOp .sub 3 (.tmp 78) (.tmp 80) 3, some (4, false)) := by kernel_rfl
theorem r8A19 : ((opsOf (reg Tryd.f7 8))[19]?).map (fun o => (o.dst, o.op, o.guard)) = some (some 82, Op.call { callee := .builtin .append, args := #[.tmp 77, .tmp 81], argTypes := #[23, 3] }, some (4, false)) := by kernel_rfl
theorem r8A20 : ((opsOf (reg Tryd.f7 8))[20]?).map (fun o => (o.dst, o.op, o.guard)) = some (some 83, Op.move (.tmp 2), some (4, false)) := by kernel_rfl
theorem r8A21 : ((opsOf (reg Tryd.f7 8))[21]?).map (fun o => (o.dst, o.op, o.guard)) = some (some 84, Op.buildSlice 24 1 #[(0, .tmp 83)], some (4, false)) := by kernel_rfl
theorem r8A22 : ((opsOf (reg Tryd.f7 8))[22]?).map (fun o => (o.dst, o.op, o.guard)) = some (some 85, Op.call { callee := .value (.func 9), args := #[.tmp 74, .tmp 82, .tmp 84], argTypes := #[22, 23, 24] }, some (4, false)) := by kernel_rfl
theorem r8A23 : ((opsOf (reg Tryd.f7 8))[23]?).map (fun o => (o.dst, o.op, o.guard)) = some (some 86, Op.convert 23 9 (.tmp 85), some (4, false)) := by kernel_rfl
theorem r8A24 : ((opsOf (reg Tryd.f7 8))[24]?).map (fun o => (o.dst, o.op, o.guard)) = some (some 87, Op.binOp .eql 9 (.tmp 73) (.tmp 86) 9, some (4, false)) := by kernel_rfl
theorem r8A25 : ((opsOf (reg Tryd.f7 8))[25]?).map (fun o => (o.dst, o.op, o.guard)) = some (some 88, Op.pick (.tmp 67) (.const (.bool true)) (.tmp 87), none) := by kernel_rfl
theorem r8A26 : ((opsOf (reg Tryd.f7 8))[26]?).map (fun o => (o.dst, o.op, o.guard)) = some (some 14, Op.assign (.tmp 88), none) := by kernel_rfl
def r8S (j : Nat) : Nat := match j with
  | 0 => 63
  | 1 => 64
  | 2 => 65
  | 3 => 66
  | 4 => 67
  | 5 => 68
  | 6 => 69
  | 7 => 70
  | 8 => 71
  | 9 => 72
  | 10 => 73
  | 11 => 74
  | 12 => 75
  | 13 => 76
  | 14 => 77
  | 15 => 78
  | 16 => 79
  | 17 => 80
  | 18 => 81
  | 19 => 82
  | 20 => 83
  | 21 => 84
  | 22 => 85
  | 23 => 86
  | 24 => 87
  | 25 => 88
  | 26 => 14
  | _ => 0
theorem r8I : ∀ j i, i < 27 → r8S j = r8S i → j = i := by
  intro j i hi h
  by_cases hj : j < 27
  · exact (show ∀ j, j < 27 → ∀ k, k < 27 → r8S j = r8S k → j = k by decide) j hj i hi h
  · exfalso
    have h0 : r8S j = 0 := by
      unfold r8S
      split <;> first | rfl | omega
    rw [h0] at h
    exact (show ∀ k, k < 27 → 0 ≠ r8S k by decide) i hi h
theorem r8L : ∀ j, j < 27 → r8S j < 118 := by decide
structure K8 where
  q : Int
  B : Nat
  km : Nat
  kc : Nat
  ko : Option Addr
  ao : Option Addr
  am : Nat
  ac : Nat
  xk : List Int
  xa : List Int
  s : ByteArray
  lg : Bool
def K8.key (c : K8) : Value := .slice c.ko c.km c.kc
def K8.a (c : K8) : Value := .slice c.ao c.am c.ac
def G8 (c : K8) (lo : Nat) (j : Nat) (v : Value) (w : World) : Prop := match j with
  | 0 => v = c.key
  | 1 => v = .int .i64 c.km
  | 2 => v = .int .i64 c.B
  | 3 => v = .bool c.lg
  | 4 => v = .bool c.lg
  | 5 => c.lg = false → v = .int .i64 c.q
  | 6 => c.lg = false → v = c.key
  | 7 => c.lg = false → v = c.a
  | 8 => c.lg = false → ∃ b, v = .slice (some ⟨b, 0, none⟩) 1 1 ∧ lo ≤ b ∧ b < w.heap.size ∧ w.cell? ⟨b, 0, none⟩ = some c.a
  | 9 => c.lg = false → ∃ b m, v = .slice (some ⟨b, 0, none⟩) m m ∧ lo ≤ b ∧ b < w.heap.size ∧ Ap.Rd w v (macL c.q c.xk c.xa)
  | 10 => c.lg = false → v = .string c.s
  | 11 => c.lg = false → v = .int .i64 c.q
  | 12 => True
  | 13 => c.lg = false → v = c.key
  | 14 => True
  | 15 => c.lg = false → v = .int .i64 c.B
  | 16 => c.lg = false → v = c.key
  | 17 => c.lg = false → v = .int .i64 c.km
  | 18 => c.lg = false → v = .int .i64 ((c.B - c.km : Nat) : Int)
  | 19 => c.lg = false → Ap.Rd w v (c.xk ++ List.replicate (c.B - c.km) 0)
  | 20 => c.lg = false → v = c.a
  | 21 => c.lg = false → ∃ b, v = .slice (some ⟨b, 0, none⟩) 1 1 ∧ lo ≤ b ∧ b < w.heap.size ∧ w.cell? ⟨b, 0, none⟩ = some c.a
  | 22 => c.lg = false → Ap.Rd w v (macL c.q c.xk c.xa)
  | 23 => c.lg = false → v = .string c.s
  | 24 => c.lg = false → v = .bool true
  | _ => v = .bool true
theorem G8.chg (c : K8) (lo j : Nat) (v : Value) (w w' : World) (h : G8 c lo j v w) (k : Chg w w') : G8 c lo j v w' := by
  unfold G8 at *
  split at h <;> first
    | exact h
    | (intro e; obtain ⟨b, h1, h2, h3, h4⟩ := h e; exact ⟨b, h1, h2, Nat.lt_of_lt_of_le h3 k.size, cell_at k h4⟩)
    | (intro e; obtain ⟨b, m, h1, h2, h3, h4⟩ := h e; exact ⟨b, m, h1, h2, Nat.lt_of_lt_of_le h3 k.size, Rd.chg h4 k⟩)
    | (intro e; exact Rd.chg (h e) k)
def E3 (j : Nat) : Prop := j = 8 ∨ j = 9 ∨ j = 21
structure A8 (c : K8) (lo : Nat) (L : Nat → Bool) (V : Nat → Value) (w : World) : Prop where
  good : ∀ j, j < 27 → L j = true → G8 c lo j (V j) w
  cl : L 22 = true → L 19 = true
  cl2 : L 19 = true → L 14 = true
  c12 : c.lg = false → L 12 = true → L 14 = false → ∃ g, V 12 = .slice (some ⟨g, 0, none⟩) 0 0 ∧ lo ≤ g ∧ w.heap[g]? = some (.cells #[] 5 (0, 0)) ∧ ∀ j, E3 j → L j = true → ∀ k, (V j).ownBlock = some k → k ≠ g
  c14 : c.lg = false → L 14 = true → L 19 = false → Ap.OwnV w (V 14) c.xk ∧ (∀ k, (V 14).ownBlock = some k → lo ≤ k) ∧ ∀ j, E3 j → L j = true → ∀ k, (V j).ownBlock = some k → (V 14).ownBlock ≠ some k
def up {α : Type} (f : Nat → α) (i : Nat) (x : α) : Nat → α := fun j => if j = i then x else f j
theorem up_self {α : Type} (f : Nat → α) (i : Nat) (x : α) : up f i x i = x := by simp [up]
theorem up_ne {α : Type} (f : Nat → α) {i j : Nat} (x : α) (h : j ≠ i) : up f i x j = f j := by simp [up, h]
theorem lt_of_heap {w : World} {g : Nat} {o : Obj} (h : w.heap[g]? = some o) : g < w.heap.size := (Array.getElem?_eq_some_iff.1 h).1
/-- An operation that makes no block of its own, or one that is new. -/
theorem A8.norm {c : K8} {lo : Nat} {L : Nat → Bool} {V : Nat → Value} {w w' : World} (h : A8 c lo L V w) (i : Nat) (v : Value) (k : Chg w w') (hg : G8 c lo i v w') (h22 : i = 22 → L 19 = true) (n12 : i ≠ 12) (n14 : i ≠ 14) (n19 : i ≠ 19) (hf : E3 i → ∀ b, v.ownBlock = some b → w.heap.size ≤ b) : A8 c lo (up L i true) (up V i v) w' := by
  refine ⟨fun j hj hl => ?_, fun hl => ?_, fun hl => ?_, fun e hl hm => ?_, fun e hl hm => ?_⟩
  · by_cases e : j = i
    · subst e
      rw [up_self]
      exact hg
    · rw [up_ne _ _ e]
      rw [up_ne _ _ e] at hl
      exact G8.chg c lo j _ w w' (h.good j hj hl) k
  · by_cases e : (22 : Nat) = i
    · rw [up_ne _ _ (fun x => n19 x.symm)]
      exact h22 e.symm
    · rw [up_ne _ _ e] at hl
      by_cases e2 : (19 : Nat) = i
      · exact absurd e2.symm n19
      · rw [up_ne _ _ e2]
        exact h.cl hl
  · rw [up_ne _ _ (fun x => n19 x.symm)] at hl
    rw [up_ne _ _ (fun x => n14 x.symm)]
    exact h.cl2 hl
  · rw [up_ne _ _ (fun x => n12 x.symm)] at hl
    rw [up_ne _ _ (fun x => n14 x.symm)] at hm
    obtain ⟨g, h1, h2, h3, h4⟩ := h.c12 e hl hm
    refine ⟨g, by rw [up_ne _ _ (fun x => n12 x.symm)]; exact h1, h2, (k.block g (lt_of_heap h3)).trans h3, fun j hj hlj b hb => ?_⟩
    by_cases ej : j = i
    · subst ej
      rw [up_self] at hb
      have := hf hj b hb
      have := lt_of_heap h3
      omega
    · rw [up_ne _ _ ej] at hlj hb
      exact h4 j hj hlj b hb
  · rw [up_ne _ _ (fun x => n14 x.symm)] at hl
    rw [up_ne _ _ (fun x => n19 x.symm)] at hm
    obtain ⟨h1, h2, h3⟩ := h.c14 e hl hm
    rw [up_ne _ _ (fun x => n14 x.symm)]
    refine ⟨OwnV.chg h1 k, h2, fun j hj hlj b hb => ?_⟩
    by_cases ej : j = i
    · subst ej
      rw [up_self] at hb
      have := hf hj b hb
      intro eo
      have := h1.lt b eo
      omega
    · rw [up_ne _ _ ej] at hlj hb
      exact h3 j hj hlj b hb
theorem G8.inpl (c : K8) (lo j : Nat) (v : Value) (w w' : World) (S : Nat → Prop) (h : G8 c lo j v w) (k : Ap.Chg S w w') (hv : E3 j → ∀ b, v.ownBlock = some b → ¬ S b) (n19 : j ≠ 19) (n22 : j ≠ 22) : G8 c lo j v w' := by
  have hcell : ∀ b, b < w.heap.size → ¬ S b → w'.cell? ⟨b, 0, none⟩ = w.cell? ⟨b, 0, none⟩ := fun b hb hs => World.cell?_of_block (k.block b hb hs)
  unfold G8 at *
  split at h
  case h_9 =>
    intro e
    obtain ⟨b, h1, h2, h3, h4⟩ := h e
    exact ⟨b, h1, h2, Nat.lt_of_lt_of_le h3 k.size, (hcell b h3 (hv (.inl rfl) b (by rw [h1]; rfl))).trans h4⟩
  case h_10 =>
    intro e
    obtain ⟨b, m, h1, h2, h3, h4⟩ := h e
    exact ⟨b, m, h1, h2, Nat.lt_of_lt_of_le h3 k.size, h4.keep (fun x hx hl => k.block x hl (hv (.inr (.inl rfl)) x hx))⟩
  case h_22 =>
    intro e
    obtain ⟨b, h1, h2, h3, h4⟩ := h e
    exact ⟨b, h1, h2, Nat.lt_of_lt_of_le h3 k.size, (hcell b h3 (hv (.inr (.inr rfl)) b (by rw [h1]; rfl))).trans h4⟩
  all_goals first | exact h | exact absurd rfl n19 | exact absurd rfl n22
theorem E3.lt {c : K8} {lo : Nat} {L : Nat → Bool} {V : Nat → Value} {w : World} (h : A8 c lo L V w) (e : c.lg = false) {j : Nat} (hj : E3 j) (hl : L j = true) {k : Nat} (hk : (V j).ownBlock = some k) : k < w.heap.size := by
  have hj27 : j < 27 := by rcases hj with rfl | rfl | rfl <;> decide
  have hg := h.good j hj27 hl
  rcases hj with rfl | rfl | rfl
  · obtain ⟨b, h1, _, h3, _⟩ := hg e
    rw [h1] at hk
    simp [Value.ownBlock] at hk
    omega
  · obtain ⟨b, m, h1, _, h3, _⟩ := hg e
    rw [h1] at hk
    simp [Value.ownBlock] at hk
    omega
  · obtain ⟨b, h1, _, h3, _⟩ := hg e
    rw [h1] at hk
    simp [Value.ownBlock] at hk
    omega
theorem A8.op12 {c : K8} {lo : Nat} {L : Nat → Bool} {V : Nat → Value} {w : World} (h : A8 c lo L V w) (hlo : lo ≤ w.heap.size) : A8 c lo (up L 12 true) (up V 12 (.slice (some ⟨w.heap.size, 0, none⟩) 0 0)) (w.alloc (.cells #[] 5)) := by
  have k : Chg w (w.alloc (.cells #[] 5)) := (Chg.refl w).alloc _
  refine ⟨fun j hj hl => ?_, fun hl => ?_, fun hl => ?_, fun e hl hm => ?_, fun e hl hm => ?_⟩
  · by_cases e : j = 12
    · subst e
      exact trivial
    · rw [up_ne _ _ e] at hl ⊢
      exact G8.chg c lo j _ w _ (h.good j hj hl) k
  · rw [up_ne _ _ (by decide)] at hl ⊢
    exact h.cl hl
  · rw [up_ne _ _ (by decide)] at hl ⊢
    exact h.cl2 hl
  · refine ⟨w.heap.size, up_self _ _ _, hlo, heap_alloc_last w _, fun j hj hlj b hb => ?_⟩
    have ne : j ≠ 12 := by rcases hj with rfl | rfl | rfl <;> decide
    rw [up_ne _ _ ne] at hlj hb
    have := E3.lt h e hj hlj hb
    omega
  · rw [up_ne _ _ (by decide)] at hl hm
    obtain ⟨h1, h2, h3⟩ := h.c14 e hl hm
    rw [up_ne _ _ (by decide)]
    refine ⟨OwnV.chg h1 k, h2, fun j hj hlj b hb => ?_⟩
    have ne : j ≠ 12 := by rcases hj with rfl | rfl | rfl <;> decide
    rw [up_ne _ _ ne] at hlj hb
    exact h3 j hj hlj b hb
theorem A8.op14 {c : K8} {lo : Nat} {L : Nat → Bool} {V : Nat → Value} {w w' : World} (h : A8 c lo L V w) (hlo : lo ≤ w.heap.size) (e : c.lg = false) (h12 : L 12 = true) (h14 : L 14 = false) (v : Value) (ho : Ap.OwnV w' v c.xk) (k : Ap.Chg (fun k => (V 12).ownBlock = some k) w w') (hb : v.ownBlock = (V 12).ownBlock ∨ v.ownBlock = some w.heap.size) : A8 c lo (up L 14 true) (up V 14 v) w' := by
  obtain ⟨g, g1, g2, g3, g4⟩ := h.c12 e h12 h14
  have l19 : L 19 = false := by
    cases hq : L 19 with
    | false => rfl
    | true => rw [h.cl2 hq] at h14; cases h14
  have l22 : L 22 = false := by
    cases hq : L 22 with
    | false => rfl
    | true => rw [h.cl hq] at l19; cases l19
  have hown : (V 12).ownBlock = some g := by rw [g1]; rfl
  refine ⟨fun j hj hl => ?_, fun hl => ?_, fun hl => up_self _ _ _, fun _ _ hm => ?_, fun _ _ _ => ?_⟩
  · by_cases ej : j = 14
    · subst ej
      exact trivial
    · rw [up_ne _ _ ej] at hl ⊢
      refine G8.inpl c lo j _ w w' _ (h.good j hj hl) k (fun he b hbb hs => ?_) (fun x => ?_) (fun x => ?_)
      · rw [hown] at hs
        injection hs with hs
        exact g4 j he hl b hbb hs.symm
      · rw [x, l19] at hl; cases hl
      · rw [x, l22] at hl; cases hl
  · rw [up_ne _ _ (by decide)] at hl ⊢
    exact h.cl hl
  · rw [up_self] at hm
    cases hm
  · rw [up_self]
    refine ⟨ho, fun b hbb => ?_, fun j hj hlj b hbb => ?_⟩
    · rcases hb with hb | hb
      · rw [hb, hown] at hbb
        injection hbb with hbb
        omega
      · rw [hb] at hbb
        injection hbb with hbb
        omega
    · have ne : j ≠ 14 := by rcases hj with rfl | rfl | rfl <;> decide
      rw [up_ne _ _ ne] at hlj hbb
      have hlt := E3.lt h e hj hlj hbb
      have hng := g4 j hj hlj b hbb
      intro hv
      rcases hb with hb | hb
      · rw [hb, hown] at hv
        injection hv with hv
        exact hng hv.symm
      · rw [hb] at hv
        injection hv with hv
        omega
theorem A8.op19 {c : K8} {lo : Nat} {L : Nat → Bool} {V : Nat → Value} {w w' : World} (h : A8 c lo L V w) (e : c.lg = false) (h14 : L 14 = true) (h19 : L 19 = false) (v : Value) (ho : Ap.Rd w' v (c.xk ++ List.replicate (c.B - c.km) 0)) (k : Ap.Chg (fun k => (V 14).ownBlock = some k) w w') : A8 c lo (up L 19 true) (up V 19 v) w' := by
  obtain ⟨g1, g2, g3⟩ := h.c14 e h14 h19
  have l22 : L 22 = false := by
    cases hq : L 22 with
    | false => rfl
    | true => rw [h.cl hq] at h19; cases h19
  refine ⟨fun j hj hl => ?_, fun hl => up_self _ _ _, fun hl => ?_, fun _ _ hm => ?_, fun _ _ hm => ?_⟩
  · by_cases ej : j = 19
    · subst ej
      rw [up_self]
      exact fun _ => ho
    · rw [up_ne _ _ ej] at hl ⊢
      refine G8.inpl c lo j _ w w' _ (h.good j hj hl) k (fun he b hbb hs => g3 j he hl b hbb hs) ej (fun x => ?_)
      rw [x, l22] at hl; cases hl
  · rw [up_ne _ _ (by decide)]
    exact h14
  · rw [up_ne _ _ (by decide), h14] at hm
    cases hm
  · rw [up_self] at hm
    cases hm
theorem A8.skip {c : K8} {lo : Nat} {L : Nat → Bool} {V : Nat → Value} {w : World} (h : A8 c lo L V w) (e : c.lg = true) (i : Nat) (hg : G8 c lo i undef w) (h22 : i = 22 → L 19 = true) (h19 : i = 19 → L 14 = true) : A8 c lo (up L i true) (up V i undef) w := by
  refine ⟨fun j hj hl => ?_, fun hl => ?_, fun hl => ?_, fun x => ?_, fun x => ?_⟩
  · by_cases ej : j = i
    · subst ej
      rw [up_self]
      exact hg
    · rw [up_ne _ _ ej] at hl ⊢
      exact h.good j hj hl
  · unfold up at hl ⊢
    split
    · rfl
    · split at hl
      · next x => exact h22 x.symm
      · exact h.cl hl
  · unfold up at hl ⊢
    split
    · rfl
    · split at hl
      · next x => exact h19 x.symm
      · exact h.cl2 hl
  · rw [e] at x
    cases x
  · rw [e] at x
    cases x
end Go.Proofs.YtlahfenjmpomhaaDoor
