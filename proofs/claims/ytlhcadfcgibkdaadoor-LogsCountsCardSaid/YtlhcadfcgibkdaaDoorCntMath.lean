/-
  Counters as a list by rising names: what the document's Count makes of it is what a store makes of it; and of such a list there is one sorted order.
-/
import Derived.Test.YtlhcadfcgibkdaaDoorCntRef
import Derived.Test.YtlhcadfcgibkdaaDoorCntSort
namespace Go.Proofs.YtlhcadfcgibkdaaDoor
open Go.RowKit Go.Lib Go.Sort Go.Shelf
set_option linter.unusedVariables false

theorem less_before : ∀ a b : List UInt8, Op.bytesLess a b = bytesBefore a b
  | [], [] => rfl
  | [], _ :: _ => rfl
  | _ :: _, [] => rfl
  | a :: r, b :: s => by unfold Op.bytesLess bytesBefore; rw [less_before r s]

theorem cmp_before : ∀ a b : List UInt8, decide (compareBytes a b < 0) = bytesBefore a b
  | [], [] => rfl
  | [], _ :: _ => rfl
  | _ :: _, [] => rfl
  | a :: r, b :: s => by
    have ih := cmp_before r s
    unfold compareBytes bytesBefore
    by_cases h1 : a < b
    · simp [h1]
    · by_cases h2 : b < a
      · have : (a == b) = false := by
          simp only [beq_eq_false_iff_ne]
          intro e
          subst e
          exact h1 h2
        simp [h1, h2, this]
      · have e : a = b := by
          have h1' : ¬ a.toNat < b.toNat := fun h => h1 (UInt8.lt_iff_toNat_lt.2 h)
          have h2' : ¬ b.toNat < a.toNat := fun h => h2 (UInt8.lt_iff_toNat_lt.2 h)
          exact UInt8.toNat_inj.1 (by omega)
        subst e
        simp only [h1, if_false, decide_false, beq_self_eq_true, Bool.true_and, Bool.false_or]
        exact ih

theorem before_irrefl : ∀ a : List UInt8, bytesBefore a a = false
  | [] => rfl
  | a :: r => by
    have : ¬ a < a := fun h => by have := UInt8.lt_iff_toNat_lt.1 h; omega
    unfold bytesBefore
    simp [before_irrefl r]
theorem before_trans : ∀ a b c : List UInt8, bytesBefore a b = true → bytesBefore b c = true → bytesBefore a c = true
  | [], [], _, h, _ => by simp [bytesBefore] at h
  | [], _ :: _, [], _, h => by simp [bytesBefore] at h
  | [], _ :: _, _ :: _, _, _ => rfl
  | _ :: _, [], _, h, _ => by simp [bytesBefore] at h
  | _ :: _, _ :: _, [], _, h => by simp [bytesBefore] at h
  | a :: r, b :: s, c :: t, h1, h2 => by
    unfold bytesBefore at h1 h2 ⊢
    simp only [Bool.or_eq_true, decide_eq_true_eq, Bool.and_eq_true, beq_iff_eq, UInt8.lt_iff_toNat_lt] at h1 h2 ⊢
    rcases h1 with h1 | ⟨rfl, h1⟩ <;> rcases h2 with h2 | ⟨rfl, h2⟩
    · left; omega
    · left; exact h1
    · left; exact h2
    · right; exact ⟨rfl, before_trans r s t h1 h2⟩
theorem before_total : ∀ a b : List UInt8, bytesBefore a b = false → bytesBefore b a = false → a = b
  | [], [], _, _ => rfl
  | [], _ :: _, h, _ => by simp [bytesBefore] at h
  | _ :: _, [], _, h => by simp [bytesBefore] at h
  | a :: r, b :: s, h1, h2 => by
    unfold bytesBefore at h1 h2
    simp only [Bool.or_eq_false_iff, decide_eq_false_iff_not, Bool.and_eq_false_iff, beq_eq_false_iff_ne, UInt8.lt_iff_toNat_lt] at h1 h2
    have e : a = b := UInt8.toNat_inj.1 (by omega)
    subst e
    have i1 : bytesBefore r s = false := by rcases h1.2 with h | h; exact absurd rfl h; exact h
    have i2 : bytesBefore s r = false := by rcases h2.2 with h | h; exact absurd rfl h; exact h
    rw [before_total r s i1 i2]
theorem before_asym {a b : List UInt8} (h : bytesBefore a b = true) : bytesBefore b a = false := by
  cases h2 : bytesBefore b a
  · rfl
  · have := before_trans a b a h h2
    rw [before_irrefl] at this
    cases this

theorem swo_cmp : SWO (ltOf cmpC) := by
  have e : ∀ x y, ltOf cmpC x y = bytesBefore x.name y.name := fun x y => cmp_before x.name y.name
  refine ⟨fun x => by rw [e]; exact before_irrefl _, fun x y z h1 h2 => ?_, fun x y z h1 h2 => ?_⟩
  · rw [e] at *
    exact before_trans _ _ _ h1 h2
  · rw [e] at *
    cases h3 : bytesBefore x.name z.name
    · rfl
    · by_cases h4 : bytesBefore y.name x.name = true
      · have := before_trans _ _ _ h4 h3
        rw [h2] at this; cases this
      · have h5 := before_total _ _ h1 (Bool.eq_false_iff.2 h4)
        rw [h5] at h3
        rw [h2] at h3; cases h3

def Rise (L : List Ent) : Prop := L.Pairwise (fun x y => bytesBefore x.name y.name = true)

/-- Of a list by rising names there is one order without a step down. -/
theorem rise_unique : ∀ (L M : List Ent), Rise L → M.Perm L → M.Pairwise (fun x y => bytesBefore y.name x.name = false) → M = L
  | [], M, _, hp, _ => by simpa using hp
  | x :: L, [], _, hp, _ => by simpa using hp.symm
  | x :: L, y :: M, hL, hp, hM => by
    have hx := (List.pairwise_cons.1 hL)
    have hy := (List.pairwise_cons.1 hM)
    have exy : y = x := by
      have h1 : y ∈ x :: L := hp.subset (by simp)
      have h2 : x ∈ y :: M := hp.symm.subset (by simp)
      rcases List.mem_cons.1 h1 with h1 | h1
      · exact h1
      · rcases List.mem_cons.1 h2 with h2 | h2
        · exact h2.symm
        · have a := hx.1 y h1
          have b := hy.1 x h2
          rw [a] at b; cases b
    subst exy
    have := rise_unique L M hx.2 (List.Perm.cons_inv hp) hy.2
    rw [this]

/-! The document's Count. -/
def cntV (nm : List UInt8) (n : Nat) (L : List Ent) : Nat := match findL nm L with | some e => sumU e.n n | none => n

theorem gt_before {nm c : List UInt8} (h : c ≠ nm) : gtB nm c = bytesBefore nm c := by
  unfold gtB
  have e1 : (c == nm) = false := by simpa using h
  rw [e1, less_before]
  simp only [Bool.not_false, Bool.true_and]
  cases h1 : bytesBefore c nm
  · cases h2 : bytesBefore nm c
    · exact absurd (before_total _ _ h1 h2) h
    · rfl
  · rw [before_asym h1]; rfl
theorem gt_same (nm : List UInt8) : gtB nm nm = false := by unfold gtB; simp

theorem goR_id (nm : List UInt8) (n : Nat) : ∀ L : List Ent, (∀ x ∈ L, x.name ≠ nm) → goR nm n true L = L
  | [], _ => rfl
  | c :: L, h => by
    have h1 : (c.name == nm) = false := by simpa using h c (by simp)
    unfold goR
    rw [h1]
    simp only [Bool.not_true, Bool.false_and, Bool.true_or, Bool.false_eq_true, if_false, List.nil_append]
    rw [goR_id nm n L (fun x hx => h x (by simp [hx]))]

theorem delL_id (nm : List UInt8) (L : List Ent) (h : ∀ x ∈ L, x.name ≠ nm) : delL nm L = L := by
  unfold delL
  rw [List.filter_eq_self]
  intro x hx
  simpa using h x hx

theorem insL_first (e : Ent) (L : List Ent) (h : ∀ x ∈ L, bytesBefore e.name x.name = true) : insL e L = e :: L := by
  cases L with
  | nil => rfl
  | cons y L => unfold insL; rw [if_pos (h y (by simp))]

theorem insL_cons (e y : Ent) (r : List Ent) : insL e (y :: r) = if bytesBefore e.name y.name then e :: y :: r else y :: insL e r := rfl

theorem goR_put (nm : List UInt8) (n : Nat) : ∀ L : List Ent, Rise L → goR nm n false L = putL ⟨nm, cntV nm n L⟩ L
  | [], _ => rfl
  | c :: L, hL => by
    obtain ⟨hc, hr⟩ := List.pairwise_cons.1 hL
    unfold goR
    by_cases he : c.name = nm
    · have e1 : (c.name == nm) = true := by simpa using he
      have hne : ∀ x ∈ L, x.name ≠ nm := fun x hx e => by
        have := hc x hx
        rw [e, he, before_irrefl] at this
        cases this
      have hg : gtB nm c.name = false := by rw [he]; exact gt_same nm
      have hf : cntV nm n (c :: L) = sumU c.n n := by unfold cntV findL; simp [e1]
      have hd : delL nm (c :: L) = L := by
        have := delL_id nm L hne
        unfold delL at this ⊢
        simp [e1, this]
      rw [hg, e1, hf]
      simp only [Bool.not_false, Bool.and_false, Bool.false_eq_true, if_false, List.nil_append, if_true, Bool.or_true]
      rw [goR_id nm n L hne]
      unfold putL
      rw [hd, insL_first _ _ (fun x hx => by have := hc x hx; rw [he] at this; exact this)]
    · have e1 : (c.name == nm) = false := by simpa using he
      rw [gt_before he, e1]
      have hf : cntV nm n (c :: L) = cntV nm n L := by unfold cntV findL; simp [e1]
      have hd : delL nm (c :: L) = c :: delL nm L := by unfold delL; simp [e1]
      cases hb : bytesBefore nm c.name
      · simp only [Bool.not_false, Bool.and_false, Bool.false_eq_true, if_false, List.nil_append, Bool.or_false]
        rw [goR_put nm n L hr, hf]
        unfold putL
        rw [hd, insL_cons, if_neg (by rw [hb]; simp)]
      · have hall : ∀ x ∈ c :: L, bytesBefore nm x.name = true := fun x hx => by
          rcases List.mem_cons.1 hx with rfl | hx
          · exact hb
          · exact before_trans _ _ _ hb (hc x hx)
        have hne : ∀ x ∈ L, x.name ≠ nm := fun x hx e => by
          have := hall x (by simp [hx])
          rw [e, before_irrefl] at this
          cases this
        simp only [Bool.not_false, Bool.and_true, if_true, Bool.or_true, Bool.true_or, Bool.false_eq_true, if_false]
        rw [goR_id nm n L hne, hf]
        have hcv : cntV nm n L = n := by
          unfold cntV
          have : findL nm L = none := by
            unfold findL
            rw [List.find?_eq_none]
            intro x hx
            simpa using hne x hx
          rw [this]
        unfold putL
        rw [hcv, hd, delL_id nm L hne, insL_first _ _ hall]
        rfl

theorem sumU_lt (a b : Nat) (ha : a < 18446744073709551616) (hb : b < 18446744073709551616) : sumU a b < 18446744073709551616 := by
  unfold sumU
  split <;> omega
end Go.Proofs.YtlhcadfcgibkdaaDoor
