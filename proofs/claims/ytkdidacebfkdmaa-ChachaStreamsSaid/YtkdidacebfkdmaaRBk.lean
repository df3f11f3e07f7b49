/-
  The document's block of the stream.
-/
import Derived.Test.YtkdidacebfkdmaaRWd
namespace Go.Proofs.Ytkdidacebfkdmaa
open Go.RowKit
set_option linter.unusedVariables false

/-- The first words: so many of the key, the count, so many of the nonce. -/
def iniR (key : Nat → By) (i : Nat) (c : Wd) (nonce : Nat → By) (k : Nat) : Nat → Wd := fun j =>
  if j < 4 then con j else if j < 4 + i then wordB key (j - 4) else if j < 12 then 0#32 else if j = 12 then c else if j < 13 + k then wordB nonce (j - 13) else 0#32
theorem iniR_start (key nonce : Nat → By) : EqN 16 con (iniR key 0 0#32 nonce 0) := by
  intro j hj
  unfold iniR
  split
  · rfl
  · rename_i h
    have e : con j = 0#32 := by unfold con; rw [if_neg (by omega), if_neg (by omega), if_neg (by omega), if_neg (by omega)]
    rw [e]
    by_cases h1 : j < 12
    · rw [if_pos h1]
    · rw [if_neg h1]
      by_cases h2 : j = 12
      · rw [if_pos h2]
      · rw [if_neg h2, if_neg (show ¬ j < 13 + 0 by omega)]
theorem iniR_key (key nonce : Nat → By) (c : Wd) {i : Nat} (hi : i < 8) : updW (iniR key i c nonce 0) (4 + i) (wordB key i) = iniR key (i + 1) c nonce 0 := by
  funext j
  unfold updW
  by_cases h : j = 4 + i
  · subst h
    unfold iniR
    rw [if_pos rfl, if_neg (by omega), if_pos (by omega), show 4 + i - 4 = i by omega]
  · rw [if_neg h]
    unfold iniR
    by_cases h1 : j < 4 + i
    · rw [if_pos h1, if_pos (show j < 4 + (i + 1) by omega)]
    · rw [if_neg h1, if_neg (show ¬ j < 4 + (i + 1) by omega)]
theorem iniR_count (key nonce : Nat → By) (c : Wd) : updW (iniR key 8 0#32 nonce 0) 12 c = iniR key 8 c nonce 0 := by
  funext j
  unfold updW iniR
  by_cases h : j = 12
  · subst h; simp
  · simp [h]
theorem iniR_nonce (key nonce : Nat → By) (c : Wd) {i : Nat} (hi : i < 3) : updW (iniR key 8 c nonce i) (13 + i) (wordB nonce i) = iniR key 8 c nonce (i + 1) := by
  funext j
  unfold updW
  by_cases h : j = 13 + i
  · subst h
    unfold iniR
    rw [if_pos rfl, if_neg (by omega), if_neg (by omega), if_neg (by omega), if_neg (by omega), if_pos (by omega), show 13 + i - 13 = i by omega]
  · rw [if_neg h]
    unfold iniR
    by_cases h1 : j < 13 + i
    · rw [if_pos h1, if_pos (show j < 13 + (i + 1) by omega)]
    · rw [if_neg h1, if_neg (show ¬ j < 13 + (i + 1) by omega)]
theorem iniR_all (key nonce : Nat → By) (c : Wd) : EqN 16 (iniR key 8 c nonce 3) (ini key c nonce) := by
  intro j hj
  unfold iniR ini
  by_cases h0 : j < 4
  · rw [if_pos h0, if_pos h0]
  · rw [if_neg h0, if_neg h0]
    by_cases h1 : j < 12
    · rw [if_pos (show j < 4 + 8 by omega), if_pos h1]
    · rw [if_neg (show ¬ j < 4 + 8 by omega), if_neg h1, if_neg h1]
      by_cases h2 : j = 12
      · rw [if_pos h2, if_pos h2]
      · rw [if_neg h2, if_neg h2, if_pos (show j < 13 + 3 by omega)]
theorem wordB_at (f : Nat → By) (i : Nat) : wordB (fun j => f (4 * i + j)) 0 = wordB f i := rfl

/-- What stands while the document makes a block. -/
structure RkS (w wr : World) (key nonce : Nat → By) (f : Nat → Wd) : Prop where
  chg : Chg w wr
  key : Ar wr w.heap.size (ba 32 key)
  non : Ar wr (w.heap.size + 1) (ba 12 nonce)
  res : Ar wr (w.heap.size + 1 + 1) (ba 64 zB)
  ws : Ar wr (w.heap.size + 1 + 1 + 1) (wa 16 f)
theorem RkS.to {w wr u : World} {key nonce : Nat → By} {f : Nat → Wd} (h : RkS w wr key nonce f) (k : Chg wr u) : RkS w u key nonce f := ⟨h.chg.trans k, h.key.chg k, h.non.chg k, h.res.chg k, h.ws.chg k⟩
theorem RkS.set {w wr : World} {key nonce : Nat → By} {f : Nat → Wd} (h : RkS w wr key nonce f) (i : Nat) (x : Wd) : RkS w (wr.setCell ⟨w.heap.size + 1 + 1 + 1, i, none⟩ (.int .u32 (x.toNat : Int))) key nonce (updW f i x) := by
  refine ⟨h.chg.setCell (by dsimp only; omega) _, h.key.other (by dsimp only; omega) _, h.non.other (by dsimp only; omega) _, h.res.other (by dsimp only; omega) _, ?_⟩
  have := h.ws.set i (.int .u32 (x.toNat : Int))
  rwa [wa_set] at this
theorem RkS.row {w wr : World} {key nonce : Nat → By} {f : Nat → Wd} (h : RkS w wr key nonce f) (g : Nat → Wd) : RkS w (wr.setRow (w.heap.size + 1 + 1 + 1) (wa 16 g)) key nonce g :=
  ⟨h.chg.setRow (by omega) _, h.key.rowOther (by omega) _, h.non.rowOther (by omega) _, h.res.rowOther (by omega) _, h.ws.row _⟩

theorem addr_add (b o i : Nat) : (⟨b, o, none⟩ : Addr).add i = ⟨b, o + i, none⟩ := by unfold Addr.add; split <;> simp_all
theorem run_sliceArr {t n : Nat} (hu : Try.prog.underlying t = some (.array n 5)) (b p q : Nat) (h1 : p ≤ q) (h2 : q ≤ n) (h3 : p < n) (w : World) : (Instr.sliceAt t (.pointer (some ⟨b, 0, none⟩)) (some (.int .i64 (p : Int))) (some (.int .i64 (q : Int))) none).run Try.prog w = .ok (.slice (some ⟨b, p, none⟩) (q - p) (n - p)) w := by
  have h4 : (p : Int) ≤ q := by omega
  have h5 : (q : Int) ≤ n := by omega
  have h6 : ¬ n = p := by omega
  simp [go_sem, Instr.sliceAt, Instr.sliceBounds, Instr.sliceBound, run_underlying hu, asIntOf, Sem.run_bind, h1, h2, h6, addr_add]
theorem Ar.bsAt {w : World} {b n : Nat} {f : Nat → By} (h : Ar w b (ba n f)) (p m : Nat) (hp : p + m ≤ n) : Bs w b p m (fun j => f (p + j)) := fun j hj => (h.cell (p + j)).trans (ba_get n f (by omega))
theorem modf (r d : Nat) (hr : r < 4) (hd : d ≤ 3) : ∃ ra rm : Nat, (r : Int) + d = ra ∧ IntKind.i64.wrap (ra : Int) = ra ∧ (ra : Int).tmod 4 = rm ∧ IntKind.i64.wrap (rm : Int) = rm ∧ Hid (rm = (r + d) % 4) := by
  refine ⟨r + d, (r + d) % 4, by omega, wrap_i (by omega) (by omega), ?_, wrap_i (by omega) (by omega), rfl⟩
  rw [Int.tmod_eq_emod_of_nonneg (by omega)]
  omega
end Go.Proofs.Ytkdidacebfkdmaa
