/-
  The sixteen words that a block is mixed of: the function beginning.
-/
import Derived.Test.YtkdidacebfkdmaaQt
namespace Go.Proofs.Ytkdidacebfkdmaa
open Go.RowKit
set_option linter.unusedVariables false

theorem und22 : Try.prog.underlying 22 = some (.array 32 5) := by kernel_rfl
theorem i22 : (Try.prog.info? 22).map (·.size) = some 32 := by kernel_rfl
theorem und24 : Try.prog.underlying 24 = some (.array 12 5) := by kernel_rfl
theorem i24 : (Try.prog.info? 24).map (·.size) = some 12 := by kernel_rfl
theorem und28 : Try.prog.underlying 28 = some (.array 64 5) := by kernel_rfl
theorem i28 : (Try.prog.info? 28).map (·.size) = some 64 := by kernel_rfl
theorem zero28 : (∀ w, (zeroValue 28).run Try.prog w = .ok (.agg (ba 64 zB)) w) ∧ (Try.prog.info? 28).map (·.size) = some 64 := zero_of_info (by kernel_rfl)
theorem run_idx {t n : Nat} (hu : Try.prog.underlying t = some (.array n 5)) (f : Nat → By) {i : Nat} (hi : i < n) (w : World) :
    (Instr.index t (.agg (ba n f)) (.int .i64 i)).run Try.prog w = .ok (.int .u8 ((f i).toNat : Int)) w := by
  have h2 : (i : Int) < n := by omega
  have h3 : ¬ n ≤ i := by omega
  simp [Instr.index, asIntOf, run_underlying hu, part, ba_get n f hi, Sem.run_bind, hi]

theorem zx_num (b : By) (s : Nat) : IntKind.u32.wrap ((b.toNat : Int) * 2 ^ s) = ((zx b <<< s).toNat : Int) := by
  have hb := b.isLt
  rw [BitVec.toNat_shiftLeft, Nat.shiftLeft_eq, IntKind.wrap_u32, zx, BitVec.toNat_setWidth, Nat.mod_eq_of_lt (show b.toNat < 2 ^ 32 by omega)]
  simp
theorem nmShlB (b : By) (s : Nat) : ∃ z : Wd, Hid (z = zx b <<< s) ∧ (b.toNat : Int) * 2 ^ s % 4294967296 = (z.toNat : Int) := ⟨_, rfl, by rw [← zx_num, IntKind.wrap_u32]⟩
theorem nmByte (x : Wd) (s : Nat) : ∃ z : By, Hid (z = (x >>> s).setWidth 8) ∧ IntKind.u8.wrap ((x.toNat : Int) / 2 ^ s) = (z.toNat : Int) := by
  refine ⟨_, rfl, ?_⟩
  rw [BitVec.toNat_setWidth, BitVec.toNat_ushiftRight, Nat.shiftRight_eq_div_pow, IntKind.wrap_u8]
  simp

/-- A place's word, its byte in it, its bits. -/
theorem dm4 (i : Nat) (h : i < 64) : ∃ q r s : Nat, (i : Int).tdiv 4 = q ∧ (i : Int).tmod 4 = r ∧ 8 * (r : Int) = s ∧ IntKind.i64.wrap (q : Int) = q ∧ IntKind.i64.wrap (r : Int) = r ∧ IntKind.i64.wrap (s : Int) = s ∧ (q : Int) < 16 ∧ (s : Int) < 32 ∧ s < 64 ∧ Hid (q = i / 4 ∧ r = i % 4 ∧ s = 8 * (i % 4)) := by
  refine ⟨i / 4, i % 4, 8 * (i % 4), by rw [Int.tdiv_eq_ediv_of_nonneg (by omega)]; omega, by rw [Int.tmod_eq_emod_of_nonneg (by omega)]; omega, by omega, wrap_i (by omega) (by omega), wrap_i (by omega) (by omega), wrap_i (by omega) (by omega), by omega, by omega, by omega, ⟨rfl, rfl, rfl⟩⟩

theorem iniP_key (key nonce : Nat → By) (c : Wd) {i : Nat} (hi : i < 32) (z : Wd) (hz : z = iniP key i c nonce 0 (4 + i / 4) ||| zx (key i) <<< (8 * (i % 4))) : updW (iniP key i c nonce 0) (4 + i / 4) z = iniP key (i + 1) c nonce 0 := by
  funext j
  unfold updW
  by_cases h : j = 4 + i / 4
  · rw [if_pos h, hz, h]
    unfold iniP
    rw [if_neg (by omega), if_pos (by omega), if_neg (by omega), if_pos (by omega), show 4 + i / 4 - 4 = i / 4 by omega, wordP_succ]
  · rw [if_neg h]
    unfold iniP
    split
    · rfl
    · split
      · rw [wordP_other key (by omega)]
      · rfl
theorem iniP_nonce (key nonce : Nat → By) (c : Wd) {i : Nat} (hi : i < 12) (z : Wd) (hz : z = iniP key 32 c nonce i (13 + i / 4) ||| zx (nonce i) <<< (8 * (i % 4))) : updW (iniP key 32 c nonce i) (13 + i / 4) z = iniP key 32 c nonce (i + 1) := by
  funext j
  unfold updW
  by_cases h : j = 13 + i / 4
  · rw [if_pos h, hz, h]
    unfold iniP
    rw [if_neg (by omega), if_neg (by omega), if_neg (by omega), if_neg (by omega), if_neg (by omega), if_neg (by omega), show 13 + i / 4 - 13 = i / 4 by omega, wordP_succ]
  · rw [if_neg h]
    unfold iniP
    split
    · rfl
    · split
      · rfl
      · split
        · rfl
        · rw [wordP_other nonce (by omega)]
theorem iniP_start (key nonce : Nat → By) : wa 16 con = wa 16 (iniP key 0 0#32 nonce 0) := by
  refine wa_congr fun j hj => ?_
  unfold iniP
  split
  · rfl
  · rename_i h
    have e : con j = 0#32 := by unfold con; rw [if_neg (by omega), if_neg (by omega), if_neg (by omega), if_neg (by omega)]
    rw [e, wordP_zero, wordP_zero]
    split
    · rfl
    · split <;> rfl
theorem iniP_count (key nonce : Nat → By) (i : Nat) (c c' : Wd) : updW (iniP key i c nonce 0) 12 c' = iniP key i c' nonce 0 := by
  funext j
  unfold updW iniP
  by_cases h : j = 12
  · subst h; simp
  · simp [h]
theorem iniP_all (key nonce : Nat → By) (c : Wd) : EqN 16 (iniP key 32 c nonce 12) (ini key c nonce) := by
  intro j hj
  unfold iniP ini
  split
  · rfl
  · split
    · rw [wordP_all key (by omega)]
    · split
      · rfl
      · rw [wordP_all nonce (by omega)]
theorem con_cells : ((((wa 16 zW).setIfInBounds 0 (.int .u32 1634760805)).setIfInBounds 1 (.int .u32 857760878)).setIfInBounds 2 (.int .u32 2036477234)).setIfInBounds 3 (.int .u32 1797285236) = wa 16 con := by
  have e0 := wa_set 16 zW 0 0x61707865#32
  have e1 := wa_set 16 (updW zW 0 0x61707865#32) 1 0x3320646e#32
  have e2 := wa_set 16 (updW (updW zW 0 0x61707865#32) 1 0x3320646e#32) 2 0x79622d32#32
  have e3 := wa_set 16 (updW (updW (updW zW 0 0x61707865#32) 1 0x3320646e#32) 2 0x79622d32#32) 3 0x6b206574#32
  rw [← e2, ← e1, ← e0] at e3
  refine e3.trans (wa_congr fun j hj => ?_)
  unfold updW con zW
  by_cases h3 : j = 3
  · subst h3; rfl
  · by_cases h2 : j = 2
    · subst h2; rfl
    · by_cases h1 : j = 1
      · subst h1; rfl
      · by_cases h0 : j = 0
        · subst h0; rfl
        · simp [h0, h1, h2, h3]

theorem heap_new3 (w : World) (a b c : Obj) (x : Array Value) (t : TypeId) : ((((w.alloc a).alloc b).alloc c).alloc (.cells x t)).heap[w.heap.size + 1 + 1 + 1]? = some (.cells x t (0, 0)) := by
  have := heap_alloc_last (((w.alloc a).alloc b).alloc c) (.cells x t)
  rwa [World.size_alloc, World.size_alloc, World.size_alloc] at this
/-- What stands while the words are laid. -/
structure BgS (w wr : World) (B : Nat) (key nonce : Nat → By) (f : Nat → Wd) : Prop where
  chg : Chg w wr
  key : Ar wr w.heap.size (ba 32 key)
  non : Ar wr (w.heap.size + 1) (ba 12 nonce)
  out : Ar wr (w.heap.size + 1 + 1) (wa 16 zW)
  ws : Ar wr (w.heap.size + 1 + 1 + 1) (wa 16 f)
theorem BgS.set {w wr : World} {B : Nat} {key nonce : Nat → By} {f : Nat → Wd} (h : BgS w wr B key nonce f) (i : Nat) (x : Wd) : BgS w (wr.setCell ⟨w.heap.size + 1 + 1 + 1, i, none⟩ (.int .u32 (x.toNat : Int))) B key nonce (updW f i x) := by
  refine ⟨h.chg.setCell (by dsimp only; omega) _, h.key.other (by dsimp only; omega) _, h.non.other (by dsimp only; omega) _, h.out.other (by dsimp only; omega) _, ?_⟩
  have := h.ws.set i (.int .u32 (x.toNat : Int))
  rwa [wa_set] at this
theorem BgS.drew {w wr : World} {B : Nat} {key nonce : Nat → By} {f : Nat → Wd} (h : BgS w wr B key nonce f) : BgS w wr.drew B key nonce f := ⟨h.chg.drew, h.key, h.non, h.out, h.ws⟩
end Go.Proofs.Ytkdidacebfkdmaa
