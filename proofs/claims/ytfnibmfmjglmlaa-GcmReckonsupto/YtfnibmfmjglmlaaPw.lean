/-
  Polynomials as two words of 64 bits: halves, times x, turned left, masks, bytes.
-/
import Derived.Test.YtfnibmfmjglmlaaBase
import Derived.Test.YtfnibmfmjglmlaaGf
namespace Go.Proofs.Ytfnibmfmjglmlaa
open Go.RowKit
set_option linter.unusedVariables false

abbrev Wo := BitVec 64
def hi (p : Po) : Wo := p.extractLsb' 64 64
def lo (p : Po) : Wo := p.extractLsb' 0 64
def jn (h l : Wo) : Po := h ++ l

theorem jn_get (h l : Wo) (i : Nat) : (jn h l).getLsbD i = if i < 64 then l.getLsbD i else h.getLsbD (i - 64) := by
  unfold jn
  rw [BitVec.getLsbD_append]
theorem hi_get (p : Po) {i : Nat} (h : i < 64) : (hi p).getLsbD i = p.getLsbD (64 + i) := by unfold hi; rw [BitVec.getLsbD_extractLsb']; simp [h]
theorem lo_get (p : Po) {i : Nat} (h : i < 64) : (lo p).getLsbD i = p.getLsbD i := by unfold lo; rw [BitVec.getLsbD_extractLsb', Nat.zero_add]; simp [h]
theorem hi_jn (h l : Wo) : hi (jn h l) = h := by
  apply BitVec.eq_of_getLsbD_eq
  intro i hi'
  rw [hi_get _ hi', jn_get, if_neg (by omega), show 64 + i - 64 = i by omega]
theorem lo_jn (h l : Wo) : lo (jn h l) = l := by
  apply BitVec.eq_of_getLsbD_eq
  intro i hi'
  rw [lo_get _ hi', jn_get, if_pos hi']
theorem po_ext {p q : Po} (h1 : hi p = hi q) (h2 : lo p = lo q) : p = q := by
  apply BitVec.eq_of_getLsbD_eq
  intro i hi'
  by_cases h : i < 64
  · rw [← lo_get p h, ← lo_get q h, h2]
  · have e : i = 64 + (i - 64) := by omega
    rw [e, ← hi_get p (by omega), ← hi_get q (by omega), h1]
theorem jn_hl (p : Po) : jn (hi p) (lo p) = p := po_ext (hi_jn _ _) (lo_jn _ _)
theorem hi_xor (p q : Po) : hi (p ^^^ q) = hi p ^^^ hi q := by
  apply BitVec.eq_of_getLsbD_eq
  intro i hi'
  rw [hi_get _ hi', BitVec.getLsbD_xor, BitVec.getLsbD_xor, hi_get _ hi', hi_get _ hi']
theorem lo_xor (p q : Po) : lo (p ^^^ q) = lo p ^^^ lo q := by
  apply BitVec.eq_of_getLsbD_eq
  intro i hi'
  rw [lo_get _ hi', BitVec.getLsbD_xor, BitVec.getLsbD_xor, lo_get _ hi', lo_get _ hi']

/-! Times x; turned left. -/
theorem cR : ∀ i, i < 64 → (0xe1000000000000000000000000000000#128 : Po).getLsbD (64 + i) = (0xe100000000000000#64 : Wo).getLsbD i := by decide +kernel
theorem cR0 : ∀ i, i < 64 → (0xe1000000000000000000000000000000#128 : Po).getLsbD i = false := by decide +kernel
def ovf (l : Wo) : Wo := if l.getLsbD 0 then 0xe100000000000000#64 else 0#64
theorem lo_zero (p : Po) : (lo p).getLsbD 0 = p.getLsbD 0 := lo_get p (by omega)
theorem hi_tx (p : Po) : hi (tx p) = (hi p >>> 1) ^^^ ovf (lo p) := by
  apply BitVec.eq_of_getLsbD_eq
  intro i hi'
  rw [hi_get _ hi', BitVec.getLsbD_xor, BitVec.getLsbD_ushiftRight]
  unfold tx ovf
  rw [lo_zero, BitVec.getLsbD_xor, BitVec.getLsbD_ushiftRight]
  have e1 : (hi p).getLsbD (1 + i) = p.getLsbD (1 + (64 + i)) := by
    by_cases h : 1 + i < 64
    · rw [hi_get _ h, show 64 + (1 + i) = 1 + (64 + i) by omega]
    · rw [BitVec.getLsbD_of_ge _ _ (by omega), BitVec.getLsbD_of_ge _ _ (by omega)]
  rw [e1]
  cases p.getLsbD 0
  · simp
  · rw [if_pos rfl, if_pos rfl, cR i hi']
theorem lo_tx (p : Po) : lo (tx p) = (lo p >>> 1) ||| (hi p <<< 63) := by
  apply BitVec.eq_of_getLsbD_eq
  intro i hi'
  rw [lo_get _ hi', BitVec.getLsbD_or, BitVec.getLsbD_ushiftRight, BitVec.getLsbD_shiftLeft]
  unfold tx
  rw [BitVec.getLsbD_xor, BitVec.getLsbD_ushiftRight]
  have e0 : (if p.getLsbD 0 then 0xe1000000000000000000000000000000#128 else 0#128 : Po).getLsbD i = false := by
    cases p.getLsbD 0
    · simp
    · rw [if_pos rfl, cR0 i hi']
  rw [e0, Bool.xor_false]
  by_cases h : i < 63
  · rw [lo_get _ (by omega)]; simp [h]
  · have hi63 : i = 63 := by omega
    subst hi63
    rw [BitVec.getLsbD_of_ge (lo p) _ (by omega), hi_get _ (by omega)]
    simp
theorem hi_shl (p : Po) : hi (p <<< 1) = (hi p <<< 1) ||| (lo p >>> 63) := by
  apply BitVec.eq_of_getLsbD_eq
  intro i hi'
  rw [hi_get _ hi', BitVec.getLsbD_or, BitVec.getLsbD_ushiftRight, BitVec.getLsbD_shiftLeft, BitVec.getLsbD_shiftLeft]
  by_cases h : i < 1
  · have h0 : i = 0 := by omega
    subst h0
    rw [lo_get _ (by omega)]; simp
  · rw [BitVec.getLsbD_of_ge (lo p) _ (by omega), hi_get _ (show i - 1 < 64 by omega), show 64 + (i - 1) = 64 + i - 1 by omega]
    simp [h, hi']; intro; omega
theorem lo_shl (p : Po) : lo (p <<< 1) = lo p <<< 1 := by
  apply BitVec.eq_of_getLsbD_eq
  intro i hi'
  rw [lo_get _ hi', BitVec.getLsbD_shiftLeft, BitVec.getLsbD_shiftLeft, lo_get _ (show i - 1 < 64 by omega)]
  have h2 : i < 128 := by omega
  simp [hi', h2]
/-- All ones, or nothing. -/
def mk (c : Bool) : Wo := if c then 0xffffffffffffffff#64 else 0#64
theorem hi_sel (c : Bool) (p : Po) : hi (sel c p) = hi p &&& mk c := by
  cases c
  · simp only [sel, mk, Bool.false_eq_true, if_false]; rw [BitVec.and_zero]; decide +kernel
  · simp only [sel, mk, if_true]; exact (BitVec.and_allOnes).symm
theorem lo_sel (c : Bool) (p : Po) : lo (sel c p) = lo p &&& mk c := by
  cases c
  · simp only [sel, mk, Bool.false_eq_true, if_false]; rw [BitVec.and_zero]; decide +kernel
  · simp only [sel, mk, if_true]; exact (BitVec.and_allOnes).symm
theorem hi_top (p : Po) : (hi p).getLsbD 63 = p.getMsbD 0 := by
  rw [hi_get _ (by omega)]
  rfl

/-! Words as Go reckons them. -/
theorem nmShr (x : Wo) (k : Nat) (d : Int) (hd : d = (2 : Int) ^ k) : ∃ z : Wo, Hid (z = x >>> k) ∧ (x.toNat : Int) / d = (z.toNat : Int) := by
  refine ⟨_, rfl, ?_⟩
  rw [BitVec.toNat_ushiftRight, Nat.shiftRight_eq_div_pow, hd]
  simp
theorem nmShl (x : Wo) (k : Nat) (d : Int) (hd : d = (2 : Int) ^ k) : ∃ z : Wo, Hid (z = x <<< k) ∧ IntKind.u64.wrap ((x.toNat : Int) * d) = (z.toNat : Int) := by
  refine ⟨_, rfl, ?_⟩
  rw [BitVec.toNat_shiftLeft, Nat.shiftLeft_eq, hd, IntKind.wrap_u64]
  simp
theorem nmXor (x y : Wo) : ∃ z : Wo, Hid (z = x ^^^ y) ∧ Go.bits .xor .u64 (x.toNat : Int) (y.toNat : Int) = (z.toNat : Int) := ⟨_, rfl, by rw [u64_xor_nat _ _ x.isLt y.isLt, BitVec.toNat_xor]⟩
theorem nmOr (x y : Wo) : ∃ z : Wo, Hid (z = x ||| y) ∧ Go.bits .or .u64 (x.toNat : Int) (y.toNat : Int) = (z.toNat : Int) := ⟨_, rfl, by rw [u64_or_nat _ _ x.isLt y.isLt, BitVec.toNat_or]⟩
theorem nmAnd (x y : Wo) : ∃ z : Wo, Hid (z = x &&& y) ∧ Go.bits .and .u64 (x.toNat : Int) (y.toNat : Int) = (z.toNat : Int) := ⟨_, rfl, by rw [u64_and_nat _ _ x.isLt y.isLt, BitVec.toNat_and]⟩
theorem nmOvf (l : Wo) : ∃ y z : Wo, Hid (z = ovf l) ∧ Go.bits .and .u64 (l.toNat : Int) 1 = (y.toNat : Int) ∧ IntKind.u64.wrap ((y.toNat : Int) * 16212958658533785600) = (z.toNat : Int) := by
  refine ⟨l &&& 1#64, ovf l, rfl, ?_, ?_⟩
  · have := u64_and_nat l.toNat 1 l.isLt (by omega)
    rw [BitVec.toNat_and]
    exact this
  · have e : l &&& 1#64 = if l.getLsbD 0 then 1#64 else 0#64 := by
      apply BitVec.eq_of_getLsbD_eq
      intro i hi'
      rw [BitVec.getLsbD_and]
      by_cases h : i = 0
      · subst h; cases l.getLsbD 0 <;> simp
      · have : (1#64 : Wo).getLsbD i = false := by simp [h]
        rw [this]; cases l.getLsbD 0 <;> simp [h]
    rw [e, ovf, IntKind.wrap_u64]
    cases l.getLsbD 0 <;> decide
theorem nmMask (h : Wo) : ∃ y z : Wo, Hid (z = mk (h.getLsbD 63)) ∧ (h.toNat : Int) / 9223372036854775808 = (y.toNat : Int) ∧ IntKind.u64.wrap (-(y.toNat : Int)) = (z.toNat : Int) := by
  refine ⟨h >>> 63, mk (h.getLsbD 63), rfl, ?_, ?_⟩
  · rw [BitVec.toNat_ushiftRight, Nat.shiftRight_eq_div_pow]
    simp
  · have e : h >>> 63 = if h.getLsbD 63 then 1#64 else 0#64 := by
      apply BitVec.eq_of_getLsbD_eq
      intro i hi'
      rw [BitVec.getLsbD_ushiftRight]
      by_cases h0 : i = 0
      · subst h0; cases h.getLsbD 63 <;> simp
      · rw [BitVec.getLsbD_of_ge _ _ (by omega)]; cases h.getLsbD 63 <;> simp [h0]
    rw [e, mk, IntKind.wrap_u64]
    cases h.getLsbD 63 <;> decide

/-- A polynomial's cells. -/
def pc (h l : Wo) : Array Value := #[.int .u64 (h.toNat : Int), .int .u64 (l.toNat : Int)]
def pv (p : Po) : Array Value := pc (hi p) (lo p)
theorem pc_pv (h l : Wo) : pc h l = pv (jn h l) := by unfold pv; rw [hi_jn, lo_jn]
theorem pv_of {p : Po} {h l : Wo} (h1 : h = hi p) (h2 : l = lo p) : pc h l = pv p := by rw [h1, h2]; rfl
theorem pv_size (p : Po) : (pv p).size = 2 := rfl
theorem pc_one (h l : Wo) : (pc h l).all (·.oneCell') = true := by
  unfold pc
  simp [Value.oneCell']
theorem pv_one (p : Po) : (pv p).all (·.oneCell') = true := pc_one _ _
theorem zero65 : (∀ w, (zeroValue 65).run Try.prog w = .ok (.agg #[.int .u64 0, .int .u64 0]) w) ∧ (Try.prog.info? 65).map (·.size) = some 2 := zero_of_info (by kernel_rfl)
theorem zeroP : (#[.int .u64 0, .int .u64 0] : Array Value) = pv 0 := rfl
def isStr : TypeDesc → Bool
  | .struct _ => true
  | _ => false
theorem str_of {ty : TypeId} (h : (Try.prog.underlying ty).map isStr = some true) : ∃ f, Try.prog.underlying ty = some (.struct f) := by
  cases hu : Try.prog.underlying ty with
  | none => rw [hu] at h; cases h
  | some d =>
    rw [hu] at h
    cases d <;> first | exact ⟨_, rfl⟩ | cases h
theorem str65 : ∃ f, Try.prog.underlying 65 = some (.struct f) := str_of (by kernel_rfl)
theorem i65 (h l : Wo) : (Try.prog.info? 65).map (·.size) = some (pc h l).size := zero65.2
end Go.Proofs.Ytfnibmfmjglmlaa
