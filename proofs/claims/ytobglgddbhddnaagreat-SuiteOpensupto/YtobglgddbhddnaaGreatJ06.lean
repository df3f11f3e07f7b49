/-
  Polynomials as two words of 64 bits: halves, times x, turned left, masks, bytes.
  Polynomials: the functions timesX, xored, product.
  Blocks as polynomials, and back: polyOf, blockOf.
  A polynomial as a block: blockOf.
  The product of two blocks: Mul.
  A function's region by its number.
-/
import Derived.Test.YtobglgddbhddnaaGreatJ01
import Derived.Test.YtobglgddbhddnaaGreatJ04
import Derived.Test.YtobglgddbhddnaaGreatJ05
namespace Go.Proofs.YtobglgddbhddnaaGreat
open Go.RowKit
set_option linter.unusedVariables false

abbrev Wo := BitVec 64
def hi (p : Po) : Wo := p.extractLsb' 64 64
def lo (p : Po) : Wo := p.extractLsb' 0 64
def jn (h l : Wo) : Po := h ++ l

theorem jn_get (h l : Wo) (i : Nat) : (jn h l).getLsbD i = if i < 64 then l.getLsbD i else h.getLsbD (i - 64) := by
  unfold jn
  rw [BitVec.getLsbD_append]
theorem hi_get (p : Po) {i : Nat} (h : i < 64) : (hi p).getLsbD i = p.getLsbD (64 + i) := by unfold hi; rw [BitVec.getLsbD_extractLsb']; simp [h]
theorem lo_get (p : Po) {i : Nat} (h : i < 64) : (lo p).getLsbD i = p.getLsbD i := by unfold lo; rw [BitVec.getLsbD_extractLsb', Nat.zero_add]; simp [h]
theorem hi_jn (h l : Wo) : hi (jn h l) = h := by
  apply BitVec.eq_of_getLsbD_eq
  intro i hi'
  rw [hi_get _ hi', jn_get, if_neg (by omega), show 64 + i - 64 = i by omega]
theorem lo_jn (h l : Wo) : lo (jn h l) = l := by
  apply BitVec.eq_of_getLsbD_eq
  intro i hi'
  rw [lo_get _ hi', jn_get, if_pos hi']
theorem po_ext {p q : Po} (h1 : hi p = hi q) (h2 : lo p = lo q) : p = q := by
  apply BitVec.eq_of_getLsbD_eq
  intro i hi'
  by_cases h : i < 64
  · rw [← lo_get p h, ← lo_get q h, h2]
  · have e : i = 64 + (i - 64) := by omega
    rw [e, ← hi_get p (by omega), ← hi_get q (by omega), h1]
theorem jn_hl (p : Po) : jn (hi p) (lo p) = p := po_ext (hi_jn _ _) (lo_jn _ _)
theorem hi_xor (p q : Po) : hi (p ^^^ q) = hi p ^^^ hi q := by
  apply BitVec.eq_of_getLsbD_eq
  intro i hi'
  rw [hi_get _ hi', BitVec.getLsbD_xor, BitVec.getLsbD_xor, hi_get _ hi', hi_get _ hi']
theorem lo_xor (p q : Po) : lo (p ^^^ q) = lo p ^^^ lo q := by
  apply BitVec.eq_of_getLsbD_eq
  intro i hi'
  rw [lo_get _ hi', BitVec.getLsbD_xor, BitVec.getLsbD_xor, lo_get _ hi', lo_get _ hi']

/-! Times x; turned left. -/
theorem cR : ∀ i, i < 64 → (0xe1000000000000000000000000000000#128 : Po).getLsbD (64 + i) = (0xe100000000000000#64 : Wo).getLsbD i := by decide +kernel
theorem cR0 : ∀ i, i < 64 → (0xe1000000000000000000000000000000#128 : Po).getLsbD i = false := by decide +kernel
def ovf (l : Wo) : Wo := if l.getLsbD 0 then 0xe100000000000000#64 else 0#64
theorem lo_zero (p : Po) : (lo p).getLsbD 0 = p.getLsbD 0 := lo_get p (by omega)
theorem hi_tx (p : Po) : hi (tx p) = (hi p >>> 1) ^^^ ovf (lo p) := by
  apply BitVec.eq_of_getLsbD_eq
  intro i hi'
  rw [hi_get _ hi', BitVec.getLsbD_xor, BitVec.getLsbD_ushiftRight]
  unfold tx ovf
  rw [lo_zero, BitVec.getLsbD_xor, BitVec.getLsbD_ushiftRight]
  have e1 : (hi p).getLsbD (1 + i) = p.getLsbD (1 + (64 + i)) := by
    by_cases h : 1 + i < 64
    · rw [hi_get _ h, show 64 + (1 + i) = 1 + (64 + i) by omega]
    · rw [BitVec.getLsbD_of_ge _ _ (by omega), BitVec.getLsbD_of_ge _ _ (by omega)]
  rw [e1]
  cases p.getLsbD 0
  · simp
  · rw [if_pos rfl, if_pos rfl, cR i hi']
theorem lo_tx (p : Po) : lo (tx p) = (lo p >>> 1) ||| (hi p <<< 63) := by
  apply BitVec.eq_of_getLsbD_eq
  intro i hi'
  rw [lo_get _ hi', BitVec.getLsbD_or, BitVec.getLsbD_ushiftRight, BitVec.getLsbD_shiftLeft]
  unfold tx
  rw [BitVec.getLsbD_xor, BitVec.getLsbD_ushiftRight]
  have e0 : (if p.getLsbD 0 then 0xe1000000000000000000000000000000#128 else 0#128 : Po).getLsbD i = false := by
    cases p.getLsbD 0
    · simp
    · rw [if_pos rfl, cR0 i hi']
  rw [e0, Bool.xor_false]
  by_cases h : i < 63
  · rw [lo_get _ (by omega)]; simp [h]
  · have hi63 : i = 63 := by omega
    subst hi63
    rw [BitVec.getLsbD_of_ge (lo p) _ (by omega), hi_get _ (by omega)]
    simp
theorem hi_shl (p : Po) : hi (p <<< 1) = (hi p <<< 1) ||| (lo p >>> 63) := by
  apply BitVec.eq_of_getLsbD_eq
  intro i hi'
  rw [hi_get _ hi', BitVec.getLsbD_or, BitVec.getLsbD_ushiftRight, BitVec.getLsbD_shiftLeft, BitVec.getLsbD_shiftLeft]
  by_cases h : i < 1
  · have h0 : i = 0 := by omega
    subst h0
    rw [lo_get _ (by omega)]; simp
  · rw [BitVec.getLsbD_of_ge (lo p) _ (by omega), hi_get _ (show i - 1 < 64 by omega), show 64 + (i - 1) = 64 + i - 1 by omega]
    simp [h, hi']; intro; omega
theorem lo_shl (p : Po) : lo (p <<< 1) = lo p <<< 1 := by
  apply BitVec.eq_of_getLsbD_eq
  intro i hi'
  rw [lo_get _ hi', BitVec.getLsbD_shiftLeft, BitVec.getLsbD_shiftLeft, lo_get _ (show i - 1 < 64 by omega)]
  have h2 : i < 128 := by omega
  simp [hi', h2]
/-- All ones, or nothing. -/
def mk (c : Bool) : Wo := if c then 0xffffffffffffffff#64 else 0#64
theorem hi_sel (c : Bool) (p : Po) : hi (sel c p) = hi p &&& mk c := by
  cases c
  · simp only [sel, mk, Bool.false_eq_true, if_false]; rw [BitVec.and_zero]; decide +kernel
  · simp only [sel, mk, if_true]; exact (BitVec.and_allOnes).symm
theorem lo_sel (c : Bool) (p : Po) : lo (sel c p) = lo p &&& mk c := by
  cases c
  · simp only [sel, mk, Bool.false_eq_true, if_false]; rw [BitVec.and_zero]; decide +kernel
  · simp only [sel, mk, if_true]; exact (BitVec.and_allOnes).symm
theorem hi_top (p : Po) : (hi p).getLsbD 63 = p.getMsbD 0 := by
  rw [hi_get _ (by omega)]
  rfl

/-! Words as Go reckons them. -/
theorem nmShr (x : Wo) (k : Nat) (d : Int) (hd : d = (2 : Int) ^ k) : ∃ z : Wo, Hid (z = x >>> k) ∧ (x.toNat : Int) / d = (z.toNat : Int) := by
  refine ⟨_, rfl, ?_⟩
  rw [BitVec.toNat_ushiftRight, Nat.shiftRight_eq_div_pow, hd]
  simp
theorem nmShl (x : Wo) (k : Nat) (d : Int) (hd : d = (2 : Int) ^ k) : ∃ z : Wo, Hid (z = x <<< k) ∧ IntKind.u64.wrap ((x.toNat : Int) * d) = (z.toNat : Int) := by
  refine ⟨_, rfl, ?_⟩
  rw [BitVec.toNat_shiftLeft, Nat.shiftLeft_eq, hd, IntKind.wrap_u64]
  simp
theorem nmXor (x y : Wo) : ∃ z : Wo, Hid (z = x ^^^ y) ∧ Go.bits .xor .u64 (x.toNat : Int) (y.toNat : Int) = (z.toNat : Int) := ⟨_, rfl, by rw [u64_xor_nat _ _ x.isLt y.isLt, BitVec.toNat_xor]⟩
theorem nmOr (x y : Wo) : ∃ z : Wo, Hid (z = x ||| y) ∧ Go.bits .or .u64 (x.toNat : Int) (y.toNat : Int) = (z.toNat : Int) := ⟨_, rfl, by rw [u64_or_nat _ _ x.isLt y.isLt, BitVec.toNat_or]⟩
theorem nmAnd (x y : Wo) : ∃ z : Wo, Hid (z = x &&& y) ∧ Go.bits .and .u64 (x.toNat : Int) (y.toNat : Int) = (z.toNat : Int) := ⟨_, rfl, by rw [u64_and_nat _ _ x.isLt y.isLt, BitVec.toNat_and]⟩
theorem nmOvf (l : Wo) : ∃ y z : Wo, Hid (z = ovf l) ∧ Go.bits .and .u64 (l.toNat : Int) 1 = (y.toNat : Int) ∧ IntKind.u64.wrap ((y.toNat : Int) * 16212958658533785600) = (z.toNat : Int) := by
  refine ⟨l &&& 1#64, ovf l, rfl, ?_, ?_⟩
  · have := u64_and_nat l.toNat 1 l.isLt (by omega)
    rw [BitVec.toNat_and]
    exact this
  · have e : l &&& 1#64 = if l.getLsbD 0 then 1#64 else 0#64 := by
      apply BitVec.eq_of_getLsbD_eq
      intro i hi'
      rw [BitVec.getLsbD_and]
      by_cases h : i = 0
      · subst h; cases l.getLsbD 0 <;> simp
      · have : (1#64 : Wo).getLsbD i = false := by simp [h]
        rw [this]; cases l.getLsbD 0 <;> simp [h]
    rw [e, ovf, IntKind.wrap_u64]
    cases l.getLsbD 0 <;> decide
theorem nmMask (h : Wo) : ∃ y z : Wo, Hid (z = mk (h.getLsbD 63)) ∧ (h.toNat : Int) / 9223372036854775808 = (y.toNat : Int) ∧ IntKind.u64.wrap (-(y.toNat : Int)) = (z.toNat : Int) := by
  refine ⟨h >>> 63, mk (h.getLsbD 63), rfl, ?_, ?_⟩
  · rw [BitVec.toNat_ushiftRight, Nat.shiftRight_eq_div_pow]
    simp
  · have e : h >>> 63 = if h.getLsbD 63 then 1#64 else 0#64 := by
      apply BitVec.eq_of_getLsbD_eq
      intro i hi'
      rw [BitVec.getLsbD_ushiftRight]
      by_cases h0 : i = 0
      · subst h0; cases h.getLsbD 63 <;> simp
      · rw [BitVec.getLsbD_of_ge _ _ (by omega)]; cases h.getLsbD 63 <;> simp [h0]
    rw [e, mk, IntKind.wrap_u64]
    cases h.getLsbD 63 <;> decide

/-- A polynomial's cells. -/
def pc (h l : Wo) : Array Value := #[.int .u64 (h.toNat : Int), .int .u64 (l.toNat : Int)]
def pv (p : Po) : Array Value := pc (hi p) (lo p)
theorem pc_pv (h l : Wo) : pc h l = pv (jn h l) := by unfold pv; rw [hi_jn, lo_jn]
theorem pv_of {p : Po} {h l : Wo} (h1 : h = hi p) (h2 : l = lo p) : pc h l = pv p := by rw [h1, h2]; rfl
theorem pv_size (p : Po) : (pv p).size = 2 := rfl
theorem pc_one (h l : Wo) : (pc h l).all (·.oneCell') = true := by
  unfold pc
  simp [Value.oneCell']
theorem pv_one (p : Po) : (pv p).all (·.oneCell') = true := pc_one _ _
theorem zero65 : (∀ w, (zeroValue 110).run Tryz.prog w = .ok (.agg #[.int .u64 0, .int .u64 0]) w) ∧ (Tryz.prog.info? 110).map (·.size) = some 2 := zero_of_info (by kernel_rfl)
theorem zeroP : (#[.int .u64 0, .int .u64 0] : Array Value) = pv 0 := rfl
def isStr : TypeDesc → Bool
  | .struct _ => true
  | _ => false
theorem str_of {ty : TypeId} (h : (Tryz.prog.underlying ty).map isStr = some true) : ∃ f, Tryz.prog.underlying ty = some (.struct f) := by
  cases hu : Tryz.prog.underlying ty with
  | none => rw [hu] at h; cases h
  | some d =>
    rw [hu] at h
    cases d <;> first | exact ⟨_, rfl⟩ | cases h
theorem str65 : ∃ f, Tryz.prog.underlying 110 = some (.struct f) := str_of (by kernel_rfl)
theorem i65 (h l : Wo) : (Tryz.prog.info? 110).map (·.size) = some (pc h l).size := zero65.2

/-- A polynomial as a result. -/
theorem loadVar65 {w : World} {b : Nat} {p : Po} (h : Ar w b (pv p)) : (Go.loadVar 110 ⟨b, 0, none⟩).run Tryz.prog w = .ok (.agg (pv p)) w := by
  obtain ⟨t, h⟩ := h
  obtain ⟨f, hf⟩ := str65
  exact run_loadVar_row w b t 110 (pv p) (0, 0) _ h hf rfl (i65 _ _)
theorem bp_p {fn : Func} {R : Ending → World → Prop} {a : Act} {w : World} {s b : Nat} {p : Po} (h : fn.results = #[.cell s 110]) (hd : a.defers = []) (hp : a.tmps.getD s undef = .pointer (some ⟨b, 0, none⟩)) (ha : Ar w b (pv p))
    (hR : R (.returned (.agg (pv p))) w) : bodyPost Tryz.prog fn R .ret a w := by
  refine bodyPost_ret (v := .agg (pv p)) ?_ hd hR
  rw [Array.getD_eq_getD_getElem?] at hp
  simp only [results, h]
  simp [hp, asAddr, loadVar65 ha]

set_option maxRecDepth 100000 in
set_option maxHeartbeats 4000000 in
theorem timesX_any (p : Po) (w : World) : Calls Tryz.prog 95 #[.agg (pv p)] w fun r w' => r = .returned (.agg (pv (tx p))) ∧ Chg w w' := by
  have hz := zero65.1
  obtain ⟨h, hh⟩ : ∃ h, h = hi p := ⟨_, rfl⟩
  obtain ⟨l, hl⟩ : ∃ l, l = lo p := ⟨_, rfl⟩
  have e : pv p = #[.int .u64 (h.toNat : Int), .int .u64 (l.toNat : Int)] := by rw [hh, hl]; rfl
  rw [e]
  obtain ⟨a, Ha, ea⟩ := nmShr h 1 2 rfl
  obtain ⟨y, b, Hb, ey, eb⟩ := nmOvf l
  obtain ⟨c, Hc, ec⟩ := nmXor a b
  obtain ⟨d, Hd, ed⟩ := nmShr l 1 2 rfl
  obtain ⟨f, Hf, ef⟩ := nmShl h 63 9223372036854775808 rfl
  obtain ⟨g, Hg, eg⟩ := nmOr d f
  have HP : Hid (pc c g = pv (tx p)) := by
    refine pv_of ?_ ?_
    · rw [hi_tx, ← hh, ← hl, Hc.out, Ha.out, Hb.out]
    · rw [lo_tx, ← hh, ← hl, Hg.out, Hd.out, Hf.out]
  have hsz := i65 c g
  have hone := pc_one c g
  have hlen : (#[.int .u64 0, .int .u64 0] : Array Value).size = (pc c g).size := rfl
  unfold pc at hsz hone hlen
  clear hh hl e Ha Hb Hc Hd Hf Hg
  go_enter Tryz.func95, Tryz.ntmps95
  go_upto_region 1 with fail
  obtain ⟨w2, hw2⟩ : ∃ w2, w2 = (w.alloc (.cells #[.int .u64 (h.toNat : Int), .int .u64 (l.toNat : Int)] 110)).alloc (.cells #[.int .u64 0, .int .u64 0] 110) := ⟨_, rfl⟩
  have k1 : Ar w2 w.heap.size (pc h l) := by rw [hw2]; exact (Ar.new w _ _).alloc _
  have k2 : Ar w2 (w.heap.size + 1) #[.int .u64 0, .int .u64 0] := by rw [hw2]; exact Ar.new1 w _ _ _
  have Z : Hid (Chg w w2 ∧ Ar w2 (w.heap.size + 1) #[.int .u64 0, .int .u64 0]) := ⟨by rw [hw2]; exact ((Chg.refl w).alloc _).alloc _, k2⟩
  rw [← hw2]
  have c1 : w2.cell? ⟨w.heap.size, 0, none⟩ = some (.int .u64 (h.toNat : Int)) := k1.cell 0
  have c2 : w2.cell? ⟨w.heap.size, 1, none⟩ = some (.int .u64 (l.toNat : Int)) := k1.cell 1
  obtain ⟨t, g2⟩ := k2
  clear hw2 k1
  go_wp2_with (first | refine wpList_store_row rfl 110 _ _ rfl _ _ rfl rfl _ _ g2 hsz hlen hone ?_)
  refine bp_p (p := tx p) Tryz.results95 rfl rfl ?_ ⟨rfl, ?_⟩
  · rw [← HP.out]
    exact Z.out.2.row (pc c g)
  · exact Z.out.1.setRow (by omega) _

set_option maxRecDepth 100000 in
set_option maxHeartbeats 4000000 in
theorem pxored_any (p q : Po) (w : World) : Calls Tryz.prog 83 #[.agg (pv p), .agg (pv q)] w fun r w' => r = .returned (.agg (pv (p ^^^ q))) ∧ Chg w w' := by
  have hz := zero65.1
  obtain ⟨h, hh⟩ : ∃ h, h = hi p := ⟨_, rfl⟩
  obtain ⟨l, hl⟩ : ∃ l, l = lo p := ⟨_, rfl⟩
  obtain ⟨h', hh'⟩ : ∃ h, h = hi q := ⟨_, rfl⟩
  obtain ⟨l', hl'⟩ : ∃ l, l = lo q := ⟨_, rfl⟩
  have e : pv p = #[.int .u64 (h.toNat : Int), .int .u64 (l.toNat : Int)] := by rw [hh, hl]; rfl
  have e' : pv q = #[.int .u64 (h'.toNat : Int), .int .u64 (l'.toNat : Int)] := by rw [hh', hl']; rfl
  rw [e, e']
  obtain ⟨c, Hc, ec⟩ := nmXor h h'
  obtain ⟨g, Hg, eg⟩ := nmXor l l'
  have HP : Hid (pc c g = pv (p ^^^ q)) := by
    refine pv_of ?_ ?_
    · rw [hi_xor, ← hh, ← hh', Hc.out]
    · rw [lo_xor, ← hl, ← hl', Hg.out]
  have hsz := i65 c g
  have hone := pc_one c g
  have hlen : (#[.int .u64 0, .int .u64 0] : Array Value).size = (pc c g).size := rfl
  unfold pc at hsz hone hlen
  clear hh hl e hh' hl' e' Hc Hg
  go_enter Tryz.func83, Tryz.ntmps83
  go_upto_region 1 with fail
  obtain ⟨w2, hw2⟩ : ∃ w2, w2 = ((w.alloc (.cells #[.int .u64 (h.toNat : Int), .int .u64 (l.toNat : Int)] 110)).alloc (.cells #[.int .u64 (h'.toNat : Int), .int .u64 (l'.toNat : Int)] 110)).alloc (.cells #[.int .u64 0, .int .u64 0] 110) := ⟨_, rfl⟩
  have k1 : Ar w2 w.heap.size (pc h l) := by rw [hw2]; exact ((Ar.new w _ _).alloc _).alloc _
  have k1' : Ar w2 (w.heap.size + 1) (pc h' l') := by rw [hw2]; exact (Ar.new1 w _ _ _).alloc _
  have k2 : Ar w2 (w.heap.size + 1 + 1) #[.int .u64 0, .int .u64 0] := by rw [hw2]; exact Ar.new2 w _ _ _ _
  have Z : Hid (Chg w w2 ∧ Ar w2 (w.heap.size + 1 + 1) #[.int .u64 0, .int .u64 0]) := ⟨by rw [hw2]; exact (((Chg.refl w).alloc _).alloc _).alloc _, k2⟩
  rw [← hw2]
  have c1 : w2.cell? ⟨w.heap.size, 0, none⟩ = some (.int .u64 (h.toNat : Int)) := k1.cell 0
  have c2 : w2.cell? ⟨w.heap.size, 1, none⟩ = some (.int .u64 (l.toNat : Int)) := k1.cell 1
  have c3 : w2.cell? ⟨w.heap.size + 1, 0, none⟩ = some (.int .u64 (h'.toNat : Int)) := k1'.cell 0
  have c4 : w2.cell? ⟨w.heap.size + 1, 1, none⟩ = some (.int .u64 (l'.toNat : Int)) := k1'.cell 1
  obtain ⟨t, g2⟩ := k2
  clear hw2 k1 k1'
  go_wp2_with (first | refine wpList_store_row rfl 110 _ _ rfl _ _ rfl rfl _ _ g2 hsz hlen hone ?_)
  refine bp_p (p := p ^^^ q) Tryz.results83 rfl rfl ?_ ⟨rfl, ?_⟩
  · rw [← HP.out]
    exact Z.out.2.row (pc c g)
  · exact Z.out.1.setRow (by omega) _

/-! The product. -/
/-- Behind so many steps. -/
def prS (a b : Po) (i : Nat) : Po := acc (fun i => sel (a.getMsbD i) (txn i b)) i
theorem prS_succ (a b : Po) (i : Nat) : prS a b (i + 1) = prS a b i ^^^ sel (a.getMsbD i) (txn i b) := rfl
theorem prS_all (a b : Po) : prS a b 128 = pr a b := rfl
theorem shl_top (a : Po) (i : Nat) : (a <<< i).getMsbD 0 = a.getMsbD i := by rw [BitVec.getMsbD_shiftLeft, Nat.zero_add]
theorem shl_succ (a : Po) (i : Nat) : (a <<< i) <<< 1 = a <<< (i + 1) := (BitVec.shiftLeft_add a i 1).symm

/-- What stands while a product is made. -/
structure PrS (w wr : World) (a b s : Po) : Prop where
  chg : Chg w wr
  a : Ar wr w.heap.size (pv a)
  b : Ar wr (w.heap.size + 1) (pv b)
  out : Ar wr (w.heap.size + 1 + 1) (pv 0)
  s : Ar wr (w.heap.size + 1 + 1 + 1) (pv s)

set_option maxRecDepth 100000 in
set_option maxHeartbeats 4000000 in
theorem product_any (a b : Po) (w : World) : Calls Tryz.prog 82 #[.agg (pv a), .agg (pv b)] w fun r w' => r = .returned (.agg (pv (pr a b))) ∧ Chg w w' := by
  have hz := zero65.1
  rw [zeroP] at hz
  have hsA := pv_size a
  have hsB := pv_size b
  obtain ⟨A, hA⟩ : ∃ A, A = pv a := ⟨_, rfl⟩
  obtain ⟨B, hB⟩ : ∃ B, B = pv b := ⟨_, rfl⟩
  have HAB : Hid (A = pv a ∧ B = pv b) := ⟨hA, hB⟩
  rw [← hA] at hsA ⊢
  rw [← hB] at hsB ⊢
  clear hA hB
  go_enter Tryz.func82, Tryz.ntmps82
  go_wp2_with fail
  go_loopw [7] (fun v wr => ∃ (i : Nat), v = .int .i64 i ∧ i ≤ 128 ∧ PrS w wr (a <<< i) (txn i b) (prS a b i)) (fun v wr => 128 - (intOf v).toNat)
  case atStart =>
    refine ⟨0, rfl, by omega, ?_⟩
    rw [HAB.out.1, HAB.out.2, BitVec.shiftLeft_zero]
    exact ⟨((((Chg.refl w).alloc _).alloc _).alloc _).alloc _, (((Ar.new w _ _).alloc _).alloc _).alloc _, ((Ar.new1 w _ _ _).alloc _).alloc _, (Ar.new2 w _ _ _ _).alloc _, by
      have := Ar.new (((w.alloc (.cells (pv a) 110)).alloc (.cells (pv b) 110)).alloc (.cells (pv 0) 110)) (pv 0) 110
      rwa [World.size_alloc, World.size_alloc, World.size_alloc] at this⟩
  case round =>
    clear hsA hsB
    obtain ⟨i, rfl, hi', hz0⟩ := hrel
    obtain ⟨p, hp⟩ : ∃ p, p = a <<< i := ⟨_, rfl⟩
    obtain ⟨q, hq⟩ : ∃ q, q = txn i b := ⟨_, rfl⟩
    obtain ⟨s, hs⟩ : ∃ s, s = prS a b i := ⟨_, rfl⟩
    rw [← hp, ← hq, ← hs] at hz0
    have Z : Hid (PrS w wr p q s) := hz0
    have HE : Hid (p = a <<< i ∧ q = txn i b ∧ s = prS a b i) := ⟨hp, hq, hs⟩
    clear hz0 hp hq hs
    by_cases h128 : i < 128
    · have hd : decide ((i : Int) < 128) = true := by simp; omega
      obtain ⟨h, hh⟩ : ∃ h, h = hi p := ⟨_, rfl⟩
      obtain ⟨l, hl⟩ : ∃ l, l = lo p := ⟨_, rfl⟩
      obtain ⟨h', hh'⟩ : ∃ h, h = hi q := ⟨_, rfl⟩
      obtain ⟨l', hl'⟩ : ∃ l, l = lo q := ⟨_, rfl⟩
      obtain ⟨h2, hh2⟩ : ∃ h, h = hi s := ⟨_, rfl⟩
      obtain ⟨l2, hl2⟩ : ∃ l, l = lo s := ⟨_, rfl⟩
      have c1 : wr.cell? ⟨w.heap.size, 0, none⟩ = some (.int .u64 (h.toNat : Int)) := (Z.out.a.cell 0).trans (by rw [hh]; rfl)
      have c2 : wr.cell? ⟨w.heap.size, 1, none⟩ = some (.int .u64 (l.toNat : Int)) := (Z.out.a.cell 1).trans (by rw [hl]; rfl)
      have c3 : wr.cell? ⟨w.heap.size + 1, 0, none⟩ = some (.int .u64 (h'.toNat : Int)) := (Z.out.b.cell 0).trans (by rw [hh']; rfl)
      have c4 : wr.cell? ⟨w.heap.size + 1, 1, none⟩ = some (.int .u64 (l'.toNat : Int)) := (Z.out.b.cell 1).trans (by rw [hl']; rfl)
      have c5 : wr.cell? ⟨w.heap.size + 1 + 1 + 1, 0, none⟩ = some (.int .u64 (h2.toNat : Int)) := (Z.out.s.cell 0).trans (by rw [hh2]; rfl)
      have c6 : wr.cell? ⟨w.heap.size + 1 + 1 + 1, 1, none⟩ = some (.int .u64 (l2.toNat : Int)) := (Z.out.s.cell 1).trans (by rw [hl2]; rfl)
      have f1 := Z.out.s.frozen 0
      obtain ⟨y, m, Hm, ey, em⟩ := nmMask h
      obtain ⟨x1, H1, e1⟩ := nmAnd h' m
      obtain ⟨x2, H2, e2⟩ := nmXor h2 x1
      obtain ⟨x3, H3, e3⟩ := nmAnd l' m
      obtain ⟨x4, H4, e4⟩ := nmXor l2 x3
      obtain ⟨x5, H5, e5⟩ := nmShl h 1 2 rfl
      obtain ⟨x6, H6, e6⟩ := nmShr l 63 9223372036854775808 rfl
      obtain ⟨x7, H7, e7⟩ := nmOr x5 x6
      obtain ⟨x8, H8, e8⟩ := nmShl l 1 2 rfl
      have HS : Hid (pc x2 x4 = pv (prS a b (i + 1))) := by
        have et : h.getLsbD 63 = a.getMsbD i := by rw [hh, hi_top, HE.out.1, shl_top]
        refine pv_of ?_ ?_
        · rw [prS_succ, hi_xor, hi_sel, ← HE.out.2.1, ← HE.out.2.2, ← hh', ← hh2, H2.out, H1.out, Hm.out, et]
        · rw [prS_succ, lo_xor, lo_sel, ← HE.out.2.1, ← HE.out.2.2, ← hl', ← hl2, H4.out, H3.out, Hm.out, et]
      have HA' : Hid (pc x7 x8 = pv (a <<< (i + 1))) := by
        refine pv_of ?_ ?_
        · rw [← shl_succ, ← HE.out.1, hi_shl, ← hh, ← hl, H7.out, H5.out, H6.out]
        · rw [← shl_succ, ← HE.out.1, lo_shl, ← hl, H8.out]
      have HQ : Hid (pv q = pc h' l' ∧ tx q = txn (i + 1) b ∧ pv s = pc h2 l2) := ⟨by rw [hh', hl']; rfl, by rw [HE.out.2.1]; rfl, by rw [hh2, hl2]; rfl⟩
      clear hh hl hh' hl' hh2 hl2 Hm H1 H2 H3 H4 H5 H6 H7 H8 HE
      go_upto_region 6 with fail
      obtain ⟨w3, hw3⟩ : ∃ w3, w3 = wr.setCell ⟨w.heap.size + 1 + 1 + 1, 0, none⟩ (.int .u64 (x2.toNat : Int)) := ⟨_, rfl⟩
      have Z3 : Hid (Chg w w3 ∧ Ar w3 w.heap.size (pv p) ∧ Ar w3 (w.heap.size + 1) (pc h' l') ∧ Ar w3 (w.heap.size + 1 + 1) (pv 0) ∧ Ar w3 (w.heap.size + 1 + 1 + 1) (pc x2 l2)) := by
        rw [hw3, ← HQ.out.1]
        refine ⟨Z.out.chg.setCell (by dsimp only; omega) _, Z.out.a.other (by dsimp only; omega) _, Z.out.b.other (by dsimp only; omega) _, Z.out.out.other (by dsimp only; omega) _, ?_⟩
        have := Z.out.s.set 0 (.int .u64 (x2.toNat : Int))
        rw [HQ.out.2.2] at this
        exact this
      rw [← hw3]
      have d1 : w3.cell? ⟨w.heap.size, 0, none⟩ = some (.int .u64 (h.toNat : Int)) := by rw [← c1, Z3.out.2.1.cell, Z.out.a.cell]
      have d2 : w3.cell? ⟨w.heap.size, 1, none⟩ = some (.int .u64 (l.toNat : Int)) := by rw [← c2, Z3.out.2.1.cell, Z.out.a.cell]
      have d4 : w3.cell? ⟨w.heap.size + 1, 1, none⟩ = some (.int .u64 (l'.toNat : Int)) := Z3.out.2.2.1.cell 1
      have d6 : w3.cell? ⟨w.heap.size + 1 + 1 + 1, 1, none⟩ = some (.int .u64 (l2.toNat : Int)) := Z3.out.2.2.2.2.cell 1
      have f2 := Z3.out.2.2.2.2.frozen 1
      clear hw3 c1 c2 c3 c4 c5 c6 f1 Z ey em e1 e2
      go_upto_region 7 with fail
      obtain ⟨w4, hw4⟩ : ∃ w4, w4 = w3.setCell ⟨w.heap.size + 1 + 1 + 1, 1, none⟩ (.int .u64 (x4.toNat : Int)) := ⟨_, rfl⟩
      have Z4 : Hid (Chg w w4 ∧ Ar w4 w.heap.size (pv p) ∧ Ar w4 (w.heap.size + 1) (pv q) ∧ Ar w4 (w.heap.size + 1 + 1) (pv 0) ∧ Ar w4 (w.heap.size + 1 + 1 + 1) (pv (prS a b (i + 1)))) := by
        rw [hw4, ← HS.out, HQ.out.1]
        refine ⟨Z3.out.1.setCell (by dsimp only; omega) _, Z3.out.2.1.other (by dsimp only; omega) _, Z3.out.2.2.1.other (by dsimp only; omega) _, Z3.out.2.2.2.1.other (by dsimp only; omega) _, ?_⟩
        exact Z3.out.2.2.2.2.set 1 (.int .u64 (x4.toNat : Int))
      rw [← hw4]
      have b1 : w4.cell? ⟨w.heap.size, 0, none⟩ = some (.int .u64 (h.toNat : Int)) := by rw [← d1, Z3.out.2.1.cell, Z4.out.2.1.cell]
      have b2 : w4.cell? ⟨w.heap.size, 1, none⟩ = some (.int .u64 (l.toNat : Int)) := by rw [← d2, Z3.out.2.1.cell, Z4.out.2.1.cell]
      obtain ⟨t1, g1⟩ := Z4.out.2.1
      have hsz := i65 x7 x8
      have hone := pc_one x7 x8
      have hlen : (pv p).size = (pc x7 x8).size := rfl
      unfold pc at hsz hone hlen
      clear hw4 d1 d2 d4 d6 f2 Z3 e3 e4
      rw [← zeroP] at hz
      go_upto_region 8 with (first | refine wpList_store_row rfl 110 _ _ rfl _ _ rfl rfl _ _ g1 hsz hlen hone ?_)
      obtain ⟨w5, hw5⟩ : ∃ w5, w5 = w4.setRow w.heap.size #[.int .u64 (x7.toNat : Int), .int .u64 (x8.toNat : Int)] := ⟨_, rfl⟩
      have Z5 : Hid (PrS w w5 (a <<< (i + 1)) q (prS a b (i + 1))) := by
        rw [hw5]
        obtain ⟨k0, k1, k2, k3, k4⟩ := Z4.out
        refine ⟨k0.setRow (by omega) _, ?_, k2.rowOther (by omega) _, k3.rowOther (by omega) _, k4.rowOther (by omega) _⟩
        rw [← HA'.out]
        exact k1.row _
      rw [← hw5]
      obtain ⟨t2, g2⟩ := Z5.out.b
      obtain ⟨ff, hff⟩ := str65
      have hsq : (Tryz.prog.info? 110).map (·.size) = some (pv q).size := i65 _ _
      have HT : Hid (Calls Tryz.prog 95 #[.agg (pv q)] w5 fun r w' => r = .returned (.agg (pv (txn (i + 1) b))) ∧ Chg w5 w') := by
        rw [← HQ.out.2.1]
        exact timesX_any q w5
      obtain ⟨Q1, hQ1⟩ : ∃ Q1, Q1 = pv q := ⟨_, rfl⟩
      have hsQ : Q1.size = 2 := by rw [hQ1]; rfl
      have HQ1 : Hid (Q1 = pv q) := hQ1
      rw [← hQ1] at HT g2 hsq
      have hs6 : (Tryz.prog.info? 110).map (·.size) = some (pv (txn (i + 1) b)).size := i65 _ _
      have ho6 := pv_one (txn (i + 1) b)
      have hl6 : Q1.size = (pv (txn (i + 1) b)).size := by rw [hsQ]; rfl
      obtain ⟨Q2, hQ2⟩ : ∃ Q2, Q2 = pv (txn (i + 1) b) := ⟨_, rfl⟩
      have HQ2 : Hid (Q2 = pv (txn (i + 1) b)) := hQ2
      rw [← hQ2] at HT hs6 ho6 hl6
      clear hw5 hQ1 hQ2 b1 b2 g1 hsz hone hlen Z4 e5 e6 e7 e8
      go_wp2_with (first | refine wpList_load_row rfl 110 _ rfl _ rfl _ _ _ _ g2 hff rfl hsq ?_)
      go_at_call 95
      refine HT.out.mono ?_
      rintro r w6 ⟨rfl, hc6⟩
      have Z6 : Hid (PrS w w6 (a <<< (i + 1)) q (prS a b (i + 1))) := by
        obtain ⟨k0, k1, k2, k3, k4⟩ := Z5.out
        exact ⟨k0.trans hc6, k1.chg hc6, k2.chg hc6, k3.chg hc6, k4.chg hc6⟩
      have g3 := Z6.out.b
      rw [← HQ1.out] at g3
      obtain ⟨t3, g3⟩ := g3
      clear hc6 g2 hsq HT
      go_wp2_with (first | refine wpList_store_row rfl 110 _ _ rfl _ _ rfl rfl _ _ g3 hs6 hl6 ho6 ?_)
      go_roundw
      case rel =>
        obtain ⟨k0, k1, k2, k3, k4⟩ := Z6.out
        refine ⟨i + 1, by go_num, by omega, k0.setRow (by omega) _, k1.rowOther (by omega) _, ?_, k3.rowOther (by omega) _, k4.rowOther (by omega) _⟩
        rw [HQ2.out]
        exact k2.row _
      case measure => simp [intOf]; omega
    · have hi2 : i = 128 := by omega
      have hd : decide ((i : Int) < 128) = false := by simp; omega
      have HS : Hid (s = pr a b) := by
        have := HE.out.2.2
        rw [hi2, prS_all] at this
        exact this
      obtain ⟨t1, g1⟩ := Z.out.s
      obtain ⟨t2, g2⟩ := Z.out.out
      obtain ⟨ff, hff⟩ := str65
      have hsq : (Tryz.prog.info? 110).map (·.size) = some (pv s).size := i65 _ _
      have hone := pv_one s
      have hlen : (pv 0).size = (pv s).size := rfl
      obtain ⟨Q1, hQ1⟩ : ∃ Q1, Q1 = pv s := ⟨_, rfl⟩
      have HQ1 : Hid (Q1 = pv s) := hQ1
      rw [← hQ1] at g1 hsq hone hlen
      clear hi2 hQ1
      go_wp2_with (first | refine wpList_load_row rfl 110 _ rfl _ rfl _ _ _ _ g1 hff rfl hsq ?_ | refine wpList_store_row rfl 110 _ _ rfl _ _ rfl rfl _ _ g2 hsq hlen hone ?_)
      refine bp_p (p := pr a b) Tryz.results82 rfl rfl ?_ ⟨rfl, ?_⟩
      · rw [← HS.out, HQ1.out]
        exact Z.out.out.row _
      · exact Z.out.chg.setRow (by omega) _

/-- The word of so many bytes. -/
def w8 (f : Nat → By) : Nat → Wo
  | 0 => 0#64
  | n + 1 => (w8 f n <<< 8) ||| (f n).setWidth 64
/-- A block as a polynomial. -/
def pol (f : Nat → By) : Po := jn (w8 f 8) (w8 (fun i => f (i + 8)) 8)
theorem w8_get (f : Nat → By) (n i : Nat) (hn : n ≤ 8) (hi' : i < 8 * n) : (w8 f n).getLsbD i = (f (n - 1 - i / 8)).getLsbD (i % 8) := by
  induction n generalizing i with
  | zero => omega
  | succ n ih =>
    show ((w8 f n <<< 8) ||| (f n).setWidth 64).getLsbD i = _
    rw [BitVec.getLsbD_or, BitVec.getLsbD_shiftLeft, BitVec.getLsbD_setWidth]
    by_cases h : i < 8
    · have e1 : i / 8 = 0 := by omega
      have e2 : i % 8 = i := by omega
      have e3 : i < 64 := by omega
      rw [e1, e2, show n + 1 - 1 - 0 = n by omega]
      simp [h, e3]
    · rw [ih (i - 8) (by omega) (by omega), BitVec.getLsbD_of_ge (f n) i (by omega)]
      have e3 : i < 64 := by omega
      rw [show n - 1 - (i - 8) / 8 = n + 1 - 1 - i / 8 by omega, show (i - 8) % 8 = i % 8 by omega]
      simp [h, e3]
theorem pol_get (f : Nat → By) {i : Nat} (h : i < 128) : (pol f).getMsbD i = (f (i / 8)).getMsbD (i % 8) := by
  have hm : i % 8 < 8 := by omega
  unfold BitVec.getMsbD
  rw [show (128 - 1 - i : Nat) = 127 - i by omega, pol, jn_get]
  simp only [h, hm, decide_true, Bool.true_and]
  by_cases h2 : i < 64
  · rw [if_neg (by omega), w8_get f 8 _ (by omega) (by omega), show 8 - 1 - (127 - i - 64) / 8 = i / 8 by omega, show (127 - i - 64) % 8 = 8 - 1 - i % 8 by omega]
  · rw [if_pos (by omega), w8_get _ 8 _ (by omega) (by omega), show 8 - 1 - (127 - i) / 8 + 8 = i / 8 by omega, show (127 - i) % 8 = 8 - 1 - i % 8 by omega]
/-- A polynomial's byte. -/
def byt (p : Po) : Nat → By := fun j => if j < 8 then ((hi p) >>> (8 * (7 - j))).setWidth 8 else ((lo p) >>> (8 * (15 - j))).setWidth 8
theorem byt_get (p : Po) {j i : Nat} (hj : j < 16) (hi' : i < 8) : (byt p j).getMsbD i = p.getMsbD (8 * j + i) := by
  unfold byt BitVec.getMsbD
  have h1 : 8 * j + i < 128 := by omega
  simp only [hi', h1, decide_true, Bool.true_and]
  by_cases h : j < 8
  · rw [if_pos h, BitVec.getLsbD_setWidth, BitVec.getLsbD_ushiftRight, hi_get _ (by omega), show 64 + (8 * (7 - j) + (8 - 1 - i)) = 128 - 1 - (8 * j + i) by omega]
    have : 8 - 1 - i < 8 := by omega
    simp [this]
  · rw [if_neg h, BitVec.getLsbD_setWidth, BitVec.getLsbD_ushiftRight, lo_get _ (by omega), show 8 * (15 - j) + (8 - 1 - i) = 128 - 1 - (8 * j + i) by omega]
    have : 8 - 1 - i < 8 := by omega
    simp [this]
theorem byt_pol (f : Nat → By) {j : Nat} (hj : j < 16) : byt (pol f) j = f j := by
  apply BitVec.eq_of_getMsbD_eq
  intro i hi'
  rw [byt_get _ hj hi', pol_get _ (by omega), show (8 * j + i) / 8 = j by omega, show (8 * j + i) % 8 = i by omega]
theorem pol_byt (p : Po) : pol (byt p) = p := by
  apply BitVec.eq_of_getMsbD_eq
  intro i hi'
  rw [pol_get _ hi', byt_get _ (by omega) (by omega), show 8 * (i / 8) + i % 8 = i by omega]
theorem pol_inj {f g : Nat → By} (h : pol f = pol g) : ∀ j, j < 16 → f j = g j := fun j hj => by rw [← byt_pol f hj, ← byt_pol g hj, h]
theorem pol_congr {f g : Nat → By} (h : ∀ j, j < 16 → f j = g j) : pol f = pol g := by
  apply BitVec.eq_of_getMsbD_eq
  intro i hi'
  rw [pol_get _ hi', pol_get _ hi', h _ (by omega)]
theorem pol_xr (f g : Nat → By) : pol (xr f g) = pol f ^^^ pol g := by
  apply BitVec.eq_of_getMsbD_eq
  intro i hi'
  rw [BitVec.getMsbD_xor, pol_get _ hi', pol_get _ hi', pol_get _ hi', xr, BitVec.getMsbD_xor]
theorem byt_xor (p q : Po) {j : Nat} (hj : j < 16) : byt (p ^^^ q) j = xr (byt p) (byt q) j := by
  have := pol_xr (byt p) (byt q)
  rw [pol_byt, pol_byt] at this
  rw [← this, byt_pol _ hj]

theorem nmByte (x : By) : ∃ z : Wo, Hid (z = x.setWidth 64) ∧ (x.toNat : Int) = (z.toNat : Int) := ⟨_, rfl, by
  have := x.isLt
  rw [BitVec.toNat_setWidth, Nat.mod_eq_of_lt (by omega)]⟩

set_option maxRecDepth 100000 in
set_option maxHeartbeats 4000000 in
theorem polyOf_any (f : Nat → By) (w : World) : Calls Tryz.prog 79 #[.agg (ba 16 f)] w fun r w' => r = .returned (.agg (pv (pol f))) ∧ Chg w w' := by
  have hz := zero65.1
  have hsA := ba_size 16 f
  obtain ⟨A, hA⟩ : ∃ A, A = ba 16 f := ⟨_, rfl⟩
  have HA : Hid (A = ba 16 f) := hA
  rw [← hA] at hsA ⊢
  clear hA
  go_enter Tryz.func79, Tryz.ntmps79
  go_wp2_with fail
  go_loopw [5] (fun v wr => ∃ (i : Nat), v = .int .i64 i ∧ i ≤ 8 ∧ Chg w wr ∧ Ar wr w.heap.size (ba 16 f) ∧ Ar wr (w.heap.size + 1) (pv 0) ∧ Ar wr (w.heap.size + 1 + 1) (pc (w8 f i) (w8 (fun i => f (i + 8)) i))) (fun v wr => 8 - (intOf v).toNat)
  case atStart =>
    refine ⟨0, rfl, by omega, ?_⟩
    rw [HA.out]
    exact ⟨(((Chg.refl w).alloc _).alloc _).alloc _, ((Ar.new w _ _).alloc _).alloc _, (Ar.new1 w _ _ _).alloc _, Ar.new2 w _ _ _ _⟩
  case round =>
    clear hsA
    obtain ⟨i, rfl, hi', z0, z1, z2, z3⟩ := hrel
    obtain ⟨h, hh⟩ : ∃ h, h = w8 f i := ⟨_, rfl⟩
    obtain ⟨l, hl⟩ : ∃ l, l = w8 (fun i => f (i + 8)) i := ⟨_, rfl⟩
    rw [← hh, ← hl] at z3
    have Z : Hid (Chg w wr ∧ Ar wr w.heap.size (ba 16 f) ∧ Ar wr (w.heap.size + 1) (pv 0) ∧ Ar wr (w.heap.size + 1 + 1) (pc h l)) := ⟨z0, z1, z2, z3⟩
    have HN : Hid (h = w8 f i ∧ l = w8 (fun i => f (i + 8)) i) := ⟨hh, hl⟩
    clear z0 z2 hh hl
    by_cases h8 : i < 8
    · have hd : decide ((i : Int) < 8) = true := by simp; omega
      have li : (i : Int) < 16 := by omega
      obtain ⟨i8, hi8⟩ : ∃ i8 : Nat, (i : Int) + 8 = i8 := ⟨i + 8, by omega⟩
      have wi8 := wrap_i (x := (i8 : Int)) (by omega) (by omega)
      have li8 : i8 < 16 := by omega
      have li8' : (i8 : Int) < 16 := by omega
      have HI : Hid (i8 = i + 8) := by show i8 = _; omega
      have c1 := (z1.cell i).trans (ba_get 16 _ (show i < 16 by omega))
      have c2 := (z1.cell i8).trans (ba_get 16 _ li8)
      have c3 : wr.cell? ⟨w.heap.size + 1 + 1, 0, none⟩ = some (.int .u64 (h.toNat : Int)) := z3.cell 0
      have f3 := z3.frozen 0
      obtain ⟨x, hx⟩ : ∃ x, x = f i := ⟨_, rfl⟩
      obtain ⟨x', hx'⟩ : ∃ x, x = f i8 := ⟨_, rfl⟩
      rw [← hx] at c1
      rw [← hx'] at c2
      obtain ⟨y1, H1, e1⟩ := nmShl h 8 256 rfl
      obtain ⟨y2, H2, e2⟩ := nmByte x
      obtain ⟨y3, H3, e3⟩ := nmOr y1 y2
      obtain ⟨y4, H4, e4⟩ := nmShl l 8 256 rfl
      obtain ⟨y5, H5, e5⟩ := nmByte x'
      obtain ⟨y6, H6, e6⟩ := nmOr y4 y5
      have wx := (show IntKind.u64.wrap (x.toNat : Int) = (y2.toNat : Int) by rw [← e2, IntKind.wrap_u64]; have := x.isLt; omega)
      have wx' := (show IntKind.u64.wrap (x'.toNat : Int) = (y5.toNat : Int) by rw [← e5, IntKind.wrap_u64]; have := x'.isLt; omega)
      have HY : Hid (y3 = w8 f (i + 1) ∧ y6 = w8 (fun i => f (i + 8)) (i + 1)) := by
        refine ⟨?_, ?_⟩
        · rw [H3.out, H1.out, H2.out, hx, HN.out.1]; rfl
        · rw [H6.out, H4.out, H5.out, hx', HN.out.2, HI.out]; rfl
      clear hx hx' z1 z3 H1 H2 H3 H4 H5 H6 HN e2 e5
      go_upto_region 5 with fail
      go_cut [] from 8 to 16 (fun wc => Chg w wc ∧ Ar wc w.heap.size (ba 16 f) ∧ Ar wc (w.heap.size + 1) (pv 0) ∧ Ar wc (w.heap.size + 1 + 1) (pc y3 l))
      case first =>
        go_region_with (fail)
        all_goals go_wp2
        all_goals go_meet
        all_goals
          obtain ⟨k0, k1, k2, k3⟩ := Z.out
          exact ⟨(k0.setCell (by dsimp only; omega) _).drew, (k1.other (by dsimp only; omega) _).drew, (k2.other (by dsimp only; omega) _).drew, (k3.set 0 _).drew⟩
      obtain ⟨z0, z1, z2, z3⟩ := hcut
      have Z2 : Hid (Chg w wc ∧ Ar wc w.heap.size (ba 16 f) ∧ Ar wc (w.heap.size + 1) (pv 0) ∧ Ar wc (w.heap.size + 1 + 1) (pc y3 l)) := ⟨z0, z1, z2, z3⟩
      have d1 := (z1.cell i8).trans (Z.out.2.1.cell i8).symm
      rw [c2] at d1
      have d3 : wc.cell? ⟨w.heap.size + 1 + 1, 1, none⟩ = some (.int .u64 (l.toNat : Int)) := z3.cell 1
      have f4 := z3.frozen 1
      clear z0 z1 z2 z3 c1 c2 c3 f3 Z e1 e3 wx
      go_wp2_with fail
      go_region_with (fail)
      all_goals go_wp2
      all_goals
        go_roundw
        case rel =>
          obtain ⟨k0, k1, k2, k3⟩ := Z2.out
          refine ⟨i + 1, by go_num, by omega, (k0.setCell (by dsimp only; omega) _).drew, (k1.other (by dsimp only; omega) _).drew, (k2.other (by dsimp only; omega) _).drew, ?_⟩
          rw [← HY.out.1, ← HY.out.2]
          exact (k3.set 1 _).drew
        case measure => simp [intOf]; omega
    · have hi2 : i = 8 := by omega
      have hd : decide ((i : Int) < 8) = false := by simp; omega
      have HS : Hid (pc h l = pv (pol f)) := by
        refine pv_of ?_ ?_
        · rw [pol, hi_jn, HN.out.1, hi2]
        · rw [pol, lo_jn, HN.out.2, hi2]
      obtain ⟨t1, g1⟩ := Z.out.2.2.2
      obtain ⟨t2, g2⟩ := Z.out.2.2.1
      obtain ⟨ff, hff⟩ := str65
      have hsq : (Tryz.prog.info? 110).map (·.size) = some (pc h l).size := i65 _ _
      have hone := pc_one h l
      have hlen : (pv 0).size = (pc h l).size := rfl
      obtain ⟨Q1, hQ1⟩ : ∃ Q1, Q1 = pc h l := ⟨_, rfl⟩
      have HQ1 : Hid (Q1 = pc h l) := hQ1
      rw [← hQ1] at g1 hsq hone hlen
      clear hi2 hQ1 z1 z3
      go_wp2_with (first | refine wpList_load_row rfl 110 _ rfl _ rfl _ _ _ _ g1 hff rfl hsq ?_ | refine wpList_store_row rfl 110 _ _ rfl _ _ rfl rfl _ _ g2 hsq hlen hone ?_)
      refine bp_p (p := pol f) Tryz.results79 rfl rfl ?_ ⟨rfl, ?_⟩
      · rw [← HS.out, HQ1.out]
        exact Z.out.2.2.1.row _
      · exact Z.out.1.setRow (by omega) _

/-- Of both halves' last so many bytes. -/
def lastB (i : Nat) (f : Nat → By) : Nat → By := fun j => if (j < 8 ∧ 8 ≤ j + i) ∨ (8 ≤ j ∧ 16 ≤ j + i) then f j else zB j

theorem lastB_step (i : Nat) (f : Nat → By) (h : i < 8) {j : Nat} (hj : j < 16) : updB (updB (lastB i f) (7 - i) (f (7 - i))) (15 - i) (f (15 - i)) j = lastB (i + 1) f j := by
  unfold updB
  by_cases h1 : j = 15 - i
  · rw [if_pos h1, h1]
    unfold lastB
    rw [if_pos (by omega)]
  · rw [if_neg h1]
    by_cases h2 : j = 7 - i
    · rw [if_pos h2, h2]
      unfold lastB
      rw [if_pos (by omega)]
    · rw [if_neg h2]
      unfold lastB
      by_cases h3 : (j < 8 ∧ 8 ≤ j + i) ∨ (8 ≤ j ∧ 16 ≤ j + i)
      · rw [if_pos h3, if_pos (by omega)]
      · rw [if_neg h3, if_neg (by omega)]
theorem lastB_all (f : Nat → By) {j : Nat} (hj : j < 16) : lastB 8 f j = f j := by
  unfold lastB
  rw [if_pos (by omega)]
theorem nmB (h : Wo) (m : Nat) : ∃ z : By, Hid (z = (h >>> m).setWidth 8) ∧ (h.toNat : Int) / 2 ^ m % 256 = (z.toNat : Int) := by
  refine ⟨_, rfl, ?_⟩
  rw [BitVec.toNat_setWidth, BitVec.toNat_ushiftRight, Nat.shiftRight_eq_div_pow]
  simp

set_option maxRecDepth 100000 in
set_option maxHeartbeats 4000000 in
theorem blockOf_any (p : Po) (w : World) : Calls Tryz.prog 81 #[.agg (pv p)] w fun r w' => r = .returned (.agg (ba 16 (byt p))) ∧ Chg w w' := by
  have hz := zero32.1
  have hsA := pv_size p
  obtain ⟨A, hA⟩ : ∃ A, A = pv p := ⟨_, rfl⟩
  have HA : Hid (A = pv p) := hA
  rw [← hA] at hsA ⊢
  clear hA
  go_enter Tryz.func81, Tryz.ntmps81
  go_wp2_with fail
  go_loopw [5] (fun v wr => ∃ (i : Nat), v = .int .i64 i ∧ i ≤ 8 ∧ Chg w wr ∧ Ar wr w.heap.size (pv p) ∧ Ar wr (w.heap.size + 1) (ba 16 zB) ∧ Ar wr (w.heap.size + 1 + 1) (ba 16 (lastB i (byt p)))) (fun v wr => 8 - (intOf v).toNat)
  case atStart =>
    refine ⟨0, rfl, by omega, ?_⟩
    rw [HA.out]
    refine ⟨(((Chg.refl w).alloc _).alloc _).alloc _, ((Ar.new w _ _).alloc _).alloc _, (Ar.new1 w _ _ _).alloc _, ?_⟩
    have e : ba 16 (lastB 0 (byt p)) = ba 16 zB := ba_congr fun j hj => by
      unfold lastB
      rw [if_neg (by omega)]
    rw [e]
    exact Ar.new2 w _ _ _ _
  case round =>
    clear hsA
    obtain ⟨i, rfl, hi', z0, z1, z2, z3⟩ := hrel
    have Z : Hid (Chg w wr ∧ Ar wr w.heap.size (pv p) ∧ Ar wr (w.heap.size + 1) (ba 16 zB) ∧ Ar wr (w.heap.size + 1 + 1) (ba 16 (lastB i (byt p)))) := ⟨z0, z1, z2, z3⟩
    obtain ⟨h, hh⟩ : ∃ h, h = hi p := ⟨_, rfl⟩
    obtain ⟨l, hl⟩ : ∃ l, l = lo p := ⟨_, rfl⟩
    have c1 : wr.cell? ⟨w.heap.size, 0, none⟩ = some (.int .u64 (h.toNat : Int)) := (z1.cell 0).trans (by rw [hh]; rfl)
    have c2 : wr.cell? ⟨w.heap.size, 1, none⟩ = some (.int .u64 (l.toNat : Int)) := (z1.cell 1).trans (by rw [hl]; rfl)
    have HN : Hid (h = hi p ∧ l = lo p) := ⟨hh, hl⟩
    clear z0 z1 z2 hh hl
    by_cases h8 : i < 8
    · have hd : decide ((i : Int) < 8) = true := by simp; omega
      obtain ⟨q, hq⟩ : ∃ q : Nat, (7 : Int) - i = q := ⟨7 - i, by omega⟩
      obtain ⟨q2, hq2⟩ : ∃ q : Nat, (15 : Int) - i = q := ⟨15 - i, by omega⟩
      obtain ⟨m, hm⟩ : ∃ m : Nat, 8 * (i : Int) = m := ⟨8 * i, by omega⟩
      have wq := wrap_i (x := (q : Int)) (by omega) (by omega)
      have wq2 := wrap_i (x := (q2 : Int)) (by omega) (by omega)
      have wm := wrap_i (x := (m : Int)) (by omega) (by omega)
      have lq : (q : Int) < 16 := by omega
      have lq2 : (q2 : Int) < 16 := by omega
      have lm : ¬ (m : Int) < 0 := by omega
      have f1 := z3.frozen q
      have b1 := (z3.cell q).trans (ba_get 16 _ (show q < 16 by omega))
      obtain ⟨y1, H1, e1⟩ := nmB h m
      obtain ⟨y2, H2, e2⟩ := nmB l m
      have HY : Hid (y1 = byt p (7 - i) ∧ y2 = byt p (15 - i) ∧ q = 7 - i ∧ q2 = 15 - i) := by
        have em : m = 8 * i := by omega
        refine ⟨?_, ?_, by omega, by omega⟩
        · rw [H1.out, HN.out.1, em, byt, if_pos (by omega), show 7 - (7 - i) = i by omega]
        · rw [H2.out, HN.out.2, em, byt, if_neg (by omega), show 15 - (15 - i) = i by omega]
      clear z3 H1 H2
      go_upto_region 6 with fail
      obtain ⟨w3, hw3⟩ : ∃ w3, w3 = wr.setCell ⟨w.heap.size + 1 + 1, q, none⟩ (.int .u8 (y1.toNat : Int)) := ⟨_, rfl⟩
      have Z3 : Hid (Chg w w3 ∧ Ar w3 w.heap.size (pv p) ∧ Ar w3 (w.heap.size + 1) (ba 16 zB) ∧ Ar w3 (w.heap.size + 1 + 1) (ba 16 (updB (lastB i (byt p)) q y1))) := by
        rw [hw3]
        obtain ⟨k0, k1, k2, k3⟩ := Z.out
        refine ⟨k0.setCell (by dsimp only; omega) _, k1.other (by dsimp only; omega) _, k2.other (by dsimp only; omega) _, ?_⟩
        have := k3.set q (.int .u8 (y1.toNat : Int))
        rw [ba_set] at this
        exact this
      rw [← hw3]
      have d2 : w3.cell? ⟨w.heap.size, 1, none⟩ = some (.int .u64 (l.toNat : Int)) := by rw [← c2, Z3.out.2.1.cell, Z.out.2.1.cell]
      have f2 := Z3.out.2.2.2.frozen q2
      have b2 := (Z3.out.2.2.2.cell q2).trans (ba_get 16 _ (show q2 < 16 by omega))
      clear hw3 c1 c2 f1 b1 Z e1
      go_wp2_with fail
      go_roundw
      case rel =>
        obtain ⟨k0, k1, k2, k3⟩ := Z3.out
        refine ⟨i + 1, by go_num, by omega, k0.setCell (by dsimp only; omega) _, k1.other (by dsimp only; omega) _, k2.other (by dsimp only; omega) _, ?_⟩
        have := k3.set q2 (.int .u8 (y2.toNat : Int))
        rw [ba_set] at this
        have e : ba 16 (lastB (i + 1) (byt p)) = ba 16 (updB (updB (lastB i (byt p)) q y1) q2 y2) := by
          obtain ⟨a1, a2, a3, a4⟩ := HY.out
          rw [a1, a2, a3, a4]
          exact ba_congr fun j hj => (lastB_step i (byt p) h8 hj).symm
        rw [e]
        exact this
      case measure => simp [intOf]; omega
    · have hi2 : i = 8 := by omega
      have hd : decide ((i : Int) < 8) = false := by simp; omega
      obtain ⟨g, hg⟩ : ∃ g, g = lastB i (byt p) := ⟨_, rfl⟩
      have HG : Hid (ba 16 g = ba 16 (byt p)) := by
        show ba 16 g = _
        rw [hg, hi2]
        exact ba_congr fun j hj => lastB_all _ hj
      rw [← hg] at Z
      obtain ⟨t1, g1⟩ := Z.out.2.2.2
      obtain ⟨t3, g3⟩ := Z.out.2.2.1
      have hsz := szB g zero32.2
      have hlen := lenB 16 zB g
      have hone := ba_one 16 g
      clear hg z3 hi2
      go_wp2_with (first | refine wpList_load_row rfl 62 _ rfl _ rfl _ _ _ _ g1 und32 rfl hsz ?_ | refine wpList_store_row rfl 62 _ _ rfl _ _ rfl rfl _ _ g3 hsz hlen hone ?_)
      refine bp_c (n := 16) (c := ba 16 g) Tryz.results81 rfl rfl ?_ und32 i32 (ba_size _ _) ⟨by rw [HG.out], ?_⟩
      · exact Z.out.2.2.1.row _
      · exact Z.out.1.setRow (by omega) _

/-- The product of two blocks. -/
def mulB (x y : Nat → By) : Nat → By := byt (pr (pol x) (pol y))

def rgOf (n : Nat) : Code → Option Code
  | .region i ops b => if i = n then some (.region i ops b) else none
  | .block _ b => rgOf n b
  | .seq a b => match rgOf n a with
    | some c => some c
    | none => rgOf n b
  | .cond _ a b => match rgOf n a with
    | some c => some c
    | none => rgOf n b
  | .loop b => rgOf n b
  | _ => none
/-- The region of this number. -/
def rg (f : Func) (n : Nat) : Code := match f.body with
  | some c => (rgOf n c).getD .skip
  | none => .skip
end Go.Proofs.YtobglgddbhddnaaGreat
