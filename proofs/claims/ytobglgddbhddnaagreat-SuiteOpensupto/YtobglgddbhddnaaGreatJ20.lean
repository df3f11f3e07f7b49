/-
  Blocks of ChaCha20 as plain functions: words, quarters, rounds, bytes.
  Words of 32 bits: as cells, as Go reckons them; turned.
  A quarter of the words: the program's closure, and the document's quarter.
  The sixteen words that a block is mixed of: the function beginning.
-/
import Derived.Test.YtobglgddbhddnaaGreatJ02
namespace Go.Proofs.YtobglgddbhddnaaGreat.Cha
set_option linter.unusedVariables false

abbrev By := BitVec 8
abbrev Wd := BitVec 32

def updW (d : Nat → Wd) (i : Nat) (x : Wd) : Nat → Wd := fun j => if j = i then x else d j
/-- A sum; a sum XORed and turned. -/
def sa (w : Nat → Wd) (a b : Nat) : Nat → Wd := updW w a (w a + w b)
def sx (w : Nat → Wd) (d a r : Nat) : Nat → Wd := updW w d ((w d ^^^ w a).rotateLeft r)
/-- A quarter. -/
def qr (w : Nat → Wd) (a b c d : Nat) : Nat → Wd :=
  sx (sa (sx (sa (sx (sa (sx (sa w a b) d a 16) c d) b c 12) a b) d a 8) c d) b c 7
/-- The eight quarters of a double round. -/
def qk (k : Nat) (w : Nat → Wd) : Nat → Wd :=
  if k < 4 then qr w k (4 + k) (8 + k) (12 + k) else qr w (k - 4) (4 + (k - 4 + 1) % 4) (8 + (k - 4 + 2) % 4) (12 + (k - 4 + 3) % 4)
/-- So many quarters of a double round. -/
def qs : Nat → (Nat → Wd) → (Nat → Wd)
  | 0, w => w
  | k + 1, w => qk k (qs k w)
/-- So many double rounds. -/
def rds : Nat → (Nat → Wd) → (Nat → Wd)
  | 0, w => w
  | n + 1, w => qs 8 (rds n w)

/-! Words of bytes. -/
def zx (b : By) : Wd := b.setWidth 32
/-- The word that the bytes below i make. -/
def wordP (f : Nat → By) (i j : Nat) : Wd :=
  (if 4 * j < i then zx (f (4 * j)) else 0#32) ||| (if 4 * j + 1 < i then zx (f (4 * j + 1)) <<< 8 else 0#32) ||| (if 4 * j + 2 < i then zx (f (4 * j + 2)) <<< 16 else 0#32) ||| (if 4 * j + 3 < i then zx (f (4 * j + 3)) <<< 24 else 0#32)
def wordB (f : Nat → By) (j : Nat) : Wd := zx (f (4 * j)) ||| zx (f (4 * j + 1)) <<< 8 ||| zx (f (4 * j + 2)) <<< 16 ||| zx (f (4 * j + 3)) <<< 24
theorem wordP_zero (f : Nat → By) (j : Nat) : wordP f 0 j = 0#32 := by simp [wordP]
theorem wordP_all (f : Nat → By) {i j : Nat} (h : 4 * j + 3 < i) : wordP f i j = wordB f j := by
  unfold wordP wordB
  rw [if_pos (by omega), if_pos (by omega), if_pos (by omega), if_pos (by omega)]
theorem wordP_none (f : Nat → By) {i j : Nat} (h : i ≤ 4 * j) : wordP f i j = 0#32 := by
  unfold wordP
  rw [if_neg (by omega), if_neg (by omega), if_neg (by omega), if_neg (by omega)]
  rfl
theorem wordP_succ (f : Nat → By) (i : Nat) : wordP f (i + 1) (i / 4) = wordP f i (i / 4) ||| zx (f i) <<< (8 * (i % 4)) := by
  have h := Nat.div_add_mod i 4
  have h4 : i % 4 < 4 := Nat.mod_lt _ (by omega)
  generalize i / 4 = q at *
  generalize i % 4 = r at *
  unfold wordP
  have hr : r = 0 ∨ r = 1 ∨ r = 2 ∨ r = 3 := by omega
  rcases hr with rfl | rfl | rfl | rfl
  · have e : i = 4 * q := by omega
    subst e
    simp only [eq_true (show 4 * q < 4 * q + 1 by omega), eq_false (show ¬ (4 * q < 4 * q) by omega), eq_false (show ¬ (4 * q + 1 < 4 * q + 1) by omega), eq_false (show ¬ (4 * q + 1 < 4 * q) by omega), eq_false (show ¬ (4 * q + 2 < 4 * q + 1) by omega), eq_false (show ¬ (4 * q + 2 < 4 * q) by omega), eq_false (show ¬ (4 * q + 3 < 4 * q + 1) by omega), eq_false (show ¬ (4 * q + 3 < 4 * q) by omega), if_true, if_false, BitVec.or_zero, BitVec.zero_or, BitVec.shiftLeft_zero, Nat.mul_zero]
  · have e : i = 4 * q + 1 := by omega
    subst e
    simp only [eq_true (show 4 * q < 4 * q + 1 + 1 by omega), eq_true (show 4 * q < 4 * q + 1 by omega), eq_true (show 4 * q + 1 < 4 * q + 1 + 1 by omega), eq_false (show ¬ (4 * q + 1 < 4 * q + 1) by omega), eq_false (show ¬ (4 * q + 2 < 4 * q + 1 + 1) by omega), eq_false (show ¬ (4 * q + 2 < 4 * q + 1) by omega), eq_false (show ¬ (4 * q + 3 < 4 * q + 1 + 1) by omega), eq_false (show ¬ (4 * q + 3 < 4 * q + 1) by omega), if_true, if_false, BitVec.or_zero, Nat.reduceMul]
  · have e : i = 4 * q + 2 := by omega
    subst e
    simp only [eq_true (show 4 * q < 4 * q + 2 + 1 by omega), eq_true (show 4 * q < 4 * q + 2 by omega), eq_true (show 4 * q + 1 < 4 * q + 2 + 1 by omega), eq_true (show 4 * q + 1 < 4 * q + 2 by omega), eq_true (show 4 * q + 2 < 4 * q + 2 + 1 by omega), eq_false (show ¬ (4 * q + 2 < 4 * q + 2) by omega), eq_false (show ¬ (4 * q + 3 < 4 * q + 2 + 1) by omega), eq_false (show ¬ (4 * q + 3 < 4 * q + 2) by omega), if_true, if_false, BitVec.or_zero, Nat.reduceMul]
  · have e : i = 4 * q + 3 := by omega
    subst e
    simp only [eq_true (show 4 * q < 4 * q + 3 + 1 by omega), eq_true (show 4 * q < 4 * q + 3 by omega), eq_true (show 4 * q + 1 < 4 * q + 3 + 1 by omega), eq_true (show 4 * q + 1 < 4 * q + 3 by omega), eq_true (show 4 * q + 2 < 4 * q + 3 + 1 by omega), eq_true (show 4 * q + 2 < 4 * q + 3 by omega), eq_true (show 4 * q + 3 < 4 * q + 3 + 1 by omega), eq_false (show ¬ (4 * q + 3 < 4 * q + 3) by omega), if_true, if_false, BitVec.or_zero, Nat.reduceMul]
theorem wordP_other (f : Nat → By) {i j : Nat} (h : j ≠ i / 4) : wordP f (i + 1) j = wordP f i j := by
  unfold wordP
  have e0 : (4 * j < i + 1) = (4 * j < i) := by rw [eq_iff_iff]; omega
  have e1 : (4 * j + 1 < i + 1) = (4 * j + 1 < i) := by rw [eq_iff_iff]; omega
  have e2 : (4 * j + 2 < i + 1) = (4 * j + 2 < i) := by rw [eq_iff_iff]; omega
  have e3 : (4 * j + 3 < i + 1) = (4 * j + 3 < i) := by rw [eq_iff_iff]; omega
  simp only [e0, e1, e2, e3]

/-- The words that a block is mixed of. -/
def con (j : Nat) : Wd := if j = 0 then 0x61707865#32 else if j = 1 then 0x3320646e#32 else if j = 2 then 0x79622d32#32 else if j = 3 then 0x6b206574#32 else 0#32
/-- The same, with the bytes of the key below i and those of the nonce below k. -/
def iniP (key : Nat → By) (i : Nat) (c : Wd) (nonce : Nat → By) (k : Nat) : Nat → Wd := fun j =>
  if j < 4 then con j else if j < 12 then wordP key i (j - 4) else if j = 12 then c else wordP nonce k (j - 13)
def ini (key : Nat → By) (c : Wd) (nonce : Nat → By) : Nat → Wd := fun j =>
  if j < 4 then con j else if j < 12 then wordB key (j - 4) else if j = 12 then c else wordB nonce (j - 13)
/-- A block. -/
def blk (key : Nat → By) (c : Wd) (nonce : Nat → By) : Nat → By := fun i => ((ini key c nonce (i / 4) + rds 10 (ini key c nonce) (i / 4)) >>> (8 * (i % 4))).setWidth 8
/-- A text, streamed. -/
def stF (key : Nat → By) (c : Wd) (nonce txt : Nat → By) : Nat → By := fun i => txt i ^^^ blk key (c + BitVec.ofNat 32 (i / 64)) nonce (i % 64)

def EqN (n : Nat) (f g : Nat → Wd) : Prop := ∀ i, i < n → f i = g i
theorem EqN.upd {n : Nat} {f g : Nat → Wd} (h : EqN n f g) (i : Nat) {x y : Wd} (e : x = y) : EqN n (updW f i x) (updW g i y) := by
  intro j hj
  unfold updW
  split
  · exact e
  · exact h j hj
theorem EqN.qr {f g : Nat → Wd} (h : EqN 16 f g) {a b c d : Nat} (ha : a < 16) (hb : b < 16) (hc : c < 16) (hd : d < 16) : EqN 16 (qr f a b c d) (qr g a b c d) := by
  have sa' : ∀ {f g : Nat → Wd} {p q : Nat}, EqN 16 f g → p < 16 → q < 16 → EqN 16 (sa f p q) (sa g p q) := fun h hp hq => h.upd _ (by rw [h _ hp, h _ hq])
  have sx' : ∀ {f g : Nat → Wd} {p q r : Nat}, EqN 16 f g → p < 16 → q < 16 → EqN 16 (sx f p q r) (sx g p q r) := fun h hp hq => h.upd _ (by rw [h _ hp, h _ hq])
  exact sx' (sa' (sx' (sa' (sx' (sa' (sx' (sa' h ha hb) hd ha) hc hd) hb hc) ha hb) hd ha) hc hd) hb hc
theorem EqN.qk {f g : Nat → Wd} (h : EqN 16 f g) {k : Nat} (hk : k < 8) : EqN 16 (qk k f) (qk k g) := by
  unfold YtobglgddbhddnaaGreat.Cha.qk
  split
  · exact h.qr (by omega) (by omega) (by omega) (by omega)
  · exact h.qr (by omega) (by omega) (by omega) (by omega)
theorem EqN.qs {f g : Nat → Wd} (h : EqN 16 f g) {k : Nat} (hk : k ≤ 8) : EqN 16 (qs k f) (qs k g) := by
  induction k with
  | zero => exact h
  | succ k ih => exact (ih (by omega)).qk (by omega)
theorem EqN.rds {f g : Nat → Wd} (h : EqN 16 f g) (n : Nat) : EqN 16 (rds n f) (rds n g) := by
  induction n with
  | zero => exact h
  | succ n ih => exact ih.qs (Nat.le_refl _)
end Go.Proofs.YtobglgddbhddnaaGreat.Cha

namespace Go.Proofs.YtobglgddbhddnaaGreat.Cha
open Go.RowKit
set_option linter.unusedVariables false

def wa (n : Nat) (f : Nat → Wd) : Array Value := arr .u32 n fun i => ((f i).toNat : Int)
theorem wa_size (n : Nat) (f : Nat → Wd) : (wa n f).size = n := arr_size _ _ _
theorem wa_get (n : Nat) (f : Nat → Wd) {i : Nat} (h : i < n) : (wa n f)[i]? = some (.int .u32 ((f i).toNat : Int)) := arr_get _ _ _ h
theorem wa_set (n : Nat) (f : Nat → Wd) (i : Nat) (x : Wd) : (wa n f).setIfInBounds i (.int .u32 (x.toNat : Int)) = wa n (updW f i x) := by
  unfold wa
  rw [arr_set]
  congr 1
  funext j
  unfold upd updW
  split <;> rfl
theorem wa_congr {n : Nat} {f g : Nat → Wd} (h : EqN n f g) : wa n f = wa n g := by
  apply Array.ext_getElem?
  intro j
  by_cases hj : j < n
  · rw [wa_get _ _ hj, wa_get _ _ hj, h j hj]
  · simp [wa, arr, hj]
theorem wa_one (n : Nat) (f : Nat → Wd) : (wa n f).all (·.oneCell') = true := arr_one _ _ _
def zW : Nat → Wd := fun _ => 0#32
theorem zero42 : (∀ w, (zeroValue 84).run Tryz.prog w = .ok (.agg (wa 16 zW)) w) ∧ (Tryz.prog.info? 84).map (·.size) = some 16 := zero_of_info (by kernel_rfl)
theorem und42 : Tryz.prog.underlying 84 = some (.array 16 54) := by kernel_rfl
theorem i42 : (Tryz.prog.info? 84).map (·.size) = some 16 := by kernel_rfl
theorem szW (f : Nat → Wd) : (Tryz.prog.info? 84).map (·.size) = some (wa 16 f).size := by rw [wa_size]; exact i42
theorem lenW (n : Nat) (f g : Nat → Wd) : (wa n f).size = (wa n g).size := by rw [wa_size, wa_size]

theorem nmXor (x y : Wd) : ∃ z : Wd, Hid (z = x ^^^ y) ∧ Go.bits .xor .u32 (x.toNat : Int) (y.toNat : Int) = (z.toNat : Int) := ⟨_, rfl, by rw [u32_xor_nat _ _ x.isLt y.isLt, BitVec.toNat_xor]⟩
theorem nmOr (x y : Wd) : ∃ z : Wd, Hid (z = x ||| y) ∧ Go.bits .or .u32 (x.toNat : Int) (y.toNat : Int) = (z.toNat : Int) := ⟨_, rfl, by rw [u32_or_nat _ _ x.isLt y.isLt, BitVec.toNat_or]⟩
theorem nmAdd (x y : Wd) : ∃ z : Wd, Hid (z = x + y) ∧ IntKind.u32.wrap ((x.toNat : Int) + (y.toNat : Int)) = (z.toNat : Int) := ⟨_, rfl, by rw [BitVec.toNat_add, IntKind.wrap_u32]; omega⟩
theorem rot_num (x : Wd) (k : Nat) (h0 : 0 < k) (h : k < 32) : Go.bits .or .u32 ((x.toNat : Int) * 2 ^ k % 4294967296) ((x.toNat : Int) / 2 ^ (32 - k)) = ((x.rotateLeft k).toNat : Int) := by
  have e : x.rotateLeft k = x <<< k ||| x >>> (32 - k) := by
    unfold BitVec.rotateLeft BitVec.rotateLeftAux
    rw [Nat.mod_eq_of_lt h]
  have e1 : (x.toNat : Int) * 2 ^ k % 4294967296 = ((x <<< k).toNat : Int) := by
    rw [BitVec.toNat_shiftLeft, Nat.shiftLeft_eq]
    simp
  have e2 : (x.toNat : Int) / 2 ^ (32 - k) = ((x >>> (32 - k)).toNat : Int) := by
    rw [BitVec.toNat_ushiftRight, Nat.shiftRight_eq_div_pow]
    simp
  rw [e1, e2, u32_or_nat _ _ (BitVec.isLt _) (BitVec.isLt _), e, BitVec.toNat_or]

theorem ret32 {a b : Int} (h : a = b) : Ending.returned (Value.int .u32 a) = Ending.returned (Value.int .u32 b) := by rw [h]

set_option maxRecDepth 100000 in
theorem rot16_any (x : Wd) (w : World) : Calls Tryz.prog 97 #[.int .u32 (x.toNat : Int), .int .i64 16] w fun r w' => r = .returned (.int .u32 ((x.rotateLeft 16).toNat : Int)) ∧ w' = w := by
  have h : Go.bits .and .u64 16 31 = 16 := by decide
  go_enter Tryz.func97, Tryz.ntmps97
  go_wp2
  go_ret
  exact ⟨ret32 (rot_num x 16 (by decide) (by decide)), rfl⟩
set_option maxRecDepth 100000 in
theorem rot12_any (x : Wd) (w : World) : Calls Tryz.prog 97 #[.int .u32 (x.toNat : Int), .int .i64 12] w fun r w' => r = .returned (.int .u32 ((x.rotateLeft 12).toNat : Int)) ∧ w' = w := by
  have h : Go.bits .and .u64 12 31 = 12 := by decide
  go_enter Tryz.func97, Tryz.ntmps97
  go_wp2
  go_ret
  exact ⟨ret32 (rot_num x 12 (by decide) (by decide)), rfl⟩
set_option maxRecDepth 100000 in
theorem rot8_any (x : Wd) (w : World) : Calls Tryz.prog 97 #[.int .u32 (x.toNat : Int), .int .i64 8] w fun r w' => r = .returned (.int .u32 ((x.rotateLeft 8).toNat : Int)) ∧ w' = w := by
  have h : Go.bits .and .u64 8 31 = 8 := by decide
  go_enter Tryz.func97, Tryz.ntmps97
  go_wp2
  go_ret
  exact ⟨ret32 (rot_num x 8 (by decide) (by decide)), rfl⟩
set_option maxRecDepth 100000 in
theorem rot7_any (x : Wd) (w : World) : Calls Tryz.prog 97 #[.int .u32 (x.toNat : Int), .int .i64 7] w fun r w' => r = .returned (.int .u32 ((x.rotateLeft 7).toNat : Int)) ∧ w' = w := by
  have h : Go.bits .and .u64 7 31 = 7 := by decide
  go_enter Tryz.func97, Tryz.ntmps97
  go_wp2
  go_ret
  exact ⟨ret32 (rot_num x 7 (by decide) (by decide)), rfl⟩
theorem rot_numN (x : Wd) (n q : Nat) (h0 : 0 < n) (h : n < 32) (hq : (32 : Int) - n = q) : Go.bits .or .u32 (IntKind.u32.wrap ((x.toNat : Int) * 2 ^ n)) ((x.toNat : Int) / 2 ^ q) = ((x.rotateLeft n).toNat : Int) := by
  have e : q = 32 - n := by omega
  rw [IntKind.wrap_u32, e]
  exact rot_num x n h0 h
set_option maxRecDepth 100000 in
theorem left_any (x : Wd) (n : Nat) (w : World) (h0 : 0 < n) (h : n < 32) : Calls Tryz.prog 68 #[.int .u32 (x.toNat : Int), .int .i64 n] w fun r w' => r = .returned (.int .u32 ((x.rotateLeft n).toNat : Int)) ∧ ∃ m, w' = w.drewN m := by
  obtain ⟨q, hq⟩ : ∃ q : Nat, (32 : Int) - n = q := ⟨32 - n, by omega⟩
  have e3 := wrap_i (x := q) (by omega) (by omega)
  have l1 : (n : Int) < 32 := by omega
  have l2 : (q : Int) < 32 := by omega
  have l3 : n < 64 := by omega
  have l4 : q < 64 := by omega
  have HR : Hid (Go.bits .or .u32 (IntKind.u32.wrap ((x.toNat : Int) * 2 ^ n)) ((x.toNat : Int) / 2 ^ q) = ((x.rotateLeft n).toNat : Int)) := rot_numN x n q h0 h hq
  clear h0 h
  go_enter Tryz.func68, Tryz.ntmps68
  go_wp2_with fail
  go_quiet (fail)
  all_goals go_wp2
  all_goals
    go_ret
    exact ⟨ret32 HR.out, nq, rfl⟩
end Go.Proofs.YtobglgddbhddnaaGreat.Cha

namespace Go.Proofs.YtobglgddbhddnaaGreat.Cha
open Go.RowKit
set_option linter.unusedVariables false

/-- Only the words' block has changed; it holds these. -/
structure QS (w0 wr : World) (B : Nat) (f : Nat → Wd) : Prop where
  chg : Ap.Chg (Ap.One B) w0 wr
  ws : Ar wr B (wa 16 f)
theorem QS.set {w0 wr : World} {B : Nat} {f : Nat → Wd} (h : QS w0 wr B f) (i : Nat) (x : Wd) : QS w0 (wr.setCell ⟨B, i, none⟩ (.int .u32 (x.toNat : Int))) B (updW f i x) := by
  refine ⟨h.chg.setCell (p := ⟨B, i, none⟩) (fun _ => rfl) _, ?_⟩
  have := h.ws.set i (.int .u32 (x.toNat : Int))
  rwa [wa_set] at this
theorem QS.drew {w0 wr : World} {B : Nat} {f : Nat → Wd} (h : QS w0 wr B f) : QS w0 wr.drew B f := ⟨h.chg.drew, h.ws⟩
theorem QS.drewN {w0 wr : World} {B : Nat} {f : Nat → Wd} (h : QS w0 wr B f) (n : Nat) : QS w0 (wr.drewN n) B f := ⟨⟨h.chg.os, h.chg.tape, h.chg.output, h.chg.size, h.chg.block⟩, h.ws⟩

set_option maxRecDepth 100000 in
set_option maxHeartbeats 4000000 in
theorem quarter_any (f0 : Nat → Wd) (a b c d B : Nat) (w0 : World) (hB : Ar w0 B (wa 16 f0)) (ha : a < 16) (hb : b < 16) (hc : c < 16) (hd : d < 16) :
    Calls Tryz.prog 96 #[.int .i64 (a : Int), .int .i64 (b : Int), .int .i64 (c : Int), .int .i64 (d : Int), .pointer (some ⟨B, 0, none⟩)] w0 fun r w' => r = .returned (.tuple #[]) ∧ QS w0 w' B (qr f0 a b c d) := by
  have HB : Hid (a < 16 ∧ b < 16 ∧ c < 16 ∧ d < 16) := ⟨ha, hb, hc, hd⟩
  have la : (a : Int) < 16 := by omega
  have lb : (b : Int) < 16 := by omega
  have lc : (c : Int) < 16 := by omega
  have ld : (d : Int) < 16 := by omega
  have Z0 : Hid (QS w0 w0 B f0) := ⟨Ap.Chg.refl _ _, hB⟩
  clear ha hb hc hd hB
  go_enter Tryz.func96, Tryz.ntmps96
  go_upto_region 0 with fail
  obtain ⟨x, hx⟩ : ∃ x, x = f0 a := ⟨_, rfl⟩
  obtain ⟨y, hy⟩ : ∃ y, y = f0 b := ⟨_, rfl⟩
  have c1 := (Z0.out.ws.cell a).trans (wa_get 16 f0 HB.out.1)
  have c2 := (Z0.out.ws.cell b).trans (wa_get 16 f0 HB.out.2.1)
  have k1 := Z0.out.ws.frozen a
  rw [← hx] at c1
  rw [← hy] at c2
  obtain ⟨z, Hz, ez⟩ := nmAdd x y
  obtain ⟨f1, hf⟩ : ∃ g, g = sa f0 a b := ⟨_, rfl⟩
  have HF0 : Hid (f1 = updW f0 a z) := by show f1 = _; rw [hf, sa, ← hx, ← hy, Hz.out]
  have HG0 : Hid (f1 = sa f0 a b) := hf
  clear hx hy Hz hf
  go_cut [] from 9 to 16 (fun wc => QS w0 wc B f1)
  case first =>
    go_region_with (fail)
    all_goals go_wp2_with fail
    all_goals go_meet
    all_goals
      rw [HF0.out]
      first
        | exact (Z0.out.set a z).drew
        | exact (Z0.out.drew.set a z)
        | exact ((Z0.out.drewN _).set a z)
  have Z1 : Hid (QS w0 wc B f1) := hcut
  clear hcut c1 c2 k1
  obtain ⟨w1, hw1⟩ : ∃ w', w' = wc := ⟨_, rfl⟩
  rw [← hw1] at Z1 ⊢
  clear hw1 wc
  go_upto_region 1 with fail
  obtain ⟨x, hx⟩ : ∃ x, x = f1 d := ⟨_, rfl⟩
  obtain ⟨y, hy⟩ : ∃ y, y = f1 a := ⟨_, rfl⟩
  have c1 := (Z1.out.ws.cell d).trans (wa_get 16 f1 HB.out.2.2.2)
  have c2 := (Z1.out.ws.cell a).trans (wa_get 16 f1 HB.out.1)
  have k1 := Z1.out.ws.frozen d
  rw [← hx] at c1
  rw [← hy] at c2
  obtain ⟨z0, Hz0, ez0⟩ := nmXor x y
  obtain ⟨z, hz⟩ : ∃ z, z = z0.rotateLeft 16 := ⟨_, rfl⟩
  obtain ⟨f2, hf⟩ : ∃ g, g = sx f1 d a 16 := ⟨_, rfl⟩
  have HF1 : Hid (f2 = updW f1 d z) := by show f2 = _; rw [hf, sx, ← hx, ← hy, hz, Hz0.out]
  have HG1 : Hid (f2 = sx f1 d a 16) := hf
  have HC : Hid (∀ u, Calls Tryz.prog 97 #[.int .u32 (z0.toNat : Int), .int .i64 16] u fun r w' => r = .returned (.int .u32 (z.toNat : Int)) ∧ w' = u) := by rw [hz]; exact rot16_any z0
  clear hx hy Hz0 hf hz
  go_cut [] from 17 to 26 (fun wc => QS w0 wc B f2)
  case first =>
    go_region_with (go_at_call 97; refine (HC.out _).mono ?_; rintro r u ⟨rfl, hu⟩; rw [hu])
    all_goals go_wp2_with fail
    all_goals go_meet
    all_goals
      rw [HF1.out]
      first
        | exact (Z1.out.set d z).drew
        | exact (Z1.out.drew.set d z)
        | exact ((Z1.out.drewN _).set d z)
  have Z2 : Hid (QS w0 wc B f2) := hcut
  clear hcut c1 c2 k1
  obtain ⟨w2, hw2⟩ : ∃ w', w' = wc := ⟨_, rfl⟩
  rw [← hw2] at Z2 ⊢
  clear hw2 wc
  go_upto_region 2 with fail
  obtain ⟨x, hx⟩ : ∃ x, x = f2 c := ⟨_, rfl⟩
  obtain ⟨y, hy⟩ : ∃ y, y = f2 d := ⟨_, rfl⟩
  have c1 := (Z2.out.ws.cell c).trans (wa_get 16 f2 HB.out.2.2.1)
  have c2 := (Z2.out.ws.cell d).trans (wa_get 16 f2 HB.out.2.2.2)
  have k1 := Z2.out.ws.frozen c
  rw [← hx] at c1
  rw [← hy] at c2
  obtain ⟨z, Hz, ez⟩ := nmAdd x y
  obtain ⟨f3, hf⟩ : ∃ g, g = sa f2 c d := ⟨_, rfl⟩
  have HF2 : Hid (f3 = updW f2 c z) := by show f3 = _; rw [hf, sa, ← hx, ← hy, Hz.out]
  have HG2 : Hid (f3 = sa f2 c d) := hf
  clear hx hy Hz hf
  go_cut [] from 27 to 34 (fun wc => QS w0 wc B f3)
  case first =>
    go_region_with (fail)
    all_goals go_wp2_with fail
    all_goals go_meet
    all_goals
      rw [HF2.out]
      first
        | exact (Z2.out.set c z).drew
        | exact (Z2.out.drew.set c z)
        | exact ((Z2.out.drewN _).set c z)
  have Z3 : Hid (QS w0 wc B f3) := hcut
  clear hcut c1 c2 k1
  obtain ⟨w3, hw3⟩ : ∃ w', w' = wc := ⟨_, rfl⟩
  rw [← hw3] at Z3 ⊢
  clear hw3 wc
  go_upto_region 3 with fail
  obtain ⟨x, hx⟩ : ∃ x, x = f3 b := ⟨_, rfl⟩
  obtain ⟨y, hy⟩ : ∃ y, y = f3 c := ⟨_, rfl⟩
  have c1 := (Z3.out.ws.cell b).trans (wa_get 16 f3 HB.out.2.1)
  have c2 := (Z3.out.ws.cell c).trans (wa_get 16 f3 HB.out.2.2.1)
  have k1 := Z3.out.ws.frozen b
  rw [← hx] at c1
  rw [← hy] at c2
  obtain ⟨z0, Hz0, ez0⟩ := nmXor x y
  obtain ⟨z, hz⟩ : ∃ z, z = z0.rotateLeft 12 := ⟨_, rfl⟩
  obtain ⟨f4, hf⟩ : ∃ g, g = sx f3 b c 12 := ⟨_, rfl⟩
  have HF3 : Hid (f4 = updW f3 b z) := by show f4 = _; rw [hf, sx, ← hx, ← hy, hz, Hz0.out]
  have HG3 : Hid (f4 = sx f3 b c 12) := hf
  have HC : Hid (∀ u, Calls Tryz.prog 97 #[.int .u32 (z0.toNat : Int), .int .i64 12] u fun r w' => r = .returned (.int .u32 (z.toNat : Int)) ∧ w' = u) := by rw [hz]; exact rot12_any z0
  clear hx hy Hz0 hf hz
  go_cut [] from 35 to 44 (fun wc => QS w0 wc B f4)
  case first =>
    go_region_with (go_at_call 97; refine (HC.out _).mono ?_; rintro r u ⟨rfl, hu⟩; rw [hu])
    all_goals go_wp2_with fail
    all_goals go_meet
    all_goals
      rw [HF3.out]
      first
        | exact (Z3.out.set b z).drew
        | exact (Z3.out.drew.set b z)
        | exact ((Z3.out.drewN _).set b z)
  have Z4 : Hid (QS w0 wc B f4) := hcut
  clear hcut c1 c2 k1
  obtain ⟨w4, hw4⟩ : ∃ w', w' = wc := ⟨_, rfl⟩
  rw [← hw4] at Z4 ⊢
  clear hw4 wc
  go_upto_region 4 with fail
  obtain ⟨x, hx⟩ : ∃ x, x = f4 a := ⟨_, rfl⟩
  obtain ⟨y, hy⟩ : ∃ y, y = f4 b := ⟨_, rfl⟩
  have c1 := (Z4.out.ws.cell a).trans (wa_get 16 f4 HB.out.1)
  have c2 := (Z4.out.ws.cell b).trans (wa_get 16 f4 HB.out.2.1)
  have k1 := Z4.out.ws.frozen a
  rw [← hx] at c1
  rw [← hy] at c2
  obtain ⟨z, Hz, ez⟩ := nmAdd x y
  obtain ⟨f5, hf⟩ : ∃ g, g = sa f4 a b := ⟨_, rfl⟩
  have HF4 : Hid (f5 = updW f4 a z) := by show f5 = _; rw [hf, sa, ← hx, ← hy, Hz.out]
  have HG4 : Hid (f5 = sa f4 a b) := hf
  clear hx hy Hz hf
  go_cut [] from 45 to 52 (fun wc => QS w0 wc B f5)
  case first =>
    go_region_with (fail)
    all_goals go_wp2_with fail
    all_goals go_meet
    all_goals
      rw [HF4.out]
      first
        | exact (Z4.out.set a z).drew
        | exact (Z4.out.drew.set a z)
        | exact ((Z4.out.drewN _).set a z)
  have Z5 : Hid (QS w0 wc B f5) := hcut
  clear hcut c1 c2 k1
  obtain ⟨w5, hw5⟩ : ∃ w', w' = wc := ⟨_, rfl⟩
  rw [← hw5] at Z5 ⊢
  clear hw5 wc
  go_upto_region 5 with fail
  obtain ⟨x, hx⟩ : ∃ x, x = f5 d := ⟨_, rfl⟩
  obtain ⟨y, hy⟩ : ∃ y, y = f5 a := ⟨_, rfl⟩
  have c1 := (Z5.out.ws.cell d).trans (wa_get 16 f5 HB.out.2.2.2)
  have c2 := (Z5.out.ws.cell a).trans (wa_get 16 f5 HB.out.1)
  have k1 := Z5.out.ws.frozen d
  rw [← hx] at c1
  rw [← hy] at c2
  obtain ⟨z0, Hz0, ez0⟩ := nmXor x y
  obtain ⟨z, hz⟩ : ∃ z, z = z0.rotateLeft 8 := ⟨_, rfl⟩
  obtain ⟨f6, hf⟩ : ∃ g, g = sx f5 d a 8 := ⟨_, rfl⟩
  have HF5 : Hid (f6 = updW f5 d z) := by show f6 = _; rw [hf, sx, ← hx, ← hy, hz, Hz0.out]
  have HG5 : Hid (f6 = sx f5 d a 8) := hf
  have HC : Hid (∀ u, Calls Tryz.prog 97 #[.int .u32 (z0.toNat : Int), .int .i64 8] u fun r w' => r = .returned (.int .u32 (z.toNat : Int)) ∧ w' = u) := by rw [hz]; exact rot8_any z0
  clear hx hy Hz0 hf hz
  go_cut [] from 53 to 62 (fun wc => QS w0 wc B f6)
  case first =>
    go_region_with (go_at_call 97; refine (HC.out _).mono ?_; rintro r u ⟨rfl, hu⟩; rw [hu])
    all_goals go_wp2_with fail
    all_goals go_meet
    all_goals
      rw [HF5.out]
      first
        | exact (Z5.out.set d z).drew
        | exact (Z5.out.drew.set d z)
        | exact ((Z5.out.drewN _).set d z)
  have Z6 : Hid (QS w0 wc B f6) := hcut
  clear hcut c1 c2 k1
  obtain ⟨w6, hw6⟩ : ∃ w', w' = wc := ⟨_, rfl⟩
  rw [← hw6] at Z6 ⊢
  clear hw6 wc
  go_upto_region 6 with fail
  obtain ⟨x, hx⟩ : ∃ x, x = f6 c := ⟨_, rfl⟩
  obtain ⟨y, hy⟩ : ∃ y, y = f6 d := ⟨_, rfl⟩
  have c1 := (Z6.out.ws.cell c).trans (wa_get 16 f6 HB.out.2.2.1)
  have c2 := (Z6.out.ws.cell d).trans (wa_get 16 f6 HB.out.2.2.2)
  have k1 := Z6.out.ws.frozen c
  rw [← hx] at c1
  rw [← hy] at c2
  obtain ⟨z, Hz, ez⟩ := nmAdd x y
  obtain ⟨f7, hf⟩ : ∃ g, g = sa f6 c d := ⟨_, rfl⟩
  have HF6 : Hid (f7 = updW f6 c z) := by show f7 = _; rw [hf, sa, ← hx, ← hy, Hz.out]
  have HG6 : Hid (f7 = sa f6 c d) := hf
  clear hx hy Hz hf
  go_cut [] from 63 to 70 (fun wc => QS w0 wc B f7)
  case first =>
    go_region_with (fail)
    all_goals go_wp2_with fail
    all_goals go_meet
    all_goals
      rw [HF6.out]
      first
        | exact (Z6.out.set c z).drew
        | exact (Z6.out.drew.set c z)
        | exact ((Z6.out.drewN _).set c z)
  have Z7 : Hid (QS w0 wc B f7) := hcut
  clear hcut c1 c2 k1
  obtain ⟨w7, hw7⟩ : ∃ w', w' = wc := ⟨_, rfl⟩
  rw [← hw7] at Z7 ⊢
  clear hw7 wc
  go_upto_region 7 with fail
  obtain ⟨x, hx⟩ : ∃ x, x = f7 b := ⟨_, rfl⟩
  obtain ⟨y, hy⟩ : ∃ y, y = f7 c := ⟨_, rfl⟩
  have c1 := (Z7.out.ws.cell b).trans (wa_get 16 f7 HB.out.2.1)
  have c2 := (Z7.out.ws.cell c).trans (wa_get 16 f7 HB.out.2.2.1)
  have k1 := Z7.out.ws.frozen b
  rw [← hx] at c1
  rw [← hy] at c2
  obtain ⟨z0, Hz0, ez0⟩ := nmXor x y
  obtain ⟨z, hz⟩ : ∃ z, z = z0.rotateLeft 7 := ⟨_, rfl⟩
  obtain ⟨f8, hf⟩ : ∃ g, g = sx f7 b c 7 := ⟨_, rfl⟩
  have HF7 : Hid (f8 = updW f7 b z) := by show f8 = _; rw [hf, sx, ← hx, ← hy, hz, Hz0.out]
  have HG7 : Hid (f8 = sx f7 b c 7) := hf
  have HC : Hid (∀ u, Calls Tryz.prog 97 #[.int .u32 (z0.toNat : Int), .int .i64 7] u fun r w' => r = .returned (.int .u32 (z.toNat : Int)) ∧ w' = u) := by rw [hz]; exact rot7_any z0
  clear hx hy Hz0 hf hz
  go_region_with (go_at_call 97; refine (HC.out _).mono ?_; rintro r u ⟨rfl, hu⟩; rw [hu])
  all_goals go_wp2
  all_goals
    refine bodyPost_end (v := .tuple #[]) (results_none Tryz.results96 _ _ _) rfl ⟨rfl, ?_⟩
    have hq : qr f0 a b c d = f8 := by
      rw [HG7.out, HG6.out, HG5.out, HG4.out, HG3.out, HG2.out, HG1.out, HG0.out]
      rfl
    rw [hq, HF7.out]
    first
      | exact (Z7.out.set b z).drew
      | exact (Z7.out.drew.set b z)
end Go.Proofs.YtobglgddbhddnaaGreat.Cha

namespace Go.Proofs.YtobglgddbhddnaaGreat.Cha
open Go.RowKit
set_option linter.unusedVariables false

theorem und22 : Tryz.prog.underlying 40 = some (.array 32 5) := by kernel_rfl
theorem i22 : (Tryz.prog.info? 40).map (·.size) = some 32 := by kernel_rfl
theorem und24 : Tryz.prog.underlying 25 = some (.array 12 5) := by kernel_rfl
theorem i24 : (Tryz.prog.info? 25).map (·.size) = some 12 := by kernel_rfl
theorem und28 : Tryz.prog.underlying 60 = some (.array 64 5) := by kernel_rfl
theorem i28 : (Tryz.prog.info? 60).map (·.size) = some 64 := by kernel_rfl
theorem zero28 : (∀ w, (zeroValue 60).run Tryz.prog w = .ok (.agg (ba 64 zB)) w) ∧ (Tryz.prog.info? 60).map (·.size) = some 64 := zero_of_info (by kernel_rfl)
theorem run_idx {t n : Nat} (hu : Tryz.prog.underlying t = some (.array n 5)) (f : Nat → By) {i : Nat} (hi : i < n) (w : World) :
    (Instr.index t (.agg (ba n f)) (.int .i64 i)).run Tryz.prog w = .ok (.int .u8 ((f i).toNat : Int)) w := by
  have h2 : (i : Int) < n := by omega
  have h3 : ¬ n ≤ i := by omega
  simp [Instr.index, asIntOf, run_underlying hu, part, ba_get n f hi, Sem.run_bind, hi]

theorem zx_num (b : By) (s : Nat) : IntKind.u32.wrap ((b.toNat : Int) * 2 ^ s) = ((zx b <<< s).toNat : Int) := by
  have hb := b.isLt
  rw [BitVec.toNat_shiftLeft, Nat.shiftLeft_eq, IntKind.wrap_u32, zx, BitVec.toNat_setWidth, Nat.mod_eq_of_lt (show b.toNat < 2 ^ 32 by omega)]
  simp
theorem nmShlB (b : By) (s : Nat) : ∃ z : Wd, Hid (z = zx b <<< s) ∧ (b.toNat : Int) * 2 ^ s % 4294967296 = (z.toNat : Int) := ⟨_, rfl, by rw [← zx_num, IntKind.wrap_u32]⟩
theorem nmByte (x : Wd) (s : Nat) : ∃ z : By, Hid (z = (x >>> s).setWidth 8) ∧ IntKind.u8.wrap ((x.toNat : Int) / 2 ^ s) = (z.toNat : Int) := by
  refine ⟨_, rfl, ?_⟩
  rw [BitVec.toNat_setWidth, BitVec.toNat_ushiftRight, Nat.shiftRight_eq_div_pow, IntKind.wrap_u8]
  simp

/-- A place's word, its byte in it, its bits. -/
theorem dm4 (i : Nat) (h : i < 64) : ∃ q r s : Nat, (i : Int).tdiv 4 = q ∧ (i : Int).tmod 4 = r ∧ 8 * (r : Int) = s ∧ IntKind.i64.wrap (q : Int) = q ∧ IntKind.i64.wrap (r : Int) = r ∧ IntKind.i64.wrap (s : Int) = s ∧ (q : Int) < 16 ∧ (s : Int) < 32 ∧ s < 64 ∧ Hid (q = i / 4 ∧ r = i % 4 ∧ s = 8 * (i % 4)) := by
  refine ⟨i / 4, i % 4, 8 * (i % 4), by rw [Int.tdiv_eq_ediv_of_nonneg (by omega)]; omega, by rw [Int.tmod_eq_emod_of_nonneg (by omega)]; omega, by omega, wrap_i (by omega) (by omega), wrap_i (by omega) (by omega), wrap_i (by omega) (by omega), by omega, by omega, by omega, ⟨rfl, rfl, rfl⟩⟩

theorem iniP_key (key nonce : Nat → By) (c : Wd) {i : Nat} (hi : i < 32) (z : Wd) (hz : z = iniP key i c nonce 0 (4 + i / 4) ||| zx (key i) <<< (8 * (i % 4))) : updW (iniP key i c nonce 0) (4 + i / 4) z = iniP key (i + 1) c nonce 0 := by
  funext j
  unfold updW
  by_cases h : j = 4 + i / 4
  · rw [if_pos h, hz, h]
    unfold iniP
    rw [if_neg (by omega), if_pos (by omega), if_neg (by omega), if_pos (by omega), show 4 + i / 4 - 4 = i / 4 by omega, wordP_succ]
  · rw [if_neg h]
    unfold iniP
    split
    · rfl
    · split
      · rw [wordP_other key (by omega)]
      · rfl
theorem iniP_nonce (key nonce : Nat → By) (c : Wd) {i : Nat} (hi : i < 12) (z : Wd) (hz : z = iniP key 32 c nonce i (13 + i / 4) ||| zx (nonce i) <<< (8 * (i % 4))) : updW (iniP key 32 c nonce i) (13 + i / 4) z = iniP key 32 c nonce (i + 1) := by
  funext j
  unfold updW
  by_cases h : j = 13 + i / 4
  · rw [if_pos h, hz, h]
    unfold iniP
    rw [if_neg (by omega), if_neg (by omega), if_neg (by omega), if_neg (by omega), if_neg (by omega), if_neg (by omega), show 13 + i / 4 - 13 = i / 4 by omega, wordP_succ]
  · rw [if_neg h]
    unfold iniP
    split
    · rfl
    · split
      · rfl
      · split
        · rfl
        · rw [wordP_other nonce (by omega)]
theorem iniP_start (key nonce : Nat → By) : wa 16 con = wa 16 (iniP key 0 0#32 nonce 0) := by
  refine wa_congr fun j hj => ?_
  unfold iniP
  split
  · rfl
  · rename_i h
    have e : con j = 0#32 := by unfold con; rw [if_neg (by omega), if_neg (by omega), if_neg (by omega), if_neg (by omega)]
    rw [e, wordP_zero, wordP_zero]
    split
    · rfl
    · split <;> rfl
theorem iniP_count (key nonce : Nat → By) (i : Nat) (c c' : Wd) : updW (iniP key i c nonce 0) 12 c' = iniP key i c' nonce 0 := by
  funext j
  unfold updW iniP
  by_cases h : j = 12
  · subst h; simp
  · simp [h]
theorem iniP_all (key nonce : Nat → By) (c : Wd) : EqN 16 (iniP key 32 c nonce 12) (ini key c nonce) := by
  intro j hj
  unfold iniP ini
  split
  · rfl
  · split
    · rw [wordP_all key (by omega)]
    · split
      · rfl
      · rw [wordP_all nonce (by omega)]
theorem con_cells : ((((wa 16 zW).setIfInBounds 0 (.int .u32 1634760805)).setIfInBounds 1 (.int .u32 857760878)).setIfInBounds 2 (.int .u32 2036477234)).setIfInBounds 3 (.int .u32 1797285236) = wa 16 con := by
  have e0 := wa_set 16 zW 0 0x61707865#32
  have e1 := wa_set 16 (updW zW 0 0x61707865#32) 1 0x3320646e#32
  have e2 := wa_set 16 (updW (updW zW 0 0x61707865#32) 1 0x3320646e#32) 2 0x79622d32#32
  have e3 := wa_set 16 (updW (updW (updW zW 0 0x61707865#32) 1 0x3320646e#32) 2 0x79622d32#32) 3 0x6b206574#32
  rw [← e2, ← e1, ← e0] at e3
  refine e3.trans (wa_congr fun j hj => ?_)
  unfold updW con zW
  by_cases h3 : j = 3
  · subst h3; rfl
  · by_cases h2 : j = 2
    · subst h2; rfl
    · by_cases h1 : j = 1
      · subst h1; rfl
      · by_cases h0 : j = 0
        · subst h0; rfl
        · simp [h0, h1, h2, h3]

theorem heap_new3 (w : World) (a b c : Obj) (x : Array Value) (t : TypeId) : ((((w.alloc a).alloc b).alloc c).alloc (.cells x t)).heap[w.heap.size + 1 + 1 + 1]? = some (.cells x t (0, 0)) := by
  have := heap_alloc_last (((w.alloc a).alloc b).alloc c) (.cells x t)
  rwa [World.size_alloc, World.size_alloc, World.size_alloc] at this
/-- What stands while the words are laid. -/
structure BgS (w wr : World) (B : Nat) (key nonce : Nat → By) (f : Nat → Wd) : Prop where
  chg : Chg w wr
  key : Ar wr w.heap.size (ba 32 key)
  non : Ar wr (w.heap.size + 1) (ba 12 nonce)
  out : Ar wr (w.heap.size + 1 + 1) (wa 16 zW)
  ws : Ar wr (w.heap.size + 1 + 1 + 1) (wa 16 f)
theorem BgS.set {w wr : World} {B : Nat} {key nonce : Nat → By} {f : Nat → Wd} (h : BgS w wr B key nonce f) (i : Nat) (x : Wd) : BgS w (wr.setCell ⟨w.heap.size + 1 + 1 + 1, i, none⟩ (.int .u32 (x.toNat : Int))) B key nonce (updW f i x) := by
  refine ⟨h.chg.setCell (by dsimp only; omega) _, h.key.other (by dsimp only; omega) _, h.non.other (by dsimp only; omega) _, h.out.other (by dsimp only; omega) _, ?_⟩
  have := h.ws.set i (.int .u32 (x.toNat : Int))
  rwa [wa_set] at this
theorem BgS.drew {w wr : World} {B : Nat} {key nonce : Nat → By} {f : Nat → Wd} (h : BgS w wr B key nonce f) : BgS w wr.drew B key nonce f := ⟨h.chg.drew, h.key, h.non, h.out, h.ws⟩
end Go.Proofs.YtobglgddbhddnaaGreat.Cha
