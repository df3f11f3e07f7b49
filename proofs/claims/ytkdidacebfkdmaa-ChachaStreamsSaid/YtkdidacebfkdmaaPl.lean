/-
  Blocks of ChaCha20 as plain functions: words, quarters, rounds, bytes.
-/
namespace Go.Proofs.Ytkdidacebfkdmaa
set_option linter.unusedVariables false

abbrev By := BitVec 8
abbrev Wd := BitVec 32

def updW (d : Nat → Wd) (i : Nat) (x : Wd) : Nat → Wd := fun j => if j = i then x else d j
/-- A sum; a sum XORed and turned. -/
def sa (w : Nat → Wd) (a b : Nat) : Nat → Wd := updW w a (w a + w b)
def sx (w : Nat → Wd) (d a r : Nat) : Nat → Wd := updW w d ((w d ^^^ w a).rotateLeft r)
/-- A quarter. -/
def qr (w : Nat → Wd) (a b c d : Nat) : Nat → Wd :=
  sx (sa (sx (sa (sx (sa (sx (sa w a b) d a 16) c d) b c 12) a b) d a 8) c d) b c 7
/-- The eight quarters of a double round. -/
def qk (k : Nat) (w : Nat → Wd) : Nat → Wd :=
  if k < 4 then qr w k (4 + k) (8 + k) (12 + k) else qr w (k - 4) (4 + (k - 4 + 1) % 4) (8 + (k - 4 + 2) % 4) (12 + (k - 4 + 3) % 4)
/-- So many quarters of a double round. -/
def qs : Nat → (Nat → Wd) → (Nat → Wd)
  | 0, w => w
  | k + 1, w => qk k (qs k w)
/-- So many double rounds. -/
def rds : Nat → (Nat → Wd) → (Nat → Wd)
  | 0, w => w
  | n + 1, w => qs 8 (rds n w)

/-! Words of bytes. -/
def zx (b : By) : Wd := b.setWidth 32
/-- The word that the bytes below i make. -/
def wordP (f : Nat → By) (i j : Nat) : Wd :=
  (if 4 * j < i then zx (f (4 * j)) else 0#32) ||| (if 4 * j + 1 < i then zx (f (4 * j + 1)) <<< 8 else 0#32) ||| (if 4 * j + 2 < i then zx (f (4 * j + 2)) <<< 16 else 0#32) ||| (if 4 * j + 3 < i then zx (f (4 * j + 3)) <<< 24 else 0#32)
def wordB (f : Nat → By) (j : Nat) : Wd := zx (f (4 * j)) ||| zx (f (4 * j + 1)) <<< 8 ||| zx (f (4 * j + 2)) <<< 16 ||| zx (f (4 * j + 3)) <<< 24
theorem wordP_zero (f : Nat → By) (j : Nat) : wordP f 0 j = 0#32 := by simp [wordP]
theorem wordP_all (f : Nat → By) {i j : Nat} (h : 4 * j + 3 < i) : wordP f i j = wordB f j := by
  unfold wordP wordB
  rw [if_pos (by omega), if_pos (by omega), if_pos (by omega), if_pos (by omega)]
theorem wordP_none (f : Nat → By) {i j : Nat} (h : i ≤ 4 * j) : wordP f i j = 0#32 := by
  unfold wordP
  rw [if_neg (by omega), if_neg (by omega), if_neg (by omega), if_neg (by omega)]
  rfl
theorem wordP_succ (f : Nat → By) (i : Nat) : wordP f (i + 1) (i / 4) = wordP f i (i / 4) ||| zx (f i) <<< (8 * (i % 4)) := by
  have h := Nat.div_add_mod i 4
  have h4 : i % 4 < 4 := Nat.mod_lt _ (by omega)
  generalize i / 4 = q at *
  generalize i % 4 = r at *
  unfold wordP
  have hr : r = 0 ∨ r = 1 ∨ r = 2 ∨ r = 3 := by omega
  rcases hr with rfl | rfl | rfl | rfl
  · have e : i = 4 * q := by omega
    subst e
    simp only [eq_true (show 4 * q < 4 * q + 1 by omega), eq_false (show ¬ (4 * q < 4 * q) by omega), eq_false (show ¬ (4 * q + 1 < 4 * q + 1) by omega), eq_false (show ¬ (4 * q + 1 < 4 * q) by omega), eq_false (show ¬ (4 * q + 2 < 4 * q + 1) by omega), eq_false (show ¬ (4 * q + 2 < 4 * q) by omega), eq_false (show ¬ (4 * q + 3 < 4 * q + 1) by omega), eq_false (show ¬ (4 * q + 3 < 4 * q) by omega), if_true, if_false, BitVec.or_zero, BitVec.zero_or, BitVec.shiftLeft_zero, Nat.mul_zero]
  · have e : i = 4 * q + 1 := by omega
    subst e
    simp only [eq_true (show 4 * q < 4 * q + 1 + 1 by omega), eq_true (show 4 * q < 4 * q + 1 by omega), eq_true (show 4 * q + 1 < 4 * q + 1 + 1 by omega), eq_false (show ¬ (4 * q + 1 < 4 * q + 1) by omega), eq_false (show ¬ (4 * q + 2 < 4 * q + 1 + 1) by omega), eq_false (show ¬ (4 * q + 2 < 4 * q + 1) by omega), eq_false (show ¬ (4 * q + 3 < 4 * q + 1 + 1) by omega), eq_false (show ¬ (4 * q + 3 < 4 * q + 1) by omega), if_true, if_false, BitVec.or_zero, Nat.reduceMul]
  · have e : i = 4 * q + 2 := by omega
    subst e
    simp only [eq_true (show 4 * q < 4 * q + 2 + 1 by omega), eq_true (show 4 * q < 4 * q + 2 by omega), eq_true (show 4 * q + 1 < 4 * q + 2 + 1 by omega), eq_true (show 4 * q + 1 < 4 * q + 2 by omega), eq_true (show 4 * q + 2 < 4 * q + 2 + 1 by omega), eq_false (show ¬ (4 * q + 2 < 4 * q + 2) by omega), eq_false (show ¬ (4 * q + 3 < 4 * q + 2 + 1) by omega), eq_false (show ¬ (4 * q + 3 < 4 * q + 2) by omega), if_true, if_false, BitVec.or_zero, Nat.reduceMul]
  · have e : i = 4 * q + 3 := by omega
    subst e
    simp only [eq_true (show 4 * q < 4 * q + 3 + 1 by omega), eq_true (show 4 * q < 4 * q + 3 by omega), eq_true (show 4 * q + 1 < 4 * q + 3 + 1 by omega), eq_true (show 4 * q + 1 < 4 * q + 3 by omega), eq_true (show 4 * q + 2 < 4 * q + 3 + 1 by omega), eq_true (show 4 * q + 2 < 4 * q + 3 by omega), eq_true (show 4 * q + 3 < 4 * q + 3 + 1 by omega), eq_false (show ¬ (4 * q + 3 < 4 * q + 3) by omega), if_true, if_false, BitVec.or_zero, Nat.reduceMul]
theorem wordP_other (f : Nat → By) {i j : Nat} (h : j ≠ i / 4) : wordP f (i + 1) j = wordP f i j := by
  unfold wordP
  have e0 : (4 * j < i + 1) = (4 * j < i) := by rw [eq_iff_iff]; omega
  have e1 : (4 * j + 1 < i + 1) = (4 * j + 1 < i) := by rw [eq_iff_iff]; omega
  have e2 : (4 * j + 2 < i + 1) = (4 * j + 2 < i) := by rw [eq_iff_iff]; omega
  have e3 : (4 * j + 3 < i + 1) = (4 * j + 3 < i) := by rw [eq_iff_iff]; omega
  simp only [e0, e1, e2, e3]

/-- The words that a block is mixed of. -/
def con (j : Nat) : Wd := if j = 0 then 0x61707865#32 else if j = 1 then 0x3320646e#32 else if j = 2 then 0x79622d32#32 else if j = 3 then 0x6b206574#32 else 0#32
/-- The same, with the bytes of the key below i and those of the nonce below k. -/
def iniP (key : Nat → By) (i : Nat) (c : Wd) (nonce : Nat → By) (k : Nat) : Nat → Wd := fun j =>
  if j < 4 then con j else if j < 12 then wordP key i (j - 4) else if j = 12 then c else wordP nonce k (j - 13)
def ini (key : Nat → By) (c : Wd) (nonce : Nat → By) : Nat → Wd := fun j =>
  if j < 4 then con j else if j < 12 then wordB key (j - 4) else if j = 12 then c else wordB nonce (j - 13)
/-- A block. -/
def blk (key : Nat → By) (c : Wd) (nonce : Nat → By) : Nat → By := fun i => ((ini key c nonce (i / 4) + rds 10 (ini key c nonce) (i / 4)) >>> (8 * (i % 4))).setWidth 8
/-- A text, streamed. -/
def stF (key : Nat → By) (c : Wd) (nonce txt : Nat → By) : Nat → By := fun i => txt i ^^^ blk key (c + BitVec.ofNat 32 (i / 64)) nonce (i % 64)

def EqN (n : Nat) (f g : Nat → Wd) : Prop := ∀ i, i < n → f i = g i
theorem EqN.upd {n : Nat} {f g : Nat → Wd} (h : EqN n f g) (i : Nat) {x y : Wd} (e : x = y) : EqN n (updW f i x) (updW g i y) := by
  intro j hj
  unfold updW
  split
  · exact e
  · exact h j hj
theorem EqN.qr {f g : Nat → Wd} (h : EqN 16 f g) {a b c d : Nat} (ha : a < 16) (hb : b < 16) (hc : c < 16) (hd : d < 16) : EqN 16 (qr f a b c d) (qr g a b c d) := by
  have sa' : ∀ {f g : Nat → Wd} {p q : Nat}, EqN 16 f g → p < 16 → q < 16 → EqN 16 (sa f p q) (sa g p q) := fun h hp hq => h.upd _ (by rw [h _ hp, h _ hq])
  have sx' : ∀ {f g : Nat → Wd} {p q r : Nat}, EqN 16 f g → p < 16 → q < 16 → EqN 16 (sx f p q r) (sx g p q r) := fun h hp hq => h.upd _ (by rw [h _ hp, h _ hq])
  exact sx' (sa' (sx' (sa' (sx' (sa' (sx' (sa' h ha hb) hd ha) hc hd) hb hc) ha hb) hd ha) hc hd) hb hc
theorem EqN.qk {f g : Nat → Wd} (h : EqN 16 f g) {k : Nat} (hk : k < 8) : EqN 16 (qk k f) (qk k g) := by
  unfold Ytkdidacebfkdmaa.qk
  split
  · exact h.qr (by omega) (by omega) (by omega) (by omega)
  · exact h.qr (by omega) (by omega) (by omega) (by omega)
theorem EqN.qs {f g : Nat → Wd} (h : EqN 16 f g) {k : Nat} (hk : k ≤ 8) : EqN 16 (qs k f) (qs k g) := by
  induction k with
  | zero => exact h
  | succ k ih => exact (ih (by omega)).qk (by omega)
theorem EqN.rds {f g : Nat → Wd} (h : EqN 16 f g) (n : Nat) : EqN 16 (rds n f) (rds n g) := by
  induction n with
  | zero => exact h
  | succ n ih => exact ih.qs (Nat.le_refl _)
end Go.Proofs.Ytkdidacebfkdmaa
