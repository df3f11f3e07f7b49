/-
  Polynomials over two values modulo x^128 + x^7 + x^2 + x + 1, as plain words of 128 bits: products may be turned round and grouped otherwise, share out over XOR, and come to nothing only where one of both is nothing.
  Boxes of a block's bytes, its rows moved: the function moved.
  A block with each column mixed: the function mixed.
-/
import Derived.Test.YtobglgddbhddnaaGreatJ01
namespace Go.Proofs.YtobglgddbhddnaaGreat
set_option linter.unusedVariables false

abbrev Po := BitVec 128

/-- Times x. -/
def tx (p : Po) : Po := (p >>> 1) ^^^ (if p.getLsbD 0 then 0xe1000000000000000000000000000000#128 else 0#128)
def txn : Nat → Po → Po
  | 0, b => b
  | n + 1, b => tx (txn n b)
def sel (c : Bool) (x : Po) : Po := if c then x else 0#128
def acc (f : Nat → Po) : Nat → Po
  | 0 => 0#128
  | n + 1 => acc f n ^^^ f n
/-- The product. -/
def pr (a b : Po) : Po := acc (fun i => sel (a.getMsbD i) (txn i b)) 128
def one : Po := 0x80000000000000000000000000000000#128

theorem po_left (x y z : Po) : x ^^^ (y ^^^ z) = y ^^^ (x ^^^ z) := by rw [← BitVec.xor_assoc, BitVec.xor_comm x y, BitVec.xor_assoc]
theorem po_cancel (x y : Po) : x ^^^ (x ^^^ y) = y := by rw [← BitVec.xor_assoc, BitVec.xor_self, BitVec.zero_xor]
theorem po_swap (a b c d : Po) : (a ^^^ b) ^^^ (c ^^^ d) = (a ^^^ c) ^^^ (b ^^^ d) := by rw [BitVec.xor_assoc, po_left b c d, ← BitVec.xor_assoc]

theorem tx_xor (x y : Po) : tx (x ^^^ y) = tx x ^^^ tx y := by
  unfold tx
  rw [BitVec.ushiftRight_xor_distrib, BitVec.getLsbD_xor]
  cases x.getLsbD 0 <;> cases y.getLsbD 0 <;> simp [BitVec.xor_assoc, BitVec.xor_comm, po_left]
theorem tx_zero : tx 0#128 = 0#128 := by decide +kernel
theorem txn_xor (n : Nat) (x y : Po) : txn n (x ^^^ y) = txn n x ^^^ txn n y := by
  induction n with
  | zero => rfl
  | succ n ih => simp only [txn]; rw [ih, tx_xor]
theorem txn_zero (n : Nat) : txn n 0#128 = 0#128 := by
  induction n with
  | zero => rfl
  | succ n ih => simp only [txn]; rw [ih, tx_zero]
theorem txn_add (m n : Nat) (x : Po) : txn m (txn n x) = txn (m + n) x := by
  induction m with
  | zero => rw [Nat.zero_add]; rfl
  | succ m ih => rw [show m + 1 + n = (m + n) + 1 by omega]; simp only [txn]; rw [ih]
theorem txn_tx (n : Nat) (x : Po) : txn n (tx x) = tx (txn n x) := by
  have h1 := txn_add n 1 x
  have h2 := txn_add 1 n x
  rw [Nat.add_comm n 1, ← h2] at h1
  exact h1

theorem sel_xor (c : Bool) (x y : Po) : sel c (x ^^^ y) = sel c x ^^^ sel c y := by cases c <;> simp [sel]
theorem sel_zero (c : Bool) : sel c 0#128 = 0#128 := by cases c <;> rfl
theorem sel_bxor (c d : Bool) (x : Po) : sel (c ^^ d) x = sel c x ^^^ sel d x := by cases c <;> cases d <;> simp [sel]

theorem acc_xor (f g : Nat → Po) (n : Nat) : acc (fun i => f i ^^^ g i) n = acc f n ^^^ acc g n := by
  induction n with
  | zero => simp [acc]
  | succ n ih => simp only [acc]; rw [ih, po_swap]
theorem acc_congr {f g : Nat → Po} {n : Nat} (h : ∀ i, i < n → f i = g i) : acc f n = acc g n := by
  induction n with
  | zero => rfl
  | succ n ih => simp only [acc]; rw [ih fun i hi => h i (by omega), h n (by omega)]
theorem acc_zero (n : Nat) : acc (fun _ => 0#128) n = 0#128 := by
  induction n with
  | zero => rfl
  | succ n ih => simp only [acc]; rw [ih]; simp

/-- What goes through XOR. -/
structure Lin (L : Po → Po) : Prop where
  x : ∀ a b, L (a ^^^ b) = L a ^^^ L b
  z : L 0#128 = 0#128
theorem Lin.sel {L : Po → Po} (h : Lin L) (c : Bool) (a : Po) : L (sel c a) = YtobglgddbhddnaaGreat.sel c (L a) := by
  cases c
  · exact h.z
  · rfl
theorem Lin.acc {L : Po → Po} (h : Lin L) (f : Nat → Po) (n : Nat) : L (acc f n) = YtobglgddbhddnaaGreat.acc (fun i => L (f i)) n := by
  induction n with
  | zero => exact h.z
  | succ n ih => simp only [YtobglgddbhddnaaGreat.acc]; rw [h.x, ih]
theorem lin_tx : Lin tx := ⟨tx_xor, tx_zero⟩
theorem lin_txn (n : Nat) : Lin (txn n) := ⟨txn_xor n, txn_zero n⟩

theorem pr_xor_left (a a' b : Po) : pr (a ^^^ a') b = pr a b ^^^ pr a' b := by
  unfold pr
  rw [← acc_xor]
  refine acc_congr fun i _ => ?_
  rw [← sel_bxor, BitVec.getMsbD_xor]
theorem pr_xor_right (a b b' : Po) : pr a (b ^^^ b') = pr a b ^^^ pr a b' := by
  unfold pr
  rw [← acc_xor]
  refine acc_congr fun i _ => ?_
  rw [← sel_xor, txn_xor]
theorem pr_zero_left (b : Po) : pr 0#128 b = 0#128 := by
  unfold pr
  refine Eq.trans (acc_congr fun i _ => ?_) (acc_zero 128)
  rw [BitVec.getMsbD_zero]
  rfl
theorem pr_zero_right (a : Po) : pr a 0#128 = 0#128 := by
  unfold pr
  refine Eq.trans (acc_congr fun i _ => ?_) (acc_zero 128)
  rw [txn_zero, sel_zero]
theorem lin_left (b : Po) : Lin (fun a => pr a b) := ⟨fun a a' => pr_xor_left a a' b, pr_zero_left b⟩
theorem lin_right (a : Po) : Lin (pr a) := ⟨pr_xor_right a, pr_zero_right a⟩

/-! Powers of x are the bits. -/
theorem txn_one : ∀ i, i < 128 → txn i one = BitVec.twoPow 128 (127 - i) := by decide +kernel

theorem acc_bits (a : Po) (n : Nat) (hn : n ≤ 128) (j : Nat) (hj : j < 128) : (acc (fun i => sel (a.getMsbD i) (BitVec.twoPow 128 (127 - i))) n).getMsbD j = (decide (j < n) && a.getMsbD j) := by
  induction n with
  | zero => simp [acc]
  | succ n ih =>
    simp only [acc]
    rw [BitVec.getMsbD_xor, ih (by omega)]
    have e : (sel (a.getMsbD n) (BitVec.twoPow 128 (127 - n))).getMsbD j = (decide (j = n) && a.getMsbD n) := by
      cases hb : a.getMsbD n
      · simp [sel]
      · simp only [sel, if_true, BitVec.getMsbD, BitVec.getLsbD_twoPow, Bool.and_true]
        by_cases h : j = n
        · subst h; simp; omega
        · simp [h]; omega
    rw [e]
    by_cases h : j = n
    · subst h; simp
    · by_cases h2 : j < n
      · have h3 : j < n + 1 := by omega
        simp [h, h2, h3]
      · have h3 : ¬ j < n + 1 := by omega
        simp [h, h2, h3]

theorem pr_one (a : Po) : pr a one = a := by
  apply BitVec.eq_of_getMsbD_eq
  intro j hj
  have h := acc_bits a 128 (Nat.le_refl _) j hj
  have e : pr a one = acc (fun i => sel (a.getMsbD i) (BitVec.twoPow 128 (127 - i))) 128 := by
    unfold pr
    exact acc_congr fun i hi => by rw [txn_one i hi]
  rw [e, h]
  simp [hj]

theorem pr_txn (a b : Po) (n : Nat) : pr a (txn n b) = txn n (pr a b) := by
  unfold pr
  rw [(lin_txn n).acc]
  refine acc_congr fun i _ => ?_
  show _ = txn n (sel _ _)
  rw [(lin_txn n).sel, txn_add, txn_add, Nat.add_comm]

/-- Whatever goes through XOR, by the bits. -/
theorem Lin.bits {L : Po → Po} (h : Lin L) (a : Po) : L a = YtobglgddbhddnaaGreat.acc (fun i => YtobglgddbhddnaaGreat.sel (a.getMsbD i) (L (txn i one))) 128 := by
  have e : L a = L (pr a one) := by rw [pr_one]
  rw [e, pr, h.acc]
  exact acc_congr fun i _ => h.sel _ _
theorem Lin.eq {L M : Po → Po} (h : Lin L) (k : Lin M) (e : ∀ i, i < 128 → L (txn i one) = M (txn i one)) (a : Po) : L a = M a := by
  rw [h.bits, k.bits]
  exact acc_congr fun i hi => by rw [e i hi]

theorem pr_unit (i : Nat) (hi : i < 128) (b : Po) : pr (txn i one) b = txn i b := by
  have h : ∀ j, j < 128 → pr (txn i one) (txn j one) = txn i (txn j one) := by
    intro j hj
    rw [pr_txn, pr_one, txn_add, txn_add, Nat.add_comm]
  exact (lin_right _).eq (lin_txn i) h b

theorem pr_comm (a b : Po) : pr a b = pr b a := by
  refine (lin_left b).eq (lin_right b) (fun i hi => ?_) a
  show pr (txn i one) b = pr b (txn i one)
  rw [pr_unit i hi, pr_txn, pr_one]

theorem pr_txn_left (a b : Po) (n : Nat) : pr (txn n a) b = txn n (pr a b) := by rw [pr_comm, pr_txn, pr_comm]

theorem pr_assoc (a b c : Po) : pr (pr a b) c = pr a (pr b c) := by
  have h1 : Lin (fun a => pr (pr a b) c) := ⟨fun x y => by show pr (pr (x ^^^ y) b) c = _; rw [pr_xor_left, pr_xor_left], by show pr (pr _ b) c = _; rw [pr_zero_left, pr_zero_left]⟩
  refine h1.eq (lin_left (pr b c)) (fun i hi => ?_) a
  show pr (pr (txn i one) b) c = pr (txn i one) (pr b c)
  rw [pr_unit i hi, pr_unit i hi, pr_txn_left]

theorem pr_one_left (a : Po) : pr one a = a := by rw [pr_comm, pr_one]

/-! Squares. -/
def sqn : Nat → Po → Po
  | 0, a => a
  | n + 1, a => pr (sqn n a) (sqn n a)
theorem sq_xor (a b : Po) : pr (a ^^^ b) (a ^^^ b) = pr a a ^^^ pr b b := by
  rw [pr_xor_left, pr_xor_right, pr_xor_right, pr_comm b a, po_swap, BitVec.xor_comm (pr a b) (pr b b), po_swap, BitVec.xor_self, BitVec.xor_zero]
theorem sqn_xor (n : Nat) (a b : Po) : sqn n (a ^^^ b) = sqn n a ^^^ sqn n b := by
  induction n with
  | zero => rfl
  | succ n ih => simp only [sqn]; rw [ih, sq_xor]
theorem sqn_zero (n : Nat) : sqn n 0#128 = 0#128 := by
  induction n with
  | zero => rfl
  | succ n ih => simp only [sqn]; rw [ih, pr_zero_left]
theorem sqn_one (n : Nat) : sqn n one = one := by
  induction n with
  | zero => rfl
  | succ n ih => simp only [sqn]; rw [ih, pr_one]
theorem lin_sqn (n : Nat) : Lin (sqn n) := ⟨sqn_xor n, sqn_zero n⟩
theorem pr4 (a b c d : Po) : pr (pr a b) (pr c d) = pr (pr a c) (pr b d) := by
  rw [pr_assoc, ← pr_assoc b c d, pr_comm b c, pr_assoc c b d, ← pr_assoc]
theorem sqn_pr (n : Nat) (a b : Po) : sqn n (pr a b) = pr (sqn n a) (sqn n b) := by
  induction n with
  | zero => rfl
  | succ n ih => simp only [sqn]; rw [ih, pr4]
theorem sqn_x : sqn 128 (tx one) = tx one := by decide +kernel
theorem tx_pr (a : Po) : tx a = pr (tx one) a := by
  have := pr_unit 1 (by omega) a
  exact this.symm
theorem sqn128 (a : Po) : sqn 128 a = a := by
  refine (lin_sqn 128).eq (⟨fun _ _ => rfl, rfl⟩ : Lin fun a => a) (fun i hi => ?_) a
  show sqn 128 (txn i one) = txn i one
  clear hi
  induction i with
  | zero => exact sqn_one 128
  | succ i ih =>
    show sqn 128 (tx (txn i one)) = tx (txn i one)
    rw [tx_pr, sqn_pr, sqn_x, ih]

/-! What is its own square is nothing or one. -/
def lTb : List Nat := [0x10d04d25f93556e69f58ce2f8d035a94, 0x202f566ef59a994991d0e977a9aa5ba7, 0x602f566ef59a994991d0e977a9aa5ba7, 0x3045202cccefc1ee67fd0ac2e3641972,
  0x402f566ef59a994991d0e977a9aa5ba7, 0x5672e0c1d328e3be0d2c5beb59e57554, 0x2045202cccefc1ee67fd0ac2e3641972, 0x187f9b4b8cafcfaf8e88275824a90133,
  0x482f566ef59a994991d0e977a9aa5ba7, 0x22da13517461d3ee69739a8be16c1972, 0x5272e0c1d328e3be0d2c5beb59e57554, 0x6aff55603cd3fceff55228f556d54755,
  0x2245202cccefc1ee67fd0ac2e3641972, 0x46fc06025397fc91bb49eab33e4cf467, 0x197f9b4b8cafcfaf8e88275824a90133, 0x646dca2be3d6cc87d093e2fc4c0f4ad5,
  0x48af566ef59a994991d0e977a9aa5ba7, 0x5cea2fd59105659e2d1ccaeb5d2c7d54, 0x229a13517461d3ee69739a8be16c1972, 0x3f46a4c41f7d395874f4e33b9d331780,
  0x5252e0c1d328e3be0d2c5beb59e57554, 0x312701524d961730583bcf844c342240, 0x6aef55603cd3fceff55228f556d54755, 0x144559bb6c9ffcd7bc4c239cf48626f3,
  0x224d202cccefc1ee67fd0ac2e3641972, 0x1a24eaea541cab0f9092b01169688933, 0x46f806025397fc91bb49eab33e4cf467, 0x2c14dba71e26fe964f314b9433eb3eb2,
  0x197d9b4b8cafcfaf8e88275824a90133, 0x2561da58536a903fe562896ae4899333, 0x646cca2be3d6cc87d093e2fc4c0f4ad5, 0x41d77800d619af2838dab35b297373a6,
  0x48afd66ef59a994991d0e977a9aa5ba7, 0x5ce7c3e3968e47f62e5390ab45fe70d4, 0x5cea6fd59105659e2d1ccaeb5d2c7d54, 0x428019a11caacb8824c8241264b2fba6,
  0x229a33517461d3ee69739a8be16c1972, 0x258e6f54b84bf6f7ef54f70e70ef2ef3, 0x3f46b4c41f7d395874f4e33b9d331780, 0x1af0929921b9589f9fb368dce89d2373,
  0x5252e8c1d328e3be0d2c5beb59e57554, 0x3bdc8ad604f36599e246fae899f68fc1, 0x312705524d961730583bcf844c342240, 0x38e6217d7e479d8109554569546afc0,
  0x6aef57603cd3fceff55228f556d54755, 0x2bd77bb364ab6b3fc733d8875e039333, 0x144558bb6c9ffcd7bc4c239cf48626f3, 0x698e6217d7fb8627ef6aa903c013fa95,
  0x224d20acccefc1ee67fd0ac2e3641972, 0x21ce3a83c07704de74dad50f0d583b32, 0x1a24eaaa541cab0f9092b01169688933, 0x56f3167fe31312df9eb885b869165d55,
  0x46f806225397fc91bb49eab33e4cf467, 0x77dcb1c60e3ad1c9e2190477682adba7, 0x2c14dbb71e26fe964f314b9433eb3eb2, 0x7348a7e5645f92d076e747a9d181ec26,
  0x197d9b438cafcfaf8e88275824a90133, 0x2cfbb4409945161e45d21862e0409b32, 0x2561da5c536a903fe562896ae4899333, 0x36e717e02724b8f1d1527df73b8e8241,
  0x646cca29e3d6cc87d093e2fc4c0f4ad5, 0x7adc3b3404788e11d4cfd6f8f5447467, 0x41d77801d619af2838dab35b297373a6, 0x4a2ade42a1db559927495c4d4e62fc1,
  0x48afd66e759a994991d0e977a9aa5ba7, 0x329f337db88e12004e8e904902080000, 0x5ce7c3e3d68e47f62e5390ab45fe70d4, 0x36e9eb0be64d6b99d3ec2e5e502bb781,
  0x5cea6fd5b105659e2d1ccaeb5d2c7d54, 0x4622ba58b211bb21b69fb337b1785627, 0x428019a10caacb8824c8241264b2fba6, 0x49a065cd7758d5196f0e3578d383201,
  0x229a33517c61d3ee69739a8be16c1972, 0x55aabdbeec28a2078079924a4cd2f295, 0x258e6f54bc4bf6f7ef54f70e70ef2ef3, 0x7986f6afcfc951e9cb9188c1a5beebe7,
  0x3f46b4c41d7d395874f4e33b9d331780, 0x2f76850d57908a5e54a716d46cf0bb32, 0x1af0929920b9589f9fb368dce89d2373, 0x489a0b11781e0c1196cc4fdebc394c27,
  0x5252e8c1d3a8e3be0d2c5beb59e57554, 0x72ccff3fd3d186182e1ce9a41041041, 0x3bdc8ad604b36599e246fae899f68fc1, 0x5c33b52f8947e9462158188b7248d294,
  0x312705524db61730583bcf844c342240, 0x79880aa666d696d9c926622882fff1e7, 0x38e6217d7f479d8109554569546afc0, 0x285aabc679b16ad7d6c2852abfdb1eb3,
  0x6aef57603cdbfceff55228f556d54755, 0x26d44eb77ddd535ff0b1c738de72bb33, 0x2bd77bb364af6b3fc733d8875e039333, 0x3cfddc25f2ae2df86391fd8d3387a7c0,
  0x144558bb6c9dfcd7bc4c239cf48626f3, 0x457534e82f16f649aa2d862c91005ba7, 0x698e6217d7fa8627ef6aa903c013fa95, 0x4bf8b9d33b8f38198de17cdee54751e7,
  0x224d20acccef41ee67fd0ac2e3641972, 0x634efa836deeebf650dae654442b4894, 0x21ce3a83c07744de74dad50f0d583b32, 0x4bf6a9a1f02e1f698fec4b1a74166be7,
  0x1a24eaaa541c8b0f9092b01169688933, 0x6462e2cc93c28627d2d0526e0d66c2d5, 0x56f3167fe31302df9eb885b869165d55, 0x79b07befedd921e9cd751ec18ebeebe7,
  0x46f806225397f491bb49eab33e4cf467, 0x701c741cbd9fc8b06b94eadf79b8c426, 0x77dcb1c60e3ad5c9e2190477682adba7, 0x44eaa59bd8819a999287fa5ed58ad81,
  0x2c14dbb71e26fc964f314b9433eb3eb2, 0x602105ae977251e64834e0c2dd2d5a94, 0x7348a7e5645f93d076e747a9d181ec26, 0x645919a4b35879f7d7a68d71cb5770d5,
  0x197d9b438cafcf2f8e88275824a90133, 0xd94d9da18080030c4db699e5dc0, 0x2cfbb4409945165e45d21862e0409b32, 0x99a6e1cca2f8641a0b0910804c90841,
  0x2561da5c536a901fe562896ae4899333, 0x5f86cdbc744e28fe3430f49ddf071154, 0x36e717e02724b8e1d1527df73b8e8241, 0x51eae8be2fe60df61bf9191de1788d94,
  0x646cca29e3d6cc8fd093e2fc4c0f4ad5, 0x5f67891c31b7edb03c86875f90384d1c, 0x7adc3b3404788e15d4cfd6f8f5447467, 0x36dc3b3404788e15d4cfd6f8f5447461,
  0x41d77801d619af2a38dab35b297373a6, 0x35bd0e43ef6cf78dcef750ee63bd3171, 0x4a2ade42a1db558927495c4d4e62fc1, 0x0]
def ln (y : Po) : Po := acc (fun i => sel (y.getMsbD i) (BitVec.ofNat 128 (lTb.getD i 0))) 128
theorem lin_ln : Lin ln := by
  refine ⟨fun a b => ?_, ?_⟩
  · unfold ln
    rw [← acc_xor]
    refine acc_congr fun i _ => ?_
    rw [← sel_bxor, BitVec.getMsbD_xor]
  · unfold ln
    refine Eq.trans (acc_congr fun i _ => ?_) (acc_zero 128)
    rw [BitVec.getMsbD_zero]
    rfl
theorem ln_basis : ∀ i, i < 128 → ln (pr (BitVec.twoPow 128 (127 - i)) (BitVec.twoPow 128 (127 - i)) ^^^ BitVec.twoPow 128 (127 - i)) = if i = 0 then 0#128 else BitVec.twoPow 128 (127 - i) := by decide +kernel
theorem own_square {c : Po} (h : pr c c = c) : c = 0#128 ∨ c = one := by
  have l1 : Lin (fun c => ln (pr c c ^^^ c)) := ⟨fun a b => by show ln (pr (a ^^^ b) (a ^^^ b) ^^^ (a ^^^ b)) = _; rw [sq_xor, po_swap, lin_ln.x], by show ln (pr 0#128 0#128 ^^^ 0#128) = _; rw [pr_zero_left, BitVec.xor_self, lin_ln.z]⟩
  have l2 : Lin (fun c : Po => c ^^^ sel (c.getMsbD 0) one) := ⟨fun a b => by show a ^^^ b ^^^ sel ((a ^^^ b).getMsbD 0) one = _; rw [BitVec.getMsbD_xor, sel_bxor, po_swap], by show (0#128 ^^^ sel ((0#128 : Po).getMsbD 0) one : Po) = _; decide +kernel⟩
  have e : ∀ c : Po, ln (pr c c ^^^ c) = c ^^^ sel (c.getMsbD 0) one := by
    intro c
    refine l1.eq l2 (fun i hi => ?_) c
    show ln (pr (txn i one) (txn i one) ^^^ txn i one) = txn i one ^^^ sel ((txn i one).getMsbD 0) one
    rw [txn_one i hi, ln_basis i hi]
    by_cases h0 : i = 0
    · subst h0; decide +kernel
    · rw [if_neg h0]
      have : (BitVec.twoPow 128 (127 - i)).getMsbD 0 = false := by
        simp only [BitVec.getMsbD, BitVec.getLsbD_twoPow]
        simp; omega
      rw [this]
      simp [sel]
  have h1 := e c
  rw [h, BitVec.xor_self, lin_ln.z] at h1
  have h2 : c = sel (c.getMsbD 0) one := by
    have := congrArg (· ^^^ sel (c.getMsbD 0) one) h1
    simpa [BitVec.xor_assoc] using this.symm
  cases hb : c.getMsbD 0
  · rw [hb] at h2; exact .inl h2
  · rw [hb] at h2; exact .inr h2

/-! The products of a number's squares. -/
def prd (a : Po) : Nat → Po
  | 0 => one
  | n + 1 => pr (sqn n a) (prd a n)
theorem prd_times (a : Po) (n : Nat) : pr a (prd a n) = sqn n a := by
  induction n with
  | zero => exact pr_one a
  | succ n ih =>
    simp only [prd]
    rw [← pr_assoc, pr_comm a, pr_assoc, ih]
    rfl
theorem prd_sq (a : Po) (n : Nat) : prd a (n + 1) = pr a (pr (prd a n) (prd a n)) := by
  induction n with
  | zero =>
    show pr a one = pr a (pr one one)
    rw [pr_one one]
  | succ n ih =>
    show pr (sqn (n + 1) a) (prd a (n + 1)) = pr a (pr (pr (sqn n a) (prd a n)) (pr (sqn n a) (prd a n)))
    rw [ih, pr4 (sqn n a)]
    show pr (pr (sqn n a) (sqn n a)) (pr a _) = _
    generalize pr (sqn n a) (sqn n a) = S
    generalize pr (prd a n) (prd a n) = Q
    rw [← pr_assoc, pr_comm S a, pr_assoc]
theorem no_divisors {a b : Po} (h : pr a b = 0#128) : a = 0#128 ∨ b = 0#128 := by
  have h1 : pr a (prd a 128) = a := by rw [prd_times, sqn128]
  have h2 : prd a 128 = pr a (pr (prd a 127) (prd a 127)) := prd_sq a 127
  have h3 : pr (prd a 128) (prd a 128) = prd a 128 := by
    rw (occs := .pos [2]) [h2]
    rw [← pr_assoc, pr_comm (prd a 128) a, h1, ← h2]
  rcases own_square h3 with h4 | h4
  · rw [h4, pr_zero_right] at h1
    exact .inl h1.symm
  · right
    rw [h4] at h2
    have : pr b one = pr b (pr a (pr (prd a 127) (prd a 127))) := by rw [h2]
    rw [pr_one, ← pr_assoc, pr_comm b a, h, pr_zero_left] at this
    exact this
end Go.Proofs.YtobglgddbhddnaaGreat

namespace Go.Proofs.YtobglgddbhddnaaGreat
open Go.RowKit
set_option linter.unusedVariables false

set_option maxRecDepth 100000 in
set_option maxHeartbeats 4000000 in
theorem moved_any (P : Nat) (f : Nat → By) (w : World) (hP : Ar w P (ba 256 sbF)) : Calls Tryz.prog 78 #[.pointer (some ⟨P, 0, none⟩), .agg (ba 16 f)] w fun r w' => r = .returned (.agg (ba 16 (mv f))) ∧ Chg w w' := by
  have hsA := ba_size 16 f
  obtain ⟨A, hA⟩ : ∃ A, A = ba 16 f := ⟨_, rfl⟩
  have HA : Hid (A = ba 16 f) := hA
  have HP : Hid (Ar w P (ba 256 sbF)) := hP
  have hPl := hP.lt
  rw [← hA] at hsA ⊢
  clear hA hP
  have hz := zero32.1
  go_enter Tryz.func78, Tryz.ntmps78
  go_wp2_with fail
  obtain ⟨w3, hw3⟩ : ∃ w3, w3 = ((w.alloc (.cells A 62)).alloc (.cells (ba 16 zB) 62)).alloc (.cells (ba 16 zB) 62) := ⟨_, rfl⟩
  rw [← hw3]
  have z0 : Hid (Chg w w3 ∧ Ar w3 w.heap.size A ∧ Ar w3 (w.heap.size + 1) (ba 16 zB) ∧ Ar w3 (w.heap.size + 1 + 1) (ba 16 zB)) := by
    rw [hw3]
    exact ⟨(((Chg.refl w).alloc _).alloc _).alloc _, ((Ar.new w _ _).alloc _).alloc _, (Ar.new1 w _ _ _).alloc _, Ar.new2 w _ _ _ _⟩
  clear hw3
  go_loopw [8] (fun v wr => ∃ (c : Nat), v = .int .i64 c ∧ c ≤ 4 ∧ Chg w wr ∧ Ar wr w.heap.size (ba 16 f) ∧ Ar wr (w.heap.size + 1) (ba 16 zB) ∧ Ar wr (w.heap.size + 1 + 1) (ba 16 (upTo (4 * c) (mv f) zB))) (fun v wr => 4 - (intOf v).toNat)
  case atStart =>
    obtain ⟨z1, z2, z3, z4⟩ := z0.out
    rw [HA.out] at z2
    exact ⟨0, rfl, by omega, z1, z2, z3, by rw [Nat.mul_zero, upTo_zero]; exact z4⟩
  case round =>
    clear z0 hsA hz
    obtain ⟨c, rfl, hc, hch, h1, h2, h3⟩ := hrel
    have H : Hid (Chg w wr ∧ Ar wr w.heap.size (ba 16 f) ∧ Ar wr (w.heap.size + 1) (ba 16 zB) ∧ Ar wr (w.heap.size + 1 + 1) (ba 16 (upTo (4 * c) (mv f) zB))) := ⟨hch, h1, h2, h3⟩
    clear hch h1 h2 h3
    by_cases h4 : c < 4
    · have hd : decide ((c : Int) < 4) = true := by simp; omega
      have lc : (c : Int) < 4 := by omega
      obtain ⟨t, ht⟩ : ∃ t : Nat, 4 * (c : Int) = t := ⟨4 * c, by omega⟩
      have wt := wrap_i (x := (t : Int)) (by omega) (by omega)
      have HT : Hid (t = 4 * c) := by show t = _; omega
      go_wp2_with fail
      go_loopw [11] (fun v wq => ∃ (r : Nat), v = .int .i64 r ∧ r ≤ 4 ∧ Chg w wq ∧ Ar wq w.heap.size (ba 16 f) ∧ Ar wq (w.heap.size + 1) (ba 16 zB) ∧ Ar wq (w.heap.size + 1 + 1) (ba 16 (upTo (4 * c + r) (mv f) zB))) (fun v wq => 4 - (intOf v).toNat)
      case atStart => exact ⟨0, rfl, by omega, H.out⟩
      case round =>
        clear H
        obtain ⟨r, rfl, hr, hch, h1, h2, h3⟩ := hrel
        have H : Hid (Chg w wr ∧ Ar wr w.heap.size (ba 16 f) ∧ Ar wr (w.heap.size + 1) (ba 16 zB) ∧ Ar wr (w.heap.size + 1 + 1) (ba 16 (upTo (4 * c + r) (mv f) zB))) := ⟨hch, h1, h2, h3⟩
        by_cases hr4 : r < 4
        · have hdr : decide ((r : Int) < 4) = true := by simp; omega
          have lr : (r : Int) < 4 := by omega
          obtain ⟨tr, htr⟩ : ∃ tr : Nat, (t : Int) + r = tr := ⟨t + r, by omega⟩
          have wtr := wrap_i (x := (tr : Int)) (by omega) (by omega)
          obtain ⟨s, hs⟩ : ∃ s : Nat, (c : Int) + r = s := ⟨c + r, by omega⟩
          have ws := wrap_i (x := (s : Int)) (by omega) (by omega)
          obtain ⟨q, hq⟩ : ∃ q : Nat, q = s % 4 := ⟨_, rfl⟩
          have hmod : (s : Int).tmod 4 = q := by rw [Int.tmod_eq_emod_of_nonneg (by omega), hq]; rfl
          have wq' := wrap_i (x := (q : Int)) (by omega) (by omega)
          obtain ⟨q4, hq4⟩ : ∃ q4 : Nat, 4 * (q : Int) = q4 := ⟨4 * q, by omega⟩
          have wq4 := wrap_i (x := (q4 : Int)) (by omega) (by omega)
          obtain ⟨j, hj⟩ : ∃ j : Nat, (q4 : Int) + r = j := ⟨q4 + r, by omega⟩
          have wj := wrap_i (x := (j : Int)) (by omega) (by omega)
          have lj : j < 16 := by omega
          have lj' : (j : Int) < 16 := by omega
          have ltr : tr < 16 := by have := HT.out; omega
          have ltr' : (tr : Int) < 16 := by omega
          have c1 := (h1.cell j).trans (ba_get 16 _ lj)
          have c2 := box_cell (HP.out.chg hch) (f j)
          have c3 := (h3.cell tr).trans (ba_get 16 _ ltr)
          have f3 := h3.frozen tr
          obtain ⟨x3, hx3⟩ : ∃ x, x = upTo (4 * c + r) (mv f) zB tr := ⟨_, rfl⟩
          rw [← hx3] at c3
          have HX : Hid (mv f (4 * c + r) = sb (f j)) := by
            show mv f (4 * c + r) = _
            have e : 4 * (((4 * c + r) / 4 + (4 * c + r) % 4) % 4) + (4 * c + r) % 4 = j := by omega
            rw [mv, e]
          have HTR : Hid (tr = 4 * c + r) := by have := HT.out; show tr = _; omega
          obtain ⟨y, hy⟩ : ∃ y, y = sb (f j) := ⟨_, rfl⟩
          obtain ⟨X, hX⟩ : ∃ X, X = (f j).toNat := ⟨_, rfl⟩
          have lX : X < 256 := by rw [hX]; exact (f j).isLt
          rw [← hX] at c1 c2
          rw [← hy] at c2
          have lX' : (X : Int) < 256 := by omega
          have HY : Hid (sb (f j) = y) := hy.symm
          clear hX hy hch h1 h2 h3 hq hx3
          go_wp2_with fail
          go_region_with (fail)
          all_goals go_wp2
          all_goals
            go_roundw
            case rel =>
              obtain ⟨k0, k1, k2, k3⟩ := H.out
              refine ⟨r + 1, by go_num, by omega, (k0.setCell (by dsimp only; omega) _).drew, (k1.other (by dsimp only; omega) _).drew, (k2.other (by dsimp only; omega) _).drew, ?_⟩
              have hh := k3.set tr (.int .u8 (y.toNat : Int))
              rw [ba_set, HTR.out, ← HY.out, ← HX.out, upTo_upd (4 * c + r) (mv f) zB] at hh
              rw [← HY.out, ← HX.out, HTR.out]
              exact hh.drew
            case measure => simp [intOf]; omega
        · have : r = 4 := by omega
          subst this
          clear hch h1 h2 h3
          go_wp2
          go_roundw
          case rel =>
            have e : 4 * c + 4 = 4 * (c + 1) := by omega
            rw [e] at H
            exact ⟨c + 1, by go_num, by omega, H.out⟩
          case measure => simp [intOf]; omega
    · have : c = 4 := by omega
      subst this
      obtain ⟨k0, k1, k2, k3⟩ := H.out
      rw [upTo_all] at k3
      obtain ⟨g, hg⟩ : ∃ g, g = mv f := ⟨_, rfl⟩
      rw [← hg] at k3
      have HG : Hid (g = mv f) := hg
      clear hg
      have K2 : Hid (Ar wr (w.heap.size + 1) (ba 16 zB)) := k2
      obtain ⟨t1, g1⟩ := k3
      obtain ⟨t3, g3⟩ := k2
      have hsz := szB g zero32.2
      have hlen := lenB 16 zB g
      have hone := ba_one 16 g
      have K0 : Hid (Chg w wr) := k0
      clear k0 k1 H
      go_wp2_with (first | refine wpList_load_row rfl 62 _ rfl _ rfl _ _ _ _ g1 und32 rfl hsz ?_ | refine wpList_store_row rfl 62 _ _ rfl _ _ rfl rfl _ _ g3 hsz hlen hone ?_)
      refine bp_c (n := 16) (c := ba 16 g) Tryz.results78 rfl rfl ?_ und32 i32 (ba_size _ _) ⟨by rw [HG.out], ?_⟩
      · exact K2.out.row _
      · exact K0.out.setRow (by omega) _
end Go.Proofs.YtobglgddbhddnaaGreat

namespace Go.Proofs.YtobglgddbhddnaaGreat
open Go.RowKit
set_option linter.unusedVariables false

theorem mixp0 (a0 a1 a2 a3 : By) : a0 ^^^ a1 ^^^ a2 ^^^ a3 ^^^ a0 ^^^ dbl (a0 ^^^ a1) = mx a0 a1 a2 a3 := by
  rw [dbl_xor]
  unfold mx
  generalize dbl a0 = c0
  generalize dbl a1 = c1
  simp only [BitVec.xor_assoc, BitVec.xor_comm, xor_left, xor_cancel]
theorem mixp1 (a0 a1 a2 a3 : By) : a0 ^^^ a1 ^^^ a2 ^^^ a3 ^^^ a1 ^^^ dbl (a1 ^^^ a2) = mx a1 a2 a3 a0 := by
  rw [← mixp0 a1 a2 a3 a0]
  simp only [BitVec.xor_assoc, BitVec.xor_comm, xor_left]
theorem mixp2 (a0 a1 a2 a3 : By) : a0 ^^^ a1 ^^^ a2 ^^^ a3 ^^^ a2 ^^^ dbl (a2 ^^^ a3) = mx a2 a3 a0 a1 := by
  rw [← mixp0 a2 a3 a0 a1]
  simp only [BitVec.xor_assoc, BitVec.xor_comm, xor_left]
theorem mixp3 (a0 a1 a2 a3 : By) : a0 ^^^ a1 ^^^ a2 ^^^ a3 ^^^ a3 ^^^ dbl (a3 ^^^ a0) = mx a3 a0 a1 a2 := by
  rw [← mixp0 a3 a0 a1 a2]
  simp only [BitVec.xor_assoc, BitVec.xor_comm, xor_left]

theorem nameXor (x y : By) : ∃ z : By, Hid (z = x ^^^ y) ∧ Go.bits .xor .u8 (x.toNat : Int) (y.toNat : Int) = (z.toNat : Int) := ⟨_, rfl, xorB x y⟩

/-- What stands while the columns are mixed. -/
def Mid4 (w wr : World) (f : Nat → By) (k : Nat) : Prop := Chg w wr ∧ Ar wr w.heap.size (ba 16 f) ∧ Ar wr (w.heap.size + 1) (ba 16 zB) ∧ Ar wr (w.heap.size + 1 + 1) (ba 16 (upTo k (mc f) zB))
theorem Mid4.drewN {w wr : World} {f : Nat → By} {k : Nat} (h : Mid4 w wr f k) (n : Nat) : Mid4 w (wr.drewN n) f k := ⟨h.1.drewN n, h.2.1, h.2.2.1, h.2.2.2⟩
theorem Mid4.step {w wr : World} {f : Nat → By} {k t : Nat} {o : By} (h : Mid4 w wr f k) (ht : t = k) (ho : o = mc f k) : Mid4 w (wr.setCell ⟨w.heap.size + 1 + 1, t, none⟩ (.int .u8 (o.toNat : Int))) f (k + 1) := by
  subst ht
  refine ⟨h.1.setCell (by dsimp only; omega) _, h.2.1.other (by dsimp only; omega) _, h.2.2.1.other (by dsimp only; omega) _, ?_⟩
  have := h.2.2.2.set t (.int .u8 (o.toNat : Int))
  rw [ba_set, ho, upTo_upd t (mc f) zB] at this
  rw [ho]
  exact this
theorem Mid4.cell {w wr : World} {f : Nat → By} {k t : Nat} (h : Mid4 w wr f k) (ht : t < 16) : ∃ v, wr.cell? ⟨w.heap.size + 1 + 1, t, none⟩ = some v ∧ wr.frozen? ⟨w.heap.size + 1 + 1, t, none⟩ = false :=
  ⟨_, (h.2.2.2.cell t).trans (ba_get 16 _ ht), h.2.2.2.frozen t⟩

set_option maxRecDepth 100000 in
set_option maxHeartbeats 4000000 in
theorem mixed_any (f : Nat → By) (w : World) : Calls Tryz.prog 77 #[.agg (ba 16 f)] w fun r w' => r = .returned (.agg (ba 16 (mc f))) ∧ Chg w w' := by
  have hsA := ba_size 16 f
  obtain ⟨A, hA⟩ : ∃ A, A = ba 16 f := ⟨_, rfl⟩
  have HA : Hid (A = ba 16 f) := hA
  rw [← hA] at hsA ⊢
  clear hA
  have hz := zero32.1
  go_enter Tryz.func77, Tryz.ntmps77
  go_wp2_with fail
  obtain ⟨w3, hw3⟩ : ∃ w3, w3 = ((w.alloc (.cells A 62)).alloc (.cells (ba 16 zB) 62)).alloc (.cells (ba 16 zB) 62) := ⟨_, rfl⟩
  rw [← hw3]
  have z0 : Hid (Chg w w3 ∧ Ar w3 w.heap.size A ∧ Ar w3 (w.heap.size + 1) (ba 16 zB) ∧ Ar w3 (w.heap.size + 1 + 1) (ba 16 zB)) := by
    rw [hw3]
    exact ⟨(((Chg.refl w).alloc _).alloc _).alloc _, ((Ar.new w _ _).alloc _).alloc _, (Ar.new1 w _ _ _).alloc _, Ar.new2 w _ _ _ _⟩
  clear hw3
  go_loopw [10] (fun v wr => ∃ (c : Nat), v = .int .i64 c ∧ c ≤ 4 ∧ Mid4 w wr f (4 * c)) (fun v wr => 4 - (intOf v).toNat)
  case atStart =>
    obtain ⟨z1, z2, z3, z4⟩ := z0.out
    rw [HA.out] at z2
    exact ⟨0, rfl, by omega, z1, z2, z3, by rw [Nat.mul_zero, upTo_zero]; exact z4⟩
  case round =>
    clear z0 hsA hz
    obtain ⟨c, rfl, hc, hm⟩ := hrel
    have H : Hid (Mid4 w wr f (4 * c)) := hm
    obtain ⟨-, h1, h2, h3⟩ := hm
    by_cases h4 : c < 4
    · have hd : decide ((c : Int) < 4) = true := by simp; omega
      have lc : (c : Int) < 4 := by omega
      obtain ⟨t, ht⟩ : ∃ t : Nat, 4 * (c : Int) = t := ⟨4 * c, by omega⟩
      obtain ⟨t1, ht1⟩ : ∃ t1 : Nat, (t : Int) + 1 = t1 := ⟨t + 1, by omega⟩
      obtain ⟨t2, ht2⟩ : ∃ t2 : Nat, (t : Int) + 2 = t2 := ⟨t + 2, by omega⟩
      obtain ⟨t3, ht3⟩ : ∃ t3 : Nat, (t : Int) + 3 = t3 := ⟨t + 3, by omega⟩
      have wt := wrap_i (x := (t : Int)) (by omega) (by omega)
      have wt1 := wrap_i (x := (t1 : Int)) (by omega) (by omega)
      have wt2 := wrap_i (x := (t2 : Int)) (by omega) (by omega)
      have wt3 := wrap_i (x := (t3 : Int)) (by omega) (by omega)
      have lt0 : (t : Int) < 16 := by omega
      have lt1 : (t1 : Int) < 16 := by omega
      have lt2 : (t2 : Int) < 16 := by omega
      have lt3 : (t3 : Int) < 16 := by omega
      have HT : Hid (t = 4 * c ∧ t1 = 4 * c + 1 ∧ t2 = 4 * c + 2 ∧ t3 = 4 * c + 3) := by show _ ∧ _ ∧ _ ∧ _; omega
      have c0 := (h1.cell t).trans (ba_get 16 _ (by omega))
      have c1 := (h1.cell t1).trans (ba_get 16 _ (by omega))
      have c2 := (h1.cell t2).trans (ba_get 16 _ (by omega))
      have c3 := (h1.cell t3).trans (ba_get 16 _ (by omega))
      obtain ⟨x0, hx0⟩ : ∃ x, x = f t := ⟨_, rfl⟩
      obtain ⟨x1, hx1⟩ : ∃ x, x = f t1 := ⟨_, rfl⟩
      obtain ⟨x2, hx2⟩ : ∃ x, x = f t2 := ⟨_, rfl⟩
      obtain ⟨x3, hx3⟩ : ∃ x, x = f t3 := ⟨_, rfl⟩
      rw [← hx0] at c0
      rw [← hx1] at c1
      rw [← hx2] at c2
      rw [← hx3] at c3
      have HX : Hid (x0 = f (4 * c) ∧ x1 = f (4 * c + 1) ∧ x2 = f (4 * c + 2) ∧ x3 = f (4 * c + 3)) := by
        obtain ⟨e0, e1, e2, e3⟩ := HT.out
        exact ⟨by rw [hx0, e0], by rw [hx1, e1], by rw [hx2, e2], by rw [hx3, e3]⟩
      obtain ⟨s1, Hs1, es1⟩ := nameXor x0 x1
      obtain ⟨s2, Hs2, es2⟩ := nameXor s1 x2
      obtain ⟨S, HS, eS⟩ := nameXor s2 x3
      obtain ⟨p0, Hp0, ep0⟩ := nameXor S x0
      obtain ⟨p1, Hp1, ep1⟩ := nameXor S x1
      obtain ⟨p2, Hp2, ep2⟩ := nameXor S x2
      obtain ⟨p3, Hp3, ep3⟩ := nameXor S x3
      obtain ⟨d1, Hd1, ed1⟩ := nameXor x1 x2
      obtain ⟨d2, Hd2, ed2⟩ := nameXor x2 x3
      obtain ⟨d3, Hd3, ed3⟩ := nameXor x3 x0
      obtain ⟨D0, hD0⟩ : ∃ D, D = dbl s1 := ⟨_, rfl⟩
      obtain ⟨D1, hD1⟩ : ∃ D, D = dbl d1 := ⟨_, rfl⟩
      obtain ⟨D2, hD2⟩ : ∃ D, D = dbl d2 := ⟨_, rfl⟩
      obtain ⟨D3, hD3⟩ : ∃ D, D = dbl d3 := ⟨_, rfl⟩
      have HD : Hid (D0 = dbl s1 ∧ D1 = dbl d1 ∧ D2 = dbl d2 ∧ D3 = dbl d3) := ⟨hD0, hD1, hD2, hD3⟩
      obtain ⟨o0, Ho0, eo0⟩ := nameXor p0 D0
      obtain ⟨o1, Ho1, eo1⟩ := nameXor p1 D1
      obtain ⟨o2, Ho2, eo2⟩ := nameXor p2 D2
      obtain ⟨o3, Ho3, eo3⟩ := nameXor p3 D3
      have HO : Hid (o0 = mc f (4 * c) ∧ o1 = mc f (4 * c + 1) ∧ o2 = mc f (4 * c + 2) ∧ o3 = mc f (4 * c + 3)) := by
        obtain ⟨q0, q1, q2, q3⟩ := HX.out
        obtain ⟨r0, r1, r2, r3⟩ := HD.out
        have m0 := mc_mx f c 0 (by omega)
        have m1 := mc_mx f c 1 (by omega)
        have m2 := mc_mx f c 2 (by omega)
        have m3 := mc_mx f c 3 (by omega)
        simp only [Nat.reduceAdd, Nat.reduceMod, Nat.add_zero, ← q0, ← q1, ← q2, ← q3] at m0 m1 m2 m3
        show _ ∧ _ ∧ _ ∧ _
        rw [m0, m1, m2, m3, Ho0.out, Ho1.out, Ho2.out, Ho3.out, r0, r1, r2, r3, Hp0.out, Hp1.out, Hp2.out, Hp3.out, HS.out, Hd1.out, Hd2.out, Hd3.out, Hs2.out, Hs1.out]
        exact ⟨mixp0 _ _ _ _, mixp1 _ _ _ _, mixp2 _ _ _ _, mixp3 _ _ _ _⟩
      have k0 := (h3.cell t).trans (ba_get 16 _ (by omega))
      have f0 := h3.frozen t
      have HC : Hid ((∀ u, Calls Tryz.prog 74 #[.int .u8 (s1.toNat : Int)] u fun r w' => r = .returned (.int .u8 (D0.toNat : Int)) ∧ w' = u) ∧ (∀ u, Calls Tryz.prog 74 #[.int .u8 (d1.toNat : Int)] u fun r w' => r = .returned (.int .u8 (D1.toNat : Int)) ∧ w' = u) ∧ (∀ u, Calls Tryz.prog 74 #[.int .u8 (d2.toNat : Int)] u fun r w' => r = .returned (.int .u8 (D2.toNat : Int)) ∧ w' = u) ∧ (∀ u, Calls Tryz.prog 74 #[.int .u8 (d3.toNat : Int)] u fun r w' => r = .returned (.int .u8 (D3.toNat : Int)) ∧ w' = u)) := by
        rw [hD0, hD1, hD2, hD3]
        exact ⟨double_any s1, double_any d1, double_any d2, double_any d3⟩
      clear hx0 hx1 hx2 hx3 h1 h2 h3 hD0 hD1 hD2 hD3
      go_wp2_with fail
      go_quiet (fail)
      go_wp2_with fail
      go_at_call 74
      refine (HC.out.1 _).mono ?_
      rintro r u ⟨rfl, hu⟩
      rw [hu]
      clear hu u
      go_wp2_with fail
      obtain ⟨w4, hw4⟩ : ∃ w4, w4 = (wr.drewN nq).setCell ⟨w.heap.size + 1 + 1, t, none⟩ (.int .u8 (o0.toNat : Int)) := ⟨_, rfl⟩
      have M4 : Hid (Mid4 w w4 f (4 * c + 1)) := by rw [hw4]; exact (H.out.drewN nq).step HT.out.1 HO.out.1
      rw [← hw4]
      clear hw4
      obtain ⟨v1, k1, f1⟩ := M4.out.cell (t := t1) (by omega)
      go_at_call 74
      refine (HC.out.2.1 _).mono ?_
      rintro r u ⟨rfl, hu⟩
      rw [hu]
      clear hu u
      go_wp2_with fail
      obtain ⟨w5, hw5⟩ : ∃ w5, w5 = w4.setCell ⟨w.heap.size + 1 + 1, t1, none⟩ (.int .u8 (o1.toNat : Int)) := ⟨_, rfl⟩
      have M5 : Hid (Mid4 w w5 f (4 * c + 2)) := by rw [hw5]; exact M4.out.step HT.out.2.1 HO.out.2.1
      rw [← hw5]
      clear hw5 k1 f1
      obtain ⟨v2, k2, f2⟩ := M5.out.cell (t := t2) (by omega)
      go_at_call 74
      refine (HC.out.2.2.1 _).mono ?_
      rintro r u ⟨rfl, hu⟩
      rw [hu]
      clear hu u
      go_wp2_with fail
      obtain ⟨w6, hw6⟩ : ∃ w6, w6 = w5.setCell ⟨w.heap.size + 1 + 1, t2, none⟩ (.int .u8 (o2.toNat : Int)) := ⟨_, rfl⟩
      have M6 : Hid (Mid4 w w6 f (4 * c + 3)) := by rw [hw6]; exact M5.out.step HT.out.2.2.1 HO.out.2.2.1
      rw [← hw6]
      clear hw6 k2 f2
      obtain ⟨v3, k3, f3⟩ := M6.out.cell (t := t3) (by omega)
      go_at_call 74
      refine (HC.out.2.2.2 _).mono ?_
      rintro r u ⟨rfl, hu⟩
      rw [hu]
      clear hu u
      go_wp2_with fail
      go_roundw
      case rel =>
        have := M6.out.step HT.out.2.2.2 HO.out.2.2.2
        have e : 4 * c + 3 + 1 = 4 * (c + 1) := by omega
        rw [e] at this
        exact ⟨c + 1, by go_num, by omega, this⟩
      case measure => simp [intOf]; omega
    · have : c = 4 := by omega
      subst this
      obtain ⟨k0, k1, k2, k3⟩ := H.out
      rw [upTo_all] at k3
      obtain ⟨g, hg⟩ : ∃ g, g = mc f := ⟨_, rfl⟩
      rw [← hg] at k3
      have HG : Hid (g = mc f) := hg
      clear hg h1 h2 h3
      have K2 : Hid (Ar wr (w.heap.size + 1) (ba 16 zB)) := k2
      obtain ⟨t1, g1⟩ := k3
      obtain ⟨t3, g3⟩ := k2
      have hsz := szB g zero32.2
      have hlen := lenB 16 zB g
      have hone := ba_one 16 g
      have K0 : Hid (Chg w wr) := k0
      clear k0 k1 H
      go_wp2_with (first | refine wpList_load_row rfl 62 _ rfl _ rfl _ _ _ _ g1 und32 rfl hsz ?_ | refine wpList_store_row rfl 62 _ _ rfl _ _ rfl rfl _ _ g3 hsz hlen hone ?_)
      refine bp_c (n := 16) (c := ba 16 g) Tryz.results77 rfl rfl ?_ und32 i32 (ba_size _ _) ⟨by rw [HG.out], ?_⟩
      · exact K2.out.row _
      · exact K0.out.setRow (by omega) _
end Go.Proofs.YtobglgddbhddnaaGreat
