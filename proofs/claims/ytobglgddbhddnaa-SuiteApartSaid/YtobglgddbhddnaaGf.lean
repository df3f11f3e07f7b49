/-
  Polynomials over two values modulo x^128 + x^7 + x^2 + x + 1, as plain words of 128 bits: products may be turned round and grouped otherwise, share out over XOR, and come to nothing only where one of both is nothing.
-/
namespace Go.Proofs.Ytobglgddbhddnaa
set_option linter.unusedVariables false

abbrev Po := BitVec 128

/-- Times x. -/
def tx (p : Po) : Po := (p >>> 1) ^^^ (if p.getLsbD 0 then 0xe1000000000000000000000000000000#128 else 0#128)
def txn : Nat → Po → Po
  | 0, b => b
  | n + 1, b => tx (txn n b)
def sel (c : Bool) (x : Po) : Po := if c then x else 0#128
def acc (f : Nat → Po) : Nat → Po
  | 0 => 0#128
  | n + 1 => acc f n ^^^ f n
/-- The product. -/
def pr (a b : Po) : Po := acc (fun i => sel (a.getMsbD i) (txn i b)) 128
def one : Po := 0x80000000000000000000000000000000#128

theorem po_left (x y z : Po) : x ^^^ (y ^^^ z) = y ^^^ (x ^^^ z) := by rw [← BitVec.xor_assoc, BitVec.xor_comm x y, BitVec.xor_assoc]
theorem po_cancel (x y : Po) : x ^^^ (x ^^^ y) = y := by rw [← BitVec.xor_assoc, BitVec.xor_self, BitVec.zero_xor]
theorem po_swap (a b c d : Po) : (a ^^^ b) ^^^ (c ^^^ d) = (a ^^^ c) ^^^ (b ^^^ d) := by rw [BitVec.xor_assoc, po_left b c d, ← BitVec.xor_assoc]

theorem tx_xor (x y : Po) : tx (x ^^^ y) = tx x ^^^ tx y := by
  unfold tx
  rw [BitVec.ushiftRight_xor_distrib, BitVec.getLsbD_xor]
  cases x.getLsbD 0 <;> cases y.getLsbD 0 <;> simp [BitVec.xor_assoc, BitVec.xor_comm, po_left]
theorem tx_zero : tx 0#128 = 0#128 := by decide +kernel
theorem txn_xor (n : Nat) (x y : Po) : txn n (x ^^^ y) = txn n x ^^^ txn n y := by
  induction n with
  | zero => rfl
  | succ n ih => simp only [txn]; rw [ih, tx_xor]
theorem txn_zero (n : Nat) : txn n 0#128 = 0#128 := by
  induction n with
  | zero => rfl
  | succ n ih => simp only [txn]; rw [ih, tx_zero]
theorem txn_add (m n : Nat) (x : Po) : txn m (txn n x) = txn (m + n) x := by
  induction m with
  | zero => rw [Nat.zero_add]; rfl
  | succ m ih => rw [show m + 1 + n = (m + n) + 1 by omega]; simp only [txn]; rw [ih]
theorem txn_tx (n : Nat) (x : Po) : txn n (tx x) = tx (txn n x) := by
  have h1 := txn_add n 1 x
  have h2 := txn_add 1 n x
  rw [Nat.add_comm n 1, ← h2] at h1
  exact h1

theorem sel_xor (c : Bool) (x y : Po) : sel c (x ^^^ y) = sel c x ^^^ sel c y := by cases c <;> simp [sel]
theorem sel_zero (c : Bool) : sel c 0#128 = 0#128 := by cases c <;> rfl
theorem sel_bxor (c d : Bool) (x : Po) : sel (c ^^ d) x = sel c x ^^^ sel d x := by cases c <;> cases d <;> simp [sel]

theorem acc_xor (f g : Nat → Po) (n : Nat) : acc (fun i => f i ^^^ g i) n = acc f n ^^^ acc g n := by
  induction n with
  | zero => simp [acc]
  | succ n ih => simp only [acc]; rw [ih, po_swap]
theorem acc_congr {f g : Nat → Po} {n : Nat} (h : ∀ i, i < n → f i = g i) : acc f n = acc g n := by
  induction n with
  | zero => rfl
  | succ n ih => simp only [acc]; rw [ih fun i hi => h i (by omega), h n (by omega)]
theorem acc_zero (n : Nat) : acc (fun _ => 0#128) n = 0#128 := by
  induction n with
  | zero => rfl
  | succ n ih => simp only [acc]; rw [ih]; simp

/-- What goes through XOR. -/
structure Lin (L : Po → Po) : Prop where
  x : ∀ a b, L (a ^^^ b) = L a ^^^ L b
  z : L 0#128 = 0#128
theorem Lin.sel {L : Po → Po} (h : Lin L) (c : Bool) (a : Po) : L (sel c a) = Ytobglgddbhddnaa.sel c (L a) := by
  cases c
  · exact h.z
  · rfl
theorem Lin.acc {L : Po → Po} (h : Lin L) (f : Nat → Po) (n : Nat) : L (acc f n) = Ytobglgddbhddnaa.acc (fun i => L (f i)) n := by
  induction n with
  | zero => exact h.z
  | succ n ih => simp only [Ytobglgddbhddnaa.acc]; rw [h.x, ih]
theorem lin_tx : Lin tx := ⟨tx_xor, tx_zero⟩
theorem lin_txn (n : Nat) : Lin (txn n) := ⟨txn_xor n, txn_zero n⟩

theorem pr_xor_left (a a' b : Po) : pr (a ^^^ a') b = pr a b ^^^ pr a' b := by
  unfold pr
  rw [← acc_xor]
  refine acc_congr fun i _ => ?_
  rw [← sel_bxor, BitVec.getMsbD_xor]
theorem pr_xor_right (a b b' : Po) : pr a (b ^^^ b') = pr a b ^^^ pr a b' := by
  unfold pr
  rw [← acc_xor]
  refine acc_congr fun i _ => ?_
  rw [← sel_xor, txn_xor]
theorem pr_zero_left (b : Po) : pr 0#128 b = 0#128 := by
  unfold pr
  refine Eq.trans (acc_congr fun i _ => ?_) (acc_zero 128)
  rw [BitVec.getMsbD_zero]
  rfl
theorem pr_zero_right (a : Po) : pr a 0#128 = 0#128 := by
  unfold pr
  refine Eq.trans (acc_congr fun i _ => ?_) (acc_zero 128)
  rw [txn_zero, sel_zero]
theorem lin_left (b : Po) : Lin (fun a => pr a b) := ⟨fun a a' => pr_xor_left a a' b, pr_zero_left b⟩
theorem lin_right (a : Po) : Lin (pr a) := ⟨pr_xor_right a, pr_zero_right a⟩

/-! Powers of x are the bits. -/
theorem txn_one : ∀ i, i < 128 → txn i one = BitVec.twoPow 128 (127 - i) := by decide +kernel

theorem acc_bits (a : Po) (n : Nat) (hn : n ≤ 128) (j : Nat) (hj : j < 128) : (acc (fun i => sel (a.getMsbD i) (BitVec.twoPow 128 (127 - i))) n).getMsbD j = (decide (j < n) && a.getMsbD j) := by
  induction n with
  | zero => simp [acc]
  | succ n ih =>
    simp only [acc]
    rw [BitVec.getMsbD_xor, ih (by omega)]
    have e : (sel (a.getMsbD n) (BitVec.twoPow 128 (127 - n))).getMsbD j = (decide (j = n) && a.getMsbD n) := by
      cases hb : a.getMsbD n
      · simp [sel]
      · simp only [sel, if_true, BitVec.getMsbD, BitVec.getLsbD_twoPow, Bool.and_true]
        by_cases h : j = n
        · subst h; simp; omega
        · simp [h]; omega
    rw [e]
    by_cases h : j = n
    · subst h; simp
    · by_cases h2 : j < n
      · have h3 : j < n + 1 := by omega
        simp [h, h2, h3]
      · have h3 : ¬ j < n + 1 := by omega
        simp [h, h2, h3]

theorem pr_one (a : Po) : pr a one = a := by
  apply BitVec.eq_of_getMsbD_eq
  intro j hj
  have h := acc_bits a 128 (Nat.le_refl _) j hj
  have e : pr a one = acc (fun i => sel (a.getMsbD i) (BitVec.twoPow 128 (127 - i))) 128 := by
    unfold pr
    exact acc_congr fun i hi => by rw [txn_one i hi]
  rw [e, h]
  simp [hj]

theorem pr_txn (a b : Po) (n : Nat) : pr a (txn n b) = txn n (pr a b) := by
  unfold pr
  rw [(lin_txn n).acc]
  refine acc_congr fun i _ => ?_
  show _ = txn n (sel _ _)
  rw [(lin_txn n).sel, txn_add, txn_add, Nat.add_comm]

/-- Whatever goes through XOR, by the bits. -/
theorem Lin.bits {L : Po → Po} (h : Lin L) (a : Po) : L a = Ytobglgddbhddnaa.acc (fun i => Ytobglgddbhddnaa.sel (a.getMsbD i) (L (txn i one))) 128 := by
  have e : L a = L (pr a one) := by rw [pr_one]
  rw [e, pr, h.acc]
  exact acc_congr fun i _ => h.sel _ _
theorem Lin.eq {L M : Po → Po} (h : Lin L) (k : Lin M) (e : ∀ i, i < 128 → L (txn i one) = M (txn i one)) (a : Po) : L a = M a := by
  rw [h.bits, k.bits]
  exact acc_congr fun i hi => by rw [e i hi]

theorem pr_unit (i : Nat) (hi : i < 128) (b : Po) : pr (txn i one) b = txn i b := by
  have h : ∀ j, j < 128 → pr (txn i one) (txn j one) = txn i (txn j one) := by
    intro j hj
    rw [pr_txn, pr_one, txn_add, txn_add, Nat.add_comm]
  exact (lin_right _).eq (lin_txn i) h b

theorem pr_comm (a b : Po) : pr a b = pr b a := by
  refine (lin_left b).eq (lin_right b) (fun i hi => ?_) a
  show pr (txn i one) b = pr b (txn i one)
  rw [pr_unit i hi, pr_txn, pr_one]

theorem pr_txn_left (a b : Po) (n : Nat) : pr (txn n a) b = txn n (pr a b) := by rw [pr_comm, pr_txn, pr_comm]

theorem pr_assoc (a b c : Po) : pr (pr a b) c = pr a (pr b c) := by
  have h1 : Lin (fun a => pr (pr a b) c) := ⟨fun x y => by show pr (pr (x ^^^ y) b) c = _; rw [pr_xor_left, pr_xor_left], by show pr (pr _ b) c = _; rw [pr_zero_left, pr_zero_left]⟩
  refine h1.eq (lin_left (pr b c)) (fun i hi => ?_) a
  show pr (pr (txn i one) b) c = pr (txn i one) (pr b c)
  rw [pr_unit i hi, pr_unit i hi, pr_txn_left]

theorem pr_one_left (a : Po) : pr one a = a := by rw [pr_comm, pr_one]

/-! Squares. -/
def sqn : Nat → Po → Po
  | 0, a => a
  | n + 1, a => pr (sqn n a) (sqn n a)
theorem sq_xor (a b : Po) : pr (a ^^^ b) (a ^^^ b) = pr a a ^^^ pr b b := by
  rw [pr_xor_left, pr_xor_right, pr_xor_right, pr_comm b a, po_swap, BitVec.xor_comm (pr a b) (pr b b), po_swap, BitVec.xor_self, BitVec.xor_zero]
theorem sqn_xor (n : Nat) (a b : Po) : sqn n (a ^^^ b) = sqn n a ^^^ sqn n b := by
  induction n with
  | zero => rfl
  | succ n ih => simp only [sqn]; rw [ih, sq_xor]
theorem sqn_zero (n : Nat) : sqn n 0#128 = 0#128 := by
  induction n with
  | zero => rfl
  | succ n ih => simp only [sqn]; rw [ih, pr_zero_left]
theorem sqn_one (n : Nat) : sqn n one = one := by
  induction n with
  | zero => rfl
  | succ n ih => simp only [sqn]; rw [ih, pr_one]
theorem lin_sqn (n : Nat) : Lin (sqn n) := ⟨sqn_xor n, sqn_zero n⟩
theorem pr4 (a b c d : Po) : pr (pr a b) (pr c d) = pr (pr a c) (pr b d) := by
  rw [pr_assoc, ← pr_assoc b c d, pr_comm b c, pr_assoc c b d, ← pr_assoc]
theorem sqn_pr (n : Nat) (a b : Po) : sqn n (pr a b) = pr (sqn n a) (sqn n b) := by
  induction n with
  | zero => rfl
  | succ n ih => simp only [sqn]; rw [ih, pr4]
theorem sqn_x : sqn 128 (tx one) = tx one := by decide +kernel
theorem tx_pr (a : Po) : tx a = pr (tx one) a := by
  have := pr_unit 1 (by omega) a
  exact this.symm
theorem sqn128 (a : Po) : sqn 128 a = a := by
  refine (lin_sqn 128).eq (⟨fun _ _ => rfl, rfl⟩ : Lin fun a => a) (fun i hi => ?_) a
  show sqn 128 (txn i one) = txn i one
  clear hi
  induction i with
  | zero => exact sqn_one 128
  | succ i ih =>
    show sqn 128 (tx (txn i one)) = tx (txn i one)
    rw [tx_pr, sqn_pr, sqn_x, ih]

/-! What is its own square is nothing or one. -/
def lTb : List Nat := [0x10d04d25f93556e69f58ce2f8d035a94, 0x202f566ef59a994991d0e977a9aa5ba7, 0x602f566ef59a994991d0e977a9aa5ba7, 0x3045202cccefc1ee67fd0ac2e3641972,
  0x402f566ef59a994991d0e977a9aa5ba7, 0x5672e0c1d328e3be0d2c5beb59e57554, 0x2045202cccefc1ee67fd0ac2e3641972, 0x187f9b4b8cafcfaf8e88275824a90133,
  0x482f566ef59a994991d0e977a9aa5ba7, 0x22da13517461d3ee69739a8be16c1972, 0x5272e0c1d328e3be0d2c5beb59e57554, 0x6aff55603cd3fceff55228f556d54755,
  0x2245202cccefc1ee67fd0ac2e3641972, 0x46fc06025397fc91bb49eab33e4cf467, 0x197f9b4b8cafcfaf8e88275824a90133, 0x646dca2be3d6cc87d093e2fc4c0f4ad5,
  0x48af566ef59a994991d0e977a9aa5ba7, 0x5cea2fd59105659e2d1ccaeb5d2c7d54, 0x229a13517461d3ee69739a8be16c1972, 0x3f46a4c41f7d395874f4e33b9d331780,
  0x5252e0c1d328e3be0d2c5beb59e57554, 0x312701524d961730583bcf844c342240, 0x6aef55603cd3fceff55228f556d54755, 0x144559bb6c9ffcd7bc4c239cf48626f3,
  0x224d202cccefc1ee67fd0ac2e3641972, 0x1a24eaea541cab0f9092b01169688933, 0x46f806025397fc91bb49eab33e4cf467, 0x2c14dba71e26fe964f314b9433eb3eb2,
  0x197d9b4b8cafcfaf8e88275824a90133, 0x2561da58536a903fe562896ae4899333, 0x646cca2be3d6cc87d093e2fc4c0f4ad5, 0x41d77800d619af2838dab35b297373a6,
  0x48afd66ef59a994991d0e977a9aa5ba7, 0x5ce7c3e3968e47f62e5390ab45fe70d4, 0x5cea6fd59105659e2d1ccaeb5d2c7d54, 0x428019a11caacb8824c8241264b2fba6,
  0x229a33517461d3ee69739a8be16c1972, 0x258e6f54b84bf6f7ef54f70e70ef2ef3, 0x3f46b4c41f7d395874f4e33b9d331780, 0x1af0929921b9589f9fb368dce89d2373,
  0x5252e8c1d328e3be0d2c5beb59e57554, 0x3bdc8ad604f36599e246fae899f68fc1, 0x312705524d961730583bcf844c342240, 0x38e6217d7e479d8109554569546afc0,
  0x6aef57603cd3fceff55228f556d54755, 0x2bd77bb364ab6b3fc733d8875e039333, 0x144558bb6c9ffcd7bc4c239cf48626f3, 0x698e6217d7fb8627ef6aa903c013fa95,
  0x224d20acccefc1ee67fd0ac2e3641972, 0x21ce3a83c07704de74dad50f0d583b32, 0x1a24eaaa541cab0f9092b01169688933, 0x56f3167fe31312df9eb885b869165d55,
  0x46f806225397fc91bb49eab33e4cf467, 0x77dcb1c60e3ad1c9e2190477682adba7, 0x2c14dbb71e26fe964f314b9433eb3eb2, 0x7348a7e5645f92d076e747a9d181ec26,
  0x197d9b438cafcfaf8e88275824a90133, 0x2cfbb4409945161e45d21862e0409b32, 0x2561da5c536a903fe562896ae4899333, 0x36e717e02724b8f1d1527df73b8e8241,
  0x646cca29e3d6cc87d093e2fc4c0f4ad5, 0x7adc3b3404788e11d4cfd6f8f5447467, 0x41d77801d619af2838dab35b297373a6, 0x4a2ade42a1db559927495c4d4e62fc1,
  0x48afd66e759a994991d0e977a9aa5ba7, 0x329f337db88e12004e8e904902080000, 0x5ce7c3e3d68e47f62e5390ab45fe70d4, 0x36e9eb0be64d6b99d3ec2e5e502bb781,
  0x5cea6fd5b105659e2d1ccaeb5d2c7d54, 0x4622ba58b211bb21b69fb337b1785627, 0x428019a10caacb8824c8241264b2fba6, 0x49a065cd7758d5196f0e3578d383201,
  0x229a33517c61d3ee69739a8be16c1972, 0x55aabdbeec28a2078079924a4cd2f295, 0x258e6f54bc4bf6f7ef54f70e70ef2ef3, 0x7986f6afcfc951e9cb9188c1a5beebe7,
  0x3f46b4c41d7d395874f4e33b9d331780, 0x2f76850d57908a5e54a716d46cf0bb32, 0x1af0929920b9589f9fb368dce89d2373, 0x489a0b11781e0c1196cc4fdebc394c27,
  0x5252e8c1d3a8e3be0d2c5beb59e57554, 0x72ccff3fd3d186182e1ce9a41041041, 0x3bdc8ad604b36599e246fae899f68fc1, 0x5c33b52f8947e9462158188b7248d294,
  0x312705524db61730583bcf844c342240, 0x79880aa666d696d9c926622882fff1e7, 0x38e6217d7f479d8109554569546afc0, 0x285aabc679b16ad7d6c2852abfdb1eb3,
  0x6aef57603cdbfceff55228f556d54755, 0x26d44eb77ddd535ff0b1c738de72bb33, 0x2bd77bb364af6b3fc733d8875e039333, 0x3cfddc25f2ae2df86391fd8d3387a7c0,
  0x144558bb6c9dfcd7bc4c239cf48626f3, 0x457534e82f16f649aa2d862c91005ba7, 0x698e6217d7fa8627ef6aa903c013fa95, 0x4bf8b9d33b8f38198de17cdee54751e7,
  0x224d20acccef41ee67fd0ac2e3641972, 0x634efa836deeebf650dae654442b4894, 0x21ce3a83c07744de74dad50f0d583b32, 0x4bf6a9a1f02e1f698fec4b1a74166be7,
  0x1a24eaaa541c8b0f9092b01169688933, 0x6462e2cc93c28627d2d0526e0d66c2d5, 0x56f3167fe31302df9eb885b869165d55, 0x79b07befedd921e9cd751ec18ebeebe7,
  0x46f806225397f491bb49eab33e4cf467, 0x701c741cbd9fc8b06b94eadf79b8c426, 0x77dcb1c60e3ad5c9e2190477682adba7, 0x44eaa59bd8819a999287fa5ed58ad81,
  0x2c14dbb71e26fc964f314b9433eb3eb2, 0x602105ae977251e64834e0c2dd2d5a94, 0x7348a7e5645f93d076e747a9d181ec26, 0x645919a4b35879f7d7a68d71cb5770d5,
  0x197d9b438cafcf2f8e88275824a90133, 0xd94d9da18080030c4db699e5dc0, 0x2cfbb4409945165e45d21862e0409b32, 0x99a6e1cca2f8641a0b0910804c90841,
  0x2561da5c536a901fe562896ae4899333, 0x5f86cdbc744e28fe3430f49ddf071154, 0x36e717e02724b8e1d1527df73b8e8241, 0x51eae8be2fe60df61bf9191de1788d94,
  0x646cca29e3d6cc8fd093e2fc4c0f4ad5, 0x5f67891c31b7edb03c86875f90384d1c, 0x7adc3b3404788e15d4cfd6f8f5447467, 0x36dc3b3404788e15d4cfd6f8f5447461,
  0x41d77801d619af2a38dab35b297373a6, 0x35bd0e43ef6cf78dcef750ee63bd3171, 0x4a2ade42a1db558927495c4d4e62fc1, 0x0]
def ln (y : Po) : Po := acc (fun i => sel (y.getMsbD i) (BitVec.ofNat 128 (lTb.getD i 0))) 128
theorem lin_ln : Lin ln := by
  refine ⟨fun a b => ?_, ?_⟩
  · unfold ln
    rw [← acc_xor]
    refine acc_congr fun i _ => ?_
    rw [← sel_bxor, BitVec.getMsbD_xor]
  · unfold ln
    refine Eq.trans (acc_congr fun i _ => ?_) (acc_zero 128)
    rw [BitVec.getMsbD_zero]
    rfl
theorem ln_basis : ∀ i, i < 128 → ln (pr (BitVec.twoPow 128 (127 - i)) (BitVec.twoPow 128 (127 - i)) ^^^ BitVec.twoPow 128 (127 - i)) = if i = 0 then 0#128 else BitVec.twoPow 128 (127 - i) := by decide +kernel
theorem own_square {c : Po} (h : pr c c = c) : c = 0#128 ∨ c = one := by
  have l1 : Lin (fun c => ln (pr c c ^^^ c)) := ⟨fun a b => by show ln (pr (a ^^^ b) (a ^^^ b) ^^^ (a ^^^ b)) = _; rw [sq_xor, po_swap, lin_ln.x], by show ln (pr 0#128 0#128 ^^^ 0#128) = _; rw [pr_zero_left, BitVec.xor_self, lin_ln.z]⟩
  have l2 : Lin (fun c : Po => c ^^^ sel (c.getMsbD 0) one) := ⟨fun a b => by show a ^^^ b ^^^ sel ((a ^^^ b).getMsbD 0) one = _; rw [BitVec.getMsbD_xor, sel_bxor, po_swap], by show (0#128 ^^^ sel ((0#128 : Po).getMsbD 0) one : Po) = _; decide +kernel⟩
  have e : ∀ c : Po, ln (pr c c ^^^ c) = c ^^^ sel (c.getMsbD 0) one := by
    intro c
    refine l1.eq l2 (fun i hi => ?_) c
    show ln (pr (txn i one) (txn i one) ^^^ txn i one) = txn i one ^^^ sel ((txn i one).getMsbD 0) one
    rw [txn_one i hi, ln_basis i hi]
    by_cases h0 : i = 0
    · subst h0; decide +kernel
    · rw [if_neg h0]
      have : (BitVec.twoPow 128 (127 - i)).getMsbD 0 = false := by
        simp only [BitVec.getMsbD, BitVec.getLsbD_twoPow]
        simp; omega
      rw [this]
      simp [sel]
  have h1 := e c
  rw [h, BitVec.xor_self, lin_ln.z] at h1
  have h2 : c = sel (c.getMsbD 0) one := by
    have := congrArg (· ^^^ sel (c.getMsbD 0) one) h1
    simpa [BitVec.xor_assoc] using this.symm
  cases hb : c.getMsbD 0
  · rw [hb] at h2; exact .inl h2
  · rw [hb] at h2; exact .inr h2

/-! The products of a number's squares. -/
def prd (a : Po) : Nat → Po
  | 0 => one
  | n + 1 => pr (sqn n a) (prd a n)
theorem prd_times (a : Po) (n : Nat) : pr a (prd a n) = sqn n a := by
  induction n with
  | zero => exact pr_one a
  | succ n ih =>
    simp only [prd]
    rw [← pr_assoc, pr_comm a, pr_assoc, ih]
    rfl
theorem prd_sq (a : Po) (n : Nat) : prd a (n + 1) = pr a (pr (prd a n) (prd a n)) := by
  induction n with
  | zero =>
    show pr a one = pr a (pr one one)
    rw [pr_one one]
  | succ n ih =>
    show pr (sqn (n + 1) a) (prd a (n + 1)) = pr a (pr (pr (sqn n a) (prd a n)) (pr (sqn n a) (prd a n)))
    rw [ih, pr4 (sqn n a)]
    show pr (pr (sqn n a) (sqn n a)) (pr a _) = _
    generalize pr (sqn n a) (sqn n a) = S
    generalize pr (prd a n) (prd a n) = Q
    rw [← pr_assoc, pr_comm S a, pr_assoc]
theorem no_divisors {a b : Po} (h : pr a b = 0#128) : a = 0#128 ∨ b = 0#128 := by
  have h1 : pr a (prd a 128) = a := by rw [prd_times, sqn128]
  have h2 : prd a 128 = pr a (pr (prd a 127) (prd a 127)) := prd_sq a 127
  have h3 : pr (prd a 128) (prd a 128) = prd a 128 := by
    rw (occs := .pos [2]) [h2]
    rw [← pr_assoc, pr_comm (prd a 128) a, h1, ← h2]
  rcases own_square h3 with h4 | h4
  · rw [h4, pr_zero_right] at h1
    exact .inl h1.symm
  · right
    rw [h4] at h2
    have : pr b one = pr b (pr a (pr (prd a 127) (prd a 127))) := by rw [h2]
    rw [pr_one, ← pr_assoc, pr_comm b a, h, pr_zero_left] at this
    exact this
end Go.Proofs.Ytobglgddbhddnaa
