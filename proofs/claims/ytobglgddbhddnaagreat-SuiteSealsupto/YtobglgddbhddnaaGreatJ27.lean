/-
  What a tag is of: bytes filled up, lengths.
  The tag of what is locked up; what is locked up: the functions tagOf and Seal.
  What is locked up: Seal. Texts held against each other: Same.
  What a lock opens: Open.
-/
import Derived.Test.YtobglgddbhddnaaGreatJ25
import Derived.Test.YtobglgddbhddnaaGreatJ26
namespace Go.Proofs.YtobglgddbhddnaaGreat.Cha
open Go.RowKit
set_option linter.unusedVariables false

theorem zero22 : (∀ w, (zeroValue 40).run Tryz.prog w = .ok (.agg (ba 32 zB)) w) ∧ (Tryz.prog.info? 40).map (·.size) = some 32 := zero_of_info (by kernel_rfl)
def padN (n : Nat) : Nat := (16 - n % 16) % 16
def filL (xs : List Int) : List Int := xs ++ List.replicate (padN xs.length) 0
def lenL (n k : Nat) : List Int := (List.range k).map fun i => ((n / 256 ^ i % 256 : Nat) : Int)
def tgL (xs ys : List Int) : List Int := filL (filL xs ++ ys) ++ lenL xs.length 8 ++ lenL ys.length 8
theorem filL_len (xs : List Int) : (filL xs).length = xs.length + padN xs.length := by simp [filL]
theorem lenL_len (n k : Nat) : (lenL n k).length = k := by simp [lenL]
theorem lenL_succ (n k : Nat) : lenL n (k + 1) = lenL n k ++ [((n / 256 ^ k % 256 : Nat) : Int)] := by simp [lenL, List.range_succ]
theorem padN_lt (n : Nat) : padN n < 16 := Nat.mod_lt _ (by decide)
theorem tgL_len (xs ys : List Int) : (tgL xs ys).length ≤ xs.length + ys.length + 48 := by
  unfold tgL
  simp only [List.length_append, filL_len, lenL_len]
  have h1 := padN_lt xs.length
  have h2 := padN_lt (xs.length + padN xs.length + ys.length)
  omega
def Bt (xs : List Int) : Prop := ∀ x ∈ xs, 0 ≤ x ∧ x < 256
theorem Bt.app {xs ys : List Int} (h : Bt xs) (k : Bt ys) : Bt (xs ++ ys) := fun x hx => by
  rcases List.mem_append.1 hx with h1 | h1
  · exact h x h1
  · exact k x h1
theorem Bt.nums (n : Nat) (f : Nat → By) : Bt (nums n f) := fun x hx => by
  unfold YtobglgddbhddnaaGreat.nums at hx
  simp only [List.mem_map, List.mem_range] at hx
  obtain ⟨i, _, rfl⟩ := hx
  have := (f i).isLt
  omega
theorem Bt.fil {xs : List Int} (h : Bt xs) : Bt (filL xs) := h.app fun x hx => by
  have := (List.mem_replicate.1 hx).2
  omega
theorem Bt.len (n k : Nat) : Bt (lenL n k) := fun x hx => by
  unfold lenL at hx
  simp only [List.mem_map, List.mem_range] at hx
  obtain ⟨i, _, rfl⟩ := hx
  have := Nat.mod_lt (n / 256 ^ i) (show 0 < 256 by decide)
  omega
theorem Bt.tg {xs ys : List Int} (h : Bt xs) (k : Bt ys) : Bt (tgL xs ys) := (((h.fil.app k).fil).app (Bt.len _ _)).app (Bt.len _ _)
def fList (xs : List Int) : Nat → By := fun i => BitVec.ofNat 8 (xs.getD i 0).toNat
theorem fList_nums {xs : List Int} (h : Bt xs) : nums xs.length (fList xs) = xs := by
  apply List.ext_getElem?
  intro j
  by_cases hj : j < xs.length
  · rw [nums_get _ _ hj, List.getElem?_eq_getElem hj]
    have h1 := h xs[j] (List.getElem_mem hj)
    have e : xs.getD j 0 = xs[j] := by simp [List.getD_eq_getElem?_getD, List.getElem?_eq_getElem hj]
    unfold fList
    rw [e, BitVec.toNat_ofNat]
    congr 1
    omega
  · rw [List.getElem?_eq_none (by rw [nums_len]; omega), List.getElem?_eq_none (by omega)]
/-- The tag of what is locked up. -/
def tagF (key nonce : Nat → By) (xs ys : List Int) : Nat → By := polF (blk key 0#32 nonce) (fList (tgL xs ys)) (tgL xs ys).length
/-- What a text became, and the tag. -/
def sealL (key nonce : Nat → By) (xs : List Int) (n : Nat) (txt : Nat → By) : List Int := nums n (stF key 1#32 nonce txt) ++ nums 16 (tagF key nonce xs (nums n (stF key 1#32 nonce txt)))

theorem mkCap (c : Nat) (hc : c ≤ 140737488351232) (w : World) : (Instr.makeSlice 24 (.int .i64 0) (.int .i64 c)).run Tryz.prog w = .ok (.slice (some ⟨w.heap.size, 0, none⟩) 0 c) (w.alloc (.cells (ba c zB) 5)) := by
  have hi : (Tryz.prog.info? 5).map (fun i => (i.zero, i.size, i.bytes)) = some (some (.int .u8 0), 1, 1) := by kernel_rfl
  cases hq : Tryz.prog.info? 5 with
  | none => rw [hq] at hi; cases hi
  | some i =>
    rw [hq] at hi
    have hi := Option.some.inj hi
    have h1 : i.zero = some (.int .u8 0) := congrArg (·.1) hi
    have h2 : i.size = 1 := congrArg (·.2.1) hi
    have h3 : i.bytes = 1 := congrArg (·.2.2) hi
    have := run_make (P := Tryz.prog) w 24 5 i _ u22 hq h1 .i64 .i64 0 c (by omega) (by omega) (by rw [h3]; omega) (by omega)
    rw [this, h2]
    have e : madeCells (Value.int .u8 0).cells ((c : Int).toNat * 1) = ba c zB := by
      apply Array.ext_getElem?
      intro j
      by_cases hj : j < c
      · simp [madeCells, ba, arr, zB, Value.cells, hj, Nat.mod_one]
      · simp [madeCells, ba, arr, zB, Value.cells, hj]
    rw [e]
    simp
theorem ownCap (c : Nat) (hc : c ≤ 140737488351232) (u : World) : Ap.OwnV (u.alloc (.cells (ba c zB) 5)) (.slice (some ⟨u.heap.size, 0, none⟩) 0 c) [] :=
  .inr ⟨_, _, _, _, rfl, rfl, Nat.zero_le _, by unfold maxLen; omega, ba c zB, heap_alloc_last u _, by rw [ba_size]; omega, by simp⟩

def padOf : Value → Nat
  | .slice _ n _ => padN n
  | _ => 0

set_option maxRecDepth 100000 in
set_option maxHeartbeats 4000000 in
theorem filled_any (v : Value) (xs : List Int) (w u : World) (h : OwnN w u v xs) (hb : xs.length ≤ 140737488351232) :
    Calls Tryz.prog 65 #[v] u fun r w' => ∃ v', r = .returned v' ∧ OwnN w w' v' (filL xs) := by
  have HX : Hid (xs.length ≤ 140737488351232) := hb
  obtain ⟨ao, n, c, rfl, hn, -⟩ := h.own.rd.shape
  have H : Hid (OwnN w u (.slice ao n c) (xs ++ List.replicate 0 0) ∧ n = xs.length) := ⟨by simpa using h, hn⟩
  clear h hn hb
  go_enter Tryz.func65, Tryz.ntmps65
  go_wp2_with fail
  go_loopw [0] (fun v wr => ∃ (k : Nat), k ≤ padN xs.length ∧ OwnN w wr v (xs ++ List.replicate k 0)) (fun v wr => padOf v)
  case atStart => exact ⟨0, by omega, H.out.1⟩
  case round =>
    obtain ⟨k, hk, ho⟩ := hrel
    obtain ⟨a2, m, c2, rfl, hm, -⟩ := ho.own.rd.shape
    rw [List.length_append, List.length_replicate] at hm
    have Z : Hid (OwnN w wr (.slice a2 m c2) (xs ++ List.replicate k 0)) := ho
    have HM : Hid (m = xs.length + k) := hm
    have hx := HX.out
    have hp := padN_lt xs.length
    obtain ⟨q, hq⟩ : ∃ q : Nat, (m : Int).tmod 16 = q := ⟨m % 16, by rw [Int.tmod_eq_emod_of_nonneg (by omega)]; omega⟩
    have hq' : q = m % 16 := by rw [Int.tmod_eq_emod_of_nonneg (by omega)] at hq; omega
    have wq := wrap_i (x := (q : Int)) (by omega) (by omega)
    have HQ : Hid (q = m % 16) := hq'
    by_cases hlt : k < padN xs.length
    · have hq0 : ((q : Int) != 0) = true := by
        have : ¬ q = 0 := by unfold padN at hlt hp; omega
        simp
        omega
      have Zo : Hid (OwnN w (wr.alloc (.cells #[.int .u8 0] 5)) (.slice a2 m c2) (xs ++ List.replicate k 0)) := Z.out.alloc _
      have hl : (xs ++ List.replicate k 0).length + [(0 : Int)].length ≤ 140737488355328 := by simp; omega
      have HK : Hid (k < padN xs.length) := hlt
      clear ho hm hq' hx hp hk hlt
      go_wp2_with (at_builtin; refine Ap.wpList_app _ rfl _ _ rfl (.slice a2 m c2) (.slice (some ⟨wr.heap.size, 0, none⟩) 1 1) (xs ++ List.replicate k 0) [(0 : Int)] rfl rfl Zo.out.own (Ap.Rd.one wr 0) hl ?_)
      intro v2 w9 o2 k2 b2
      have k3 := Zo.out.more o2 k2 (by first | exact b2 | (rw [World.size_alloc]; exact b2))
      have Z9 : Hid (OwnN w w9 v2 (xs ++ List.replicate (k + 1) 0)) := by
        show OwnN w w9 v2 (xs ++ List.replicate (k + 1) 0)
        rw [List.replicate_succ']
        first
          | exact k3
          | (rw [← List.append_assoc]; exact k3)
      obtain ⟨a3, m3, c3, rfl, hm3, -⟩ := o2.rd.shape
      have HM3 : Hid (m3 = m + 1) := by
        have h1 := HM.out
        show m3 = m + 1
        simp only [List.length_append, List.length_replicate, List.length_cons, List.length_nil] at hm3
        omega
      clear o2 k2 b2 k3 hm3
      go_wp2_with fail
      go_roundw
      case rel => exact ⟨k + 1, HK.out, Z9.out⟩
      case measure =>
        have h1 := HM3.out
        have h2 := HM.out
        have h3 := HK.out
        simp only [padOf]
        unfold padN at h3 ⊢
        omega
    · have hq0 : ((q : Int) != 0) = false := by
        have : q = 0 := by unfold padN at hlt hp hk; omega
        simp
        omega
      have HK : Hid (k = padN xs.length) := by show k = _; omega
      clear ho hm hq' hx hp hk hlt
      go_wp2
      go_ret
      refine ⟨_, rfl, ?_⟩
      unfold filL
      rw [← HK.out]
      exact Z.out
theorem nmLen (n i : Nat) : ∃ b : By, Hid ((b.toNat : Int) = ((n / 256 ^ i % 256 : Nat) : Int)) ∧ IntKind.u8.wrap ((n : Int) / 2 ^ (8 * i)) = (b.toNat : Int) := by
  have h : (n : Int) / 2 ^ (8 * i) % 256 = ((n / 256 ^ i % 256 : Nat) : Int) := by
    have e : (2 : Int) ^ (8 * i) = ((256 ^ i : Nat) : Int) := by rw [Int.pow_mul, Int.natCast_pow]; rfl
    rw [e]
    simp
  obtain ⟨b, hb⟩ := nmI (x := (n : Int) / 2 ^ (8 * i) % 256) (by omega) (by omega)
  exact ⟨b, by show (b.toNat : Int) = _; rw [hb, h], by rw [IntKind.wrap_u8, hb]⟩

set_option maxRecDepth 100000 in
set_option maxHeartbeats 4000000 in
theorem withLength_any (v : Value) (xs : List Int) (n : Nat) (w u : World) (h : OwnN w u v xs) (hb : xs.length ≤ 140737488351232) (hn : n ≤ 140737488351232) :
    Calls Tryz.prog 66 #[v, .int .i64 (n : Int)] u fun r w' => ∃ v', r = .returned v' ∧ OwnN w w' v' (xs ++ lenL n 8) := by
  have HX : Hid (xs.length ≤ 140737488351232) := hb
  obtain ⟨ao, m, c, rfl, hm, -⟩ := h.own.rd.shape
  have H : Hid (OwnN w u (.slice ao m c) (xs ++ lenL n 0)) := by show OwnN w u (.slice ao m c) (xs ++ lenL n 0); simpa [lenL] using h
  have wn : IntKind.u64.wrap (n : Int) = n := wrap_u (by omega) (by omega)
  clear h hm hb
  go_enter Tryz.func66, Tryz.ntmps66
  go_wp2_with fail
  go_loopw [0, 6] (fun v v6 wr => ∃ (i : Nat), v6 = .int .i64 i ∧ i ≤ 8 ∧ OwnN w wr v (xs ++ lenL n i)) (fun v v6 wr => 8 - (intOf v6).toNat)
  case atStart => exact ⟨0, rfl, by omega, H.out⟩
  case round =>
    obtain ⟨i, rfl, hi, ho⟩ := hrel
    obtain ⟨a2, m2, c2, rfl, -⟩ := ho.own.rd.shape
    have Z : Hid (OwnN w wr (.slice a2 m2 c2) (xs ++ lenL n i)) := ho
    by_cases hlt : i < 8
    · have hd : decide ((i : Int) < 8) = true := by simp; omega
      obtain ⟨s, hs⟩ : ∃ s : Nat, 8 * (i : Int) = s := ⟨8 * i, by omega⟩
      have ws := wrap_i (x := (s : Int)) (by omega) (by omega)
      have ls : (s : Int) < 64 := by omega
      have ls' : s < 64 := by omega
      obtain ⟨b, Hb, eb⟩ := nmLen n i
      rw [show 8 * i = s by omega] at eb
      have mb : (n : Int) / 2 ^ s % 256 = (b.toNat : Int) := by rw [← eb, IntKind.wrap_u8]
      have Zo : Hid (OwnN w (wr.alloc (.cells #[.int .u8 (b.toNat : Int)] 5)) (.slice a2 m2 c2) (xs ++ lenL n i)) := Z.out.alloc _
      have hl : (xs ++ lenL n i).length + [(b.toNat : Int)].length ≤ 140737488355328 := by
        have := HX.out
        rw [List.length_append, lenL_len]
        simp
        omega
      clear ho
      go_wp2_with (at_builtin; refine Ap.wpList_app _ rfl _ _ rfl (.slice a2 m2 c2) (.slice (some ⟨wr.heap.size, 0, none⟩) 1 1) (xs ++ lenL n i) [(b.toNat : Int)] rfl rfl Zo.out.own (Ap.Rd.one wr (b.toNat : Int)) hl ?_)
      intro v2 w9 o2 k2 b2
      have k3 := Zo.out.more o2 k2 (by first | exact b2 | (rw [World.size_alloc]; exact b2))
      have Z9 : Hid (OwnN w w9 v2 (xs ++ lenL n (i + 1))) := by
        show OwnN w w9 v2 (xs ++ lenL n (i + 1))
        rw [lenL_succ, ← Hb.out]
        first
          | exact k3
          | (rw [← List.append_assoc]; exact k3)
      obtain ⟨a3, m3, c3, rfl, -⟩ := o2.rd.shape
      clear o2 k2 b2 k3
      go_wp2_with fail
      go_roundw
      case rel => exact ⟨i + 1, by go_num, by omega, Z9.out⟩
      case measure => simp [intOf]; omega
    · have : i = 8 := by omega
      subst this
      clear ho
      go_wp2
      go_ret
      exact ⟨_, rfl, Z.out⟩

theorem over_all (n : Nat) (B : Nat → By) : ba n (over 0 n B zB) = ba n B := ba_congr fun i hi => by
  unfold over
  rw [if_pos (by omega), Nat.sub_zero]
theorem _root_.Go.Proofs.YtobglgddbhddnaaGreat.OwnN.rdOf {w u : World} {v : Value} {xs ys : List Int} (h : OwnN w u v xs) {s : Value} (hs : Ap.Rd w s ys) : Ap.Rd u s ys := Rd.chg hs h.chg

set_option maxRecDepth 100000 in
set_option maxHeartbeats 8000000 in
theorem tagOf_any (key nonce : Nat → By) (ao bo : Option Addr) (na ca nb cb : Nat) (xs ys : List Int) (w : World) (hx : Ap.Rd w (.slice ao na ca) xs) (hy : Ap.Rd w (.slice bo nb cb) ys) (hxb : Bt xs) (hyb : Bt ys) (hxl : xs.length ≤ 8388608) (hyl : ys.length ≤ 8388608) :
    Calls Tryz.prog 47 #[.agg (ba 32 key), .agg (ba 12 nonce), .slice ao na ca, .slice bo nb cb] w fun r w' => r = .returned (.agg (ba 16 (tagF key nonce xs ys))) ∧ Chg w w' := by
  have hna : na = xs.length := by obtain ⟨_, _, _, e, e1, _⟩ := hx.shape; injection e with _ e2 _; omega
  have hnb : nb = ys.length := by obtain ⟨_, _, _, e, e1, _⟩ := hy.shape; injection e with _ e2 _; omega
  obtain ⟨A, hA⟩ : ∃ A, A = ba 32 key := ⟨_, rfl⟩
  obtain ⟨D, hD⟩ : ∃ D, D = ba 12 nonce := ⟨_, rfl⟩
  have hsA : A.size = 32 := by rw [hA]; exact ba_size _ _
  have hsD : D.size = 12 := by rw [hD]; exact ba_size _ _
  have HSA : Hid ((Tryz.prog.info? 40).map (·.size) = some A.size ∧ (Tryz.prog.info? 25).map (·.size) = some D.size) := ⟨by rw [hA]; exact szB key i22, by rw [hD]; exact szB nonce i24⟩
  have HAD : Hid (A = ba 32 key ∧ D = ba 12 nonce) := ⟨hA, hD⟩
  obtain ⟨B, hB⟩ : ∃ B, B = blk key 0#32 nonce := ⟨_, rfl⟩
  have HB : Hid (B = blk key 0#32 nonce) := hB
  have HBl : Hid (∀ u, Calls Tryz.prog 64 #[.agg A, .int .u32 0, .agg D] u fun r w' => r = .returned (.agg (ba 64 B)) ∧ Chg u w') := by
    rw [hA, hD, hB]
    exact fun u => block_any key nonce 0#32 u
  rw [← hA, ← hD]
  have HX : Hid (Ap.Rd w (.slice ao na ca) xs ∧ Ap.Rd w (.slice bo nb cb) ys ∧ Bt xs ∧ Bt ys ∧ na = xs.length ∧ nb = ys.length ∧ xs.length ≤ 8388608 ∧ ys.length ≤ 8388608) := ⟨hx, hy, hxb, hyb, hna, hnb, hxl, hyl⟩
  have hna' : na ≤ 8388608 := by omega
  have hnb' : nb ≤ 8388608 := by omega
  clear hA hD hB hx hy hxb hyb hna hnb hxl hyl
  have hz := zero32.1
  have hz2 := zero22.1
  have hz3 := zero28.1
  have hszB := szB B i28
  have hlenB := lenB 64 zB B
  have honeB := ba_one 64 B
  have HSB : Hid ((Tryz.prog.info? 60).map (·.size) = some (ba 64 B).size ∧ (ba 64 zB).size = (ba 64 B).size ∧ (ba 64 B).all (·.oneCell') = true) := ⟨hszB, hlenB, honeB⟩
  clear hszB hlenB honeB
  go_enter Tryz.func47, Tryz.ntmps47
  go_upto_region 2 with fail
  obtain ⟨w2, hw2⟩ : ∃ w2, w2 = ((((w.alloc (.cells A 40)).alloc (.cells D 25)).alloc (.cells (ba 16 zB) 62)).alloc (.cells (ba 32 zB) 40)) := ⟨_, rfl⟩
  have Z2 : Hid ((Chg w w2 ∧ Ar w2 (w.heap.size + 1 + 1) (ba 16 zB) ∧ Ar w2 (w.heap.size + 1 + 1 + 1) (ba 32 zB)) ∧ Ar w2 w.heap.size A ∧ Ar w2 (w.heap.size + 1) D) := by
    rw [hw2]
    exact ⟨⟨((((Chg.refl w).alloc _).alloc _).alloc _).alloc _, (Ar.new2 w _ _ _ _).alloc _, 40, heap_new3 w _ _ _ _ 40⟩, (((Ar.new w _ _).alloc _).alloc _).alloc _, ((Ar.new1 w _ _ _).alloc _).alloc _⟩
  rw [← hw2]
  clear hw2 hsA hsD
  obtain ⟨tA, gA⟩ := Z2.out.2.1
  obtain ⟨tD, gD⟩ := Z2.out.2.2
  go_upto_region 3 with (first | refine wpList_load_row rfl 40 _ rfl _ rfl _ _ _ _ gA und22 rfl HSA.out.1 ?_ | refine wpList_load_row rfl 25 _ rfl _ rfl _ _ _ _ gD und24 rfl HSA.out.2 ?_ | (go_at_call 64; refine (HBl.out _).mono ?_; rintro r w3 ⟨rfl, hc3⟩) | refine wpList_store_row rfl 60 _ _ rfl _ _ rfl rfl _ _ (heap_alloc_last w3 _) HSB.out.1 HSB.out.2.1 HSB.out.2.2 ?_)
  obtain ⟨bB, hbB⟩ : ∃ bB, bB = w3.heap.size := ⟨_, rfl⟩
  obtain ⟨w4, hw4⟩ : ∃ w4, w4 = (w3.alloc (.cells (ba 64 zB) 60)).setRow w3.heap.size (ba 64 B) := ⟨_, rfl⟩
  have Z4 : Hid ((Chg w w4 ∧ Ar w4 (w.heap.size + 1 + 1) (ba 16 zB) ∧ Ar w4 (w.heap.size + 1 + 1 + 1) (ba 32 zB)) ∧ Ar w4 bB (ba 64 B)) := by
    obtain ⟨⟨k0, k1, k2⟩, -⟩ := Z2.out
    have q0 := k0.trans hc3
    have q1 := k1.chg hc3
    have q2 := k2.chg hc3
    have e1 := q1.lt
    have e2 := q2.lt
    rw [hw4, hbB]
    exact ⟨⟨(q0.alloc _).setRow q0.size _, (q1.alloc _).rowOther (by omega) _, (q2.alloc _).rowOther (by omega) _⟩, (Ar.new w3 _ _).row _⟩
  rw [← hw4, ← hbB]
  clear hw4 hbB hc3 gA gD Z2 HSA HBl HSB
  try dsimp only [Act.put]
  have hs1 : ∀ u, (Instr.sliceAt 40 (.pointer (some ⟨w.heap.size + 1 + 1 + 1, 0, none⟩)) none none none).run Tryz.prog u = .ok (.slice (some ⟨w.heap.size + 1 + 1 + 1, 0, none⟩) 32 32) u := run_sliceArr0 und22 (by decide) _
  have hs2 : ∀ u, (Instr.sliceAt 60 (.pointer (some ⟨bB, 0, none⟩)) none none none).run Tryz.prog u = .ok (.slice (some ⟨bB, 0, none⟩) 64 64) u := run_sliceArr0 und28 (by decide) _
  have hcp := run_cp w4.drew (w.heap.size + 1 + 1 + 1) 32 0 32 32 bB 0 64 64 32 zB B Z4.out.1.2.2 (fun j hj => (Ar.bs Z4.out.2) j (by omega)) (by decide) (by decide)
  go_cut [] from 15 to 17 (fun wc => Chg w wc ∧ Ar wc (w.heap.size + 1 + 1) (ba 16 zB) ∧ Ar wc (w.heap.size + 1 + 1 + 1) (ba 32 B))
  case first =>
    go_region_with (fail)
    all_goals go_wp2_with fail
    all_goals go_meet
    all_goals
      obtain ⟨⟨k0, k1, k2⟩, -⟩ := Z4.out
      refine ⟨k0.drew.setRow (by omega) _, k1.drew.rowOther (by omega) _, ?_⟩
      rw [← over_all 32 B]
      exact k2.drew.row _
  have Z5 : Hid (Chg w wc ∧ Ar wc (w.heap.size + 1 + 1) (ba 16 zB) ∧ Ar wc (w.heap.size + 1 + 1 + 1) (ba 32 B)) := hcut
  obtain ⟨w5, hw5⟩ : ∃ w5, w5 = wc := ⟨_, rfl⟩
  rw [← hw5] at Z5 ⊢
  clear hcut hw5 wc hcp hs1 hs2 Z4
  obtain ⟨c1, hc1⟩ : ∃ c1 : Nat, (na : Int) + nb = c1 := ⟨na + nb, by omega⟩
  have wc1 := wrap_i (x := (c1 : Int)) (by omega) (by omega)
  obtain ⟨c2, hc2⟩ : ∃ c2 : Nat, (c1 : Int) + 48 = c2 := ⟨c1 + 48, by omega⟩
  have wc2 := wrap_i (x := (c2 : Int)) (by omega) (by omega)
  have hmk := mkCap c2 (by omega)
  have HC2 : Hid (c2 ≤ 140737488351232) := by show c2 ≤ _; omega
  go_upto_region 5 with fail
  obtain ⟨w6, hw6⟩ : ∃ w6, w6 = w5.alloc (.cells (ba c2 zB) 5) := ⟨_, rfl⟩
  have Z6 : Hid (OwnN w5 w6 (.slice (some ⟨w5.heap.size, 0, none⟩) 0 c2) []) := by
    rw [hw6]
    exact ⟨ownCap c2 HC2.out w5, fun k e => by simp [Value.ownBlock] at e; omega, (Chg.refl w5).alloc _⟩
  rw [← hw6]
  clear hw6 hmk
  have R1 : Hid (Ap.Rd w6 (.slice ao na ca) xs) := Rd.chg HX.out.1 (Z5.out.1.trans Z6.out.chg)
  go_wp2_with (at_builtin; refine Ap.wpList_app _ rfl _ _ rfl (.slice (some ⟨w5.heap.size, 0, none⟩) 0 c2) (.slice ao na ca) [] xs rfl rfl Z6.out.own R1.out (by have := HX.out.2.2.2.2.2.2.1; simp; omega) ?_)
  intro v7 w7 o7 k7 b7
  have Z7 : Hid (OwnN w5 w7 v7 xs) := Z6.out.more o7 k7 b7
  obtain ⟨a7, m7, c7, rfl, -⟩ := o7.rd.shape
  clear o7 k7 b7 Z6 R1
  go_wp2_with fail
  go_at_call 65
  refine (filled_any _ xs w5 w7 Z7.out (by have := HX.out.2.2.2.2.2.2.1; omega)).mono ?_
  rintro r w8 ⟨v8, rfl, o8⟩
  have Z8 : Hid (OwnN w5 w8 v8 (filL xs)) := o8
  obtain ⟨a8, m8, c8, rfl, -⟩ := o8.own.rd.shape
  have hl8 : (filL xs).length ≤ 8388624 := by rw [filL_len]; have := padN_lt xs.length; have := HX.out.2.2.2.2.2.2.1; omega
  have HL8 : Hid ((filL xs).length ≤ 8388624) := hl8
  have R2 : Hid (Ap.Rd w8 (.slice bo nb cb) ys) := Rd.chg HX.out.2.1 (Z5.out.1.trans o8.chg)
  clear o8 Z7 hl8
  go_wp2_with (at_builtin; refine Ap.wpList_app _ rfl _ _ rfl (.slice a8 m8 c8) (.slice bo nb cb) (filL xs) ys rfl rfl Z8.out.own R2.out (by have := HX.out.2.2.2.2.2.2.2; have := HL8.out; omega) ?_)
  intro v9 w9 o9 k9 b9
  have Z9 : Hid (OwnN w5 w9 v9 (filL xs ++ ys)) := Z8.out.more o9 k9 b9
  obtain ⟨a9, m9, c9, rfl, -⟩ := o9.rd.shape
  clear o9 k9 b9 Z8 R2
  have HL9 : Hid ((filL xs ++ ys).length ≤ 16777232) := by
    have h1 := HX.out.2.2.2.2.2.2.2
    have h2 := HL8.out
    show (filL xs ++ ys).length ≤ _
    rw [List.length_append]
    omega
  go_wp2_with fail
  go_at_call 65
  refine (filled_any _ (filL xs ++ ys) w5 w9 Z9.out (by have := HL9.out; omega)).mono ?_
  rintro r w10 ⟨v10, rfl, o10⟩
  have Z10 : Hid (OwnN w5 w10 v10 (filL (filL xs ++ ys))) := o10
  obtain ⟨a10, m10, c10, rfl, -⟩ := o10.own.rd.shape
  have HL10 : Hid ((filL (filL xs ++ ys)).length ≤ 16777248) := by
    have h2 := HL9.out
    have h3 := padN_lt (filL xs ++ ys).length
    show (filL (filL xs ++ ys)).length ≤ _
    rw [filL_len]
    omega
  clear o10 Z9
  go_wp2_with fail
  go_at_call 66
  refine (withLength_any _ (filL (filL xs ++ ys)) na w5 w10 Z10.out (by have := HL10.out; omega) (by omega)).mono ?_
  rintro r w11 ⟨v11, rfl, o11⟩
  have Z11 : Hid (OwnN w5 w11 v11 (filL (filL xs ++ ys) ++ lenL na 8)) := o11
  obtain ⟨a11, m11, c11, rfl, -⟩ := o11.own.rd.shape
  clear o11 Z10
  go_wp2_with fail
  go_at_call 66
  refine (withLength_any _ (filL (filL xs ++ ys) ++ lenL na 8) nb w5 w11 Z11.out (by have := HL10.out; rw [List.length_append, lenL_len]; omega) (by omega)).mono ?_
  rintro r w12 ⟨v12, rfl, o12⟩
  obtain ⟨L, hL⟩ : ∃ L, L = tgL xs ys := ⟨_, rfl⟩
  have HLL : Hid (L = tgL xs ys) := hL
  have eL : filL (filL xs ++ ys) ++ lenL na 8 ++ lenL nb 8 = nums L.length (fList L) := by
    have hb : Bt L := by rw [hL]; exact HX.out.2.2.1.tg HX.out.2.2.2.1
    rw [fList_nums hb, hL, HX.out.2.2.2.2.1, HX.out.2.2.2.2.2.1]
    rfl
  rw [eL] at o12
  obtain ⟨a12, m12, c12, rfl, hm12, -⟩ := o12.own.rd.shape
  rw [nums_len] at hm12
  subst hm12
  have Z12 : Hid (Chg w w12 ∧ Ar w12 (w.heap.size + 1 + 1) (ba 16 zB) ∧ Ar w12 (w.heap.size + 1 + 1 + 1) (ba 32 B) ∧ Ap.Rd w12 (.slice a12 L.length c12) (nums L.length (fList L))) := by
    obtain ⟨k0, k1, k2⟩ := Z5.out
    exact ⟨k0.trans o12.chg, k1.chg o12.chg, k2.chg o12.chg, o12.own.rd⟩
  have HLn : Hid (L.length ≤ 281474976710656) := by
    have h1 := tgL_len xs ys
    have h2 := HX.out
    show L.length ≤ _
    rw [hL]
    omega
  clear o12 eL hL Z11 Z5
  obtain ⟨T, hT⟩ : ∃ T, T = tagF key nonce xs ys := ⟨_, rfl⟩
  have HT : Hid (T = tagF key nonce xs ys) := hT
  obtain ⟨N, hN⟩ : ∃ N, N = L.length := ⟨_, rfl⟩
  have HP : Hid (Calls Tryz.prog 67 #[.agg (ba 32 B), .slice a12 N c12] w12 fun r w' => r = .returned (.agg (ba 16 T)) ∧ Chg w12 w') := by
    have e : T = polF B (fList L) L.length := by rw [hT, HB.out, HLL.out]; rfl
    rw [e, hN]
    exact poly_any L.length c12 a12 B (fList L) w12 Z12.out.2.2.2 HLn.out
  rw [← hN]
  obtain ⟨tB, gB⟩ := Z12.out.2.2.1
  have hszK := szB B i22
  clear hT hN
  go_wp2_with (first | refine wpList_load_row rfl 40 _ rfl _ rfl _ _ _ _ gB und22 rfl hszK ?_)
  go_at_call 67
  refine HP.out.mono ?_
  rintro r w13 ⟨rfl, hc13⟩
  have Z13 : Hid (Chg w w13 ∧ Ar w13 (w.heap.size + 1 + 1) (ba 16 zB)) := ⟨Z12.out.1.trans hc13, Z12.out.2.1.chg hc13⟩
  obtain ⟨t3, g3⟩ := Z13.out.2
  have hszT := szB T i32
  have hlenT := lenB 16 zB T
  have honeT := ba_one 16 T
  clear hc13 gB Z12 HP
  go_wp2_with (first | refine wpList_store_row rfl 62 _ _ rfl _ _ rfl rfl _ _ g3 hszT hlenT honeT ?_)
  refine bp_c (n := 16) (c := ba 16 T) Tryz.results47 rfl rfl ?_ und32 i32 (ba_size _ _) ⟨by rw [HT.out], ?_⟩
  · exact Z13.out.2.row _
  · exact Z13.out.1.setRow (by omega) _

/-- append that must grow. -/
theorem wpList_grow (w : World) {ops : Array Oper} {rest : List Oper} {o : Oper} {a : Act} {Q : Exit → Act → World → Prop}
    (hg : o.guard = none) (s x : Operand) (hop : o.op = Op.call { callee := Callee.builtin Builtin.append, args := #[s, x], argTypes := #[24, 24] })
    (ao : Option Addr) (n c : Nat) (sv : Value) (xs ys : List Int) (hs : a.eval s = .slice ao n c) (hx : a.eval x = sv) (hn : n = xs.length) (hv : Ap.Rd w (.slice ao n c) xs) (hr : Ap.Rd w sv ys) (hb : xs.length + ys.length ≤ 140737488355328) (hc : ¬ xs.length + ys.length ≤ c)
    (hK : ∀ v' w', Ap.OwnV w' v' (xs ++ ys) → Chg w w' → v'.ownBlock = some w.heap.size → wpList Tryz.prog ops Q rest (a.put o.dst v') w') :
    wpList Tryz.prog ops Q (o :: rest) a w := by
  refine wpList_plain hg fun K hK' => ?_
  subst hn
  obtain ⟨v', w', hrun, r1, r2, r3⟩ := Ap.run_grow o.type w ao c sv xs ys hv hr hb hc
  unfold Oper.wp
  simp [execOp, hop, resolve, invoke, builtin, hs, hx, hrun, Result.andThen]
  exact hK' _ _ (hK v' w' r1 (Chg.non r2) r3)
/-- All unlike bits of so many bytes. -/
def orF (f g : Nat → By) : Nat → By
  | 0 => 0#8
  | i + 1 => orF f g i ||| (f i ^^^ g i)
theorem or_zero (a b : By) : a ||| b = 0#8 ↔ a = 0#8 ∧ b = 0#8 := by
  constructor
  · intro h
    constructor
    · apply BitVec.eq_of_getLsbD_eq
      intro i hi
      have := congrArg (·.getLsbD i) h
      simp only [BitVec.getLsbD_or, BitVec.getLsbD_zero, Bool.or_eq_false_iff] at this
      rw [this.1, BitVec.getLsbD_zero]
    · apply BitVec.eq_of_getLsbD_eq
      intro i hi
      have := congrArg (·.getLsbD i) h
      simp only [BitVec.getLsbD_or, BitVec.getLsbD_zero, Bool.or_eq_false_iff] at this
      rw [this.2, BitVec.getLsbD_zero]
  · rintro ⟨rfl, rfl⟩
    rfl
theorem orF_zero (f g : Nat → By) (n : Nat) : orF f g n = 0#8 ↔ ∀ j, j < n → f j = g j := by
  induction n with
  | zero => exact ⟨fun _ j hj => by omega, fun _ => rfl⟩
  | succ n ih =>
    rw [orF, or_zero, ih]
    constructor
    · rintro ⟨h1, h2⟩ j hj
      by_cases h : j = n
      · subst h
        exact BitVec.xor_eq_zero_iff.1 h2
      · exact h1 j (by omega)
    · intro h
      exact ⟨fun j hj => h j (by omega), BitVec.xor_eq_zero_iff.2 (h n (by omega))⟩
def sameB (n : Nat) (f g : Nat → By) : Bool := orF f g n == 0#8
theorem sameB_iff (n : Nat) (f g : Nat → By) : sameB n f g = true ↔ ∀ j, j < n → f j = g j := by
  unfold sameB
  rw [beq_iff_eq, orF_zero]
theorem nmOx (x y z : By) : ∃ u : By, Hid (u = x ||| (y ^^^ z)) ∧ Go.bits .or .u8 (x.toNat : Int) (Go.bits .xor .u8 (y.toNat : Int) (z.toNat : Int)) = (u.toNat : Int) := ⟨_, rfl, by rw [xorB, u8_or_nat _ _ x.isLt (y ^^^ z).isLt, BitVec.toNat_or]⟩

set_option maxRecDepth 100000 in
set_option maxHeartbeats 4000000 in
theorem same_any (n b1 o1 c1 b2 o2 c2 : Nat) (f g : Nat → By) (w : World) (h1 : Bs w b1 o1 n f) (h2 : Bs w b2 o2 n g) (hn : n ≤ 140737488351232) :
    Calls Tryz.prog 45 #[.slice (some ⟨b1, o1, none⟩) n c1, .slice (some ⟨b2, o2, none⟩) n c2] w fun r w' => r = .returned (.bool (sameB n f g)) ∧ Chg w w' := by
  have HX : Hid (Bs w b1 o1 n f ∧ Bs w b2 o2 n g) := ⟨h1, h2⟩
  clear h1 h2
  have hd0 : ((n : Int) != n) = false := by simp
  go_enter Tryz.func45, Tryz.ntmps45
  go_wp2_with fail
  go_loopw [5, 14] (fun v v14 wr => ∃ (i : Nat), v14 = .int .i64 i ∧ i ≤ n ∧ v = .int .u8 ((orF f g i).toNat : Int) ∧ Chg w wr) (fun v v14 wr => n - (intOf v14).toNat)
  case atStart => exact ⟨0, rfl, by omega, rfl, Chg.refl w⟩
  case round =>
    obtain ⟨i, rfl, hi, rfl, hc⟩ := hrel
    have Z : Hid (Chg w wr) := hc
    obtain ⟨x, hx⟩ : ∃ x, x = orF f g i := ⟨_, rfl⟩
    have HXo : Hid (x = orF f g i) := hx
    rw [← hx]
    clear hx
    by_cases hin : i < n
    · have hd : decide ((i : Int) < n) = true := by simp; omega
      have li : (i : Int) < n := by omega
      have e1 := (HX.out.1.chg hc) i hin
      have e2 := (HX.out.2.chg hc) i hin
      obtain ⟨y, hy⟩ : ∃ y, y = f i := ⟨_, rfl⟩
      obtain ⟨z, hz⟩ : ∃ z, z = g i := ⟨_, rfl⟩
      rw [← hy] at e1
      rw [← hz] at e2
      obtain ⟨u, Hu, eu⟩ := nmOx x y z
      have HU : Hid (u = orF f g (i + 1)) := by
        show u = _
        rw [Hu.out, hy, hz, HXo.out]
        rfl
      clear hy hz Hu hc
      go_wp2_with fail
      go_region_with (fail)
      all_goals go_wp2
      all_goals
        go_roundw
        case rel => exact ⟨i + 1, by go_num, by omega, by rw [HU.out], Z.out.drew⟩
        case measure => simp [intOf]; omega
    · have hd : decide ((i : Int) < n) = false := by simp; omega
      have hi2 : i = n := by omega
      have hb : ((x.toNat : Int) == 0) = sameB n f g := by
        rw [HXo.out, hi2, sameB]
        rw [Bool.eq_iff_iff, beq_iff_eq, beq_iff_eq]
        constructor
        · intro h
          exact BitVec.eq_of_toNat_eq (by simpa using h)
        · intro h
          rw [h]
          rfl
      clear hc
      go_wp2
      go_ret
      exact ⟨rfl, Z.out⟩

theorem bp_tt {fn : Func} {R : Ending → World → Prop} {a : Act} {w : World} {p u : Nat} {x y : Value} (h : fn.results = #[.tmp p, .tmp u]) (hd : a.defers = []) (hx : a.tmps.getD p undef = x) (hy : a.tmps.getD u undef = y) (hR : R (.returned (.tuple #[x, y])) w) : bodyPost Tryz.prog fn R .ret a w := by
  refine bodyPost_ret (v := .tuple #[x, y]) ?_ hd hR
  rw [Array.getD_eq_getD_getElem?] at hx hy
  simp only [results, h]
  simp [hx, hy]
theorem op_not {o : Oper} {a : Act} {w : World} {K : Act → World → Prop} {Q : Exit → Act → World → Prop} (x : Operand) (b : Bool) (ho : o.op = .unOp .not 4 x) (hx : a.eval x = .bool b) (hK : K (a.put o.dst (.bool (!b))) w) : o.wp Tryz.prog a w K Q := by
  refine op_val1 (v := .bool (!b)) ?_ hK
  revert hx
  generalize a.eval = ρ
  intro hx
  simp [go_sem, execOp, ho, hx]

set_option maxRecDepth 100000 in
set_option maxHeartbeats 8000000 in
theorem seal_any (key nonce txt : Nat → By) (ao bo : Option Addr) (na ca n cb : Nat) (xs : List Int) (w : World) (hx : Ap.Rd w (.slice ao na ca) xs) (hy : Ap.Rd w (.slice bo n cb) (nums n txt)) (hxb : Bt xs) (hxl : xs.length ≤ 8388608) (hyl : n ≤ 8388608) :
    Calls Tryz.prog 46 #[.agg (ba 32 key), .agg (ba 12 nonce), .slice ao na ca, .slice bo n cb] w fun r w' => ∃ v, r = .returned v ∧ OwnN w w' v (sealL key nonce xs n txt) := by
  obtain ⟨A, hA⟩ : ∃ A, A = ba 32 key := ⟨_, rfl⟩
  obtain ⟨D, hD⟩ : ∃ D, D = ba 12 nonce := ⟨_, rfl⟩
  have hsA : A.size = 32 := by rw [hA]; exact ba_size _ _
  have hsD : D.size = 12 := by rw [hD]; exact ba_size _ _
  have HSA : Hid ((Tryz.prog.info? 40).map (·.size) = some A.size ∧ (Tryz.prog.info? 25).map (·.size) = some D.size) := ⟨by rw [hA]; exact szB key i22, by rw [hD]; exact szB nonce i24⟩
  have HAD : Hid (A = ba 32 key ∧ D = ba 12 nonce) := ⟨hA, hD⟩
  rw [← hA, ← hD]
  have HX : Hid (Ap.Rd w (.slice ao na ca) xs ∧ Ap.Rd w (.slice bo n cb) (nums n txt) ∧ Bt xs ∧ xs.length ≤ 8388608) := ⟨hx, hy, hxb, hxl⟩
  clear hA hD hx hy hxb hxl
  obtain ⟨F, hF⟩ : ∃ F, F = stF key 1#32 nonce txt := ⟨_, rfl⟩
  have HF : Hid (F = stF key 1#32 nonce txt) := hF
  have HS : Hid (∀ u, Chg w u → Calls Tryz.prog 48 #[.agg A, .int .u32 1, .agg D, .slice bo n cb] u fun r w' => ∃ g, r = .returned (.slice (some ⟨g, 0, none⟩) n n) ∧ u.heap.size ≤ g ∧ Chg u w' ∧ Ar w' g (ba n F)) := fun u hu => by
    rw [HAD.out.1, HAD.out.2, hF]
    exact streamV_any n key nonce txt 1#32 _ u (Rd.chg HX.out.2.1 hu) (by omega)
  clear hF
  have hz := zero32.1
  go_enter Tryz.func46, Tryz.ntmps46
  go_upto_region 1 with fail
  obtain ⟨w2, hw2⟩ : ∃ w2, w2 = (w.alloc (.cells A 40)).alloc (.cells D 25) := ⟨_, rfl⟩
  have Z2 : Hid (Chg w w2 ∧ Ar w2 w.heap.size A ∧ Ar w2 (w.heap.size + 1) D) := by
    rw [hw2]
    exact ⟨((Chg.refl w).alloc _).alloc _, (Ar.new w _ _).alloc _, Ar.new1 w _ _ _⟩
  rw [← hw2]
  clear hw2 hsA hsD
  obtain ⟨tA, gA⟩ := Z2.out.2.1
  obtain ⟨tD, gD⟩ := Z2.out.2.2
  go_wp2_with (first | refine wpList_load_row rfl 40 _ rfl _ rfl _ _ _ _ gA und22 rfl HSA.out.1 ?_ | refine wpList_load_row rfl 25 _ rfl _ rfl _ _ _ _ gD und24 rfl HSA.out.2 ?_)
  go_at_call 48
  refine (HS.out _ Z2.out.1).mono ?_
  rintro r w3 ⟨g, rfl, hg3, hc3, ha3⟩
  have Z3 : Hid ((Chg w w3 ∧ Ar w3 w.heap.size A ∧ Ar w3 (w.heap.size + 1) D) ∧ Ar w3 g (ba n F) ∧ w.heap.size ≤ g) := ⟨⟨Z2.out.1.trans hc3, Z2.out.2.1.chg hc3, Z2.out.2.2.chg hc3⟩, ha3, by have := Z2.out.1.size; omega⟩
  clear hg3 hc3 ha3 gA gD Z2 HS
  obtain ⟨tA, gA⟩ := Z3.out.1.2.1
  obtain ⟨tD, gD⟩ := Z3.out.1.2.2
  obtain ⟨T, hT⟩ : ∃ T, T = tagF key nonce xs (nums n F) := ⟨_, rfl⟩
  have HT : Hid (T = tagF key nonce xs (nums n F)) := hT
  have HC : Hid (Calls Tryz.prog 47 #[.agg A, .agg D, .slice ao na ca, .slice (some ⟨g, 0, none⟩) n n] w3 fun r w' => r = .returned (.agg (ba 16 T)) ∧ Chg w3 w') := by
    rw [HAD.out.1, HAD.out.2, hT]
    exact tagOf_any key nonce ao _ na ca n n xs (nums n F) w3 (Rd.chg HX.out.1 Z3.out.1.1) (Bs.rd (Ar.bs Z3.out.2.1) (Nat.le_refl _) (by omega)) HX.out.2.2.1 (Bt.nums n F) HX.out.2.2.2 (by rw [nums_len]; exact hyl)
  have hszT := szB T i32
  have hlenT := lenB 16 zB T
  have honeT := ba_one 16 T
  clear hT
  go_upto_region 3 with (first | refine wpList_load_row rfl 40 _ rfl _ rfl _ _ _ _ gA und22 rfl HSA.out.1 ?_ | refine wpList_load_row rfl 25 _ rfl _ rfl _ _ _ _ gD und24 rfl HSA.out.2 ?_ | (go_at_call 47; refine HC.out.mono ?_; rintro r w4 ⟨rfl, hc4⟩) | refine wpList_store_row rfl 62 _ _ rfl _ _ rfl rfl _ _ (heap_alloc_last w4 _) hszT hlenT honeT ?_)
  obtain ⟨bT, hbT⟩ : ∃ bT, bT = w4.heap.size := ⟨_, rfl⟩
  obtain ⟨w5, hw5⟩ : ∃ w5, w5 = (w4.alloc (.cells (ba 16 zB) 62)).setRow w4.heap.size (ba 16 T) := ⟨_, rfl⟩
  have Z5 : Hid (Chg w w5 ∧ Ap.Rd w5 (.slice (some ⟨g, 0, none⟩) n n) (nums n F) ∧ Ap.Rd w5 (.slice (some ⟨bT, 0, none⟩) 16 16) (nums 16 T)) := by
    have hch : Chg w3 w5 := by rw [hw5]; exact (hc4.alloc _).setRow hc4.size _
    refine ⟨Z3.out.1.1.trans hch, Bs.rd (Ar.bs (Z3.out.2.1.chg hch)) (Nat.le_refl _) (by omega), ?_⟩
    rw [hw5, hbT]
    exact Bs.rd (Ar.bs ((Ar.new w4 _ _).row _)) (Nat.le_refl _) (by decide)
  rw [← hw5, ← hbT]
  clear hw5 hbT hc4 gA gD Z3 HC hszT hlenT honeT
  try dsimp only [Act.put]
  have hsl : ∀ u, (Instr.sliceAt 62 (.pointer (some ⟨bT, 0, none⟩)) none none none).run Tryz.prog u = .ok (.slice (some ⟨bT, 0, none⟩) 16 16) u := run_sliceArr0 und32 (by decide) _
  have hl : (nums n F).length + (nums 16 T).length ≤ 140737488355328 := by
    rw [nums_len, nums_len]
    omega
  have hl2 : ¬ (nums n F).length + (nums 16 T).length ≤ n := by
    rw [nums_len, nums_len]
    omega
  go_wp2_with (at_builtin; refine wpList_grow _ rfl _ _ rfl (some ⟨g, 0, none⟩) n n (.slice (some ⟨bT, 0, none⟩) 16 16) (nums n F) (nums 16 T) rfl rfl (nums_len _ _).symm Z5.out.2.1 Z5.out.2.2 hl hl2 ?_)
  intro v2 w7 o2 k2 b2
  obtain ⟨ao2, m2, cc2, rfl, -⟩ := o2.rd.shape
  have Z7 : Hid (OwnN w w7 (.slice ao2 m2 cc2) (sealL key nonce xs n txt)) := by
    refine ⟨?_, fun j e => ?_, Z5.out.1.trans k2⟩
    · unfold sealL
      rw [← HF.out, ← HT.out]
      exact o2
    · rw [b2] at e
      injection e with e
      rw [← e]
      exact Z5.out.1.size
  clear o2 k2 b2
  go_wp2
  go_ret
  exact ⟨_, rfl, Z7.out⟩

theorem run_sliceLoB (b o n cap p : Nat) (hp : p ≤ n) (hn : n ≤ cap) (hc : cap ≤ 9223372036854775807) (hne : ¬ cap = p) (w : World) : (Instr.sliceAt 24 (.slice (some ⟨b, o, none⟩) n cap) (some (.int .i64 (p : Int))) none none).run Tryz.prog w = .ok (.slice (some ⟨b, o + p, none⟩) (n - p) (cap - p)) w := by
  have h1 : (p : Int) ≤ n := by omega
  refine (run_sliceAt_slice w 24 _ _ _ _ (by kernel_rfl)).trans ?_
  simp [Instr.slice, Instr.sliceBounds, Instr.sliceBound, run_underlying u22, asIntOf, Sem.run_bind, hp, hne, addr_add]

set_option maxRecDepth 100000 in
set_option maxHeartbeats 4000000 in
theorem openShort_any (key nonce : Nat → By) (ns cs : Nat) (sa : Option Addr) (va : Value) (w : World) (h16 : ns < 16) :
    Calls Tryz.prog 31 #[.agg (ba 32 key), .agg (ba 12 nonce), va, .slice sa ns cs] w fun r w' => r = .returned (.tuple #[.slice none 0 0, .int .i64 91]) ∧ Chg w w' := by
  obtain ⟨A, hA⟩ : ∃ A, A = ba 32 key := ⟨_, rfl⟩
  obtain ⟨D, hD⟩ : ∃ D, D = ba 12 nonce := ⟨_, rfl⟩
  have hsA : A.size = 32 := by rw [hA]; exact ba_size _ _
  have hsD : D.size = 12 := by rw [hD]; exact ba_size _ _
  rw [← hA, ← hD]
  clear hA hD
  have hd : decide ((ns : Int) < 16) = true := by simp; omega
  go_enter Tryz.func31, Tryz.ntmps31
  go_wp2_with fail
  go_ret2
  exact ⟨rfl, ((Chg.refl w).alloc _).alloc _⟩

set_option maxRecDepth 100000 in
set_option maxHeartbeats 8000000 in
theorem open_any (key nonce sf : Nat → By) (na ca m sb so cs : Nat) (ao : Option Addr) (xs : List Int) (w : World) (hx : Ap.Rd w (.slice ao na ca) xs) (hxb : Bt xs) (hxl : xs.length ≤ 8388608) (hvs : Bs w sb so (m + 16) sf) (hcs : m + 16 ≤ cs) (hcs' : cs ≤ 9223372036854775807) (hml : m ≤ 8388608) :
    Calls Tryz.prog 31 #[.agg (ba 32 key), .agg (ba 12 nonce), .slice ao na ca, .slice (some ⟨sb, so, none⟩) (m + 16) cs] w fun r w' => Chg w w' ∧
      ((sameB 16 (tagF key nonce xs (nums m sf)) (fun j => sf (m + j)) = true ∧ ∃ v, r = .returned (.tuple #[v, .int .i64 0]) ∧ Ap.Rd w' v (nums m (stF key 1#32 nonce sf))) ∨
       (sameB 16 (tagF key nonce xs (nums m sf)) (fun j => sf (m + j)) = false ∧ r = .returned (.tuple #[.slice none 0 0, .int .i64 91]))) := by
  obtain ⟨A, hA⟩ : ∃ A, A = ba 32 key := ⟨_, rfl⟩
  obtain ⟨D, hD⟩ : ∃ D, D = ba 12 nonce := ⟨_, rfl⟩
  have hsA : A.size = 32 := by rw [hA]; exact ba_size _ _
  have hsD : D.size = 12 := by rw [hD]; exact ba_size _ _
  have HAD : Hid (A = ba 32 key ∧ D = ba 12 nonce) := ⟨hA, hD⟩
  rw [← hA, ← hD]
  obtain ⟨ns, hns0⟩ : ∃ ns, ns = m + 16 := ⟨_, rfl⟩
  have HNS : Hid (ns = m + 16) := hns0
  have hsub : (ns : Int) - 16 = m := by omega
  have wm := wrap_i (x := (m : Int)) (by omega) (by omega)
  have hd : decide ((ns : Int) < 16) = false := by simp; omega
  obtain ⟨lo, hlo, hlo1⟩ := run_sliceHiA (some ⟨sb, so, none⟩) ns cs m (by omega) hcs'
  have hhi : ∀ u, (Instr.sliceAt 24 (.slice (some ⟨sb, so, none⟩) ns cs) (some (.int .i64 (m : Int))) none none).run Tryz.prog u = .ok (.slice (some ⟨sb, so + m, none⟩) 16 (cs - m)) u := fun u => by
    have := run_sliceLoB sb so ns cs m (by omega) (by omega) hcs' (by omega) u
    rwa [show ns - m = 16 by omega] at this
  have HS : Hid (Bs w sb (so + m) 16 (fun j => sf (m + j))) := fun j hj => by
    have := hvs (m + j) (by omega)
    rwa [← Nat.add_assoc] at this
  have HV : Hid (Ap.Rd w (.slice ao na ca) xs ∧ (∀ u, Chg w u → Ap.Rd u (.slice lo m cs) (nums m sf)) ∧ Bt xs ∧ xs.length ≤ 8388608 ∧ m ≤ 8388608) := by
    refine ⟨hx, fun u c => ?_, hxb, hxl, hml⟩
    refine hlo1 u sf (Rd.chg (Bs.rd (f := sf) ?_ (by omega) hcs') c) (by omega)
    rw [hns0]
    exact hvs
  rw [← hns0]
  clear hA hD hx hxb hxl hvs hlo1 hns0
  have hz := zero32.1
  go_enter Tryz.func31, Tryz.ntmps31
  go_upto_region 1 with fail
  obtain ⟨w4, hw4⟩ : ∃ w4, w4 = (w.alloc (.cells A 40)).alloc (.cells D 25) := ⟨_, rfl⟩
  have Z4 : Hid (KN w w4 key nonce ∧ True) := by
    rw [hw4, HAD.out.1, HAD.out.2]
    exact ⟨⟨((Chg.refl w).alloc _).alloc _, (Ar.new w _ _).alloc _, Ar.new1 w _ _ _⟩, trivial⟩
  rw [← hw4]
  clear hw4 hsA hsD
  obtain ⟨T, hT⟩ : ∃ T, T = tagF key nonce xs (nums m sf) := ⟨_, rfl⟩
  have HTe : Hid (T = tagF key nonce xs (nums m sf)) := hT
  have HT : Hid (∀ u, Chg w4.drew u → Calls Tryz.prog 47 #[.agg (ba 32 key), .agg (ba 12 nonce), .slice ao na ca, .slice lo m cs] u fun r w' => r = .returned (.agg (ba 16 T)) ∧ Chg u w') := by
    intro u c
    rw [hT]
    have c0 := Z4.out.1.chg.drew.trans c
    exact tagOf_any key nonce ao lo na ca m cs xs (nums m sf) u (Rd.chg HV.out.1 c0) (HV.out.2.1 u c0) HV.out.2.2.1 (Bt.nums m sf) HV.out.2.2.2.1 (by rw [nums_len]; exact HV.out.2.2.2.2)
  clear hT
  go_upto_region 4 with fail
  go_cut [11] from 18 to 24 (fun v wc => ∃ bT, v = .pointer (some ⟨bT, 0, none⟩) ∧ Chg w4 wc ∧ Ar wc bT (ba 16 T))
  case first =>
    refine wp_region_good 8 (fun j v wg => match j with
      | 0 => v = .agg (ba 32 key)
      | 1 => v = .agg (ba 12 nonce)
      | 2 => v = .slice ao na ca
      | 3 => v = .slice (some ⟨sb, so, none⟩) ns cs
      | 4 => v = .int .i64 (m : Int)
      | 5 => v = .slice lo m cs
      | 6 => v = .agg (ba 16 T)
      | 7 => ∃ bx, v = .pointer (some ⟨bx, 0, none⟩) ∧ Ar wg bx (ba 16 zB) ∧ w4.heap.size ≤ bx
      | _ => True) (by kernel_rfl) (by kernel_rfl) (by kernel_rfl) (by kernel_rfl) (by kernel_rfl) ?_ ?_ ?_
    · intro j v u1 u2 h hc
      match j, h with
      | 0, h => exact h
      | 1, h => exact h
      | 2, h => exact h
      | 3, h => exact h
      | 4, h => exact h
      | 5, h => exact h
      | 6, h => exact h
      | 7, h => (obtain ⟨bx, h1, h2, h3⟩ := h; exact ⟨bx, h1, h2.chg hc, h3⟩)
      | _ + 8, h => exact trivial
    · intro i o ac u hi ho hsz hf hg hc
      have hcs : i = 0 ∨ i = 1 ∨ i = 2 ∨ i = 3 ∨ i = 4 ∨ i = 5 ∨ i = 6 ∨ i = 7 := by omega
      rcases hcs with rfl | rfl | rfl | rfl | rfl | rfl | rfl | rfl
      · injection ho with ho
        subst ho
        refine .inl ⟨wanted_none rfl, ?_⟩
        have e1 : ac.eval (.tmp 4) = .pointer (some ⟨w.heap.size, 0, none⟩) := hf 4 (by kernel_rfl)
        exact wp_load_mid 40 (.tmp 4) rfl _ _ e1 ((ba 32 key).toList) _ (rangeA (Ar.chg (w := w4.drew) Z4.out.1.ky hc)) und22 rfl (info32 _) ⟨_, rfl, rfl, Chg.refl _⟩
      · injection ho with ho
        subst ho
        refine .inl ⟨wanted_none rfl, ?_⟩
        have e1 : ac.eval (.tmp 5) = .pointer (some ⟨w.heap.size + 1, 0, none⟩) := hf 5 (by kernel_rfl)
        exact wp_load_mid 25 (.tmp 5) rfl _ _ e1 ((ba 12 nonce).toList) _ (rangeA (Ar.chg (w := w4.drew) Z4.out.1.non hc)) und24 rfl (info12 _) ⟨_, rfl, rfl, Chg.refl _⟩
      · injection ho with ho
        subst ho
        refine .inl ⟨wanted_none rfl, ?_⟩
        have e1 : ac.eval (.tmp 2) = .slice ao na ca := hf 2 (by kernel_rfl)
        exact opG_val (by simp [execOp, e1]) rfl (Chg.refl _)
      · injection ho with ho
        subst ho
        refine .inl ⟨wanted_none rfl, ?_⟩
        have e1 : ac.eval (.tmp 3) = .slice (some ⟨sb, so, none⟩) ns cs := hf 3 (by kernel_rfl)
        exact opG_val (by simp [execOp, e1]) rfl (Chg.refl _)
      · injection ho with ho
        subst ho
        refine .inl ⟨wanted_none rfl, ?_⟩
        have e1 : ac.eval (.tmp 10) = .int .i64 (m : Int) := hf 10 (by kernel_rfl)
        exact opG_val (by simp [execOp, e1]) rfl (Chg.refl _)
      · injection ho with ho
        subst ho
        refine .inl ⟨wanted_none rfl, ?_⟩
        have e1 : ac.eval (.tmp 21) = .slice (some ⟨sb, so, none⟩) ns cs := hg 3 (by kernel_rfl) (by decide)
        have e2 : ac.eval (.tmp 22) = .int .i64 (m : Int) := hg 4 (by kernel_rfl) (by decide)
        exact opG_val (by simp [execOp, e1, e2, hlo]) rfl (Chg.refl _)
      · injection ho with ho
        subst ho
        refine .inl ⟨wanted_none rfl, ?_⟩
        have e1 : ac.eval (.tmp 18) = .agg (ba 32 key) := hg 0 (by kernel_rfl) (by decide)
        have e2 : ac.eval (.tmp 19) = .agg (ba 12 nonce) := hg 1 (by kernel_rfl) (by decide)
        have e3 : ac.eval (.tmp 20) = .slice ao na ca := hg 2 (by kernel_rfl) (by decide)
        have e4 : ac.eval (.tmp 23) = .slice lo m cs := hg 5 (by kernel_rfl) (by decide)
        refine opG_go 47 Tryz.f47 #[.tmp 18, .tmp 19, .tmp 20, .tmp 23] #[40, 25, 24, 24] rfl Tryz.func47 (by kernel_rfl) (by kernel_rfl) (by simp [e1, e2, e3, e4]) (Calls.mono (HT.out _ hc) ?_)
        rintro r u2 ⟨rfl, hc2⟩
        exact ⟨_, rfl, rfl, hc2⟩
      · injection ho with ho
        subst ho
        refine .inl ⟨wanted_none rfl, ?_⟩
        exact opG_val (v := .pointer (some ⟨u.heap.size, 0, none⟩)) (w' := u.alloc (.cells (ba 16 zB) 62)) (by generalize ac.eval = ρ; simp [go_sem, execOp, zero32.1]) ⟨_, rfl, Ar.new _ _ _, (show w4.heap.size ≤ u.heap.size from hc.size)⟩ ((Chg.refl _).alloc _)
    · intro o u V ho hV hc
      injection ho with ho
      subst ho
      refine ⟨rfl, ?_⟩
      have q18 : V 0 = .agg (ba 32 key) := hV 0 (by decide)
      have q19 : V 1 = .agg (ba 12 nonce) := hV 1 (by decide)
      have q20 : V 2 = .slice ao na ca := hV 2 (by decide)
      have q21 : V 3 = .slice (some ⟨sb, so, none⟩) ns cs := hV 3 (by decide)
      have q22 : V 4 = .int .i64 (m : Int) := hV 4 (by decide)
      have q23 : V 5 = .slice lo m cs := hV 5 (by decide)
      have q24 : V 6 = .agg (ba 16 T) := hV 6 (by decide)
      obtain ⟨bx, q11, ⟨xx, xl⟩⟩ := hV 7 (by decide)
      refine wp_store_mid 62 (.tmp 11) (.tmp 24) rfl bx 0 (ba 16 T) (Eq.trans (by rfl) q11) (Eq.trans (by rfl) q24) (by rw [ba_size]; exact thereI xx) (by rw [ba_size]; exact i32) (ba_one _ _) ?_
      have e := setRowI xx i32 (fun i => ((T i).toNat : Int))
      rw [show (ba 16 T) = arr .u8 16 (fun i => ((T i).toNat : Int)) from rfl, e]
      go_wp2_with fail
      go_meet
      exact ⟨bx, q11, ((Chg.refl w4).drew.trans hc).setRow xl _, xx.row _⟩
  case rest =>
    obtain ⟨bT, rfl, c5, a5⟩ := hcut
    obtain ⟨w5, hw5⟩ : ∃ w5, w5 = wc := ⟨_, rfl⟩
    have Z5 : Hid (KN w w5 key nonce ∧ Ar w5 bT (ba 16 T)) := by
      rw [hw5]
      exact ⟨Z4.out.1.to c5, a5⟩
    rw [← hw5]
    have hsa : ∀ u, (Instr.sliceAt 62 (.pointer (some ⟨bT, 0, none⟩)) none none none).run Tryz.prog u = .ok (.slice (some ⟨bT, 0, none⟩) 16 16) u := run_sliceArr0 und32 (by decide) _
    obtain ⟨bb, hbb⟩ : ∃ bb, bb = sameB 16 T (fun j => sf (m + j)) := ⟨_, rfl⟩
    have HBB : Hid (bb = sameB 16 T (fun j => sf (m + j))) := hbb
    clear hw5 c5 a5 Z4 HT hbb
    go_upto_region 5 with fail
    go_cut [30] from 25 to 30 (fun v wc => v = .bool (!bb) ∧ Chg w5 wc)
    case first =>
      refine wp_region_good 5 (fun j v wg => match j with
        | 0 => v = .slice (some ⟨bT, 0, none⟩) 16 16
        | 1 => v = .slice (some ⟨sb, so, none⟩) ns cs
        | 2 => v = .int .i64 (m : Int)
        | 3 => v = .slice (some ⟨sb, so + m, none⟩) 16 (cs - m)
        | 4 => v = .bool (sameB 16 T (fun j => sf (m + j)))
        | _ => True) (by kernel_rfl) (by kernel_rfl) (by kernel_rfl) (by kernel_rfl) (by kernel_rfl) ?_ ?_ ?_
      · intro j v u1 u2 h hc
        match j, h with
        | 0, h => exact h
        | 1, h => exact h
        | 2, h => exact h
        | 3, h => exact h
        | 4, h => exact h
        | _ + 5, h => exact trivial
      · intro i o ac u hi ho hsz hf hg hc
        have hcs : i = 0 ∨ i = 1 ∨ i = 2 ∨ i = 3 ∨ i = 4 := by omega
        rcases hcs with rfl | rfl | rfl | rfl | rfl
        · injection ho with ho
          subst ho
          refine .inl ⟨wanted_none rfl, ?_⟩
          have e1 : ac.eval (.tmp 11) = .pointer (some ⟨bT, 0, none⟩) := hf 11 (by kernel_rfl)
          exact opG_val (by simp [execOp, e1, hsa]) rfl (Chg.refl _)
        · injection ho with ho
          subst ho
          refine .inl ⟨wanted_none rfl, ?_⟩
          have e1 : ac.eval (.tmp 3) = .slice (some ⟨sb, so, none⟩) ns cs := hf 3 (by kernel_rfl)
          exact opG_val (by simp [execOp, e1]) rfl (Chg.refl _)
        · injection ho with ho
          subst ho
          refine .inl ⟨wanted_none rfl, ?_⟩
          have e1 : ac.eval (.tmp 10) = .int .i64 (m : Int) := hf 10 (by kernel_rfl)
          exact opG_val (by simp [execOp, e1]) rfl (Chg.refl _)
        · injection ho with ho
          subst ho
          refine .inl ⟨wanted_none rfl, ?_⟩
          have e1 : ac.eval (.tmp 26) = .slice (some ⟨sb, so, none⟩) ns cs := hg 1 (by kernel_rfl) (by decide)
          have e2 : ac.eval (.tmp 27) = .int .i64 (m : Int) := hg 2 (by kernel_rfl) (by decide)
          exact opG_val (by simp [execOp, e1, e2, hhi]) rfl (Chg.refl _)
        · injection ho with ho
          subst ho
          refine .inl ⟨wanted_none rfl, ?_⟩
          have e1 : ac.eval (.tmp 25) = .slice (some ⟨bT, 0, none⟩) 16 16 := hg 0 (by kernel_rfl) (by decide)
          have e2 : ac.eval (.tmp 28) = .slice (some ⟨sb, so + m, none⟩) 16 (cs - m) := hg 3 (by kernel_rfl) (by decide)
          refine opG_go 45 Tryz.f45 #[.tmp 25, .tmp 28] #[24, 24] rfl Tryz.func45 (by kernel_rfl) (by kernel_rfl) (by simp [e1, e2]) (Calls.mono (same_any 16 bT 0 16 sb (so + m) (cs - m) T (fun j => sf (m + j)) _ (Ar.bs (Ar.chg (w := w5.drew) Z5.out.2 hc)) (Bs.chg HS.out (Z5.out.1.chg.drew.trans hc)) (by decide)) ?_)
          rintro r u2 ⟨rfl, hc2⟩
          exact ⟨_, rfl, rfl, hc2⟩
      · intro o u V ho hV hc
        injection ho with ho
        subst ho
        refine ⟨rfl, ?_⟩
        have q25 : V 0 = .slice (some ⟨bT, 0, none⟩) 16 16 := hV 0 (by decide)
        have q26 : V 1 = .slice (some ⟨sb, so, none⟩) ns cs := hV 1 (by decide)
        have q27 : V 2 = .int .i64 (m : Int) := hV 2 (by decide)
        have q28 : V 3 = .slice (some ⟨sb, so + m, none⟩) 16 (cs - m) := hV 3 (by decide)
        have q29 : V 4 = .bool (sameB 16 T (fun j => sf (m + j))) := hV 4 (by decide)
        refine op_not (.tmp 29) (sameB 16 T (fun j => sf (m + j))) rfl (Eq.trans (by rfl) q29) ?_
        rw [← HBB.out]
        go_wp2_with fail
        go_meet
        exact ⟨rfl, (Chg.refl w5).drew.trans hc⟩
    case rest =>
      obtain ⟨rfl, c6⟩ := hcut
      obtain ⟨w6, hw6⟩ : ∃ w6, w6 = wc := ⟨_, rfl⟩
      have Z6 : Hid (KN w w6 key nonce ∧ True) := by rw [hw6]; exact ⟨Z5.out.1.to c6, trivial⟩
      rw [← hw6]
      clear hw6 c6 Z5
      cases bb with
      | false =>
        go_wp2_with fail
        go_ret2
        exact ⟨Z6.out.1.chg, .inr ⟨by rw [← HTe.out, ← HBB.out], rfl⟩⟩
      | true =>
        obtain ⟨st, hst⟩ : ∃ st, st = stF key 1#32 nonce sf := ⟨_, rfl⟩
        have HST : Hid (st = stF key 1#32 nonce sf) := hst
        have HSt : Hid (∀ u, Chg w6.drew u → Calls Tryz.prog 48 #[.agg (ba 32 key), .int .u32 1, .agg (ba 12 nonce), .slice lo m cs] u fun r w' => ∃ g, r = .returned (.slice (some ⟨g, 0, none⟩) m m) ∧ u.heap.size ≤ g ∧ Chg u w' ∧ Ar w' g (ba m st)) := by
          intro u c
          rw [hst]
          have hb := HV.out.2.2.2.2
          exact streamV_any m key nonce sf 1#32 _ u (HV.out.2.1 u (Z6.out.1.chg.drew.trans c)) (by omega)
        clear hst
        go_upto_region 7 with fail
        refine wp_region_good 7 (fun j v wg => match j with
          | 0 => v = .agg (ba 32 key)
          | 1 => v = .agg (ba 12 nonce)
          | 2 => v = .slice (some ⟨sb, so, none⟩) ns cs
          | 3 => v = .int .i64 (m : Int)
          | 4 => v = .slice lo m cs
          | 5 => ∃ gx, v = .slice (some ⟨gx, 0, none⟩) m m ∧ Ar wg gx (ba m st) ∧ w.heap.size ≤ gx
          | 6 => ∃ gx, v = .slice (some ⟨gx, 0, none⟩) m m ∧ Ar wg gx (ba m st) ∧ w.heap.size ≤ gx
          | _ => True) (by kernel_rfl) (by kernel_rfl) (by kernel_rfl) (by kernel_rfl) (by kernel_rfl) ?_ ?_ ?_
        · intro j v u1 u2 h hc
          match j, h with
          | 0, h => exact h
          | 1, h => exact h
          | 2, h => exact h
          | 3, h => exact h
          | 4, h => exact h
          | 5, h => (obtain ⟨gx, h1, h2, h3⟩ := h; exact ⟨gx, h1, h2.chg hc, h3⟩)
          | 6, h => (obtain ⟨gx, h1, h2, h3⟩ := h; exact ⟨gx, h1, h2.chg hc, h3⟩)
          | _ + 7, h => exact trivial
        · intro i o ac u hi ho hsz hf hg hc
          have hcs : i = 0 ∨ i = 1 ∨ i = 2 ∨ i = 3 ∨ i = 4 ∨ i = 5 ∨ i = 6 := by omega
          rcases hcs with rfl | rfl | rfl | rfl | rfl | rfl | rfl
          · injection ho with ho
            subst ho
            refine .inl ⟨wanted_none rfl, ?_⟩
            have e1 : ac.eval (.tmp 4) = .pointer (some ⟨w.heap.size, 0, none⟩) := hf 4 (by kernel_rfl)
            exact wp_load_mid 40 (.tmp 4) rfl _ _ e1 ((ba 32 key).toList) _ (rangeA (Ar.chg (w := w6.drew) Z6.out.1.ky hc)) und22 rfl (info32 _) ⟨_, rfl, rfl, Chg.refl _⟩
          · injection ho with ho
            subst ho
            refine .inl ⟨wanted_none rfl, ?_⟩
            have e1 : ac.eval (.tmp 5) = .pointer (some ⟨w.heap.size + 1, 0, none⟩) := hf 5 (by kernel_rfl)
            exact wp_load_mid 25 (.tmp 5) rfl _ _ e1 ((ba 12 nonce).toList) _ (rangeA (Ar.chg (w := w6.drew) Z6.out.1.non hc)) und24 rfl (info12 _) ⟨_, rfl, rfl, Chg.refl _⟩
          · injection ho with ho
            subst ho
            refine .inl ⟨wanted_none rfl, ?_⟩
            have e1 : ac.eval (.tmp 3) = .slice (some ⟨sb, so, none⟩) ns cs := hf 3 (by kernel_rfl)
            exact opG_val (by simp [execOp, e1]) rfl (Chg.refl _)
          · injection ho with ho
            subst ho
            refine .inl ⟨wanted_none rfl, ?_⟩
            have e1 : ac.eval (.tmp 10) = .int .i64 (m : Int) := hf 10 (by kernel_rfl)
            exact opG_val (by simp [execOp, e1]) rfl (Chg.refl _)
          · injection ho with ho
            subst ho
            refine .inl ⟨wanted_none rfl, ?_⟩
            have e1 : ac.eval (.tmp 33) = .slice (some ⟨sb, so, none⟩) ns cs := hg 2 (by kernel_rfl) (by decide)
            have e2 : ac.eval (.tmp 34) = .int .i64 (m : Int) := hg 3 (by kernel_rfl) (by decide)
            exact opG_val (by simp [execOp, e1, e2, hlo]) rfl (Chg.refl _)
          · injection ho with ho
            subst ho
            refine .inl ⟨wanted_none rfl, ?_⟩
            have e1 : ac.eval (.tmp 31) = .agg (ba 32 key) := hg 0 (by kernel_rfl) (by decide)
            have e2 : ac.eval (.const (.int .u32 1)) = .int .u32 1 := rfl
            have e3 : ac.eval (.tmp 32) = .agg (ba 12 nonce) := hg 1 (by kernel_rfl) (by decide)
            have e4 : ac.eval (.tmp 35) = .slice lo m cs := hg 4 (by kernel_rfl) (by decide)
            refine opG_go 48 Tryz.f48 #[.tmp 31, .const (.int .u32 1), .tmp 32, .tmp 35] #[40, 54, 25, 24] rfl Tryz.func48 (by kernel_rfl) (by kernel_rfl) (by simp [e1, e2, e3, e4]) (Calls.mono (HSt.out _ hc) ?_)
            rintro e u2 ⟨gy, rfl, hg1, hg2, hg3⟩
            exact ⟨_, rfl, ⟨gy, rfl, hg3, Nat.le_trans (Nat.le_trans Z6.out.1.chg.size hc.size) hg1⟩, hg2⟩
          · injection ho with ho
            subst ho
            refine .inl ⟨wanted_none rfl, ?_⟩
            obtain ⟨gx, e10, ⟨xx, xl⟩⟩ := hg 5 (by kernel_rfl) (by decide)
            have e1 : ac.eval (.tmp 36) = .slice (some ⟨gx, 0, none⟩) m m := e10
            exact opG_val (by simp [execOp, e1]) ⟨gx, rfl, xx, xl⟩ (Chg.refl _)
        · intro o u V ho hV hc
          injection ho with ho
          subst ho
          refine ⟨rfl, ?_⟩
          have q31 : V 0 = .agg (ba 32 key) := hV 0 (by decide)
          have q32 : V 1 = .agg (ba 12 nonce) := hV 1 (by decide)
          have q33 : V 2 = .slice (some ⟨sb, so, none⟩) ns cs := hV 2 (by decide)
          have q34 : V 3 = .int .i64 (m : Int) := hV 3 (by decide)
          have q35 : V 4 = .slice lo m cs := hV 4 (by decide)
          obtain ⟨gx, q36, ⟨xx, xl⟩⟩ := hV 5 (by decide)
          obtain ⟨gx2, q8, ⟨xx2, xl2⟩⟩ := hV 6 (by decide)
          refine op_val1 (v := .int .i64 0) rfl ?_
          go_wp2_with fail
          have hb := HV.out.2.2.2.2
          refine bp_tt Tryz.results31 rfl (Eq.trans (by rfl) q8) (by rfl) ⟨Z6.out.1.chg.drew.trans hc, .inl ⟨by rw [← HTe.out, ← HBB.out], _, rfl, ?_⟩⟩
          rw [← HST.out]
          exact Bs.rd (Ar.bs xx2) (Nat.le_refl _) (by omega)
end Go.Proofs.YtobglgddbhddnaaGreat.Cha
