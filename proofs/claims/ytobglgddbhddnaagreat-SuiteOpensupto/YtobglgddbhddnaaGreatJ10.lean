/-
  A text is locked up: Seal.
  Texts held against each other (Same); what a lock opens: Open.
  What a lock opens: Open.
-/
import Derived.Test.YtobglgddbhddnaaGreatJ08
import Derived.Test.YtobglgddbhddnaaGreatJ09
import Derived.Test.YtobglgddbhddnaaGreatJ03
namespace Go.Proofs.YtobglgddbhddnaaGreat
open Go.RowKit
set_option linter.unusedVariables false

/-- append that must grow. -/
theorem wpList_grow (w : World) {ops : Array Oper} {rest : List Oper} {o : Oper} {a : Act} {Q : Exit → Act → World → Prop}
    (hg : o.guard = none) (s x : Operand) (hop : o.op = Op.call { callee := Callee.builtin Builtin.append, args := #[s, x], argTypes := #[24, 24] })
    (ao : Option Addr) (n c : Nat) (sv : Value) (xs ys : List Int) (hs : a.eval s = .slice ao n c) (hx : a.eval x = sv) (hn : n = xs.length) (hv : Ap.Rd w (.slice ao n c) xs) (hr : Ap.Rd w sv ys) (hb : xs.length + ys.length ≤ 140737488355328) (hc : ¬ xs.length + ys.length ≤ c)
    (hK : ∀ v' w', Ap.OwnV w' v' (xs ++ ys) → Chg w w' → v'.ownBlock = some w.heap.size → wpList Tryz.prog ops Q rest (a.put o.dst v') w') :
    wpList Tryz.prog ops Q (o :: rest) a w := by
  refine wpList_plain hg fun K hK' => ?_
  subst hn
  obtain ⟨v', w', hrun, r1, r2, r3⟩ := Ap.run_grow o.type w ao c sv xs ys hv hr hb hc
  unfold Oper.wp
  simp [execOp, hop, resolve, invoke, builtin, hs, hx, hrun, Result.andThen]
  exact hK' _ _ (hK v' w' r1 (Chg.non r2) r3)

/-- What a text becomes, and behind it the tag. -/
def sealF (R : Nat) (k nc ta : Nat → By) (na : Nat) (tx : Nat → By) (nx : Nat) : Nat → By := fun j => if j < nx then stF R k (ctrB nc 2#8) tx j else tagF R k nc ta na (stF R k (ctrB nc 2#8) tx) nx (j - nx)
theorem nums_seal (R : Nat) (k nc ta : Nat → By) (na : Nat) (tx : Nat → By) (nx : Nat) : nums nx (stF R k (ctrB nc 2#8) tx) ++ nums 16 (tagF R k nc ta na (stF R k (ctrB nc 2#8) tx) nx) = nums (nx + 16) (sealF R k nc ta na tx nx) := by
  rw [nums_split (nx + 16) nx _ (by omega), show nx + 16 - nx = 16 by omega]
  congr 1
  · exact nums_congr fun i hi => by rw [sealF, if_pos hi]
  · exact nums_congr fun i hi => by rw [sealF, if_neg (by omega), show nx + i - nx = i by omega]

set_option maxRecDepth 100000 in
set_option maxHeartbeats 4000000 in
theorem sealBad_any (ao : Option Addr) (L cap : Nat) (nc : Nat → By) (va vx : Value) (w : World) (h1 : L ≠ 16) (h2 : L ≠ 32) :
    Calls Tryz.prog 27 #[.slice ao L cap, .agg (ba 12 nc), va, vx] w fun r w' => r = .returned (.tuple #[.slice none 0 0, .int .i64 1]) ∧ Chg w w' := by
  have hsA := ba_size 12 nc
  obtain ⟨A, hA⟩ : ∃ A, A = ba 12 nc := ⟨_, rfl⟩
  rw [← hA] at hsA ⊢
  clear hA
  go_enter Tryz.func27, Tryz.ntmps27
  go_wp2_with (first | (go_at_call 41; refine (newBad_any ao L cap _ h1 h2).mono ?_; rintro r w2 ⟨rfl, hw2⟩; rw [hw2]))
  go_ret2
  exact ⟨rfl, (Chg.refl w).alloc _⟩

set_option maxRecDepth 100000 in
set_option maxHeartbeats 4000000 in
theorem seal_any (kb ko cap L n R : Nat) (key nc ta tx : Nat → By) (na nx : Nat) (va vx : Value) (w : World) (hv : Bs w kb ko L key) (hL : L = 4 * n) (hn : n = 4 ∨ n = 8) (hR : R = n + 6) (hcap : L ≤ cap) (hcap' : cap ≤ 9223372036854775807)
    (hva : Ap.Rd w va (nums na ta)) (hvx : Ap.Rd w vx (nums nx tx)) (hna : na ≤ 140737488351232) (hnx : nx ≤ 140737488351232) :
    Calls Tryz.prog 27 #[.slice (some ⟨kb, ko, none⟩) L cap, .agg (ba 12 nc), va, vx] w fun r w' => ∃ k v, r = .returned (.tuple #[v, .int .i64 0]) ∧ OwnN w w' v (nums (nx + 16) (sealF R k nc ta na tx nx)) ∧ Ks n (4 * (R + 1)) key k := by
  have hsA := ba_size 12 nc
  have hszA := szB nc zero38.2
  obtain ⟨c2, hc2⟩ : ∃ c, c = ctrB nc 2#8 := ⟨_, rfl⟩
  have HC2 : Hid (c2 = ctrB nc 2#8) := hc2
  have C1 : Hid (∀ u, Calls Tryz.prog 43 #[.agg (ba 12 nc), .int .u8 2] u fun r w' => r = .returned (.agg (ba 16 c2)) ∧ Chg u w') := by
    rw [hc2]
    exact fun u => counter_any nc 2#8 u
  have HX : Hid (Bs w kb ko L key ∧ L = 4 * n ∧ (n = 4 ∨ n = 8) ∧ R = n + 6 ∧ L ≤ cap ∧ cap ≤ 9223372036854775807 ∧ Ap.Rd w va (nums na ta) ∧ Ap.Rd w vx (nums nx tx) ∧ na ≤ 140737488351232 ∧ nx ≤ 140737488351232) := ⟨hv, hL, hn, hR, hcap, hcap', hva, hvx, hna, hnx⟩
  have hR2 : R = 10 ∨ R = 14 := by omega
  obtain ⟨A, hA⟩ : ∃ A, A = ba 12 nc := ⟨_, rfl⟩
  have HA : Hid (A = ba 12 nc) := hA
  rw [← hA] at hsA hszA C1 ⊢
  clear hA hc2 hv hL hn hR hcap hcap' hva hvx hna hnx
  have hz := zero32.1
  go_enter Tryz.func27, Tryz.ntmps27
  go_upto_region 1 with fail
  obtain ⟨w1, hw1⟩ : ∃ w1, w1 = w.alloc (.cells A 25) := ⟨_, rfl⟩
  have Z1 : Hid (Chg w w1 ∧ Ar w1 w.heap.size A) := by
    rw [hw1]
    exact ⟨(Chg.refl w).alloc _, Ar.new w _ _⟩
  rw [← hw1]
  clear hw1 hsA
  go_wp2_with fail
  go_at_call 41
  refine (new_any kb ko cap L n R key w1 (HX.out.1.chg Z1.out.1) HX.out.2.1 HX.out.2.2.1 HX.out.2.2.2.1 HX.out.2.2.2.2.1 HX.out.2.2.2.2.2.1).mono ?_
  rintro r w2 ⟨K, k, rfl, hK, hc2, hA, hks⟩
  have Z2 : Hid (Chg w w2 ∧ Ar w2 w.heap.size A ∧ Ar w2 K (keyC R k) ∧ Ks n (4 * (R + 1)) key k) := ⟨Z1.out.1.trans hc2, Z1.out.2.chg hc2, hA, hks⟩
  clear hK hc2 hA hks Z1
  obtain ⟨tA, gA⟩ := Z2.out.2.1
  go_wp2_with (first | refine wpList_load_row rfl 25 _ rfl _ rfl _ _ _ _ gA und38 rfl hszA ?_)
  go_at_call 43
  refine (C1.out _).mono ?_
  rintro r w3 ⟨rfl, hc3⟩
  have Z3 : Hid (Chg w w3 ∧ Ar w3 w.heap.size A ∧ Ar w3 K (keyC R k) ∧ Ks n (4 * (R + 1)) key k) := ⟨Z2.out.1.trans hc3, Z2.out.2.1.chg hc3, Z2.out.2.2.1.chg hc3, Z2.out.2.2.2⟩
  clear hc3 Z2 gA C1
  go_wp2_with fail
  go_at_call 42
  refine (streamV_any K R nx k c2 tx vx w3 Z3.out.2.2.1 hR2 (Rd.chg HX.out.2.2.2.2.2.2.2.1 Z3.out.1) HX.out.2.2.2.2.2.2.2.2.2).mono ?_
  rintro r w4 ⟨g, rfl, hg, hc4, hA4⟩
  obtain ⟨st, hst⟩ : ∃ st, st = stF R k (ctrB nc 2#8) tx := ⟨_, rfl⟩
  rw [HC2.out, ← hst] at hA4
  have HST : Hid (st = stF R k (ctrB nc 2#8) tx) := hst
  have Z4 : Hid (Chg w w4 ∧ Ar w4 w.heap.size A ∧ Ar w4 K (keyC R k) ∧ Ks n (4 * (R + 1)) key k ∧ Ap.Rd w4 (.slice (some ⟨g, 0, none⟩) nx nx) (nums nx st)) := by
    have h10 := HX.out.2.2.2.2.2.2.2.2.2
    exact ⟨Z3.out.1.trans hc4, Z3.out.2.1.chg hc4, Z3.out.2.2.1.chg hc4, Z3.out.2.2.2, Bs.rd (Ar.bs hA4) (Nat.le_refl _) (by omega)⟩
  clear hg hc4 hA4 Z3 hst
  obtain ⟨tA, gA⟩ := Z4.out.2.1
  obtain ⟨T, hT⟩ : ∃ T, T = tagF R k nc ta na st nx := ⟨_, rfl⟩
  have HT : Hid (T = tagF R k nc ta na st nx) := hT
  have C2 : Hid (Calls Tryz.prog 44 #[.pointer (some ⟨K, 0, none⟩), .agg A, va, .slice (some ⟨g, 0, none⟩) nx nx] w4 fun r w' => r = .returned (.agg (ba 16 T)) ∧ Chg w4 w') := by
    rw [hT, HA.out]
    obtain ⟨a1, a2, a3, a4, a5, a6, a7, a8, a9, a10⟩ := HX.out
    exact tag_any K R k nc ta st na nx va _ w4 Z4.out.2.2.1 hR2 (Rd.chg a7 Z4.out.1) Z4.out.2.2.2.2 a9 a10
  clear hT
  go_wp2_with (first | refine wpList_load_row rfl 25 _ rfl _ rfl _ _ _ _ gA und38 rfl hszA ?_)
  go_at_call 44
  refine C2.out.mono ?_
  rintro r w5 ⟨rfl, hc5⟩
  have Z5 : Hid (Chg w w5 ∧ Ks n (4 * (R + 1)) key k ∧ Ap.Rd w5 (.slice (some ⟨g, 0, none⟩) nx nx) (nums nx st)) := ⟨Z4.out.1.trans hc5, Z4.out.2.2.2.1, Rd.chg Z4.out.2.2.2.2 hc5⟩
  clear hc5 Z4 C2 gA hszA
  have hst := szB T zero32.2
  have hlt := lenB 16 zB T
  have hot := ba_one 16 T
  go_upto_region 6 with (first | refine wpList_store_row rfl 62 _ _ rfl _ _ rfl rfl _ _ (heap_alloc_last w5 _) hst hlt hot ?_)
  obtain ⟨Bt, hBt⟩ : ∃ Bt, Bt = w5.heap.size := ⟨_, rfl⟩
  obtain ⟨w6, hw6⟩ : ∃ w6, w6 = (w5.alloc (.cells (ba 16 zB) 62)).setRow w5.heap.size (ba 16 T) := ⟨_, rfl⟩
  have hl : (nums nx st).length + (nums 16 T).length ≤ 140737488355328 := by
    rw [nums_len, nums_len]
    have := HX.out.2.2.2.2.2.2.2.2.2
    omega
  have hl2 : ¬ (nums nx st).length + (nums 16 T).length ≤ nx := by
    rw [nums_len, nums_len]
    omega
  have Z6 : Hid (Chg w w6 ∧ Ks n (4 * (R + 1)) key k ∧ Ap.Rd w6 (.slice (some ⟨g, 0, none⟩) nx nx) (nums nx st) ∧ Ap.Rd w6 (.slice (some ⟨Bt, 0, none⟩) 16 16) (nums 16 T)) := by
    obtain ⟨k0, k1, k2⟩ := Z5.out
    rw [hw6, hBt]
    have e : Chg w5 ((w5.alloc (.cells (ba 16 zB) 62)).setRow w5.heap.size (ba 16 T)) := ((Chg.refl w5).alloc _).setRow (Nat.le_refl _) _
    exact ⟨k0.trans e, k1, Rd.chg k2 e, Bs.rd (Ar.bs ((Ar.new w5 _ _).row _)) (Nat.le_refl _) (by omega)⟩
  rw [← hw6, ← hBt]
  clear hw6 hBt Z5 hst hlt hot
  dsimp only [Act.put]
  go_wp2_with (at_builtin; refine wpList_grow _ rfl _ _ rfl (some ⟨g, 0, none⟩) nx nx (.slice (some ⟨Bt, 0, none⟩) 16 16) (nums nx st) (nums 16 T) rfl rfl (nums_len _ _).symm Z6.out.2.2.1 Z6.out.2.2.2 hl hl2 ?_)
  intro v2 w7 o2 k2 b2
  obtain ⟨ao2, m2, cc2, rfl, -⟩ := o2.rd.shape
  have Z7 : Hid (OwnN w w7 (.slice ao2 m2 cc2) (nums (nx + 16) (sealF R k nc ta na tx nx))) := by
    refine ⟨?_, fun j e => ?_, Z6.out.1.trans k2⟩
    · rw [← nums_seal, ← HST.out, ← HT.out]
      exact o2
    · rw [b2] at e
      injection e with e
      rw [← e]
      exact Z6.out.1.size
  clear o2 k2 b2
  go_wp2
  go_ret2
  exact ⟨k, _, rfl, Z7.out, Z6.out.2.1⟩
end Go.Proofs.YtobglgddbhddnaaGreat

namespace Go.Proofs.YtobglgddbhddnaaGreat
open Go.RowKit
set_option linter.unusedVariables false

/-- All unlike bits of so many bytes. -/
def orF (f g : Nat → By) : Nat → By
  | 0 => 0#8
  | i + 1 => orF f g i ||| (f i ^^^ g i)
theorem or_zero (a b : By) : a ||| b = 0#8 ↔ a = 0#8 ∧ b = 0#8 := by
  constructor
  · intro h
    constructor
    · apply BitVec.eq_of_getLsbD_eq
      intro i hi
      have := congrArg (·.getLsbD i) h
      simp only [BitVec.getLsbD_or, BitVec.getLsbD_zero, Bool.or_eq_false_iff] at this
      rw [this.1, BitVec.getLsbD_zero]
    · apply BitVec.eq_of_getLsbD_eq
      intro i hi
      have := congrArg (·.getLsbD i) h
      simp only [BitVec.getLsbD_or, BitVec.getLsbD_zero, Bool.or_eq_false_iff] at this
      rw [this.2, BitVec.getLsbD_zero]
  · rintro ⟨rfl, rfl⟩
    rfl
theorem orF_zero (f g : Nat → By) (n : Nat) : orF f g n = 0#8 ↔ ∀ j, j < n → f j = g j := by
  induction n with
  | zero => exact ⟨fun _ j hj => by omega, fun _ => rfl⟩
  | succ n ih =>
    rw [orF, or_zero, ih]
    constructor
    · rintro ⟨h1, h2⟩ j hj
      by_cases h : j = n
      · subst h
        exact BitVec.xor_eq_zero_iff.1 h2
      · exact h1 j (by omega)
    · intro h
      exact ⟨fun j hj => h j (by omega), BitVec.xor_eq_zero_iff.2 (h n (by omega))⟩
def sameB (n : Nat) (f g : Nat → By) : Bool := orF f g n == 0#8
theorem sameB_iff (n : Nat) (f g : Nat → By) : sameB n f g = true ↔ ∀ j, j < n → f j = g j := by
  unfold sameB
  rw [beq_iff_eq, orF_zero]
theorem nmOx (x y z : By) : ∃ u : By, Hid (u = x ||| (y ^^^ z)) ∧ Go.bits .or .u8 (x.toNat : Int) (Go.bits .xor .u8 (y.toNat : Int) (z.toNat : Int)) = (u.toNat : Int) := ⟨_, rfl, by rw [xorB, u8_or_nat _ _ x.isLt (y ^^^ z).isLt, BitVec.toNat_or]⟩

set_option maxRecDepth 100000 in
set_option maxHeartbeats 4000000 in
theorem same_any (n b1 o1 c1 b2 o2 c2 : Nat) (f g : Nat → By) (w : World) (h1 : Bs w b1 o1 n f) (h2 : Bs w b2 o2 n g) (hn : n ≤ 140737488351232) :
    Calls Tryz.prog 45 #[.slice (some ⟨b1, o1, none⟩) n c1, .slice (some ⟨b2, o2, none⟩) n c2] w fun r w' => r = .returned (.bool (sameB n f g)) ∧ Chg w w' := by
  have HX : Hid (Bs w b1 o1 n f ∧ Bs w b2 o2 n g) := ⟨h1, h2⟩
  clear h1 h2
  have hd0 : ((n : Int) != n) = false := by simp
  go_enter Tryz.func45, Tryz.ntmps45
  go_wp2_with fail
  go_loopw [5, 14] (fun v v14 wr => ∃ (i : Nat), v14 = .int .i64 i ∧ i ≤ n ∧ v = .int .u8 ((orF f g i).toNat : Int) ∧ Chg w wr) (fun v v14 wr => n - (intOf v14).toNat)
  case atStart => exact ⟨0, rfl, by omega, rfl, Chg.refl w⟩
  case round =>
    obtain ⟨i, rfl, hi, rfl, hc⟩ := hrel
    have Z : Hid (Chg w wr) := hc
    obtain ⟨x, hx⟩ : ∃ x, x = orF f g i := ⟨_, rfl⟩
    have HXo : Hid (x = orF f g i) := hx
    rw [← hx]
    clear hx
    by_cases hin : i < n
    · have hd : decide ((i : Int) < n) = true := by simp; omega
      have li : (i : Int) < n := by omega
      have e1 := (HX.out.1.chg hc) i hin
      have e2 := (HX.out.2.chg hc) i hin
      obtain ⟨y, hy⟩ : ∃ y, y = f i := ⟨_, rfl⟩
      obtain ⟨z, hz⟩ : ∃ z, z = g i := ⟨_, rfl⟩
      rw [← hy] at e1
      rw [← hz] at e2
      obtain ⟨u, Hu, eu⟩ := nmOx x y z
      have HU : Hid (u = orF f g (i + 1)) := by
        show u = _
        rw [Hu.out, hy, hz, HXo.out]
        rfl
      clear hy hz Hu hc
      go_wp2_with fail
      go_region_with (fail)
      all_goals go_wp2
      all_goals
        go_roundw
        case rel => exact ⟨i + 1, by go_num, by omega, by rw [HU.out], Z.out.drew⟩
        case measure => simp [intOf]; omega
    · have hd : decide ((i : Int) < n) = false := by simp; omega
      have hi2 : i = n := by omega
      have hb : ((x.toNat : Int) == 0) = sameB n f g := by
        rw [HXo.out, hi2, sameB]
        rw [Bool.eq_iff_iff, beq_iff_eq, beq_iff_eq]
        constructor
        · intro h
          exact BitVec.eq_of_toNat_eq (by simpa using h)
        · intro h
          rw [h]
          rfl
      clear hc
      go_wp2
      go_ret
      exact ⟨rfl, Z.out⟩

theorem bp_tt {fn : Func} {R : Ending → World → Prop} {a : Act} {w : World} {p u : Nat} {x y : Value} (h : fn.results = #[.tmp p, .tmp u]) (hd : a.defers = []) (hx : a.tmps.getD p undef = x) (hy : a.tmps.getD u undef = y) (hR : R (.returned (.tuple #[x, y])) w) : bodyPost Tryz.prog fn R .ret a w := by
  refine bodyPost_ret (v := .tuple #[x, y]) ?_ hd hR
  rw [Array.getD_eq_getD_getElem?] at hx hy
  simp only [results, h]
  simp [hx, hy]
theorem op_not {o : Oper} {a : Act} {w : World} {K : Act → World → Prop} {Q : Exit → Act → World → Prop} (x : Operand) (b : Bool) (ho : o.op = .unOp .not 4 x) (hx : a.eval x = .bool b) (hK : K (a.put o.dst (.bool (!b))) w) : o.wp Tryz.prog a w K Q := by
  refine op_val1 (v := .bool (!b)) ?_ hK
  revert hx
  generalize a.eval = ρ
  intro hx
  simp [go_sem, execOp, ho, hx]
theorem range12 {w : World} {B : Nat} {f : Nat → By} (h : Ar w B (ba 12 f)) : w.rangeAt B 0 (ba 12 f).toList := by
  intro j v hv
  rw [Nat.zero_add, h.cell]
  simpa using hv
theorem info12 (f : Nat → By) : (Tryz.prog.info? 25).map (·.size) = some (ba 12 f).toList.length := by rw [Array.length_toList, ba_size]; exact zero38.2
theorem run_sliceLoB (b o n cap p : Nat) (hp : p ≤ n) (hn : n ≤ cap) (hc : cap ≤ 9223372036854775807) (hne : ¬ cap = p) (w : World) : (Instr.slice 24 (.slice (some ⟨b, o, none⟩) n cap) (some (.int .i64 (p : Int))) none none).run Tryz.prog w = .ok (.slice (some ⟨b, o + p, none⟩) (n - p) (cap - p)) w := by
  have h1 : (p : Int) ≤ n := by omega
  simp [Instr.slice, Instr.sliceBounds, Instr.sliceBound, run_underlying u22, asIntOf, Sem.run_bind, hp, hne, addr_add]
theorem run_sliceArr (b : Nat) (w : World) : (Instr.sliceAt 62 (.pointer (some ⟨b, 0, none⟩)) none none none).run Tryz.prog w = .ok (.slice (some ⟨b, 0, none⟩) 16 16) w := by
  simp [go_sem]

set_option maxRecDepth 100000 in
set_option maxHeartbeats 4000000 in
theorem openBad_any (ao : Option Addr) (L cap : Nat) (nc : Nat → By) (va vx : Value) (w : World) (h1 : L ≠ 16) (h2 : L ≠ 32) :
    Calls Tryz.prog 28 #[.slice ao L cap, .agg (ba 12 nc), va, vx] w fun r w' => r = .returned (.tuple #[.slice none 0 0, .int .i64 1]) ∧ Chg w w' := by
  have hsA := ba_size 12 nc
  obtain ⟨A, hA⟩ : ∃ A, A = ba 12 nc := ⟨_, rfl⟩
  rw [← hA] at hsA ⊢
  clear hA
  go_enter Tryz.func28, Tryz.ntmps28
  go_wp2_with (first | (go_at_call 41; refine (newBad_any ao L cap _ h1 h2).mono ?_; rintro r w2 ⟨rfl, hw2⟩; rw [hw2]))
  go_ret2
  exact ⟨rfl, (Chg.refl w).alloc _⟩

set_option maxRecDepth 100000 in
set_option maxHeartbeats 4000000 in
theorem openShort_any (kb ko cap L n R : Nat) (key nc : Nat → By) (ns cs : Nat) (sa : Option Addr) (va : Value) (w : World) (hv : Bs w kb ko L key) (hL : L = 4 * n) (hn : n = 4 ∨ n = 8) (hR : R = n + 6) (hcap : L ≤ cap) (hcap' : cap ≤ 9223372036854775807) (h16 : ns < 16) :
    Calls Tryz.prog 28 #[.slice (some ⟨kb, ko, none⟩) L cap, .agg (ba 12 nc), va, .slice sa ns cs] w fun r w' => r = .returned (.tuple #[.slice none 0 0, .int .i64 81]) ∧ Chg w w' := by
  have hsA := ba_size 12 nc
  obtain ⟨A, hA⟩ : ∃ A, A = ba 12 nc := ⟨_, rfl⟩
  have HX : Hid (Bs w kb ko L key ∧ L = 4 * n ∧ (n = 4 ∨ n = 8) ∧ R = n + 6 ∧ L ≤ cap ∧ cap ≤ 9223372036854775807) := ⟨hv, hL, hn, hR, hcap, hcap'⟩
  rw [← hA] at hsA ⊢
  clear hA hv hL hn hR hcap hcap'
  have hd : decide ((ns : Int) < 16) = true := by simp; omega
  go_enter Tryz.func28, Tryz.ntmps28
  go_upto_region 1 with fail
  obtain ⟨w1, hw1⟩ : ∃ w1, w1 = w.alloc (.cells A 25) := ⟨_, rfl⟩
  have Z1 : Hid (Chg w w1) := by
    rw [hw1]
    exact (Chg.refl w).alloc _
  rw [← hw1]
  clear hw1 hsA
  go_wp2_with fail
  go_at_call 41
  refine (new_any kb ko cap L n R key w1 (HX.out.1.chg Z1.out) HX.out.2.1 HX.out.2.2.1 HX.out.2.2.2.1 HX.out.2.2.2.2.1 HX.out.2.2.2.2.2).mono ?_
  rintro r w2 ⟨K, k, rfl, hK, hc2, hA, hks⟩
  have Z2 : Hid (Chg w w2) := Z1.out.trans hc2
  clear hK hc2 hA hks
  go_wp2_with fail
  go_ret2
  exact ⟨rfl, Z2.out⟩

set_option maxRecDepth 100000 in
set_option maxHeartbeats 8000000 in
theorem open_any (kb ko cap L n R : Nat) (key nc ta sf : Nat → By) (na m sb so cs : Nat) (va : Value) (w : World) (hv : Bs w kb ko L key) (hL : L = 4 * n) (hn : n = 4 ∨ n = 8) (hR : R = n + 6) (hcap : L ≤ cap) (hcap' : cap ≤ 9223372036854775807)
    (hva : Ap.Rd w va (nums na ta)) (hvs : Bs w sb so (m + 16) sf) (hcs : m + 16 ≤ cs) (hcs' : cs ≤ 9223372036854775807) (hna : na ≤ 140737488351232) (hns : m + 16 ≤ 140737488351232) :
    Calls Tryz.prog 28 #[.slice (some ⟨kb, ko, none⟩) L cap, .agg (ba 12 nc), va, .slice (some ⟨sb, so, none⟩) (m + 16) cs] w fun r w' => ∃ k, Ks n (4 * (R + 1)) key k ∧ Chg w w' ∧
      ((sameB 16 (tagF R k nc ta na sf m) (fun j => sf (m + j)) = true ∧ ∃ v, r = .returned (.tuple #[v, .int .i64 0]) ∧ Ap.Rd w' v (nums m (stF R k (ctrB nc 2#8) sf))) ∨
       (sameB 16 (tagF R k nc ta na sf m) (fun j => sf (m + j)) = false ∧ r = .returned (.tuple #[.slice none 0 0, .int .i64 81]))) := by
  obtain ⟨va1, va2, va3, rfl, -⟩ := hva.shape
  obtain ⟨va, hva0⟩ : ∃ va : Value, va = .slice va1 va2 va3 := ⟨_, rfl⟩
  have hsA := ba_size 12 nc
  have hszA := szB nc zero38.2
  obtain ⟨ns, hns0⟩ : ∃ ns, ns = m + 16 := ⟨_, rfl⟩
  have HNS : Hid (ns = m + 16) := hns0
  have hsub : (ns : Int) - 16 = m := by omega
  have wm := wrap_i (x := (m : Int)) (by omega) (by omega)
  have hd : decide ((ns : Int) < 16) = false := by simp; omega
  obtain ⟨lo, hlo0, hlo1⟩ := run_sliceHi (some ⟨sb, so, none⟩) ns cs m (by omega) hcs'
  have hlo : ∀ u, (Instr.sliceAt 24 (.slice (some ⟨sb, so, none⟩) ns cs) none (some (.int .i64 (m : Int))) none).run Tryz.prog u = .ok (.slice lo m cs) u := fun u => (run_sliceAt_slice u 24 _ _ _ _ (by kernel_rfl)).trans (hlo0 u)
  have hhi : ∀ u, (Instr.sliceAt 24 (.slice (some ⟨sb, so, none⟩) ns cs) (some (.int .i64 (m : Int))) none none).run Tryz.prog u = .ok (.slice (some ⟨sb, so + m, none⟩) 16 (cs - m)) u := fun u => by
    have := (run_sliceAt_slice u 24 _ _ _ _ (by kernel_rfl)).trans (run_sliceLoB sb so ns cs m (by omega) (by omega) hcs' (by omega) u)
    rwa [show ns - m = 16 by omega] at this
  rw [← hns0]
  have HX : Hid (Bs w kb ko L key ∧ L = 4 * n ∧ (n = 4 ∨ n = 8) ∧ R = n + 6 ∧ L ≤ cap ∧ cap ≤ 9223372036854775807) := ⟨hv, hL, hn, hR, hcap, hcap'⟩
  have HS : Hid (Bs w sb (so + m) 16 (fun j => sf (m + j))) := fun j hj => by
    have := hvs (m + j) (by omega)
    rwa [← Nat.add_assoc] at this
  have HV : Hid (Ap.Rd w va (nums na ta) ∧ (∀ u, Chg w u → Ap.Rd u (.slice lo m cs) (nums m sf)) ∧ na ≤ 140737488351232 ∧ m ≤ 140737488351232) := by
    refine ⟨by rw [hva0]; exact hva, fun u c => ?_, hna, by omega⟩
    refine hlo1 u sf (Rd.chg (Bs.rd (f := sf) ?_ (by omega) hcs') c) (by omega)
    rw [hns0]
    exact hvs
  rw [← hva0]
  have hR2 : R = 10 ∨ R = 14 := by omega
  obtain ⟨A, hA⟩ : ∃ A, A = ba 12 nc := ⟨_, rfl⟩
  have HA : Hid (A = ba 12 nc) := hA
  rw [← hA] at hsA hszA ⊢
  clear hA hv hL hn hR hcap hcap' hva hvs hna hns hlo0 hlo1 hns0 hva0
  have hz := zero32.1
  go_enter Tryz.func28, Tryz.ntmps28
  go_upto_region 1 with fail
  obtain ⟨w1, hw1⟩ : ∃ w1, w1 = w.alloc (.cells A 25) := ⟨_, rfl⟩
  have Z1 : Hid (Chg w w1 ∧ Ar w1 w.heap.size (ba 12 nc)) := by
    rw [hw1, HA.out]
    exact ⟨(Chg.refl w).alloc _, Ar.new w _ _⟩
  rw [← hw1]
  clear hw1 hsA
  go_wp2_with fail
  go_at_call 41
  refine (new_any kb ko cap L n R key w1 (HX.out.1.chg Z1.out.1) HX.out.2.1 HX.out.2.2.1 HX.out.2.2.2.1 HX.out.2.2.2.2.1 HX.out.2.2.2.2.2).mono ?_
  rintro r w2 ⟨K, k, rfl, hK, hc2, hA, hks⟩
  obtain ⟨w4, hw4⟩ : ∃ w4, w4 = w2 := ⟨_, rfl⟩
  have Z4 : Hid (Chg w w4 ∧ Ar w4 w.heap.size (ba 12 nc) ∧ Ar w4 K (keyC R k)) := by
    rw [hw4]
    exact ⟨Z1.out.1.trans hc2, Z1.out.2.chg hc2, hA⟩
  have HKs : Hid (Ks n (4 * (R + 1)) key k) := hks
  rw [← hw4]
  clear hK hc2 hA hks Z1 hw4
  obtain ⟨T, hT⟩ : ∃ T, T = tagF R k nc ta na sf m := ⟨_, rfl⟩
  have HTe : Hid (T = tagF R k nc ta na sf m) := hT
  have HT : Hid (∀ u, Chg w4.drew u → Calls Tryz.prog 44 #[.pointer (some ⟨K, 0, none⟩), .agg (ba 12 nc), va, .slice lo m cs] u fun r w' => r = .returned (.agg (ba 16 T)) ∧ Chg u w') := by
    intro u c
    rw [hT]
    have c0 := Z4.out.1.drew.trans c
    exact tag_any K R k nc ta sf na m va _ u (Ar.chg (w := w4.drew) Z4.out.2.2 c) hR2 (Rd.chg HV.out.1 c0) (HV.out.2.1 u c0) HV.out.2.2.1 HV.out.2.2.2
  clear hT
  go_upto_region 7 with fail
  go_cut [13] from 28 to 35 (fun v wc => ∃ Bt, v = .pointer (some ⟨Bt, 0, none⟩) ∧ Chg w4 wc ∧ Ar wc Bt (ba 16 T))
  case first =>
    refine wp_region_good 8 (fun j v wg => match j with
      | 0 => v = .pointer (some ⟨K, 0, none⟩)
      | 1 => v = .agg (ba 12 nc)
      | 2 => v = va
      | 3 => v = .slice (some ⟨sb, so, none⟩) ns cs
      | 4 => v = .int .i64 (m : Int)
      | 5 => v = .slice lo m cs
      | 6 => v = .agg (ba 16 T)
      | 7 => ∃ bx, v = .pointer (some ⟨bx, 0, none⟩) ∧ Ar wg bx (ba 16 zB) ∧ w4.heap.size ≤ bx
      | _ => True) (by kernel_rfl) (by kernel_rfl) (by kernel_rfl) (by kernel_rfl) (by kernel_rfl) ?_ ?_ ?_
    · intro j v u1 u2 h hc
      match j, h with
      | 0, h => exact h
      | 1, h => exact h
      | 2, h => exact h
      | 3, h => exact h
      | 4, h => exact h
      | 5, h => exact h
      | 6, h => exact h
      | 7, h => (obtain ⟨bx, h1, h2, h3⟩ := h; exact ⟨bx, h1, h2.chg hc, h3⟩)
      | _ + 8, h => exact trivial
    · intro i o ac u hi ho hsz hf hg hc
      have hcs : i = 0 ∨ i = 1 ∨ i = 2 ∨ i = 3 ∨ i = 4 ∨ i = 5 ∨ i = 6 ∨ i = 7 := by omega
      rcases hcs with rfl | rfl | rfl | rfl | rfl | rfl | rfl | rfl
      · injection ho with ho
        subst ho
        refine .inl ⟨wanted_none rfl, ?_⟩
        have e1 : ac.eval (.tmp 10) = .pointer (some ⟨K, 0, none⟩) := hf 10 (by kernel_rfl)
        exact opG_val (by simp [execOp, e1]) rfl (Chg.refl _)
      · injection ho with ho
        subst ho
        refine .inl ⟨wanted_none rfl, ?_⟩
        have e1 : ac.eval (.tmp 5) = .pointer (some ⟨w.heap.size, 0, none⟩) := hf 5 (by kernel_rfl)
        exact wp_load_mid 25 (.tmp 5) rfl _ _ e1 ((ba 12 nc).toList) _ (range12 (Ar.chg (w := w4.drew) Z4.out.2.1 hc)) und38 rfl (info12 _) ⟨_, rfl, rfl, Chg.refl _⟩
      · injection ho with ho
        subst ho
        refine .inl ⟨wanted_none rfl, ?_⟩
        have e1 : ac.eval (.tmp 2) = va := hf 2 (by kernel_rfl)
        exact opG_val (by simp [execOp, e1]) rfl (Chg.refl _)
      · injection ho with ho
        subst ho
        refine .inl ⟨wanted_none rfl, ?_⟩
        have e1 : ac.eval (.tmp 3) = .slice (some ⟨sb, so, none⟩) ns cs := hf 3 (by kernel_rfl)
        exact opG_val (by simp [execOp, e1]) rfl (Chg.refl _)
      · injection ho with ho
        subst ho
        refine .inl ⟨wanted_none rfl, ?_⟩
        have e1 : ac.eval (.tmp 12) = .int .i64 (m : Int) := hf 12 (by kernel_rfl)
        exact opG_val (by simp [execOp, e1]) rfl (Chg.refl _)
      · injection ho with ho
        subst ho
        refine .inl ⟨wanted_none rfl, ?_⟩
        have e1 : ac.eval (.tmp 31) = .slice (some ⟨sb, so, none⟩) ns cs := hg 3 (by kernel_rfl) (by decide)
        have e2 : ac.eval (.tmp 32) = .int .i64 (m : Int) := hg 4 (by kernel_rfl) (by decide)
        exact opG_val (by simp [execOp, e1, e2, hlo]) rfl (Chg.refl _)
      · injection ho with ho
        subst ho
        refine .inl ⟨wanted_none rfl, ?_⟩
        have e1 : ac.eval (.tmp 28) = .pointer (some ⟨K, 0, none⟩) := hg 0 (by kernel_rfl) (by decide)
        have e2 : ac.eval (.tmp 29) = .agg (ba 12 nc) := hg 1 (by kernel_rfl) (by decide)
        have e3 : ac.eval (.tmp 30) = va := hg 2 (by kernel_rfl) (by decide)
        have e4 : ac.eval (.tmp 33) = .slice lo m cs := hg 5 (by kernel_rfl) (by decide)
        refine opG_go 44 Tryz.f44 #[.tmp 28, .tmp 29, .tmp 30, .tmp 33] #[77, 25, 24, 24] rfl Tryz.func44 (by kernel_rfl) (by kernel_rfl) (by simp [e1, e2, e3, e4]) (Calls.mono (HT.out _ (hc) ) ?_)
        rintro r u2 ⟨rfl, hc2⟩
        exact ⟨_, rfl, rfl, hc2⟩
      · injection ho with ho
        subst ho
        refine .inl ⟨wanted_none rfl, ?_⟩
        exact opG_val (v := .pointer (some ⟨u.heap.size, 0, none⟩)) (w' := u.alloc (.cells (ba 16 zB) 62)) (by generalize ac.eval = ρ; simp [go_sem, execOp, zero32.1]) ⟨_, rfl, Ar.new _ _ _, (show w4.heap.size ≤ u.heap.size from hc.size)⟩ ((Chg.refl _).alloc _)
    · intro o u V ho hV hc
      injection ho with ho
      subst ho
      refine ⟨rfl, ?_⟩
      have q28 : V 0 = .pointer (some ⟨K, 0, none⟩) := hV 0 (by decide)
      have q29 : V 1 = .agg (ba 12 nc) := hV 1 (by decide)
      have q30 : V 2 = va := hV 2 (by decide)
      have q31 : V 3 = .slice (some ⟨sb, so, none⟩) ns cs := hV 3 (by decide)
      have q32 : V 4 = .int .i64 (m : Int) := hV 4 (by decide)
      have q33 : V 5 = .slice lo m cs := hV 5 (by decide)
      have q34 : V 6 = .agg (ba 16 T) := hV 6 (by decide)
      obtain ⟨bx, q13, ⟨xx, xl⟩⟩ := hV 7 (by decide)
      refine wp_store_mid 62 (.tmp 13) (.tmp 34) rfl bx 0 (ba 16 T) (Eq.trans (by rfl) q13) (Eq.trans (by rfl) q34) (by rw [ba_size]; exact thereB xx) (by rw [ba_size]; exact i32) (ba_one _ _) ?_
      rw [show (ba 16 T).toList = bl T from rfl, setRow_of xx _]
      go_wp2_with fail
      go_meet
      exact ⟨bx, q13, ((Chg.refl w4).drew.trans hc).setRow xl _, xx.row _⟩
  case rest =>
    obtain ⟨Bt, rfl, c5, a5⟩ := hcut
    obtain ⟨w5, hw5⟩ : ∃ w5, w5 = wc := ⟨_, rfl⟩
    have Z5 : Hid (Chg w w5 ∧ Ar w5 w.heap.size (ba 12 nc) ∧ Ar w5 K (keyC R k) ∧ Ar w5 Bt (ba 16 T)) := by
      rw [hw5]
      exact ⟨Z4.out.1.trans c5, Z4.out.2.1.chg c5, Z4.out.2.2.chg c5, a5⟩
    rw [← hw5]
    have hsa := run_sliceArr Bt
    obtain ⟨bb, hbb⟩ : ∃ bb, bb = sameB 16 T (fun j => sf (m + j)) := ⟨_, rfl⟩
    have HBB : Hid (bb = sameB 16 T (fun j => sf (m + j))) := hbb
    clear hw5 c5 a5 Z4 HT
    go_upto_region 8 with fail
    go_cut [40] from 35 to 40 (fun v wc => v = .bool (!bb) ∧ Chg w5 wc)
    case first =>
      refine wp_region_good 5 (fun j v wg => match j with
        | 0 => v = .slice (some ⟨Bt, 0, none⟩) 16 16
        | 1 => v = .slice (some ⟨sb, so, none⟩) ns cs
        | 2 => v = .int .i64 (m : Int)
        | 3 => v = .slice (some ⟨sb, so + m, none⟩) 16 (cs - m)
        | 4 => v = .bool (sameB 16 T (fun j => sf (m + j)))
        | _ => True) (by kernel_rfl) (by kernel_rfl) (by kernel_rfl) (by kernel_rfl) (by kernel_rfl) ?_ ?_ ?_
      · intro j v u1 u2 h hc
        match j, h with
        | 0, h => exact h
        | 1, h => exact h
        | 2, h => exact h
        | 3, h => exact h
        | 4, h => exact h
        | _ + 5, h => exact trivial
      · intro i o ac u hi ho hsz hf hg hc
        have hcs : i = 0 ∨ i = 1 ∨ i = 2 ∨ i = 3 ∨ i = 4 := by omega
        rcases hcs with rfl | rfl | rfl | rfl | rfl
        · injection ho with ho
          subst ho
          refine .inl ⟨wanted_none rfl, ?_⟩
          have e1 : ac.eval (.tmp 13) = .pointer (some ⟨Bt, 0, none⟩) := hf 13 (by kernel_rfl)
          exact opG_val (by simp [execOp, e1, hsa]) rfl (Chg.refl _)
        · injection ho with ho
          subst ho
          refine .inl ⟨wanted_none rfl, ?_⟩
          have e1 : ac.eval (.tmp 3) = .slice (some ⟨sb, so, none⟩) ns cs := hf 3 (by kernel_rfl)
          exact opG_val (by simp [execOp, e1]) rfl (Chg.refl _)
        · injection ho with ho
          subst ho
          refine .inl ⟨wanted_none rfl, ?_⟩
          have e1 : ac.eval (.tmp 12) = .int .i64 (m : Int) := hf 12 (by kernel_rfl)
          exact opG_val (by simp [execOp, e1]) rfl (Chg.refl _)
        · injection ho with ho
          subst ho
          refine .inl ⟨wanted_none rfl, ?_⟩
          have e1 : ac.eval (.tmp 36) = .slice (some ⟨sb, so, none⟩) ns cs := hg 1 (by kernel_rfl) (by decide)
          have e2 : ac.eval (.tmp 37) = .int .i64 (m : Int) := hg 2 (by kernel_rfl) (by decide)
          exact opG_val (by simp [execOp, e1, e2, hhi]) rfl (Chg.refl _)
        · injection ho with ho
          subst ho
          refine .inl ⟨wanted_none rfl, ?_⟩
          have e1 : ac.eval (.tmp 35) = .slice (some ⟨Bt, 0, none⟩) 16 16 := hg 0 (by kernel_rfl) (by decide)
          have e2 : ac.eval (.tmp 38) = .slice (some ⟨sb, so + m, none⟩) 16 (cs - m) := hg 3 (by kernel_rfl) (by decide)
          refine opG_go 45 Tryz.f45 #[.tmp 35, .tmp 38] #[24, 24] rfl Tryz.func45 (by kernel_rfl) (by kernel_rfl) (by simp [e1, e2]) (Calls.mono (same_any 16 Bt 0 16 sb (so + m) (cs - m) T (fun j => sf (m + j)) _ (Ar.bs (Ar.chg (w := w5.drew) Z5.out.2.2.2 hc)) (Bs.chg HS.out (Z5.out.1.drew.trans hc)) (by decide)) ?_)
          rintro r u2 ⟨rfl, hc2⟩
          exact ⟨_, rfl, rfl, hc2⟩
      · intro o u V ho hV hc
        injection ho with ho
        subst ho
        refine ⟨rfl, ?_⟩
        have q35 : V 0 = .slice (some ⟨Bt, 0, none⟩) 16 16 := hV 0 (by decide)
        have q36 : V 1 = .slice (some ⟨sb, so, none⟩) ns cs := hV 1 (by decide)
        have q37 : V 2 = .int .i64 (m : Int) := hV 2 (by decide)
        have q38 : V 3 = .slice (some ⟨sb, so + m, none⟩) 16 (cs - m) := hV 3 (by decide)
        have q39 : V 4 = .bool (sameB 16 T (fun j => sf (m + j))) := hV 4 (by decide)
        rw [← hbb] at q39
        refine op_not (.tmp 39) bb rfl (Eq.trans (by rfl) q39) ?_
        go_wp2_with fail
        go_meet
        exact ⟨rfl, (Chg.refl w5).drew.trans hc⟩
    case rest =>
      obtain ⟨rfl, c6⟩ := hcut
      obtain ⟨w6, hw6⟩ : ∃ w6, w6 = wc := ⟨_, rfl⟩
      have Z6 : Hid (Chg w w6 ∧ Ar w6 w.heap.size (ba 12 nc) ∧ Ar w6 K (keyC R k)) := by
        rw [hw6]
        exact ⟨Z5.out.1.trans c6, Z5.out.2.1.chg c6, Z5.out.2.2.1.chg c6⟩
      rw [← hw6]
      clear hw6 c6 Z5 hsa hhi hbb
      cases bb with
      | false =>
        go_wp2_with fail
        go_ret2
        exact ⟨k, HKs.out, Z6.out.1, .inr ⟨by rw [← HTe.out, ← HBB.out], rfl⟩⟩
      | true =>
        obtain ⟨c2, hc2⟩ : ∃ c, c = ctrB nc 2#8 := ⟨_, rfl⟩
        obtain ⟨st, hst⟩ : ∃ st, st = stF R k (ctrB nc 2#8) sf := ⟨_, rfl⟩
        have HST : Hid (st = stF R k (ctrB nc 2#8) sf) := hst
        have HC : Hid (∀ u, Calls Tryz.prog 43 #[.agg (ba 12 nc), .int .u8 2] u fun r w' => r = .returned (.agg (ba 16 c2)) ∧ Chg u w') := by
          rw [hc2]
          exact fun u => counter_any nc 2#8 u
        have HSt : Hid (∀ u, Chg w6.drew u → Calls Tryz.prog 42 #[.pointer (some ⟨K, 0, none⟩), .agg (ba 16 c2), .slice lo m cs] u fun r w' => ∃ g, r = .returned (.slice (some ⟨g, 0, none⟩) m m) ∧ u.heap.size ≤ g ∧ Chg u w' ∧ Ar w' g (ba m st)) := by
          intro u c
          rw [hst, hc2]
          have c0 := Z6.out.1.drew.trans c
          exact streamV_any K R m k (ctrB nc 2#8) sf _ u (Ar.chg (w := w6.drew) Z6.out.2.2 c) hR2 (HV.out.2.1 u c0) HV.out.2.2.2
        clear hc2 hst
        go_upto_region 10 with fail
        refine wp_region_good 8 (fun j v wg => match j with
          | 0 => v = .pointer (some ⟨K, 0, none⟩)
          | 1 => v = .agg (ba 12 nc)
          | 2 => v = .agg (ba 16 c2)
          | 3 => v = .slice (some ⟨sb, so, none⟩) ns cs
          | 4 => v = .int .i64 (m : Int)
          | 5 => v = .slice lo m cs
          | 6 => ∃ gx, v = .slice (some ⟨gx, 0, none⟩) m m ∧ Ar wg gx (ba m st) ∧ w.heap.size ≤ gx
          | 7 => ∃ gx, v = .slice (some ⟨gx, 0, none⟩) m m ∧ Ar wg gx (ba m st) ∧ w.heap.size ≤ gx
          | _ => True) (by kernel_rfl) (by kernel_rfl) (by kernel_rfl) (by kernel_rfl) (by kernel_rfl) ?_ ?_ ?_
        · intro j v u1 u2 h hc
          match j, h with
          | 0, h => exact h
          | 1, h => exact h
          | 2, h => exact h
          | 3, h => exact h
          | 4, h => exact h
          | 5, h => exact h
          | 6, h => (obtain ⟨gx, h1, h2, h3⟩ := h; exact ⟨gx, h1, h2.chg hc, h3⟩)
          | 7, h => (obtain ⟨gx, h1, h2, h3⟩ := h; exact ⟨gx, h1, h2.chg hc, h3⟩)
          | _ + 8, h => exact trivial
        · intro i o ac u hi ho hsz hf hg hc
          have hcs : i = 0 ∨ i = 1 ∨ i = 2 ∨ i = 3 ∨ i = 4 ∨ i = 5 ∨ i = 6 ∨ i = 7 := by omega
          rcases hcs with rfl | rfl | rfl | rfl | rfl | rfl | rfl | rfl
          · injection ho with ho
            subst ho
            refine .inl ⟨wanted_none rfl, ?_⟩
            have e1 : ac.eval (.tmp 10) = .pointer (some ⟨K, 0, none⟩) := hf 10 (by kernel_rfl)
            exact opG_val (by simp [execOp, e1]) rfl (Chg.refl _)
          · injection ho with ho
            subst ho
            refine .inl ⟨wanted_none rfl, ?_⟩
            have e1 : ac.eval (.tmp 5) = .pointer (some ⟨w.heap.size, 0, none⟩) := hf 5 (by kernel_rfl)
            exact wp_load_mid 25 (.tmp 5) rfl _ _ e1 ((ba 12 nc).toList) _ (range12 (Ar.chg (w := w6.drew) Z6.out.2.1 hc)) und38 rfl (info12 _) ⟨_, rfl, rfl, Chg.refl _⟩
          · injection ho with ho
            subst ho
            refine .inl ⟨wanted_none rfl, ?_⟩
            have e1 : ac.eval (.tmp 42) = .agg (ba 12 nc) := hg 1 (by kernel_rfl) (by decide)
            have e2 : ac.eval (.const (.int .u8 2)) = .int .u8 2 := rfl
            refine opG_go 43 Tryz.f43 #[.tmp 42, .const (.int .u8 2)] #[25, 5] rfl Tryz.func43 (by kernel_rfl) (by kernel_rfl) (by simp [e1, e2]) (Calls.mono (HC.out _) ?_)
            rintro r u2 ⟨rfl, hc2⟩
            exact ⟨_, rfl, rfl, hc2⟩
          · injection ho with ho
            subst ho
            refine .inl ⟨wanted_none rfl, ?_⟩
            have e1 : ac.eval (.tmp 3) = .slice (some ⟨sb, so, none⟩) ns cs := hf 3 (by kernel_rfl)
            exact opG_val (by simp [execOp, e1]) rfl (Chg.refl _)
          · injection ho with ho
            subst ho
            refine .inl ⟨wanted_none rfl, ?_⟩
            have e1 : ac.eval (.tmp 12) = .int .i64 (m : Int) := hf 12 (by kernel_rfl)
            exact opG_val (by simp [execOp, e1]) rfl (Chg.refl _)
          · injection ho with ho
            subst ho
            refine .inl ⟨wanted_none rfl, ?_⟩
            have e1 : ac.eval (.tmp 44) = .slice (some ⟨sb, so, none⟩) ns cs := hg 3 (by kernel_rfl) (by decide)
            have e2 : ac.eval (.tmp 45) = .int .i64 (m : Int) := hg 4 (by kernel_rfl) (by decide)
            exact opG_val (by simp [execOp, e1, e2, hlo]) rfl (Chg.refl _)
          · injection ho with ho
            subst ho
            refine .inl ⟨wanted_none rfl, ?_⟩
            have e1 : ac.eval (.tmp 41) = .pointer (some ⟨K, 0, none⟩) := hg 0 (by kernel_rfl) (by decide)
            have e2 : ac.eval (.tmp 43) = .agg (ba 16 c2) := hg 2 (by kernel_rfl) (by decide)
            have e3 : ac.eval (.tmp 46) = .slice lo m cs := hg 5 (by kernel_rfl) (by decide)
            refine opG_go 42 Tryz.f42 #[.tmp 41, .tmp 43, .tmp 46] #[77, 62, 24] rfl Tryz.func42 (by kernel_rfl) (by kernel_rfl) (by simp [e1, e2, e3]) (Calls.mono (HSt.out _ hc) ?_)
            rintro e u2 ⟨gy, rfl, hg1, hg2, hg3⟩
            exact ⟨_, rfl, ⟨gy, rfl, hg3, Nat.le_trans (Nat.le_trans Z6.out.1.size hc.size) hg1⟩, hg2⟩
          · injection ho with ho
            subst ho
            refine .inl ⟨wanted_none rfl, ?_⟩
            obtain ⟨gx, e10, ⟨xx, xl⟩⟩ := hg 6 (by kernel_rfl) (by decide)
            have e1 : ac.eval (.tmp 47) = .slice (some ⟨gx, 0, none⟩) m m := e10
            exact opG_val (by simp [execOp, e1]) ⟨gx, rfl, xx, xl⟩ (Chg.refl _)
        · intro o u V ho hV hc
          injection ho with ho
          subst ho
          refine ⟨rfl, ?_⟩
          have q41 : V 0 = .pointer (some ⟨K, 0, none⟩) := hV 0 (by decide)
          have q42 : V 1 = .agg (ba 12 nc) := hV 1 (by decide)
          have q43 : V 2 = .agg (ba 16 c2) := hV 2 (by decide)
          have q44 : V 3 = .slice (some ⟨sb, so, none⟩) ns cs := hV 3 (by decide)
          have q45 : V 4 = .int .i64 (m : Int) := hV 4 (by decide)
          have q46 : V 5 = .slice lo m cs := hV 5 (by decide)
          obtain ⟨gx, q47, ⟨xx, xl⟩⟩ := hV 6 (by decide)
          obtain ⟨gx2, q8, ⟨xx2, xl2⟩⟩ := hV 7 (by decide)
          refine op_val1 (v := .int .i64 0) rfl ?_
          go_wp2_with fail
          have hb := HV.out.2.2.2
          refine bp_tt Tryz.results28 rfl (Eq.trans (by rfl) q8) (by rfl) ⟨k, HKs.out, Z6.out.1.drew.trans hc, .inl ⟨by rw [← HTe.out, ← HBB.out], _, rfl, ?_⟩⟩
          rw [← HST.out]
          exact Bs.rd (Ar.bs xx2) (Nat.le_refl _) (by omega)
end Go.Proofs.YtobglgddbhddnaaGreat
