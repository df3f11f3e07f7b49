/-
  Slices of bytes and blocks among the arguments, opened.
  What the bound gives: slices of bytes among the arguments, no longer than it; a nonce.
  The locks of the three suites, and how one is found.
  Keys as the layers below take them: bytes as they are, an array of 32; chacha's Seal with an error.
-/
import Derived.Test.YtobglgddbhddnaaGreatRows
import Derived.Test.YtobglgddbhddnaaGreatJ02
import Derived.SizedLaws
import Derived.WalkKit
import Derived.ProofKit
import Derived.OpenShut
import Derived.ChangeOld
import Derived.Below
import Derived.JoinedCond
import Derived.Test.YtobglgddbhddnaaGreatJ01
import Derived.Test.YtobglgddbhddnaaGreatJ08
import Derived.Test.YtobglgddbhddnaaGreatJ03
import Derived.Test.YtobglgddbhddnaaGreatJ27
namespace Go.Proofs.YtobglgddbhddnaaGreat
open Go.ChangeShapes Go.WideShapes Go.ChangeAt Go.RowKit
set_option linter.unusedVariables false
set_option maxRecDepth 100000

theorem own : ownKnob Tryz.prog.godebug = none := by kernel_rfl
theorem laidOut : laidOutB Tryz.prog = true := by kernel_rfl
theorem bytes5 : Tryz.prog.bytesOf 5 = 1 := by kernel_rfl
theorem cells5 : Tryz.prog.cellsOf 5 = 1 := by kernel_rfl
theorem cells32 : Tryz.prog.cellsOf 62 = 16 := by kernel_rfl
theorem below {W W' : World} (h : Chg W W') : Below W.heap.size W W' := ⟨h.os, h.tape, h.output, h.size, h.block⟩

def fList (xs : List Int) : Nat → By := fun i => BitVec.ofNat 8 (xs.getD i 0).toNat
theorem fList_nums (xs : List Int) (h : ∀ x ∈ xs, 0 ≤ x ∧ x < 256) : nums xs.length (fList xs) = xs := by
  apply List.ext_getElem?
  intro j
  by_cases hj : j < xs.length
  · rw [nums_get _ _ hj, List.getElem?_eq_getElem hj]
    have h1 := h xs[j] (List.getElem_mem hj)
    have e : xs.getD j 0 = xs[j] := by simp [List.getD_eq_getElem?_getD, List.getElem?_eq_getElem hj]
    unfold fList
    rw [e, BitVec.toNat_ofNat]
    congr 1
    omega
  · rw [List.getElem?_eq_none (by rw [nums_len]; omega), List.getElem?_eq_none (by omega)]

/-- A slice of bytes that came in can be read. -/
theorem bytes_in {H : Type} {enc : TypeId × Value → H} {W : World} {ts : List TypeId} {ds : List (DataW H)} (hsz : (DataW.weightsEach Tryz.prog ts ds).all (· ≤ reachBytes) = true) {j : Nat} (hj : ts[j]? = some 24) {d : DataW H} (hd : ds[j]? = some d)
    {a : Option Addr} {len cap : Nat} {ps : List MemPlace} (h : DataW.Trod enc Tryz.prog W 0 (fun _ => true) true 24 (.slice a len cap) d ps) : ∃ f, Ap.Rd W (.slice a len cap) (nums len f) ∧ len ≤ 140737488351232 := by
  obtain ⟨fuel, hf⟩ := h
  rcases open_ints Tryz.underlying24 Tryz.underlying5 cells5 hf with ⟨hcs, _⟩ | ⟨x, l, c, zs, hcs, _, hl, hm, hz, hx, hcell, hwz⟩
  · simp [Value.cells] at hcs
    obtain ⟨rfl, rfl, rfl⟩ := hcs
    exact ⟨zB, Ap.Rd.nil W, by simp⟩
  · simp [Value.cells] at hcs
    obtain ⟨rfl, rfl, rfl⟩ := hcs
    have hz' : zs.length = cap := by simpa using hz
    simp only [Prod.mk.injEq] at hx
    have hd' : d = .slice (lits .u8 (zs.take len)) (lits .u8 (zs.drop len)) := hx.1
    subst hd'
    have hre := sized_slice hsz (j := j) (t := 24) (e := 5) hj hd Tryz.underlying24
    rw [bytes5] at hre
    simp only [lits, List.length_map, List.length_take, List.length_drop, reachBytes] at hre
    have hlen : (zs.take len).length = len := by rw [List.length_take]; omega
    have hby : ∀ y ∈ zs.take len, 0 ≤ y ∧ y < 256 := fun y hy => by
      have := hwz y (List.mem_of_mem_take hy)
      simp only [Lit.wf, Bool.and_eq_true, decide_eq_true_eq] at this
      have h0 : IntKind.u8.min = 0 := rfl
      have h1 : IntKind.u8.max = 255 := rfl
      omega
    refine ⟨fList (zs.take len), ?_, by omega⟩
    have e := fList_nums _ hby
    rw [hlen] at e
    rw [e]
    refine ⟨_, _, _, rfl, hlen.symm, hl, hm, (fun e => absurd e (by simp)), fun y e k u hk => ?_⟩
    injection e with e
    subst e
    rw [List.getElem?_take] at hk
    split at hk
    · have hkl : k < zs.length := by
        rcases Nat.lt_or_ge k zs.length with h | h
        · exact h
        · rw [List.getElem?_eq_none h] at hk
          cases hk
      rw [hcell k hkl, List.getD_eq_getElem?_getD, hk]
      rfl
    · cases hk

/-- A block that came in. -/
theorem block_in {H : Type} {enc : TypeId × Value → H} {W : World} {b0 : Nat} {v : Value} (hv : Value.okWide Tryz.prog W .any b0 62 v) {d : DataW H} {ps : List MemPlace} (h : DataW.Trod enc Tryz.prog W 0 (fun _ => true) true 62 v d ps) : ∃ f, v = .agg (ba 16 f) := by
  obtain ⟨cs, rfl, hsz, _⟩ : ∃ cs, v = .agg cs ∧ cs.size = Tryz.prog.cellsOf 62 ∧ Row.okWide Tryz.prog W .any b0 62 cs := by
    simpa [Value.okWide, Tryz.underlying62] using hv
  rw [cells32] at hsz
  obtain ⟨fuel, hf⟩ := h
  obtain ⟨xs, m, _, _, _, hxl, hx⟩ := DataW.trod_array Tryz.underlying62 hf
  have key : ∀ i, i < 16 → ∃ y : Int, cs[i]? = some (.int .u8 y) ∧ 0 ≤ y ∧ y < 256 := by
    intro i hi
    have h1 := hx i hi
    rw [cells5, List.getElem?_eq_getElem (by omega)] at h1
    obtain ⟨y, e0, _, hw⟩ := DataW.trod_int Tryz.underlying5 h1
    simp only [Lit.wf, Bool.and_eq_true, decide_eq_true_eq] at hw
    have u0 : IntKind.u8.min = 0 := rfl
    have u1 : IntKind.u8.max = 255 := rfl
    refine ⟨y, ?_, by omega, by omega⟩
    have e2 : (((Value.agg cs).cells.toList.drop (i * 1)).take 1)[0]? = some (.int .u8 y) := by rw [e0]; rfl
    rw [List.getElem?_take, if_pos (by decide), List.getElem?_drop] at e2
    simpa [Value.cells] using e2
  refine ⟨fun i => match cs[i]? with | some (.int _ y) => BitVec.ofNat 8 y.toNat | _ => 0#8, ?_⟩
  congr 1
  apply Array.ext_getElem?
  intro i
  by_cases hi : i < 16
  · obtain ⟨y, e, h0, h1⟩ := key i hi
    rw [ba_get 16 _ hi, e]
    simp only [BitVec.toNat_ofNat]
    congr 2
    omega
  · rw [Array.getElem?_eq_none (by omega)]
    simp [ba, arr, hi]
end Go.Proofs.YtobglgddbhddnaaGreat

namespace Go.Proofs.YtobglgddbhddnaaGreat
open Go.ChangeShapes Go.WideShapes Go.ChangeAt Go.RowKit
set_option linter.unusedVariables false
set_option maxRecDepth 100000

theorem cells38 : Tryz.prog.cellsOf 25 = 12 := by kernel_rfl
theorem bulk_one {H : Type} (d : DataW H) : 1 ≤ Rows.uptoBulk d := by
  cases d with
  | lit l => cases l <;> simp [Rows.uptoBulk]
  | nil => simp [Rows.uptoBulk]
  | ptr d => simp [Rows.uptoBulk]
  | slice elems spare => simp [Rows.uptoBulk]
  | agg parts => simp [Rows.uptoBulk]
  | iface t d => simp [Rows.uptoBulk]
  | map entries => simp [Rows.uptoBulk]
  | held h => simp [Rows.uptoBulk]
theorem bulk_len {H : Type} (l : List (DataW H)) : l.length ≤ Rows.uptoBulkAll l := by
  induction l with
  | nil => simp [Rows.uptoBulkAll]
  | cons x r ih => have := bulk_one x; simp only [Rows.uptoBulkAll, List.length_cons]; omega
theorem bulk_in {H : Type} {l : List (DataW H)} {d : DataW H} (h : d ∈ l) : Rows.uptoBulk d ≤ Rows.uptoBulkAll l := by
  induction l with
  | nil => cases h
  | cons x r ih =>
    simp only [Rows.uptoBulkAll]
    rcases List.mem_cons.1 h with rfl | h
    · omega
    · have := ih h
      omega

/-- A slice of bytes that came in, no longer than its bulk. -/
theorem bytes_up {H : Type} {enc : TypeId × Value → H} {W : World} {d : DataW H} (hb : Rows.uptoBulk d ≤ 1048576)
    {a : Option Addr} {len cap : Nat} {ps : List MemPlace} (h : DataW.Trod enc Tryz.prog W 0 (fun _ => true) true 24 (.slice a len cap) d ps) : ∃ f, Ap.Rd W (.slice a len cap) (nums len f) ∧ len ≤ 1048576 := by
  obtain ⟨fuel, hf⟩ := h
  rcases open_ints Tryz.underlying24 Tryz.underlying5 cells5 hf with ⟨hcs, _⟩ | ⟨x, l, c, zs, hcs, _, hl, hm, hz, hx, hcell, hwz⟩
  · simp [Value.cells] at hcs
    obtain ⟨rfl, rfl, rfl⟩ := hcs
    exact ⟨zB, Ap.Rd.nil W, by simp⟩
  · simp [Value.cells] at hcs
    obtain ⟨rfl, rfl, rfl⟩ := hcs
    have hz' : zs.length = cap := by simpa using hz
    simp only [Prod.mk.injEq] at hx
    have hd' : d = .slice (lits .u8 (zs.take len)) (lits .u8 (zs.drop len)) := hx.1
    subst hd'
    have hlen : (zs.take len).length = len := by rw [List.length_take]; omega
    have h1 := bulk_len (lits (H := H) .u8 (zs.take len))
    simp only [Rows.uptoBulk] at hb
    simp only [lits, List.length_map] at h1 hb
    have hby : ∀ y ∈ zs.take len, 0 ≤ y ∧ y < 256 := fun y hy => by
      have := hwz y (List.mem_of_mem_take hy)
      simp only [Lit.wf, Bool.and_eq_true, decide_eq_true_eq] at this
      have h0 : IntKind.u8.min = 0 := rfl
      have h1 : IntKind.u8.max = 255 := rfl
      omega
    refine ⟨fList (zs.take len), ?_, by omega⟩
    have e := fList_nums _ hby
    rw [hlen] at e
    rw [e]
    refine ⟨_, _, _, rfl, hlen.symm, hl, hm, (fun e => absurd e (by simp)), fun y e k u hk => ?_⟩
    injection e with e
    subst e
    rw [List.getElem?_take] at hk
    split at hk
    · have hkl : k < zs.length := by
        rcases Nat.lt_or_ge k zs.length with h | h
        · exact h
        · rw [List.getElem?_eq_none h] at hk
          cases hk
      rw [hcell k hkl, List.getD_eq_getElem?_getD, hk]
      rfl
    · cases hk

/-- A nonce that came in. -/
theorem nonce_in {H : Type} {enc : TypeId × Value → H} {W : World} {b0 : Nat} {v : Value} (hv : Value.okWide Tryz.prog W .any b0 25 v) {d : DataW H} {ps : List MemPlace} (h : DataW.Trod enc Tryz.prog W 0 (fun _ => true) true 25 v d ps) : ∃ f, v = .agg (ba 12 f) := by
  obtain ⟨cs, rfl, hsz, _⟩ : ∃ cs, v = .agg cs ∧ cs.size = Tryz.prog.cellsOf 25 ∧ Row.okWide Tryz.prog W .any b0 25 cs := by
    simpa [Value.okWide, Tryz.underlying25] using hv
  rw [cells38] at hsz
  obtain ⟨fuel, hf⟩ := h
  obtain ⟨xs, m, _, _, _, hxl, hx⟩ := DataW.trod_array Tryz.underlying25 hf
  have key : ∀ i, i < 12 → ∃ y : Int, cs[i]? = some (.int .u8 y) ∧ 0 ≤ y ∧ y < 256 := by
    intro i hi
    have h1 := hx i hi
    rw [cells5, List.getElem?_eq_getElem (by omega)] at h1
    obtain ⟨y, e0, _, hw⟩ := DataW.trod_int Tryz.underlying5 h1
    simp only [Lit.wf, Bool.and_eq_true, decide_eq_true_eq] at hw
    have u0 : IntKind.u8.min = 0 := rfl
    have u1 : IntKind.u8.max = 255 := rfl
    refine ⟨y, ?_, by omega, by omega⟩
    have e2 : (((Value.agg cs).cells.toList.drop (i * 1)).take 1)[0]? = some (.int .u8 y) := by rw [e0]; rfl
    rw [List.getElem?_take, if_pos (by decide), List.getElem?_drop] at e2
    simpa [Value.cells] using e2
  refine ⟨fun i => match cs[i]? with | some (.int _ y) => BitVec.ofNat 8 y.toNat | _ => 0#8, ?_⟩
  congr 1
  apply Array.ext_getElem?
  intro i
  by_cases hi : i < 12
  · obtain ⟨y, e, h0, h1⟩ := key i hi
    rw [ba_get 12 _ hi, e]
    simp only [BitVec.toNat_ofNat]
    congr 2
    omega
  · rw [Array.getElem?_eq_none (by omega)]
    simp [ba, arr, hi]
end Go.Proofs.YtobglgddbhddnaaGreat

namespace Go.Proofs.YtobglgddbhddnaaGreat
open Go.RowKit
set_option linter.unusedVariables false

/-- A lock's cells. -/
def lkG (h n : Int) : Array Value := #[.int .i64 h, .int .i64 n, .int .u64 23726566, .func (.func 26) #[] #[], .func (.func 27) #[] #[], .func (.func 28) #[] #[]]
def lkC : Array Value := #[.int .i64 1, .int .i64 32, .int .u64 4611686018427387904, .func (.func 29) #[] #[], .func (.func 30) #[] #[], .func (.func 31) #[] #[]]
def lk0 : Array Value := #[.int .i64 0, .int .i64 0, .int .u64 0, .nilFunc, .nilFunc, .nilFunc]
theorem zeroG : (∀ w, (zeroValue 48).run Tryz.prog w = .ok (.agg lk0) w) ∧ (Tryz.prog.info? 48).map (·.size) = some 6 := zero_of_info (by kernel_rfl)
theorem zeroC : (∀ w, (zeroValue 51).run Tryz.prog w = .ok (.agg lk0) w) ∧ (Tryz.prog.info? 51).map (·.size) = some 6 := zero_of_info (by kernel_rfl)
def isStrS : TypeDesc → Bool
  | .struct _ => true
  | _ => false
theorem strS_of {ty : TypeId} (h : (Tryz.prog.underlying ty).map isStrS = some true) : ∃ f, Tryz.prog.underlying ty = some (.struct f) := by
  cases hu : Tryz.prog.underlying ty with
  | none => rw [hu] at h; cases h
  | some d =>
    rw [hu] at h
    cases d <;> first | exact ⟨_, rfl⟩ | cases h
theorem strG : ∃ f, Tryz.prog.underlying 48 = some (.struct f) := strS_of (by kernel_rfl)
theorem strC : ∃ f, Tryz.prog.underlying 51 = some (.struct f) := strS_of (by kernel_rfl)
/-- A struct as a result. -/
theorem bp_s {fn : Func} {R : Ending → World → Prop} {a : Act} {w : World} {s b : Nat} {ty : TypeId} {c : Array Value} (h : fn.results = #[.cell s ty]) (hd : a.defers = []) (hp : a.tmps.getD s undef = .pointer (some ⟨b, 0, none⟩)) (ha : Ar w b c)
    (hu : ∃ f, Tryz.prog.underlying ty = some (.struct f)) (hi : (Tryz.prog.info? ty).map (·.size) = some c.size) (hR : R (.returned (.agg c)) w) : bodyPost Tryz.prog fn R .ret a w := by
  refine bodyPost_ret (v := .agg c) ?_ hd hR
  rw [Array.getD_eq_getD_getElem?] at hp
  simp only [results, h]
  obtain ⟨t, h⟩ := ha
  obtain ⟨f, hf⟩ := hu
  simp [hp, asAddr, run_loadVar_row w b t ty c (0, 0) _ h hf rfl hi]

set_option maxRecDepth 100000 in
set_option maxHeartbeats 4000000 in
theorem byGcm_any (h n : Int) (w : World) : Calls Tryz.prog 18 #[.int .i64 h, .int .i64 n] w fun r w' => r = .returned (.agg (lkG h n)) ∧ Chg w w' := by
  have hz := zeroG.1
  have hsz : (Tryz.prog.info? 48).map (·.size) = some (lkG h n).size := zeroG.2
  have hone : (lkG h n).all (·.oneCell') = true := by simp [lkG, Value.oneCell']
  have hlen : lk0.size = (lkG h n).size := rfl
  unfold lkG at hsz hone hlen
  unfold lk0 at hz hlen
  go_enter Tryz.func18, Tryz.ntmps18
  go_wp2_with (first | refine wpList_store_row rfl 48 _ _ rfl _ _ rfl rfl _ _ (heap_alloc_last w _) hsz hlen hone ?_)
  refine bp_s (c := lkG h n) Tryz.results18 rfl rfl ?_ strG zeroG.2 ⟨rfl, ?_⟩
  · exact (Ar.new w _ _).row _
  · exact ((Chg.refl w).alloc _).setRow (Nat.le_refl _) _

set_option maxRecDepth 100000 in
set_option maxHeartbeats 4000000 in
theorem byChacha_any (w : World) : Calls Tryz.prog 19 #[] w fun r w' => r = .returned (.agg lkC) ∧ Chg w w' := by
  have hz := zeroC.1
  have hsz : (Tryz.prog.info? 51).map (·.size) = some lkC.size := zeroC.2
  have hone : lkC.all (·.oneCell') = true := by simp [lkC, Value.oneCell']
  have hlen : lk0.size = lkC.size := rfl
  unfold lkC at hsz hone hlen
  unfold lk0 at hz hlen
  go_enter Tryz.func19, Tryz.ntmps19
  go_wp2_with (first | refine wpList_store_row rfl 51 _ _ rfl _ _ rfl rfl _ _ (heap_alloc_last w _) hsz hlen hone ?_)
  refine bp_s (c := lkC) Tryz.results19 rfl rfl ?_ strC zeroC.2 ⟨rfl, ?_⟩
  · exact (Ar.new w _ _).row _
  · exact ((Chg.refl w).alloc _).setRow (Nat.le_refl _) _

/-- What is found: a lock, and whether there is one. -/
def fndV (s : Int) : Value := if s = 4865 then .iface 48 (.agg (lkG 1 16)) else if s = 4866 then .iface 48 (.agg (lkG 2 32)) else if s = 4867 then .iface 51 (.agg lkC) else .nilIface
def fndB (s : Int) : Bool := s == 4865 || s == 4866 || s == 4867

set_option maxRecDepth 100000 in
set_option maxHeartbeats 4000000 in
theorem find_any (s : Int) (w : World) : Calls Tryz.prog 11 #[.int .u16 s] w fun r w' => r = .returned (.tuple #[fndV s, .bool (fndB s)]) ∧ Chg w w' := by
  by_cases h1 : s = 4865
  · subst h1
    go_enter Tryz.func11, Tryz.ntmps11
    go_wp2_with (first | (go_at_call 18; refine (byGcm_any 1 16 _).mono ?_; rintro r w2 ⟨rfl, hw2⟩))
    go_ret2
    exact ⟨rfl, hw2⟩
  · by_cases h2 : s = 4866
    · subst h2
      go_enter Tryz.func11, Tryz.ntmps11
      go_wp2_with (first | (go_at_call 18; refine (byGcm_any 2 32 _).mono ?_; rintro r w2 ⟨rfl, hw2⟩))
      go_ret2
      exact ⟨rfl, hw2⟩
    · by_cases h3 : s = 4867
      · subst h3
        go_enter Tryz.func11, Tryz.ntmps11
        go_wp2_with (first | (go_at_call 19; refine (byChacha_any _).mono ?_; rintro r w2 ⟨rfl, hw2⟩))
        go_ret2
        exact ⟨rfl, hw2⟩
      · have e1 : fndV s = .nilIface := by simp [fndV, h1, h2, h3]
        have e2 : fndB s = false := by simp [fndB, h1, h2, h3]
        rw [e1, e2]
        go_enter Tryz.func11, Tryz.ntmps11
        go_wp2_with fail
        go_ret2
        exact ⟨rfl, Chg.refl w⟩
end Go.Proofs.YtobglgddbhddnaaGreat

namespace Go.Proofs.YtobglgddbhddnaaGreat
open Go.RowKit
set_option linter.unusedVariables false

theorem range12S {w : World} {B : Nat} {f : Nat → By} (h : Ar w B (ba 12 f)) : w.rangeAt B 0 (ba 12 f).toList := by
  intro j v hv
  rw [Nat.zero_add, h.cell]
  simpa using hv
theorem info12S (f : Nat → By) : (Tryz.prog.info? 25).map (·.size) = some (ba 12 f).toList.length := by rw [Array.length_toList, ba_size]; exact zero38.2
set_option maxRecDepth 100000 in
theorem same1_any (v : Value) (w : World) : Calls Tryz.prog 26 #[v] w fun r w' => r = .returned v ∧ w' = w := by
  go_enter Tryz.func26, Tryz.ntmps26
  go_wp2_with fail
  go_ret
  exact ⟨rfl, rfl⟩

theorem zeroK : (∀ w, (zeroValue 40).run Tryz.prog w = .ok (.agg (ba 32 zB)) w) ∧ (Tryz.prog.info? 40).map (·.size) = some 32 := zero_of_info (by kernel_rfl)
set_option maxRecDepth 100000 in
set_option maxHeartbeats 4000000 in
theorem arrayOf_any (b o cap : Nat) (key : Nat → By) (w : World) (hk : Bs w b o 32 key) : Calls Tryz.prog 29 #[.slice (some ⟨b, o, none⟩) 32 cap] w fun r w' => r = .returned (.agg (ba 32 key)) ∧ Chg w w' := by
  have HK : Hid (Bs w b o 32 key) := hk
  clear hk
  have hz := zeroK.1
  have hs1 : ∀ u, (Instr.sliceAt 40 (.pointer (some ⟨w.heap.size + 1, 0, none⟩)) none none none).run Tryz.prog u = .ok (.slice (some ⟨w.heap.size + 1, 0, none⟩) 32 32) u := Cha.run_sliceArr0 Cha.und22 (by decide) _
  go_enter Tryz.func29, Tryz.ntmps29
  go_upto_region 2 with fail
  obtain ⟨w2, hw2⟩ : ∃ w2, w2 = (w.alloc (.cells (ba 32 zB) 40)).alloc (.cells (ba 32 zB) 40) := ⟨_, rfl⟩
  have Z2 : Hid (Chg w w2 ∧ Ar w2 w.heap.size (ba 32 zB) ∧ Ar w2 (w.heap.size + 1) (ba 32 zB)) := by
    rw [hw2]
    exact ⟨((Chg.refl w).alloc _).alloc _, (Ar.new w _ _).alloc _, Ar.new1 w _ _ _⟩
  rw [← hw2]
  clear hw2 hz
  have hcp := run_cp w2 (w.heap.size + 1) 32 0 32 32 b o 32 cap 32 zB key Z2.out.2.2 (Bs.chg HK.out Z2.out.1) (by decide) (by decide)
  obtain ⟨C, hC⟩ : ∃ C, C = ba 32 (over 0 32 key zB) := ⟨_, rfl⟩
  have HC : Hid (C = ba 32 (over 0 32 key zB)) := hC
  rw [← hC] at hcp
  clear hC
  go_upto_region 3 with fail
  obtain ⟨w3, hw3⟩ : ∃ w3, w3 = w2.setRow (w.heap.size + 1) C := ⟨_, rfl⟩
  have Z3 : Hid (Chg w w3 ∧ Ar w3 w.heap.size (ba 32 zB) ∧ Ar w3 (w.heap.size + 1) (ba 32 key)) := by
    rw [hw3, HC.out, Cha.over_all]
    exact ⟨Z2.out.1.setRow (by omega) _, Z2.out.2.1.rowOther (by omega) _, Z2.out.2.2.row _⟩
  rw [← hw3]
  clear hw3 hcp HC Z2
  obtain ⟨t1, g1⟩ := Z3.out.2.2
  obtain ⟨t3, g3⟩ := Z3.out.2.1
  have hsz := szB key zeroK.2
  have hlen := lenB 32 zB key
  have hone := ba_one 32 key
  go_wp2_with (first | refine wpList_load_row rfl 40 _ rfl _ rfl _ _ _ _ g1 Cha.und22 rfl hsz ?_ | refine wpList_store_row rfl 40 _ _ rfl _ _ rfl rfl _ _ g3 hsz hlen hone ?_)
  refine bp_c (n := 32) (c := ba 32 key) Tryz.results29 rfl rfl ?_ Cha.und22 zeroK.2 (ba_size _ _) ⟨rfl, ?_⟩
  · exact Z3.out.2.1.row _
  · exact Z3.out.1.setRow (by omega) _

set_option maxRecDepth 100000 in
set_option maxHeartbeats 4000000 in
theorem chachaSeal_any (key nc : Nat → By) (va vx : Value) (w : World) (P : Value → World → Prop)
    (HS : ∀ u, Chg w u → Calls Tryz.prog 46 #[.agg (ba 32 key), .agg (ba 12 nc), va, vx] u fun r w' => ∃ v, r = .returned v ∧ P v w' ∧ Chg u w') :
    Calls Tryz.prog 30 #[.agg (ba 32 key), .agg (ba 12 nc), va, vx] w fun r w' => ∃ v, r = .returned (.tuple #[v, .int .i64 0]) ∧ P v w' ∧ Chg w w' := by
  have hsA := ba_size 12 nc
  have hszA := szB nc zero38.2
  have hsK := ba_size 32 key
  have hszK := szB key zeroK.2
  obtain ⟨A, hA⟩ : ∃ A, A = ba 12 nc := ⟨_, rfl⟩
  obtain ⟨K, hK⟩ : ∃ K, K = ba 32 key := ⟨_, rfl⟩
  rw [← hA] at hsA hszA HS ⊢
  rw [← hK] at hsK hszK HS ⊢
  have HS : Hid (∀ u, Chg w u → Calls Tryz.prog 46 #[.agg K, .agg A, va, vx] u fun r w' => ∃ v, r = .returned v ∧ P v w' ∧ Chg u w') := HS
  clear hA hK
  go_enter Tryz.func30, Tryz.ntmps30
  go_upto_region 1 with fail
  obtain ⟨w2, hw2⟩ : ∃ w2, w2 = (w.alloc (.cells K 40)).alloc (.cells A 25) := ⟨_, rfl⟩
  have Z2 : Hid (Chg w w2 ∧ Ar w2 w.heap.size K ∧ Ar w2 (w.heap.size + 1) A) := by
    rw [hw2]
    exact ⟨((Chg.refl w).alloc _).alloc _, (Ar.new w _ _).alloc _, Ar.new1 w _ _ _⟩
  rw [← hw2]
  clear hw2 hsA hsK
  obtain ⟨t1, g1⟩ := Z2.out.2.1
  obtain ⟨t2, g2⟩ := Z2.out.2.2
  go_wp2_with (first | refine wpList_load_row rfl 40 _ rfl _ rfl _ _ _ _ g1 Cha.und22 rfl hszK ?_ | refine wpList_load_row rfl 25 _ rfl _ rfl _ _ _ _ g2 und38 rfl hszA ?_ | (go_at_call 46; refine (HS.out _ Z2.out.1).mono ?_; rintro r w3 ⟨v, rfl, hv, hc⟩))
  go_ret2
  exact ⟨v, rfl, hv, Z2.out.1.trans hc⟩
end Go.Proofs.YtobglgddbhddnaaGreat
