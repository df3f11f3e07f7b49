/-
  append of a great slice onto a small row; Retry.
-/
import Derived.Test.YtdhckndehijemaaHd
import Derived.Deep.DeepAppendWide
namespace Go.Proofs.Ytdhckndehijemaa
open Go.RowKit
set_option linter.unusedVariables false
set_option maxRecDepth 100000

theorem run_growW (ty : TypeId) (w : World) (ao : Option Addr) (c : Nat) (s : Value) (xs ys : List Int) (hv : Rd w (.slice ao xs.length c) xs) (hs : Rd w s ys) (hb : xs.length + ys.length ≤ 200000000000000)
    (hr : ¬ xs.length + ys.length ≤ c) :
    ∃ v' w', (Builtin.append_ #[23, 23] ty #[.slice ao xs.length c, s]).run Try.prog w = .ok v' w' ∧ OwnV w' v' (xs ++ ys) ∧ Chg Non w w' ∧ v'.ownBlock = some w.heap.size := by
  obtain ⟨i, hi, hz, hsz, hby⟩ := info_parts Try.info5
  have ht := Try.underlying23
  have hfsd := run_first w.drew s ys hs.drew
  have hfv := run_first w.drew _ xs hv.drew
  obtain ⟨so, m, sc, rfl, hm, hmc, hsm, hs0, hsx⟩ := hs
  subst hm
  have hge := grownCap_ge w (xs.length + ys.length) c 5
  have hcm : grownCap w (xs.length + ys.length) c 5 ≤ maxLen := grownCap_le_maxLen w (xs.length + ys.length) c 5 (by unfold maxLen; omega)
  have hfit := growslice_fits_wide (bytes := 1) (show c < xs.length + ys.length by omega) (by omega)
  rw [← hby] at hfit
  have h63' : ¬ (9223372036854775807 < ((xs.length : Int) + (ys.length : Int))) := by omega
  have h48' : ¬ (281474976710656 < Builtin.nextslicecap (xs.length + ys.length) c * i.bytes) := by omega
  refine ⟨.slice (some ⟨w.heap.size, 0, none⟩) (xs.length + ys.length) (grownCap w (xs.length + ys.length) c 5),
    w.drew.alloc (.cells (((xs ++ ys).map (Value.int .u8)).toArray ++ Builtin.zeroCells (Value.int .u8 0).cells (grownCap w (xs.length + ys.length) c 5 - (xs.length + ys.length))) 5), ?_,
    .inr ⟨w.heap.size, 0, _, _, rfl, ⟨by simp, hge, hcm, _, heap_alloc_new w.drew _, ?_, ?_⟩⟩, ⟨rfl, rfl, rfl, by simp, fun k hk _ => Below.heap_alloc w.drew _ k hk⟩, rfl⟩
  · simp [Builtin.append_, run_underlying ht, sizeOf, typeInfo, zeroValue, hi, hz, hsz, Builtin.lenOf, hr, h63', h48', Question.forced, hfsd, hfv, newRow, grownCap]
    congr 2
    apply Array.ext'
    simp
  · simp [size_zeroCells, Value.cells]; omega
  · simp only [List.drop_zero, Array.toList_append]
    rw [List.take_append_of_le_length (by simp), List.take_of_length_le (by simp)]

theorem wpList_appW (w : World) {ops : Array Oper} {rest : List Oper} {o : Oper} {a : Act} {Q : Exit → Act → World → Prop}
    (hg : o.guard = none) (s x : Operand) (hop : o.op = Op.call { callee := Callee.builtin Builtin.append, args := #[s, x], argTypes := #[23, 23] })
    (v sv : Value) (xs ys : List Int) (hs : a.eval s = v) (hx : a.eval x = sv) (hv : OwnV w v xs) (hr : Rd w sv ys) (hb : xs.length + ys.length ≤ 200000000000000)
    (hK : ∀ v' w', OwnV w' v' (xs ++ ys) → Chg (fun k => v.ownBlock = some k) w w' → (v'.ownBlock = v.ownBlock ∨ v'.ownBlock = some w.heap.size) → wpList Try.prog ops Q rest (a.put o.dst v') w') :
    wpList Try.prog ops Q (o :: rest) a w := by
  refine wpList_plain hg fun K hK' => ?_
  have key : ∃ v' w', (Builtin.append_ #[23, 23] o.type #[v, sv]).run Try.prog w = .ok v' w' ∧ OwnV w' v' (xs ++ ys) ∧ Chg (fun k => v.ownBlock = some k) w w' ∧ (v'.ownBlock = v.ownBlock ∨ v'.ownBlock = some w.heap.size) := by
    by_cases hsmall : xs.length + ys.length ≤ 140737488355328
    · exact run_app o.type w v sv xs ys hv hr hsmall
    · have hvr := hv.rd
      obtain ⟨ao, n, c, rfl, hn, hnc, hvm, hv0, hvx⟩ := hv.rd
      subst hn
      by_cases hrm : xs.length + ys.length ≤ c
      · rcases hv with ⟨e, rfl⟩ | ⟨g, off, n, cap, e, h⟩
        · cases e
          simp at hrm
          subst hrm
          simp at hsmall
        · cases e
          obtain ⟨w', h1, h2, h3⟩ := run_room o.type w g off xs.length c sv xs ys h hr hrm
          exact ⟨_, w', h1, .inr ⟨g, off, _, c, rfl, h2⟩, h3.mono (fun k _ e => by cases e; rfl), .inl rfl⟩
      · obtain ⟨v', w', h1, h2, h3, h4⟩ := run_growW o.type w ao c sv xs ys hvr hr hb hrm
        exact ⟨v', w', h1, h2, h3.non _, .inr h4⟩
  obtain ⟨v', w', hrun, r1, r2, r3⟩ := key
  unfold Oper.wp
  simp [execOp, hop, resolve, invoke, builtin, hs, hx, hrun, Result.andThen]
  exact hK' _ _ (hK v' w' r1 r2 r3)

theorem bp_c {fn : Func} {R : Ending → World → Prop} {a : Act} {w : World} {p b n : Nat} {ty e t : TypeId} {c : Array Value} (h : fn.results = #[.cell p ty]) (hd : a.defers = []) (hp : a.tmps.getD p undef = .pointer (some ⟨b, 0, none⟩)) (ha : w.heap[b]? = some (.cells c t (0, 0)))
    (hu : Try.prog.underlying ty = some (.array n e)) (hi : (Try.prog.info? ty).map (·.size) = some n) (hc : c.size = n) (hR : R (.returned (.agg c)) w) : bodyPost Try.prog fn R .ret a w := by
  have hl : (Go.loadVar ty ⟨b, 0, none⟩).run Try.prog w = .ok (.agg c) w := run_loadVar_row w b t ty c (0, 0) _ ha hu rfl (by rw [hi, hc])
  refine bodyPost_ret (v := .agg c) ?_ hd hR
  rw [Array.getD_eq_getD_getElem?] at hp
  simp only [results, h]
  simp [hp, asAddr, hl]
theorem i29 : (Try.prog.info? 29).map (·.size) = some 32 := by kernel_rfl
theorem u29 : Try.prog.underlying 29 = some (.array 32 5) := by kernel_rfl

def rtA : Array Value := #[.int .u8 0xcf, .int .u8 0x21, .int .u8 0xad, .int .u8 0x74, .int .u8 0xe5, .int .u8 0x9a, .int .u8 0x61, .int .u8 0x11, .int .u8 0xbe, .int .u8 0x1d, .int .u8 0x8c, .int .u8 0x02, .int .u8 0x1e, .int .u8 0x65, .int .u8 0xb8, .int .u8 0x91,
  .int .u8 0xc2, .int .u8 0xa2, .int .u8 0x11, .int .u8 0x16, .int .u8 0x7a, .int .u8 0xbb, .int .u8 0x8c, .int .u8 0x5e, .int .u8 0x07, .int .u8 0x9e, .int .u8 0x09, .int .u8 0xe2, .int .u8 0xc8, .int .u8 0xa8, .int .u8 0x33, .int .u8 0x9c]

theorem rt_size : (Try.prog.info? 29).map (·.size) = some rtA.size := by kernel_rfl
theorem rt_one : rtA.all (·.oneCell') = true := by kernel_rfl

set_option maxHeartbeats 1600000 in
theorem retry_any (w : World) : Calls Try.prog 15 #[] w fun e w' => e = .returned (.agg rtA) ∧ Chg Non w w' := by
  obtain ⟨R, hR⟩ : ∃ R, R = rtA := ⟨_, rfl⟩
  have HR : Hid (R = rtA) := hR
  go_enter Try.func15, Try.ntmps15
  go_wp2_with (refine wpList_store_row rfl 29 (.tmp 0) (.tmp 1) rfl w.heap.size rtA rfl rfl 29 _ (heap_alloc_last w _) rt_size rfl rt_one ?_)
  rw [← hR]
  refine bp_c (p := 0) (b := w.heap.size) (c := R) (t := 29) (n := 32) (e := 5) Try.results15 rfl rfl (setRow_heap _ _ _ _ _ _ (heap_alloc_last w _)) u29 i29 (by rw [HR.out]; rfl) ⟨rfl, ?_⟩
  exact ((Chg.refl Non w).alloc _).trans (S' := One w.heap.size) ⟨rfl, rfl, rfl, by simp [World.setRow], fun k _ hk => setRow_other _ w.heap.size k _ (fun e => hk e)⟩ (fun i hi e => by have e' : i = w.heap.size := e; omega)
set_option maxHeartbeats 1600000 in
theorem rretry_any (w : World) : Calls Try.prog 16 #[] w fun e w' => e = .returned (.agg rtA) ∧ Chg Non w w' := by
  obtain ⟨R, hR⟩ : ∃ R, R = rtA := ⟨_, rfl⟩
  have HR : Hid (R = rtA) := hR
  go_enter Try.func16, Try.ntmps16
  go_wp2_with (refine wpList_store_row rfl 29 (.tmp 0) (.tmp 1) rfl w.heap.size rtA rfl rfl 29 _ (heap_alloc_last w _) rt_size rfl rt_one ?_)
  rw [← hR]
  refine bp_c (p := 0) (b := w.heap.size) (c := R) (t := 29) (n := 32) (e := 5) Try.results16 rfl rfl (setRow_heap _ _ _ _ _ _ (heap_alloc_last w _)) u29 i29 (by rw [HR.out]; rfl) ⟨rfl, ?_⟩
  exact ((Chg.refl Non w).alloc _).trans (S' := One w.heap.size) ⟨rfl, rfl, rfl, by simp [World.setRow], fun k _ hk => setRow_other _ w.heap.size k _ (fun e => hk e)⟩ (fun i hi e => by have e' : i = w.heap.size := e; omega)
end Go.Proofs.Ytdhckndehijemaa
