/-
  Slices of bytes among the arguments, opened.
-/
import Derived.Test.YtdhckndehijemaaRows
import Derived.Test.YtdhckndehijemaaRl
import Derived.SizedLaws
import Derived.WalkKit
import Derived.ProofKit
import Derived.OpenShut
import Derived.ChangeOld
import Derived.Below
namespace Go.Proofs.Ytdhckndehijemaa
open Go.ChangeShapes Go.WideShapes Go.ChangeAt Go.RowKit
set_option linter.unusedVariables false
set_option maxRecDepth 100000

theorem own : ownKnob Try.prog.godebug = none := by kernel_rfl
theorem laidOut : laidOutB Try.prog = true := by kernel_rfl
theorem bytes5 : Try.prog.bytesOf 5 = 1 := by kernel_rfl
theorem cells5 : Try.prog.cellsOf 5 = 1 := by kernel_rfl
theorem below {W W' : World} (h : Chg Non W W') : Below W.heap.size W W' := ⟨h.os, h.tape, h.output, h.size, fun k hk => h.block k hk (fun s => s)⟩

theorem shape_lt {W : World} {b : Nat} {x : TypeId × Nat} (h : W.shape? b = some x) : b < W.heap.size := by
  unfold World.shape? at h
  cases hq : W.heap[b]? with
  | none => rw [hq] at h; simp at h
  | some o => exact (Array.getElem?_eq_some_iff.1 hq).1
theorem slice_lt {W : World} {base : Nat} {a : Addr} {len cap : Nat} (h : Value.okWide Try.prog W .any base 23 (.slice (some a) len cap)) : a.block < W.heap.size := by
  simp only [Value.okWide, Try.underlying23, Cell.okWide, Cell.ok] at h
  obtain ⟨-, -, -, -, row, cells, hs, -⟩ := h
  exact shape_lt hs

/-- A slice of bytes that came in can be read. -/
theorem bytes_in {H : Type} {enc : TypeId × Value → H} {W : World} {ts : List TypeId} {ds : List (DataW H)} (hsz : (DataW.weightsEach Try.prog ts ds).all (· ≤ reachBytes) = true) {j : Nat} (hj : ts[j]? = some 23) {d : DataW H} (hd : ds[j]? = some d)
    {a : Option Addr} {len cap : Nat} {ps : List MemPlace} {base : Nat} (hv : Value.okWide Try.prog W .any base 23 (.slice a len cap)) (h : DataW.Trod enc Try.prog W 0 (fun _ => true) true 23 (.slice a len cap) d ps) : ∃ xs, Bt (Bel W.heap.size) W (.slice a len cap) xs ∧ xs.length ≤ 140737488351232 := by
  obtain ⟨fuel, hf⟩ := h
  rcases open_ints Try.underlying23 Try.underlying5 cells5 hf with ⟨hcs, _⟩ | ⟨x, l, c, zs, hcs, _, hl, hm, hz, hx, hcell, hwz⟩
  · simp [Value.cells] at hcs
    obtain ⟨rfl, rfl, rfl⟩ := hcs
    exact ⟨[], ⟨Rd.nil W, Byt.nil, fun k e => by cases e⟩, by simp⟩
  · simp [Value.cells] at hcs
    obtain ⟨rfl, rfl, rfl⟩ := hcs
    have hz' : zs.length = cap := by simpa using hz
    simp only [Prod.mk.injEq] at hx
    have hd' : d = .slice (lits .u8 (zs.take len)) (lits .u8 (zs.drop len)) := hx.1
    subst hd'
    have hre := sized_slice hsz (j := j) (t := 23) (e := 5) hj hd Try.underlying23
    rw [bytes5] at hre
    simp only [lits, List.length_map, List.length_take, List.length_drop, reachBytes] at hre
    have hlen : (zs.take len).length = len := by rw [List.length_take]; omega
    have hby : Byt (zs.take len) := fun y hy => by
      have := hwz y (List.mem_of_mem_take hy)
      simp only [Lit.wf, Bool.and_eq_true, decide_eq_true_eq] at this
      have h0 : IntKind.u8.min = 0 := rfl
      have h1 : IntKind.u8.max = 255 := rfl
      omega
    refine ⟨zs.take len, ⟨⟨_, _, _, rfl, hlen.symm, hl, hm, (fun e => absurd e (by simp)), fun y e k u hk => ?_⟩, hby, fun k e => ?_⟩, by omega⟩
    · injection e with e
      subst e
      rw [List.getElem?_take] at hk
      split at hk
      · have hkl : k < zs.length := by
          rcases Nat.lt_or_ge k zs.length with h | h
          · exact h
          · rw [List.getElem?_eq_none h] at hk
            cases hk
        rw [hcell k hkl, List.getD_eq_getElem?_getD, hk]
        rfl
      · cases hk
    · injection e with e
      subst e
      exact slice_lt hv
end Go.Proofs.Ytdhckndehijemaa
namespace Go.Proofs.Ytdhckndehijemaa
open Go.RowKit
set_option linter.unusedVariables false
set_option maxRecDepth 100000

theorem set_two0 {W : World} {B : Nat} {t : TypeId} {a b : Value} (u : Value) (h : W.heap[B]? = some (.cells #[a, b] t)) : (W.setCell ⟨B, 0, none⟩ u).heap[B]? = some (.cells #[u, b] t) := by
  obtain ⟨hlt, hk⟩ := Array.getElem?_eq_some_iff.1 h
  show (W.heap.modify B _)[B]? = _
  rw [Array.getElem?_eq_getElem (by rw [Array.size_modify]; exact hlt), Array.getElem_modify_self, hk]
  rfl
theorem set_two1 {W : World} {B : Nat} {t : TypeId} {a b : Value} (u : Value) (h : W.heap[B]? = some (.cells #[a, b] t)) : (W.setCell ⟨B, 1, none⟩ u).heap[B]? = some (.cells #[a, u] t) := by
  obtain ⟨hlt, hk⟩ := Array.getElem?_eq_some_iff.1 h
  show (W.heap.modify B _)[B]? = _
  rw [Array.getElem?_eq_getElem (by rw [Array.size_modify]; exact hlt), Array.getElem_modify_self, hk]
  rfl
theorem cell2 {W : World} {B : Nat} {t : TypeId} {a b : Value} (h : W.heap[B]? = some (.cells #[a, b] t)) : W.cell? ⟨B, 0, none⟩ = some a ∧ W.cell? ⟨B, 1, none⟩ = some b :=
  ⟨by rw [cell_of_row W B 0 _ t (0, 0) h]; rfl, by rw [cell_of_row W B 1 _ t (0, 0) h]; rfl⟩
theorem cell3 {W : World} {B : Nat} {t : TypeId} {a b c : Value} (h : W.heap[B]? = some (.cells #[a, b, c] t)) : W.cell? ⟨B, 0, none⟩ = some a ∧ W.cell? ⟨B, 1, none⟩ = some b ∧ W.cell? ⟨B, 2, none⟩ = some c :=
  ⟨by rw [cell_of_row W B 0 _ t (0, 0) h]; rfl, by rw [cell_of_row W B 1 _ t (0, 0) h]; rfl, by rw [cell_of_row W B 2 _ t (0, 0) h]; rfl⟩

/-- A reader: what is left, the alert. -/
structure RM (w : World) (r : Nat) (v : Value) (al : Int) (xs : List Int) : Prop where
  blk : w.heap[r]? = some (.cells #[v, .int .i64 al] 227)
  rd : Rd w v xs
  byt : Byt xs
  own : ∀ k, v.ownBlock = some k → k < r

/-- An alert told behind another one. -/
def tell (al a : Int) : Int := if al = 50 then 50 else a
def AB (s : St) (xs : List Int) (al : Int) : Prop := (s = none ∧ al = 50) ∨ ∃ o, s = some (xs, o) ∧ al = if o then 47 else 0
def RS (w : World) (r : Nat) (s : St) : Prop := ∃ v al xs, RM w r v al xs ∧ AB s xs al

theorem RM.facts {w : World} {r : Nat} {v : Value} {al : Int} {xs : List Int} (h : RM w r v al xs) : w.cell? ⟨r, 0, none⟩ = some v ∧ w.cell? ⟨r, 1, none⟩ = some (.int .i64 al) ∧ w.frozen? ⟨r, 0, none⟩ = false ∧ w.frozen? ⟨r, 1, none⟩ = false :=
  ⟨(cell2 h.blk).1, (cell2 h.blk).2, frozen_of_row w r 0 _ _ h.blk, frozen_of_row w r 1 _ _ h.blk⟩
theorem RM.lt {w : World} {r : Nat} {v : Value} {al : Int} {xs : List Int} (h : RM w r v al xs) : r < w.heap.size := (Array.getElem?_eq_some_iff.1 h.blk).1
theorem RM.keep {S : Nat → Prop} {w w' : World} {r : Nat} {v : Value} {al : Int} {xs : List Int} (h : RM w r v al xs) (c : Chg S w w') (hS : ∀ k, S k → r < k) : RM w' r v al xs :=
  ⟨by rw [c.block r h.lt (fun s => by have := hS _ s; omega)]; exact h.blk, h.rd.keep (fun k e hk => c.block k hk (fun s => by have := hS _ s; have := h.own k e; omega)), h.byt, h.own⟩
theorem RM.non {w w' : World} {r : Nat} {v : Value} {al : Int} {xs : List Int} (h : RM w r v al xs) (c : Chg Non w w') : RM w' r v al xs := h.keep c (fun k s => s.elim)
theorem RM.rest {w : World} {r : Nat} {v v' : Value} {al : Int} {xs xs' : List Int} (h : RM w r v al xs) (h1 : Rd w v' xs') (h2 : Byt xs') (h3 : ∀ k, v'.ownBlock = some k → k < r) : RM (w.setCell ⟨r, 0, none⟩ v') r v' al xs' := by
  have c : Chg (One r) w (w.setCell ⟨r, 0, none⟩ v') := (Chg.refl (One r) w).setCell (p := ⟨r, 0, none⟩) (fun _ => rfl) v'
  exact ⟨set_two0 v' h.blk, h1.keep (fun k e hk => c.block k hk (fun s => by have q : k = r := s; have := h3 k e; omega)), h2, h3⟩
theorem RM.told {w : World} {r : Nat} {v : Value} {al : Int} {xs : List Int} (h : RM w r v al xs) (a : Int) : RM (w.setCell ⟨r, 1, none⟩ (.int .i64 a)) r v a xs := by
  have c : Chg (One r) w (w.setCell ⟨r, 1, none⟩ (.int .i64 a)) := (Chg.refl (One r) w).setCell (p := ⟨r, 1, none⟩) (fun _ => rfl) _
  exact ⟨set_two1 _ h.blk, h.rd.keep (fun k e hk => c.block k hk (fun s => by have q : k = r := s; have := h.own k e; omega)), h.byt, h.own⟩
theorem chg_rest (w : World) (r j : Nat) (v : Value) : Chg (One r) w (w.setCell ⟨r, j, none⟩ v) := (Chg.refl (One r) w).setCell (p := ⟨r, j, none⟩) (fun _ => rfl) v
theorem Chg.one {r : Nat} {a b c : World} (h : Chg (One r) a b) (k : Chg (One r) b c) : Chg (One r) a c := h.trans k (fun _ _ q => q)

set_option maxHeartbeats 400000 in
theorem broken_any (r : Nat) (v : Value) (al : Int) (xs : List Int) (w : World) (h : RM w r v al xs) :
    Calls Try.prog 228 #[.pointer (some ⟨r, 0, none⟩)] w fun e w' => e = .returned (.bool (al == 50)) ∧ w' = w := by
  obtain ⟨h0, h1, f0, f1⟩ := h.facts
  clear h
  go_enter Try.func228, Try.ntmps228
  go_wp2
  go_ret
  exact ⟨rfl, rfl⟩

set_option maxHeartbeats 400000 in
theorem refuse_any (r : Nat) (a : Int) (v : Value) (al : Int) (xs : List Int) (w : World) (h : RM w r v al xs) :
    Calls Try.prog 182 #[.pointer (some ⟨r, 0, none⟩), .int .i64 a] w fun e w' => e = .returned (.tuple #[]) ∧ RM w' r v (tell al a) xs ∧ Chg (One r) w w' := by
  have H : Hid (RM w r v al xs) := h
  by_cases ha : al = 50
  · have dA : (al == 50) = true := by simpa using ha
    have HA : Hid (al = 50) := ha
    clear h ha
    go_enter Try.func182, Try.ntmps182
    go_wp2_with (go_at_call 228; refine (broken_any r v al xs w H.out).mono ?_)
    rintro e w' ⟨rfl, rfl⟩
    go_wp2
    go_end0
    have := H.out
    rw [show tell al a = al by simp [tell, HA.out]]
    exact ⟨rfl, this, Chg.refl _ _⟩
  · have dA : (al == 50) = false := by simpa using ha
    have HA : Hid (¬ al = 50) := ha
    obtain ⟨h0, h1, f0, f1⟩ := h.facts
    clear h ha
    go_enter Try.func182, Try.ntmps182
    go_wp2_with (go_at_call 228; refine (broken_any r v al xs w H.out).mono ?_)
    rintro e w' ⟨rfl, rfl⟩
    go_wp2
    go_end0
    rw [show tell al a = a by simp [tell, HA.out]]
    exact ⟨rfl, H.out.told a, chg_rest _ _ _ _⟩

/-- AlertDecode is told; nothing more can be read. -/
theorem AB.broken {s : St} {xs : List Int} {al : Int} (h : AB s xs al) (ys : List Int) : AB none ys (tell al 50) := .inl ⟨rfl, by unfold tell; split <;> rfl⟩
/-- AlertIllegal is told: something odd was met. -/
theorem AB.odd {s : St} {xs : List Int} {al : Int} (h : AB s xs al) : AB (s.map fun q => (q.1, q.2 || true)) xs (tell al 47) := by
  rcases h with ⟨rfl, rfl⟩ | ⟨o, rfl, rfl⟩
  · exact .inl ⟨rfl, rfl⟩
  · refine .inr ⟨true, by simp, ?_⟩
    cases o <;> rfl
theorem tell50 (al : Int) : tell al 50 = 50 := by unfold tell; split <;> rfl
theorem AB.al {s : St} {xs : List Int} {al : Int} (h : AB s xs al) : al = 50 ↔ s = none := by
  rcases h with ⟨rfl, rfl⟩ | ⟨o, rfl, rfl⟩
  · simp
  · cases o <;> simp

theorem add_add (x : Addr) (n j : Nat) : (x.add n).add j = x.add (n + j) := by
  unfold Addr.add
  by_cases h1 : n = 0
  · subst h1; simp
  · by_cases h2 : j = 0
    · subst h2; simp [h1]
    · simp [h1, h2, Nat.add_assoc]
theorem Rd.takeN {w : World} {ao : Option Addr} {N c n : Nat} {xs : List Int} (h : Rd w (.slice ao N c) xs) (hn : n ≤ N) : Rd w (.slice ao n c) (xs.take n) := by
  obtain ⟨ao', N', c', e, h1, h2, h3, h4, h5⟩ := h
  injection e with e1 e2 e3
  subst e1; subst e2; subst e3
  refine ⟨_, _, _, rfl, by simp; omega, by omega, h3, h4, fun x e j u hj => h5 x e j u ?_⟩
  rw [List.getElem?_take] at hj
  split at hj
  · exact hj
  · cases hj
theorem Rd.dropNone {w : World} {N c n : Nat} {xs : List Int} (h : Rd w (.slice none N c) xs) (hn : n ≤ N) : Rd w (.slice none (N - n) (c - n)) (xs.drop n) := by
  obtain ⟨ao', N', c', e, h1, h2, h3, h4, h5⟩ := h
  injection e with e1 e2 e3
  subst e1; subst e2; subst e3
  exact ⟨_, _, _, rfl, by simp; omega, by omega, by omega, fun _ => by have := h4 rfl; omega, fun x e => by cases e⟩
theorem Rd.dropAll {w : World} {x : Addr} {N c n : Nat} {xs : List Int} (h : Rd w (.slice (some x) N c) xs) (hn : n ≤ N) (hc : c = n) : Rd w (.slice (some x) (N - n) 0) (xs.drop n) := by
  obtain ⟨ao', N', c', e, h1, h2, h3, h4, h5⟩ := h
  injection e with e1 e2 e3
  subst e1; subst e2; subst e3
  refine ⟨_, _, _, rfl, by simp; omega, by omega, by omega, fun e => by (cases e), fun x e j u hj => ?_⟩
  rw [List.drop_of_length_le (by omega)] at hj
  cases hj
theorem Rd.dropN {w : World} {x : Addr} {N c n : Nat} {xs : List Int} (h : Rd w (.slice (some x) N c) xs) (hn : n ≤ N) : Rd w (.slice (some (x.add n)) (N - n) (c - n)) (xs.drop n) := by
  obtain ⟨ao', N', c', e, h1, h2, h3, h4, h5⟩ := h
  injection e with e1 e2 e3
  subst e1; subst e2; subst e3
  refine ⟨_, _, _, rfl, by simp; omega, by omega, by omega, fun e => by (cases e), fun y e j u hj => ?_⟩
  injection e with e
  subst e
  rw [List.getElem?_drop] at hj
  rw [add_add]
  exact h5 x rfl (n + j) u hj

set_option maxHeartbeats 800000 in
/-- The next bytes. -/
theorem take_any (r n : Nat) (v : Value) (al : Int) (xs : List Int) (w : World) (h : RM w r v al xs) :
    Calls Try.prog 229 #[.pointer (some ⟨r, 0, none⟩), .int .i64 n] w fun e w' => ∃ v', e = .returned v' ∧ Chg (One r) w w' ∧ (∀ k, v'.ownBlock = some k → k < r) ∧
      ((xs.length < n ∧ v' = .slice none 0 0 ∧ RM w' r v 50 xs) ∨ (n ≤ xs.length ∧ Rd w' v' (xs.take n) ∧ ∃ v2, RM w' r v2 al (xs.drop n))) := by
  have H : Hid (RM w r v al xs) := h
  obtain ⟨ao, N, c, rfl, hN, hc, hm⟩ := h.rd.shape
  have HN : Hid (N = xs.length) := hN
  have hm' : c ≤ 9223372036854775807 := by simpa [maxLen] using hm
  by_cases hlt : N < n
  · have d1 : decide ((n : Int) > (N : Int)) = true := by simp; omega
    obtain ⟨h0, h1, f0, f1⟩ := h.facts
    have HL : Hid (N < n) := hlt
    clear h hN hm
    go_enter Try.func229, Try.ntmps229
    go_wp2_with (go_at_call 182; refine (refuse_any r 50 _ al xs w H.out).mono ?_)
    rintro e w' ⟨rfl, h2, h3⟩
    have HP : Hid (RM w' r (.slice ao N c) 50 xs ∧ Chg (One r) w w') := ⟨by rw [tell50] at h2; exact h2, h3⟩
    clear h2 h3
    go_wp2
    go_ret
    exact ⟨_, rfl, HP.out.2, (fun k e => by cases e), .inl ⟨by have := HN.out; have := HL.out; omega, rfl, HP.out.1⟩⟩
  · have d1 : decide ((n : Int) > (N : Int)) = false := by simp; omega
    obtain ⟨h0, h1, f0, f1⟩ := h.facts
    have HL : Hid (n ≤ N) := by show _ ≤ _; omega
    have hlt' : n ≤ N := by omega
    have h' := h
    clear h hN hlt hm
    have HO : Hid (∀ k, (Value.slice ao N c).ownBlock = some k → k < r) := h'.own
    have HR : Hid (Rd w (.slice ao N c) xs ∧ Byt xs) := ⟨h'.rd, h'.byt⟩
    clear h'
    cases ao with
    | none =>
      go_enter Try.func229, Try.ntmps229
      go_wp2_with fail
      go_ret
      refine ⟨_, rfl, chg_rest _ _ _ _, HO.out, .inr ⟨by have := HN.out; have := HL.out; omega, (Rd.takeN HR.out.1 HL.out).keep (fun k e _ => by cases e), _, H.out.rest (Rd.dropNone HR.out.1 HL.out) (HR.out.2.drop n) (fun k e => by cases e)⟩⟩
    | some x =>
      go_enter Try.func229, Try.ntmps229
      go_wp2_with fail
      · subst h
        go_ret
        refine ⟨_, rfl, chg_rest _ _ _ _, HO.out, .inr ⟨by have := HN.out; have := HL.out; omega, (Rd.takeN HR.out.1 HL.out).keep (fun k e _ => (chg_rest w r 0 _).block k (by assumption) (fun q => by have q' : k = r := q; have := HO.out k e; omega)), _, H.out.rest (Rd.dropAll HR.out.1 HL.out rfl) (HR.out.2.drop _) HO.out⟩⟩
      · go_ret
        refine ⟨_, rfl, chg_rest _ _ _ _, HO.out, .inr ⟨by have := HN.out; have := HL.out; omega, (Rd.takeN HR.out.1 HL.out).keep (fun k e _ => (chg_rest w r 0 _).block k (by assumption) (fun q => by have q' : k = r := q; have := HO.out k e; omega)), _, H.out.rest (Rd.dropN HR.out.1 HL.out) (HR.out.2.drop n) (fun k e => HO.out k (by rw [← e]; simp [Value.ownBlock, add_block]))⟩⟩
end Go.Proofs.Ytdhckndehijemaa
