/-
  A call to both pipes: Read, whose bytes are changed afterwards.
-/
import Derived.Test.YtiegofelidnnlaaDo
namespace Go.Proofs.Ytiegofelidnnlaa
open Go.RowKit
set_option linter.unusedVariables false

set_option maxRecDepth 100000 in
set_option maxHeartbeats 2000000 in
theorem do_readBroken (p q : Nat) (room : Int) (vf va uf ua : Value) (f a : List Int) (cl : Bool) (t n : Int) (s : Value) (w : World) (h : Two w p q room vf va uf ua f a cl true) (hs : ∃ so sn sc, s = .slice so sn sc) :
    Calls Try.prog 19 #[.pointer (some ⟨p, 0, none⟩), .pointer (some ⟨q, 0, none⟩), .agg #[.int .i64 3, .int .i64 t, .int .i64 n, s]] w fun e w' => e = .returned (.bool true) ∧ DoPost w w' p q room (f.length + a.length) := by
  obtain ⟨so, sn, sc, rfl⟩ := hs
  have HH : Hid (Two (w.alloc (.cells #[.int .i64 3, .int .i64 t, .int .i64 n, .slice so sn sc] 52)) p q room vf va uf ua f a cl true) := h.box _
  have hst := fun ww => run_str ww (.slice none 0 0) [] (Rd.nil ww)
  obtain ⟨sx, hsx⟩ : ∃ sx, sx = strOfNums [] := ⟨_, rfl⟩
  rw [← hsx] at hst
  clear h hsx
  go_enter Try.func19, Try.ntmps19
  go_wp2_with fail
  refine (read_broken p room vf va f a cl _ _ HH.out.A).mono ?_
  rintro e w3 ⟨rfl, rfl⟩
  go_wp2_with fail
  refine (refRead_broken q room uf ua f a cl _ _ HH.out.B).mono ?_
  rintro e w4 ⟨rfl, rfl⟩
  go_wp2_with fail
  go_loopw [15] (fun i wr => i = .int .i64 0 ∧ wr = w.alloc (.cells #[.int .i64 3, .int .i64 t, .int .i64 n, .slice so sn sc] 52)) (fun _ _ => 0)
  case atStart => exact ⟨rfl, rfl⟩
  case round =>
    obtain ⟨rfl, rfl⟩ := hrel
    go_wp2
    go_ret
    exact ⟨rfl, _, _, _, _, _, _, _, _, HH.out, Nat.le_refl _, (Chg.refl _ _).alloc _⟩

set_option maxRecDepth 100000 in
set_option maxHeartbeats 2000000 in
theorem do_readEnded (p q : Nat) (room : Int) (vf va uf ua : Value) (t n : Int) (s : Value) (w : World) (h : Two w p q room vf va uf ua [] [] true false) (hs : ∃ so sn sc, s = .slice so sn sc) :
    Calls Try.prog 19 #[.pointer (some ⟨p, 0, none⟩), .pointer (some ⟨q, 0, none⟩), .agg #[.int .i64 3, .int .i64 t, .int .i64 n, s]] w fun e w' => e = .returned (.bool true) ∧ DoPost w w' p q room 0 := by
  obtain ⟨so, sn, sc, rfl⟩ := hs
  have HH : Hid (Two (w.alloc (.cells #[.int .i64 3, .int .i64 t, .int .i64 n, .slice so sn sc] 52)) p q room vf va uf ua [] [] true false) := h.box _
  have hst := fun ww => run_str ww (.slice none 0 0) [] (Rd.nil ww)
  obtain ⟨sx, hsx⟩ : ∃ sx, sx = strOfNums [] := ⟨_, rfl⟩
  rw [← hsx] at hst
  clear h hsx
  go_enter Try.func19, Try.ntmps19
  go_wp2_with fail
  refine (read_ended p room vf va _ _ HH.out.A).mono ?_
  rintro e w3 ⟨rfl, m3, hw3⟩
  have hT3 := HH.out.drewN m3
  rw [← hw3] at hT3
  have hbl : w3.heap[w.heap.size]? = some (.cells #[.int .i64 3, .int .i64 t, .int .i64 n, .slice so sn sc] 52 (0, 0)) := by rw [hw3]; exact heap_alloc_new w _
  have hb2 : w3.cell? ⟨w.heap.size, 2, none⟩ = some (.int .i64 n) := by rw [cell_of_row w3 _ 2 _ 52 (0, 0) hbl]; rfl
  have H3 : Hid (Two w3 p q room vf va uf ua [] [] true false ∧ Chg (PQ p q) w w3) := ⟨hT3, by rw [hw3]; exact ((Chg.refl _ w).alloc _).trans (S' := Non) ⟨rfl, rfl, rfl, Nat.le_refl _, fun _ _ _ => rfl⟩ (fun _ _ e => e.elim)⟩
  clear hT3 hw3 hbl
  go_wp2_with fail
  refine (refRead_ended q room uf ua _ _ H3.out.1.B).mono ?_
  rintro e w4 ⟨rfl, rfl⟩
  go_wp2_with fail
  go_loopw [15] (fun i wr => i = .int .i64 0 ∧ wr = w4) (fun _ _ => 0)
  case atStart => exact ⟨rfl, rfl⟩
  case round =>
    obtain ⟨rfl, rfl⟩ := hrel
    go_wp2
    go_ret
    exact ⟨rfl, _, _, _, _, _, _, _, _, H3.out.1, by simp, H3.out.2⟩

set_option maxRecDepth 100000 in
set_option maxHeartbeats 4000000 in
theorem do_readOpen (p q : Nat) (room : Int) (vf va uf ua : Value) (f a : List Int) (cl : Bool) (t n : Int) (s : Value) (w : World) (h : Two w p q room vf va uf ua f a cl false) (hs : ∃ so sn sc, s = .slice so sn sc) (hl : f.length + a.length ≤ 70368744177664) (hne : cl = true → 0 < f.length + a.length) :
    Calls Try.prog 19 #[.pointer (some ⟨p, 0, none⟩), .pointer (some ⟨q, 0, none⟩), .agg #[.int .i64 3, .int .i64 t, .int .i64 n, s]] w fun e w' => e = .returned (.bool true) ∧ DoPost w w' p q room (f.length + a.length) := by
  obtain ⟨so, sn, sc, rfl⟩ := hs
  have HH : Hid (Two (w.alloc (.cells #[.int .i64 3, .int .i64 t, .int .i64 n, .slice so sn sc] 52)) p q room vf va uf ua f a cl false) := h.box _
  have hbp : w.heap.size ≠ p := fun e => by have := h.A.lt; omega
  have H0 : Hid (Two w p q room vf va uf ua f a cl false) := h
  have HNE : Hid (cl = true → 0 < f.length + a.length) := hne
  have hplt := h.A.lt
  have hqlt := h.B.lt
  clear h hne
  go_enter Try.func19, Try.ntmps19
  go_wp2_with fail
  refine (read_open p room vf va f a cl _ _ HH.out.A (by omega) HNE.out).mono ?_
  rintro e w3 ⟨K, hK, v, va', rfl, ho3, hA, hc3, hk3, hv3⟩
  have hbl : w3.heap[w.heap.size]? = some (.cells #[.int .i64 3, .int .i64 t, .int .i64 n, .slice so sn sc] 52 (0, 0)) := (hc3.block w.heap.size (by simp) (fun e => hbp e)).trans (heap_alloc_new w _)
  have hb2 : w3.cell? ⟨w.heap.size, 2, none⟩ = some (.int .i64 n) := by rw [cell_of_row w3 _ 2 _ 52 (0, 0) hbl]; rfl
  obtain ⟨vo, vn, vc, rfl, hvn, hvnc, hvm⟩ := ho3.rd.shape
  have hvn2 : vn ≤ 140737488355328 := by rw [hvn]; simp; omega
  have H3 : Hid (PipeA w3 p room vf va' f (a.drop K) cl false ∧ Chg (One p) (w.alloc (.cells #[.int .i64 3, .int .i64 t, .int .i64 n, .slice so sn sc] 52)) w3 ∧ OwnV w3 (.slice vo vn vc) (a.take K) ∧ (∀ k, va'.ownBlock = some k → va.ownBlock = some k) ∧ (∀ k, (Value.slice vo vn vc).ownBlock = some k → w.heap.size < k) ∧ (K : Int) = max 0 (min n a.length)) :=
    ⟨hA, hc3, ho3, hk3, fun k e => by have := hv3 k e; simp at this; omega, hK⟩
  clear hA hc3 ho3 hk3 hv3 hK hbl hvn
  go_wp2_with fail
  refine (refRead_open q room uf ua f a cl _ _ (HH.out.keepB H3.out.2.1) (by omega) HNE.out).mono ?_
  rintro e w4 ⟨K', hK', u, ua', rfl, ho4, hB, hc4, hu4, hua4⟩
  obtain rfl : K' = K := by have := H3.out.2.2.2.2.2; omega
  have hS := HH.out.step H3.out.1 H3.out.2.1 (fun k e => .inl e) (fun k e => .inl (H3.out.2.2.2.1 k e)) hB hc4
  have hov : OwnV w4 (.slice vo vn vc) (a.take K') := H3.out.2.2.1.keep (fun k e => hc4.block k (H3.out.2.2.1.lt k e) (fun e' => by cases e'; have := H3.out.2.2.2.2.1 q e; omega))
  have hsv := run_str w4 _ _ hov.rd
  obtain ⟨uo2, un2, uc2, rfl, -⟩ := ho4.rd.shape
  have hsu := run_str w4 _ _ ho4.rd
  have H4 : Hid (Two w4 p q room vf va' uf ua' f (a.drop K') cl false ∧ Chg (PQ p q) w w4 ∧ OwnV w4 (.slice vo vn vc) (a.take K') ∧ (∀ k, (Value.slice vo vn vc).ownBlock = some k → w.heap.size < k ∧ vf.ownBlock ≠ some k ∧ va'.ownBlock ≠ some k ∧ uf.ownBlock ≠ some k ∧ ua'.ownBlock ≠ some k)) := by
    refine ⟨hS.1, (((Chg.refl _ w).alloc _)).trans hS.2 (fun _ _ e => e), hov, fun k e => ?_⟩
    have hk := H3.out.2.2.2.2.1 k e
    have hlt := H3.out.2.2.1.lt k e
    refine ⟨hk, fun e' => ?_, fun e' => ?_, fun e' => ?_, fun e' => ?_⟩
    · have := H0.out.A.fly.lt k e'; omega
    · have := H0.out.A.arr.lt k (H3.out.2.2.2.1 k e'); omega
    · have := H0.out.B.fly.lt k e'; omega
    · have := hua4 k e'; omega
  generalize strOfNums (a.take K') = sx at *
  clear hB hc4 hS hov ho4 hu4 hua4 hK'
  go_wp2_with fail
  clear hsv hsu
  go_loopw [15] (fun i wr => ∃ (k : Nat) (zs : List Int), k ≤ vn ∧ i = .int .i64 k ∧ OwnV wr (.slice vo vn vc) zs ∧ Chg (fun k => (Value.slice vo vn vc).ownBlock = some k) w4 wr)
    (fun i _ => vn - (intOf i).toNat)
  case atStart => exact ⟨0, _, Nat.zero_le _, rfl, H4.out.2.2.1, Chg.refl _ _⟩
  case round =>
    obtain ⟨k, zs, hk, rfl, ho, hc⟩ := hrel
    by_cases hlt : k < vn
    · have hsh : ∃ g off, vo = some ⟨g, off, none⟩ ∧ Own wr g off vn vc zs := by
        rcases ho with ⟨e, _⟩ | ⟨g, off, n', c', e, h⟩
        · cases e; omega
        · cases e; exact ⟨g, off, rfl, h⟩
      obtain ⟨g, off, rfl, ho'⟩ := hsh
      obtain ⟨b, hb⟩ := ho'.at k hlt
      have hfr := ho'.free (off + k)
      have HO : Hid (Own wr g off vn vc zs ∧ Chg (fun q => (Value.slice (some ⟨g, off, none⟩) vn vc).ownBlock = some q) w4 wr) := ⟨ho', hc⟩
      clear ho ho' hc
      go_wp2
      go_roundw
      case rel => exact ⟨k + 1, _, by omega, by go_num, .inr ⟨_, _, _, _, rfl, HO.out.1.set k hlt _⟩, HO.out.2.setCell (p := ⟨g, off + k, none⟩) (fun _ => rfl) _⟩
      case measure => simp [intOf]; omega
    · have hge : ¬ (k : Int) < vn := by omega
      have H5 : Hid (Two wr p q room vf va' uf ua' f (a.drop K') cl false ∧ Chg (PQ p q) w wr) := by
        obtain ⟨hT, hcw, hO, hsep⟩ := H4.out
        refine ⟨⟨hT.A.kept hc (fun e => ?_) (fun j e e' => (hsep j e').2.1 e) (fun j e e' => (hsep j e').2.2.1 e), hT.B.kept hc (fun e => ?_) (fun j e e' => (hsep j e').2.2.2.1 e) (fun j e e' => (hsep j e').2.2.2.2 e), hT.fq, hT.aq⟩, hcw.trans hc (fun i hi e => ?_)⟩
        · have := (hsep _ e).1; omega
        · have := (hsep _ e).1; omega
        · have := (hsep _ e).1; omega
      clear ho hc
      go_wp2
      go_ret
      exact ⟨rfl, _, _, _, _, _, _, _, _, H5.out.1, by simp only [List.length_drop]; omega, H5.out.2⟩
end Go.Proofs.Ytiegofelidnnlaa
