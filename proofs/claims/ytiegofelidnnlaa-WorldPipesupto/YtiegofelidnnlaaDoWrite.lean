/-
  A call to both pipes: Write, of a list that is changed afterwards.
-/
import Derived.Test.YtiegofelidnnlaaDo
namespace Go.Proofs.Ytiegofelidnnlaa
open Go.RowKit
set_option linter.unusedVariables false

theorem OwnV.emptyAt (w : World) (m : Nat) (hm : m = w.heap.size) : OwnV (w.alloc (.cells #[] 5)) (.slice (some ⟨m, 0, none⟩) 0 0) [] := by
  subst hm; exact OwnV.empty w

set_option maxRecDepth 100000 in
set_option maxHeartbeats 4000000 in
theorem do_write (p q : Nat) (room : Int) (vf va uf ua : Value) (f a : List Int) (cl br : Bool) (t n : Int) (so : Option Addr) (sn sc : Nat) (ys : List Int) (w : World) (h : Two w p q room vf va uf ua f a cl br) (hs : ∀ w', Chg (PQ p q) w w' → Rd w' (.slice so sn sc) ys)
    (hl : f.length + a.length ≤ 35184372088832) (hr : 0 ≤ room ∧ room ≤ 65536) (hy : ys.length ≤ 35184372088832) :
    Calls Try.prog 19 #[.pointer (some ⟨p, 0, none⟩), .pointer (some ⟨q, 0, none⟩), .agg #[.int .i64 0, .int .i64 t, .int .i64 n, .slice so sn sc]] w fun e w' => e = .returned (.bool true) ∧ DoPost w w' p q room (f.length + a.length + ys.length) := by
  have HH : Hid (Two w p q room vf va uf ua f a cl br ∧ ∀ w', Chg (PQ p q) w w' → Rd w' (.slice so sn sc) ys) := ⟨h, hs⟩
  have hplt := h.A.lt
  have hqlt := h.B.lt
  clear h hs
  go_enter Try.func19, Try.ntmps19
  go_wp2_with (at_builtin; refine wpList_app _ rfl (.tmp 20) (.tmp 22) rfl _ (.slice so sn sc) [] ys rfl rfl (OwnV.emptyAt _ _ (by simp)) ?hrd (by simp; omega) ?hkk)
  case hrd => exact HH.out.2 _ (((Chg.refl _ w).alloc _).alloc _)
  case hkk =>
    intro v1 w1 ho1 hc1 hk1
    have hbx : (w.alloc (.cells #[.int .i64 0, .int .i64 t, .int .i64 n, .slice so sn sc] 52)).heap.size = w.heap.size + 1 := by simp
    have hc01 : Chg Non w w1 := (((Chg.refl Non w).alloc (.cells #[.int .i64 0, .int .i64 t, .int .i64 n, .slice so sn sc] 52)).alloc (.cells #[] 5)).trans hc1 (fun i hi e => by simp [Value.ownBlock] at e; omega)
    have hown : ∀ k, v1.ownBlock = some k → w.heap.size < k := by
      intro k e
      rcases hk1 with h | h <;> rw [h] at e <;> simp [Value.ownBlock] at e <;> omega
    have hbox : w1.heap[w.heap.size]? = some (.cells #[.int .i64 0, .int .i64 t, .int .i64 n, .slice so sn sc] 52 (0, 0)) := by
      rw [hc1.block w.heap.size (by simp; omega) (fun e => by simp [Value.ownBlock] at e), Below.heap_alloc _ _ _ (by simp)]
      exact heap_alloc_new w _
    obtain ⟨o1, n1, b1, rfl, hn1, hnb1, hmb1⟩ := ho1.rd.shape
    have hT1 := HH.out.1.fresh hc01 (fun _ e => e.elim)
    have H1 : Hid (Two w1 p q room vf va uf ua f a cl br ∧ Chg Non w w1 ∧ OwnV w1 (.slice o1 n1 b1) ys ∧ (∀ k, (Value.slice o1 n1 b1).ownBlock = some k → w.heap.size < k) ∧ w1.heap[w.heap.size]? = some (.cells #[.int .i64 0, .int .i64 t, .int .i64 n, .slice so sn sc] 52 (0, 0)) ) :=
      ⟨hT1, hc01, ho1, hown, hbox⟩
    have e3 : w1.cell? ⟨w.heap.size, 3, none⟩ = some (.slice so sn sc) := by rw [cell_of_row w1 _ 3 _ 52 (0, 0) hbox]; rfl
    have hs1 := hc01.size
    have hnl : n1 ≤ 140737488355328 := by rw [hn1]; simpa using Nat.le_trans hy (by omega)
    clear ho1 hc1 hk1 hbx hc01 hown hbox hT1 hn1
    go_upto_region 4 with fail
    go_cut [8] (fun t8 wc => t8 = .bool true ∧ ∃ (K : Nat) (vf' uf' : Value), Two wc p q room vf' va uf' ua (f ++ ys.take K) a cl br ∧ Chg (PQ p q) w1 wc ∧ OwnV wc (.slice o1 n1 b1) ys ∧ ∀ k, (Value.slice o1 n1 b1).ownBlock = some k → vf'.ownBlock ≠ some k ∧ va.ownBlock ≠ some k ∧ uf'.ownBlock ≠ some k ∧ ua.ownBlock ≠ some k)
    case first =>
      go_region_with (first
        | (go_at_call 21; (refine (write_any p room vf va f a cl br _ _ _ ys _ ?_ ?_ ?_ hr ?_ ?_).mono ?_; exact H1.out.1.A.drew; omega; omega; exact H1.out.2.2.1.rd.drew; omega; rintro e w3 ⟨K, hK, rfl, vf', hA, hc3, hk3⟩; have hx3 : w3.cell? ⟨w.heap.size, 3, none⟩ = some (.slice so sn sc) := (World.cell?_of_block (hc3.undrew.block w.heap.size (Array.getElem?_eq_some_iff.1 H1.out.2.2.2.2).1 (fun e => by cases e; omega))).trans e3))
        | (go_at_call 31; (refine (refWrite_any q room uf ua f a cl br so sn sc ys _ ?_ ?_ hr ?_ ?_).mono ?_; exact H1.out.1.keepB hc3.undrew; omega; exact HH.out.2 _ ((H1.out.2.1.non (PQ p q)).trans hc3.undrew (fun i hi e => .inl e)); omega; rintro e w4 ⟨K', hK', rfl, uf', hB, hc4, hk4⟩; obtain rfl : K' = K := (by omega))))
      all_goals
        have HF : Hid (∃ (K : Nat) (vf' uf' : Value), Two w4 p q room vf' va uf' ua (f ++ ys.take K) a cl br ∧ Chg (PQ p q) w1 w4 ∧ OwnV w4 (.slice o1 n1 b1) ys ∧ ∀ k, (Value.slice o1 n1 b1).ownBlock = some k → vf'.ownBlock ≠ some k ∧ va.ownBlock ≠ some k ∧ uf'.ownBlock ≠ some k ∧ ua.ownBlock ≠ some k) := by
          obtain ⟨hT1, hc01, ho1, hown, hbox⟩ := H1.out
          have hS := hT1.step hA hc3.undrew hk3 (fun k e => .inl e) hB hc4
          have hsz1 := hc01.size
          have hsz3 := hc3.undrew.size
          have hlo := ho1.lt
          have hT0 := HH.out.1
          refine ⟨K', vf', uf', hS.1, hS.2, ho1.keep (fun k e => hS.2.block k (hlo k e) (fun e' => ?_)), fun k e => ⟨fun e' => ?_, fun e' => ?_, fun e' => ?_, fun e' => ?_⟩⟩
          · have := hown k e
            rcases e' with e' | e' <;> omega
          · have := hown k e
            rcases hk3 k e' with h | h
            · have := hT0.A.fly.lt k h; omega
            · have := hlo k e; simp at h; omega
          · have := hown k e; have := hT0.A.arr.lt k e'; omega
          · have := hk4 k e'; have := hlo k e; omega
          · have := hown k e; have := hT0.B.arr.lt k e'; omega
        clear hA hc3 hk3 hx3 hB hc4 hk4 hK hK'
        go_wp2_with fail
        go_meet
        case rel => exact ⟨by simp, HF.out⟩
    case rest =>
      obtain ⟨rfl, K, vf', uf', hT2, hc2, ho2, hsep⟩ := hcut
      have H2 : Hid (Two wc p q room vf' va uf' ua (f ++ ys.take K) a cl br ∧ Chg (PQ p q) w wc ∧ OwnV wc (.slice o1 n1 b1) ys ∧ (∀ k, (Value.slice o1 n1 b1).ownBlock = some k → vf'.ownBlock ≠ some k ∧ va.ownBlock ≠ some k ∧ uf'.ownBlock ≠ some k ∧ ua.ownBlock ≠ some k) ∧ ∀ k, (Value.slice o1 n1 b1).ownBlock = some k → w.heap.size < k) :=
        ⟨hT2, (H1.out.2.1.non (PQ p q)).trans hc2 (fun _ _ e => e), ho2, hsep, H1.out.2.2.2.1⟩
      clear hT2 hc2 ho2 hsep e3
      go_wp2_with fail
      go_loopw [9] (fun i wr => ∃ (k : Nat) (zs : List Int), k ≤ n1 ∧ i = .int .i64 k ∧ OwnV wr (.slice o1 n1 b1) zs ∧ Chg (fun k => (Value.slice o1 n1 b1).ownBlock = some k) wc wr)
        (fun i _ => n1 - (intOf i).toNat)
      case atStart => exact ⟨0, ys, Nat.zero_le _, rfl, H2.out.2.2.1, Chg.refl _ _⟩
      case round =>
        obtain ⟨k, zs, hk, rfl, ho, hc⟩ := hrel
        by_cases hlt : k < n1
        · have hsh : ∃ g off, o1 = some ⟨g, off, none⟩ ∧ Own wr g off n1 b1 zs := by
            rcases ho with ⟨e, _⟩ | ⟨g, off, n', c', e, h⟩
            · cases e; omega
            · cases e; exact ⟨g, off, rfl, h⟩
          obtain ⟨g, off, rfl, ho'⟩ := hsh
          obtain ⟨b, hb⟩ := ho'.at k hlt
          have hfr := ho'.free (off + k)
          have HO : Hid (Own wr g off n1 b1 zs ∧ Chg (fun q => (Value.slice (some ⟨g, off, none⟩) n1 b1).ownBlock = some q) wc wr) := ⟨ho', hc⟩
          clear ho ho' hc
          go_wp2
          go_roundw
          case rel => exact ⟨k + 1, _, by omega, by go_num, .inr ⟨_, _, _, _, rfl, HO.out.1.set k hlt _⟩, HO.out.2.setCell (p := ⟨g, off + k, none⟩) (fun _ => rfl) _⟩
          case measure => simp [intOf]; omega
        · have hge : ¬ (k : Int) < n1 := by omega
          have H3 : Hid (Two wr p q room vf' va uf' ua (f ++ ys.take K) a cl br ∧ Chg (PQ p q) w wr) := by
            obtain ⟨hT, hcw, hO, hsep, hnew⟩ := H2.out
            refine ⟨⟨hT.A.kept hc (fun e => ?_) (fun j e e' => (hsep j e').1 e) (fun j e e' => (hsep j e').2.1 e), hT.B.kept hc (fun e => ?_) (fun j e e' => (hsep j e').2.2.1 e) (fun j e e' => (hsep j e').2.2.2 e), hT.fq, hT.aq⟩, hcw.trans hc (fun i hi e => ?_)⟩
            · have := hnew _ e; omega
            · have := hnew _ e; omega
            · have := hnew _ e; omega
          clear ho hc
          go_wp2
          go_ret
          exact ⟨rfl, _, _, _, _, _, _, _, _, H3.out.1, by simp; omega, H3.out.2⟩
end Go.Proofs.Ytiegofelidnnlaa
