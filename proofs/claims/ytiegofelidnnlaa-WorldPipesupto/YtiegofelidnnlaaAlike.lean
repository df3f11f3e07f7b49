/-
  Two pipes that hold the same tell the same: the law's alike answers true.
-/
import Derived.Test.YtiegofelidnnlaaTwo
import Derived.Deep.RegionHeld3
namespace Go.Proofs.Ytiegofelidnnlaa
open Go.RowKit
set_option linter.unusedVariables false

set_option maxHeartbeats 4000000 in
theorem alike_any (p q : Nat) (room : Int) (vf va uf ua : Value) (f a : List Int) (cl br : Bool) (w : World) (h : Two w p q room vf va uf ua f a cl br) (hl : f.length + a.length ≤ 70368744177664) (hr : 0 ≤ room ∧ room ≤ 65536) :
    Calls Try.prog 20 #[.pointer (some ⟨p, 0, none⟩), .pointer (some ⟨q, 0, none⟩)] w fun e w' => e = .returned (.bool true) ∧ Two w' p q room vf va uf ua f a cl br ∧ Chg Non w w' := by
  have HH : Hid (Two w p q room vf va uf ua f a cl br) := h
  obtain ⟨uo, uc, rfl, huc, hum⟩ := h.B.fly.len
  obtain ⟨xo, xc, rfl, hxc, hxm⟩ := h.B.arr.len
  clear h
  unfold maxLen at hum hxm
  have hF5 : f.length ≤ 70368744177664 := by omega
  go_enter Try.func20, Try.ntmps20
  go_wp2_with fail
  refine (flight_any p room vf va f a cl br _ HH.out.A (by omega)).mono ?_
  rintro e w1 ⟨v1, rfl, ho1, hc1, hk1⟩
  have hT1 := HH.out.fresh hc1 (fun _ e => e.elim)
  obtain ⟨o1, n1, b1, rfl, hn1, hnb1, hmb1⟩ := ho1.rd.shape
  have H1 : Hid (Two w1 p q room vf va (.slice uo f.length uc) (.slice xo a.length xc) f a cl br ∧ Chg Non w w1 ∧ OwnV w1 (.slice o1 n1 b1) f ∧ (∀ k, (Value.slice o1 n1 b1).ownBlock = some k → w.heap.size ≤ k)) := ⟨hT1, hc1, ho1, hk1⟩
  have HN1 : Hid (n1 = f.length) := hn1
  have hn1' : n1 ≤ 70368744177664 := by omega
  obtain ⟨c0, c1, c2, c3, c4⟩ := hT1.B.cells
  have hs1 := fun nq => run_str (w1.drewN nq) _ _ (rd_drewN ho1.rd nq)
  have hs2 := fun nq => run_str (w1.drewN nq) _ _ (rd_drewN hT1.B.fly.rd nq)
  clear hT1 hc1 ho1 hk1 hn1
  generalize hsx : strOfNums f = sx at *
  have HSX : Hid (strOfNums f = sx) := hsx
  clear hsx
  go_wp2_with fail
  go_quiet (fail)
  go_wp2_with fail
  clear c0 c1 c2 c3 c4 hs1 hs2
  go_loopw [7] (fun i wr => ∃ (k : Nat) (ys : List Int), k ≤ n1 ∧ i = .int .i64 k ∧ OwnV wr (.slice o1 n1 b1) ys ∧ Chg (fun k => (Value.slice o1 n1 b1).ownBlock = some k) w1 wr)
    (fun i _ => n1 - (intOf i).toNat)
  case atStart => exact ⟨0, f, Nat.zero_le _, rfl, H1.out.2.2.1.keep (fun _ _ => rfl), ⟨rfl, rfl, rfl, Nat.le_refl _, fun _ _ _ => rfl⟩⟩
  case round =>
    obtain ⟨k, ys, hk, rfl, ho, hc⟩ := hrel
    by_cases hlt : k < n1
    · have hsh : ∃ g off, o1 = some ⟨g, off, none⟩ ∧ Own wr g off n1 b1 ys := by
        rcases ho with ⟨e, _⟩ | ⟨g, off, n', c', e, h⟩
        · cases e; omega
        · cases e; exact ⟨g, off, rfl, h⟩
      obtain ⟨g, off, rfl, ho'⟩ := hsh
      obtain ⟨b, hb⟩ := ho'.at k hlt
      have hfr := ho'.free (off + k)
      have HO : Hid (Own wr g off n1 b1 ys ∧ Chg (fun q => (Value.slice (some ⟨g, off, none⟩) n1 b1).ownBlock = some q) w1 wr) := ⟨ho', hc⟩
      clear ho ho' hc
      go_wp2
      go_roundw
      case rel => exact ⟨k + 1, _, by omega, by go_num, .inr ⟨_, _, _, _, rfl, HO.out.1.set k hlt _⟩, HO.out.2.setCell (p := ⟨g, off + k, none⟩) (fun _ => rfl) _⟩
      case measure => simp [intOf]; omega
    · have hge : ¬ (k : Int) < n1 := by omega
      have hT2 : Two wr p q room vf va (.slice uo f.length uc) (.slice xo a.length xc) f a cl br ∧ Chg Non w wr := by
        obtain ⟨h1, h2, h3, h4⟩ := H1.out
        have hcw : Chg Non w wr := h2.trans hc (fun i hi e => by have := h4 i e; omega)
        exact ⟨HH.out.fresh hcw (fun _ e => e.elim), hcw⟩
      have H2 : Hid (Two wr p q room vf va (.slice uo f.length uc) (.slice xo a.length xc) f a cl br ∧ Chg Non w wr) := hT2
      clear ho hc
      obtain ⟨c0, c1, c2, c3, c4⟩ := hT2.1.B.cells
      have hs0 := run_str wr.drew _ _ hT2.1.B.fly.rd.drew
      rw [HSX.out] at hs0
      clear hT2
      go_wp2_with fail
      refine wp_region_noPanic ?_
      go_region_held (fun w' => w'.cell? ⟨q, 1, none⟩ = some (.slice uo f.length uc) ∧ w'.cell? ⟨q, 2, none⟩ = some (.slice xo a.length xc) ∧ (convert 32 9 (.slice uo f.length uc)).run Try.prog w' = .ok (.string sx) w')
        (first | exact ⟨c1, c2, hs0⟩ | exact ⟨d1, d2, hs4⟩ | exact ⟨d1, d2, hs5 _⟩ | go_keep)
        (first
        | (go_at_call 41; (refine (flight_any p room vf va f a cl br _ ?_ ?_).mono ?_; exact H2.out.1.A.drew; omega; rintro e w2 ⟨v2, rfl, ho2, hc2, hk2⟩; have hT3 := (H2.out.1.drewN 1).fresh hc2 (fun _ e => e.elim); obtain ⟨d0, d1, d2, d3, d4⟩ := hT3.B.cells; have hs3 := run_str w2 _ _ ho2.rd; have hs4 := run_str w2 _ _ hT3.B.fly.rd; have hs5 := (fun m => run_str (w2.drewN m) _ _ (rd_drewN hT3.B.fly.rd m)); simp only [HSX.out] at hs3 hs4 hs5))
        | (go_at_call 42; (refine (arrived_any p room vf va f a cl br _ ?_).mono ?_; exact hT3.A; rintro e w3 ⟨rfl, rfl⟩))
        | (go_at_call 43; (refine (room_any p room vf va f a cl br _ ?_ ?_ hr).mono ?_; exact hT3.A; omega; rintro e w3 ⟨rfl, m3, rfl⟩))
        | (go_at_call 44; (refine (refRoom_any q room (.slice uo f.length uc) (.slice xo a.length xc) f a cl br _ ?_ ?_ hr).mono ?_; exact (hT3.drewN _).B; omega; rintro e w3 ⟨rfl, m4, rfl⟩)))
      all_goals
        refine NoPanic.normal ?_
        have HF : Hid (Two w3 p q room vf va (.slice uo f.length uc) (.slice xo a.length xc) f a cl br ∧ Chg Non w w3) := ⟨hT3, H2.out.2.trans (S' := Non) hc2.undrew (fun _ _ e => e)⟩
        clear hT3 ho2 hc2 hk2 hs3 hs4 hs5 hs0 c0 c1 c2 c3 c4 d0 d1 d2 d3 d4
        go_wp2
        go_ret
        obtain ⟨hT, hC⟩ := HF.out
        exact ⟨rfl, hT.drewN _, ⟨hC.os, hC.tape, hC.output, hC.size, hC.block⟩⟩
end Go.Proofs.Ytiegofelidnnlaa
