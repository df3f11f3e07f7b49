/-
  The program's pipe: what it holds, and what NewPipe, held, Room, Write, Close, Move and Read do to it.
-/
import Derived.Test.YtiegofelidnnlaaWholeWalk
namespace Go.Proofs.Ytiegofelidnnlaa
open Go.RowKit
set_option linter.unusedVariables false

/-- The program's pipe. -/
structure PipeA (w : World) (p : Nat) (room : Int) (vf va : Value) (f a : List Int) (cl br : Bool) : Prop where
  blk : w.heap[p]? = some (.cells #[.int .i64 room, vf, va, .bool cl, .bool br] 70 (0, 0))
  fly : Tight w vf f
  arr : Tight w va a
  sf : vf.ownBlock ≠ some p
  sa : va.ownBlock ≠ some p

theorem PipeA.lt {w : World} {p : Nat} {room : Int} {vf va : Value} {f a : List Int} {cl br : Bool} (h : PipeA w p room vf va f a cl br) : p < w.heap.size := (Array.getElem?_eq_some_iff.1 h.blk).1

theorem PipeA.cells {w : World} {p : Nat} {room : Int} {vf va : Value} {f a : List Int} {cl br : Bool} (h : PipeA w p room vf va f a cl br) :
    w.cell? ⟨p, 0, none⟩ = some (.int .i64 room) ∧ w.cell? ⟨p, 1, none⟩ = some vf ∧ w.cell? ⟨p, 2, none⟩ = some va ∧ w.cell? ⟨p, 3, none⟩ = some (.bool cl) ∧ w.cell? ⟨p, 4, none⟩ = some (.bool br) := by
  refine ⟨?_, ?_, ?_, ?_, ?_⟩
  · rw [cell_of_row w p 0 _ 70 (0, 0) h.blk]; rfl
  · rw [cell_of_row w p 1 _ 70 (0, 0) h.blk]; rfl
  · rw [cell_of_row w p 2 _ 70 (0, 0) h.blk]; rfl
  · rw [cell_of_row w p 3 _ 70 (0, 0) h.blk]; rfl
  · rw [cell_of_row w p 4 _ 70 (0, 0) h.blk]; rfl

theorem PipeA.free {w : World} {p : Nat} {room : Int} {vf va : Value} {f a : List Int} {cl br : Bool} (h : PipeA w p room vf va f a cl br) (o : Nat) : w.frozen? ⟨p, o, none⟩ = false := by
  simp [World.frozen?, h.blk]

theorem PipeA.kept {S : Nat → Prop} {w w' : World} {p : Nat} {room : Int} {vf va : Value} {f a : List Int} {cl br : Bool} (h : PipeA w p room vf va f a cl br) (hc : Chg S w w') (h0 : ¬ S p)
    (h1 : ∀ k, vf.ownBlock = some k → ¬ S k) (h2 : ∀ k, va.ownBlock = some k → ¬ S k) : PipeA w' p room vf va f a cl br :=
  ⟨(hc.block p h.lt h0).trans h.blk, h.fly.keep (fun k e => hc.block k (h.fly.lt k e) (h1 k e)), h.arr.keep (fun k e => hc.block k (h.arr.lt k e) (h2 k e)), h.sf, h.sa⟩

theorem PipeA.drewN {w : World} {p : Nat} {room : Int} {vf va : Value} {f a : List Int} {cl br : Bool} (h : PipeA w p room vf va f a cl br) (n : Nat) : PipeA (w.drewN n) p room vf va f a cl br :=
  ⟨h.blk, h.fly.keep (fun _ _ => rfl), h.arr.keep (fun _ _ => rfl), h.sf, h.sa⟩

theorem Tight.len {w : World} {v : Value} {xs : List Int} (h : Tight w v xs) : ∃ ao, v = .slice ao xs.length xs.length ∧ xs.length ≤ maxLen := by
  rcases h with ⟨rfl, rfl⟩ | ⟨x, n, rfl, hn, h0, hmx, hx⟩
  · exact ⟨_, rfl, by simp⟩
  · subst hn
    exact ⟨_, rfl, hmx⟩

theorem Tight.drew {w : World} {v : Value} {xs : List Int} (h : Tight w v xs) : Tight w.drew v xs := h.keep (fun _ _ => rfl)

set_option maxHeartbeats 400000 in
theorem newPipe_no (room : Int) (w : World) (h : room < 1 ∨ 65536 < room) :
    Calls Try.prog 17 #[.int .i64 room] w fun e w' => e = .returned (.tuple #[.pointer none, .int .i64 1]) ∧ w' = w := by
  by_cases h1 : room < 1
  · go_enter Try.func17, Try.ntmps17
    go_wp2
    all_goals (go_ret2; exact ⟨rfl, rfl⟩)
  · go_enter Try.func17, Try.ntmps17
    go_wp2
    all_goals (go_ret2; exact ⟨rfl, rfl⟩)

set_option maxHeartbeats 400000 in
theorem newPipe_yes (room : Int) (w : World) (h1 : 1 ≤ room) (h2 : room ≤ 65536) :
    Calls Try.prog 17 #[.int .i64 room] w fun e w' => e = .returned (.tuple #[.pointer (some ⟨w.heap.size, 0, none⟩), .int .i64 0]) ∧ PipeA w' w.heap.size room (.slice none 0 0) (.slice none 0 0) [] [] false false ∧ Chg Non w w' := by
  go_enter Try.func17, Try.ntmps17
  go_wp2
  go_ret2
  exact ⟨rfl, ⟨heap_alloc_new w _, .inl ⟨rfl, rfl⟩, .inl ⟨rfl, rfl⟩, by simp [Value.ownBlock], by simp [Value.ownBlock]⟩, (Chg.refl _ _).alloc _⟩

set_option maxHeartbeats 400000 in
theorem close_any (p : Nat) (room : Int) (vf va : Value) (f a : List Int) (cl br : Bool) (w : World) (h : PipeA w p room vf va f a cl br) :
    Calls Try.prog 24 #[.pointer (some ⟨p, 0, none⟩)] w fun e w' => e = .returned (.tuple #[]) ∧ PipeA w' p room vf va f a true br ∧ Chg (One p) w w' := by
  obtain ⟨c0, c1, c2, c3, c4⟩ := h.cells
  have hf := h.free
  have HH : Hid (PipeA w p room vf va f a cl br) := h
  clear h
  go_enter Try.func24, Try.ntmps24
  go_wp2
  go_end0
  have h := HH.out
  exact ⟨rfl, ⟨heap_setCell_at _ _ _ _ _ _ h.blk, h.fly.keep (fun k e => Below.heap_setCell _ _ _ _ (fun e' => h.sf (by rw [e, e']))), h.arr.keep (fun k e => Below.heap_setCell _ _ _ _ (fun e' => h.sa (by rw [e, e']))), h.sf, h.sa⟩,
    Chg.setCell (S := One p) (Chg.refl _ _) (p := ⟨p, 3, none⟩) (fun _ => rfl) _⟩

set_option maxHeartbeats 400000 in
theorem held_any (p : Nat) (room : Int) (vf va : Value) (f a : List Int) (cl br : Bool) (w : World) (h : PipeA w p room vf va f a cl br) (hl : f.length + a.length ≤ 281474976710656) :
    Calls Try.prog 46 #[.pointer (some ⟨p, 0, none⟩)] w fun e w' => e = .returned (.int .i64 (f.length + a.length : Nat)) ∧ ∃ n, w' = w.drewN n := by
  obtain ⟨ao, rfl, -⟩ := h.fly.len
  obtain ⟨bo, rfl, -⟩ := h.arr.len
  obtain ⟨c0, c1, c2, c3, c4⟩ := h.cells
  clear h
  generalize f.length = F at *
  generalize a.length = A at *
  go_enter Try.func46, Try.ntmps46
  go_wp2_with fail
  go_quiet (fail)
  go_wp2
  go_ret
  exact ⟨by simp, _, rfl⟩

/-- What Room answers. -/
def roomOf (room : Int) (n : Nat) (cl br : Bool) : Int := if cl = true ∨ br = true then 0 else max (room - n) 0

set_option maxHeartbeats 400000 in
theorem room_any (p : Nat) (room : Int) (vf va : Value) (f a : List Int) (cl br : Bool) (w : World) (h : PipeA w p room vf va f a cl br) (hl : f.length + a.length ≤ 281474976710656) (hr : 0 ≤ room ∧ room ≤ 65536) :
    Calls Try.prog 43 #[.pointer (some ⟨p, 0, none⟩)] w fun e w' => e = .returned (.int .i64 (roomOf room (f.length + a.length) cl br)) ∧ ∃ n, w' = w.drewN n := by
  obtain ⟨c0, c1, c2, c3, c4⟩ := h.cells
  have HH : Hid (PipeA w p room vf va f a cl br) := h
  clear h
  cases hcl : cl with
  | true =>
    subst hcl
    go_enter Try.func43, Try.ntmps43
    go_wp2
    go_ret
    exact ⟨ret_int (by simp [roomOf]), 0, rfl⟩
  | false =>
    subst hcl
    cases hbr : br with
    | true =>
      subst hbr
      go_enter Try.func43, Try.ntmps43
      go_wp2
      go_ret
      exact ⟨ret_int (by simp [roomOf]), 0, rfl⟩
    | false =>
      subst hbr
      have hh := fun n => held_any p room vf va f a false false (w.drewN n) (HH.out.drewN n) hl
      generalize hT : f.length + a.length = T at *
      obtain ⟨hr1, hr2⟩ := hr
      clear hT
      by_cases hm : room - (T : Int) < 0
      · go_enter Try.func43, Try.ntmps43
        go_wp2_with fail
        go_quiet ((go_at_call 46; exact Calls.quiet_of (hh _)))
        go_wp2
        all_goals (go_ret; exact ⟨ret_int (by simp [roomOf]; omega), _, rfl⟩)
      · go_enter Try.func43, Try.ntmps43
        go_wp2_with fail
        go_quiet ((go_at_call 46; exact Calls.quiet_of (hh _)))
        go_wp2
        all_goals (go_ret; exact ⟨ret_int (by simp [roomOf]; omega), _, rfl⟩)

theorem rd_takeO {w : World} {ao : Option Addr} {n c m : Nat} {l : List Int} (h : Rd w (.slice ao n c) l) (hm : m ≤ n) : Rd w (.slice ao m c) (l.take m) := by
  obtain ⟨ao', n', c', e, hn, hc, hmx, h0, hx⟩ := h
  cases e
  refine ⟨_, _, _, rfl, by simp; omega, by omega, hmx, h0, fun y e j u hj => ?_⟩
  rw [List.getElem?_take] at hj
  split at hj
  · exact hx y e j u hj
  · cases hj

/-- What a new list in flight leaves of a pipe. -/
theorem PipeA.setFly {w : World} {p : Nat} {room : Int} {vf va : Value} {a : List Int} {cl br : Bool} (hb : w.heap[p]? = some (.cells #[.int .i64 room, vf, va, .bool cl, .bool br] 70 (0, 0))) (ha : Tight w va a) (hsa : va.ownBlock ≠ some p)
    {v : Value} {g : List Int} (hv : Tight w v g) (hs : v.ownBlock ≠ some p) : PipeA (w.setCell ⟨p, 1, none⟩ v) p room v va g a cl br :=
  ⟨heap_setCell_at _ _ _ _ _ _ hb, hv.keep (fun k e => Below.heap_setCell _ _ _ _ (fun e' => hs (by rw [e, e']))), ha.keep (fun k e => Below.heap_setCell _ _ _ _ (fun e' => hsa (by rw [e, e']))), hs, hsa⟩

theorem PipeA.setArr {w : World} {p : Nat} {room : Int} {vf va : Value} {f : List Int} {cl br : Bool} (hb : w.heap[p]? = some (.cells #[.int .i64 room, vf, va, .bool cl, .bool br] 70 (0, 0))) (hf : Tight w vf f) (hsf : vf.ownBlock ≠ some p)
    {v : Value} {g : List Int} (hv : Tight w v g) (hs : v.ownBlock ≠ some p) : PipeA (w.setCell ⟨p, 2, none⟩ v) p room vf v f g cl br :=
  ⟨heap_setCell_at _ _ _ _ _ _ hb, hf.keep (fun k e => Below.heap_setCell _ _ _ _ (fun e' => hsf (by rw [e, e']))), hv.keep (fun k e => Below.heap_setCell _ _ _ _ (fun e' => hs (by rw [e, e']))), hsf, hs⟩

theorem PipeA.drew {w : World} {p : Nat} {room : Int} {vf va : Value} {f a : List Int} {cl br : Bool} (h : PipeA w p room vf va f a cl br) : PipeA w.drew p room vf va f a cl br := h.drewN 1

set_option maxHeartbeats 1000000 in
theorem write_any (p : Nat) (room : Int) (vf va : Value) (f a : List Int) (cl br : Bool) (so : Option Addr) (sn sc : Nat) (ys : List Int) (w : World) (h : PipeA w p room vf va f a cl br) (hl : f.length + a.length ≤ 281474976710656) (hl2 : f.length ≤ 70368744177664) (hr : 0 ≤ room ∧ room ≤ 65536)
    (hs : Rd w (.slice so sn sc) ys) (hl3 : ys.length ≤ 140737488355328) :
    Calls Try.prog 21 #[.pointer (some ⟨p, 0, none⟩), .slice so sn sc] w fun e w' => ∃ K : Nat, (K : Int) = min (ys.length : Int) (roomOf room (f.length + a.length) cl br) ∧ e = .returned (.int .i64 K) ∧ ∃ vf', PipeA w' p room vf' va (f ++ ys.take K) a cl br ∧ Chg (One p) w w' ∧ ∀ k, vf'.ownBlock = some k → vf.ownBlock = some k ∨ w.heap.size ≤ k := by
  have hr0 : 0 ≤ roomOf room (f.length + a.length) cl br ∧ roomOf room (f.length + a.length) cl br ≤ 65536 := by
    unfold roomOf; split <;> omega
  have hroom := room_any p room vf va f a cl br w h hl hr
  obtain ⟨K, hK⟩ : ∃ K : Nat, (K : Int) = min (ys.length : Int) (roomOf room (f.length + a.length) cl br) := ⟨(min (ys.length : Int) (roomOf room (f.length + a.length) cl br)).toNat, by omega⟩
  generalize hRm : roomOf room (f.length + a.length) cl br = R at *
  have hsn : sn = ys.length ∧ sn ≤ sc ∧ sc ≤ maxLen := by
    obtain ⟨_, _, _, e, h1, h2, h3, _⟩ := hs; cases e; exact ⟨h1, h2, h3⟩
  obtain ⟨hsn1, hsn2, hsn3⟩ := hsn
  unfold maxLen at hsn3
  have HH : Hid (PipeA w p room vf va f a cl br ∧ Rd w (.slice so sn sc) ys ∧ sn = ys.length) := ⟨h, hs, hsn1⟩
  have HK : Hid ((K : Int) = min (ys.length : Int) R) := hK
  have hK1 : K ≤ sn := by omega
  have hK2 : K ≤ 65536 := by omega
  have hsn4 : sn ≤ 140737488355328 := by omega
  have hmin : (R < (sn : Int) ∧ R = K) ∨ ((sn : Int) ≤ R ∧ sn = K) := by omega
  have HRm : Hid (roomOf room (f.length + a.length) cl br = R) := hRm
  clear h hs hsn1 hK hRm hr0 hr
  obtain ⟨fo, hfo⟩ : ∃ fo, vf = .slice fo f.length f.length := by obtain ⟨fo, e, -⟩ := HH.out.1.fly.len; exact ⟨fo, e⟩
  have HFO : Hid (vf = .slice fo f.length f.length) := hfo
  clear hfo
  go_enter Try.func21, Try.ntmps21
  go_upto_region 1 with fail
  go_cut [5] (fun t wc => t = .int .i64 K ∧ ∃ n, wc = w.drewN n)
  case first =>
    go_wp2_with fail
    refine hroom.mono ?_
    rintro e w1 ⟨rfl, n1, hw1⟩
    have HW1 : Hid (∃ n, w1 = w.drewN n) := ⟨n1, hw1⟩
    clear hw1 hroom
    rcases hmin with ⟨hm1, hm2⟩ | ⟨hm1, hm2⟩
    · have HM : Hid (R = K) := hm2
      clear hm2
      go_wp2_with fail
      go_meet
      case rel => exact ⟨by rw [HM.out], HW1.out⟩
    · have HM : Hid (sn = K) := hm2
      clear hm2
      go_wp2_with fail
      go_meet
      case rel => exact ⟨by rw [HM.out], HW1.out⟩
  case rest =>
    obtain ⟨rfl, n1, hw1⟩ := hcut
    have hP := HH.out.1.drewN n1
    rw [← hw1] at hP
    have hc1 : Chg Non w wc := by rw [hw1]; exact ⟨rfl, rfl, rfl, Nat.le_refl _, fun _ _ _ => rfl⟩
    have hS := rd_first HH.out.2.1 hc1
    have hs1 : w.heap.size ≤ wc.heap.size := hc1.size
    clear hw1 hroom hmin
    obtain ⟨c0, c1, c2, c3, c4⟩ := hP.cells
    have hfr := hP.free
    have hKc : (K : Int) ≤ sc := by omega
    have HP : Hid (PipeA wc p room vf va f a cl br ∧ Rd wc (.slice so sn sc) ys ∧ Chg Non w wc) := ⟨hP, hS, hc1⟩
    clear hP hS hc1
    go_wp2_with fail
    go_region_with (go_at_call 45; (refine (join_any _ _ f (ys.take K) _ ?_ ?_ ?_).mono ?_; exact HP.out.1.fly.drew; exact (rd_takeO HP.out.2.1 hK1).drew; (simp; omega); rintro e w' ⟨v', rfl, ht', hc', hk'⟩; obtain ⟨ao', n', rfl⟩ := ht'.shape; have hb' := (hc'.block p HP.out.1.lt (fun e => e)).trans HP.out.1.blk; have c1' : w'.cell? ⟨p, 1, none⟩ = some vf := (by rw [cell_of_row w' p 1 _ 70 (0, 0) hb']; rfl); have f1' : w'.frozen? ⟨p, 1, none⟩ = false := (by simp [World.frozen?, hb'])))
    all_goals
      have HF : Hid (Tight w' (.slice ao' n' n') (f ++ ys.take K) ∧ Chg Non wc w' ∧ (∀ k, (Value.slice ao' n' n').ownBlock = some k → vf.ownBlock = some k ∨ wc.heap.size ≤ k) ∧ w'.heap[p]? = some (.cells #[.int .i64 room, vf, va, .bool cl, .bool br] 70 (0, 0))) := ⟨ht', ⟨hc'.os, hc'.tape, hc'.output, hc'.size, hc'.block⟩, hk', hb'⟩
      clear ht' hc' hk' hb' c0 c1 c2 c3 c4 hfr
      go_wp2
      go_ret
      obtain ⟨ht', hc', hk', hb'⟩ := HF.out
      obtain ⟨hP, hS, hc1⟩ := HP.out
      have hcw : Chg Non w w' := hc1.trans hc' (fun _ _ e => e)
      refine ⟨K, HK.out, rfl, _, PipeA.setFly hb' (hP.arr.keep (fun k e => hc'.block k (hP.arr.lt k e) (fun e => e))) hP.sa ht' ?_, (hcw.non (One p)).setCell (p := ⟨p, 1, none⟩) (fun _ => rfl) _, fun k e => ?_⟩
      · intro e
        rcases hk' p e with h | h
        · exact hP.sf h
        · have := hP.lt; omega
      · rcases hk' k e with h | h
        · exact .inl h
        · exact .inr (by omega)

theorem Chg.undrew {S : Nat → Prop} {w w' : World} (h : Chg S w.drew w') : Chg S w w' := ⟨h.os, h.tape, h.output, h.size, h.block⟩

/-- What of a list lies behind a place: cut's list, by the place alone. -/
theorem cut_tail (v : Value) (xs : List Int) (k t : Int) (w : World) (hv : Rd w v xs) (h0 : 0 ≤ k) (h1 : k ≤ t) (h2 : t = xs.length) :
    Calls Try.prog 29 #[v, .int .i64 k, .int .i64 t] w fun e w' => ∃ v', e = .returned v' ∧ w' = w ∧ Tight w v' (xs.drop k.toNat) ∧ ∀ q, v'.ownBlock = some q → v.ownBlock = some q := by
  refine (cut_rd v xs k t w hv h0 h1 (by omega)).mono ?_
  rintro e w' ⟨v', rfl, rfl, ht, hk⟩
  refine ⟨v', rfl, rfl, ?_, hk⟩
  have : (xs.drop k.toNat).take (t.toNat - k.toNat) = xs.drop k.toNat := List.take_of_length_le (by simp; omega)
  rwa [this] at ht

set_option maxHeartbeats 1000000 in
theorem move_any (p : Nat) (room : Int) (vf va : Value) (f a : List Int) (cl br : Bool) (n : Int) (w : World) (h : PipeA w p room vf va f a cl br) (hl : f.length + a.length ≤ 140737488355328) :
    Calls Try.prog 22 #[.pointer (some ⟨p, 0, none⟩), .int .i64 n] w fun e w' => ∃ K : Nat, (K : Int) = max 0 (min n f.length) ∧ e = .returned (.int .i64 K) ∧ ∃ vf' va', PipeA w' p room vf' va' (f.drop K) (a ++ f.take K) cl br ∧ Chg (One p) w w' ∧
      (∀ k, vf'.ownBlock = some k → vf.ownBlock = some k) ∧ (∀ k, va'.ownBlock = some k → va.ownBlock = some k ∨ w.heap.size ≤ k) := by
  obtain ⟨K, hK⟩ : ∃ K : Nat, (K : Int) = max 0 (min n f.length) := ⟨(max 0 (min n f.length)).toNat, by omega⟩
  obtain ⟨fo, rfl, hfm⟩ := h.fly.len
  have hb := between_any n f.length w
  rw [← hK] at hb
  obtain ⟨c0, c1, c2, c3, c4⟩ := h.cells
  have hfr := h.free
  have HH : Hid (PipeA w p room (.slice fo f.length f.length) va f a cl br) := h
  have HK : Hid ((K : Int) = max 0 (min n f.length)) := hK
  have hKF : (K : Int) ≤ (f.length : Int) := by omega
  have hrl := h.fly.rd
  have hplt := h.lt
  unfold maxLen at hfm
  generalize hF : f.length = F at *
  have HF : Hid (f.length = F) := hF
  have HR : Hid (Rd w (.slice fo F F) f) := hrl
  clear h hK hF hrl
  go_enter Try.func22, Try.ntmps22
  go_wp2_with fail
  refine hb.mono ?_
  rintro e w1 ⟨rfl, rfl⟩
  clear hb
  go_wp2_with fail
  go_region_with (go_at_call 45; (refine (join_any _ _ a (f.take K) _ ?_ ?_ ?_).mono ?_; exact HH.out.arr.drew; exact (rd_takeO HR.out (by omega)).drew; (simp; omega); rintro e w' ⟨v', rfl, ht', hc', hk'⟩; obtain ⟨ao', n', rfl⟩ := ht'.shape; have hb' := (hc'.block p HH.out.lt (fun e => e)).trans HH.out.blk; have c1' : w'.cell? ⟨p, 2, none⟩ = some va := (by rw [cell_of_row w' p 2 _ 70 (0, 0) hb']; rfl); have f1' : w'.frozen? ⟨p, 2, none⟩ = false := (by simp [World.frozen?, hb'])))
  all_goals
    have hT2 : PipeA (w'.setCell ⟨p, 2, none⟩ (.slice ao' n' n')) p room (.slice fo F F) (.slice ao' n' n') f (a ++ f.take K) cl br :=
      PipeA.setArr hb' (HH.out.fly.keep (fun k e => hc'.block k (HH.out.fly.lt k e) (fun e => e))) HH.out.sf ht' (fun e => by
        rcases hk' p e with h | h
        · exact HH.out.sa h
        · have := HH.out.lt; simp at h; omega)
    have HT : Hid (PipeA (w'.setCell ⟨p, 2, none⟩ (.slice ao' n' n')) p room (.slice fo F F) (.slice ao' n' n') f (a ++ f.take K) cl br ∧ Chg (One p) w1 (w'.setCell ⟨p, 2, none⟩ (.slice ao' n' n')) ∧ (∀ k, (Value.slice ao' n' n').ownBlock = some k → va.ownBlock = some k ∨ w1.heap.size ≤ k)) :=
      ⟨hT2, (hc'.undrew.non (One p)).setCell (p := ⟨p, 2, none⟩) (fun _ => rfl) _, hk'⟩
    obtain ⟨d0, d1, d2, d3, d4⟩ := hT2.cells
    have hfr2 := hT2.free
    generalize hw2 : w'.setCell ⟨p, 2, none⟩ (.slice ao' n' n') = w2 at *
    clear ht' hc' hk' hb' c0 c1 c2 c3 c4 hfr hw2 hT2 c1' f1'
    go_wp2_with fail
    go_region_with (go_at_call 29; (refine (cut_tail _ f _ _ _ ?_ ?_ ?_ ?_).mono ?_; exact HT.out.1.fly.rd.drew; omega; omega; (rw [HF.out]); rintro e w5 ⟨v5, rfl, rfl, ht5, hk5⟩; obtain ⟨ao5, n5, rfl⟩ := ht5.shape))
    all_goals
      have H5 : Hid (Tight w2 (.slice ao5 n5 n5) (f.drop K) ∧ ∀ q, (Value.slice ao5 n5 n5).ownBlock = some q → (Value.slice fo F F).ownBlock = some q) := ⟨by simpa using ht5.keep (w' := w2) (fun _ _ => rfl), hk5⟩
      clear ht5 hk5 d0 d1 d2 d3 d4 hfr2
      go_wp2
      go_ret
      obtain ⟨hT, hcT, hkT⟩ := HT.out
      refine ⟨K, HK.out, rfl, _, _, (PipeA.setFly hT.blk hT.arr hT.sa H5.out.1 (fun e => hT.sf (H5.out.2 p e))).drew, (hcT.setCell (p := ⟨p, 1, none⟩) (fun _ => rfl) _).drew, H5.out.2, hkT⟩
end Go.Proofs.Ytiegofelidnnlaa
