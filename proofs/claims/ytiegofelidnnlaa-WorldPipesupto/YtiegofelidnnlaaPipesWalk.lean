/-
  The walk of WorldPipes, where the bytes of all calls together are few: it returns true, and writes nothing that was there.
-/
import Derived.Test.YtiegofelidnnlaaAlike
import Derived.Test.YtiegofelidnnlaaDoWrite
import Derived.Test.YtiegofelidnnlaaDoRead
import Derived.Test.YtiegofelidnnlaaDoAlter
import Derived.Test.YtiegofelidnnlaaOrderWalk
namespace Go.Proofs.Ytiegofelidnnlaa
open Go.RowKit
set_option linter.unusedVariables false

theorem DoPost.more {w w' : World} {p q : Nat} {room : Int} {n m : Nat} (h : DoPost w w' p q room n) (hm : n ≤ m) : DoPost w w' p q room m := by
  obtain ⟨vf, va, uf, ua, f, a, cl, br, hT, hl, hc⟩ := h
  exact ⟨vf, va, uf, ua, f, a, cl, br, hT, by omega, hc⟩

/-- Whatever the call. -/
theorem do_all (p q : Nat) (room : Int) (vf va uf ua : Value) (f a : List Int) (cl br : Bool) (call t n : Int) (so : Option Addr) (sn sc : Nat) (ys : List Int) (w : World) (h : Two w p q room vf va uf ua f a cl br) (hs : ∀ w', Chg (PQ p q) w w' → Rd w' (.slice so sn sc) ys)
    (hl : f.length + a.length ≤ 35184372088832) (hr : 0 ≤ room ∧ room ≤ 65536) (hy : ys.length ≤ 35184372088832) (ht : t ≤ 9223372036854775807) (hn : n ≤ 9223372036854775807) :
    Calls Try.prog 19 #[.pointer (some ⟨p, 0, none⟩), .pointer (some ⟨q, 0, none⟩), .agg #[.int .i64 call, .int .i64 t, .int .i64 n, .slice so sn sc]] w fun e w' => e = .returned (.bool true) ∧ DoPost w w' p q room (f.length + a.length + ys.length) := by
  have more : ∀ {m : Nat}, m ≤ f.length + a.length + ys.length → (Calls Try.prog 19 #[.pointer (some ⟨p, 0, none⟩), .pointer (some ⟨q, 0, none⟩), .agg #[.int .i64 call, .int .i64 t, .int .i64 n, .slice so sn sc]] w fun e w' => e = .returned (.bool true) ∧ DoPost w w' p q room m) →
      Calls Try.prog 19 #[.pointer (some ⟨p, 0, none⟩), .pointer (some ⟨q, 0, none⟩), .agg #[.int .i64 call, .int .i64 t, .int .i64 n, .slice so sn sc]] w fun e w' => e = .returned (.bool true) ∧ DoPost w w' p q room (f.length + a.length + ys.length) := by
    intro m hm hcall
    exact hcall.mono (fun e w' ⟨he, hp⟩ => ⟨he, hp.more hm⟩)
  by_cases h0 : call = 0
  · subst h0; exact do_write p q room vf va uf ua f a cl br t n so sn sc ys w h hs hl hr hy
  by_cases h1 : call = 1
  · subst h1; exact more (by omega) (do_move p q room vf va uf ua f a cl br t n _ w h ⟨_, _, _, rfl⟩ (by omega))
  by_cases h2 : call = 2
  · subst h2; exact do_alter p q room vf va uf ua f a cl br t n so sn sc ys w h hs hl hy ht hn
  by_cases h3 : call = 3
  · subst h3
    cases br with
    | true => exact more (by omega) (do_readBroken p q room vf va uf ua f a cl t n _ w h ⟨_, _, _, rfl⟩)
    | false =>
      by_cases hemp : cl = true ∧ f.length + a.length = 0
      · obtain ⟨rfl, hz⟩ := hemp
        have hf : f = [] := List.eq_nil_of_length_eq_zero (by omega)
        have ha : a = [] := List.eq_nil_of_length_eq_zero (by omega)
        subst hf ha
        exact more (Nat.zero_le _) (do_readEnded p q room vf va uf ua t n _ w h ⟨_, _, _, rfl⟩)
      · exact more (by omega) (do_readOpen p q room vf va uf ua f a cl t n _ w h ⟨_, _, _, rfl⟩ (by omega) (fun hc => by
          have : ¬ f.length + a.length = 0 := fun e => hemp ⟨hc, e⟩
          omega))
  by_cases h4 : call = 4
  · subst h4; exact more (by omega) (do_cut p q room vf va uf ua f a cl br t n _ w h ⟨_, _, _, rfl⟩)
  by_cases h5 : call = 5
  · subst h5; exact more (by omega) (do_close p q room vf va uf ua f a cl br t n _ w h ⟨_, _, _, rfl⟩)
  by_cases h6 : call = 6
  · subst h6; exact more (by omega) (do_break p q room vf va uf ua f a cl br t n _ w h ⟨_, _, _, rfl⟩)
  exact more (by omega) (do_none p q room vf va uf ua f a cl br call t n _ w h ⟨_, _, _, rfl⟩ (by simpa using h0) (by simpa using h1) (by simpa using h2) (by simpa using h3) (by simpa using h4) (by simpa using h5) (by simpa using h6))

/-- The bytes of the first calls together. -/
def tot (Y : Nat → List Int) : Nat → Nat
  | 0 => 0
  | k + 1 => tot Y k + (Y k).length

theorem tot_le (Y : Nat → List Int) : ∀ {k m : Nat}, k ≤ m → tot Y k ≤ tot Y m
  | k, 0, h => by
    have : k = 0 := by omega
    subst this; exact Nat.le_refl _
  | k, m + 1, h => by
    by_cases e : k = m + 1
    · subst e; exact Nat.le_refl _
    · have := tot_le Y (k := k) (m := m) (by omega)
      simp only [tot]
      omega

theorem Two.left {w w' : World} {p q : Nat} {room : Int} {vf va uf ua : Value} {f a : List Int} {cl br : Bool} (h : Two w p q room vf va uf ua f a cl br) (hc : Chg Non w w') : Two w' p q room vf va uf ua f a cl br := h.fresh hc (fun _ e => e.elim)

set_option maxRecDepth 100000 in
set_option maxHeartbeats 4000000 in
theorem pipes_walk (room : Int) (ad : Option Addr) (len cap : Nat) (Y : Nat → List Int) (w : World) (hl : len ≤ 2932031007402) (hrow : OpRow w ad len Y) (htot : tot Y len ≤ 1048576) :
    Calls Try.prog 6 #[.int .i64 room, .slice ad len cap] w fun e w' => e = .returned (.bool true) ∧ Below w.heap.size w w' := by
  have HR : Hid (OpRow w ad len Y) := hrow
  clear hrow
  by_cases hbad : room < 1 ∨ 65536 < room
  · go_enter Try.func6, Try.ntmps6
    go_wp2_with fail
    refine (head_any _).mono ?_
    rintro e w1 ⟨rfl, hc1⟩
    go_wp2_with fail
    refine (newPipe_no room _ hbad).mono ?_
    rintro e w2 ⟨rfl, rfl⟩
    go_wp2_with fail
    refine (refNewPipe_no room _ hbad).mono ?_
    rintro e w3 ⟨rfl, rfl⟩
    go_wp2
    all_goals (go_ret; exact ⟨rfl, hc1.below (Nat.le_refl _) (fun _ e => e.elim)⟩)
  · go_enter Try.func6, Try.ntmps6
    go_wp2_with fail
    refine (head_any _).mono ?_
    rintro e w1 ⟨rfl, hc1⟩
    go_wp2_with fail
    refine (newPipe_yes room _ (by omega) (by omega)).mono ?_
    rintro e w2 ⟨rfl, hA, hc2⟩
    have HA : Hid (PipeA w2 w1.heap.size room (.slice none 0 0) (.slice none 0 0) [] [] false false ∧ Chg Non w w2) := ⟨hA, hc1.trans hc2 (fun _ _ e => e)⟩
    have hs1 := hc1.size
    have hs2 := hA.lt
    clear hA hc1 hc2
    go_wp2_with fail
    refine (refNewPipe_yes room _ (by omega) (by omega)).mono ?_
    rintro e w3 ⟨rfl, hB, hc3⟩
    have HT : Hid (Two w3 w1.heap.size w2.heap.size room (.slice none 0 0) (.slice none 0 0) (.slice none 0 0) (.slice none 0 0) [] [] false false ∧ Chg Non w w3) :=
      ⟨⟨HA.out.1.kept hc3 (fun e => e) (fun _ _ e => e) (fun _ _ e => e), hB, by simp [Value.ownBlock], by simp [Value.ownBlock]⟩, HA.out.2.trans hc3 (fun _ _ e => e)⟩
    clear hB hc3 HA
    go_wp2_with fail
    go_loopw [10] (fun i wr => ∃ (k : Nat) (vf va uf ua : Value) (f a : List Int) (cl br : Bool), k ≤ len ∧ i = .int .i64 k ∧ Two wr w1.heap.size w2.heap.size room vf va uf ua f a cl br ∧ f.length + a.length ≤ tot Y k ∧ Chg Non w wr)
      (fun i _ => len - (intOf i).toNat)
    case atStart => exact ⟨0, _, _, _, _, _, _, _, _, Nat.zero_le _, rfl, HT.out.1, by simp, HT.out.2⟩
    case round =>
      obtain ⟨k, vf, va, uf, ua, f, a, cl, br, hk, rfl, hT, hfa, hc⟩ := hrel
      by_cases hlt : k < len
      · obtain ⟨b, off, call, at', n, so, sn, sc, rfl, hb, c0, c1, c2, c3, hrd, hyl, hat, hn, hcall⟩ := HR.out k hlt
        have e0 : wr.cell? ⟨b, off + k * 4, none⟩ = some (.int .i64 call) := by rw [← c0]; exact World.cell?_of_block (hc.block b hb (fun e => e))
        have e1 : wr.cell? ⟨b, off + k * 4 + 1, none⟩ = some (.int .i64 at') := by rw [← c1]; exact World.cell?_of_block (hc.block b hb (fun e => e))
        have e2 : wr.cell? ⟨b, off + k * 4 + 2, none⟩ = some (.int .i64 n) := by rw [← c2]; exact World.cell?_of_block (hc.block b hb (fun e => e))
        have e3 : wr.cell? ⟨b, off + k * 4 + 3, none⟩ = some (.slice so sn sc) := by rw [← c3]; exact World.cell?_of_block (hc.block b hb (fun e => e))
        have htk : tot Y (k + 1) ≤ 1048576 := Nat.le_trans (tot_le Y (by omega)) htot
        have htk2 : tot Y k + (Y k).length ≤ 1048576 := htk
        have HQ : Hid (Two wr w1.heap.size w2.heap.size room vf va uf ua f a cl br ∧ f.length + a.length ≤ tot Y k ∧ Chg Non w wr ∧ Rd w (.slice so sn sc) (Y k)) := ⟨hT, hfa, hc, hrd⟩
        clear c0 c1 c2 c3 hrd hT hc hfa htk
        go_wp2_with fail
        refine (do_all w1.heap.size w2.heap.size room vf va uf ua f a cl br call at' n so sn sc (Y k) _ HQ.out.1 ?_ ?_ (by omega) ?_ hat.2 hn.2).mono ?_
        · intro w' hc'
          exact rd_first HQ.out.2.2.2 (HQ.out.2.2.1.trans hc' (fun i hi e => by rcases e with e | e <;> omega))
        · have := HQ.out.2.1; omega
        · omega
        rintro e w4 ⟨rfl, vf4, va4, uf4, ua4, f4, a4, cl4, br4, hT4, hl4, hc4⟩
        have H4 : Hid (Two w4 w1.heap.size w2.heap.size room vf4 va4 uf4 ua4 f4 a4 cl4 br4 ∧ f4.length + a4.length ≤ tot Y (k + 1) ∧ Chg Non w w4) :=
          ⟨hT4, by have := HQ.out.2.1; simp only [tot]; omega, HQ.out.2.2.1.trans hc4 (fun i hi e => by rcases e with e | e <;> omega)⟩
        have hl4' : f4.length + a4.length ≤ 70368744177664 := by have := HQ.out.2.1; omega
        clear hT4 hl4 hc4 e0 e1 e2 e3
        go_wp2_with fail
        refine (alike_any w1.heap.size w2.heap.size room vf4 va4 uf4 ua4 f4 a4 cl4 br4 _ H4.out.1 hl4' (by omega)).mono ?_
        rintro e w5 ⟨rfl, hT5, hc5⟩
        have H5 : Hid (Two w5 w1.heap.size w2.heap.size room vf4 va4 uf4 ua4 f4 a4 cl4 br4 ∧ Chg Non w w5) := ⟨hT5, H4.out.2.2.trans hc5 (fun _ _ e => e)⟩
        clear hT5 hc5
        go_wp2
        go_roundw
        case rel => exact ⟨k + 1, vf4, va4, uf4, ua4, f4, a4, cl4, br4, by omega, by go_num, H5.out.1, H4.out.2.1, H5.out.2⟩
        case measure => simp [intOf]; omega
      · go_wp2
        go_ret
        exact ⟨rfl, hc.below (Nat.le_refl _) (fun _ e => e.elim)⟩
end Go.Proofs.Ytiegofelidnnlaa
