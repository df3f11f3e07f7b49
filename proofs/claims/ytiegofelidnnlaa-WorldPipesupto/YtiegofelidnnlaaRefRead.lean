/-
  The document's Read gives the bytes of 'draw'.
-/
import Derived.Test.YtiegofelidnnlaaRef
namespace Go.Proofs.Ytiegofelidnnlaa
open Go.RowKit
set_option linter.unusedVariables false

theorem refNext_any (r : Nat) (v1 v2 : Value) (f l : List Int) (st : Int) (w : World) (h : RandB w r v1 v2 f l st) :
    Calls Try.prog 30 #[.pointer (some ⟨r, 0, none⟩)] w fun e w' => ∃ v1' v2' f' l', e = .returned (.int .u8 (step1 (f ++ l, st)).1) ∧ RandB w' r v1' v2' f' l' (step1 (f ++ l, st)).2.2 ∧ f' ++ l' = (step1 (f ++ l, st)).2.1 ∧
      Chg (fun k => k = r ∨ v2.ownBlock = some k) w w' ∧ v1'.ownBlock = v1.ownBlock ∧ (v2'.ownBlock = v2.ownBlock ∨ ∀ k, v2'.ownBlock = some k → w.heap.size ≤ k) := by
  match f, h with
  | x :: f, h =>
    refine (refNext_first r v1 v2 x f l st w h).mono ?_
    rintro e w' ⟨rfl, v1', hR, hc, hb⟩
    exact ⟨v1', v2, f, l, rfl, hR, rfl, hc.mono (fun _ _ e => .inl e), hb, .inl rfl⟩
  | [], h =>
    match l, h with
    | x :: l, h =>
      refine (refNext_left r v1 v2 x l st w h).mono ?_
      rintro e w' ⟨rfl, v2', hR, hc, hb⟩
      exact ⟨v1, v2', [], l, rfl, hR, rfl, hc.mono (fun _ _ e => .inl e), rfl, .inl hb⟩
    | [], h =>
      refine (refNext_more r v1 v2 st w h).mono ?_
      rintro e w' ⟨rfl, v2', hR, hc, hb⟩
      exact ⟨v1, v2', [], _, rfl, hR, rfl, hc, rfl, hb⟩

theorem draw_succ (k : Nat) (s : List Int × Int) : draw (k + 1) s = ((draw k s).1 ++ [(step1 (draw k s).2).1], (step1 (draw k s).2).2) := by
  rw [draw_add]
  rfl

/-- What the document's Read has done so far. -/
structure ReadB (w : World) (r : Nat) (v1 v2 : Value) (S : List Int × Int) (wr : World) (k : Nat) (out : Value) (p1 p2 : Value) (f l : List Int) (st : Int) : Prop where
  own : OwnV wr out (draw k S).1
  src : RandB wr r p1 p2 f l st
  all : (draw k S).2 = (f ++ l, st)
  chg : Chg (fun q => q = r ∨ v2.ownBlock = some q) w wr
  one : p1.ownBlock = v1.ownBlock
  two : p2.ownBlock = v2.ownBlock ∨ ∀ q, p2.ownBlock = some q → w.heap.size ≤ q
  new : ∀ q, out.ownBlock = some q → w.heap.size ≤ q ∧ p2.ownBlock ≠ some q

set_option maxHeartbeats 1000000 in
theorem refRead_any (r : Nat) (v1 v2 : Value) (f l : List Int) (st n : Int) (w : World) (h : RandB w r v1 v2 f l st) :
    Calls Try.prog 16 #[.pointer (some ⟨r, 0, none⟩), .int .i64 n] w fun e w' => ∃ N : Nat, (N : Int) = max 0 (min n 65536) ∧ ∃ out p1 p2 f' l' st', e = .returned out ∧ ReadB w r v1 v2 (f ++ l, st) w' N out p1 p2 f' l' st' := by
  obtain ⟨N, hN⟩ : ∃ N : Nat, (N : Int) = max 0 (min n 65536) := ⟨(max 0 (min n 65536)).toNat, by omega⟩
  have HN : Hid ((N : Int) = max 0 (min n 65536)) := hN
  have hN2 : N ≤ 65536 := by omega
  obtain ⟨n', hn', hn1, hn2⟩ : ∃ n' : Int, n' = (if n > 65536 then 65536 else n) ∧ (0 < n' → n' = N) ∧ (n' ≤ 0 → N = 0) := ⟨_, rfl, by split <;> omega, by split <;> omega⟩
  have HN' : Hid ((0 < n' → n' = N) ∧ (n' ≤ 0 → N = 0)) := ⟨hn1, hn2⟩
  have hn3 : n' ≤ 65536 := by rw [hn']; split <;> omega
  have HE : Hid (n' = (if n > 65536 then 65536 else n)) := hn'
  have HS : Hid (RandB w r v1 v2 f l st) := h
  have hrw := h.lt
  have hv1lt := h.one.lt
  have HV1 : Hid (∀ k, v1.ownBlock = some k → k < w.heap.size) := hv1lt
  clear hN hn' hn1 hn2 h hv1lt
  go_enter Try.func16, Try.ntmps16
  go_upto_if 8 with fail
  go_cut [1] (fun t wc => t = .int .i64 n' ∧ wc = w)
  case first =>
    by_cases hbig : n > 65536
    · go_wp2_with fail
      go_meet
      case rel => exact ⟨by rw [HE.out, if_pos hbig], rfl⟩
    · go_wp2_with fail
      go_meet
      case rel => exact ⟨by rw [HE.out, if_neg (by omega)], rfl⟩
  case rest =>
    obtain ⟨rfl, rfl⟩ := hcut
    go_wp2_with fail
    go_loopw [5, 6] (fun out i wr => ∃ (k : Nat) (p1 p2 : Value) (f' l' : List Int) (st' : Int), k ≤ N ∧ i = .int .i64 k ∧ ReadB wc r v1 v2 (f ++ l, st) wr k out p1 p2 f' l' st')
      (fun _ i _ => N - (intOf i).toNat)
    case atStart => exact ⟨0, v1, v2, f, l, st, Nat.zero_le _, rfl, ⟨.inl ⟨rfl, rfl⟩, HS.out, rfl, Chg.refl _ _, rfl, .inl rfl, fun q e => by simp [Value.ownBlock] at e⟩⟩
    case round =>
      obtain ⟨k, p1, p2, f', l', st', hk, rfl, hB⟩ := hrel
      by_cases hlt : k < N
      · have hlt' : (k : Int) < n' := by have := HN'.out; omega
        have HB : Hid (ReadB wc r v1 v2 (f ++ l, st) wr k u5 p1 p2 f' l' st') := hB
        clear hB
        go_wp2_with fail
        refine (refNext_any r p1 p2 f' l' st' _ HB.out.src).mono ?_
        rintro e w3 ⟨q1, q2, f3, l3, rfl, hR3, hfl3, hc3, hq1, hq2⟩
        obtain ⟨x, hx⟩ : ∃ x, x = (step1 (f' ++ l', st')).1 := ⟨_, rfl⟩
        rw [← hx]
        have HX : Hid (x = (step1 (f' ++ l', st')).1) := hx
        have hown3 : OwnV w3 u5 (draw k (f ++ l, st)).1 := HB.out.own.keep (fun q e => hc3.block q (HB.out.own.lt q e) (fun e' => by
          rcases e' with e' | e'
          · have := HB.out.own.ne HB.out.src.blk (by decide); rw [e, e'] at this; exact this rfl
          · exact (HB.out.new q e).2 e'))
        obtain ⟨ao, nn, cc, rfl, -⟩ := hown3.rd.shape
        have H3 : Hid (RandB w3 r q1 q2 f3 l3 (step1 (f' ++ l', st')).2.2 ∧ f3 ++ l3 = (step1 (f' ++ l', st')).2.1 ∧ Chg (fun k => k = r ∨ p2.ownBlock = some k) wr w3 ∧ q1.ownBlock = p1.ownBlock ∧ (q2.ownBlock = p2.ownBlock ∨ ∀ k, q2.ownBlock = some k → wr.heap.size ≤ k) ∧ OwnV w3 (.slice ao nn cc) (draw k (f ++ l, st)).1) := ⟨hR3, hfl3, hc3, hq1, hq2, hown3⟩
        clear hR3 hfl3 hc3 hq1 hq2 hown3 hx
        go_wp2_with (at_builtin; refine wpList_app _ rfl (.tmp 14) (.tmp 17) rfl (.slice ao nn cc) _ _ [x] rfl rfl (H3.out.2.2.2.2.2.keep (fun q e => Below.heap_alloc _ _ _ (H3.out.2.2.2.2.2.lt q e))) (Rd.one _ _) ?hlen ?hkk)
        case hlen => rw [draw_len]; simp; omega
        case hkk =>
          intro v' w4 ho4 hc4 hb4
          obtain ⟨ao', n4, c4, rfl, -⟩ := ho4.rd.shape
          have HF : Hid (ReadB wc r v1 v2 (f ++ l, st) w4 (k + 1) (.slice ao' n4 c4) q1 q2 f3 l3 (step1 (f' ++ l', st')).2.2) := by
            obtain ⟨hR3, hfl3, hc3, hq1, hq2, hown3⟩ := H3.out
            have hs3 := hc3.size
            have hsr := HB.out.chg.size
            have hlt1 := hR3.one.lt
            have hlt2 := hR3.two.lt
            have hlto := hown3.lt
            have hsize : (w3.alloc (.cells #[.int .u8 x] 5)).heap.size = w3.heap.size + 1 := by simp
            have hal : Chg Non w3 (w3.alloc (.cells #[.int .u8 x] 5)) := (Chg.refl _ _).alloc _
            have hc34 : Chg (fun k => (Value.slice ao nn cc).ownBlock = some k) w3 w4 := (hal.non _).trans hc4 (fun _ _ e => e)
            have hd := draw_succ k (f ++ l, st)
            rw [HB.out.all] at hd
            have hsep2 : ∀ q, q2.ownBlock = some q → (Value.slice ao nn cc).ownBlock ≠ some q := by
              intro q e e'
              rcases hq2 with h | h
              · rw [h] at e; exact (HB.out.new q e').2 e
              · have := h q e; have := HB.out.own.lt q e'; omega
            refine ⟨?_, hR3.kept hc34 ?_ ?_ ?_, ?_, ?_, hq1.trans HB.out.one, ?_, ?_⟩
            · rw [hd, ← HX.out]; exact ho4
            · exact hown3.ne hR3.blk (by decide)
            · intro q e e'
              rw [hq1, HB.out.one] at e
              have := HV1.out q e
              have := (HB.out.new q e').1
              omega
            · exact fun q e => hsep2 q e
            · rw [hd, hfl3]
            · refine (HB.out.chg.trans hc3 (fun i hi e => ?_)).trans hc34 (fun i hi e => ?_)
              · rcases e with e | e
                · exact .inl e
                · rcases HB.out.two with h | h
                  · rw [h] at e; exact .inr e
                  · have := h i e; omega
              · have := (HB.out.new i e).1; omega
            · rcases hq2 with h | h
              · rw [h]; exact HB.out.two
              · exact .inr (fun q e => by have := h q e; omega)
            · intro q e
              rcases hb4 with h | h
              · rw [h] at e
                exact ⟨(HB.out.new q e).1, fun e' => hsep2 q e' e⟩
              · rw [h] at e
                simp at e
                exact ⟨by omega, fun e' => by have := hlt2 q e'; omega⟩
          clear ho4 hc4 hb4 H3 HB
          go_wp2
          go_roundw
          case rel => exact ⟨k + 1, q1, q2, f3, l3, _, by omega, by go_num, HF.out⟩
          case measure => simp [intOf]; omega
      · have hlt' : ¬ (k : Int) < n' := by have := HN'.out; omega
        obtain rfl : k = N := by omega
        go_wp2
        go_ret
        exact ⟨k, HN.out, _, rfl, p1, p2, f', l', st', hB⟩
end Go.Proofs.Ytiegofelidnnlaa
