/-
  Frame: the program's, the document's.
-/
import Derived.Test.YtdhckndehijemaaDb
import Derived.OwnWalk
namespace Go.Proofs.Ytdhckndehijemaa
open Go.RowKit
set_option linter.unusedVariables false
set_option maxRecDepth 100000

theorem Rel.fv {t : Ty} {r : Nat} {v v' : Value} {w w' : World} {no : Bool} {xs : List Int} {us : List Value} {a : t.Dat} (h : Rel t (Fa r v w) w us a) (k : VP r v w w' v' no xs) : Rel t (Fa r v' w') w' us a := by
  refine h.keep (fun i q => ⟨q.1, fun e => ?_, Nat.lt_of_lt_of_le q.2.2 k.chg.size⟩) (fun i q hi => k.chg.block i hi (fun s => ?_))
  · rcases k.gr with g | ⟨g, g1, g2⟩
    · rw [g] at e; exact q.2.1 e
    · rw [g1] at e; injection e with e; have := q.2.2; omega
  · rcases s with s | s
    · exact q.1 s
    · exact q.2.1 s
theorem VM.app2 {w w2 : World} {r : Nat} {v v2 : Value} {no : Bool} {xs ys : List Int} (h : VM w r v no xs) (h2 : OwnV w2 v2 (xs ++ ys)) (c1 : Chg (fun k => v.ownBlock = some k) w w2) (g : v2.ownBlock = v.ownBlock ∨ v2.ownBlock = some w.heap.size) (hb : Byt ys) :
    VP r v w (w2.setCell ⟨r, 0, none⟩ v2) v2 no (xs ++ ys) ∧ w2.heap[r]? = some (.cells #[v, .bool no] 115) := by
  have hr := h.lt
  have hne : ¬ v.ownBlock = some r := fun e => by have := h.new r e; omega
  have hb2 : w2.heap[r]? = some (.cells #[v, .bool no] 115) := by rw [c1.block r hr hne]; exact h.blk
  have cs := chg_rest w2 r 0 v2
  have hnew : ∀ k, v2.ownBlock = some k → k ≠ r := fun k e => by
    rcases g with g | g
    · rw [g] at e; exact h.new k e
    · rw [g] at e; injection e with e; omega
  refine ⟨⟨⟨set_two0 _ hb2, h2.keep (fun k e => cs.block k (h2.lt k e) (fun s => by have s' : k = r := s; have := hnew k e; omega)), hnew, h.byt.append hb⟩, ?_, ?_⟩, hb2⟩
  · exact (c1.mono (fun _ _ q => .inr q)).trans cs (fun i hi q => .inl q)
  · rcases g with g | g
    · exact .inl g
    · exact .inr ⟨_, g, Nat.le_refl _⟩

structure VO (r : Nat) (v : Value) (w w' : World) (no : Bool) (xs : List Int) (e : Ending) : Prop where
  ret : e = .returned (.tuple #[])
  q : ∃ v', VP r v w w' v' no xs
theorem calls_vo {P : Program} {f : Nat} {ar : Array Value} {r : Nat} {v : Value} {w : World} {no : Bool} {xs : List Int} (h : Calls P f ar w fun e w' => ∃ v', e = .returned (.tuple #[]) ∧ VP r v w w' v' no xs) :
    Calls P f ar w fun e w' => VO r v w w' no xs e := h.mono fun e w' ⟨v', he, hq⟩ => ⟨he, v', hq⟩

set_option maxHeartbeats 3200000 in
theorem dlist3_any (r : Nat) (vb : Value) (ys : List Int) (v : Value) (no : Bool) (xs : List Int) (w : World) (h : VM w r v no xs) (hb : Rel .byt (Fa r v w) w [vb] ys) (hl : ys.length ≤ 16384) (hx : xs.length ≤ 1000) :
    Calls Try.prog 100 #[.pointer (some ⟨r, 0, none⟩), .int .i64 3, .int .i64 0, .int .i64 16384, vb] w fun e w' => ∃ v', e = .returned (.tuple #[]) ∧ VP r v w w' v' no (xs ++ putD 3 (ys.length : Int) ++ ys) := by
  obtain ⟨v', e, h1, h2, h3⟩ := id hb
  injection e with e
  subst e
  obtain ⟨ao, n, c, rfl, hn, hc, hm⟩ := h1.shape
  have hnum := dnumber_any r 3 (n : Int) (by decide) (by omega) (by omega) v no xs w h (by omega)
  have HB : Hid (Rel .byt (Fa r v w) w [.slice ao n c] ys ∧ n = ys.length ∧ xs.length ≤ 1000 ∧ Byt ys) := ⟨hb, hn, hx, h2⟩
  have hn1 : n ≤ 16384 := by omega
  have d1 : decide (n < 0) = false := by simp
  have d2 : decide ((n : Int) > 16384) = false := by simp; omega
  have d3 : decide ((n : Int) ≥ 16777216) = false := by simp; omega
  rw [← hn]
  clear h hb hl hx hn h1 h2 h3 hm
  go_enter Try.func100, Try.ntmps100
  go_wp2_with (go_at_call 110; refine (calls_vo hnum).mono ?_)
  rintro e w1 ⟨rfl, v1, hp⟩
  obtain ⟨ao1, n1, c1, rfl, -, -, -⟩ := hp.wm.own.rd.shape
  obtain ⟨z0, z1, f0, f1⟩ := hp.wm.facts
  have HP : Hid (VP r v w w1 (.slice ao1 n1 c1) no (xs ++ putD 3 (n : Int))) := hp
  have hr := HB.out.1.fv hp
  have HR : Hid (Rd w1 (.slice ao n c) ys) := by
    obtain ⟨v', e, k1, -⟩ := hr
    injection e with e
    subst e
    exact k1
  obtain ⟨X1, hX1⟩ : ∃ X1, X1 = xs ++ putD 3 (n : Int) := ⟨_, rfl⟩
  rw [← hX1] at HP
  have HXE : Hid (X1 = xs ++ putD 3 (n : Int)) := hX1
  have HX1 : Hid (X1.length ≤ 1003) := by show _ ≤ _; rw [hX1, List.length_append, putD_len]; have := HB.out.2.2.1; omega
  have HLE : Hid (X1.length + ys.length ≤ 140737488355328) := by show _ ≤ _; have := HX1.out; have := HB.out.2.1; omega
  clear hp hr hnum hX1
  go_wp2_with (at_builtin; refine wpList_app _ rfl (.tmp 40) (.tmp 41) rfl _ _ X1 ys rfl rfl HP.out.wm.own HR.out (HLE.out) ?_)
  intro v2 w2 k1 k2 k3
  obtain ⟨ao2, n2, c2, rfl, -, -, -⟩ := k1.rd.shape
  obtain ⟨q1, q2⟩ := HP.out.wm.app2 k1 k2 k3 HB.out.2.2.2
  have g0 := (cell2 q2).1
  have g1 := frozen_of_row w2 r 0 _ _ q2
  have HQ : Hid (VP r v w (w2.setCell ⟨r, 0, none⟩ (.slice ao2 n2 c2)) (.slice ao2 n2 c2) no (X1 ++ ys)) := HP.out.trans q1
  clear k1 k2 k3 q1 q2 z0 z1 f0 f1
  go_wp2
  go_end0
  have hq := HQ.out
  rw [HXE.out] at hq
  first | exact ⟨_, rfl, hq⟩ | exact ⟨_, rfl, by rw [← List.append_assoc]; exact hq⟩

set_option maxHeartbeats 400000 in
theorem ddone_any (r : Nat) (v : Value) (xs : List Int) (w : World) (h : VM w r v false xs) : Calls Try.prog 101 #[.pointer (some ⟨r, 0, none⟩)] w fun e w' => e = .returned v ∧ w' = w := by
  obtain ⟨z0, z1, f0, f1⟩ := h.facts
  obtain ⟨ao, n, c, rfl, -, -, -⟩ := h.own.rd.shape
  clear h
  go_enter Try.func101, Try.ntmps101
  go_wp2
  go_ret
  exact ⟨rfl, rfl⟩

/-- A message's bytes. -/
def frB (t : Int) (xs : List Int) : List Int := if xs.length ≤ 16384 then [t] ++ putD 3 (xs.length : Int) ++ xs else []

/-- New bytes. -/
structure FO (l : List Int) (w w' : World) (v : Value) : Prop where
  chg : Chg Non w w'
  own : OwnV w' v l
  new : ∀ k, v.ownBlock = some k → w.heap.size ≤ k

set_option maxHeartbeats 3200000 in
theorem rframe_any (t : Int) (h0 : 0 ≤ t) (h1 : t < 256) (vb : Value) (ys : List Int) (w : World) (hb : Rel .byt (Bel w.heap.size) w [vb] ys) :
    Calls Try.prog 14 #[.int .u8 t, vb] w fun e w' => ∃ v', e = .returned v' ∧ FO (frB t ys) w w' v' := by
  obtain ⟨v', e, k1, k2, k3⟩ := id hb
  injection e with e
  subst e
  obtain ⟨ao, n, c, rfl, hn, hc, hm⟩ := k1.shape
  have HN : Hid (n = ys.length) := hn
  by_cases hl : n ≤ 16384
  · have d1 : decide ((n : Int) > 16384) = false := by simp; omega
    obtain ⟨w1, hw1⟩ : ∃ w1, w1 = (w.alloc (.cells #[.int .u8 t] 5)).alloc (.cells #[.slice (some ⟨w.heap.size, 0, none⟩) 1 1, .bool false] 115) := ⟨_, rfl⟩
    have c1 : Chg Non w w1 := by rw [hw1]; exact ((Chg.refl _ _).alloc _).alloc _
    have hvm : VM w1 (w.heap.size + 1) (.slice (some ⟨w.heap.size, 0, none⟩) 1 1) false [t] := by
      have ho : OwnV (w.alloc (.cells #[.int .u8 t] 5)) (.slice (some ⟨w.heap.size, 0, none⟩) 1 1) [t] :=
        .inr ⟨_, _, _, _, rfl, rfl, Nat.le_refl _, by decide, #[.int .u8 t], heap_alloc_last w _, by simp, by simp⟩
      refine ⟨?_, ?_, fun k e => ?_, Byt.cons h0 h1 Byt.nil⟩
      · rw [hw1]
        have := heap_alloc_last (w.alloc (.cells #[.int .u8 t] 5)) (.cells #[.slice (some ⟨w.heap.size, 0, none⟩) 1 1, .bool false] 115)
        simpa using this
      · rw [hw1]; exact ho.chg ((Chg.refl _ _).alloc _)
      · injection e with e
        have e' : w.heap.size = k := e
        omega
    have hfa : Rel .byt (Fa (w.heap.size + 1) (.slice (some ⟨w.heap.size, 0, none⟩) 1 1) w1) w1 [.slice ao n c] ys := hb.keep (fun k q => ⟨by have q' : k < w.heap.size := q; omega, fun e => by
        injection e with e
        have e' : w.heap.size = k := e
        have q' : k < w.heap.size := q
        omega, Nat.lt_of_lt_of_le q c1.size⟩) (fun k q hk => c1.block k hk (fun s => s))
    have hd := dlist3_any (w.heap.size + 1) (.slice ao n c) ys _ false [t] w1 hvm hfa (by omega) (by simp)
    have HW1 : Hid (w1 = (w.alloc (.cells #[.int .u8 t] 5)).alloc (.cells #[.slice (some ⟨w.heap.size, 0, none⟩) 1 1, .bool false] 115)) := hw1
    have C1 : Hid (Chg Non w w1) := c1
    have HL : Hid (n ≤ 16384) := hl
    clear k1 k2 k3 hn hl hm hb hvm hfa c1 hw1
    go_enter Try.func14, Try.ntmps14
    go_wp2_with fail
    rw [← HW1.out]
    refine (calls_vo hd).mono ?_
    rintro e w2 ⟨rfl, v2, hp⟩
    have HP : Hid (VP (w.heap.size + 1) (.slice (some ⟨w.heap.size, 0, none⟩) 1 1) w1 w2 v2 false ([t] ++ putD 3 (ys.length : Int) ++ ys)) := hp
    have hdn := ddone_any (w.heap.size + 1) v2 _ w2 hp.wm
    obtain ⟨ao2, n2, c2, rfl, -, -, -⟩ := hp.wm.own.rd.shape
    clear hp hd
    go_wp2_with (go_at_call 101; refine hdn.mono ?_)
    rintro e w3 ⟨rfl, hw3⟩
    obtain rfl := hw3.symm
    clear hdn
    go_wp2
    go_ret
    refine ⟨_, rfl, C1.out.trans HP.out.chg (fun i hi q => ?_), ?_, fun k e => ?_⟩
    · rcases q with q | q
      · omega
      · injection q with q
        have q' : w.heap.size = i := q
        omega
    · unfold frB
      rw [if_pos (by rw [← HN.out]; exact HL.out)]
      exact HP.out.wm.own
    · rcases HP.out.gr with g | ⟨g, g1, g2⟩
      · have e0 : (Value.slice ao2 n2 c2).ownBlock = some k := e
        rw [g] at e0
        injection e0 with e0
        have e' : w.heap.size = k := e0
        omega
      · have e0 : (Value.slice ao2 n2 c2).ownBlock = some k := e
        rw [g1] at e0
        injection e0 with e0
        have := C1.out.size
        omega
  · have d1 : decide ((n : Int) > 16384) = true := by simp; omega
    have HL : Hid (¬ n ≤ 16384) := hl
    clear k1 k2 k3 hn hl hm hb
    go_enter Try.func14, Try.ntmps14
    go_wp2
    go_ret
    refine ⟨_, rfl, Chg.refl _ _, ?_, fun k e => by cases e⟩
    unfold frB
    rw [if_neg (by rw [← HN.out]; exact HL.out)]
    exact .inl ⟨rfl, rfl⟩

theorem infoB5 : (Try.prog.info? 5).map (fun i => (i.zero, i.size, i.bytes)) = some (some (.int .u8 0), 1, 1) := by kernel_rfl
theorem own_new {w w' : World} {g n : Nat} (h : w'.ownsRow w.heap.size 5 1 (.slice (some ⟨g, 0, none⟩) 0 n) 0 []) : OwnV w' (.slice (some ⟨g, 0, none⟩) 0 n) [] := .inr ⟨_, _, _, _, rfl, Own.of_row (xs := []) h⟩
theorem rd_four (w : World) (a b c d : Int) : Rd (w.alloc (.cells #[.int .u8 a, .int .u8 b, .int .u8 c, .int .u8 d] 5)) (.slice (some ⟨w.heap.size, 0, none⟩) 4 4) [a, b, c, d] := row_rd w [a, b, c, d] 4 rfl (by decide)

set_option maxHeartbeats 3200000 in
theorem frame_any (t : Int) (h0 : 0 ≤ t) (h1 : t < 256) (vb : Value) (ys : List Int) (w : World) (hb : Rel .byt (Bel w.heap.size) w [vb] ys) :
    Calls Try.prog 11 #[.int .u8 t, vb] w fun e w' => ∃ v', e = .returned v' ∧ FO (frB t ys) w w' v' := by
  obtain ⟨v', e, k1, k2, k3⟩ := id hb
  injection e with e
  subst e
  obtain ⟨ao, n, c, rfl, hn, hc, hm⟩ := k1.shape
  have HN : Hid (n = ys.length) := hn
  by_cases hl : n ≤ 16384
  · have d1 : decide ((n : Int) > 16384) = false := by simp; omega
    obtain ⟨i0, p1, p2, p3, p4⟩ := info_parts infoB5
    obtain ⟨H8, hH8⟩ : ∃ H8 : Int, H8 = (n : Int) / 256 % 256 := ⟨_, rfl⟩
    obtain ⟨L8, hL8⟩ : ∃ L8 : Int, L8 = (n : Int) % 256 := ⟨_, rfl⟩
    have e1 : IntKind.u8.wrap ((n : Int) / 256) = H8 := by rw [IntKind.wrap_u8, hH8]
    have e2 : IntKind.u8.wrap (n : Int) = L8 := by rw [IntKind.wrap_u8, hL8]
    obtain ⟨M, hM⟩ : ∃ M : Nat, M = 4 + n := ⟨_, rfl⟩
    have e3 : 4 + (n : Int) = (M : Int) := by omega
    have HD : Hid ([t, 0, H8, L8] ++ ys = frB t ys) := by
      show _ = _
      unfold frB
      rw [if_pos (by omega), ← hn]
      have : putD 3 (n : Int) = [0, H8, L8] := by
        simp only [putD]
        have : (n : Int) / 256 ^ 2 % 256 = 0 := by
          have : (256 : Int) ^ 2 = 65536 := rfl
          rw [this]
          omega
        rw [this, hH8, hL8]
        simp
      rw [this]
      simp
    have HL : Hid (n ≤ 16384 ∧ M = 4 + n) := ⟨hl, hM⟩
    have HK : Hid (Rd w (.slice ao n c) ys ∧ ∀ k, (Value.slice ao n c).ownBlock = some k → k < w.heap.size) := ⟨k1, k3⟩
    have HMX : Hid (1 * M ≤ 281474976710656 ∧ M ≤ maxLen) := ⟨by omega, by unfold maxLen; omega⟩
    have HP4 : Hid (i0.bytes = 1) := p4
    have hM1 : M ≤ 16388 := by omega
    clear k1 k2 k3 hn hl hm hb hH8 hL8 hM
    go_enter Try.func11, Try.ntmps11
    go_wp2_with (at_make; refine wpList_make_own _ rfl _ _ 23 rfl w.heap.size 5 i0 (.int .u8 0) 1 Try.underlying23 p1 p2 p3 _ _ _ M rfl rfl rfl (by rw [HP4.out]; exact HMX.out.1) HMX.out.2 (Nat.le_refl _) ?_)
    intro w1 hrow1 hg1
    have H1 : Hid (OwnV w1 (.slice (some ⟨w.heap.size, 0, none⟩) 0 M) [] ∧ Chg Non w w1) := ⟨own_new hrow1, Chg.of_none hg1⟩
    clear hrow1 hg1 p1 p2 p3 p4
    go_wp2_with (at_builtin; refine wpList_app _ rfl (.tmp 15) (.tmp 22) rfl _ _ [] [t, 0, H8, L8] rfl rfl (H1.out.1.chg ((Chg.refl _ _).alloc _)) (rd_four w1 t 0 H8 L8) (by simp) ?_)
    intro v2 w2 j1 j2 j3
    have H2 : Hid (OwnN w w2 v2 [t, 0, H8, L8]) := by
      have a1 : OwnN w w1 (.slice (some ⟨w.heap.size, 0, none⟩) 0 M) [] := ⟨H1.out.1, fun k e => by injection e with e; rw [← e]; exact Nat.le_refl _, H1.out.2⟩
      exact (a1.after ((Chg.refl _ _).alloc _)).more j1 j2 (by rw [World.size_alloc]; exact j3)
    have HR2 : Hid (Rd w2 (.slice ao n c) ys) := HK.out.1.chg H2.out.chg
    obtain ⟨ao2, n2, c2, rfl, -, -, -⟩ := j1.rd.shape
    clear j1 j2 j3
    go_wp2_with (at_builtin; refine wpList_app _ rfl (.tmp 24) (.tmp 25) rfl _ _ [t, 0, H8, L8] ys rfl rfl H2.out.own HR2.out (by have h1 := HL.out.1; have h2 := HN.out; simp; omega) ?_)
    intro v3 w3 j1 j2 j3
    have H3 : Hid (OwnN w w3 v3 ([t, 0, H8, L8] ++ ys)) := H2.out.more j1 j2 j3
    obtain ⟨ao3, n3, c3, rfl, -, -, -⟩ := j1.rd.shape
    clear j1 j2 j3
    go_wp2
    go_ret
    have := H3.out
    rw [HD.out] at this
    exact ⟨_, rfl, this.chg, this.own, this.new⟩
  · have d1 : decide ((n : Int) > 16384) = true := by simp; omega
    have HL : Hid (¬ n ≤ 16384) := hl
    clear k1 k2 k3 hn hl hm hb
    go_enter Try.func11, Try.ntmps11
    go_wp2
    go_ret
    refine ⟨_, rfl, Chg.refl _ _, ?_, fun k e => by cases e⟩
    unfold frB
    rw [if_neg (by rw [← HN.out]; exact HL.out)]
    exact .inl ⟨rfl, rfl⟩
end Go.Proofs.Ytdhckndehijemaa
