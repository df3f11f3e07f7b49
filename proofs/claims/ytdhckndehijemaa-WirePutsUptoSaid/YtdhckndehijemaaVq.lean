/-
  The document's writer: lists.
-/
import Derived.Test.YtdhckndehijemaaMj38
namespace Go.Proofs.Ytdhckndehijemaa
open Go.RowKit
set_option linter.unusedVariables false
set_option maxRecDepth 100000

theorem VM.app0 {w w2 : World} {r : Nat} {v v2 : Value} {no : Bool} {xs ys : List Int} (h : VM w r v no xs) (h2 : OwnV w2 v2 (xs ++ ys)) (c : Chg (fun k => v.ownBlock = some k) w w2) (g : v2.ownBlock = v.ownBlock ∨ v2.ownBlock = some w.heap.size) (hb : Byt ys) :
    VP r v w (w2.setCell ⟨r, 0, none⟩ v2) v2 no (xs ++ ys) ∧ w2.heap[r]? = some (.cells #[v, .bool no] 115) := by
  have hr := h.lt
  have hne : ¬ v.ownBlock = some r := fun e => by have := h.new r e; omega
  have hb2 : w2.heap[r]? = some (.cells #[v, .bool no] 115) := by rw [c.block r hr hne]; exact h.blk
  have cs := chg_rest w2 r 0 v2
  have hnew : ∀ k, v2.ownBlock = some k → k ≠ r := fun k e => by
    rcases g with g | g
    · rw [g] at e; exact h.new k e
    · rw [g] at e; injection e with e; omega
  refine ⟨⟨⟨set_two0 _ hb2, h2.keep (fun k e => cs.block k (h2.lt k e) (fun s => by have s' : k = r := s; have := hnew k e; omega)), hnew, h.byt.append hb⟩, ?_, ?_⟩, hb2⟩
  · exact (c.mono (fun _ _ q => .inr q)).trans cs (fun i hi q => .inl q)
  · rcases g with g | g
    · exact .inl g
    · exact .inr ⟨_, g, Nat.le_refl _⟩
theorem Rel.va {t : Ty} {r : Nat} {v v' : Value} {w w' : World} {no : Bool} {xs : List Int} {us : List Value} {a : t.Dat} (h : Rel t (Fa r v w) w us a) (k : VP r v w w' v' no xs) : Rel t (Fa r v' w') w' us a := by
  refine h.keep (fun i q => ⟨q.1, fun e => ?_, Nat.lt_of_lt_of_le q.2.2 k.chg.size⟩) (fun i q hi => k.chg.block i hi (fun s => ?_))
  · rcases k.gr with g | ⟨g, g1, g2⟩
    · rw [g] at e; exact q.2.1 e
    · rw [g1] at e; injection e with e; have := q.2.2; omega
  · rcases s with s | s
    · exact q.1 s
    · exact q.2.1 s

/-- What a method of the document's writer leaves. -/
structure VQ {α : Type} (p : Pw α) (G : Nat) (r : Nat) (v : Value) (w w' : World) (v' : Value) (no no' : Bool) (xs ys : List Int) (a : α) : Prop where
  wp : VP r v w w' v' no' (xs ++ ys)
  bad : no = true → no' = true
  out : no = false → (p a = none ∧ no' = true) ∨ (no' = false ∧ p a = some ys)
  len : ys.length ≤ G
/-- The same, in one word. -/
structure VOq {α : Type} (p : Pw α) (G : Nat) (r : Nat) (v : Value) (w w' : World) (no : Bool) (xs : List Int) (a : α) (e : Ending) : Prop where
  ret : e = .returned (.tuple #[])
  q : ∃ v' no' ys, VQ p G r v w w' v' no no' xs ys a
theorem VQ.vo {α : Type} {p : Pw α} {G : Nat} {r : Nat} {v v' : Value} {a b : World} {no no' : Bool} {xs ys : List Int} {x : α} (h : VQ p G r v a b v' no no' xs ys x) : VOq p G r v a b no xs x (.returned (.tuple #[])) := ⟨rfl, _, _, _, h⟩
structure VO1 (r : Nat) (v : Value) (w w' : World) (no : Bool) (xs : List Int) (e : Ending) : Prop where
  ret : e = .returned (.tuple #[])
  q : ∃ v', VP r v w w' v' no xs
theorem calls_vo {P : Program} {f : Nat} {ar : Array Value} {r : Nat} {v : Value} {w : World} {no : Bool} {xs : List Int} (h : Calls P f ar w fun e w' => ∃ v', e = .returned (.tuple #[]) ∧ VP r v w w' v' no xs) :
    Calls P f ar w fun e w' => VO1 r v w w' no xs e := h.mono fun e w' ⟨v', he, hq⟩ => ⟨he, v', hq⟩
theorem VQ.seq {α β γ : Type} {f : γ → α} {g : γ → β} {p : Pw α} {q : Pw β} {G H : Nat} {r : Nat} {v v1 v2 : Value} {a b c : World} {n0 n1 n2 : Bool} {xs ys zs : List Int} {x : γ} (h : VQ p G r v a b v1 n0 n1 xs ys (f x)) (k : VQ q H r v1 b c v2 n1 n2 (xs ++ ys) zs (g x)) :
    VQ (wSeq f g p q) (G + H) r v a c v2 n0 n2 xs (ys ++ zs) x := by
  refine ⟨by rw [← List.append_assoc]; exact h.wp.trans k.wp, fun e => k.bad (h.bad e), fun e => ?_, by rw [List.length_append]; have := h.len; have := k.len; omega⟩
  unfold wSeq
  rcases h.out e with ⟨h1, h2⟩ | ⟨h1, h2⟩
  · rw [h1]
    exact .inl ⟨rfl, k.bad h2⟩
  · rw [h2]
    rcases k.out h1 with ⟨k1, k2⟩ | ⟨k1, k2⟩
    · rw [k1]; exact .inl ⟨rfl, k2⟩
    · rw [k2]; exact .inr ⟨k1, rfl⟩
theorem VQ.ahead {α : Type} {p : Pw α} {G : Nat} {r : Nat} {v v' : Value} {a b c : World} {no no' : Bool} {xs ys : List Int} {x : α} (h : VQ p G r v b c v' no no' xs ys x) (k : Chg Non a b) : VQ p G r v a c v' no no' xs ys x := ⟨h.wp.ahead k, h.bad, h.out, h.len⟩
theorem VQ.after {α : Type} {p : Pw α} {G : Nat} {r : Nat} {v v' : Value} {a b c : World} {no no' : Bool} {xs ys : List Int} {x : α} (h : VQ p G r v a b v' no no' xs ys x) (k : Chg Non b c) : VQ p G r v a c v' no no' xs ys x := ⟨h.wp.after k, h.bad, h.out, h.len⟩
theorem VQ.num {n r : Nat} {v v' : Value} {w w' : World} {no : Bool} {xs : List Int} {x : Int} (h : VP r v w w' v' no (xs ++ putD n x)) : VQ (wNum n) n r v w w' v' no no xs (putD n x) x :=
  ⟨h, fun e => e, fun e => .inr ⟨e, rfl⟩, by rw [putD_len]; exact Nat.le_refl _⟩
theorem VQ.like {α : Type} {p q : Pw α} {G : Nat} {r : Nat} {v v' : Value} {a b : World} {no no' : Bool} {xs ys : List Int} {x : α} (h : VQ p G r v a b v' no no' xs ys x) (k : p x = q x) : VQ q G r v a b v' no no' xs ys x := ⟨h.wp, h.bad, by rw [← k]; exact h.out, h.len⟩

/-- A list's bytes as the document writes them. -/
def wRaw (n least most : Nat) : Pw (List Int) := fun b => if least ≤ b.length ∧ b.length ≤ most ∧ b.length < 256 ^ n then some (putD n (b.length : Int) ++ b) else none
theorem conc_octets : ∀ (b : List Int), Byt b → conc (wNum 1) b = some b
  | [], _ => rfl
  | x :: b, h => by
    have h0 := h x List.mem_cons_self
    have e : putD 1 x = [x] := by
      have h1 : x / 256 ^ 0 % 256 = x := by
        have : (256 : Int) ^ 0 = 1 := rfl
        rw [this, Int.ediv_one]
        exact Int.emod_eq_of_lt h0.1 h0.2
      have h2 : (putD 1 x).length = 1 := putD_len 1 x
      have h3 := putD_get 1 x 0 (by decide)
      match hh : putD 1 x, h2, h3 with
      | [y], _, h3 =>
        simp at h3
        have h1' : x % 256 = x := Int.emod_eq_of_lt h0.1 h0.2
        rw [h3, h1']
    unfold conc wNum
    dsimp only
    rw [e, show conc (fun x => some (putD 1 x)) b = some b from conc_octets b (fun y hy => h y (List.mem_cons_of_mem _ hy))]
    rfl
theorem raw_wbytes {n least most most' : Nat} {b : List Int} (hb : Byt b) (h1 : 256 ^ n ≤ most + 1) (h2 : 256 ^ n ≤ most' + 1) : wRaw n least most b = wBytes n least most' b := by
  unfold wRaw wBytes wList
  rw [conc_octets b hb]
  dsimp only
  by_cases h : least ≤ b.length
  · by_cases h3 : b.length < 256 ^ n
    · rw [if_pos ⟨h, by omega, h3⟩, if_pos ⟨h, by omega⟩, if_pos h3]
    · rw [if_neg (fun e => h3 e.2.2)]
      by_cases h4 : b.length ≤ most'
      · rw [if_pos ⟨h, h4⟩, if_neg h3]
      · rw [if_neg (fun e => h4 e.2)]
  · rw [if_neg (fun e => h e.1), if_neg (fun e => h e.1)]


set_option maxHeartbeats 6400000 in
theorem vlist_any (r n least most : Nat) (a b c : Int) (ha : a = n) (hb : b = least) (hc : c = most) (hn : n = 1 ∨ n = 2 ∨ n = 3) (hm : most ≤ 16777215) (bv : Value) (bs : List Int) (v : Value) (no : Bool) (xs : List Int) (w : World) (h : VM w r v no xs) (hbv : Rel .byt (Fa r v w) w [bv] bs) (hl : xs.length ≤ 69000000000000) :
    Calls Try.prog 100 #[.pointer (some ⟨r, 0, none⟩), .int .i64 a, .int .i64 b, .int .i64 c, bv] w fun e w' => VOq (wRaw n least most) (n + most) r v w w' no xs bs e := by
  subst ha hb hc
  obtain ⟨bv', e, hrd, hby, -⟩ := id hbv
  injection e with e
  subst e
  obtain ⟨ao, L, cb, rfl, hL, hLc, hcm⟩ := hrd.shape
  have H : Hid (VM w r v no xs) := h
  have HV : Hid (Rel .byt (Fa r v w) w [.slice ao L cb] bs) := hbv
  have HB : Hid (Byt bs ∧ L = bs.length) := ⟨hby, hL⟩
  have HL : Hid (xs.length ≤ 69000000000000) := hl
  have HM : Hid (most ≤ 16777215) := hm
  have hlm : L ≤ 9223372036854775807 := by unfold maxLen at hcm; omega
  have hBAD : ∀ w', w' = w.setCell ⟨r, 1, none⟩ (.bool true) → ¬ (least ≤ bs.length ∧ bs.length ≤ most ∧ bs.length < 256 ^ n) → VQ (wRaw n least most) (n + most) r v w w' v no true xs [] bs := fun w' e k =>
    ⟨by rw [List.append_nil, e]; exact H.out.bad, fun _ => rfl, fun _ => .inl ⟨by unfold wRaw; rw [if_neg k], rfl⟩, Nat.zero_le _⟩
  have HBAD : Hid (∀ w', w' = w.setCell ⟨r, 1, none⟩ (.bool true) → ¬ (least ≤ bs.length ∧ bs.length ≤ most ∧ bs.length < 256 ^ n) → VQ (wRaw n least most) (n + most) r v w w' v no true xs [] bs) := hBAD
  obtain ⟨z0, z1, f0, f1⟩ := h.facts
  clear h hbv hrd hby hL hLc hcm hl hBAD hm
  by_cases h1 : L < least
  · have d1 : decide (L < least) = true := by simpa using h1
    have HK : Hid (¬ (least ≤ bs.length ∧ bs.length ≤ most ∧ bs.length < 256 ^ n)) := fun k => by have := HB.out.2; omega
    go_enter Try.func100, Try.ntmps100
    go_wp2
    refine bodyPost_ret (results_none rfl _ _ _) rfl ?_
    exact (HBAD.out _ rfl HK.out).vo
  · have d1 : decide (L < least) = false := by simpa using h1
    by_cases h2 : most < L
    · have d2 : decide (most < L) = true := by simpa using h2
      have HK : Hid (¬ (least ≤ bs.length ∧ bs.length ≤ most ∧ bs.length < 256 ^ n)) := fun k => by have := HB.out.2; omega
      go_enter Try.func100, Try.ntmps100
      go_wp2
      refine bodyPost_ret (results_none rfl _ _ _) rfl ?_
      exact (HBAD.out _ rfl HK.out).vo
    · have d2 : decide (most < L) = false := by simpa using h2
      rcases hn with rfl | rfl | rfl
      · have hp := vnumber_any r 1 (L : Int) (by decide) (Int.natCast_nonneg _)
        by_cases h3 : 256 ≤ L
        · have d3 : decide ((L : Int) ≥ 256) = true := by simp; omega
          have HK : Hid (¬ (least ≤ bs.length ∧ bs.length ≤ most ∧ bs.length < 256 ^ 1)) := fun k => by have h4 := HB.out.2; have h5 := k.2.2; have h6 : 256 ^ 1 = 256 := rfl; omega
          clear h3 hp
          go_enter Try.func100, Try.ntmps100
          go_wp2
          refine bodyPost_ret (results_none rfl _ _ _) rfl ?_
          exact (HBAD.out _ rfl HK.out).vo
        · have d3 : decide ((L : Int) ≥ 256) = false := by simp; omega
          have HG : Hid (L < 256 ∧ least ≤ L ∧ L ≤ most) := ⟨by omega, by omega, by omega⟩
          have hp := hp (by omega) v no xs w H.out (by have := HL.out; omega)
          clear h3
          go_enter Try.func100, Try.ntmps100
          go_wp2_with (go_at_call 110; refine (calls_vo hp).mono ?_)
          rintro e w1 ⟨rfl, v1, hq⟩
          obtain ⟨aor, nr, cr, rfl, -, -, -⟩ := hq.wm.own.rd.shape
          have HQ : Hid (VP r v w w1 (.slice aor nr cr) no (xs ++ putD 1 (L : Int))) := hq
          have HR : Hid (Rd w1 (.slice ao L cb) bs) := by
            obtain ⟨_, e, k, -⟩ := HV.out.va hq
            injection e with e
            subst e
            exact k
          have HLE : Hid ((xs ++ putD 1 (L : Int)).length + bs.length ≤ 140737488355328) := by
            show _ ≤ _
            rw [List.length_append, putD_len]
            have h1 := HL.out
            have h2 := HB.out.2
            have h3 := HG.out.1
            omega
          clear z0 z1 f0 f1 hp
          obtain ⟨z0, z1, f0, f1⟩ := hq.wm.facts
          clear hq
          go_wp2_with (at_builtin; refine wpList_app _ rfl (.tmp 40) (.tmp 41) rfl _ _ (xs ++ putD 1 (L : Int)) bs rfl rfl HQ.out.wm.own HR.out (HLE.out) ?_)
          intro v2 w2 ho2 hc2 hk2
          obtain ⟨ao2, n2, cc2, rfl, -, -, -⟩ := ho2.rd.shape
          rw [← List.append_assoc] at ho2
          obtain ⟨k1, k2⟩ := HQ.out.wm.app0 ho2 hc2 hk2 HB.out.1
          have k4 := (cell2 k2).1
          have k3 := frozen_of_row w2 r 0 _ _ k2
          have K1 : Hid (VP r (.slice aor nr cr) w1 (w2.setCell ⟨r, 0, none⟩ (.slice ao2 n2 cc2)) (.slice ao2 n2 cc2) no ((xs ++ putD 1 (L : Int)) ++ bs)) := k1
          clear ho2 hc2 hk2 k1 k2 z0 z1 f0 f1
          go_wp2
          go_end0
          refine VQ.vo (v' := .slice ao2 n2 cc2) (no' := no) (ys := putD 1 (L : Int) ++ bs) ⟨by rw [← List.append_assoc]; exact HQ.out.trans K1.out, fun e => e, fun e => .inr ⟨e, ?_⟩, by rw [List.length_append, putD_len]; have h1 := HG.out; have h2 := HB.out.2; omega⟩
          unfold wRaw
          have h1 := HG.out
          have h2 := HB.out.2
          rw [if_pos ⟨by omega, by omega, by rw [← h2]; exact h1.1⟩, h2]
      · have hp := vnumber_any r 2 (L : Int) (by decide) (Int.natCast_nonneg _)
        by_cases h3 : 65536 ≤ L
        · have d3 : decide ((L : Int) ≥ 65536) = true := by simp; omega
          have HK : Hid (¬ (least ≤ bs.length ∧ bs.length ≤ most ∧ bs.length < 256 ^ 2)) := fun k => by have h4 := HB.out.2; have h5 := k.2.2; have h6 : 256 ^ 2 = 65536 := rfl; omega
          clear h3 hp
          go_enter Try.func100, Try.ntmps100
          go_wp2
          refine bodyPost_ret (results_none rfl _ _ _) rfl ?_
          exact (HBAD.out _ rfl HK.out).vo
        · have d3 : decide ((L : Int) ≥ 65536) = false := by simp; omega
          have HG : Hid (L < 65536 ∧ least ≤ L ∧ L ≤ most) := ⟨by omega, by omega, by omega⟩
          have hp := hp (by omega) v no xs w H.out (by have := HL.out; omega)
          clear h3
          go_enter Try.func100, Try.ntmps100
          go_wp2_with (go_at_call 110; refine (calls_vo hp).mono ?_)
          rintro e w1 ⟨rfl, v1, hq⟩
          obtain ⟨aor, nr, cr, rfl, -, -, -⟩ := hq.wm.own.rd.shape
          have HQ : Hid (VP r v w w1 (.slice aor nr cr) no (xs ++ putD 2 (L : Int))) := hq
          have HR : Hid (Rd w1 (.slice ao L cb) bs) := by
            obtain ⟨_, e, k, -⟩ := HV.out.va hq
            injection e with e
            subst e
            exact k
          have HLE : Hid ((xs ++ putD 2 (L : Int)).length + bs.length ≤ 140737488355328) := by
            show _ ≤ _
            rw [List.length_append, putD_len]
            have h1 := HL.out
            have h2 := HB.out.2
            have h3 := HG.out.1
            omega
          clear z0 z1 f0 f1 hp
          obtain ⟨z0, z1, f0, f1⟩ := hq.wm.facts
          clear hq
          go_wp2_with (at_builtin; refine wpList_app _ rfl (.tmp 40) (.tmp 41) rfl _ _ (xs ++ putD 2 (L : Int)) bs rfl rfl HQ.out.wm.own HR.out (HLE.out) ?_)
          intro v2 w2 ho2 hc2 hk2
          obtain ⟨ao2, n2, cc2, rfl, -, -, -⟩ := ho2.rd.shape
          rw [← List.append_assoc] at ho2
          obtain ⟨k1, k2⟩ := HQ.out.wm.app0 ho2 hc2 hk2 HB.out.1
          have k4 := (cell2 k2).1
          have k3 := frozen_of_row w2 r 0 _ _ k2
          have K1 : Hid (VP r (.slice aor nr cr) w1 (w2.setCell ⟨r, 0, none⟩ (.slice ao2 n2 cc2)) (.slice ao2 n2 cc2) no ((xs ++ putD 2 (L : Int)) ++ bs)) := k1
          clear ho2 hc2 hk2 k1 k2 z0 z1 f0 f1
          go_wp2
          go_end0
          refine VQ.vo (v' := .slice ao2 n2 cc2) (no' := no) (ys := putD 2 (L : Int) ++ bs) ⟨by rw [← List.append_assoc]; exact HQ.out.trans K1.out, fun e => e, fun e => .inr ⟨e, ?_⟩, by rw [List.length_append, putD_len]; have h1 := HG.out; have h2 := HB.out.2; omega⟩
          unfold wRaw
          have h1 := HG.out
          have h2 := HB.out.2
          rw [if_pos ⟨by omega, by omega, by rw [← h2]; exact h1.1⟩, h2]
      · have hp := vnumber_any r 3 (L : Int) (by decide) (Int.natCast_nonneg _)
        by_cases h3 : 16777216 ≤ L
        · have d3 : decide ((L : Int) ≥ 16777216) = true := by simp; omega
          have HK : Hid (¬ (least ≤ bs.length ∧ bs.length ≤ most ∧ bs.length < 256 ^ 3)) := fun k => by have h4 := HB.out.2; have h5 := k.2.2; have h6 : 256 ^ 3 = 16777216 := rfl; omega
          clear h3 hp
          go_enter Try.func100, Try.ntmps100
          go_wp2
          refine bodyPost_ret (results_none rfl _ _ _) rfl ?_
          exact (HBAD.out _ rfl HK.out).vo
        · have d3 : decide ((L : Int) ≥ 16777216) = false := by simp; omega
          have HG : Hid (L < 16777216 ∧ least ≤ L ∧ L ≤ most) := ⟨by omega, by omega, by omega⟩
          have hp := hp (by omega) v no xs w H.out (by have := HL.out; omega)
          clear h3
          go_enter Try.func100, Try.ntmps100
          go_wp2_with (go_at_call 110; refine (calls_vo hp).mono ?_)
          rintro e w1 ⟨rfl, v1, hq⟩
          obtain ⟨aor, nr, cr, rfl, -, -, -⟩ := hq.wm.own.rd.shape
          have HQ : Hid (VP r v w w1 (.slice aor nr cr) no (xs ++ putD 3 (L : Int))) := hq
          have HR : Hid (Rd w1 (.slice ao L cb) bs) := by
            obtain ⟨_, e, k, -⟩ := HV.out.va hq
            injection e with e
            subst e
            exact k
          have HLE : Hid ((xs ++ putD 3 (L : Int)).length + bs.length ≤ 140737488355328) := by
            show _ ≤ _
            rw [List.length_append, putD_len]
            have h1 := HL.out
            have h2 := HB.out.2
            have h3 := HG.out.1
            omega
          clear z0 z1 f0 f1 hp
          obtain ⟨z0, z1, f0, f1⟩ := hq.wm.facts
          clear hq
          go_wp2_with (at_builtin; refine wpList_app _ rfl (.tmp 40) (.tmp 41) rfl _ _ (xs ++ putD 3 (L : Int)) bs rfl rfl HQ.out.wm.own HR.out (HLE.out) ?_)
          intro v2 w2 ho2 hc2 hk2
          obtain ⟨ao2, n2, cc2, rfl, -, -, -⟩ := ho2.rd.shape
          rw [← List.append_assoc] at ho2
          obtain ⟨k1, k2⟩ := HQ.out.wm.app0 ho2 hc2 hk2 HB.out.1
          have k4 := (cell2 k2).1
          have k3 := frozen_of_row w2 r 0 _ _ k2
          have K1 : Hid (VP r (.slice aor nr cr) w1 (w2.setCell ⟨r, 0, none⟩ (.slice ao2 n2 cc2)) (.slice ao2 n2 cc2) no ((xs ++ putD 3 (L : Int)) ++ bs)) := k1
          clear ho2 hc2 hk2 k1 k2 z0 z1 f0 f1
          go_wp2
          go_end0
          refine VQ.vo (v' := .slice ao2 n2 cc2) (no' := no) (ys := putD 3 (L : Int) ++ bs) ⟨by rw [← List.append_assoc]; exact HQ.out.trans K1.out, fun e => e, fun e => .inr ⟨e, ?_⟩, by rw [List.length_append, putD_len]; have h1 := HG.out; have h2 := HB.out.2; omega⟩
          unfold wRaw
          have h1 := HG.out
          have h2 := HB.out.2
          rw [if_pos ⟨by omega, by omega, by rw [← h2]; exact h1.1⟩, h2]
end Go.Proofs.Ytdhckndehijemaa
