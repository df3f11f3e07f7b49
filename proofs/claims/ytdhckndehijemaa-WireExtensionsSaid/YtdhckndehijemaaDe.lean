/-
  The document's reader: bytes, numbers, lists, parts.
-/
import Derived.Test.YtdhckndehijemaaDd
import Derived.Test.YtdhckndehijemaaTb
import Derived.Test.YtdhckndehijemaaSx
namespace Go.Proofs.Ytdhckndehijemaa
open Go.RowKit
set_option linter.unusedVariables false
set_option maxRecDepth 100000

/-- Bytes that were taken: they lie in memory of their own. -/
structure TK (p : Pr (List Int)) (w w' : World) (r : Nat) (s : St) (v : Value) (ys : List Int) : Prop where
  bt : Bt (Btw w.heap.size w'.heap.size) w' v ys
  ps : DT p w w' r s ys
theorem TK.dp {p : Pr (List Int)} {w w' : World} {r : Nat} {s : St} {v : Value} {ys : List Int} (h : TK p w w' r s v ys) : DP .byt p w w' r s [v] ys := ⟨h.bt.rel, h.ps⟩
theorem DB.byt {w : World} {r : Nat} {s : St} {xs : List Int} {o : Bool} (h : DS w r s) (e : s = some (xs, o)) : Byt xs := by
  obtain ⟨v, sh, od, zs, m, k⟩ := h
  rcases k with ⟨k, -⟩ | ⟨k, -⟩
  · rw [k] at e; cases e
  · rw [k] at e
    injection e with e
    injection e with e _
    rw [← e]; exact m.byt

set_option maxHeartbeats 1600000 in
theorem dtake_any (r n : Nat) (hn : n ≤ 140737488355328) (s : St) (w : World) (h : DS w r s) :
    Calls Try.prog 190 #[.pointer (some ⟨r, 0, none⟩), .int .i64 n] w fun e w' => ∃ ao L c ys, e = .returned (.slice ao L c) ∧ TK (pTake n) w w' r s (.slice ao L c) ys ∧ ys.length ≤ n ∧ L = ys.length := by
  obtain ⟨v, sh, od, xs, m, k⟩ := h
  obtain ⟨ao, N, c, rfl, hN, hc, hm⟩ := m.rd.shape
  have hm' : c ≤ 9223372036854775807 := by simpa [maxLen] using hm
  have M : Hid (DM w r (.slice ao N c) sh od xs) := m
  have HN : Hid (N = xs.length) := hN
  obtain ⟨z0, z1, z2, f0, f1, f2⟩ := m.facts
  have HR : Hid (r < w.heap.size) := m.lt
  cases sh with
  | true =>
    have hs : s = none := by
      rcases k with ⟨h, -⟩ | ⟨-, h⟩
      · exact h
      · cases h
    subst hs
    clear m k hN hc hm hm'
    go_enter Try.func190, Try.ntmps190
    go_wp2
    go_ret
    exact ⟨none, 0, 0, [], rfl, ⟨⟨Rd.nil _, Byt.nil, fun k e => by cases e⟩, chg_rest _ _ _ _, none, DS.of (M.out.short true) (.inl ⟨rfl, rfl⟩), rfl⟩, by simp, rfl⟩
  | false =>
    have hs : s = some (xs, od) := by
      rcases k with ⟨-, h⟩ | ⟨h, -⟩
      · cases h
      · exact h
    subst hs
    by_cases hlt : N < n
    · have d1 : decide ((n : Int) > (N : Int)) = true := by simp; omega
      have HL : Hid (N < n) := hlt
      clear m k hN hc hm hm' hlt
      go_enter Try.func190, Try.ntmps190
      go_wp2
      go_ret
      refine ⟨none, 0, 0, [], rfl, ⟨⟨Rd.nil _, Byt.nil, fun k e => by cases e⟩, chg_rest _ _ _ _, none, DS.of (M.out.short true) (.inl ⟨rfl, rfl⟩), ?_⟩, by simp, rfl⟩
      unfold Res pTake
      dsimp only
      rw [if_pos (by rw [← HN.out]; exact HL.out)]
    · have d1 : decide ((n : Int) > (N : Int)) = false := by simp; omega
      have HL : Hid (n ≤ N) := by show _ ≤ _; omega
      have hlt' : n ≤ N := by omega
      have HRD : Hid (Rd (w.alloc (.cells #[] 5)) (.slice ao n c) (xs.take n)) := (Rd.takeN m.rd HL.out).keep (fun k e hk => ((Chg.refl Non w).alloc _).block k hk (fun q => q))
      have HLE : Hid (([] : List Int).length + (xs.take n).length ≤ 140737488355328) := by show _ ≤ _; simp; omega
      have hres : Res (pTake n) (some (xs, od)) (xs.take n) (some (xs.drop n, od)) := by
        unfold Res pTake
        dsimp only
        rw [if_neg (by have := HN.out; omega)]
        exact ⟨rfl, by simp⟩
      have HRES : Hid (Res (pTake n) (some (xs, od)) (xs.take n) (some (xs.drop n, od))) := hres
      have HTL : Hid ((xs.take n).length ≤ n ∧ (xs.take n).length = n) := ⟨by simp; omega, by rw [List.length_take]; have := HN.out; have := HL.out; omega⟩
      obtain ⟨z0', z1', z2', f0', f1', f2'⟩ := (M.out.non ((Chg.refl Non w).alloc (.cells #[] 5))).facts
      clear m k hN hlt hm hres
      cases ao with
      | none =>
        go_enter Try.func190, Try.ntmps190
        go_wp2_with (at_builtin; refine wpList_app _ rfl (.tmp 22) (.tmp 28) rfl _ _ [] (xs.take n) rfl rfl (OwnV.empty w) (HRD.out) (HLE.out) ?_)
        intro v5 w5 j1 j2 j3
        have H5 : Hid (OwnN w w5 v5 (xs.take n)) := (OwnN.start w w (Chg.refl _ _)).more j1 j2 (by rw [World.size_alloc]; exact j3)
        obtain ⟨a5, n5, c5, rfl, hn5, -, -⟩ := j1.rd.shape
        have M5 : Hid (DM w5 r (.slice none N c) false od xs) := M.out.non H5.out.chg
        have HN5 : Hid (n5 = (xs.take n).length) := hn5
        clear z0 z1 z2 f0 f1 f2 z0' z1' z2' f0' f1' f2' j1 j2 j3 hn5
        obtain ⟨z0, z1, z2, f0, f1, f2⟩ := M5.out.facts
        go_wp2_with fail
        go_ret
        have cs := chg_rest w5 r 0 (Value.slice none (N - n) (c - n))
        refine ⟨a5, n5, c5, xs.take n, rfl, ⟨⟨?_, M5.out.byt.take _, fun k e => ⟨H5.out.new k e, by have := H5.out.own.lt k e; have := cs.size; omega⟩⟩, (H5.out.chg.non _).one cs, _, DS.of (M5.out.rest (Rd.dropNone M5.out.rd HL.out) (M5.out.byt.drop n) (fun k e => by cases e)) (.inr ⟨rfl, rfl⟩), HRES.out⟩, HTL.out.1, HN5.out⟩
        exact H5.out.rd.keep (fun k e hk => cs.block k hk (fun q => by have q' : k = r := q; have := H5.out.new k e; have := HR.out; omega))
      | some x =>
        go_enter Try.func190, Try.ntmps190
        go_wp2_with (at_builtin; refine wpList_app _ rfl (.tmp 22) (.tmp 28) rfl _ _ [] (xs.take n) rfl rfl (OwnV.empty w) (HRD.out) (HLE.out) ?_)
        intro v5 w5 j1 j2 j3
        have H5 : Hid (OwnN w w5 v5 (xs.take n)) := (OwnN.start w w (Chg.refl _ _)).more j1 j2 (by rw [World.size_alloc]; exact j3)
        obtain ⟨a5, n5, c5, rfl, hn5, -, -⟩ := j1.rd.shape
        have M5 : Hid (DM w5 r (.slice (some x) N c) false od xs) := M.out.non H5.out.chg
        have HN5 : Hid (n5 = (xs.take n).length) := hn5
        clear z0 z1 z2 f0 f1 f2 z0' z1' z2' f0' f1' f2' j1 j2 j3 hn5
        obtain ⟨z0, z1, z2, f0, f1, f2⟩ := M5.out.facts
        go_wp2_with fail
        · subst h
          go_ret
          refine ⟨a5, n5, c5, rfl, _, ⟨⟨?_, M5.out.byt.take _, fun k e => ⟨H5.out.new k e, by have := H5.out.own.lt k e; have := (chg_rest w5 r 0 (Value.slice (some x) (N - c) 0)).size; exact Nat.lt_of_lt_of_le (H5.out.own.lt k e) (chg_rest _ _ _ _).size⟩⟩, (H5.out.chg.non _).one (chg_rest _ _ _ _), _, DS.of (M5.out.rest (Rd.dropAll M5.out.rd HL.out rfl) (M5.out.byt.drop _) M5.out.own) (.inr ⟨rfl, rfl⟩), HRES.out⟩, HTL.out.1, HN5.out⟩
          exact H5.out.rd.keep (fun k e hk => (chg_rest _ _ _ _).block k hk (fun q => by have q' : k = r := q; have := H5.out.new k e; have := HR.out; omega))
        · go_ret
          have cs := chg_rest w5 r 0 (Value.slice (some (x.add n)) (N - n) (c - n))
          refine ⟨a5, n5, c5, rfl, xs.take n, ⟨⟨?_, M5.out.byt.take _, fun k e => ⟨H5.out.new k e, by have := H5.out.own.lt k e; have := cs.size; omega⟩⟩, (H5.out.chg.non _).one (chg_rest _ _ _ _), _, DS.of (M5.out.rest (Rd.dropN M5.out.rd HL.out) (M5.out.byt.drop n) (fun k e => M5.out.own k (by rw [← e]; simp [Value.ownBlock, add_block]))) (.inr ⟨rfl, rfl⟩), HRES.out⟩, HTL.out.1, HN5.out⟩
          exact H5.out.rd.keep (fun k e hk => (chg_rest _ _ _ _).block k hk (fun q => by have q' : k = r := q; have := H5.out.new k e; have := HR.out; omega))
end Go.Proofs.Ytdhckndehijemaa
