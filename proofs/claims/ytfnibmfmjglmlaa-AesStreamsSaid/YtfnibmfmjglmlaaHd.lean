/-
  The live question: its answer is true.
-/
import Derived.Test.YtfnibmfmjglmlaaApB
import Derived.Test.YtfnibmfmjglmlaaHdp
import Derived.Test.YtfnibmfmjglmlaaEnc
import Derived.Test.YtfnibmfmjglmlaaNew
import Derived.Test.YtfnibmfmjglmlaaEqa
namespace Go.Proofs.Ytfnibmfmjglmlaa
open Go.RowKit
set_option linter.unusedVariables false

theorem ansBuilt : (((((((((((((((((ba 16 zB).setIfInBounds 0 (.int .u8 105)).setIfInBounds 1 (.int .u8 196)).setIfInBounds 2 (.int .u8 224)).setIfInBounds 3 (.int .u8 216)).setIfInBounds 4 (.int .u8 106)).setIfInBounds 5 (.int .u8 123)).setIfInBounds 6 (.int .u8 4)).setIfInBounds 7 (.int .u8 48)).setIfInBounds 8 (.int .u8 216)).setIfInBounds 9 (.int .u8 205)).setIfInBounds 10 (.int .u8 183)).setIfInBounds 11 (.int .u8 128)).setIfInBounds 12 (.int .u8 112)).setIfInBounds 13 (.int .u8 180)).setIfInBounds 14 (.int .u8 197)).setIfInBounds 15 (.int .u8 90)) = ba 16 hAns := by kernel_rfl

structure HdS (w wr : World) (v : Value) (i : Nat) : Prop where
  own : OwnN w wr v (nums i hKey)
  blk : Ar wr w.heap.size (ba 16 (upTo i hBlk zB))
  ne : v.ownBlock ≠ some w.heap.size

set_option maxRecDepth 100000 in
set_option maxHeartbeats 4000000 in
theorem head_any (w : World) : Calls Try.prog 9 #[] w fun r w' => r = .returned (.bool true) ∧ Chg w w' := by
  have hz := zero32.1
  go_enter Try.func9, Try.ntmps9
  go_wp2_with fail
  obtain ⟨w1, hw1⟩ : ∃ w1, w1 = w.alloc (.cells (ba 16 zB) 23) := ⟨_, rfl⟩
  have Z1 : Hid (HdS w w1 (.slice none 0 0) 0) := by
    rw [hw1]
    refine ⟨⟨.inl ⟨rfl, rfl⟩, fun k e => (by simp [Value.ownBlock] at e), (Chg.refl w).alloc _⟩, ?_, by simp [Value.ownBlock]⟩
    rw [upTo_zero]
    exact Ar.new w _ _
  rw [← hw1]
  clear hw1
  go_loopw [1, 3] (fun v v3 wr => ∃ (i : Nat), v3 = .int .i64 i ∧ i ≤ 16 ∧ HdS w wr v i) (fun v v3 wr => 16 - (intOf v3).toNat)
  case atStart => exact ⟨0, rfl, by omega, Z1.out⟩
  case round =>
    clear Z1 hz
    obtain ⟨i, rfl, hi, hz⟩ := hrel
    obtain ⟨ao, m, c, rfl, -⟩ := hz.own.own.rd.shape
    have Z : Hid (HdS w wr (.slice ao m c) i) := hz
    clear hz
    by_cases h16 : i < 16
    · have hd : decide ((i : Int) < 16) = true := by simp; omega
      have li : (i : Int) < 16 := by omega
      have wi : IntKind.u8.wrap (i : Int) = i := by rw [IntKind.wrap_u8]; omega
      obtain ⟨t, ht⟩ : ∃ t : Nat, 17 * (i : Int) = t := ⟨17 * i, by omega⟩
      have wt := wrap_i (x := (t : Int)) (by omega) (by omega)
      have wt8 : IntKind.u8.wrap (t : Int) = t := by rw [IntKind.wrap_u8]; omega
      have HT : Hid ((t : Int) = ((hBlk i).toNat : Int) ∧ (i : Int) = ((hKey i).toNat : Int)) := by
        unfold hBlk hKey
        rw [BitVec.toNat_ofNat, BitVec.toNat_ofNat, Nat.mod_eq_of_lt (by omega), Nat.mod_eq_of_lt (by omega)]
        exact ⟨by omega, rfl⟩
      have hl : (nums i hKey).length + [(i : Int)].length ≤ 140737488355328 := by rw [nums_len]; simp; omega
      have Zo : Hid (OwnN w (wr.alloc (.cells #[.int .u8 (i : Int)] 5)) (.slice ao m c) (nums i hKey)) := Z.out.own.alloc _
      go_wp2_with (at_builtin; refine Ap.wpList_app _ rfl _ _ rfl (.slice ao m c) (.slice (some ⟨wr.heap.size, 0, none⟩) 1 1) (nums i hKey) [(i : Int)] rfl rfl Zo.out.own (Ap.Rd.one wr (i : Int)) hl ?_)
      intro v2 w2 o2 c2 b2
      obtain ⟨ao2, m2, cc2, rfl, -⟩ := o2.rd.shape
      have k2 := Zo.out.more o2 c2 (by rw [World.size_alloc]; exact b2)
      have a2 : Ar w2 w.heap.size (ba 16 (upTo i hBlk zB)) := (Z.out.blk.alloc _).ap c2 Z.out.ne
      have n2 : (Value.slice ao2 m2 cc2).ownBlock ≠ some w.heap.size := by
        rcases b2 with h | h
        · rw [h]; exact Z.out.ne
        · rw [h]
          have := Z.out.blk.lt
          intro e
          injection e with e
          omega
      have Z2 : Hid (OwnN w w2 (.slice ao2 m2 cc2) (nums (i + 1) hKey) ∧ Ar w2 w.heap.size (ba 16 (upTo i hBlk zB)) ∧ (Value.slice ao2 m2 cc2).ownBlock ≠ some w.heap.size) := by
        refine ⟨?_, a2, n2⟩
        rw [nums_succ, ← HT.out.2]
        exact k2
      have cc := (a2.cell i).trans (ba_get 16 _ h16)
      have ff := a2.frozen i
      clear o2 c2 b2 k2 a2 n2
      go_wp2_with fail
      go_roundw
      case rel =>
        obtain ⟨q1, q2, q3⟩ := Z2.out
        refine ⟨i + 1, by go_num, by omega, ⟨q1.own.keep (fun k e => ?_), q1.new, q1.chg.setCell (by dsimp only; omega) _⟩, ?_, q3⟩
        · exact Below.heap_setCell _ _ _ _ (fun x => q3 (by rw [e]; exact congrArg some x))
        · have hh := q2.set i (.int .u8 ((hBlk i).toNat : Int))
          rw [ba_set, upTo_upd i hBlk zB] at hh
          rw [HT.out.1]
          exact hh
      case measure => simp [intOf]; omega
    · have : i = 16 := by omega
      subst this
      have hd : decide (((16 : Nat) : Int) < 16) = false := by simp
      obtain ⟨b, o, cp, hv, hc1, hc2, hbs⟩ := Rd.bs Z.out.own.own.rd (by decide)
      injection hv with h1 h2 h3
      subst h1 h2 h3
      have ZB : Hid (Bs wr b o 16 hKey ∧ 16 ≤ c ∧ c ≤ 9223372036854775807) := ⟨hbs, hc1, hc2⟩
      clear hbs hc1 hc2
      go_wp2_with fail
      go_at_call 10
      refine (new_any b o c 16 4 10 hKey wr ZB.out.1 rfl (.inl rfl) rfl ZB.out.2.1 ZB.out.2.2).mono ?_
      rintro r w2 ⟨K, k, rfl, hK, hc2, hA, hks⟩
      have hans := hEnc hks
      have ZK : Hid (Chg w w2 ∧ Ar w2 K (keyC 10 k) ∧ Ar w2 w.heap.size (ba 16 hBlk) ∧ ba 16 (enc 10 k hBlk) = ba 16 hAns) := by
        refine ⟨Z.out.own.chg.trans hc2, hA, ?_, ba_congr hans⟩
        have := Z.out.blk.chg hc2
        rwa [upTo_all] at this
      clear hK hc2 hA hks hans
      obtain ⟨t2, g2⟩ := ZK.out.2.2.1
      have hsz := szB hBlk zero32.2
      have hz := zero32.1
      have heq : ∀ u, (Op.equalIn 10000 23 (.agg (ba 16 (enc 10 k hBlk))) (.agg (ba 16 hAns))).run Try.prog u = .ok true u := by
        intro u
        rw [run_eqB, (eqB_iff _ _).2 (ba_inj ZK.out.2.2.2)]
      rw [← ansBuilt] at heq
      go_wp2_with (first | refine wpList_load_row rfl 23 _ rfl _ rfl _ _ _ _ g2 und32 rfl hsz ?_ | (go_at_call 24; refine (encrypt_any K 10 k hBlk _ ZK.out.2.1 (.inl rfl)).mono ?_; rintro r w3 ⟨rfl, hc3⟩))
      go_ret
      exact ⟨rfl, ZK.out.1.trans hc3⟩
end Go.Proofs.Ytfnibmfmjglmlaa
