/-
  A log's Count.
-/
import Derived.Test.YtlhcadfcgibkdaaDoorCntMath
import Derived.Test.YtlhcadfcgibkdaaDoorLog
import Derived.Test.YtlhcadfcgibkdaaDoorPsB
import Derived.Deep.RegionWith
namespace Go.Proofs.YtlhcadfcgibkdaaDoor
open Go.RowKit
set_option linter.unusedVariables false
set_option maxRecDepth 100000

/-- A log whose counters are these. -/
structure CntSt (w : World) (p b : Nat) (L : List Ent) : Prop where
  blk : w.heap[p]? = some (.cells #[.int .i64 1, .slice none 0 0, .int .i64 0, .int .u64 0, .map (some b)] 82 (0, 0))
  map : MapAt w b L
  num : ∀ e ∈ L, e.n < 18446744073709551616

theorem MapAt.obj {w : World} {b : Nat} {L : List Ent} (h : MapAt w b L) : ∃ es c, w.heap[b]? = some (.map es c) := by
  obtain ⟨es, clock, hb, _⟩ := h
  exact ⟨_, _, hb⟩
theorem CntSt.lt {w : World} {p b : Nat} {L : List Ent} (h : CntSt w p b L) : p < w.heap.size := (Array.getElem?_eq_some_iff.1 h.blk).1
theorem CntSt.ne {w : World} {p b : Nat} {L : List Ent} (h : CntSt w p b L) : p ≠ b := by
  rintro rfl
  obtain ⟨es, c, hb⟩ := h.map.obj
  rw [h.blk] at hb
  cases hb
theorem CntSt.cell {w : World} {p b : Nat} {L : List Ent} (h : CntSt w p b L) : w.cell? ⟨p, 4, none⟩ = some (.map (some b)) := by rw [Lib.cell_of_heap h.blk]; rfl
theorem CntSt.keep {w w' : World} {p b : Nat} {L : List Ent} (h : CntSt w p b L) {S : Nat → Prop} (hc : Chg S w w') (h1 : ¬ S p) (h2 : ¬ S b) : CntSt w' p b L :=
  ⟨by rw [hc.block p h.lt h1]; exact h.blk, h.map.keep (hc.block b h.map.lt h2), h.num⟩
theorem CntSt.non {w w' : World} {p b : Nat} {L : List Ent} (h : CntSt w p b L) (hc : Chg Non w w') : CntSt w' p b L := h.keep hc (fun x => x) (fun x => x)

theorem MapAt.fresh {w : World} {b : Nat} (h : w.heap[b]? = some (.map #[] 0)) : MapAt w b [] := by
  obtain ⟨es, clock, hb, F, hs, hD⟩ := MapAt.made w
  rw [heap_alloc_new] at hb
  cases hb
  exact ⟨_, _, h, F, hs, hD⟩

theorem CntSt.start {w w' : World} {p b : Nat} (h : NewP w w' 1 p b) : CntSt w' p b [] := ⟨h.st.blk, MapAt.fresh h.map, fun e he => by simp at he⟩

def wasN (nm : List UInt8) (L : List Ent) : Nat := match findL nm L with | some e => e.n | none => 0
theorem valL_was (nm : List UInt8) (L : List Ent) : valL nm L = .int .u64 (wasN nm L) := by
  unfold valL wasN
  cases findL nm L <;> rfl
theorem cntV_was (nm : List UInt8) (n : Nat) (hn : n < 18446744073709551616) (L : List Ent) : cntV nm n L = sumU (wasN nm L) n := by
  unfold cntV wasN
  cases findL nm L with
  | none => simp only; unfold sumU; rw [if_neg (by omega)]; omega
  | some e => rfl
theorem wasN_lt {w : World} {p b : Nat} {L : List Ent} (h : CntSt w p b L) (nm : List UInt8) : wasN nm L < 18446744073709551616 := by
  unfold wasN
  cases hf : findL nm L with
  | none => simp
  | some e => exact h.num e (find_name hf).2

theorem wrapU {T : Nat} (h : T < 18446744073709551616) : IntKind.u64.wrap (T : Int) = (T : Int) := by simp [IntKind.wrap, IntKind.bits, IntKind.signed]; omega

set_option maxHeartbeats 1000000 in
theorem count_yes (p b : Nat) (L : List Ent) (s : ByteArray) (n : Nat) (w : World) (h : CntSt w p b L) (hn : n < 18446744073709551616) (hl : L.length < maxLen) (hw : isWd s.data.toList = true) :
    Calls Tryd.prog 19 #[.pointer (some ⟨p, 0, none⟩), .string s, .int .u64 n] w fun e w' => e = .returned (.int .i64 0) ∧ CntSt w' p b (putL ⟨s.data.toList, cntV s.data.toList n L⟩ L) ∧ Chg (One b) w w' := by
  have hsz := (isWd_size hw).2
  have hlk := h.map.look s (by unfold maxLen; omega)
  rw [valL_was] at hlk
  have hlk2 : ∀ k, (Instr.lookup 80 (.map (some b)) (.string s) false).run Tryd.prog (w.drewN k) = .ok (.int .u64 (wasN s.data.toList L)) (w.drewN k) := by
    intro k
    have := (h.non (drewN_non w k)).map.look s (by unfold maxLen; omega)
    rw [valL_was] at this
    exact this
  have hwl := wasN_lt h s.data.toList
  have hcv := cntV_was s.data.toList n hn L
  obtain ⟨was, hwas⟩ : ∃ was, was = wasN s.data.toList L := ⟨_, rfl⟩
  obtain ⟨T, hT⟩ : ∃ T, T = cntV s.data.toList n L := ⟨_, rfl⟩
  rw [← hwas] at hlk hlk2 hwl hcv
  rw [← hT] at hcv ⊢
  have hc := h.cell
  have hTl : T < 18446744073709551616 := by rw [hcv]; exact sumU_lt _ _ hwl hn
  have H : Hid (CntSt w p b L ∧ T = sumU was n) := ⟨h, hcv⟩
  have HST : Hid (∀ W, Chg Non w W → ∃ w', (Instr.mapUpdate 80 (.map (some b)) (.string s) (.int .u64 T)).run Tryd.prog W = .ok () w' ∧ CntSt w' p b (putL ⟨s.data.toList, T⟩ L) ∧ Chg (One b) W w') := by
    intro W hW
    have hs := h.non hW
    obtain ⟨w', h1, h2, h3⟩ := hs.map.store hl s (by unfold maxLen; omega) ⟨s.data.toList, T⟩ rfl
    refine ⟨w', h1, ⟨by rw [h3.block p hs.lt hs.ne]; exact hs.blk, h2, fun e he => ?_⟩, h3⟩
    rcases mem_put.1 he with rfl | he
    · exact hTl
    · exact h.num e he.1
  clear h hwas hT hcv hlk2
  by_cases hov : (18446744073709551615 : Int) - was < n
  · have hTm : T = 18446744073709551615 := by
      have := H.out.2
      unfold sumU at this
      rw [if_pos (by omega)] at this
      exact this
    go_enter Tryd.func19, Tryd.ntmps19
    go_wp2_with fail
    refine (isWord_any _ _ (by omega)).mono ?_
    rintro e w ⟨rfl, rfl⟩
    rw [hw]
    go_wp2_with fail
    have hsum : (was : Int) + (18446744073709551615 - was) = (T : Int) := by omega
    have hwr : IntKind.u64.wrap (T : Int) = (T : Int) := wrapU hTl
    clear hTm
    go_region_with (go_at_call 37; (refine (clone_any s _ (by omega)).mono ?_; rintro e w2 ⟨rfl, hc2⟩; (have hW2 : Chg Non w w2 := (((Chg.refl _ _).drew).trans hc2 (fun _ _ x => x))); (have c2 : w2.cell? ⟨p, 4, none⟩ = some (.map (some b)) := (H.out.1.non hW2).cell); obtain ⟨w3, hr3, hm3, hc3⟩ := HST.out w2 hW2))
    all_goals
      have H3 : Hid (CntSt w3 p b (putL ⟨s.data.toList, T⟩ L) ∧ Chg (One b) w w3) := ⟨hm3, (hW2.non _).trans hc3 (fun _ _ x => x)⟩
      clear hm3 hc3 hr3 c2 hW2 hc2
      go_wp2
      go_ret
      exact ⟨rfl, H3.out⟩
  · have hTm : T = was + n := by
      have := H.out.2
      unfold sumU at this
      rw [if_neg (by omega)] at this
      exact this
    have hov' : (n : Int) ≤ 18446744073709551615 - was := by omega
    go_enter Tryd.func19, Tryd.ntmps19
    go_wp2_with fail
    refine (isWord_any _ _ (by omega)).mono ?_
    rintro e w ⟨rfl, rfl⟩
    rw [hw]
    go_wp2_with fail
    have hsum : (was : Int) + n = (T : Int) := by omega
    have hbd : (was : Int) + n ≤ 18446744073709551615 := by omega
    have hwr : IntKind.u64.wrap (T : Int) = (T : Int) := wrapU hTl
    clear hTm
    go_region_with (go_at_call 37; (refine (clone_any s _ (by omega)).mono ?_; rintro e w2 ⟨rfl, hc2⟩; (have hW2 : Chg Non w w2 := (((Chg.refl _ _).drew).trans hc2 (fun _ _ x => x))); (have c2 : w2.cell? ⟨p, 4, none⟩ = some (.map (some b)) := (H.out.1.non hW2).cell); obtain ⟨w3, hr3, hm3, hc3⟩ := HST.out w2 hW2))
    all_goals
      have H3 : Hid (CntSt w3 p b (putL ⟨s.data.toList, T⟩ L) ∧ Chg (One b) w w3) := ⟨hm3, (hW2.non _).trans hc3 (fun _ _ x => x)⟩
      clear hm3 hc3 hr3 c2 hW2 hc2
      go_wp2
      go_ret
      exact ⟨rfl, H3.out⟩

theorem count_no (p b : Nat) (L : List Ent) (s : ByteArray) (n : Nat) (w : World) (hs : s.size ≤ 9223372036854775807) (hw : isWd s.data.toList = false) :
    Calls Tryd.prog 19 #[.pointer (some ⟨p, 0, none⟩), .string s, .int .u64 n] w fun e w' => e = .returned (.int .i64 31) ∧ w' = w := by
  go_enter Tryd.func19, Tryd.ntmps19
  go_wp2_with fail
  refine (isWord_any _ _ hs).mono ?_
  rintro e w ⟨rfl, rfl⟩
  rw [hw]
  go_wp2
  go_ret
  exact ⟨rfl, rfl⟩
end Go.Proofs.YtlhcadfcgibkdaaDoor
