/-
  The program's reader: over, is, fail, literal.
-/
import Derived.Test.YtlhcadfcgibkdaaDoorPs
import Derived.Lib.Builder
import Derived.BigQuiet
namespace Go.Proofs.YtlhcadfcgibkdaaDoor
open Go.RowKit
set_option linter.unusedVariables false
set_option maxRecDepth 100000

/-- A reader in block p: its text, where it stands, whether something is wrong. -/
structure PR (w : World) (p : Nat) (s : ByteArray) (r : RS) : Prop where
  blk : w.heap[p]? = some (.cells #[.string s, .int .i64 r.pos, .bool r.bad] 73 (0, 0))
  le : r.pos ≤ s.size

theorem PR.lt {w : World} {p : Nat} {s : ByteArray} {r : RS} (h : PR w p s r) : p < w.heap.size := (Array.getElem?_eq_some_iff.1 h.blk).1
theorem PR.keep {w w' : World} {p : Nat} {s : ByteArray} {r : RS} (h : PR w p s r) {S : Nat → Prop} (hc : Chg S w w') (hS : ¬ S p) : PR w' p s r := ⟨by rw [hc.block p h.lt hS]; exact h.blk, h.le⟩
theorem PR.non {w w' : World} {p : Nat} {s : ByteArray} {r : RS} (h : PR w p s r) (hc : Chg Non w w') : PR w' p s r := h.keep hc (fun x => x)
theorem PR.drewN {w : World} {p : Nat} {s : ByteArray} {r : RS} (h : PR w p s r) (n : Nat) : PR (w.drewN n) p s r := ⟨h.blk, h.le⟩
theorem PR.cells {w : World} {p : Nat} {s : ByteArray} {r : RS} (h : PR w p s r) : w.cell? ⟨p, 0, none⟩ = some (.string s) ∧ w.cell? ⟨p, 1, none⟩ = some (.int .i64 r.pos) ∧ w.cell? ⟨p, 2, none⟩ = some (.bool r.bad) ∧ w.frozen? ⟨p, 1, none⟩ = false ∧ w.frozen? ⟨p, 2, none⟩ = false := by
  refine ⟨?_, ?_, ?_, Lib.frozen_of_heap h.blk 1, Lib.frozen_of_heap h.blk 2⟩ <;> rw [Lib.cell_of_heap h.blk] <;> rfl
theorem drewN_non (w : World) (n : Nat) : Chg Non w (w.drewN n) := ⟨rfl, rfl, rfl, Nat.le_refl _, fun _ _ _ => rfl⟩

/-- The place is set. -/
theorem PR.to {w : World} {p : Nat} {s : ByteArray} {r : RS} (h : PR w p s r) {k : Nat} (hk : k ≤ s.size) : PR (w.setCell ⟨p, 1, none⟩ (.int .i64 k)) p s ⟨k, r.bad⟩ :=
  ⟨by simp [World.setCell, Array.getElem?_modify, h.blk], hk⟩
theorem chg_to {w : World} {p : Nat} (j : Nat) (u : Value) : Chg (One p) w (w.setCell ⟨p, j, none⟩ u) := Chg.setCell (S := One p) (Chg.refl _ _) (p := ⟨p, j, none⟩) (fun _ => rfl) u
theorem PR.fail {w : World} {p : Nat} {s : ByteArray} {r : RS} (h : PR w p s r) {k : Nat} (hk : k ≤ s.size) : PR ((w.setCell ⟨p, 2, none⟩ (.bool true)).setCell ⟨p, 1, none⟩ (.int .i64 k)) p s ⟨k, true⟩ :=
  ⟨by simp [World.setCell, Array.getElem?_modify, h.blk], hk⟩

def ovr (s : ByteArray) (r : RS) : Bool := r.bad || r.pos == s.size

set_option maxHeartbeats 400000 in
theorem over_any (p : Nat) (s : ByteArray) (r : RS) (w : World) (h : PR w p s r) (hs : s.size ≤ 1024) :
    Calls Tryd.prog 51 #[.pointer (some ⟨p, 0, none⟩)] w fun e w' => e = .returned (.bool (ovr s r)) ∧ ∃ n, w' = w.drewN n := by
  obtain ⟨c0, c1, c2, -, -⟩ := h.cells
  have hle := h.le
  clear h
  obtain ⟨pos, bad⟩ := r
  simp only at c1 c2 hle
  cases bad
  · by_cases hp : pos = s.size
    · have hpi : ((pos : Int) == (s.size : Int)) = true := by simp [hp]
      have ho : ovr s ⟨pos, false⟩ = true := by unfold ovr; simp [hp]
      rw [ho]
      clear hp ho
      go_enter Tryd.func51, Tryd.ntmps51
      go_wp2
      go_quiet (fail)
      go_wp2
      go_ret
      exact ⟨rfl, _, rfl⟩
    · have hpi : ((pos : Int) == (s.size : Int)) = false := by simp; omega
      have ho : ovr s ⟨pos, false⟩ = false := by unfold ovr; simp [hp]
      rw [ho]
      clear hp ho
      go_enter Tryd.func51, Tryd.ntmps51
      go_wp2
      go_quiet (fail)
      go_wp2
      go_ret
      exact ⟨rfl, _, rfl⟩
  · have ho : ovr s ⟨pos, true⟩ = true := rfl
    rw [ho]
    clear ho
    go_enter Tryd.func51, Tryd.ntmps51
    go_wp2
    go_quiet (fail)
    go_wp2
    go_ret
    exact ⟨rfl, _, rfl⟩

set_option maxHeartbeats 400000 in
theorem fail_bad (p : Nat) (s : ByteArray) (r : RS) (k : Int) (w : World) (h : PR w p s r) (hb : r.bad = true) :
    Calls Tryd.prog 68 #[.pointer (some ⟨p, 0, none⟩), .int .i64 k] w fun e w' => e = .returned (.tuple #[]) ∧ w' = w := by
  obtain ⟨c0, c1, c2, -, -⟩ := h.cells
  rw [hb] at c2
  clear h hb
  go_enter Tryd.func68, Tryd.ntmps68
  go_wp2
  go_end0
  exact ⟨rfl, rfl⟩

set_option maxHeartbeats 400000 in
theorem fail_good (p : Nat) (s : ByteArray) (r : RS) (k : Nat) (w : World) (h : PR w p s r) (hb : r.bad = false) (hk : k ≤ s.size) :
    Calls Tryd.prog 68 #[.pointer (some ⟨p, 0, none⟩), .int .i64 k] w fun e w' => e = .returned (.tuple #[]) ∧ PR w' p s ⟨k, true⟩ ∧ Chg (One p) w w' := by
  obtain ⟨c0, c1, c2, f1, f2⟩ := h.cells
  rw [hb] at c2
  have H : Hid (PR w p s r) := h
  clear h hb
  go_enter Tryd.func68, Tryd.ntmps68
  go_wp2
  go_end0
  exact ⟨rfl, H.out.fail hk, (chg_to 2 _).trans (chg_to 1 _) (fun _ _ x => x)⟩

theorem fail_any (p : Nat) (s : ByteArray) (r : RS) (k : Nat) (w : World) (h : PR w p s r) (hk : k ≤ s.size) :
    Calls Tryd.prog 68 #[.pointer (some ⟨p, 0, none⟩), .int .i64 k] w fun e w' => e = .returned (.tuple #[]) ∧ PR w' p s (if r.bad then r else ⟨k, true⟩) ∧ Chg (One p) w w' := by
  cases hb : r.bad
  · exact (fail_good p s r k w h hb hk).mono fun e w' ⟨he, h1, h2⟩ => ⟨he, h1, h2⟩
  · exact (fail_bad p s r k w h hb).mono fun e w' ⟨he, h1⟩ => ⟨he, by subst h1; exact h, by subst h1; exact Chg.refl _ _⟩

def isN (s : ByteArray) (r : RS) (c : UInt8) : Bool := !r.bad && (s.data.toList[r.pos]? == some c)

theorem get_ba {s : ByteArray} {k : Nat} (h : k < s.size) : s.data.toList[k]? = some (s[k]'h) := by
  rw [List.getElem?_eq_getElem (by simpa using h)]; rfl

set_option maxHeartbeats 400000 in
theorem is_any (p : Nat) (s : ByteArray) (r : RS) (c : UInt8) (w : World) (h : PR w p s r) (hs : s.size ≤ 1024) :
    Calls Tryd.prog 67 #[.pointer (some ⟨p, 0, none⟩), .int .u8 c.toNat] w fun e w' => e = .returned (.bool (isN s r c)) ∧ ∃ n, w' = w.drewN n := by
  obtain ⟨c0, c1, c2, -, -⟩ := h.cells
  have hle := h.le
  have hov := fun n => over_any p s r (w.drewN n) (h.drewN n) hs
  clear h
  cases ho : ovr s r
  · rw [ho] at hov
    have hb : r.bad = false := by unfold ovr at ho; simp at ho; exact ho.1
    have hp : r.pos < s.size := by unfold ovr at ho; simp at ho; omega
    have hI : isN s r c = (s[r.pos]'hp == c) := by unfold isN; rw [hb, get_ba hp]; simp
    obtain ⟨x, hx⟩ : ∃ x : Int, x = ((s[r.pos]'hp).toNat : Int) := ⟨_, rfl⟩
    have hix := run_at s r.pos hp x hx
    have hI2 : isN s r c = (x == (c.toNat : Int)) := by
      rw [hI, hx, Bool.eq_iff_iff]
      simp only [beq_iff_eq]
      constructor
      · intro e; rw [e]
      · intro e; exact UInt8.toNat_inj.1 (by omega)
    rw [hI2]
    obtain ⟨ci, hci⟩ : ∃ ci : Int, ci = (c.toNat : Int) := ⟨_, rfl⟩
    rw [← hci]
    clear hI hI2 hx hci ho
    cases hxc : (x == ci)
    all_goals
      go_enter Tryd.func67, Tryd.ntmps67
      go_wp2_with fail
      go_quiet ((go_at_call 51; exact Calls.quiet_of (hov _)))
      go_wp2
      go_ret
      exact ⟨rfl, _, rfl⟩
  · rw [ho] at hov
    have hI : isN s r c = false := by
      unfold ovr at ho
      unfold isN
      cases hb : r.bad
      · have hp : r.pos = s.size := by rw [hb] at ho; simpa using ho
        rw [List.getElem?_eq_none (by simp; omega)]
        rfl
      · rfl
    rw [hI]
    clear hI ho
    go_enter Tryd.func67, Tryd.ntmps67
    go_wp2_with fail
    go_quiet ((go_at_call 51; exact Calls.quiet_of (hov _)))
    go_wp2
    go_ret
    exact ⟨rfl, _, rfl⟩

theorem over_chg (p : Nat) (s : ByteArray) (r : RS) (w : World) (h : PR w p s r) (hs : s.size ≤ 1024) :
    Calls Tryd.prog 51 #[.pointer (some ⟨p, 0, none⟩)] w fun e w' => e = .returned (.bool (ovr s r)) ∧ Chg Non w w' :=
  (over_any p s r w h hs).mono fun e w' ⟨he, n, hn⟩ => ⟨he, hn ▸ drewN_non w n⟩
theorem is_chg (p : Nat) (s : ByteArray) (r : RS) (c : UInt8) (w : World) (h : PR w p s r) (hs : s.size ≤ 1024) :
    Calls Tryd.prog 67 #[.pointer (some ⟨p, 0, none⟩), .int .u8 c.toNat] w fun e w' => e = .returned (.bool (isN s r c)) ∧ Chg Non w w' :=
  (is_any p s r c w h hs).mono fun e w' ⟨he, n, hn⟩ => ⟨he, hn ▸ drewN_non w n⟩

theorem isN_true {s : ByteArray} {r : RS} {c : UInt8} (h : isN s r c = true) : r.bad = false ∧ s.data.toList[r.pos]? = some c ∧ tk s.data.toList c r = ⟨r.pos + 1, false⟩ ∧ r.pos + 1 ≤ s.size := by
  unfold isN at h
  simp only [Bool.and_eq_true, Bool.not_eq_true', beq_iff_eq] at h
  have hl := get_lt h.2
  have hl2 : s.data.toList.length = s.size := by simp
  refine ⟨h.1, h.2, ?_, by omega⟩
  unfold tk
  rw [if_neg (by rw [h.1]; simp), if_pos h.2]
theorem isN_false {s : ByteArray} {r : RS} {c : UInt8} (h : isN s r c = false) : tk s.data.toList c r = (if r.bad then r else ⟨r.pos, true⟩) ∧ (tk s.data.toList c r).bad = true := by
  unfold isN at h
  unfold tk
  cases hb : r.bad
  · rw [hb] at h
    have : ¬ s.data.toList[r.pos]? = some c := by intro e; rw [e] at h; simp at h
    rw [if_neg (by simp), if_neg this, if_neg (by simp)]
    exact ⟨rfl, rfl⟩
  · simp [hb]

theorem PR.eq {w : World} {p : Nat} {s : ByteArray} {r r' : RS} (h : PR w p s r) (e : r = r') : PR w p s r' := e ▸ h

set_option maxHeartbeats 1000000 in
theorem literal_any (p : Nat) (s : ByteArray) (r : RS) (cs : ByteArray) (w : World) (h : PR w p s r) (hs : s.size ≤ 1024) (hcs : cs.size ≤ 1024) :
    Calls Tryd.prog 48 #[.pointer (some ⟨p, 0, none⟩), .string cs] w fun e w' => e = .returned (.tuple #[]) ∧ PR w' p s (tks s.data.toList cs.data.toList r) ∧ Chg (One p) w w' := by
  have H : Hid (PR w p s r) := h
  clear h
  go_enter Tryd.func48, Tryd.ntmps48
  go_wp2_with fail
  go_loopw [4, 7] (fun _ i wr => ∃ (k : Nat) (r' : RS), i = .int .i64 k ∧ k ≤ cs.size ∧ PR wr p s r' ∧ Chg (One p) w wr ∧ tks s.data.toList (cs.data.toList.drop k) r' = tks s.data.toList cs.data.toList r) (fun _ i _ => cs.size - (intOf i).toNat)
  case atStart => exact ⟨0, r, rfl, by omega, H.out, Chg.refl _ _, by simp⟩
  case round =>
    obtain ⟨k, r', rfl, hk, hP, hC, hT⟩ := hrel
    have HP : Hid (PR wr p s r' ∧ Chg (One p) w wr ∧ tks s.data.toList (cs.data.toList.drop k) r' = tks s.data.toList cs.data.toList r) := ⟨hP, hC, hT⟩
    clear hP hC hT
    by_cases hlt : k < cs.size
    · have hat := get_ba hlt
      obtain ⟨c, hc⟩ : ∃ c, c = cs[k]'hlt := ⟨_, rfl⟩
      rw [← hc] at hat
      have HD : Hid (cs.data.toList.drop k = c :: cs.data.toList.drop (k + 1)) := drop_get hat
      have hix := run_at cs k hlt (c.toNat : Int) (by rw [hc])
      clear hat hc
      go_wp2_with fail
      refine (is_chg p s r' c _ HP.out.1 hs).mono ?_
      rintro e w1 ⟨rfl, hc1⟩
      have h1 := HP.out.1.non hc1
      have H1 : Hid (PR w1 p s r' ∧ Chg (One p) w w1) := ⟨h1, HP.out.2.1.trans hc1 (fun _ _ x => x.elim)⟩
      obtain ⟨c0, c1, c2, f1, f2⟩ := h1.cells
      clear hc1 h1
      cases hi : isN s r' c
      · have HF : Hid ((tk s.data.toList c r' = if r'.bad then r' else ⟨r'.pos, true⟩) ∧ tks s.data.toList cs.data.toList r = tk s.data.toList c r') := by
          have h2 := isN_false hi
          refine ⟨h2.1, ?_⟩
          rw [← HP.out.2.2, HD.out]
          exact tks_bad h2.2
        go_wp2_with fail
        refine (fail_any p s r' r'.pos _ H1.out.1 H1.out.1.le).mono ?_
        rintro e w2 ⟨rfl, h2, hc2⟩
        have H2 : Hid (PR w2 p s (tks s.data.toList cs.data.toList r) ∧ Chg (One p) w w2) := ⟨by rw [HF.out.2, HF.out.1]; exact h2, H1.out.2.trans hc2 (fun _ _ x => x)⟩
        clear h2 hc2
        go_wp2
        refine bodyPost_ret (results_none rfl _ _ _) rfl ?_
        exact ⟨rfl, H2.out⟩
      · have h2 := isN_true hi
        have hp1 : r'.pos + 1 ≤ s.size := h2.2.2.2
        have HF : Hid (r'.bad = false ∧ tks s.data.toList (cs.data.toList.drop (k + 1)) ⟨r'.pos + 1, false⟩ = tks s.data.toList cs.data.toList r) := by
          refine ⟨h2.1, ?_⟩
          rw [← HP.out.2.2, HD.out, ← h2.2.2.1]
          rfl
        clear h2
        go_wp2
        go_roundw
        case rel =>
          refine ⟨k + 1, ⟨r'.pos + 1, false⟩, by go_num, by omega, ?_, H1.out.2.trans (chg_to 1 _) (fun _ _ x => x), HF.out.2⟩
          have := H1.out.1.to (k := r'.pos + 1) hp1
          rw [HF.out.1] at this
          exact_mod_cast this
        case measure => simp [intOf]; omega
    · have HF : Hid (r' = tks s.data.toList cs.data.toList r) := by
        have h2 := HP.out.2.2
        rw [List.drop_eq_nil_of_le (by simp; omega)] at h2
        exact h2
      go_wp2
      go_end0
      exact ⟨rfl, HP.out.1.eq HF.out, HP.out.2.1⟩
end Go.Proofs.YtlhcadfcgibkdaaDoor
