/-
  The document's reader: take, number, word.
-/
import Derived.Test.YtlhcadfcgibkdaaDoorPsC
namespace Go.Proofs.YtlhcadfcgibkdaaDoor
open Go.RowKit
set_option linter.unusedVariables false
set_option maxRecDepth 100000

/-- A reader in block p: its text, where it stands, whether something is wrong. -/
structure QR (w : World) (p : Nat) (s : ByteArray) (r : RS) : Prop where
  blk : w.heap[p]? = some (.cells #[.string s, .int .i64 r.pos, .bool r.bad] 77 (0, 0))
  le : r.pos ≤ s.size

theorem QR.lt {w : World} {p : Nat} {s : ByteArray} {r : RS} (h : QR w p s r) : p < w.heap.size := (Array.getElem?_eq_some_iff.1 h.blk).1
theorem QR.keep {w w' : World} {p : Nat} {s : ByteArray} {r : RS} (h : QR w p s r) {S : Nat → Prop} (hc : Chg S w w') (hS : ¬ S p) : QR w' p s r := ⟨by rw [hc.block p h.lt hS]; exact h.blk, h.le⟩
theorem QR.non {w w' : World} {p : Nat} {s : ByteArray} {r : RS} (h : QR w p s r) (hc : Chg Non w w') : QR w' p s r := h.keep hc (fun x => x)
theorem QR.drewN {w : World} {p : Nat} {s : ByteArray} {r : RS} (h : QR w p s r) (n : Nat) : QR (w.drewN n) p s r := ⟨h.blk, h.le⟩
theorem QR.cells {w : World} {p : Nat} {s : ByteArray} {r : RS} (h : QR w p s r) : w.cell? ⟨p, 0, none⟩ = some (.string s) ∧ w.cell? ⟨p, 1, none⟩ = some (.int .i64 r.pos) ∧ w.cell? ⟨p, 2, none⟩ = some (.bool r.bad) ∧ w.frozen? ⟨p, 1, none⟩ = false ∧ w.frozen? ⟨p, 2, none⟩ = false := by
  refine ⟨?_, ?_, ?_, Lib.frozen_of_heap h.blk 1, Lib.frozen_of_heap h.blk 2⟩ <;> rw [Lib.cell_of_heap h.blk] <;> rfl

/-- The place is set. -/
theorem QR.to {w : World} {p : Nat} {s : ByteArray} {r : RS} (h : QR w p s r) {k : Nat} (hk : k ≤ s.size) : QR (w.setCell ⟨p, 1, none⟩ (.int .i64 k)) p s ⟨k, r.bad⟩ :=
  ⟨by simp [World.setCell, Array.getElem?_modify, h.blk], hk⟩
theorem QR.fail {w : World} {p : Nat} {s : ByteArray} {r : RS} (h : QR w p s r) {k : Nat} (hk : k ≤ s.size) : QR ((w.setCell ⟨p, 2, none⟩ (.bool true)).setCell ⟨p, 1, none⟩ (.int .i64 k)) p s ⟨k, true⟩ :=
  ⟨by simp [World.setCell, Array.getElem?_modify, h.blk], hk⟩

theorem QR.eq {w : World} {p : Nat} {s : ByteArray} {r r' : RS} (h : QR w p s r) (e : r = r') : QR w p s r' := e ▸ h
theorem QR.wrong {w : World} {p : Nat} {s : ByteArray} {r : RS} (h : QR w p s r) : QR (w.setCell ⟨p, 2, none⟩ (.bool true)) p s ⟨r.pos, true⟩ :=
  ⟨by simp [World.setCell, Array.getElem?_modify, h.blk], h.le⟩
theorem QR.inc {w : World} {p : Nat} {s : ByteArray} {q n : Nat} (h : QR w p s ⟨q, false⟩) (hq : q + 1 ≤ s.size) : QR ((w.drewN n).setCell ⟨p, 1, none⟩ (.int .i64 ((q : Int) + 1))) p s ⟨q + 1, false⟩ := by
  have := (h.drewN n).to (k := q + 1) hq
  exact_mod_cast this
theorem QR.inc0 {w : World} {p : Nat} {s : ByteArray} {q : Nat} (h : QR w p s ⟨q, false⟩) (hq : q + 1 ≤ s.size) : QR (w.setCell ⟨p, 1, none⟩ (.int .i64 ((q : Int) + 1))) p s ⟨q + 1, false⟩ := by
  have := h.to (k := q + 1) hq
  exact_mod_cast this
theorem chg_wrong {w wr : World} {p n : Nat} {v : Value} (h : Chg (One p) w wr) : Chg (One p) w ((wr.drewN n).setCell ⟨p, 2, none⟩ v) := (h.trans (drewN_non _ n) (fun _ _ x => x.elim)).trans (chg_to 2 _) (fun _ _ x => x)

set_option maxHeartbeats 1000000 in
theorem take_rd (p : Nat) (s : ByteArray) (r : RS) (c : UInt8) (w : World) (h : QR w p s r) (hs : s.size ≤ 1024) :
    Calls Tryd.prog 32 #[.pointer (some ⟨p, 0, none⟩), .int .u8 c.toNat] w fun e w' => e = .returned (.tuple #[]) ∧ QR w' p s (tk s.data.toList c r) ∧ Chg (One p) w w' := by
  obtain ⟨c0, c1, c2, f1, f2⟩ := h.cells
  have hle := h.le
  have H : Hid (QR w p s r) := h
  clear h
  obtain ⟨pos, bad⟩ := r
  simp only at c1 c2 hle
  cases bad
  · obtain ⟨ci, hci⟩ : ∃ ci : Int, ci = (c.toNat : Int) := ⟨_, rfl⟩
    by_cases hp : pos < s.size
    · obtain ⟨x, hx⟩ : ∃ x : Int, x = ((s[pos]'hp).toNat : Int) := ⟨_, rfl⟩
      have hix := run_at s pos hp x hx
      by_cases hxc : s[pos]'hp = c
      · have ne : (x != ci) = false := by rw [hx, hci, hxc]; simp
        have HR : Hid (tk s.data.toList c ⟨pos, false⟩ = ⟨pos + 1, false⟩) := by
          show _ = _
          unfold tk
          rw [if_neg (by simp), if_pos (by simp only; rw [get_ba hp, hxc])]
        have hge : ¬ ((s.size : Int) ≤ (pos : Int)) := by omega
        rw [HR.out, ← hci]
        clear hci hx hxc
        go_enter Tryd.func32, Tryd.ntmps32
        go_wp2_with fail
        go_quiet (fail)
        go_wp2_with fail
        go_end0
        exact ⟨rfl, H.out.inc (by omega), chg_inc (Chg.refl _ _)⟩
      · have ne : (x != ci) = true := by
          rw [hx, hci, bne_iff_ne]
          intro e
          exact hxc (UInt8.toNat_inj.1 (by omega))
        have HR : Hid (tk s.data.toList c ⟨pos, false⟩ = ⟨pos, true⟩) := by
          show _ = _
          unfold tk
          rw [if_neg (by simp), if_neg (by simp only; rw [get_ba hp]; simpa using hxc)]
        have hge : ¬ ((s.size : Int) ≤ (pos : Int)) := by omega
        rw [HR.out, ← hci]
        clear hci hx hxc
        go_enter Tryd.func32, Tryd.ntmps32
        go_wp2_with fail
        go_quiet (fail)
        go_wp2_with fail
        refine bodyPost_ret (results_none rfl _ _ _) rfl ?_
        exact ⟨rfl, (H.out.drewN _).wrong, chg_wrong (Chg.refl _ _)⟩
    · have HR : Hid (tk s.data.toList c ⟨pos, false⟩ = ⟨pos, true⟩) := by
        show _ = _
        unfold tk
        rw [if_neg (by simp), if_neg (by simp only; rw [List.getElem?_eq_none (by simp; omega)]; simp)]
      have hge : ((s.size : Int) ≤ (pos : Int)) := by omega
      rw [HR.out, ← hci]
      clear hci
      go_enter Tryd.func32, Tryd.ntmps32
      go_wp2_with fail
      go_quiet (fail)
      go_wp2_with fail
      refine bodyPost_ret (results_none rfl _ _ _) rfl ?_
      exact ⟨rfl, (H.out.drewN _).wrong, chg_wrong (Chg.refl _ _)⟩
  · rw [tk_bad rfl]
    go_enter Tryd.func32, Tryd.ntmps32
    go_wp2_with fail
    refine bodyPost_ret (results_none rfl _ _ _) rfl ?_
    exact ⟨rfl, H.out, Chg.refl _ _⟩
end Go.Proofs.YtlhcadfcgibkdaaDoor
