/-
  Texts that are written.
-/
import Derived.Test.YtdhckndehijemaaWe
import Derived.Lib.ConvBytes
namespace Go.Proofs.Ytdhckndehijemaa
open Go.RowKit
set_option linter.unusedVariables false
set_option maxRecDepth 100000

theorem chg_conv (w : World) (s : ByteArray) : Chg Non w (Lib.bytesWorld w 5 s) :=
  ⟨rfl, rfl, rfl, by rw [Lib.bytesWorld_size]; omega, fun k hk _ => Lib.bytesWorld_at_old w 5 s k hk⟩
theorem nums_size (x : List Int) : (strOfNums x).size = x.length := by simp [strOfNums, ByteArray.size]
theorem nums_get {x : List Int} (hb : Byt x) {j : Nat} {u : Int} (h : x[j]? = some u) : (((strOfNums x).data.toList.getD j 0).toNat : Int) = u := by
  have hu := hb u (List.mem_of_getElem? h)
  have : (strOfNums x).data.toList[j]? = some (UInt8.ofNat u.toNat) := by simp [strOfNums, h]
  rw [List.getD_eq_getElem?_getD, this]
  simp
  omega
/-- The bytes of a text. -/
theorem conv_rd (w : World) (x : List Int) (hb : Byt x) (hl : x.length ≤ 140737488355328) : Rel .byt (Btw w.heap.size (w.heap.size + 1)) (Lib.bytesWorld w 5 (strOfNums x)) [.slice (some ⟨w.heap.size, 0, none⟩) (strOfNums x).size (grownCap w (strOfNums x).size 0 5)] x := by
  refine ⟨_, rfl, ⟨_, _, _, rfl, nums_size x, ?_, ?_, fun e => by (cases e), fun a e j u hj => ?_⟩, hb, fun k e _ => ?_⟩
  · exact grownCap_ge w _ 0 5
  · exact grownCap_le_maxLen w _ 0 5 (by rw [nums_size]; unfold maxLen; omega)
  · injection e with e
    subst e
    rw [Addr.add_lit]
    have hlt := (List.getElem?_eq_some_iff.1 hj).1
    have := Lib.bytesWorld_cell w 5 (strOfNums x) (0 + j) (by rw [nums_size]; omega)
    rw [this, Nat.zero_add, nums_get hb hj]
  · injection e with e
    subst e
    exact ⟨Nat.le_refl _, Nat.lt_succ_self _⟩

/-- The same, in one word. -/
structure WO {α : Type} (p : Pw α) (G : Nat) (r : Nat) (v : Value) (w w' : World) (no : Bool) (xs : List Int) (a : α) (e : Ending) : Prop where
  ret : e = .returned (.tuple #[])
  q : ∃ v' no' ys, WQ p G r v w w' v' no no' xs ys a
theorem calls_wo {P : Program} {f : Nat} {ar : Array Value} {α : Type} {p : Pw α} {G r : Nat} {v : Value} {w : World} {no : Bool} {xs : List Int} {a : α} (h : Calls P f ar w fun e w' => ∃ v' no' ys, e = .returned (.tuple #[]) ∧ WQ p G r v w w' v' no no' xs ys a) :
    Calls P f ar w fun e w' => WO p G r v w w' no xs a e := h.mono fun e w' ⟨v', no', ys, he, hq⟩ => ⟨he, v', no', ys, hq⟩

def wBytes (size least most : Nat) : Pw (List Int) := wList size least most (wNum 1)
def wHost : Pw (List Int) := wSeq (fun _ => (0 : Int)) (fun x => x) (wNum 1) (wBytes 2 1 16777216)
def wProt : Pw (List Int) := wBytes 1 1 16777216

theorem inK8 : InK .u8 0 := ⟨Int.le_refl _, by decide⟩
theorem inK8' : InK .u8 1 := ⟨by decide, by decide⟩

/-- New memory lies beside a writer. -/
theorem Rel.newFa {t : Ty} {r : Nat} {v : Value} {no : Bool} {xs : List Int} {w w' : World} {us : List Value} {a : t.Dat} (h : Rel t (Btw w.heap.size w'.heap.size) w' us a) (hm : WM w r v no xs) : Rel t (Fa r v w') w' us a :=
  h.keep (fun k q => ⟨by have := hm.lt; have := q.1; omega, fun e => by have := hm.own.lt k e; have := q.1; omega, q.2⟩) (fun _ _ _ => rfl)

set_option maxHeartbeats 1600000 in
theorem whost_any (r : Nat) (S : ByteArray) (x : List Int) (v : Value) (no : Bool) (xs : List Int) (w : World) (h : WM w r v no xs) (hS : Rel .str (Fa r v w) w [.string S] x) (hl : xs.length ≤ 998000000000) (hx : x.length ≤ 140737488355328) :
    Calls Try.prog 221 #[.pointer (some ⟨r, 0, none⟩), .string S] w fun e w' => ∃ v' no' ys, e = .returned (.tuple #[]) ∧ WQ wHost 16777302 r v w w' v' no no' xs ys x := by
  obtain ⟨hS1, hb⟩ := hS
  injection hS1 with hS1
  injection hS1 with hS1
  have ho := woctet_any r 0 v no xs w h inK8 (by omega)
  have HS : Hid (S = strOfNums x ∧ Byt x ∧ xs.length ≤ 998000000000 ∧ x.length ≤ 140737488355328) := ⟨hS1, hb, hl, hx⟩
  clear h hS1 hb hl hx
  go_enter Try.func221, Try.ntmps221
  go_wp2_with (go_at_call 194; refine (calls_wo ho).mono ?_)
  rintro e w1 ⟨rfl, v1, n1, ys, h1⟩
  have H1 : Hid (WQ (wNum 1) 1 r v w w1 v1 no n1 xs ys 0) := h1
  clear h1 ho
  go_wp2_with (go_at_call 185; refine (filled_any 2 w1).mono ?_)
  first | (rintro e w2 rfl hc2) | (rintro e w2 ⟨rfl, hc2⟩)
  have C2 : Hid (Chg Non w1 w2) := hc2
  have hcv := Lib.run_convert_string_bytes (P := Try.prog) w2 9 23 5 S Try.underlying9 Try.underlying23 Try.underlying5
  obtain ⟨w3, hw3⟩ : ∃ w3, w3 = Lib.bytesWorld w2 5 S := ⟨_, rfl⟩
  have hm2 := H1.out.wp.wm.non hc2
  have c3 : Chg Non w2 w3 := by rw [hw3]; exact chg_conv _ _
  have hr3 : Rel .byt (Fa r v1 w3) w3 [.slice (some ⟨w2.heap.size, 0, none⟩) S.size (grownCap w2 S.size 0 5)] x := by
    have := conv_rd w2 x HS.out.2.1 HS.out.2.2.2
    rw [← HS.out.1, ← hw3] at this
    exact (this.btw (Nat.le_refl _) (by rw [hw3, Lib.bytesWorld_size]; exact Nat.le_refl _)).newFa hm2
  have hp := putB_any r 2 1 16777216 2 1 16777216 rfl rfl rfl (by decide) (by decide) _ x v1 n1 (xs ++ ys) w3 (hm2.non c3) hr3.ofByt (by rw [List.length_append]; have := H1.out.len; have := HS.out.2.2.1; omega)
  have C3 : Hid (Chg Non w2 w3) := c3
  obtain ⟨cap, hcap⟩ : ∃ cap, cap = grownCap w2 S.size 0 5 := ⟨_, rfl⟩
  rw [← hw3] at hcv
  rw [← hcap] at hcv hp
  clear hc2 hw3 hm2 c3 hr3 hcap
  go_wp2_with (go_at_call 193; refine (calls_wo hp).mono ?_)
  rintro e w4 ⟨rfl, v4, n4, zs, h4⟩
  have H4 : Hid (WQ (wBytes 2 1 16777216) (16777300 + 1) r v1 w3 w4 v4 n1 n4 (xs ++ ys) zs x) := h4
  clear h4 hp hcv
  go_wp2
  go_end0
  have h5 := WQ.seq (γ := List Int) (f := fun _ => (0 : Int)) (g := fun x => x) (x := x) H1.out ((H4.out.ahead C3.out).ahead C2.out)
  exact ⟨v4, n4, _, rfl, h5.weak (by decide)⟩

set_option maxHeartbeats 1600000 in
theorem wprot_any (r : Nat) (S : ByteArray) (x : List Int) (v : Value) (no : Bool) (xs : List Int) (w : World) (h : WM w r v no xs) (hS : Rel .str (Fa r v w) w [.string S] x) (hl : xs.length ≤ 998000000000) (hx : x.length ≤ 140737488355328) :
    Calls Try.prog 222 #[.pointer (some ⟨r, 0, none⟩), .string S] w fun e w' => ∃ v' no' ys, e = .returned (.tuple #[]) ∧ WQ wProt 16777301 r v w w' v' no no' xs ys x := by
  obtain ⟨hS1, hb⟩ := hS
  injection hS1 with hS1
  injection hS1 with hS1
  have HS : Hid (S = strOfNums x ∧ Byt x ∧ xs.length ≤ 998000000000 ∧ x.length ≤ 140737488355328) := ⟨hS1, hb, hl, hx⟩
  have HM : Hid (WM w r v no xs) := h
  clear h hS1 hb hl hx
  go_enter Try.func222, Try.ntmps222
  go_wp2_with (go_at_call 185; refine (filled_any 1 w).mono ?_)
  first | (rintro e w2 rfl hc2) | (rintro e w2 ⟨rfl, hc2⟩)
  have C2 : Hid (Chg Non w w2) := hc2
  have hcv := Lib.run_convert_string_bytes (P := Try.prog) w2 9 23 5 S Try.underlying9 Try.underlying23 Try.underlying5
  obtain ⟨w3, hw3⟩ : ∃ w3, w3 = Lib.bytesWorld w2 5 S := ⟨_, rfl⟩
  have hm2 := HM.out.non hc2
  have c3 : Chg Non w2 w3 := by rw [hw3]; exact chg_conv _ _
  have hr3 : Rel .byt (Fa r v w3) w3 [.slice (some ⟨w2.heap.size, 0, none⟩) S.size (grownCap w2 S.size 0 5)] x := by
    have := conv_rd w2 x HS.out.2.1 HS.out.2.2.2
    rw [← HS.out.1, ← hw3] at this
    exact (this.btw (Nat.le_refl _) (by rw [hw3, Lib.bytesWorld_size]; exact Nat.le_refl _)).newFa hm2
  have hp := putB_any r 1 1 16777216 1 1 16777216 rfl rfl rfl (by decide) (by decide) _ x v no xs w3 (hm2.non c3) hr3.ofByt (by have := HS.out.2.2.1; omega)
  have C3 : Hid (Chg Non w2 w3) := c3
  obtain ⟨cap, hcap⟩ : ∃ cap, cap = grownCap w2 S.size 0 5 := ⟨_, rfl⟩
  rw [← hw3] at hcv
  rw [← hcap] at hcv hp
  clear hc2 hw3 hm2 c3 hr3 hcap
  go_wp2_with (go_at_call 193; refine (calls_wo hp).mono ?_)
  rintro e w4 ⟨rfl, v4, n4, zs, h4⟩
  have H4 : Hid (WQ wProt (16777300 + 1) r v w3 w4 v4 no n4 xs zs x) := h4
  clear h4 hp hcv
  go_wp2
  go_end0
  exact ⟨v4, n4, _, rfl, ((H4.out.ahead C3.out).ahead C2.out)⟩
end Go.Proofs.Ytdhckndehijemaa
