/-
  The program's store: its calls Settle and Remove.
-/
import Derived.Test.YtpabijfamnghjaaStore2
namespace Go.Proofs.Ytpabijfamnghjaa
open Go.RowKit
set_option linter.unusedVariables false

def settleC (nm : List UInt8) (L : List Ent) : Int := match findL nm L with | some e => if e.torn = true then 0 else 25 | none => 22
def newV (nm : List UInt8) (L : List Ent) : Value := match findL nm L with | some e => e.vf | none => .slice none 0 0
def newX (nm : List UInt8) (L : List Ent) : List Int := match findL nm L with | some e => e.xf | none => []
def removeC (nm : List UInt8) (L : List Ent) : Int := match findL nm L with | some _ => 0 | none => 22

/-- What Settle leaves. -/
structure SettlePost (w w' : World) (p b : Nat) (nm : List UInt8) (L : List Ent) : Prop where
  no : settleC nm L ≠ 0 → St w' p b L
  yes : settleC nm L = 0 → St w' p b (putL (fresh nm (newV nm L) (newX nm L)) L)
  chg : Chg (One b) w w'

structure RemovePost (w w' : World) (p b : Nat) (nm : List UInt8) (L : List Ent) : Prop where
  st : St w' p b (delL nm L)
  chg : Chg (One b) w w'

set_option maxHeartbeats 1000000 in
theorem settle_any (p b : Nat) (L : List Ent) (s : ByteArray) (w : World) (h : St w p b L) (hs : s.size ≤ maxLen) :
    Calls Try.prog 17 #[.pointer (some ⟨p, 0, none⟩), .string s] w fun r w' => r = .returned (.int .i64 (settleC s.data.toList L)) ∧ SettlePost w w' p b s.data.toList L := by
  have c0 := h.cell
  have hlo := h.map.look_ok s hs
  cases hf : findL s.data.toList L with
  | none =>
    rw [valL_none hf, hf] at hlo
    unfold zeroFile at hlo
    have HF : Hid (findL s.data.toList L = none) := hf
    have HW : Hid (St w p b L) := h
    clear hf h
    go_enter Try.func17, Try.ntmps17
    go_wp2
    go_ret
    have e1 : settleC s.data.toList L = 22 := by unfold settleC; rw [HF.out]
    exact ⟨ret_int e1.symm, fun _ => HW.out.non ((Chg.refl _ _).alloc _), fun e => by omega, ((Chg.refl _ _).alloc _)⟩
  | some e =>
    have ho := h.ent e (find_name hf).2
    rw [valL_some hf, hf] at hlo
    have e2 : newV s.data.toList L = e.vf := by unfold newV; rw [hf]
    have e3 : newX s.data.toList L = e.xf := by unfold newX; rw [hf]
    have e4 : settleC s.data.toList L = if e.torn = true then 0 else 25 := by unfold settleC; rw [hf]
    have e5 : (findL s.data.toList L).isSome = true := by rw [hf]; rfl
    obtain ⟨nm, vo, xo, t, vf, xf, n⟩ := e
    obtain ⟨ao, an, ac, rfl, -⟩ := ho.old.shape
    obtain ⟨fo, fn, fc, rfl, -⟩ := ho.new.shape
    unfold Ent.val at hlo
    simp only [Option.isSome_some] at hlo e2 e3 e4
    have HE : Hid (EntOk w ⟨nm, .slice ao an ac, xo, t, .slice fo fn fc, xf, n⟩ ∧ newV s.data.toList L = .slice fo fn fc ∧ newX s.data.toList L = xf ∧ (settleC s.data.toList L = if t = true then 0 else 25) ∧ (findL s.data.toList L).isSome = true ∧ St w p b L) := ⟨ho, e2, e3, e4, e5, h⟩
    clear hf h ho e2 e3 e4 e5
    cases t
    · go_enter Try.func17, Try.ntmps17
      go_wp2
      go_ret
      have e1 : settleC s.data.toList L = 25 := by have := HE.out.2.2.2.1; simpa using this
      exact ⟨ret_int e1.symm, fun _ => HE.out.2.2.2.2.2.non ((Chg.refl _ _).alloc _), fun e => by omega, ((Chg.refl _ _).alloc _)⟩
    · go_enter Try.func17, Try.ntmps17
      go_wp2_with fail
      obtain ⟨wa, hwa⟩ : ∃ wa, wa = w.alloc (.cells #[.slice ao an ac, .bool true, .slice fo fn fc, .int .i64 n] 55) := ⟨_, rfl⟩
      rw [← hwa]
      obtain ⟨q, hq⟩ : ∃ q, q = w.heap.size := ⟨_, rfl⟩
      rw [← hq]
      have hqb : wa.heap[q]? = some (.cells #[.slice ao an ac, .bool true, .slice fo fn fc, .int .i64 n] 55) := by rw [hwa, hq]; exact heap_alloc_new w _
      have hca : Chg Non w wa := by rw [hwa]; exact (Chg.refl _ _).alloc _
      have hsa := HE.out.2.2.2.2.2.non hca
      have ca : wa.cell? ⟨p, 0, none⟩ = some (.map (some b)) := hsa.cell
      have cq : wa.cell? ⟨q, 2, none⟩ = some (.slice fo fn fc) := by rw [cell_of_row wa q 2 _ 55 _ hqb]; rfl
      obtain ⟨w3, hrun3, hm3, hc3⟩ := hsa.drew.store0 s hs fo fn fc xf
      have HW2 : Hid (St wa.drew p b L ∧ Chg Non w wa ∧ MapAt w3 b (putL (fresh s.data.toList (.slice fo fn fc) xf) L) ∧ Chg (One b) wa.drew w3 ∧ EntOk wa.drew ⟨nm, .slice ao an ac, xo, true, .slice fo fn fc, xf, n⟩) := ⟨hsa.drew, hca, hm3, hc3, (HE.out.1.non hca).keep (fun _ _ => rfl)⟩
      clear hwa hq hqb hca hsa hm3 hc3 c0 hlo
      go_region
      all_goals
        clear hrun3 ca cq
        go_wp2
        go_ret
        obtain ⟨p1, p2, p3, p4, p5⟩ := HW2.out
        obtain ⟨-, s2, s3, s4, s5, -⟩ := HE.out
        have e1 : settleC s.data.toList L = 0 := by simpa using s4
        have hfin : St w3 p b (putL (fresh s.data.toList (.slice fo fn fc) xf) L) := p1.put (fresh_ok p5.new p5.lf) p3 p4 (.inl s5)
        exact ⟨ret_int e1.symm, fun e => absurd e1 e, fun _ => by rw [s2, s3]; exact hfin, ((p2.non _).drew).trans p4 (fun _ _ x => x)⟩

set_option maxHeartbeats 1000000 in
theorem remove_any (p b : Nat) (L : List Ent) (s : ByteArray) (w : World) (h : St w p b L) (hs : s.size ≤ maxLen) :
    Calls Try.prog 21 #[.pointer (some ⟨p, 0, none⟩), .string s] w fun r w' => r = .returned (.int .i64 (removeC s.data.toList L)) ∧ RemovePost w w' p b s.data.toList L := by
  have c0 := h.cell
  have hlo := h.map.look_ok s hs
  cases hf : findL s.data.toList L with
  | none =>
    rw [valL_none hf, hf] at hlo
    unfold zeroFile at hlo
    have HF : Hid (findL s.data.toList L = none) := hf
    have HW : Hid (St w p b L) := h
    clear hf h
    go_enter Try.func21, Try.ntmps21
    go_wp2
    go_ret
    have e1 : removeC s.data.toList L = 22 := by unfold removeC; rw [HF.out]
    have e2 : delL s.data.toList L = L := by
      unfold delL
      rw [List.filter_eq_self]
      intro x hx
      have := List.find?_eq_none.1 HF.out x hx
      simpa using this
    exact ⟨ret_int e1.symm, by rw [e2]; exact HW.out.non ((Chg.refl _ _).alloc _), ((Chg.refl _ _).alloc _)⟩
  | some e =>
    have ho := h.ent e (find_name hf).2
    rw [valL_some hf, hf] at hlo
    have e4 : removeC s.data.toList L = 0 := by unfold removeC; rw [hf]
    obtain ⟨nm, vo, xo, t, vf, xf, n⟩ := e
    obtain ⟨ao, an, ac, rfl, -⟩ := ho.old.shape
    obtain ⟨fo, fn, fc, rfl, -⟩ := ho.new.shape
    unfold Ent.val at hlo
    simp only [Option.isSome_some] at hlo
    have hsa : St (w.alloc (.cells #[.slice ao an ac, .bool t, .slice fo fn fc, .int .i64 n] 55)) p b L := h.non ((Chg.refl _ _).alloc _)
    have ca := hsa.cell
    have hdel : ∀ ty, ∃ w', (Builtin.delete_ #[50, 9] ty #[.map (some b), .string s]).run Try.prog (w.alloc (.cells #[.slice ao an ac, .bool t, .slice fo fn fc, .int .i64 n] 55)) = .ok (.tuple #[]) w' ∧ MapAt w' b (delL s.data.toList L) ∧ Chg (One b) (w.alloc (.cells #[.slice ao an ac, .bool t, .slice fo fn fc, .int .i64 n] 55)) w' := fun ty => hsa.map.drop s hs ty
    obtain ⟨w3, hrun3, hm3, hc3⟩ := hdel 0
    have HW : Hid (St (w.alloc (.cells #[.slice ao an ac, .bool t, .slice fo fn fc, .int .i64 n] 55)) p b L ∧ MapAt w3 b (delL s.data.toList L) ∧ Chg (One b) (w.alloc (.cells #[.slice ao an ac, .bool t, .slice fo fn fc, .int .i64 n] 55)) w3 ∧ removeC s.data.toList L = 0) := ⟨hsa, hm3, hc3, e4⟩
    clear hf h ho hsa hdel hm3 hc3 e4
    go_enter Try.func21, Try.ntmps21
    go_wp2
    go_ret
    obtain ⟨p1, p2, p3, p4⟩ := HW.out
    exact ⟨ret_int p4.symm, p1.del p2 p3, ((Chg.refl _ _).alloc _).trans p3 (fun _ _ x => x)⟩
end Go.Proofs.Ytpabijfamnghjaa
