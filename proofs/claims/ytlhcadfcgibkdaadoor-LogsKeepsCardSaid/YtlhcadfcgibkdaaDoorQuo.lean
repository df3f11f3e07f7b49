/-
  The document's text between quotes.
-/
import Derived.Test.YtlhcadfcgibkdaaDoorEnc
namespace Go.Proofs.YtlhcadfcgibkdaaDoor
open Go.RowKit
set_option linter.unusedVariables false
set_option maxRecDepth 100000

def toI (l : List UInt8) : List Int := l.map (fun b => (b.toNat : Int))
theorem toI_append (a b : List UInt8) : toI (a ++ b) = toI a ++ toI b := by simp [toI]
theorem toI_length (a : List UInt8) : (toI a).length = a.length := by simp [toI]
theorem toI_str (l : List UInt8) : strOfNums (toI l) = ⟨l.toArray⟩ := by
  unfold strOfNums toI
  congr 1
  simp only [List.map_map]
  congr 1
  conv => rhs; rw [← List.map_id l]
  apply List.map_congr_left
  intro a _
  simp

theorem OwnV.drew {w : World} {v : Value} {xs : List Int} (h : OwnV w v xs) : OwnV w.drew v xs := h.keep (fun _ _ => rfl)

theorem step_app {ops : Array Oper} {o : Oper} {a : Act} {w : World} {K : Act → World → Prop} {Q : Exit → Act → World → Prop} {E : Prop}
    (hg : o.guard = none) (s x : Operand) (hop : o.op = Op.call { callee := Callee.builtin Builtin.append, args := #[s, x], argTypes := #[59, 59] })
    (v sv : Value) (xs ys : List Int) (hs : a.eval s = v) (hx : a.eval x = sv) (hv : OwnV w v xs) (hr : Rd w sv ys) (hb : xs.length + ys.length ≤ 140737488355328)
    (hK : ∀ v' w', OwnV w' v' (xs ++ ys) → Chg (fun k => v.ownBlock = some k) w w' → (v'.ownBlock = v.ownBlock ∨ v'.ownBlock = some w.heap.size) → K (a.put o.dst v') w') :
    if Region.wanted o (yielded ops a.tmps) = true then Oper.wp Tryd.prog o a w K Q else E := by
  have hw : Region.wanted o (yielded ops a.tmps) = true := by simp [Region.wanted, hg]
  rw [if_pos hw]
  obtain ⟨v', w', hrun, r1, r2, r3⟩ := run_app o.type w v sv xs ys hv hr hb
  unfold Oper.wp
  simp [execOp, hop, resolve, invoke, builtin, hs, hx, hrun, Result.andThen]
  exact hK v' w' r1 r2 r3

theorem Rd.two (w : World) (a b : Int) : Rd (w.alloc (.cells #[.int .u8 a, .int .u8 b] 5)) (.slice (some ⟨w.heap.size, 0, none⟩) 2 2) [a, b] := by
  refine ⟨_, _, _, rfl, rfl, Nat.le_refl _, by decide, fun e => by (cases e), fun x e j u hj => ?_⟩
  cases e
  match j, hj with
  | 0, hj => simp at hj; subst hj; simp [Addr.add]
  | 1, hj => simp at hj; subst hj; simp [Addr.add]

theorem Rd.four (w : World) (a b c d : Int) : Rd (w.alloc (.cells #[.int .u8 a, .int .u8 b, .int .u8 c, .int .u8 d] 5)) (.slice (some ⟨w.heap.size, 0, none⟩) 4 4) [a, b, c, d] := by
  refine ⟨_, _, _, rfl, rfl, Nat.le_refl _, by decide, fun e => by (cases e), fun x e j u hj => ?_⟩
  cases e
  match j, hj with
  | 0, hj => simp at hj; subst hj; simp [Addr.add]
  | 1, hj => simp at hj; subst hj; simp [Addr.add]
  | 2, hj => simp at hj; subst hj; simp [Addr.add]
  | 3, hj => simp at hj; subst hj; simp [Addr.add]

theorem OwnV.one (w : World) (a : Int) : OwnV (w.alloc (.cells #[.int .u8 a] 5)) (.slice (some ⟨w.heap.size, 0, none⟩) 1 1) [a] := by
  refine .inr ⟨_, _, _, _, rfl, rfl, Nat.le_refl _, by decide, _, heap_alloc_new w _, by simp, by simp⟩

theorem OwnV.boxed {w : World} {v : Value} {xs : List Int} (h : OwnV w v xs) (o : Obj) : OwnV (w.alloc o) v xs := h.keep (fun k e => Below.heap_alloc _ _ _ (h.lt k e))

/-- A list of bytes of our own, nothing else changed. -/
structure Mine (w w' : World) (v : Value) (xs : List Int) : Prop where
  own : OwnV w' v xs
  chg : Chg Non w w'
  new : ∀ k, v.ownBlock = some k → w.heap.size ≤ k

theorem Mine.app {w w1 w2 : World} {v v2 : Value} {xs ys : List Int} (h : Mine w w1 v xs) (ho : OwnV w2 v2 ys) (hc : Chg (fun k => v.ownBlock = some k) w1 w2) (hk : v2.ownBlock = v.ownBlock ∨ ∃ n, v2.ownBlock = some n ∧ w1.heap.size ≤ n) : Mine w w2 v2 ys := by
  refine ⟨ho, h.chg.trans hc (fun i hi e => ?_), fun k e => ?_⟩
  · have := h.new i e
    show False
    omega
  · rcases hk with x | ⟨n, x, hn⟩
    · exact h.new k (x ▸ e)
    · rw [x] at e
      cases e
      have := h.chg.size
      omega

theorem shape_of {w : World} {v : Value} {xs : List Int} (h : OwnV w v xs) : ∃ ao n c, v = .slice ao n c := by
  rcases h with ⟨rfl, _⟩ | ⟨g, off, n, cap, rfl, _⟩
  · exact ⟨_, _, _, rfl⟩
  · exact ⟨_, _, _, rfl⟩

set_option maxHeartbeats 1000000 in
theorem quoted_any (s : ByteArray) (w : World) (hs : s.size ≤ 1024) :
    Calls Tryd.prog 30 #[.string s] w fun e w' => e = .returned (.string ⟨([34] ++ s.data.toList.flatMap lett ++ [34]).toArray⟩) ∧ Chg Non w w' := by
  go_enter Tryd.func30, Tryd.ntmps30
  go_wp2_with fail
  have HM0 : Hid (Mine w (w.alloc (.cells #[.int .u8 34] 5)) (.slice (some ⟨w.heap.size, 0, none⟩) 1 1) (toI ([34] ++ (s.data.toList.take 0).flatMap lett))) := ⟨OwnV.one w 34, (Chg.refl _ _).alloc _, fun k e => by simp [Value.ownBlock] at e; omega⟩
  go_loopw [3, 4, 5] (fun v i _ wr => ∃ k : Nat, ∃ ao n c, v = .slice ao n c ∧ i = .int .i64 k ∧ k ≤ s.size ∧ Mine w wr v (toI ([34] ++ (s.data.toList.take k).flatMap lett))) (fun _ i _ _ => s.size - (intOf i).toNat)
  case atStart => exact ⟨0, _, _, _, rfl, rfl, by omega, HM0.out⟩
  case round =>
    obtain ⟨k, ao, n, c, rfl, rfl, hk, hM⟩ := hrel
    have HM : Hid (Mine w wr (.slice ao n c) (toI ([34] ++ (s.data.toList.take k).flatMap lett))) := hM
    clear hM HM0
    have hl : (toI ([34] ++ (s.data.toList.take k).flatMap lett)).length ≤ 4100 := by
      have := letts_len (s.data.toList.take k)
      have h3 : s.data.toList.length = s.size := by simp
      rw [toI_length]
      simp at this ⊢
      omega
    by_cases hp : k < s.size
    · obtain ⟨u, hu⟩ : ∃ u, u = s[k]'hp := ⟨_, rfl⟩
      obtain ⟨ci, hci⟩ : ∃ c : Int, c = ((s[k]'hp).toNat : Int) := ⟨_, rfl⟩
      have hix := run_at s k hp ci hci
      have hcu : ci = (u.toNat : Int) := by rw [hci, hu]
      have hu256 := u.toNat_lt
      have HS : Hid (toI ([34] ++ (s.data.toList.take (k + 1)).flatMap lett) = toI ([34] ++ (s.data.toList.take k).flatMap lett) ++ toI (lett u)) := by
        show _ = _
        rw [flat_snoc hp, hu, ← List.append_assoc, toI_append]
      have HU : Hid (ci = (u.toNat : Int)) := hcu
      clear hci hu
      cases hpl : plainR ci
      · by_cases hq : ci = 34 ∨ ci = 92
        · have HE : Hid (toI (lett u) = [92, ci]) := by
            show _ = _
            have e1 : plainB u.toNat = true := by unfold plainB; simp; omega
            have e2 : u = 34 ∨ u = 92 := by
              rcases hq with x | x
              · left; apply UInt8.toNat_inj.1; simp; omega
              · right; apply UInt8.toNat_inj.1; simp; omega
            unfold lett
            rw [if_neg (by rw [e1]; simp), if_pos e2]
            simp [toI, hcu]
          clear hcu hu256
          rcases hq with rfl | rfl
          all_goals
            go_wp2_with fail
            refine (plain_any _ _).mono ?_
            rintro e wr ⟨rfl, rfl⟩
            rw [hpl]
            go_wp2_with (at_builtin; refine wpList_app _ rfl _ _ rfl _ _ (toI ([34] ++ (s.data.toList.take k).flatMap lett)) _ rfl rfl (HM.out.own.boxed _) (Rd.two wr 92 _) ?c1 ?_)
            case c1 => simp only [List.length_cons, List.length_nil]; omega
            intro v2 w2 ho2 hc2 hk2
            have H2 : Hid (Mine w w2 v2 (toI ([34] ++ (s.data.toList.take (k + 1)).flatMap lett))) := by
              show Mine _ _ _ _
              rw [HS.out, HE.out]
              exact HM.out.app ho2 (((Chg.refl _ wr).alloc _).trans hc2 (fun _ _ x => x)) (hk2.imp id (fun x => ⟨_, x, by simp⟩))
            obtain ⟨ao2, n2, c2, rfl⟩ := shape_of ho2
            clear ho2 hc2 hk2
            go_wp2
            go_roundw
            case rel => exact ⟨k + 1, _, _, _, rfl, by go_num, by omega, H2.out⟩
            case measure => simp [intOf]; omega
        · have q1 : (ci == 34) = false := by simp; omega
          have q2 : (ci == 92) = false := by simp; omega
          obtain ⟨dh, hdh⟩ : ∃ dh, dh = hexAt (u.toNat / 16) := ⟨_, rfl⟩
          obtain ⟨dl, hdl⟩ : ∃ dl, dl = hexAt (u.toNat % 16) := ⟨_, rfl⟩
          obtain ⟨lo, hlo⟩ : ∃ lo : Int, lo = ((u.toNat % 16 : Nat) : Int) := ⟨_, rfl⟩
          have HE : Hid (toI (lett u) = [92, 120, (dh.toNat : Int), (dl.toNat : Int)]) := by
            show _ = _
            have e1 : plainB u.toNat = false := by unfold plainR at hpl; unfold plainB; simp at hpl ⊢; omega
            unfold lett
            rw [if_pos e1, hdh, hdl]
            simp [toI]
          have hx1 : ∀ W : World, (Instr.index 9 (.string ⟨#[48, 49, 50, 51, 52, 53, 54, 55, 56, 57, 97, 98, 99, 100, 101, 102]⟩) (.int .u8 (ci / 16))).run Tryd.prog W = .ok (.int .u8 dh.toNat) W := by
            intro W
            have e : ci / 16 = ((u.toNat / 16 : Nat) : Int) := by omega
            rw [e, hdh]
            exact run_hex _ (by omega) W
          have hand : bits .and .u8 ci 15 = lo := by
            rw [hcu, hlo, ← nat_mask4]
            exact u8_and_nat _ 15 (by omega) (by omega)
          have hx2 : ∀ W : World, (Instr.index 9 (.string ⟨#[48, 49, 50, 51, 52, 53, 54, 55, 56, 57, 97, 98, 99, 100, 101, 102]⟩) (.int .u8 lo)).run Tryd.prog W = .ok (.int .u8 dl.toNat) W := by
            intro W
            rw [hlo, hdl]
            exact run_hex _ (by omega) W
          obtain ⟨ih, hih⟩ : ∃ ih : Int, ih = (dh.toNat : Int) := ⟨_, rfl⟩
          obtain ⟨il, hil⟩ : ∃ il : Int, il = (dl.toNat : Int) := ⟨_, rfl⟩
          rw [← hih] at hx1 HE
          rw [← hil] at hx2 HE
          clear hcu hu256 hq hlo hdh hdl hih hil
          go_wp2_with fail
          refine (plain_any _ _).mono ?_
          rintro e wr ⟨rfl, rfl⟩
          rw [hpl]
          go_wp2_with fail
          go_region_law (refine step_app rfl (.tmp 16) (.tmp 23) rfl (.slice ao n c) _ (toI ([34] ++ (s.data.toList.take k).flatMap lett)) [92, 120, ih, il] rfl rfl ?_ ?_ ?_ ?_; (exact (HM.out.own.boxed _).drew); (exact (Rd.four wr 92 120 ih il).drew); (simp only [List.length_cons, List.length_nil]; omega); intro v2 w2 ho2 hc2 hk2; obtain ⟨ao2, n2, c2, rfl⟩ := shape_of ho2)
          all_goals
            have H2 : Hid (Mine w w2 (.slice ao2 n2 c2) (toI ([34] ++ (s.data.toList.take (k + 1)).flatMap lett))) := by
              show Mine _ _ _ _
              rw [HS.out, HE.out]
              exact HM.out.app ho2 (((Chg.refl _ wr).alloc _).trans hc2.undrew (fun _ _ x => x)) (hk2.imp id (fun x => ⟨_, x, by simp [World.drew]⟩))
            clear ho2 hc2 hk2
            go_wp2
            go_roundw
            case rel => exact ⟨k + 1, _, _, _, rfl, by go_num, by omega, H2.out⟩
            case measure => simp [intOf]; omega
      · have HE : Hid (toI (lett u) = [ci]) := by
          show _ = _
          have e0 : 32 ≤ ci ∧ ci < 127 ∧ ci ≠ 34 ∧ ci ≠ 92 := by unfold plainR at hpl; simpa using hpl
          have e1 : plainB u.toNat = true := by unfold plainB; simp; omega
          have e2 : ¬ (u = 34 ∨ u = 92) := by
            rintro (rfl | rfl)
            · simp at hcu; omega
            · simp at hcu; omega
          unfold lett
          rw [if_neg (by rw [e1]; simp), if_neg e2]
          simp [toI, hcu]
        clear hcu hu256
        go_wp2_with fail
        refine (plain_any _ _).mono ?_
        rintro e wr ⟨rfl, rfl⟩
        rw [hpl]
        go_wp2_with (at_builtin; refine wpList_app _ rfl _ _ rfl _ _ (toI ([34] ++ (s.data.toList.take k).flatMap lett)) _ rfl rfl (HM.out.own.boxed _) (Rd.one wr ci) ?c1 ?_)
        case c1 => simp only [List.length_cons, List.length_nil]; omega
        intro v2 w2 ho2 hc2 hk2
        have H2 : Hid (Mine w w2 v2 (toI ([34] ++ (s.data.toList.take (k + 1)).flatMap lett))) := by
          show Mine _ _ _ _
          rw [HS.out, HE.out]
          exact HM.out.app ho2 (((Chg.refl _ wr).alloc _).trans hc2 (fun _ _ x => x)) (hk2.imp id (fun x => ⟨_, x, by simp⟩))
        obtain ⟨ao2, n2, c2, rfl⟩ := shape_of ho2
        clear ho2 hc2 hk2
        go_wp2
        go_roundw
        case rel => exact ⟨k + 1, _, _, _, rfl, by go_num, by omega, H2.out⟩
        case measure => simp [intOf]; omega
    · go_wp2_with (at_builtin; refine wpList_app _ rfl _ _ rfl _ _ (toI ([34] ++ (s.data.toList.take k).flatMap lett)) _ rfl rfl (HM.out.own.boxed _) (Rd.one wr 34) ?c1 ?_)
      case c1 => simp only [List.length_cons, List.length_nil]; omega
      intro v2 w2 ho2 hc2 hk2
      have H2 : Hid (Mine w w2 v2 (toI ([34] ++ s.data.toList.flatMap lett ++ [34]))) := by
        show Mine _ _ _ _
        have e : s.data.toList.take k = s.data.toList := List.take_of_length_le (by simp; omega)
        rw [e] at ho2
        rw [toI_append]
        exact HM.out.app ho2 (((Chg.refl _ wr).alloc _).trans hc2 (fun _ _ x => x)) (hk2.imp id (fun x => ⟨_, x, by simp⟩))
      have hst := run_str w2 v2 _ H2.out.own.rd
      obtain ⟨ao2, n2, c2, rfl⟩ := shape_of ho2
      rw [toI_str] at hst
      clear ho2 hc2 hk2
      go_wp2
      go_ret
      exact ⟨rfl, H2.out.chg⟩
end Go.Proofs.YtlhcadfcgibkdaaDoor
