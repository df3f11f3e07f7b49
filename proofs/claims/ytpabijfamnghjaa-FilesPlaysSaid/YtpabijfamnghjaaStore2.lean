/-
  The program's store: its calls Put, Tear, Settle, Remove.
-/
import Derived.Test.YtpabijfamnghjaaStore
import Derived.Deep.RegionWith
import Derived.Deep.Cut
namespace Go.Proofs.Ytpabijfamnghjaa
open Go.RowKit
set_option linter.unusedVariables false

theorem EntOk.keep {w w' : World} {e : Ent} (h : EntOk w e) (hk : ∀ k, e.vo.ownBlock = some k ∨ e.vf.ownBlock = some k → w'.heap[k]? = w.heap[k]?) : EntOk w' e :=
  ⟨h.old.keep (fun k x => hk k (.inl x)), h.new.keep (fun k x => hk k (.inr x)), h.lo, h.lf, h.n, h.calm⟩

theorem EntOk.non {w w' : World} {e : Ent} (h : EntOk w e) (hc : Chg Non w w') : EntOk w' e :=
  h.keep (fun k x => hc.block k (by rcases x with x | x; exact h.old.lt k x; exact h.new.lt k x) (fun x => x))

theorem len_del_le (nm : List UInt8) (L : List Ent) : (delL nm L).length ≤ L.length := List.length_filter_le _ _

theorem len_del_lt {nm : List UInt8} {L : List Ent} {e : Ent} (h : findL nm L = some e) : (delL nm L).length < L.length := by
  obtain ⟨h1, h2⟩ := find_name h
  unfold delL
  rw [List.length_filter_lt_length_iff_exists]
  exact ⟨e, h2, by simp [h1]⟩

theorem St.put {w w' : World} {p b : Nat} {L : List Ent} {e : Ent} (h : St w p b L) (he : EntOk w e) (hm : MapAt w' b (putL e L)) (hc : Chg (One b) w w') (hr : (findL e.name L).isSome = true ∨ L.length < 64) : St w' p b (putL e L) := by
  refine ⟨(hc.block p h.lt (fun x => h.ne x)).trans h.blk, hm, fun x hx => ?_, ?_⟩
  · have hx' : EntOk w x := by
      rcases mem_put.1 hx with rfl | ⟨hx, _⟩
      · exact he
      · exact h.ent x hx
    refine hx'.keep (fun k hk => ?_)
    rcases hk with hk | hk
    · exact hc.block k (hx'.old.lt k hk) (fun e1 => (h.apart hx'.old).2 (by rw [hk, e1]))
    · exact hc.block k (hx'.new.lt k hk) (fun e1 => (h.apart hx'.new).2 (by rw [hk, e1]))
  · unfold putL
    rw [len_ins]
    have h1 := len_del_le e.name L
    have h2 := h.len
    rcases hr with hr | hr
    · obtain ⟨e0, he0⟩ := Option.isSome_iff_exists.1 hr
      have := len_del_lt he0
      omega
    · omega

theorem St.del {w w' : World} {p b : Nat} {L : List Ent} {nm : List UInt8} (h : St w p b L) (hm : MapAt w' b (delL nm L)) (hc : Chg (One b) w w') : St w' p b (delL nm L) := by
  refine ⟨(hc.block p h.lt (fun x => h.ne x)).trans h.blk, hm, fun x hx => ?_, Nat.le_trans (len_del_le nm L) h.len⟩
  have hx' : EntOk w x := h.ent x (mem_del.1 hx).1
  refine hx'.keep (fun k hk => ?_)
  rcases hk with hk | hk
  · exact hc.block k (hx'.old.lt k hk) (fun e1 => (h.apart hx'.old).2 (by rw [hk, e1]))
  · exact hc.block k (hx'.new.lt k hk) (fun e1 => (h.apart hx'.new).2 (by rw [hk, e1]))

theorem may_room {nm : List UInt8} {len : Nat} {L : List Ent} (h : mayL nm len L = 0) : isNm nm = true ∧ len ≤ 65536 ∧ ((findL nm L).isSome = true ∨ L.length < 64) := by
  unfold mayL at h
  split at h
  · omega
  · split at h
    · omega
    · split at h
      · omega
      · rename_i h1 h2 h3
        refine ⟨by simpa using h1, by omega, ?_⟩
        cases hf : findL nm L with
        | none => right; simp [hf] at h3; exact h3
        | some e => left; rfl

def fresh (nm : List UInt8) (v : Value) (xs : List Int) : Ent := ⟨nm, v, xs, false, .slice none 0 0, [], 0⟩

theorem St.store0 {w : World} {p b : Nat} {L : List Ent} (h : St w p b L) (s : ByteArray) (hs : s.size ≤ maxLen) (ao : Option Addr) (n c : Nat) (xs : List Int) :
    ∃ w', (Instr.mapUpdate 50 (.map (some b)) (.string s) (.agg #[.slice ao n c, .bool false, .slice none 0 0, .int .i64 0])).run Try.prog w = .ok () w' ∧ MapAt w' b (putL (fresh s.data.toList (.slice ao n c) xs) L) ∧ Chg (One b) w w' :=
  h.map.store (by have := h.len; have : maxLen = 9223372036854775807 := rfl; omega) s hs (fresh s.data.toList (.slice ao n c) xs) rfl

theorem Chg.from_drew {S : Nat → Prop} {a b : World} (h : Chg S a.drew b) : Chg S a b := ⟨h.os, h.tape, h.output, h.size, h.block⟩

theorem fresh_ok {w : World} {nm : List UInt8} {v : Value} {xs : List Int} (h : OwnV w v xs) (hl : xs.length ≤ 65536) : EntOk w (fresh nm v xs) :=
  ⟨h, .inl ⟨rfl, rfl⟩, hl, by simp [fresh], by simp [fresh], fun _ => ⟨rfl, rfl⟩⟩

set_option maxHeartbeats 1000000 in
theorem put_any (p b : Nat) (L : List Ent) (s : ByteArray) (v : Value) (xs : List Int) (w : World) (h : St w p b L) (hs : s.size ≤ maxLen) (hv : Rd w v xs) :
    Calls Try.prog 13 #[.pointer (some ⟨p, 0, none⟩), .string s, v] w fun r w' => ∃ L', r = .returned (.int .i64 (mayL s.data.toList xs.length L)) ∧ St w' p b L' ∧ Chg (One b) w w' ∧
      (mayL s.data.toList xs.length L ≠ 0 → L' = L) ∧ (mayL s.data.toList xs.length L = 0 → ∃ v', L' = putL (fresh s.data.toList v' xs) L ∧ ∀ k, v'.ownBlock = some k → w.heap.size ≤ k) := by
  obtain ⟨vo, vn, vc, rfl, -⟩ := hv.shape
  have HM : Hid (mayL s.data.toList xs.length L = 0 → isNm s.data.toList = true ∧ xs.length ≤ 65536 ∧ ((findL s.data.toList L).isSome = true ∨ L.length < 64)) := may_room
  have hma := may_any p b L s _ xs _ h hs hv
  generalize mayL s.data.toList xs.length L = m at *
  go_enter Try.func13, Try.ntmps13
  go_wp2_with fail
  refine hma.mono ?_
  clear hma
  rintro e w1 ⟨rfl, hc1⟩
  have HW : Hid (St w1 p b L ∧ Rd w1 (.slice vo vn vc) xs ∧ Chg Non w w1) := ⟨h.non hc1, hv.keep (fun k _ hk => hc1.block k hk (fun x => x)), hc1⟩
  have c0 := (h.non hc1).cell
  clear h hv hc1
  by_cases hm0 : m = 0
  · subst hm0
    have HM2 : Hid (isNm s.data.toList = true ∧ xs.length ≤ 65536 ∧ ((findL s.data.toList L).isSome = true ∨ L.length < 64)) := HM.out rfl
    clear HM
    go_wp2_with fail
    go_region_with (go_at_call 28; (refine (newList_any _ xs _ ?_ ?_).mono ?_; exact HW.out.2.1.drew; (have := HM2.out.2.1; omega); rintro e w2 ⟨v2, rfl, ho2, hc2, hk2⟩; obtain ⟨uo, un, uc, rfl, -⟩ := ho2.shape; have hst2 : St w2 p b L := (HW.out.1.drew.non hc2); have c2 := hst2.cell; obtain ⟨w3, hrun3, hm3, hc3⟩ := hst2.store0 s hs uo un uc xs))
    all_goals
      have H2 : Hid (OwnV w2 (.slice uo un uc) xs ∧ Chg Non w1 w2 ∧ (∀ k, (Value.slice uo un uc).ownBlock = some k → w1.heap.size ≤ k) ∧ St w2 p b L ∧ MapAt w3 b (putL (fresh s.data.toList (.slice uo un uc) xs) L) ∧ Chg (One b) w2 w3) := ⟨ho2, hc2.from_drew, hk2, hst2, hm3, hc3⟩
      clear ho2 hc2 hk2 hst2 c2 hrun3 hm3 hc3 c0
      go_wp2
      go_ret
      obtain ⟨q1, q2, q3, q4, q5, q6⟩ := H2.out
      obtain ⟨p1, p2, p3⟩ := HW.out
      exact ⟨rfl, _, q4.put (fresh_ok q1 HM2.out.2.1) q5 q6 HM2.out.2.2, (p3.trans q2 (fun _ _ x => x)).non _ |>.trans q6 (fun _ _ x => x), _, rfl, fun k e => Nat.le_trans p3.size (q3 k e)⟩
  · have hmq : (m == 0) = false := by simpa using hm0
    have HM3 : Hid (m ≠ 0) := hm0
    clear hm0 HM
    go_wp2
    go_ret
    exact ⟨L, rfl, HW.out.1, HW.out.2.2.non _, fun _ => rfl, fun e => absurd e HM3.out⟩

def oldV (nm : List UInt8) (L : List Ent) : Value := match findL nm L with | some e => e.vo | none => .slice none 0 0
def oldX (nm : List UInt8) (L : List Ent) : List Int := match findL nm L with | some e => e.xo | none => []

theorem old_ok {w : World} {p b : Nat} {L : List Ent} (h : St w p b L) (nm : List UInt8) : OwnV w (oldV nm L) (oldX nm L) ∧ (oldX nm L).length ≤ 65536 := by
  unfold oldV oldX
  cases hf : findL nm L with
  | none => exact ⟨.inl ⟨rfl, rfl⟩, by simp⟩
  | some e => exact ⟨(h.ent e (find_name hf).2).old, (h.ent e (find_name hf).2).lo⟩

/-- What stands at a name, as a value: old, torn or not, and the rest. -/
theorem look_parts {w : World} {p b : Nat} {L : List Ent} (h : St w p b L) (nm : List UInt8) :
    ∃ ao an ac fo fn fc n, valL nm L = .agg #[.slice ao an ac, .bool (tornL nm L), .slice fo fn fc, .int .i64 (n : Nat)] ∧ oldV nm L = .slice ao an ac := by
  unfold valL tornL oldV
  cases hf : findL nm L with
  | none => exact ⟨none, 0, 0, none, 0, 0, 0, rfl, rfl⟩
  | some e =>
    have ho := h.ent e (find_name hf).2
    obtain ⟨ao, an, ac, ha, -⟩ := ho.old.shape
    obtain ⟨fo, fn, fc, hb, -⟩ := ho.new.shape
    refine ⟨ao, an, ac, fo, fn, fc, e.n, ?_, ha⟩
    simp only [Ent.val, ha, hb]

def tearE (nm : List UInt8) (v : Value) (xs : List Int) (n : Nat) (L : List Ent) : Ent := ⟨nm, oldV nm L, oldX nm L, true, v, xs, n⟩

def tearC (nm : List UInt8) (len : Nat) (n : Int) (L : List Ent) : Int :=
  if mayL nm len L ≠ 0 then mayL nm len L else if tornL nm L = true then 25 else if n < 0 ∨ (len : Int) < n then 1 else 0

theorem St.store1 {w : World} {p b : Nat} {L : List Ent} (h : St w p b L) (s : ByteArray) (hs : s.size ≤ maxLen) (ao : Option Addr) (an ac : Nat) (ha : oldV s.data.toList L = .slice ao an ac) (fo : Option Addr) (fn fc : Nat) (xs : List Int) (n : Nat) :
    ∃ w', (Instr.mapUpdate 50 (.map (some b)) (.string s) (.agg #[.slice ao an ac, .bool true, .slice fo fn fc, .int .i64 n])).run Try.prog w = .ok () w' ∧ MapAt w' b (putL (tearE s.data.toList (.slice fo fn fc) xs n L) L) ∧ Chg (One b) w w' := by
  have := h.map.store (by have := h.len; have : maxLen = 9223372036854775807 := rfl; omega) s hs (tearE s.data.toList (.slice fo fn fc) xs n L) rfl
  unfold Ent.val tearE at this
  rw [ha] at this
  unfold tearE
  rw [ha]
  exact this

/-- What Put leaves. -/
structure PutPost (w w' : World) (p b : Nat) (nm : List UInt8) (xs : List Int) (L : List Ent) : Prop where
  no : mayL nm xs.length L ≠ 0 → St w' p b L
  yes : mayL nm xs.length L = 0 → ∃ v', St w' p b (putL (fresh nm v' xs) L) ∧ ∀ k, v'.ownBlock = some k → w.heap.size ≤ k
  chg : Chg (One b) w w'

theorem put_post (p b : Nat) (L : List Ent) (s : ByteArray) (v : Value) (xs : List Int) (w : World) (h : St w p b L) (hs : s.size ≤ maxLen) (hv : Rd w v xs) :
    Calls Try.prog 13 #[.pointer (some ⟨p, 0, none⟩), .string s, v] w fun r w' => r = .returned (.int .i64 (mayL s.data.toList xs.length L)) ∧ PutPost w w' p b s.data.toList xs L := by
  refine (put_any p b L s v xs w h hs hv).mono ?_
  rintro r w' ⟨L', rfl, h1, h2, h3, h4⟩
  refine ⟨rfl, fun e => by rw [h3 e] at h1; exact h1, fun e => ?_, h2⟩
  obtain ⟨v', rfl, hk⟩ := h4 e
  exact ⟨v', h1, hk⟩

/-- What Tear leaves. -/
structure TearPost (w w' : World) (p b : Nat) (nm : List UInt8) (xs : List Int) (n : Int) (L : List Ent) : Prop where
  no : tearC nm xs.length n L ≠ 0 → St w' p b L
  yes : tearC nm xs.length n L = 0 → ∃ v', St w' p b (putL (tearE nm v' xs n.toNat L) L) ∧ ∀ k, v'.ownBlock = some k → w.heap.size ≤ k
  chg : Chg (One b) w w'

set_option maxHeartbeats 1000000 in
theorem tear_any (p b : Nat) (L : List Ent) (s : ByteArray) (v : Value) (xs : List Int) (n : Int) (w : World) (h : St w p b L) (hs : s.size ≤ maxLen) (hv : Rd w v xs) :
    Calls Try.prog 14 #[.pointer (some ⟨p, 0, none⟩), .string s, v, .int .i64 n] w fun r w' => r = .returned (.int .i64 (tearC s.data.toList xs.length n L)) ∧ TearPost w w' p b s.data.toList xs n L := by
  have HM : Hid (mayL s.data.toList xs.length L = 0 → isNm s.data.toList = true ∧ xs.length ≤ 65536 ∧ ((findL s.data.toList L).isSome = true ∨ L.length < 64)) := may_room
  have HT : Hid (tearC s.data.toList xs.length n L = if mayL s.data.toList xs.length L ≠ 0 then mayL s.data.toList xs.length L else if tornL s.data.toList L = true then 25 else if n < 0 ∨ (xs.length : Int) < n then 1 else 0) := rfl
  have hma := may_any p b L s _ xs _ h hs hv
  generalize mayL s.data.toList xs.length L = m at *
  obtain ⟨vo, vn, vc, rfl, hvn, hvc, hvm⟩ := hv.shape
  have hms : maxLen = 9223372036854775807 := rfl
  have HV : Hid (vn = xs.length) := hvn
  have hvl : vn ≤ 9223372036854775807 := by omega
  clear hvn hvc
  go_enter Try.func14, Try.ntmps14
  go_wp2_with fail
  refine hma.mono ?_
  clear hma
  rintro e w1 ⟨rfl, hc1⟩
  have hs1 := h.non hc1
  have HW : Hid (St w1 p b L ∧ Rd w1 (.slice vo vn vc) xs ∧ Chg Non w w1) := ⟨hs1, hv.keep (fun k _ hk => hc1.block k hk (fun x => x)), hc1⟩
  have c0 := hs1.cell
  clear h hv hc1
  by_cases hm0 : m = 0
  · subst hm0
    have HM2 : Hid (isNm s.data.toList = true ∧ xs.length ≤ 65536 ∧ ((findL s.data.toList L).isSome = true ∨ L.length < 64)) := HM.out rfl
    clear HM
    have hlo := hs1.map.look s hs
    obtain ⟨ao, an, ac, fo, fn, fc, n0, hval, hold⟩ := look_parts hs1 s.data.toList
    rw [hval] at hlo
    have HO : Hid (oldV s.data.toList L = .slice ao an ac) := hold
    clear hval hold hs1
    have HT2 : Hid (tearC s.data.toList xs.length n L = if tornL s.data.toList L = true then 25 else if n < 0 ∨ (xs.length : Int) < n then 1 else 0) := by have := HT.out; show _ = _; simpa using this
    clear HT
    generalize tornL s.data.toList L = t at *
    cases t
    · by_cases hn0 : n < 0
      · go_wp2
        go_ret
        have e1 : tearC s.data.toList xs.length n L = 1 := by rw [HT2.out]; simp [hn0]
        exact ⟨ret_int e1.symm, fun _ => HW.out.1.non ((Chg.refl _ _).alloc _), fun e => by omega, (HW.out.2.2.alloc _).non _⟩
      · by_cases hn1 : (vn : Int) < n
        · go_wp2
          go_ret
          have e1 : tearC s.data.toList xs.length n L = 1 := by rw [HT2.out]; have := HV.out; simp; omega
          exact ⟨ret_int e1.symm, fun _ => HW.out.1.non ((Chg.refl _ _).alloc _), fun e => by omega, (HW.out.2.2.alloc _).non _⟩
        · have HE : Hid (tearC s.data.toList xs.length n L = 0) := by have := HT2.out; have h5 := HV.out; rw [if_neg (by decide), if_neg (by omega)] at this; exact this
          clear HT2
          obtain ⟨N, rfl⟩ := Int.eq_ofNat_of_zero_le (show 0 ≤ n by omega)
          go_wp2_with fail
          obtain ⟨wa, hwa⟩ : ∃ wa, wa = w1.alloc (.cells #[.slice ao an ac, .bool false, .slice fo fn fc, .int .i64 n0] 55) := ⟨_, rfl⟩
          rw [← hwa]
          obtain ⟨q, hq⟩ : ∃ q, q = w1.heap.size := ⟨_, rfl⟩
          rw [← hq]
          have hqb : wa.heap[q]? = some (.cells #[.slice ao an ac, .bool false, .slice fo fn fc, .int .i64 n0] 55) := by rw [hwa, hq]; exact heap_alloc_new w1 _
          have hca : Chg Non w1 wa := by rw [hwa]; exact (Chg.refl _ _).alloc _
          have HW2 : Hid (St wa p b L ∧ Rd wa (.slice vo vn vc) xs ∧ Chg Non w wa ∧ wa.heap[q]? = some (.cells #[.slice ao an ac, .bool false, .slice fo fn fc, .int .i64 n0] 55) ∧ q < wa.heap.size) := ⟨HW.out.1.non hca, HW.out.2.1.keep (fun k _ hk => hca.block k hk (fun x => x)), HW.out.2.2.trans hca (fun _ _ x => x), hqb, (Array.getElem?_eq_some_iff.1 hqb).1⟩
          have ca : wa.cell? ⟨p, 0, none⟩ = some (.map (some b)) := (HW2.out.1).cell
          have cq : wa.cell? ⟨q, 0, none⟩ = some (.slice ao an ac) := by rw [cell_of_row wa q 0 _ 55 _ hqb]; rfl
          clear hwa hq hqb hca HW c0 hlo
          go_region_with (go_at_call 28; (refine (newList_any _ xs _ ?_ ?_).mono ?_; exact HW2.out.2.1.drew; (have := HM2.out.2.1; omega); rintro e w2 ⟨v2, rfl, ho2, hc2, hk2⟩; obtain ⟨uo, un, uc, rfl, -⟩ := ho2.shape; have hst2 : St w2 p b L := (HW2.out.1.drew.non hc2); have c2 := hst2.cell; have d2 : w2.cell? ⟨q, 0, none⟩ = some (.slice ao an ac) := (by rw [cell_of_row w2 q 0 _ 55 _ ((hc2.block q HW2.out.2.2.2.2 (fun x => x)).trans HW2.out.2.2.2.1)]; rfl); obtain ⟨w3, hrun3, hm3, hc3⟩ := hst2.store1 s hs ao an ac HO.out uo un uc xs N))
          all_goals
            have H2 : Hid (OwnV w2 (.slice uo un uc) xs ∧ Chg Non wa w2 ∧ (∀ k, (Value.slice uo un uc).ownBlock = some k → wa.heap.size ≤ k) ∧ St w2 p b L ∧ MapAt w3 b (putL (tearE s.data.toList (.slice uo un uc) xs N L) L) ∧ Chg (One b) w2 w3) := ⟨ho2, hc2.from_drew, hk2, hst2, hm3, hc3⟩
            clear ho2 hc2 hk2 hst2 c2 hrun3 hm3 hc3 ca cq d2
            go_wp2
            go_ret
            obtain ⟨q1, q2, q3, q4, q5, q6⟩ := H2.out
            obtain ⟨p1, p2, p3, -, -⟩ := HW2.out
            have hold := old_ok q4 s.data.toList
            have hN : N ≤ xs.length := by have := HV.out; omega
            exact ⟨ret_int HE.out.symm, fun e => absurd HE.out e, fun _ => ⟨_, q4.put ⟨hold.1, q1, hold.2, HM2.out.2.1, hN, fun e => by cases e⟩ q5 q6 HM2.out.2.2, fun k e => Nat.le_trans p3.size (q3 k e)⟩, ((p3.trans q2 (fun _ _ x => x)).non _).trans q6 (fun _ _ x => x)⟩
    · go_wp2
      go_ret
      have e1 : tearC s.data.toList xs.length n L = 25 := by rw [HT2.out]; simp
      exact ⟨ret_int e1.symm, fun _ => HW.out.1.non ((Chg.refl _ _).alloc _), fun e => by omega, (HW.out.2.2.alloc _).non _⟩
  · have hmq : (m == 0) = false := by simpa using hm0
    have HM3 : Hid (m ≠ 0) := hm0
    clear hm0 HM
    go_wp2
    go_ret
    have e1 : tearC s.data.toList xs.length n L = m := by have := HT.out; rw [if_pos HM3.out] at this; exact this
    exact ⟨ret_int e1.symm, fun _ => HW.out.1, fun e => absurd (e1.symm.trans e) HM3.out, HW.out.2.2.non _⟩
end Go.Proofs.Ytpabijfamnghjaa
