/-
  The document's store: may, made, Torn, Read.
-/
import Derived.Test.YtpabijfamnghjaaRef
import Derived.Maps.AppendAt
namespace Go.Proofs.Ytpabijfamnghjaa
open Go.RowKit
set_option linter.unusedVariables false

theorem Try.info37 : (Try.prog.info? 37).map (fun i => (i.zero, i.size, i.bytes)) = some (some (.agg #[.string ⟨#[]⟩, .slice none 0 0, .bool false, .slice none 0 0, .int .i64 0]), 5, 80) := by kernel_rfl

/-- A slice of files that is appended: nothing, or what lies somewhere. -/
def SrcF (w : World) (sv : Value) (m : Nat) (news : List Value) : Prop :=
  (sv = .slice none 0 0 ∧ m = 0 ∧ news = []) ∨ ∃ ad c, sv = .slice (some ad) m c ∧ news.length = m * 5 ∧ ∀ j u, news[j]? = some u → w.cell? (ad.add j) = some u

theorem wpList_appF (w : World) {ops : Array Oper} {rest : List Oper} {o : Oper} {a : Act} {Q : Exit → Act → World → Prop} (hgd : o.guard = none) (s x : Operand)
    (ho : o.op = .call { callee := .builtin .append, args := #[s, x], argTypes := #[27, 27] })
    (base : Nat) (v : Value) (n : Nat) (xs : List Value) (hs : a.eval s = v) (hown : w.ownsRow base 37 5 v n xs)
    (sv : Value) (m : Nat) (news : List Value) (hx : a.eval x = sv) (hsrc : SrcF w sv m news) (h1 : ∀ u ∈ news, u.oneCell' = true) (hb : n + m ≤ 1000) (hbase : base ≤ w.heap.size)
    (h : ∀ v' w', w'.ownsRow base 37 5 v' (n + m) (xs ++ news) → w.grownBy w' v.ownBlock → (v'.ownBlock = v.ownBlock ∨ v'.ownBlock = some w.heap.size) → wpList Try.prog ops Q rest (a.put o.dst v') w') :
    wpList Try.prog ops Q (o :: rest) a w := by
  obtain ⟨i, hi, hz, hsz, hby⟩ := info_parts Try.info37
  rcases hsrc with ⟨rfl, rfl, rfl⟩ | ⟨ad, c, rfl, hl, hc⟩
  · refine wpList_plain hgd fun K hK => ?_
    have hr := run_append_owned_none (P := Try.prog) w base 27 o.type 37 i 5 Try.underlying27 hi v n xs hown
    unfold Oper.wp execOp
    simp only [ho, resolve, invoke, builtin, Sem.run_bind, Sem.run_pure, Result.andThen_ok, List.map_toArray, List.map_cons, List.map_nil, hs, hx, hr]
    exact hK _ _ (h v w (by simpa using hown) ⟨rfl, rfl, rfl, Nat.le_refl _, fun _ _ _ => rfl⟩ (.inl rfl))
  · have hms : maxLen = 9223372036854775807 := rfl
    exact wpList_append_own_at w hgd s x 27 ho base 37 i _ 5 80 Try.underlying27 hi hz hsz hby rfl (by decide) v n xs hs hown ad m c news hx hl hc h1 (by omega) (by omega) hbase (fun v' w' h2 h3 _ h5 => h v' w' h2 h3 h5)

theorem cellsE_one {w : World} {e : Ent} (h : EntOk w e) : ∀ u ∈ cellsE e, u.oneCell' = true := by
  intro u hu
  obtain ⟨ao, an, ac, ha, -⟩ := h.old.shape
  obtain ⟨fo, fn, fc, hb, -⟩ := h.new.shape
  simp only [cellsE, List.mem_cons, List.not_mem_nil, or_false] at hu
  rcases hu with rfl | rfl | rfl | rfl | rfl
  · rfl
  · rw [ha]; rfl
  · rfl
  · rw [hb]; rfl
  · rfl

theorem rowE_one {w : World} {R : List Ent} (h : ∀ e ∈ R, EntOk w e) : ∀ u ∈ rowE R, u.oneCell' = true := by
  intro u hu
  obtain ⟨e, he, hu⟩ := List.mem_flatMap.1 hu
  exact cellsE_one (h e he) u hu

theorem RSt.offq {w : World} {q : Nat} {sv : Value} {R : List Ent} (h : RSt w q sv R) : sv.ownBlock ≠ some q := by
  intro e
  rcases h.row.2 with ⟨rfl, _⟩ | ⟨g, cap, cur, rfl, _, hb, _⟩
  · simp [Value.ownBlock] at e
  · simp [Value.ownBlock] at e
    subst e
    rw [h.blk] at hb
    cases hb

theorem RSt.apart {w : World} {q : Nat} {sv : Value} {R : List Ent} (h : RSt w q sv R) {v : Value} {xs : List Int} (hv : OwnV w v xs) : ∀ k, v.ownBlock = some k → k ≠ q ∧ sv.ownBlock ≠ some k := by
  intro k hk
  obtain ⟨cur, hc⟩ := hv.blk k hk
  refine ⟨fun e => ?_, fun e => ?_⟩
  · subst e
    rw [h.blk] at hc
    cases hc
  · rcases h.row.2 with ⟨rfl, _⟩ | ⟨g, cap, cur', rfl, _, hb, _⟩
    · simp [Value.ownBlock] at e
    · simp [Value.ownBlock] at e
      subst e
      rw [hb] at hc
      cases hc

/-- The document's store stays what it is while other blocks are written. -/
theorem RSt.keep {w w' : World} {q : Nat} {sv : Value} {R : List Ent} (h : RSt w q sv R) (hk : ∀ k, k < w.heap.size → (k = q ∨ sv.ownBlock = some k ∨ ∃ e ∈ R, e.vo.ownBlock = some k ∨ e.vf.ownBlock = some k) → w'.heap[k]? = w.heap[k]?) : RSt w' q sv R := by
  refine ⟨(hk q h.lt (.inl rfl)).trans h.blk, ⟨h.row.1, ?_⟩, fun e he => ?_, h.len, h.ris⟩
  · rcases h.row.2 with h1 | ⟨g, cap, cur, rfl, hb, hg, h1⟩
    · exact .inl h1
    · exact .inr ⟨g, cap, cur, rfl, hb, (hk g (Array.getElem?_eq_some_iff.1 hg).1 (.inr (.inl rfl))).trans hg, h1⟩
  · have := h.ent e he
    refine this.keep (fun k hk' => hk k ?_ (.inr (.inr ⟨e, he, hk'⟩)))
    rcases hk' with hk' | hk'
    · exact this.old.lt k hk'
    · exact this.new.lt k hk'

theorem RSt.non {w w' : World} {q : Nat} {sv : Value} {R : List Ent} (h : RSt w q sv R) (hc : Chg Non w w') : RSt w' q sv R := h.keep (fun k hk _ => hc.block k hk (fun x => x))

theorem drewN_chg (w : World) (n : Nat) : Chg Non w (w.drewN n) := ⟨rfl, rfl, rfl, Nat.le_refl _, fun _ _ _ => rfl⟩

/-- What a call of the document's may write: its own block and its row. -/
def QS (q : Nat) (sv : Value) : Nat → Prop := fun k => k = q ∨ sv.ownBlock = some k

set_option maxHeartbeats 1000000 in
theorem rmay_any (q : Nat) (sv : Value) (R : List Ent) (s : ByteArray) (v : Value) (xs : List Int) (w : World) (h : RSt w q sv R) (hs : s.size ≤ maxLen) (hv : Rd w v xs) :
    Calls Try.prog 29 #[.pointer (some ⟨q, 0, none⟩), .string s, v] w fun e w' => e = .returned (.int .i64 (mayL s.data.toList xs.length R)) ∧ ∃ n, w' = w.drewN n := by
  obtain ⟨vo, vn, vc, rfl, hvn, hvc, hvm⟩ := hv.shape
  have hms : maxLen = 9223372036854775807 := rfl
  subst hvn
  generalize xs.length = xl at *
  obtain ⟨ao, c, rfl, hc, hcm, -, -⟩ := h.shape
  have c0 := h.cell
  have hl64 := h.len
  clear hv hvc
  go_enter Try.func29, Try.ntmps29
  go_wp2_with fail
  refine (name_any s _ (by omega)).mono ?_
  rintro e w1 ⟨rfl, rfl⟩
  go_wp2_with fail
  refine (at_any q _ R s _ h).mono ?_
  rintro e w2 ⟨i, n, rfl, rfl, -⟩
  have c1 : (w1.drewN n).cell? ⟨q, 0, none⟩ = some (.slice ao R.length c) := c0
  clear h
  cases hn : isNm s.data.toList
  · go_wp2
    go_ret
    exact ⟨ret_int (by unfold mayL; simp [hn]), n, rfl⟩
  · by_cases hl : 65536 < xl
    · go_wp2
      go_ret
      exact ⟨ret_int (by unfold mayL; simp [hn, hl]), n, rfl⟩
    · cases hf : findL s.data.toList R with
      | none =>
        by_cases hfull : 64 ≤ R.length
        · go_wp2
          go_ret
          exact ⟨ret_int (by unfold mayL; simp [hn, hl, hf, hfull]), n, rfl⟩
        · go_wp2
          go_ret
          exact ⟨ret_int (by unfold mayL; simp [hn, hl, hf, hfull]), n, rfl⟩
      | some f =>
        go_wp2
        go_ret
        exact ⟨ret_int (by unfold mayL; simp [hn, hl, hf]), n, rfl⟩

theorem str_eta (s : ByteArray) : (⟨s.data.toList.toArray⟩ : ByteArray) = s := by
  obtain ⟨⟨l⟩⟩ := s
  rfl

theorem cells_new (w : World) (cs : List Value) (t : TypeId) : ∀ j u, cs[j]? = some u → (w.alloc (.cells cs.toArray t)).cell? ((⟨w.heap.size, 0, none⟩ : Addr).add j) = some u := by
  intro j u hj
  rw [Addr.add_lit, cell_of_row _ w.heap.size (0 + j) _ t _ (heap_alloc_new w _)]
  simp [hj]

/-- What made answers: the file is there, at place i. -/
structure MadeP (nm : List UInt8) (R R1 : List Ent) (i : Nat) (f : Ent) : Prop where
  at_ : R1[i]? = some f
  name : f.name = nm
  vo : f.vo = oldV nm R
  xo : f.xo = oldX nm R
  torn : f.torn = tornL nm R
  set : ∀ e : Ent, e.name = nm → R1.set i e = putL e R

theorem row_cell {w : World} {q g c rn : Nat} {R : List Ent} (h : RSt w q (.slice (some ⟨g, 0, none⟩) rn c) R) {j : Nat} {u : Value} (hj : (rowE R)[j]? = some u) : w.cell? ⟨g, 0 + j, none⟩ = some u := by
  have hrow := h.row
  rcases hrow.2 with ⟨e, _⟩ | ⟨g', cap, cur, e, _⟩
  · cases e
  · cases e
    rw [Nat.zero_add, hrow.cellAt j (by have := (List.getElem?_eq_some_iff.1 hj).1; rw [rowE_len] at this; exact this)]
    exact hj

theorem RSt.stored {w : World} {q : Nat} {sv sv' : Value} {R R1 : List Ent} (h : RSt w q sv R) (hrow : w.ownsRow 0 37 5 sv' R1.length (rowE R1)) (hne : sv'.ownBlock ≠ some q) (hent : ∀ e ∈ R1, EntOk w e) (hlen : R1.length ≤ 64) (hris : Rising R1) :
    RSt (w.setCell ⟨q, 0, none⟩ sv') q sv' R1 := by
  have hkeep : ∀ k, k ≠ q → (w.setCell ⟨q, 0, none⟩ sv').heap[k]? = w.heap[k]? := fun k hk => Below.heap_setCell _ _ _ _ hk
  refine ⟨heap_setCell_at _ _ _ _ _ _ h.blk, ⟨hrow.1, ?_⟩, fun e he => ?_, hlen, hris⟩
  · rcases hrow.2 with h1 | ⟨g, cap, cur, rfl, hb, hg, h1⟩
    · exact .inl h1
    · exact .inr ⟨g, cap, cur, rfl, hb, (hkeep g (fun e => hne (by rw [e]; rfl))).trans hg, h1⟩
  · have h1 := hent e he
    refine h1.keep (fun k hk => hkeep k ?_)
    rcases hk with hk | hk
    · exact (h.apart h1.old k hk).1
    · exact (h.apart h1.new k hk).1

theorem made_end {nm : List UInt8} {R : List Ent} {i q cap4 m g4 : Nat} {w w1 w4 : World} {sv : Value} (ha : AtP nm R i) (hf : findL nm R = none) (hst : RSt w1 q sv R) (hc : Chg Non w w1) (hst4 : RSt w4 q sv R) (hc4 : Chg Non w1 w4)
    (ho : w4.ownsRow w1.heap.size 37 5 (.slice (some ⟨g4, 0, none⟩) m cap4) m (rowE (R.take i ++ fresh nm (.slice none 0 0) [] :: R.drop i))) (hg : w1.heap.size ≤ g4) (hm : m = R.length + 1) (hroom : R.length < 64) :
    ∃ i' sv' R1 f, Ending.returned (.int .i64 (i : Nat)) = .returned (.int .i64 (i' : Nat)) ∧ RSt (w4.setCell ⟨q, 0, none⟩ (.slice (some ⟨g4, 0, none⟩) m cap4)) q sv' R1 ∧ MadeP nm R R1 i' f ∧ Chg (One q) w (w4.setCell ⟨q, 0, none⟩ (.slice (some ⟨g4, 0, none⟩) m cap4)) ∧ (sv' = sv ∨ ∀ k, sv'.ownBlock = some k → w.heap.size ≤ k) := by
  have hR1 : R.take i ++ fresh nm (.slice none 0 0) [] :: R.drop i = putL (fresh nm (.slice none 0 0) []) R := (ha.none hf _ rfl).symm
  have hlen1 : (R.take i ++ fresh nm (.slice none 0 0) [] :: R.drop i).length = R.length + 1 := by simp; have := ha.le; omega
  have hget : (R.take i ++ fresh nm (.slice none 0 0) [] :: R.drop i)[i]? = some (fresh nm (.slice none 0 0) []) := by
    have hle := ha.le
    rw [List.getElem?_append_right (by simp; omega)]
    have : i - (R.take i).length = 0 := by simp; omega
    rw [this]
    rfl
  refine ⟨i, _, R.take i ++ fresh nm (.slice none 0 0) [] :: R.drop i, _, rfl, hst4.stored ?_ ?_ ?_ ?_ ?_, ⟨hget, rfl, ?_, ?_, ?_, ?_⟩, ?_, .inr ?_⟩
  · rw [hlen1, ← hm]
    refine ⟨ho.1, ?_⟩
    rcases ho.2 with h1 | ⟨g, cap, cur, e, hb, h1⟩
    · exact .inl h1
    · exact .inr ⟨g, cap, cur, e, Nat.zero_le _, h1⟩
  · intro e
    simp [Value.ownBlock] at e
    have := hst.lt
    omega
  · intro e he
    rcases List.mem_append.1 he with he | he
    · exact hst4.ent e (List.mem_of_mem_take he)
    · rcases List.mem_cons.1 he with rfl | he
      · exact fresh_ok (.inl ⟨rfl, rfl⟩) (by simp)
      · exact hst4.ent e (List.mem_of_mem_drop he)
  · omega
  · rw [hR1]; exact rising_put hst.ris
  · unfold oldV; rw [hf]; rfl
  · unfold oldX; rw [hf]; rfl
  · unfold tornL; rw [hf]; rfl
  · intro e he
    have hle := ha.le
    rw [List.set_append_right _ _ (by simp; omega)]
    have : i - (R.take i).length = 0 := by simp; omega
    rw [this]
    exact (ha.none hf e he).symm
  · exact Chg.setCell (S := One q) ((hc.trans hc4 (fun _ _ x => x)).non _) (p := ⟨q, 0, none⟩) (fun _ => rfl) _
  · intro k e
    simp [Value.ownBlock] at e
    have := hc.size
    omega

set_option maxRecDepth 100000 in
set_option maxHeartbeats 2000000 in
theorem made_any (q : Nat) (sv : Value) (R : List Ent) (s : ByteArray) (w : World) (h : RSt w q sv R) (hroom : (findL s.data.toList R).isSome = true ∨ R.length < 64) :
    Calls Try.prog 30 #[.pointer (some ⟨q, 0, none⟩), .string s] w fun e w' => ∃ i sv' R1 f, e = .returned (.int .i64 (i : Nat)) ∧ RSt w' q sv' R1 ∧ MadeP s.data.toList R R1 i f ∧ Chg (One q) w w' ∧ (sv' = sv ∨ ∀ k, sv'.ownBlock = some k → w.heap.size ≤ k) := by
  obtain ⟨ao, c, rfl, hc, hcm, hnil, hsm⟩ := h.shape
  have hms : maxLen = 9223372036854775807 := rfl
  have c0 := h.cell
  have hf0 : w.frozen? ⟨q, 0, none⟩ = false := by simp [World.frozen?, h.blk]
  have hlen := h.len
  have H : Hid (RSt w q (.slice ao R.length c) R) := h
  clear h
  cases hf : findL s.data.toList R with
  | some f =>
    go_enter Try.func30, Try.ntmps30
    go_wp2_with fail
    refine (at_any q _ R s _ H.out).mono ?_
    rintro e w1 ⟨i, n, rfl, rfl, hat⟩
    rw [hf]
    have HA : Hid (AtP s.data.toList R i ∧ findL s.data.toList R = some f) := ⟨hat, hf⟩
    clear hat hf
    go_wp2
    go_ret
    obtain ⟨h1, h2⟩ := HA.out
    obtain ⟨h3, h4, h5⟩ := h1.some H.out.ris h2
    exact ⟨i, _, R, f, rfl, H.out.non (drewN_chg w n), ⟨h3, (find_name h2).1, by unfold oldV; rw [h2], by unfold oldX; rw [h2], by unfold tornL; rw [h2], fun e he => (h5 e he).symm⟩, (drewN_chg w n).non _, .inl rfl⟩
  | none =>
    have hroom2 : R.length < 64 := by
      rcases hroom with h1 | h1
      · rw [hf] at h1; cases h1
      · exact h1
    go_enter Try.func30, Try.ntmps30
    go_wp2_with fail
    refine (at_any q _ R s _ H.out).mono ?_
    rintro e w1 ⟨i, n, rfl, rfl, hat⟩
    rw [hf]
    have HA : Hid (AtP s.data.toList R i ∧ findL s.data.toList R = none) := ⟨hat, hf⟩
    have hiR : i ≤ R.length := hat.le
    clear hat hf hroom
    obtain ⟨w1, hw1⟩ : ∃ w1, w1 = w.drewN n := ⟨_, rfl⟩
    rw [← hw1]
    have HW : Hid (RSt w1 q (.slice ao R.length c) R ∧ Chg Non w w1) := by rw [hw1]; exact ⟨H.out.non (drewN_chg w n), drewN_chg w n⟩
    have c1 : w1.cell? ⟨q, 0, none⟩ = some (.slice ao R.length c) := HW.out.1.cell
    obtain ⟨rn, hrn⟩ : ∃ rn, rn = R.length := ⟨_, rfl⟩
    rw [← hrn] at c1 hiR hroom2 hlen hc
    have HN : Hid (rn = R.length) := hrn
    have hic : i ≤ c := by omega
    clear hw1 c0 hf0 hrn H
    cases ao with
    | none =>
      obtain ⟨hR0, rfl⟩ := hnil rfl
      have hrn0 : rn = 0 := by have := HN.out; rw [hR0] at this; simpa using this
      have HRN : Hid (R = []) := hR0
      obtain rfl : i = 0 := by omega
      subst hrn0
      clear hnil hsm hR0
      have c2 : (w1.alloc (.cells #[] 37)).cell? ⟨q, 0, none⟩ = some (.slice none 0 0) := by rw [World.cell?_of_block (Below.heap_alloc _ _ _ HW.out.1.lt)]; exact c1
      clear c1
      go_wp2_with (at_builtin; refine wpList_appF _ rfl _ _ rfl w1.heap.size _ 0 [] rfl ?ho _ 0 (rowE (R.take 0)) rfl ?hsrc ?h1 ?hb ?hbase ?hK)
      case ho => exact World.ownsRow_made w1 #[] 0 (Nat.le_refl _) (by decide) rfl
      case hsrc => exact .inl ⟨rfl, rfl, by simp [rowE]⟩
      case h1 => exact rowE_one (fun e he => HW.out.1.ent e (List.mem_of_mem_take he))
      case hb => omega
      case hbase => simp
      case hK =>
      intro l1 w2 ho2 hg2 hk2
      have hc2 : Chg Non w1 w2 := ((Chg.refl Non w1).alloc (.cells #[] 37)).trans (Chg.of_grown hg2) (fun k hk e => by simp [Value.ownBlock] at e; omega)
      have ho2' : w2.ownsRow w1.heap.size 37 5 l1 0 (rowE (R.take 0)) := by simpa using ho2
      have H2 : Hid (Chg Non w1 w2 ∧ w2.ownsRow w1.heap.size 37 5 l1 0 (rowE (R.take 0))) := ⟨hc2, ho2'⟩
      clear c2 ho2 hg2 hk2 hc2 ho2'
      go_wp2_with (at_builtin; refine wpList_appF _ rfl _ _ rfl w1.heap.size l1 0 (rowE (R.take 0)) rfl ?ho _ 1 (cellsE (fresh s.data.toList (.slice none 0 0) [])) rfl ?hsrc ?h1 ?hb ?hbase ?hK)
      case ho => exact H2.out.2.alloc _
      case hsrc =>
        refine .inr ⟨_, _, rfl, rfl, ?_⟩
        have := cells_new w2 (cellsE (fresh s.data.toList (.slice none 0 0) [])) 37
        simp only [cellsE, fresh, str_eta] at this ⊢
        exact this
      case h1 => exact cellsE_one (fresh_ok (w := w1) (.inl ⟨rfl, rfl⟩) (by simp))
      case hb => omega
      case hbase => have := H2.out.1.size; simp; omega
      case hK =>
      intro l2 w3 ho3 hg3 hk3
      have hc3 : Chg Non w1 w3 := (H2.out.1.alloc _).trans (Chg.of_grown hg3) (fun k hk e => by have := (H2.out.2.lt k e).1; omega)
      have H3 : Hid (Chg Non w1 w3 ∧ w3.ownsRow w1.heap.size 37 5 l2 (0 + 1) (rowE (R.take 0) ++ cellsE (fresh s.data.toList (.slice none 0 0) []))) := ⟨hc3, ho3⟩
      have c3 : w3.cell? ⟨q, 0, none⟩ = some (.slice none 0 0) := by have := (HW.out.1.non hc3).cell; rwa [← HN.out] at this
      clear ho3 hg3 hk3 hc3 H2
      go_wp2_with (at_builtin; refine wpList_appF _ rfl _ _ rfl w1.heap.size l2 (0 + 1) (rowE (R.take 0) ++ cellsE (fresh s.data.toList (.slice none 0 0) [])) rfl ?ho _ (0 - 0) (rowE (R.drop 0)) rfl ?hsrc ?h1 ?hb ?hbase ?hK)
      case ho => exact H3.out.2
      case hsrc => exact .inl ⟨rfl, rfl, by rw [show R = [] from HRN.out]; simp [rowE]⟩
      case h1 => exact rowE_one (fun e he => HW.out.1.ent e (List.mem_of_mem_drop he))
      case hb => omega
      case hbase => exact H3.out.1.size
      case hK =>
      intro l3 w4 ho4 hg4 hk4
      have hc4 : Chg Non w1 w4 := H3.out.1.trans (Chg.of_grown hg4) (fun k hk e => by have := (H3.out.2.lt k e).1; omega)
      have hrow : rowE (R.take 0) ++ cellsE (fresh s.data.toList (.slice none 0 0) []) ++ rowE (R.drop 0) = rowE (R.take 0 ++ fresh s.data.toList (.slice none 0 0) [] :: R.drop 0) := by
        rw [rowE_app]
        unfold rowE
        simp
      have ho5 : w4.ownsRow w1.heap.size 37 5 l3 (0 + 1 + (0 - 0)) (rowE (R.take 0 ++ fresh s.data.toList (.slice none 0 0) [] :: R.drop 0)) := by rw [← hrow]; simpa using ho4
      have hst4 := HW.out.1.non hc4
      clear ho4
      rcases ho5.2 with ⟨_, h0⟩ | ⟨g4, cap4, cur4, rfl, hb4, hh4, hr4⟩
      · omega
      · have c4 := hst4.cell
        have f4 : w4.frozen? ⟨q, 0, none⟩ = false := by simp [World.frozen?, hst4.blk]
        have H4 : Hid (RSt w4 q (.slice none R.length 0) R ∧ Chg Non w1 w4 ∧ w4.ownsRow w1.heap.size 37 5 (.slice (some ⟨g4, 0, none⟩) (0 + 1 + (0 - 0)) cap4) (0 + 1 + (0 - 0)) (rowE (R.take 0 ++ fresh s.data.toList (.slice none 0 0) [] :: R.drop 0)) ∧ w1.heap.size ≤ g4 ∧ w4.heap[g4]? = some (.cells cur4 37 (0, 0))) := ⟨hst4, hc4, ho5, hb4, hh4⟩
        clear hst4 hc4 ho5 hb4 hh4 hr4 hrow hg4 hk4 H3 c3
        rw [← HN.out] at c4
        go_wp2
        go_ret
        exact made_end HA.out.1 HA.out.2 HW.out.1 HW.out.2 H4.out.1 H4.out.2.1 H4.out.2.2.1 H4.out.2.2.2.1 (by have := HN.out; omega) (by have := HN.out; omega)
    | some x =>
      obtain ⟨g, rfl⟩ := hsm x rfl
      by_cases hicc : i < c
      · skip
        clear hnil hsm
        have c2 : (w1.alloc (.cells #[] 37)).cell? ⟨q, 0, none⟩ = some (.slice (some ⟨g, 0, none⟩) rn c) := by rw [World.cell?_of_block (Below.heap_alloc _ _ _ HW.out.1.lt)]; exact c1
        clear c1
        go_wp2_with (at_builtin; refine wpList_appF _ rfl _ _ rfl w1.heap.size _ 0 [] rfl ?ho _ i (rowE (R.take i)) rfl ?hsrc ?h1 ?hb ?hbase ?hK)
        case ho => exact World.ownsRow_made w1 #[] 0 (Nat.le_refl _) (by decide) rfl
        case hsrc => exact .inr ⟨_, _, rfl, by rw [rowE_len, List.length_take]; have := HN.out; omega, fun j u hj => by rw [Addr.add_lit]; exact row_cell (HW.out.1.non ((Chg.refl _ _).alloc _)) (by rw [← rowE_take] at hj; rw [List.getElem?_take] at hj; split at hj; exact (by simpa using hj); cases hj)⟩
        case h1 => exact rowE_one (fun e he => HW.out.1.ent e (List.mem_of_mem_take he))
        case hb => omega
        case hbase => simp
        case hK =>
        intro l1 w2 ho2 hg2 hk2
        have hc2 : Chg Non w1 w2 := ((Chg.refl Non w1).alloc (.cells #[] 37)).trans (Chg.of_grown hg2) (fun k hk e => by simp [Value.ownBlock] at e; omega)
        have ho2' : w2.ownsRow w1.heap.size 37 5 l1 i (rowE (R.take i)) := by simpa using ho2
        have H2 : Hid (Chg Non w1 w2 ∧ w2.ownsRow w1.heap.size 37 5 l1 i (rowE (R.take i))) := ⟨hc2, ho2'⟩
        clear c2 ho2 hg2 hk2 hc2 ho2'
        go_wp2_with (at_builtin; refine wpList_appF _ rfl _ _ rfl w1.heap.size l1 i (rowE (R.take i)) rfl ?ho _ 1 (cellsE (fresh s.data.toList (.slice none 0 0) [])) rfl ?hsrc ?h1 ?hb ?hbase ?hK)
        case ho => exact H2.out.2.alloc _
        case hsrc =>
          refine .inr ⟨_, _, rfl, rfl, ?_⟩
          have := cells_new w2 (cellsE (fresh s.data.toList (.slice none 0 0) [])) 37
          simp only [cellsE, fresh, str_eta] at this ⊢
          exact this
        case h1 => exact cellsE_one (fresh_ok (w := w1) (.inl ⟨rfl, rfl⟩) (by simp))
        case hb => omega
        case hbase => have := H2.out.1.size; simp; omega
        case hK =>
        intro l2 w3 ho3 hg3 hk3
        have hc3 : Chg Non w1 w3 := (H2.out.1.alloc _).trans (Chg.of_grown hg3) (fun k hk e => by have := (H2.out.2.lt k e).1; omega)
        have H3 : Hid (Chg Non w1 w3 ∧ w3.ownsRow w1.heap.size 37 5 l2 (i + 1) (rowE (R.take i) ++ cellsE (fresh s.data.toList (.slice none 0 0) []))) := ⟨hc3, ho3⟩
        have c3 : w3.cell? ⟨q, 0, none⟩ = some (.slice (some ⟨g, 0, none⟩) rn c) := by have := (HW.out.1.non hc3).cell; rwa [← HN.out] at this
        clear ho3 hg3 hk3 hc3 H2
        go_wp2_with (at_builtin; (refine wpList_appF _ rfl _ _ rfl w1.heap.size l2 (i + 1) (rowE (R.take i) ++ cellsE (fresh s.data.toList (.slice none 0 0) [])) rfl ?ho _ (rn - i) (rowE (R.drop i)) rfl ?hsrc ?h1 ?hb ?hbase ?hK))
        case ho => exact H3.out.2
        case hsrc => exact .inr ⟨_, _, rfl, by rw [rowE_len, List.length_drop, HN.out], fun j u hj => by rw [Addr.add_lit]; rw [← Nat.zero_add (i * 5 + j)]; exact row_cell (HW.out.1.non H3.out.1) (by rw [← rowE_drop, List.getElem?_drop] at hj; simpa using hj)⟩
        case h1 => exact rowE_one (fun e he => HW.out.1.ent e (List.mem_of_mem_drop he))
        case hb => omega
        case hbase => exact H3.out.1.size
        case hK =>
        intro l3 w4 ho4 hg4 hk4
        have hc4 : Chg Non w1 w4 := H3.out.1.trans (Chg.of_grown hg4) (fun k hk e => by have := (H3.out.2.lt k e).1; omega)
        have hrow : rowE (R.take i) ++ cellsE (fresh s.data.toList (.slice none 0 0) []) ++ rowE (R.drop i) = rowE (R.take i ++ fresh s.data.toList (.slice none 0 0) [] :: R.drop i) := by
          rw [rowE_app]
          unfold rowE
          simp
        have ho5 : w4.ownsRow w1.heap.size 37 5 l3 (i + 1 + (rn - i)) (rowE (R.take i ++ fresh s.data.toList (.slice none 0 0) [] :: R.drop i)) := by rw [← hrow]; simpa using ho4
        have hst4 := HW.out.1.non hc4
        clear ho4
        rcases ho5.2 with ⟨_, h0⟩ | ⟨g4, cap4, cur4, rfl, hb4, hh4, hr4⟩
        · omega
        · have c4 := hst4.cell
          have f4 : w4.frozen? ⟨q, 0, none⟩ = false := by simp [World.frozen?, hst4.blk]
          have H4 : Hid (RSt w4 q (.slice (some ⟨g, 0, none⟩) R.length c) R ∧ Chg Non w1 w4 ∧ w4.ownsRow w1.heap.size 37 5 (.slice (some ⟨g4, 0, none⟩) (i + 1 + (rn - i)) cap4) (i + 1 + (rn - i)) (rowE (R.take i ++ fresh s.data.toList (.slice none 0 0) [] :: R.drop i)) ∧ w1.heap.size ≤ g4 ∧ w4.heap[g4]? = some (.cells cur4 37 (0, 0))) := ⟨hst4, hc4, ho5, hb4, hh4⟩
          clear hst4 hc4 ho5 hb4 hh4 hr4 hrow hg4 hk4 H3 c3
          rw [← HN.out] at c4
          go_wp2
          go_ret
          exact made_end HA.out.1 HA.out.2 HW.out.1 HW.out.2 H4.out.1 H4.out.2.1 H4.out.2.2.1 H4.out.2.2.2.1 (by have := HN.out; omega) (by have := HN.out; omega)
      · have hci : c = i := by omega
        have hri : rn = i := by omega
        subst hci
        subst hri
        clear hnil hsm
        have c2 : (w1.alloc (.cells #[] 37)).cell? ⟨q, 0, none⟩ = some (.slice (some ⟨g, 0, none⟩) rn rn) := by rw [World.cell?_of_block (Below.heap_alloc _ _ _ HW.out.1.lt)]; exact c1
        clear c1
        go_wp2_with (at_builtin; refine wpList_appF _ rfl _ _ rfl w1.heap.size _ 0 [] rfl ?ho _ rn (rowE (R.take rn)) rfl ?hsrc ?h1 ?hb ?hbase ?hK)
        case ho => exact World.ownsRow_made w1 #[] 0 (Nat.le_refl _) (by decide) rfl
        case hsrc => exact .inr ⟨_, _, rfl, by rw [rowE_len, List.length_take]; have := HN.out; omega, fun j u hj => by rw [Addr.add_lit]; exact row_cell (HW.out.1.non ((Chg.refl _ _).alloc _)) (by rw [← rowE_take] at hj; rw [List.getElem?_take] at hj; split at hj; exact (by simpa using hj); cases hj)⟩
        case h1 => exact rowE_one (fun e he => HW.out.1.ent e (List.mem_of_mem_take he))
        case hb => omega
        case hbase => simp
        case hK =>
        intro l1 w2 ho2 hg2 hk2
        have hc2 : Chg Non w1 w2 := ((Chg.refl Non w1).alloc (.cells #[] 37)).trans (Chg.of_grown hg2) (fun k hk e => by simp [Value.ownBlock] at e; omega)
        have ho2' : w2.ownsRow w1.heap.size 37 5 l1 rn (rowE (R.take rn)) := by simpa using ho2
        have H2 : Hid (Chg Non w1 w2 ∧ w2.ownsRow w1.heap.size 37 5 l1 rn (rowE (R.take rn))) := ⟨hc2, ho2'⟩
        clear c2 ho2 hg2 hk2 hc2 ho2'
        go_wp2_with (at_builtin; refine wpList_appF _ rfl _ _ rfl w1.heap.size l1 rn (rowE (R.take rn)) rfl ?ho _ 1 (cellsE (fresh s.data.toList (.slice none 0 0) [])) rfl ?hsrc ?h1 ?hb ?hbase ?hK)
        case ho => exact H2.out.2.alloc _
        case hsrc =>
          refine .inr ⟨_, _, rfl, rfl, ?_⟩
          have := cells_new w2 (cellsE (fresh s.data.toList (.slice none 0 0) [])) 37
          simp only [cellsE, fresh, str_eta] at this ⊢
          exact this
        case h1 => exact cellsE_one (fresh_ok (w := w1) (.inl ⟨rfl, rfl⟩) (by simp))
        case hb => omega
        case hbase => have := H2.out.1.size; simp; omega
        case hK =>
        intro l2 w3 ho3 hg3 hk3
        have hc3 : Chg Non w1 w3 := (H2.out.1.alloc _).trans (Chg.of_grown hg3) (fun k hk e => by have := (H2.out.2.lt k e).1; omega)
        have H3 : Hid (Chg Non w1 w3 ∧ w3.ownsRow w1.heap.size 37 5 l2 (rn + 1) (rowE (R.take rn) ++ cellsE (fresh s.data.toList (.slice none 0 0) []))) := ⟨hc3, ho3⟩
        have c3 : w3.cell? ⟨q, 0, none⟩ = some (.slice (some ⟨g, 0, none⟩) rn rn) := by have := (HW.out.1.non hc3).cell; rwa [← HN.out] at this
        clear ho3 hg3 hk3 hc3 H2
        go_wp2_with (at_builtin; refine wpList_appF _ rfl _ _ rfl w1.heap.size l2 (rn + 1) (rowE (R.take rn) ++ cellsE (fresh s.data.toList (.slice none 0 0) [])) rfl ?ho _ 0 (rowE (R.drop rn)) rfl ?hsrc ?h1 ?hb ?hbase ?hK)
        case ho => exact H3.out.2
        case hsrc => exact .inr ⟨_, _, rfl, by rw [rowE_len, List.length_drop]; have := HN.out; omega, fun j u hj => by exfalso; rw [List.drop_eq_nil_of_le (by have := HN.out; omega)] at hj; simp [rowE] at hj⟩
        case h1 => exact rowE_one (fun e he => HW.out.1.ent e (List.mem_of_mem_drop he))
        case hb => omega
        case hbase => exact H3.out.1.size
        case hK =>
        intro l3 w4 ho4 hg4 hk4
        have hc4 : Chg Non w1 w4 := H3.out.1.trans (Chg.of_grown hg4) (fun k hk e => by have := (H3.out.2.lt k e).1; omega)
        have hrow : rowE (R.take rn) ++ cellsE (fresh s.data.toList (.slice none 0 0) []) ++ rowE (R.drop rn) = rowE (R.take rn ++ fresh s.data.toList (.slice none 0 0) [] :: R.drop rn) := by
          rw [rowE_app]
          unfold rowE
          simp
        have ho5 : w4.ownsRow w1.heap.size 37 5 l3 (rn + 1) (rowE (R.take rn ++ fresh s.data.toList (.slice none 0 0) [] :: R.drop rn)) := by rw [← hrow]; simpa using ho4
        have hst4 := HW.out.1.non hc4
        clear ho4
        rcases ho5.2 with ⟨_, h0⟩ | ⟨g4, cap4, cur4, rfl, hb4, hh4, hr4⟩
        · omega
        · have c4 := hst4.cell
          have f4 : w4.frozen? ⟨q, 0, none⟩ = false := by simp [World.frozen?, hst4.blk]
          have H4 : Hid (RSt w4 q (.slice (some ⟨g, 0, none⟩) R.length rn) R ∧ Chg Non w1 w4 ∧ w4.ownsRow w1.heap.size 37 5 (.slice (some ⟨g4, 0, none⟩) (rn + 1) cap4) (rn + 1) (rowE (R.take rn ++ fresh s.data.toList (.slice none 0 0) [] :: R.drop rn)) ∧ w1.heap.size ≤ g4 ∧ w4.heap[g4]? = some (.cells cur4 37 (0, 0))) := ⟨hst4, hc4, ho5, hb4, hh4⟩
          clear hst4 hc4 ho5 hb4 hh4 hr4 hrow hg4 hk4 H3 c3
          rw [← HN.out] at c4
          go_wp2
          go_ret
          exact made_end HA.out.1 HA.out.2 HW.out.1 HW.out.2 H4.out.1 H4.out.2.1 H4.out.2.2.1 H4.out.2.2.2.1 (by have := HN.out; omega) (by have := HN.out; omega)
end Go.Proofs.Ytpabijfamnghjaa
