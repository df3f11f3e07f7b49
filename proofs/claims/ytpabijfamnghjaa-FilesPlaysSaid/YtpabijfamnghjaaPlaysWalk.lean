/-
  The walk of FilesPlays: it returns true, and nothing that was there is written.
-/
import Derived.Test.YtpabijfamnghjaaDo
namespace Go.Proofs.Ytpabijfamnghjaa
open Go.RowKit
set_option linter.unusedVariables false

/-- A list of calls, as the walk is told it. -/
def OpRow (W : World) (ad : Option Addr) (len : Nat) : Prop :=
  ∀ i, i < len → ∃ b off call s so sn sc n ys, ad = some ⟨b, off, none⟩ ∧ b < W.heap.size ∧ W.cell? ⟨b, off + i * 4, none⟩ = some (.int .i64 call) ∧ W.cell? ⟨b, off + i * 4 + 1, none⟩ = some (.string s) ∧
    W.cell? ⟨b, off + i * 4 + 2, none⟩ = some (.slice so sn sc) ∧ W.cell? ⟨b, off + i * 4 + 3, none⟩ = some (.int .i64 n) ∧ Rd W (.slice so sn sc) ys ∧ sn ≤ 140737488351232 ∧ s.size ≤ maxLen

/-- Both stores within the law. -/
structure Play (w wr : World) (p b : Nat) (L : List Ent) (q : Nat) (sv : Value) (R : List Ent) : Prop where
  both : Both wr p b L q sv R
  chg : Chg Non w wr
  row : ∀ k, sv.ownBlock = some k → w.heap.size ≤ k
  nb : w.heap.size ≤ b
  nq : w.heap.size ≤ q

theorem Rd.lt {w : World} {v : Value} {xs : List Int} (h : Rd w v xs) (hne : xs ≠ []) : ∀ k, v.ownBlock = some k → k < w.heap.size := by
  intro k hk
  obtain ⟨ao, n, c, rfl, hn, hc, hmx, h0, hx⟩ := h
  cases ao with
  | none => simp [Value.ownBlock] at hk
  | some x =>
    have e' : some x.block = some k := hk
    cases e'
    have hpos : 0 < xs.length := List.length_pos_iff.2 hne
    have h1 := hx x rfl 0 (xs[0]'hpos) (by simp)
    have hb : (x.add 0).block = x.block := by unfold Addr.add; split <;> rfl
    have := World.block_lt_of_cell? w _ h1
    rwa [hb] at this

theorem Play.next {w wr w' : World} {p b : Nat} {L L' : List Ent} {q : Nat} {sv sv' : Value} {R R' : List Ent} (h : Play w wr p b L q sv R) (hb : Both w' p b L' q sv' R') (hc : Chg (DS b q sv) wr w') (hr : ∀ k, sv'.ownBlock = some k → sv.ownBlock = some k ∨ wr.heap.size ≤ k) : Play w w' p b L' q sv' R' := by
  refine ⟨hb, h.chg.trans hc (fun i hi e => ?_), fun k e => ?_, h.nb, h.nq⟩
  · rcases e with e | e | e
    · have := h.nb; omega
    · have := h.nq; omega
    · have := h.row i e; omega
  · rcases hr k e with x | x
    · exact h.row k x
    · have := h.chg.size; omega

theorem Play.non {w wr w' : World} {p b : Nat} {L : List Ent} {q : Nat} {sv : Value} {R : List Ent} (h : Play w wr p b L q sv R) (hc : Chg Non wr w') : Play w w' p b L q sv R := ⟨h.both.non hc, h.chg.trans hc (fun _ _ x => x), h.row, h.nb, h.nq⟩

theorem find_of_mem {L : List Ent} {e : Ent} (h : e ∈ L) : (findL e.name L).isSome = true := by
  unfold findL
  rw [List.find?_isSome]
  exact ⟨e, h, by simp⟩

theorem St.names_le {w : World} {p b : Nat} {L : List Ent} (h : St w p b L) : ∀ x ∈ namesL L, x.length ≤ maxLen := by
  have := strKeys_le (R := heldElem) h.map Try.underlying9
  rwa [strKeys_dmap] at this

set_option maxRecDepth 100000 in
set_option maxHeartbeats 4000000 in
theorem plays_walk (ad : Option Addr) (len cap : Nat) (w : World) (hl : len ≤ 2932031007402) (hrow : OpRow w ad len) :
    Calls Try.prog 3 #[.slice ad len cap] w fun e w' => e = .returned (.bool true) ∧ Below w.heap.size w w' := by
  have HR : Hid (OpRow w ad len) := hrow
  clear hrow
  go_enter Try.func3, Try.ntmps3
  go_wp2_with fail
  refine (head_any _).mono ?_
  rintro e w1 ⟨rfl, hc1⟩
  go_wp2_with fail
  refine (new_any _).mono ?_
  rintro e w2 ⟨p, b, rfl, hs2, hc2, hp2, hb2⟩
  have hcw : Chg Non w w2 := hc1.trans hc2 (fun _ _ x => x)
  have HP0 : Hid (Play w (w2.alloc (.cells #[.slice none 0 0] 29)) p b [] w2.heap.size (.slice none 0 0) []) :=
    ⟨⟨hs2.non ((Chg.refl _ _).alloc _), ⟨heap_alloc_new w2 _, World.ownsRow_nil _ _ _ _, fun e he => by simp at he, by simp, List.Pairwise.nil⟩, rfl⟩, hcw.alloc _, fun k e => by simp [Value.ownBlock] at e, by have := hc1.size; omega, hcw.size⟩
  obtain ⟨q, hq⟩ : ∃ q, q = w2.heap.size := ⟨_, rfl⟩
  rw [← hq] at HP0
  clear hs2 hc1 hc2 hp2 hb2 hcw
  go_wp2_with fail
  rw [← hq]
  go_loopw [6, 7, 8, 9, 10, 11, 12, 13] (fun i _ _ _ _ _ _ _ wr => ∃ (k : Nat) (L : List Ent) (sv : Value) (R : List Ent), k ≤ len ∧ i = .int .i64 k ∧ Play w wr p b L q sv R)
    (fun i _ _ _ _ _ _ _ _ => len - (intOf i).toNat)
  case atStart => exact ⟨0, [], _, [], Nat.zero_le _, rfl, HP0.out⟩
  case round =>
    obtain ⟨k, L, sv, R, hk, rfl, hP⟩ := hrel
    have HP : Hid (Play w wr p b L q sv R) := hP
    clear hP HP0 hq
    by_cases hlt : k < len
    · obtain ⟨ob, off, call, s, so, sn, sc, n, ys, rfl, hob, e0, e1, e2, e3, hys, hsn, hss⟩ := HR.out k hlt
      have hblk : wr.heap[ob]? = w.heap[ob]? := HP.out.chg.block ob hob (fun x => x)
      have d0 : wr.cell? ⟨ob, off + k * 4, none⟩ = some (.int .i64 call) := by rw [← e0]; exact World.cell?_of_block hblk
      have d1 : wr.cell? ⟨ob, off + k * 4 + 1, none⟩ = some (.string s) := by rw [← e1]; exact World.cell?_of_block hblk
      have d2 : wr.cell? ⟨ob, off + k * 4 + 2, none⟩ = some (.slice so sn sc) := by rw [← e2]; exact World.cell?_of_block hblk
      have d3 : wr.cell? ⟨ob, off + k * 4 + 3, none⟩ = some (.int .i64 n) := by rw [← e3]; exact World.cell?_of_block hblk
      have HY : Hid (Rd wr (.slice so sn sc) ys ∧ (ys ≠ [] → ∀ k, (Value.slice so sn sc).ownBlock = some k → k ≠ b ∧ ¬ QS q sv k)) := by
        refine ⟨hys.keep (fun j _ hj => HP.out.chg.block j hj (fun x => x)), fun hne j e => ?_⟩
        have h1 := hys.lt hne j e
        have h2 := HP.out.nb
        have h3 := HP.out.nq
        refine ⟨by omega, ?_⟩
        rintro (x | x)
        · omega
        · have := HP.out.row j x; omega
      clear e0 e1 e2 e3 hys hblk hob
      go_wp2_with fail
      refine (do_any p b L q sv R call n s hss so sn sc ys _ HP.out.both HY.out.1 hsn HY.out.2).mono ?_
      rintro e w3 ⟨rfl, L1, sv1, R1, hb3, hc3, hr3⟩
      have H3 : Hid (Play w w3 p b L1 q sv1 R1) := HP.out.next hb3 hc3 hr3
      clear hb3 hc3 hr3 HY HP d0 d1 d2 d3
      go_wp2_with fail
      refine (names_any p b L1 _ H3.out.both.a).mono ?_
      rintro e w4 ⟨g, gcap, rfl, hrow4, hc4⟩
      have H4 : Hid (Play w w4 p b L1 q sv1 R1 ∧ w4.ownsRow w3.heap.size 9 1 (.slice (some ⟨g, 0, none⟩) L1.length gcap) L1.length ((namesL L1).map encStr) ∧ w.heap.size ≤ w3.heap.size) := ⟨H3.out.non hc4, hrow4, H3.out.chg.size⟩
      obtain ⟨so1, c1, rfl, hcc, hcm, hnil, hsm⟩ := H4.out.1.both.r.shape
      have c0 := H4.out.1.both.r.cell
      have hll : R1.length = L1.length := H4.out.1.both.same.len.symm
      rw [hll] at c0 hcc
      have hl64 : L1.length ≤ 64 := H4.out.1.both.a.len
      obtain ⟨ln, hln⟩ : ∃ ln, ln = L1.length := ⟨_, rfl⟩
      have HLN : Hid (ln = L1.length ∧ R1.length = L1.length) := ⟨hln, hll⟩
      rw [← hln] at c0 hl64 hcc ⊢
      clear hrow4 hc4 H3 hln hll
      go_wp2_with fail
      clear c0
      go_loopw [9, 10, 11, 12, 13] (fun j _ _ _ _ wq => ∃ m : Nat, m ≤ ln ∧ j = .int .i64 m ∧ Play w wq p b L1 q (.slice so1 R1.length c1) R1 ∧ wq.ownsRow w3.heap.size 9 1 (.slice (some ⟨g, 0, none⟩) L1.length gcap) L1.length ((namesL L1).map encStr))
        (fun j _ _ _ _ _ => ln - (intOf j).toNat)
      case atStart => exact ⟨0, Nat.zero_le _, rfl, H4.out.1, H4.out.2.1⟩
      case round =>
        obtain ⟨m, hm, rfl, hPq, hrq⟩ := hrel
        rename_i wr0 _ _ _ _ _
        by_cases hmlt : m < ln
        · have hmR : m < R1.length := by have := HLN.out; omega
          have hat : R1[m]? = some (R1[m]'hmR) := by simp
          obtain ⟨f, hf⟩ : ∃ f, f = R1[m]'hmR := ⟨_, rfl⟩
          rw [← hf] at hat
          obtain ⟨g1, c1', ao, an, ac, fo, fn, fc, esv, -, -, t0, -, -, -, -, -, -, -, -⟩ := hPq.both.r.five hat
          have hso : so1 = some ⟨g1, 0, none⟩ := by cases esv; rfl
          subst hso
          have hcq := hPq.both.r.cell
          have hnm : (namesL L1)[m]? = some f.name := by
            rw [hPq.both.same.names]
            unfold namesL
            rw [List.getElem?_map, hat]
            rfl
          have hcn : wr.cell? ⟨g, m, none⟩ = some (.string ⟨f.name.toArray⟩) := by
            rw [hrq.cellAt m (by have := HLN.out; omega), List.getElem?_map, hnm]
            rfl
          have hcn1 := hcn
          obtain ⟨sf, hsf⟩ : ∃ sf : ByteArray, sf = ⟨f.name.toArray⟩ := ⟨_, rfl⟩
          have hsd : sf.data.toList = f.name := by rw [hsf]
          have hsz : sf.size ≤ maxLen := by
            have h1 := hPq.both.a.names_le f.name (List.mem_of_getElem? hnm)
            have h2 : sf.size = sf.data.toList.length := rfl
            rw [h2, hsd]
            exact h1
          rw [← hsf] at t0 hcn
          rw [HLN.out.2, ← HLN.out.1] at hcq
          have hfL : (findL sf.data.toList L1).isSome = true := by
            rw [hsd]
            have hml := List.mem_of_getElem? hnm
            unfold namesL at hml
            obtain ⟨e', he', hen⟩ := List.mem_map.1 hml
            rw [← hen]
            exact find_of_mem he'
          have HQ : Hid (Play w wr p b L1 q (.slice (some ⟨g1, 0, none⟩) R1.length c1) R1 ∧ wr.ownsRow w3.heap.size 9 1 (.slice (some ⟨g, 0, none⟩) L1.length gcap) L1.length ((namesL L1).map encStr) ∧ (findL sf.data.toList L1).isSome = true ∧ wr.cell? ⟨g, m, none⟩ = some (.string sf)) := ⟨hPq, hrq, hfL, hcn⟩
          clear hPq hrq hfL hat hf esv hnm hcn1 hsf hsd H4
          have hm1 : (m : Int) < ln := by omega
          go_wp2_with fail
          go_quiet (fail)
          go_wp2_with fail
          obtain ⟨w5, hw5⟩ : ∃ w5, w5 = wr.drewN nq := ⟨_, rfl⟩
          have H5 : Hid (Play w w5 p b L1 q (.slice (some ⟨g1, 0, none⟩) R1.length c1) R1 ∧ w5.ownsRow w3.heap.size 9 1 (.slice (some ⟨g, 0, none⟩) L1.length gcap) L1.length ((namesL L1).map encStr) ∧ (findL sf.data.toList L1).isSome = true ∧ w5.cell? ⟨g, m, none⟩ = some (.string sf)) := by
            rw [hw5]
            exact ⟨HQ.out.1.non (drewN_chg wr _), HQ.out.2.1, HQ.out.2.2.1, HQ.out.2.2.2⟩
          rw [← hw5]
          clear hw5 HQ t0 hcn hcq
          refine (read_any p b L1 sf _ H5.out.1.both.a hsz).mono ?_
          rintro e w6 ⟨v6, rfl, ho6, hc6, hk6⟩
          obtain ⟨xo, xn, xc, rfl, -⟩ := ho6.shape
          have e6 : readR sf.data.toList L1 = 0 := by
            unfold readR
            obtain ⟨e9, he9⟩ := Option.isSome_iff_exists.1 H5.out.2.2.1
            rw [he9]
          rw [e6]
          have hrow6 : w6.ownsRow w3.heap.size 9 1 (.slice (some ⟨g, 0, none⟩) L1.length gcap) L1.length ((namesL L1).map encStr) := H5.out.2.1.kept (row := none) ⟨hc6.os, hc6.tape, hc6.output, hc6.size, fun k hk _ => hc6.block k hk (fun x => x)⟩ (.inr (by simp [Value.ownBlock]))
          have H6 : Hid (Play w w6 p b L1 q (.slice (some ⟨g1, 0, none⟩) R1.length c1) R1 ∧ w6.ownsRow w3.heap.size 9 1 (.slice (some ⟨g, 0, none⟩) L1.length gcap) L1.length ((namesL L1).map encStr) ∧ OwnV w6 (.slice xo xn xc) (seenL sf.data.toList L1)) := ⟨H5.out.1.non hc6, hrow6, ho6⟩
          have k6 : w6.cell? ⟨g, m, none⟩ = some (.string sf) := by
            have hbk : g < w5.heap.size := World.block_lt_of_cell? w5 _ H5.out.2.2.2
            rw [← H5.out.2.2.2]
            exact World.cell?_of_block (hc6.block g hbk (fun x => x))
          clear ho6 hc6 hk6 hrow6 e6 H5
          go_wp2_with fail
          refine (rread_any q _ R1 sf _ H6.out.1.both.r).mono ?_
          rintro e w7 ⟨v7, rfl, ho7, hc7, hk7⟩
          obtain ⟨zo, zn, zc, rfl, -⟩ := ho7.shape
          rw [← H6.out.1.both.same.seen sf.data.toList] at ho7
          have hx7 := H6.out.2.2.keep (w' := w7) (fun k e => hc7.block k (H6.out.2.2.lt k e) (fun x => x))
          have hT0 := run_str w7 _ _ hx7.rd
          have hT1 := run_str w7 _ _ ho7.rd
          have hrow7 : w7.ownsRow w3.heap.size 9 1 (.slice (some ⟨g, 0, none⟩) L1.length gcap) L1.length ((namesL L1).map encStr) := H6.out.2.1.kept (row := none) ⟨hc7.os, hc7.tape, hc7.output, hc7.size, fun k hk _ => hc7.block k hk (fun x => x)⟩ (.inr (by simp [Value.ownBlock]))
          have H7 : Hid (Play w w7 p b L1 q (.slice (some ⟨g1, 0, none⟩) R1.length c1) R1 ∧ w7.ownsRow w3.heap.size 9 1 (.slice (some ⟨g, 0, none⟩) L1.length gcap) L1.length ((namesL L1).map encStr)) := ⟨H6.out.1.non hc7, hrow7⟩
          generalize strOfNums (seenL sf.data.toList L1) = sx at hT0 hT1
          generalize readR sf.data.toList R1 = rc
          clear ho7 hc7 hk7 hx7 hrow7 H6 k6
          go_wp2
          go_roundw
          case rel => exact ⟨m + 1, by omega, by go_num, H7.out.1, H7.out.2⟩
          case measure => simp [intOf]; omega
        · have hmge : ¬ (m : Int) < ln := by omega
          have HF : Hid (Play w wr p b L1 q (.slice so1 R1.length c1) R1) := hPq
          clear hPq hrq H4
          go_wp2
          go_roundw
          case rel => exact ⟨k + 1, _, _, _, by omega, by go_num, HF.out⟩
          case measure => simp [intOf]; omega
    · have hge : ¬ (k : Int) < len := by omega
      go_wp2
      go_ret
      exact ⟨rfl, HP.out.chg.below (Nat.le_refl _) (fun k x => x.elim)⟩
end Go.Proofs.Ytpabijfamnghjaa
