/-
  The walk of FilesFull: it returns true, and nothing that was there is written.
-/
import Derived.Test.YtpabijfamnghjaaTurn
import Derived.Test.YtpabijfamnghjaaNames
namespace Go.Proofs.Ytpabijfamnghjaa
open Go.RowKit
set_option linter.unusedVariables false

/-- The i-th name. -/
def nmI (i : Nat) : List UInt8 := [102, UInt8.ofNat (97 + i / 26), UInt8.ofNat (97 + i % 26)]

theorem nmI_inj {i j : Nat} (hi : i < 68) (hj : j < 68) (h : nmI i = nmI j) : i = j := by
  unfold nmI at h
  simp only [List.cons.injEq, and_true, true_and] at h
  obtain ⟨h1, h2⟩ := h
  have e1 := congrArg UInt8.toNat h1
  have e2 := congrArg UInt8.toNat h2
  simp at e1 e2
  omega

theorem nmI_ok : ∀ i, i < 68 → isNm (nmI i) = true := by decide

/-- What the store is when i files were put. -/
structure Fill (L : List Ent) (i : Nat) : Prop where
  len : L.length = min i 64
  from_ : ∀ e ∈ L, ∃ j, j < i ∧ e.name = nmI j
  first : 1 ≤ i → (findL (nmI 0) L).isSome = true

theorem Fill.new {L : List Ent} {i : Nat} (h : Fill L i) (hi : i < 68) : findL (nmI i) L = none := by
  unfold findL
  rw [List.find?_eq_none]
  intro e he
  obtain ⟨j, hj, e1⟩ := h.from_ e he
  simp only [beq_iff_eq]
  intro e2
  have := nmI_inj (by omega) hi (e1.symm.trans e2)
  omega

theorem del_none {nm : List UInt8} {L : List Ent} (h : findL nm L = none) : delL nm L = L := by
  unfold delL
  rw [List.filter_eq_self]
  intro x hx
  have := List.find?_eq_none.1 h x hx
  simpa using this

theorem Fill.put {L : List Ent} {i : Nat} (h : Fill L i) (hi : i < 64) (v : Value) (xs : List Int) : Fill (putL (fresh (nmI i) v xs) L) (i + 1) := by
  have hn := h.new (by omega)
  refine ⟨?_, fun e he => ?_, fun _ => ?_⟩
  · unfold putL
    rw [len_ins, show (fresh (nmI i) v xs).name = nmI i from rfl, del_none hn, h.len]
    omega
  · rcases mem_put.1 he with rfl | ⟨he, _⟩
    · exact ⟨i, by omega, rfl⟩
    · obtain ⟨j, hj, e1⟩ := h.from_ e he
      exact ⟨j, by omega, e1⟩
  · by_cases h0 : i = 0
    · subst h0
      have := find_put_same (fresh (nmI 0) v xs) L
      rw [show (fresh (nmI 0) v xs).name = nmI 0 from rfl] at this
      rw [this]
      rfl
    · rw [find_put_other (e := fresh (nmI i) v xs) (fun e => h0 (nmI_inj (by omega) (by omega) e).symm) L]
      exact h.first (by omega)

theorem Fill.full {L : List Ent} {i : Nat} (h : Fill L i) (hi : 64 ≤ i) : Fill L (i + 1) :=
  ⟨by have := h.len; omega, fun e he => by obtain ⟨j, hj, e1⟩ := h.from_ e he; exact ⟨j, by omega, e1⟩, fun _ => h.first (by omega)⟩

theorem Fill.may {L : List Ent} {i len : Nat} (h : Fill L i) (hi : i < 68) (hl : len ≤ 65536) : mayL (nmI i) len L = if i < 64 then 0 else 24 := by
  unfold mayL
  rw [nmI_ok i hi, h.new hi, h.len, if_neg (by decide), if_neg (by omega)]
  by_cases h1 : i < 64
  · rw [if_neg (by omega), if_pos h1]
  · rw [if_pos ⟨rfl, by omega⟩, if_neg h1]

theorem name_str (k : Nat) (hk : k < 68) : ((⟨#[102]⟩ : ByteArray) ++ strOfNums [97 + (k : Int) / 26, 97 + (k : Int) % 26]).data.toList = nmI k := by
  have e1 : (97 + (k : Int) / 26) = ((97 + k / 26 : Nat) : Int) := by omega
  have e2 : (97 + (k : Int) % 26) = ((97 + k % 26 : Nat) : Int) := by omega
  rw [e1, e2]
  unfold nmI strOfNums
  rfl

set_option maxRecDepth 100000 in
set_option maxHeartbeats 2000000 in
theorem full_walk (N : Nat) (hN : N ≤ 255) (ao : Option Addr) (an ac : Nat) (xs : List Int) (w : World) (ha : Rd w (.slice ao an ac) xs) (hal : an ≤ 140737488351232) :
    Calls Try.prog 5 #[.int .u8 N, .slice ao an ac] w fun e w' => e = .returned (.bool true) ∧ Below w.heap.size w w' := by
  have HX : Hid (an = xs.length) := by
    obtain ⟨_, _, _, e, h1, -⟩ := ha
    cases e
    exact h1
  have H0 : Hid (Rd w (.slice ao an ac) xs) := ha
  clear ha
  go_enter Try.func5, Try.ntmps5
  go_wp2_with fail
  refine (head_any _).mono ?_
  rintro e w1 ⟨rfl, hc1⟩
  go_wp2_with fail
  refine (new_any _).mono ?_
  rintro e w2 ⟨p, b, rfl, hs2, hc2, hp2, hb2⟩
  have H2 : Hid (St w2 p b [] ∧ Chg Non w w2 ∧ w.heap.size ≤ b) := ⟨hs2, hc1.trans hc2 (fun _ _ x => x), by have := hc1.size; omega⟩
  clear hs2 hc1 hc2 hp2 hb2
  by_cases hlong : 65536 < an
  · go_wp2
    all_goals (go_ret; exact ⟨ret_bool (by first | rfl | (simp; omega)), H2.out.2.1.below (Nat.le_refl _) (fun k x => x.elim)⟩)
  · go_wp2_with fail
    obtain ⟨M, hM, hM2⟩ : ∃ M : Nat, (N : Int) % 68 = M ∧ M < 68 := ⟨N % 68, by omega, by omega⟩
    try rw [hM]
    go_loopw [8, 9, 10] (fun i _ _ wr => ∃ (k : Nat) (L : List Ent), k ≤ M ∧ i = .int .i64 k ∧ Fill L k ∧ St wr p b L ∧ Chg Non w wr)
      (fun i _ _ _ => M - (intOf i).toNat)
    case atStart => exact ⟨0, [], Nat.zero_le _, rfl, ⟨rfl, fun e he => by simp at he, fun h => by omega⟩, H2.out.1, H2.out.2.1⟩
    case round =>
      obtain ⟨k, L, hk, rfl, hF, hst, hc⟩ := hrel
      have HR : Hid (Fill L k ∧ St wr p b L ∧ Chg Non w wr) := ⟨hF, hst, hc⟩
      clear hF hst hc
      by_cases hlt : k < M
      · have hstr := run_str (wr.alloc (.cells #[.int .u8 (97 + (k : Int) / 26), .int .u8 (97 + (k : Int) % 26)] 5)) _ _ (Rd.lit wr [97 + (k : Int) / 26, 97 + (k : Int) % 26] (0, 0) (show 2 ≤ maxLen by decide))
        have HNM : Hid (((⟨#[102]⟩ : ByteArray) ++ strOfNums [97 + (k : Int) / 26, 97 + (k : Int) % 26]).data.toList = nmI k) := name_str k (by omega)
        have hz : (strOfNums [97 + (k : Int) / 26, 97 + (k : Int) % 26]).size ≤ 2 := by simp [strOfNums, ByteArray.size]
        obtain ⟨sK, hsK⟩ : ∃ sK, sK = strOfNums [97 + (k : Int) / 26, 97 + (k : Int) % 26] := ⟨_, rfl⟩
        rw [← hsK] at hstr HNM hz
        simp only [List.length_cons, List.length_nil] at hstr
        clear hsK
        go_wp2_with fail
        clear hstr
        have hst1 : St (wr.alloc (.cells #[.int .u8 (97 + (k : Int) / 26), .int .u8 (97 + (k : Int) % 26)] 5)) p b L := HR.out.2.1.non ((Chg.refl _ _).alloc _)
        have hc1 : Chg Non w (wr.alloc (.cells #[.int .u8 (97 + (k : Int) / 26), .int .u8 (97 + (k : Int) % 26)] 5)) := HR.out.2.2.alloc _
        refine (put_post p b L _ _ xs _ hst1 ?_ (H0.out.keep (fun q _ hq => hc1.block q hq (fun x => x)))).mono ?_
        · have : ((⟨#[102]⟩ : ByteArray) ++ sK).size = ((⟨#[102]⟩ : ByteArray) ++ sK).data.toList.length := rfl
          rw [this, HNM.out]
          show 3 ≤ maxLen
          decide
        rintro e w3 ⟨rfl, hpost⟩
        rw [HNM.out] at hpost ⊢
        have hm : mayL (nmI k) xs.length L = if k < 64 then 0 else 24 := HR.out.1.may (by omega) (by have := HX.out; omega)
        have hc3 : Chg Non w w3 := hc1.trans hpost.chg (fun i hi e => by cases e; have := H2.out.2.2; omega)
        by_cases h64 : k < 64
        · rw [if_pos h64] at hm
          rw [hm]
          obtain ⟨v, hst3, -⟩ := hpost.yes hm
          have H3 : Hid (Fill (putL (fresh (nmI k) v xs) L) (k + 1) ∧ St w3 p b (putL (fresh (nmI k) v xs) L) ∧ Chg Non w w3) := ⟨HR.out.1.put h64 v xs, hst3, hc3⟩
          clear hm hpost hst3 hc3 hst1 hc1 HR
          go_wp2
          go_roundw
          case rel => exact ⟨k + 1, _, by omega, by go_num, H3.out.1, H3.out.2.1, H3.out.2.2⟩
          case measure => simp [intOf]; omega
        · rw [if_neg h64] at hm
          rw [hm]
          have hst3 := hpost.no (by rw [hm]; decide)
          have H3 : Hid (Fill L (k + 1) ∧ St w3 p b L ∧ Chg Non w w3) := ⟨HR.out.1.full (by omega), hst3, hc3⟩
          clear hm hpost hst3 hc3 hst1 hc1 HR
          have h64' : (64 : Int) ≤ k := by omega
          go_wp2
          go_roundw
          case rel => exact ⟨k + 1, _, by omega, by go_num, H3.out.1, H3.out.2.1, H3.out.2.2⟩
          case measure => simp [intOf]; omega
      · have hkM : k = M := by omega
        subst hkM
        clear hk hlt hM
        go_wp2_with fail
        refine (names_any p b L _ HR.out.2.1).mono ?_
        rintro e w3 ⟨g, cap, rfl, -, hc3⟩
        have H3 : Hid (Fill L k ∧ St w3 p b L ∧ Chg Non w w3) := ⟨HR.out.1, HR.out.2.1.non hc3, HR.out.2.2.trans hc3 (fun _ _ x => x)⟩
        have hlen : L.length = min k 64 := HR.out.1.len
        clear hc3 HR
        by_cases hk0 : k = 0
        · have hl0 : L.length = k := by omega
          have hmin : min (k : Int) 64 = (k : Int) := by omega
          have hq : ((k : Int) == 0) = true := by simp; omega
          rw [hl0]
          clear hlen hl0 hk0
          go_wp2
          all_goals (go_ret; exact ⟨ret_bool (by first | rfl | (simp; omega)), H3.out.2.2.below (Nat.le_refl _) (fun k x => x.elim)⟩)
        · have hm : mayL (nmI 0) 0 L = 0 := by
            unfold mayL
            have := H3.out.1.first (by omega)
            obtain ⟨e0, he0⟩ := Option.isSome_iff_exists.1 this
            rw [he0, if_neg (by decide), if_neg (by decide), if_neg (fun h => by cases h.1)]
          have hput := put_post p b L ⟨#[102, 97, 97]⟩ (.slice none 0 0) [] w3 H3.out.2.1 (by decide) (Rd.nil _)
          have hput2 : Calls Try.prog 13 #[.pointer (some ⟨p, 0, none⟩), .string ⟨#[102, 97, 97]⟩, .slice none 0 0] w3 fun r w' => r = .returned (.int .i64 0) ∧ Below w.heap.size w w' := by
            refine hput.mono ?_
            rintro r w' ⟨he, hpost⟩
            refine ⟨he.trans (ret_int hm), ?_⟩
            exact (H3.out.2.2.trans hpost.chg (fun i hi e => by cases e; have := H2.out.2.2; omega)).below (Nat.le_refl _) (fun k x => x.elim)
          clear hput hm
          have hq : ((k : Int) == 0) = false := by simp; omega
          by_cases h64 : k ≤ 64
          · have hl1 : L.length = k := by omega
            have hmin : min (k : Int) 64 = (k : Int) := by omega
            rw [hl1]
            clear hl1 hlen
            go_wp2_with (go_at_call 13; refine hput2.mono ?_; rintro e w4 ⟨rfl, hbel⟩)
            all_goals (go_ret; exact ⟨ret_bool (by first | rfl | (simp; omega)), hbel⟩)
          · have hl1 : L.length = 64 := by omega
            have hmin : min (k : Int) 64 = 64 := by omega
            rw [hl1]
            clear hl1 hlen
            go_wp2_with (go_at_call 13; refine hput2.mono ?_; rintro e w4 ⟨rfl, hbel⟩)
            all_goals (go_ret; exact ⟨ret_bool (by first | rfl | (simp; omega)), hbel⟩)
end Go.Proofs.Ytpabijfamnghjaa
