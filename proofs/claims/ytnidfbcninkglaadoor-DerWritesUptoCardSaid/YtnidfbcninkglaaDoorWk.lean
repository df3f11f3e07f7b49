/-
  PutOID: the document's.
-/
import Derived.Test.YtnidfbcninkglaaDoorWj
import Derived.Test.YtnidfbcninkglaaDoorWc
import Derived.Test.YtnidfbcninkglaaDoorOi
import Derived.Lib.IndexBytes
namespace Go.Proofs.YtnidfbcninkglaaDoor
open Go.RowKit
set_option linter.unusedVariables false
set_option maxRecDepth 100000

theorem num_lt (l : List UInt8) : (numD l).1 < 10000000000 := by
  by_cases h : (numD l).2 = 0
  · unfold numD at h ⊢
    split
    · omega
    · rename_i hc
      rw [if_neg hc] at h
      have h' : runD 11 l = 0 := h
      rw [h']
      simp [valD, valF]
  · obtain ⟨-, h10, -, hv, hl, ha, -⟩ := num_pos rfl h
    rw [hv]
    have h1 := valD_lt (numD l).2 (l.take (numD l).2) (by rw [List.length_take]; omega) ha
    have h2 : 10 ^ (numD l).2 ≤ 10 ^ 10 := Nat.pow_le_pow_right (by omega) h10
    omega
theorem num_le (l : List UInt8) : (numD l).2 ≤ l.length ∧ (numD l).2 ≤ 10 := by
  by_cases h : (numD l).2 = 0
  · omega
  · obtain ⟨-, h10, -, hv, hl, -⟩ := num_pos rfl h
    exact ⟨hl, h10⟩

/-- The groups as the document's loop puts them. -/
def gq (i : Nat) (x : Int) : List Int := if i = 0 then [x % 128] else if 0 < x / 128 ^ i then [128 + x / 128 ^ i % 128] else []
def emU : Nat → Int → List Int
  | 0, _ => []
  | n + 1, x => emU n x ++ gq (4 - n) x
theorem gq1 (x : Int) : gq 1 x = if 128 ≤ x then [128 + x / 128 % 128] else [] := by
  have e : (128 : Int) ^ 1 = 128 := by decide
  unfold gq
  rw [if_neg (by decide), e]
  by_cases h : 128 ≤ x
  · rw [if_pos (by omega), if_pos h]
  · rw [if_neg (by omega), if_neg h]
theorem gq2 (x : Int) : gq 2 x = if 16384 ≤ x then [128 + x / 16384 % 128] else [] := by
  have e : (128 : Int) ^ 2 = 16384 := by decide
  unfold gq
  rw [if_neg (by decide), e]
  by_cases h : 16384 ≤ x
  · rw [if_pos (by omega), if_pos h]
  · rw [if_neg (by omega), if_neg h]
theorem gq3 (x : Int) : gq 3 x = if 2097152 ≤ x then [128 + x / 2097152 % 128] else [] := by
  have e : (128 : Int) ^ 3 = 2097152 := by decide
  unfold gq
  rw [if_neg (by decide), e]
  by_cases h : 2097152 ≤ x
  · rw [if_pos (by omega), if_pos h]
  · rw [if_neg (by omega), if_neg h]
theorem gq4 (x : Int) : gq 4 x = if 268435456 ≤ x then [128 + x / 268435456 % 128] else [] := by
  have e : (128 : Int) ^ 4 = 268435456 := by decide
  unfold gq
  rw [if_neg (by decide), e]
  by_cases h : 268435456 ≤ x
  · rw [if_pos (by omega), if_pos h]
  · rw [if_neg (by omega), if_neg h]
theorem emU_sev {x : Int} (h0 : 0 ≤ x) (h1 : x < 4294967296) : emU 5 x = sev x := by
  have e1 : (128 : Int) ^ 1 = 128 := by decide
  have e2 : (128 : Int) ^ 2 = 16384 := by decide
  have e3 : (128 : Int) ^ 3 = 2097152 := by decide
  have e4 : (128 : Int) ^ 4 = 268435456 := by decide
  have g0 : gq 0 x = [x % 128] := rfl
  show (((([] ++ gq 4 x) ++ gq 3 x) ++ gq 2 x) ++ gq 1 x) ++ gq 0 x = sev x
  rw [g0, gq1, gq2, gq3, gq4]
  unfold sev sevK
  by_cases a1 : x < 128
  · rw [if_pos a1, if_neg (by omega), if_neg (by omega), if_neg (by omega), if_neg (by omega)]; rfl
  · rw [if_neg a1]
    by_cases a2 : x < 16384
    · rw [if_pos a2, if_neg (by omega), if_neg (by omega), if_neg (by omega), if_pos (by omega)]; simp only [sevH, e1]; rfl
    · rw [if_neg a2]
      by_cases a3 : x < 2097152
      · rw [if_pos a3, if_neg (by omega), if_neg (by omega), if_pos (by omega), if_pos (by omega)]; simp only [sevH, e1, e2]; rfl
      · rw [if_neg a3]
        by_cases a4 : x < 268435456
        · rw [if_pos a4, if_neg (by omega), if_pos (by omega), if_pos (by omega), if_pos (by omega)]; simp only [sevH, e1, e2, e3]; rfl
        · rw [if_neg a4, if_pos (show x < 34359738368 by omega), if_pos (by omega), if_pos (by omega), if_pos (by omega), if_pos (by omega)]; simp only [sevH, e1, e2, e3, e4]; rfl
theorem sevH_len : ∀ (k : Nat) (x : Int), (sevH k x).length = k
  | 0, _ => rfl
  | k + 1, x => by simp [sevH, sevH_len k x]
theorem sev_len (x : Int) : (sev x).length ≤ 6 := by
  unfold sev
  rw [List.length_append, sevH_len]
  unfold sevK
  simp
  repeat' split
  all_goals omega
theorem sevAll_len : ∀ (l : List Int), (sevAll l).length ≤ 6 * l.length
  | [] => by simp [sevAll]
  | x :: l => by
    have h1 := sev_len x
    have h2 := sevAll_len l
    have e : sevAll (x :: l) = sev x ++ sevAll l := by simp [sevAll]
    rw [e, List.length_append, List.length_cons]
    omega
theorem sevAll_snoc (l : List Int) (x : Int) : sevAll (l ++ [x]) = sevAll l ++ sev x := by simp [sevAll]
theorem emU_len (n : Nat) (x : Int) : (emU n x).length ≤ n := by
  induction n with
  | zero => simp [emU]
  | succ n ih =>
    rw [emU, List.length_append]
    have : (gq (4 - n) x).length ≤ 1 := by
      unfold gq
      split
      · simp
      · split <;> simp
    omega
theorem U.OwnV.kind {W : World} {bl o n c : Nat} {xs : List Int} (h : U.OwnV W (.slice (some ⟨bl, o, none⟩) n c) xs) : ∃ cur, W.heap[bl]? = some (.cells cur 73 (0, 0)) := by
  rcases h with ⟨e, -⟩ | ⟨g, off, n', cap, e, h⟩
  · cases e
  · injection e with e1 _ _
    injection e1 with e1
    injection e1 with e1 _ _
    subst e1
    obtain ⟨cur, hg, -⟩ := h.blk
    exact ⟨cur, hg⟩
theorem emU_on {n k : Nat} {x d : Int} (hk : 4 - n = k) (hk0 : k ≠ 0) (e : (128 : Int) ^ k = d) (h : 0 < x / d) : emU (n + 1) x = emU n x ++ [128 + x / 128 ^ k % 128] := by
  rw [emU]
  unfold gq
  rw [hk, if_neg hk0, if_pos (by rw [e]; exact h)]
theorem emU_off {n k : Nat} {x d : Int} (hk : 4 - n = k) (hk0 : k ≠ 0) (e : (128 : Int) ^ k = d) (h : ¬ 0 < x / d) : emU (n + 1) x = emU n x := by
  rw [emU]
  unfold gq
  rw [hk, if_neg hk0, if_neg (by rw [e]; exact h), List.append_nil]
theorem emU_last (x : Int) : emU 5 x = emU 4 x ++ [x % 128] := rfl
theorem or128 (z : Int) (h0 : 0 ≤ z) (h1 : z < 128) : bits .or .u8 z 128 = 128 + z := by
  have h : ∀ k : Fin 128, bits .or .u8 ((k.val : Nat) : Int) 128 = 128 + ((k.val : Nat) : Int) := by decide +kernel
  have := h ⟨z.toNat, by omega⟩
  dsimp only at this
  rwa [Int.toNat_of_nonneg h0] at this
theorem byt_or (y : Int) (h0 : 0 ≤ y) (h1 : y < 256) : bits .or .u8 (bits .and .u8 y 127) 128 = 128 + y % 128 := by
  rw [and127 y h0 h1, or128 _ (by omega) (by omega)]
/-- The second number, made one with the first. -/
theorem set2 {W : World} {bl o : Nat} {a b c : Int} {r : List Int} (h : U.Bs W bl o (a :: b :: r)) : U.Bs (W.setCell ⟨bl, o + 1, none⟩ (.int .u64 c)) bl o (a :: c :: r) := by
  intro j u hj
  match j, hj with
  | 0, hj =>
    rw [World.cell?_setCell_other _ _ _ _ (by simp)]
    exact h 0 u hj
  | 1, hj =>
    obtain rfl : c = u := by simpa using hj
    exact World.cell?_setCell_same _ _ _ (h 1 b rfl)
  | j + 2, hj =>
    rw [World.cell?_setCell_other _ _ _ _ (by simp)]
    exact h (j + 2) u (by simpa using hj)

set_option maxHeartbeats 16000000 in
theorem rputOID_any (s : ByteArray) (hs : s.size ≤ 140737488355328) (w : World) : Calls Tryd.prog 34 #[.string s] w fun e w' => ∃ v', e = .returned v' ∧ OwnN w w' v' (poD s.data.toList) := by
  have HSL : Hid (s.size = s.data.toList.length) := Lib.size_eq s
  obtain ⟨R, hR⟩ : ∃ R, R = poD s.data.toList := ⟨_, rfl⟩
  rw [← hR]
  have HR : Hid (R = poD s.data.toList) := hR
  have HI : Hid (U.OwnN w w (.slice none 0 0) []) := U.OwnN.nought w
  clear hR
  go_enter Tryd.func34, Tryd.ntmps34
  go_wp2
  go_loopw [3, 4] (fun a i wr => ∃ (p : Nat) (q : List Int), p ≤ s.size + 1 ∧ i = .int .i64 p ∧ q.length ≤ 18 ∧ Hid (U.OwnN w wr a q ∧ OD s.data.toList p q ∧ ∀ x ∈ q, 0 ≤ x ∧ x < 10000000000)) (fun _ i _ => s.size + 1 - (intOf i).toNat)
  case atStart => exact ⟨0, [], by omega, rfl, by simp, HI.out, OD.start _, fun x hx => by cases hx⟩
  case round =>
    obtain ⟨p, q, hp, rfl, hq18, hI⟩ := hrel
    obtain ⟨ao, g, cp, hu, hg, hgc, hgm⟩ := hI.out.1.own.rd.shape
    subst hu
    have HG : Hid (g = q.length) := hg
    have hg18 : g ≤ 18 := by omega
    clear hg hq18
    by_cases hle : p ≤ s.size
    · have hdr : (s.extract p s.size).data.toList = s.data.toList.drop p := Lib.extract_to_end s p
      obtain ⟨V, hV⟩ : ∃ V, V = (numD (s.data.toList.drop p)).1 := ⟨_, rfl⟩
      obtain ⟨K, hK⟩ : ∃ K, K = (numD (s.data.toList.drop p)).2 := ⟨_, rfl⟩
      have HNU : Hid (Calls Tryd.prog 58 #[.string (s.extract p s.size)] wr fun e w' => e = .returned (.tuple #[.int .u64 V, .int .i64 K]) ∧ w' = wr) := by
        have h := rnumber_any (s.extract p s.size) wr
        rw [hdr, ← hV, ← hK] at h
        exact h
      have HVK : Hid (V = (numD (s.data.toList.drop p)).1 ∧ (numD (s.data.toList.drop p)).2 = K) := ⟨hV, hK.symm⟩
      have hV1 : V < 10000000000 := by rw [hV]; exact num_lt _
      have hKp : p + K ≤ s.size := by
        have := (num_le (s.data.toList.drop p)).1
        rw [← hK, List.length_drop] at this
        have := HSL.out
        omega
      have HPL : Hid (p ≤ s.data.toList.length) := by have := HSL.out; show _ ≤ _; omega
      clear hdr hV hK
      by_cases hK0 : K = 0
      · have HZ : Hid (R = []) := by show _ = _; rw [HR.out]; exact hI.out.2.1.bad HPL.out (num_zero (by rw [HVK.out.2]; exact hK0))
        have HC : Hid (Chg Non w wr) := hI.out.1.chg
        subst hK0
        clear hI
        go_wp2_with (go_at_call 58; refine HNU.out.mono ?_; rintro e w1 ⟨rfl, hw⟩; rw [hw]; clear hw)
        go_ret
        exact ⟨.slice none 0 0, rfl, by rw [HZ.out]; exact (OwnN.nought wr).from HC.out⟩
      · have hKz : ((K : Int) == 0) = false := by simp; omega
        by_cases h17 : 17 < g
        · have HZ : Hid (R = []) := by show _ = _; rw [HR.out]; exact hI.out.2.1.long HPL.out (by rw [← HG.out]; exact h17)
          have HC : Hid (Chg Non w wr) := hI.out.1.chg
          clear hI
          go_wp2_with (go_at_call 58; refine HNU.out.mono ?_; rintro e w1 ⟨rfl, hw⟩; rw [hw]; clear hw)
          go_ret
          exact ⟨.slice none 0 0, rfl, by rw [HZ.out]; exact (OwnN.nought wr).from HC.out⟩
        · have HBD : Hid ((q.length + ([(V : Int)] : List Int).length) * 8 ≤ 140737488355328) := by have := HG.out; show _ ≤ _; simp; omega
          have HOW : Hid (U.OwnV (wr.alloc (.cells #[.int .u64 V] 73)) (.slice ao g cp) q) := hI.out.1.own.chg ((Chg.refl _ _).alloc _)
          go_wp2_with (first | (go_at_call 58; refine HNU.out.mono ?_; rintro e w1 ⟨rfl, hw⟩; rw [hw]; clear hw) | (at_builtin; refine U.wpList_app _ rfl (.tmp 31) (.tmp 33) rfl _ _ q [(V : Int)] rfl rfl HOW.out (U.Rd.one _ _) HBD.out ?_))
          intro v' w2 g1 g2 g3
          have hO2 := (hI.out.1.after ((Chg.refl _ _).alloc (.cells #[.int .u64 (V : Int)] 73))).more g1 g2 (by first | exact g3 | (rw [World.size_alloc]; exact g3))
          obtain ⟨ao2, n2, cp2, rfl, hn2, -, -⟩ := hO2.own.rd.shape
          have HO2 : Hid (U.OwnN w w2 (.slice ao2 n2 cp2) (q ++ [(V : Int)])) := hO2
          obtain ⟨P, hP⟩ : ∃ P, P = p + K := ⟨_, rfl⟩
          have hPi : (p : Int) + (K : Int) = (P : Int) := by omega
          have hPs : P ≤ s.size := by omega
          have hpP : p < P := by omega
          have HP : Hid (P = p + K) := hP
          have HQB : Hid (∀ x ∈ q ++ [(V : Int)], 0 ≤ x ∧ x < 10000000000) := fun x hx => by
            rcases List.mem_append.1 hx with hx | hx
            · exact hI.out.2.2 x hx
            · obtain rfl := List.mem_singleton.1 hx
              omega
          have HLQ : Hid ((q ++ [(V : Int)]).length ≤ 18) := by have := HG.out; show _ ≤ _; simp; omega
          have HOD : Hid (OD s.data.toList p q) := hI.out.2.1
          clear g1 g2 g3 hO2 hn2 hP hI
          by_cases hbad : ∃ hlt : P < s.size, (s[P]'hlt) ≠ 46
          · obtain ⟨hlt, hne⟩ := hbad
            have HZ : Hid (R = []) := by
              show _ = _
              rw [HR.out]
              exact HOD.out.bad2 HPL.out HVK.out.2 hK0 (by rw [← HP.out]; exact bget s P hlt) hne
            have d1 : ((((s[P]'hlt).toNat : Nat) : Int) == 46) = false := by
              simp
              intro e
              have e2 : (s[P]'hlt).toNat = 46 := by omega
              exact hne (UInt8.toNat_inj.1 e2)
            clear hne
            go_wp2
            go_ret
            exact ⟨.slice none 0 0, rfl, by rw [HZ.out]; exact (OwnN.nought w2).from HO2.out.chg⟩
          · have HNX : Hid (OD s.data.toList (P + 1) (q ++ [(V : Int)])) := by
              have h := HOD.out.next HPL.out HVK.out.2 hK0 (by
                rw [← HP.out]
                by_cases hlt : P < s.size
                · right
                  rw [bget s P hlt]
                  by_cases h46 : (s[P]'hlt) = 46
                  · rw [h46]
                  · exact absurd ⟨hlt, h46⟩ hbad
                · left
                  have := HSL.out
                  omega)
              rw [← HVK.out.1, ← HP.out] at h
              exact h
            by_cases hlt : P < s.size
            · have d1 : ((((s[P]'hlt).toNat : Nat) : Int) == 46) = true := by
                by_cases h46 : (s[P]'hlt) = 46
                · rw [h46]; rfl
                · exact absurd ⟨hlt, h46⟩ hbad
              clear hbad
              go_wp2
              go_roundw
              case rel => exact ⟨P + 1, q ++ [(V : Int)], by omega, by go_num, HLQ.out, HO2.out, HNX.out, HQB.out⟩
              case measure => simp [intOf]; omega
            · clear hbad
              go_wp2
              go_roundw
              case rel => exact ⟨P + 1, q ++ [(V : Int)], by omega, by go_num, HLQ.out, HO2.out, HNX.out, HQB.out⟩
              case measure => simp [intOf]; omega
    · have HDN : Hid ((spD s.data.toList).mapM prD = some q) := hI.out.2.1.done (by have := HSL.out; omega)
      have hp1 : p = s.size + 1 := by omega
      have HO : Hid (U.OwnN w wr (.slice ao g cp) q) := hI.out.1
      have HQ : Hid (∀ x ∈ q, 0 ≤ x ∧ x < 10000000000) := hI.out.2.2
      clear hI hgc hgm
      have hd0 : decide ((p : Int) ≤ (s.size : Int)) = false := by simp; omega
      have hd1 : s.size < p := by omega
      match q, HG, HDN, HO, HQ with
      | [], HG, HDN, HO, HQ =>
        have HZ : Hid (R = []) := by show _ = _; rw [HR.out]; unfold poD; rw [HDN.out]; rfl
        have hg0 : g = 0 := HG.out
        subst hg0
        go_wp2
        go_ret
        exact ⟨.slice none 0 0, rfl, by rw [HZ.out]; exact (OwnN.nought wr).from HO.out.chg⟩
      | [a], HG, HDN, HO, HQ =>
        have HZ : Hid (R = []) := by show _ = _; rw [HR.out]; unfold poD; rw [HDN.out]; rfl
        have hg0 : g = 1 := HG.out
        subst hg0
        go_wp2
        go_ret
        exact ⟨.slice none 0 0, rfl, by rw [HZ.out]; exact (OwnN.nought wr).from HO.out.chg⟩
      | a :: b :: r, HG, HDN, HO, HQ =>
        have HRE : Hid (R = if okD (a :: b :: r) = true then encL 6 (sevAll ((40 * a + b) :: r)) else []) := by show _ = _; rw [HR.out]; unfold poD; rw [HDN.out]; rfl
        have ha := HQ.out a List.mem_cons_self
        have hb := HQ.out b (List.mem_cons_of_mem _ List.mem_cons_self)
        obtain ⟨bl, o, c', e, q1, q2, q3⟩ := HO.out.own.bs (by simp)
        injection e with e1 e2 e3
        subst e1 e3
        have ca := q3 0 a rfl
        have cb := q3 1 b rfl
        rw [Nat.add_zero] at ca
        have hg2 : 2 ≤ g := by rw [HG.out]; simp
        have hgz : ¬ ((g : Int) < 2) := by omega
        clear e2
        by_cases h2 : 2 < a
        · have HZ : Hid (R = []) := by show _ = _; rw [HRE.out, if_neg]; intro h; simp only [okD, Bool.and_eq_true, decide_eq_true_eq] at h; omega
          have d1 : decide (2 < a) = true := by simpa using h2
          go_wp2
          go_ret
          exact ⟨.slice none 0 0, rfl, by rw [HZ.out]; exact (OwnN.nought wr).from HO.out.chg⟩
        · have d1 : decide (2 < a) = false := by simpa using h2
          by_cases h3 : a < 2 ∧ 40 ≤ b
          · have HZ : Hid (R = []) := by show _ = _; rw [HRE.out, if_neg]; intro h; simp only [okD, Bool.and_eq_true, decide_eq_true_eq, Bool.or_eq_true] at h; omega
            have d2 : decide (a < 2) = true := by simpa using h3.1
            have d3 : decide (40 ≤ b) = true := by simpa using h3.2
            go_wp2
            go_ret
            exact ⟨.slice none 0 0, rfl, by rw [HZ.out]; exact (OwnN.nought wr).from HO.out.chg⟩
          · have HOK : Hid (okD (a :: b :: r) = true ↔ (40 * a + b < 4294967296 ∧ (∀ x ∈ r, x < 4294967296) ∧ r.length ≤ 15)) := by
              show _ ↔ _
              simp only [okD, Bool.and_eq_true, decide_eq_true_eq, Bool.or_eq_true, List.all_eq_true]
              constructor
              · rintro ⟨⟨⟨⟨-, -⟩, e1⟩, e2⟩, e3⟩
                exact ⟨e1, e2, e3⟩
              · rintro ⟨e1, e2, e3⟩
                exact ⟨⟨⟨⟨by omega, by omega⟩, e1⟩, e2⟩, e3⟩
            obtain ⟨c, hc⟩ : ∃ c, c = 40 * a + b := ⟨_, rfl⟩
            rw [← hc] at HRE HOK
            have hadd : b + 40 * a = c := by omega
            have hw1 : IntKind.u64.wrap (40 * a) = 40 * a := by rw [IntKind.wrap_u64]; omega
            have hw3 : IntKind.u64.wrap c = c := by rw [IntKind.wrap_u64]; omega
            have hw2 : IntKind.u64.wrap (b + 40 * a) = c := by rw [hadd, IntKind.wrap_u64]; omega
            have hc0 : 0 ≤ c := by omega
            have hc1 : c < 20000000000 := by omega
            have hblw : w.heap.size ≤ bl := HO.out.new bl rfl
            obtain ⟨cur0, hcur0⟩ := U.OwnV.kind HO.out.own
            have fz := frozen_of_row wr bl (o + 1) cur0 73 hcur0
            have C0 : Hid (Chg Non w (wr.setCell ⟨bl, o + 1, none⟩ (.int .u64 c))) := HO.out.chg.setCell (p := ⟨bl, o + 1, none⟩) (fun q => absurd q (by dsimp only; omega)) _
            have B0 : Hid (U.Bs (wr.setCell ⟨bl, o + 1, none⟩ (.int .u64 c)) bl o (a :: c :: r)) := set2 q3
            have HQ2 : Hid (∀ x ∈ c :: r, 0 ≤ x ∧ x < 20000000000) := fun x hx => by
              rcases List.mem_cons.1 hx with rfl | hx
              · exact ⟨hc0, hc1⟩
              · have := HQ.out x (List.mem_cons_of_mem _ (List.mem_cons_of_mem _ hx))
                omega
            have HG2 : Hid (g = r.length + 2) := HG.out
            have HG18 : g ≤ 18 := hg18
            obtain ⟨d2, hd2⟩ : ∃ d2, d2 = decide (a < 2) := ⟨_, rfl⟩
            have d3 : d2 = true → decide (40 ≤ b) = false := fun e => by
              rw [hd2] at e
              have := of_decide_eq_true e
              simp
              omega
            have hd2' : decide (a < 2) = d2 := hd2.symm
            clear hd2 hc h3 h2 HO HQ HDN HG hcur0
            cases d2
            all_goals
              first | have d3 := d3 rfl | skip
              go_wp2
              go_cut [] from 69 to 78 (fun wc => wc = (wr.setCell ⟨bl, o + 1, none⟩ (.int .u64 c)).drew)
              case first =>
                go_region_with (fail)
                all_goals
                  go_wp2
                  go_meet
                  exact rfl
              have hwc : wc = _ := hcut
              clear hcut
              have C1 : Hid (Chg Non w wc) := by rw [hwc]; exact C0.out.drew
              have B1 : Hid (U.Bs wc bl o (a :: c :: r)) := by rw [hwc]; exact B0.out
              clear hwc C0 B0 q3 ca cb fz hw1 hw2 hw3 hadd d1
              go_wp2
              go_loopw [7, 8] (fun v i wr2 => ∃ (k j : Nat) (ys : List Int), k ≤ g ∧ i = .int .i64 k ∧ Hid (k = j + 1 ∧ OwnN wc wr2 v ys ∧ ys = sevAll ((c :: r).take j) ∧ ∀ x ∈ (c :: r).take j, x < 4294967296)) (fun _ i _ => g - (intOf i).toNat)
              case atStart => exact ⟨1, 0, [], by omega, rfl, rfl, OwnN.nought _, rfl, fun x hx => by simp at hx⟩
              case round =>
                obtain ⟨k, j, ys, hk, rfl, hI⟩ := hrel
                obtain ⟨ao3, n3, c3, hu3, hn3, -, -⟩ := hI.out.2.1.rd.shape
                subst hu3
                have HWC : Hid (Chg Non wc wr) := hI.out.2.1.chg
                clear hn3
                by_cases hlt : k < g
                · obtain ⟨x, hx⟩ : ∃ x, (c :: r)[j]? = some x := ⟨_, List.getElem?_eq_getElem (by have := HG2.out; have := hI.out.1; simp; omega)⟩
                  have hxk : (a :: c :: r)[k]? = some x := by rw [hI.out.1]; exact hx
                  have hcx := (B1.out.chg HWC.out) k x hxk
                  obtain ⟨hx0, hx1⟩ := HQ2.out x (List.mem_of_getElem? hx)
                  have HX : Hid ((c :: r)[j]? = some x) := hx
                  clear hx hxk
                  by_cases hbig : 4294967296 ≤ x
                  · have HZ : Hid (R = []) := by
                      show _ = _
                      rw [HRE.out, if_neg]
                      intro hok
                      obtain ⟨e1, e2, -⟩ := HOK.out.1 hok
                      have hm := List.mem_of_getElem? HX.out
                      rcases List.mem_cons.1 hm with e | hm
                      · omega
                      · have := e2 x hm; omega
                    have d4 : decide (4294967296 ≤ x) = true := by simpa using hbig
                    go_wp2
                    go_ret
                    exact ⟨.slice none 0 0, rfl, by rw [HZ.out]; exact (OwnN.nought wr).from (C1.out.two HWC.out)⟩
                  · have d4 : decide (4294967296 ≤ x) = false := by simpa using hbig
                    go_wp2
                    go_loopw [7, 9] (fun v kk wr3 => ∃ (n : Nat) (zs : List Int), n ≤ 5 ∧ kk = .int .i64 (4 - (n : Int)) ∧ Hid (OwnN wc wr3 v zs ∧ zs = ys ++ emU n x)) (fun _ kk _ => (intOf kk + 1).toNat)
                    case atStart => exact ⟨0, ys, by omega, rfl, hI.out.2.1, by simp [emU]⟩
                    case round =>
                      obtain ⟨n, zs, hn5, rfl, hJ⟩ := hrel
                      obtain ⟨ao4, n4, c4, hu4, hn4, -, -⟩ := hJ.out.1.rd.shape
                      subst hu4
                      have hcx3 := (B1.out.chg hJ.out.1.chg) k x (by rw [hI.out.1]; exact HX.out)
                      clear hn4
                      have HZL : Hid (zs.length + 1 ≤ 140737488355328) := by
                        have h1 := emU_len n x
                        have h2 := sevAll_len ((c :: r).take j)
                        have h3 := HG2.out
                        have h4 : ((c :: r).take j).length ≤ (c :: r).length := by rw [List.length_take]; omega
                        show _ ≤ _
                        rw [hJ.out.2, List.length_append, hI.out.2.2.1]
                        simp only [List.length_cons] at h4
                        omega
                      match n, hn5, hJ with
                      | 0, hn5, hJ =>
                       by_cases hz : 0 < x / 268435456
                       · have dz : decide (0 < x / 268435456) = true := by simpa using hz
                         obtain ⟨Y, hY⟩ : ∃ Y, Y = 128 + x / 128 ^ 4 % 128 := ⟨_, rfl⟩
                         have e128 : (128 : Int) ^ 4 = 268435456 := by decide
                         have hYb : bits .or .u8 (bits .and .u8 (x / 268435456) 127) 128 = Y := by rw [byt_or _ (by omega) (by omega), hY, e128]; try omega
                         have HE : Hid (zs ++ [Y] = ys ++ emU 1 x) := by
                           show _ = _
                           rw [hJ.out.2, List.append_assoc]
                           exact congrArg (ys ++ ·) (by rw [emU_on (n := 0) (k := 4) rfl (by decide) e128 hz, hY])
                         clear hY e128
                         go_wp2_with (at_builtin; refine wpList_app _ rfl (.tmp 119) (.tmp 121) rfl _ _ zs [Y] rfl rfl (hJ.out.1.own.chg ((Chg.refl _ _).alloc _)) (Rd.one _ _) HZL.out ?_)
                         intro v' w2 g1 g2 g3
                         have HO2 : Hid (OwnN wc w2 v' (zs ++ [Y])) := (hJ.out.1.after ((Chg.refl _ _).alloc _)).more g1 g2 (by rw [World.size_alloc]; exact g3)
                         clear g1 g2 g3
                         go_wp2
                         go_roundw
                         case rel => exact ⟨1, zs ++ [Y], by omega, by simp, HO2.out, HE.out⟩
                         case measure => simp [intOf]
                       · have dz : decide (0 < x / 268435456) = false := by simpa using hz
                         have HE : Hid (zs = ys ++ emU 1 x) := by
                           show _ = _
                           have e128 : (128 : Int) ^ 4 = 268435456 := by decide
                           rw [hJ.out.2]
                           exact congrArg (ys ++ ·) (emU_off (n := 0) (k := 4) rfl (by decide) e128 hz).symm
                         go_wp2
                         go_roundw
                         case rel => exact ⟨1, zs, by omega, by simp, hJ.out.1, HE.out⟩
                         case measure => simp [intOf]
                      | 1, hn5, hJ =>
                       by_cases hz : 0 < x / 2097152
                       · have dz : decide (0 < x / 2097152) = true := by simpa using hz
                         obtain ⟨Y, hY⟩ : ∃ Y, Y = 128 + x / 128 ^ 3 % 128 := ⟨_, rfl⟩
                         have e128 : (128 : Int) ^ 3 = 2097152 := by decide
                         have hYb : bits .or .u8 (bits .and .u8 (x / 2097152 % 256) 127) 128 = Y := by rw [byt_or _ (by omega) (by omega), hY, e128]; try omega
                         have HE : Hid (zs ++ [Y] = ys ++ emU 2 x) := by
                           show _ = _
                           rw [hJ.out.2, List.append_assoc]
                           exact congrArg (ys ++ ·) (by rw [emU_on (n := 1) (k := 3) rfl (by decide) e128 hz, hY])
                         clear hY e128
                         go_wp2_with (at_builtin; refine wpList_app _ rfl (.tmp 119) (.tmp 121) rfl _ _ zs [Y] rfl rfl (hJ.out.1.own.chg ((Chg.refl _ _).alloc _)) (Rd.one _ _) HZL.out ?_)
                         intro v' w2 g1 g2 g3
                         have HO2 : Hid (OwnN wc w2 v' (zs ++ [Y])) := (hJ.out.1.after ((Chg.refl _ _).alloc _)).more g1 g2 (by rw [World.size_alloc]; exact g3)
                         clear g1 g2 g3
                         go_wp2
                         go_roundw
                         case rel => exact ⟨2, zs ++ [Y], by omega, by simp, HO2.out, HE.out⟩
                         case measure => simp [intOf]
                       · have dz : decide (0 < x / 2097152) = false := by simpa using hz
                         have HE : Hid (zs = ys ++ emU 2 x) := by
                           show _ = _
                           have e128 : (128 : Int) ^ 3 = 2097152 := by decide
                           rw [hJ.out.2]
                           exact congrArg (ys ++ ·) (emU_off (n := 1) (k := 3) rfl (by decide) e128 hz).symm
                         go_wp2
                         go_roundw
                         case rel => exact ⟨2, zs, by omega, by simp, hJ.out.1, HE.out⟩
                         case measure => simp [intOf]
                      | 2, hn5, hJ =>
                       by_cases hz : 0 < x / 16384
                       · have dz : decide (0 < x / 16384) = true := by simpa using hz
                         obtain ⟨Y, hY⟩ : ∃ Y, Y = 128 + x / 128 ^ 2 % 128 := ⟨_, rfl⟩
                         have e128 : (128 : Int) ^ 2 = 16384 := by decide
                         have hYb : bits .or .u8 (bits .and .u8 (x / 16384 % 256) 127) 128 = Y := by rw [byt_or _ (by omega) (by omega), hY, e128]; try omega
                         have HE : Hid (zs ++ [Y] = ys ++ emU 3 x) := by
                           show _ = _
                           rw [hJ.out.2, List.append_assoc]
                           exact congrArg (ys ++ ·) (by rw [emU_on (n := 2) (k := 2) rfl (by decide) e128 hz, hY])
                         clear hY e128
                         go_wp2_with (at_builtin; refine wpList_app _ rfl (.tmp 119) (.tmp 121) rfl _ _ zs [Y] rfl rfl (hJ.out.1.own.chg ((Chg.refl _ _).alloc _)) (Rd.one _ _) HZL.out ?_)
                         intro v' w2 g1 g2 g3
                         have HO2 : Hid (OwnN wc w2 v' (zs ++ [Y])) := (hJ.out.1.after ((Chg.refl _ _).alloc _)).more g1 g2 (by rw [World.size_alloc]; exact g3)
                         clear g1 g2 g3
                         go_wp2
                         go_roundw
                         case rel => exact ⟨3, zs ++ [Y], by omega, by simp, HO2.out, HE.out⟩
                         case measure => simp [intOf]
                       · have dz : decide (0 < x / 16384) = false := by simpa using hz
                         have HE : Hid (zs = ys ++ emU 3 x) := by
                           show _ = _
                           have e128 : (128 : Int) ^ 2 = 16384 := by decide
                           rw [hJ.out.2]
                           exact congrArg (ys ++ ·) (emU_off (n := 2) (k := 2) rfl (by decide) e128 hz).symm
                         go_wp2
                         go_roundw
                         case rel => exact ⟨3, zs, by omega, by simp, hJ.out.1, HE.out⟩
                         case measure => simp [intOf]
                      | 3, hn5, hJ =>
                       by_cases hz : 0 < x / 128
                       · have dz : decide (0 < x / 128) = true := by simpa using hz
                         obtain ⟨Y, hY⟩ : ∃ Y, Y = 128 + x / 128 ^ 1 % 128 := ⟨_, rfl⟩
                         have e128 : (128 : Int) ^ 1 = 128 := by decide
                         have hYb : bits .or .u8 (bits .and .u8 (x / 128 % 256) 127) 128 = Y := by rw [byt_or _ (by omega) (by omega), hY, e128]; try omega
                         have HE : Hid (zs ++ [Y] = ys ++ emU 4 x) := by
                           show _ = _
                           rw [hJ.out.2, List.append_assoc]
                           exact congrArg (ys ++ ·) (by rw [emU_on (n := 3) (k := 1) rfl (by decide) e128 hz, hY])
                         clear hY e128
                         go_wp2_with (at_builtin; refine wpList_app _ rfl (.tmp 119) (.tmp 121) rfl _ _ zs [Y] rfl rfl (hJ.out.1.own.chg ((Chg.refl _ _).alloc _)) (Rd.one _ _) HZL.out ?_)
                         intro v' w2 g1 g2 g3
                         have HO2 : Hid (OwnN wc w2 v' (zs ++ [Y])) := (hJ.out.1.after ((Chg.refl _ _).alloc _)).more g1 g2 (by rw [World.size_alloc]; exact g3)
                         clear g1 g2 g3
                         go_wp2
                         go_roundw
                         case rel => exact ⟨4, zs ++ [Y], by omega, by simp, HO2.out, HE.out⟩
                         case measure => simp [intOf]
                       · have dz : decide (0 < x / 128) = false := by simpa using hz
                         have HE : Hid (zs = ys ++ emU 4 x) := by
                           show _ = _
                           have e128 : (128 : Int) ^ 1 = 128 := by decide
                           rw [hJ.out.2]
                           exact congrArg (ys ++ ·) (emU_off (n := 3) (k := 1) rfl (by decide) e128 hz).symm
                         go_wp2
                         go_roundw
                         case rel => exact ⟨4, zs, by omega, by simp, hJ.out.1, HE.out⟩
                         case measure => simp [intOf]
                      | 4, hn5, hJ =>
                       obtain ⟨Y, hY⟩ : ∃ Y, Y = x % 128 := ⟨_, rfl⟩
                       have HE : Hid (zs ++ [Y] = ys ++ emU 5 x) := by
                         show _ = _
                         rw [hJ.out.2, List.append_assoc]
                         exact congrArg (ys ++ ·) (by rw [emU_last, hY])
                       by_cases hz : 0 < x
                       · have dz : decide (0 < x) = true := by simpa using hz
                         have hYb : bits .and .u8 (x % 256) 127 = Y := by rw [and127 _ (by omega) (by omega), hY]; try omega
                         clear hY
                         go_wp2_with (at_builtin; refine wpList_app _ rfl (.tmp 119) (.tmp 121) rfl _ _ zs [Y] rfl rfl (hJ.out.1.own.chg ((Chg.refl _ _).alloc _)) (Rd.one _ _) HZL.out ?_)
                         intro v' w2 g1 g2 g3
                         have HO2 : Hid (OwnN wc w2 v' (zs ++ [Y])) := (hJ.out.1.after ((Chg.refl _ _).alloc _)).more g1 g2 (by rw [World.size_alloc]; exact g3)
                         clear g1 g2 g3
                         go_wp2
                         go_roundw
                         case rel => exact ⟨5, zs ++ [Y], by omega, by simp, HO2.out, HE.out⟩
                         case measure => simp [intOf]
                       · have dz : decide (0 < x) = false := by simpa using hz
                         have hYb : bits .and .u8 x 127 = Y := by rw [and127 _ (by omega) (by omega), hY]
                         clear hY
                         go_wp2_with (at_builtin; refine wpList_app _ rfl (.tmp 119) (.tmp 121) rfl _ _ zs [Y] rfl rfl (hJ.out.1.own.chg ((Chg.refl _ _).alloc _)) (Rd.one _ _) HZL.out ?_)
                         intro v' w2 g1 g2 g3
                         have HO2 : Hid (OwnN wc w2 v' (zs ++ [Y])) := (hJ.out.1.after ((Chg.refl _ _).alloc _)).more g1 g2 (by rw [World.size_alloc]; exact g3)
                         clear g1 g2 g3
                         go_wp2
                         go_roundw
                         case rel => exact ⟨5, zs ++ [Y], by omega, by simp, HO2.out, HE.out⟩
                         case measure => simp [intOf]
                      | n + 5, hn5, hJ =>
                        obtain rfl : n = 0 := by omega
                        have HN : Hid (k + 1 = (j + 1) + 1 ∧ OwnN wc wr (.slice ao4 n4 c4) zs ∧ zs = sevAll ((c :: r).take (j + 1)) ∧ ∀ y ∈ (c :: r).take (j + 1), y < 4294967296) := by
                          have htk : (c :: r).take (j + 1) = (c :: r).take j ++ [x] := by
                            rw [List.take_add_one, HX.out]
                            rfl
                          refine ⟨by have := hI.out.1; omega, hJ.out.1, ?_, fun y hy => ?_⟩
                          · rw [hJ.out.2, htk, sevAll_snoc, hI.out.2.2.1, show (0 + 5 : Nat) = 5 from rfl, emU_sev hx0 (by omega)]
                          · rw [htk] at hy
                            rcases List.mem_append.1 hy with hy | hy
                            · exact hI.out.2.2.2 y hy
                            · obtain rfl := List.mem_singleton.1 hy
                              omega
                        go_wp2
                        go_roundw
                        case rel => exact ⟨k + 1, j + 1, zs, by omega, by go_num, HN.out⟩
                        case measure => simp [intOf]; omega
                · have hkg : k = g := by omega
                  subst hkg
                  have hjr : j = (c :: r).length := by have h1 := hI.out.1; have h2 := HG2.out; simp; omega
                  have HALL : Hid (ys = sevAll (c :: r) ∧ ∀ x ∈ c :: r, x < 4294967296) := by
                    have h := hI.out.2.2
                    rw [hjr, List.take_length] at h
                    exact h
                  by_cases h17 : 17 < k
                  · have HZ : Hid (R = []) := by
                      show _ = _
                      rw [HRE.out, if_neg]
                      intro hok
                      have := (HOK.out.1 hok).2.2
                      have := HG2.out
                      omega
                    go_wp2
                    go_ret
                    exact ⟨.slice none 0 0, rfl, by rw [HZ.out]; exact (OwnN.nought wr).from (C1.out.two HWC.out)⟩
                  · have HPL : Hid (R = putL 6 ys) := by
                      show _ = _
                      have hl := sevAll_len (c :: r)
                      have := HG2.out
                      have hl2 : (sevAll (c :: r)).length ≤ 65535 := by simp only [List.length_cons] at hl; omega
                      rw [HRE.out, if_pos (HOK.out.2 ⟨HALL.out.2 c List.mem_cons_self, fun y hy => HALL.out.2 y (List.mem_cons_of_mem _ hy), by omega⟩), HALL.out.1]
                      unfold putL
                      rw [if_pos ⟨by omega, hl2⟩]
                    have HPU : Hid (Calls Tryd.prog 30 #[.int .u8 6, .slice ao3 n3 c3] wr fun e w' => ∃ v', e = .returned v' ∧ OwnN wr w' v' (putL 6 ys)) := rput_any 6 (by omega) (by omega) _ _ _ hI.out.2.1.rd
                    go_wp2_with (go_at_call 30; refine HPU.out.mono ?_)
                    rintro e w5 ⟨v5, rfl, hO5⟩
                    have HO5 : Hid (OwnN w w5 v5 R) := by rw [HPL.out]; exact hO5.from (C1.out.two HWC.out)
                    obtain ⟨a5, n5, c5, rfl, -, -, -⟩ := hO5.rd.shape
                    clear hO5
                    go_wp2
                    go_ret
                    exact ⟨_, rfl, HO5.out⟩
end Go.Proofs.YtnidfbcninkglaaDoor
