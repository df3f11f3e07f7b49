/-
  The walk of WorldOrder: it returns true, and writes nothing that was there.
-/
import Derived.Test.YtiegofelidnnlaaPipe2
namespace Go.Proofs.Ytiegofelidnnlaa
open Go.RowKit
set_option linter.unusedVariables false

/-- A list of calls that came in: each cell of each, and its bytes. -/
def OpRow (w : World) (ad : Option Addr) (len : Nat) (Y : Nat → List Int) : Prop :=
  ∀ j, j < len → ∃ b off call at' n so sn sc, ad = some ⟨b, off, none⟩ ∧ b < w.heap.size ∧ w.cell? ⟨b, off + j * 4, none⟩ = some (.int .i64 call) ∧ w.cell? ⟨b, off + j * 4 + 1, none⟩ = some (.int .i64 at') ∧
    w.cell? ⟨b, off + j * 4 + 2, none⟩ = some (.int .i64 n) ∧ w.cell? ⟨b, off + j * 4 + 3, none⟩ = some (.slice so sn sc) ∧ Rd w (.slice so sn sc) (Y j) ∧ (Y j).length ≤ 140737488351232 ∧
    (-9223372036854775808 ≤ at' ∧ at' ≤ 9223372036854775807) ∧ (-9223372036854775808 ≤ n ∧ n ≤ 9223372036854775807) ∧ (-9223372036854775808 ≤ call ∧ call ≤ 9223372036854775807)

theorem strOfNums_append (xs ys : List Int) : strOfNums (xs ++ ys) = strOfNums xs ++ strOfNums ys := by
  unfold strOfNums
  apply ByteArray.ext
  simp

set_option maxRecDepth 100000 in
set_option maxHeartbeats 2000000 in
theorem order_walk (room : Int) (ad : Option Addr) (len cap : Nat) (Y : Nat → List Int) (w : World) (hl : len ≤ 2932031007402) (hrow : OpRow w ad len Y) (hroom : -9223372036854775808 ≤ room ∧ room ≤ 9223372036854775807) :
    Calls Try.prog 7 #[.int .i64 room, .slice ad len cap] w fun e w' => e = .returned (.bool true) ∧ Below w.heap.size w w' := by
  have HR : Hid (OpRow w ad len Y) := hrow
  clear hrow
  by_cases hbad : room < 1 ∨ 65536 < room
  · go_enter Try.func7, Try.ntmps7
    go_wp2_with fail
    refine (head_any _).mono ?_
    rintro e w1 ⟨rfl, hc1⟩
    go_wp2_with fail
    refine (newPipe_no room _ hbad).mono ?_
    rintro e w2 ⟨rfl, rfl⟩
    by_cases h1 : room < 1
    · go_wp2
      all_goals (go_ret; exact ⟨rfl, hc1.below (Nat.le_refl _) (fun _ e => e.elim)⟩)
    · have h2 : 65536 < room := by omega
      go_wp2
      all_goals (go_ret; exact ⟨rfl, hc1.below (Nat.le_refl _) (fun _ e => e.elim)⟩)
  · go_enter Try.func7, Try.ntmps7
    go_wp2_with fail
    refine (head_any _).mono ?_
    rintro e w1 ⟨rfl, hc1⟩
    go_wp2_with fail
    refine (newPipe_yes room _ (by omega) (by omega)).mono ?_
    rintro e w2 ⟨rfl, hP, hc2⟩
    have HP : Hid (PipeA w2 w1.heap.size room (.slice none 0 0) (.slice none 0 0) [] [] false false ∧ Chg Non w w2) := ⟨hP, hc1.trans hc2 (fun _ _ e => e)⟩
    have hs1 := hc1.size
    clear hP hc1 hc2
    go_wp2_with fail
    go_loopw [8, 9, 10] (fun wrote rd i wr => ∃ (k : Nat) (vf va : Value) (f a R : List Int), k ≤ len ∧ i = .int .i64 k ∧ rd = .string (strOfNums R) ∧ wrote = .string (strOfNums (R ++ (a ++ f))) ∧ PipeA wr w1.heap.size room vf va f a false false ∧ (f.length + a.length : Int) ≤ room ∧
        (R ++ (a ++ f)).length ≤ k * 65536 ∧ Chg Non w wr)
      (fun _ _ i _ => len - (intOf i).toNat)
    case atStart => exact ⟨0, _, _, [], [], [], Nat.zero_le _, rfl, rfl, rfl, HP.out.1, by simp; omega, by simp, HP.out.2⟩
    case round =>
      obtain ⟨k, vf, va, f, a, R, hk, rfl, rfl, rfl, hP, hfa, hlen, hc⟩ := hrel
      have HQ : Hid (PipeA wr w1.heap.size room vf va f a false false ∧ (f.length + a.length : Int) ≤ room ∧ (R ++ (a ++ f)).length ≤ k * 65536 ∧ Chg Non w wr) := ⟨hP, hfa, hlen, hc⟩
      clear hP hfa hlen
      by_cases hlt : k < len
      · obtain ⟨b, off, call, at', n, so, sn, sc, rfl, hb, c0, c1, c2, c3, hrd, hyl, hat, hn, hcall⟩ := HR.out k hlt
        have e0 : wr.cell? ⟨b, off + k * 4, none⟩ = some (.int .i64 call) := by rw [← c0]; exact World.cell?_of_block (hc.block b hb (fun e => e))
        have e2 : wr.cell? ⟨b, off + k * 4 + 2, none⟩ = some (.int .i64 n) := by rw [← c2]; exact World.cell?_of_block (hc.block b hb (fun e => e))
        have e3 : wr.cell? ⟨b, off + k * 4 + 3, none⟩ = some (.slice so sn sc) := by rw [← c3]; exact World.cell?_of_block (hc.block b hb (fun e => e))
        have HRD : Hid (Rd w (.slice so sn sc) (Y k)) := hrd
        have HD : Hid (Rd wr (.slice so sn sc) (Y k) ∧ (Y k).length ≤ 140737488351232) := ⟨rd_first hrd hc, hyl⟩
        clear c0 c1 c2 c3 hrd hyl hc
        cases h0 : (bits BinOp.and IntKind.i64 call 3 == 0) with
        | true =>
          go_wp2_with fail
          refine (write_any w1.heap.size room vf va f a false false so sn sc (Y k) _ HQ.out.1 (by have := HQ.out.2.1; omega) (by have := HQ.out.2.1; omega) (by omega) HD.out.1 (by have := HD.out.2; omega)).mono ?_
          rintro e w3 ⟨K, hK, rfl, vf', hP3, hc3, -⟩
          have hsn : sn = (Y k).length ∧ sn ≤ sc ∧ sc ≤ maxLen := by
            obtain ⟨_, _, _, e, h1, h2, h3, _⟩ := HD.out.1; cases e; exact ⟨h1, h2, h3⟩
          obtain ⟨hsn1, hsn2, hsn3⟩ := hsn
          unfold maxLen at hsn3
          have hroomv : roomOf room (f.length + a.length) false false = room - (f.length + a.length) := by
            have := HQ.out.2.1; simp [roomOf]; omega
          rw [hroomv] at hK
          have hKs : K ≤ sn := by omega
          have hKr : (K : Int) ≤ room - (f.length + a.length) := by omega
          have hcN : Chg Non w w3 := HQ.out.2.2.2.trans hc3 (fun i hi e => by cases e; omega)
          have e3' : w3.cell? ⟨b, off + k * 4 + 3, none⟩ = some (.slice so sn sc) := by
            rw [← e3]; exact World.cell?_of_block (hc3.block b (by have := HQ.out.2.2.2.size; omega) (fun e => by cases e; omega))
          have hrd3 : Rd w3 (.slice so sn sc) (Y k) := rd_first HRD.out hcN
          have hst := run_str w3 _ _ (rd_takeO hrd3 hKs)
          have HF : Hid (PipeA w3 w1.heap.size room vf' va (f ++ (Y k).take K) a false false ∧ Chg Non w w3) := ⟨hP3, hcN⟩
          have hKsc : (K : Int) ≤ sc := by omega
          have hsum : (strOfNums (R ++ (a ++ f))).size + (strOfNums ((Y k).take K)).size ≤ 9223372036854775807 := by
            rw [strOfNums_size, strOfNums_size]
            have := HQ.out.2.2.1
            have h2 : ((Y k).take K).length ≤ K := List.length_take_le _ _
            omega
          obtain ⟨sW, hsW⟩ : ∃ sW, sW = strOfNums (R ++ (a ++ f)) := ⟨_, rfl⟩
          obtain ⟨sX, hsX⟩ : ∃ sX, sX = strOfNums ((Y k).take K) := ⟨_, rfl⟩
          rw [← hsW, ← hsX] at hsum
          rw [← hsX] at hst
          rw [← hsW]
          have HS : Hid (sW = strOfNums (R ++ (a ++ f)) ∧ sX = strOfNums ((Y k).take K)) := ⟨hsW, hsX⟩
          clear hsW hsX hK hP3 hc3 hroomv hcN hrd3 e0 e2 e3 hsn1
          go_wp2
          go_roundw
          case rel =>
            obtain ⟨hQ, hfa, hlen, hcw⟩ := HQ.out
            have h2 : ((Y k).take K).length ≤ K := List.length_take_le _ _
            refine ⟨k + 1, vf', va, f ++ (Y k).take K, a, R, by omega, by go_num, rfl, ?_, HF.out.1, ?_, ?_, HF.out.2⟩
            · rw [HS.out.1, HS.out.2, ← strOfNums_append]
              simp [List.append_assoc]
            · rw [List.length_append]; omega
            · simp only [List.length_append] at hlen ⊢; omega
          case measure => simp [intOf]; omega
        | false =>
          cases h1 : (bits BinOp.and IntKind.i64 call 3 == 1) with
          | true =>
            go_wp2_with fail
            refine (move_any w1.heap.size room vf va f a false false n _ HQ.out.1 (by have := HQ.out.2.1; omega)).mono ?_
            rintro e w3 ⟨K, hK, rfl, vf', va', hP3, hc3, -, -⟩
            have HF : Hid (PipeA w3 w1.heap.size room vf' va' (f.drop K) (a ++ f.take K) false false ∧ Chg Non w w3) := ⟨hP3, HQ.out.2.2.2.trans hc3 (fun i hi e => by cases e; omega)⟩
            clear hP3 hc3 hK e0 e2 e3
            go_wp2
            go_roundw
            case rel =>
              obtain ⟨hQ, hfa, hlen, hcw⟩ := HQ.out
              have hl1 : (f.take K).length + (f.drop K).length = f.length := by rw [← List.length_append, List.take_append_drop]
              have heq : (a ++ f.take K) ++ f.drop K = a ++ f := by rw [List.append_assoc, List.take_append_drop]
              refine ⟨k + 1, vf', va', f.drop K, a ++ f.take K, R, by omega, by go_num, rfl, by rw [heq], HF.out.1, ?_, ?_, HF.out.2⟩
              · rw [List.length_append]; omega
              · rw [heq]; exact Nat.le_trans hlen (Nat.mul_le_mul_right _ (Nat.le_succ k))
            case measure => simp [intOf]; omega
          | false =>
            go_wp2_with fail
            refine (read_open w1.heap.size room vf va f a false n _ HQ.out.1 (by have := HQ.out.2.1; omega) (fun e => by cases e)).mono ?_
            rintro e w3 ⟨K, hK, v, va', rfl, ho3, hP3, hc3, -, -⟩
            have hst := run_str w3 _ _ ho3.rd
            have HF : Hid (PipeA w3 w1.heap.size room vf va' f (a.drop K) false false ∧ Chg Non w w3) := ⟨hP3, HQ.out.2.2.2.trans hc3 (fun i hi e => by cases e; omega)⟩
            have hsum : (strOfNums R).size + (strOfNums (a.take K)).size ≤ 9223372036854775807 := by
              rw [strOfNums_size, strOfNums_size]
              have := HQ.out.2.2.1
              have h2 : (a.take K).length ≤ a.length := by simp; omega
              simp only [List.length_append] at this
              omega
            obtain ⟨sW, hsW⟩ : ∃ sW, sW = strOfNums R := ⟨_, rfl⟩
            obtain ⟨sX, hsX⟩ : ∃ sX, sX = strOfNums (a.take K) := ⟨_, rfl⟩
            rw [← hsW, ← hsX] at hsum
            rw [← hsX] at hst
            rw [← hsW]
            have HS : Hid (sW = strOfNums R ∧ sX = strOfNums (a.take K)) := ⟨hsW, hsX⟩
            clear hP3 hc3 hK ho3 e0 e2 e3 hsW hsX
            go_wp2
            go_roundw
            case rel =>
              obtain ⟨hQ, hfa, hlen, hcw⟩ := HQ.out
              have heq : (R ++ a.take K) ++ (a.drop K ++ f) = R ++ (a ++ f) := by
                rw [List.append_assoc, ← List.append_assoc (a.take K), List.take_append_drop]
              refine ⟨k + 1, vf, va', f, a.drop K, R ++ a.take K, by omega, by go_num, by rw [HS.out.1, HS.out.2, ← strOfNums_append], by rw [heq], HF.out.1, ?_, ?_, HF.out.2⟩
              · simp; omega
              · rw [heq]; exact Nat.le_trans hlen (Nat.mul_le_mul_right _ (Nat.le_succ k))
            case measure => simp [intOf]; omega
      · go_wp2_with fail
        refine (close_any w1.heap.size room vf va f a false false _ HQ.out.1).mono ?_
        rintro e w3 ⟨rfl, hP3, hc3⟩
        have H3 : Hid (PipeA w3 w1.heap.size room vf va f a true false ∧ Chg Non w w3) := ⟨hP3, HQ.out.2.2.2.trans hc3 (fun i hi e => by cases e; omega)⟩
        clear hP3 hc3 hc
        go_wp2_with fail
        refine (move_any w1.heap.size room vf va f a true false 65536 _ H3.out.1 (by have := HQ.out.2.1; omega)).mono ?_
        rintro e w4 ⟨K, hK, rfl, vf', va', hP4, hc4, -, -⟩
        obtain rfl : K = f.length := by have := HQ.out.2.1; omega
        simp only [List.drop_length, List.take_length] at hP4
        have H4 : Hid (PipeA w4 w1.heap.size room vf' va' [] (a ++ f) true false ∧ Chg Non w w4) := ⟨hP4, H3.out.2.trans hc4 (fun i hi e => by cases e; omega)⟩
        clear hP4 hc4 hK
        have hplen : (a ++ f).length ≤ 65536 := by have := HQ.out.2.1; simp only [List.length_append]; omega
        have hsumz : (strOfNums R).size + (strOfNums (a ++ f)).size ≤ 9223372036854775807 := by
          rw [strOfNums_size, strOfNums_size]
          have := HQ.out.2.2.1
          simp only [List.length_append] at this ⊢
          omega
        by_cases hemp : a ++ f = []
        · have H5 : Hid (PipeA w4 w1.heap.size room vf' va' [] [] true false) := by have := H4.out.1; rwa [hemp] at this
          have HE : Hid (a ++ f = []) := hemp
          have hstn := run_str
          clear hemp
          go_wp2_with fail
          refine (read_ended w1.heap.size room vf' va' 65536 _ H5.out).mono ?_
          rintro e w5 ⟨rfl, n5, hw5⟩
          have hP5 := H5.out.drewN n5
          rw [← hw5] at hP5
          have H6 : Hid (PipeA w5 w1.heap.size room vf' va' [] [] true false ∧ Chg Non w w5) := ⟨hP5, H4.out.2.trans (S' := Non) (by rw [hw5]; exact ⟨rfl, rfl, rfl, Nat.le_refl _, fun _ _ _ => rfl⟩) (fun _ _ e => e)⟩
          clear hP5 hw5 hstn
          go_wp2_with fail
          refine (read_ended w1.heap.size room vf' va' 1 _ H6.out.1).mono ?_
          rintro e w6 ⟨rfl, n6, hw6⟩
          have H7 : Hid (Chg Non w w6) := H6.out.2.trans (S' := Non) (by rw [hw6]; exact ⟨rfl, rfl, rfl, Nat.le_refl _, fun _ _ _ => rfl⟩) (fun _ _ e => e)
          have hst := run_str w6 (.slice none 0 0) [] (Rd.nil w6)
          rw [HE.out] at hsumz
          rw [HE.out, List.append_nil]
          obtain ⟨sW, hsW⟩ : ∃ sW, sW = strOfNums R := ⟨_, rfl⟩
          obtain ⟨sX, hsX⟩ : ∃ sX, sX = strOfNums [] := ⟨_, rfl⟩
          rw [← hsW, ← hsX] at hsumz
          rw [← hsX] at hst
          rw [← hsW]
          have heq : sW ++ sX = sW := by rw [hsW, hsX, ← strOfNums_append, List.append_nil]
          clear hsW hsX hw6
          go_wp2
          go_ret
          exact ⟨by simp, H7.out.below (Nat.le_refl _) (fun _ e => e.elim)⟩
        · have hpos : 0 < ([] : List Int).length + (a ++ f).length := by simpa using List.length_pos_iff.2 hemp
          go_wp2_with fail
          refine (read_open w1.heap.size room vf' va' [] (a ++ f) true 65536 _ H4.out.1 (by simp only [List.length_nil]; omega) (fun _ => hpos)).mono ?_
          rintro e w5 ⟨K5, hK5, v5, va5, rfl, ho5, hP5, hc5, -, -⟩
          obtain rfl : K5 = (a ++ f).length := by omega
          simp only [List.drop_length, List.take_length] at hP5 ho5
          have H5 : Hid (PipeA w5 w1.heap.size room vf' va5 [] [] true false ∧ Chg Non w w5 ∧ OwnV w5 v5 (a ++ f)) := ⟨hP5, H4.out.2.trans hc5 (fun i hi e => by cases e; omega), ho5⟩
          clear hP5 hc5 ho5 hK5 hpos hemp
          go_wp2_with fail
          refine (read_ended w1.heap.size room vf' va5 1 _ H5.out.1).mono ?_
          rintro e w6 ⟨rfl, n6, hw6⟩
          have H7 : Hid (Chg Non w w6) := H5.out.2.1.trans (S' := Non) (by rw [hw6]; exact ⟨rfl, rfl, rfl, Nat.le_refl _, fun _ _ _ => rfl⟩) (fun _ _ e => e)
          have hst := run_str w6 v5 (a ++ f) (by rw [hw6]; exact rd_drewN H5.out.2.2.rd _)
          have heqs : strOfNums R ++ strOfNums (a ++ f) = strOfNums (R ++ (a ++ f)) := (strOfNums_append _ _).symm
          obtain ⟨sW, hsW⟩ : ∃ sW, sW = strOfNums R := ⟨_, rfl⟩
          obtain ⟨sX, hsX⟩ : ∃ sX, sX = strOfNums (a ++ f) := ⟨_, rfl⟩
          obtain ⟨sZ, hsZ⟩ : ∃ sZ, sZ = strOfNums (R ++ (a ++ f)) := ⟨_, rfl⟩
          rw [← hsW, ← hsX] at hsumz
          rw [← hsW, ← hsX, ← hsZ] at heqs
          rw [← hsX] at hst
          rw [← hsW, ← hsZ]
          clear hsW hsX hsZ hw6
          go_wp2
          go_ret
          exact ⟨by simp, H7.out.below (Nat.le_refl _) (fun _ e => e.elim)⟩
end Go.Proofs.Ytiegofelidnnlaa
