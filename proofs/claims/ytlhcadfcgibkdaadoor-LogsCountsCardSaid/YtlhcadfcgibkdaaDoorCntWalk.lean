/-
  The walk of LogsCounts: it returns true, and nothing that was there is written.
-/
import Derived.Test.YtlhcadfcgibkdaaDoorCntBoth
import Derived.Deep.CutBlock
namespace Go.Proofs.YtlhcadfcgibkdaaDoor
open Go.RowKit
set_option linter.unusedVariables false
set_option maxRecDepth 100000

/-- A list of steps, as the walk is told it. -/
def StepRow (W : World) (ad : Option Addr) (len : Nat) : Prop :=
  ∀ i, i < len → ∃ (b off : Nat) (s : ByteArray) (n : Nat), ad = some ⟨b, off, none⟩ ∧ b < W.heap.size ∧ W.cell? ⟨b, off + i * 2, none⟩ = some (.string s) ∧ W.cell? ⟨b, off + i * 2 + 1, none⟩ = some (.int .u64 n) ∧ s.size ≤ 9223372036854775807 ∧ n < 18446744073709551616

set_option maxHeartbeats 2000000 in
theorem counts_walk (ad : Option Addr) (len cap : Nat) (w : World) (ht : Tab w) (hl : len * 24 ≤ 140737488355328) (hrow : StepRow w ad len) :
    Calls Tryd.prog 7 #[.slice ad len cap] w fun e w' => e = .returned (.bool true) ∧ Below w.heap.size w w' := by
  have H : Hid (Tab w ∧ StepRow w ad len) := ⟨ht, hrow⟩
  clear ht hrow
  go_enter Tryd.func7, Tryd.ntmps7
  go_wp2_with fail
  refine (head_any _ H.out.1).mono ?_
  rintro e w1 ⟨rfl, hc1⟩
  go_wp2_with fail
  refine (new_any 1 _ (by omega) (by omega)).mono ?_
  rintro e w2 ⟨p, rfl, b, hN⟩
  have HK0 : Hid (Both w w2 p b [] (.slice none 0 0) []) := ⟨CntSt.start hN, COwn.nil _, hc1.trans hN.chg (fun _ _ x => x), by have := hc1.size; have := hN.np; omega, by have := hc1.size; have := hN.nb; omega, fun j e => by simp [Value.ownBlock] at e⟩
  clear hN hc1
  go_wp2_with fail
  go_loopw [6, 7, 8, 9, 10, 11] (fun wv i _ _ _ _ wr => ∃ (k : Nat) (wo : Option Addr) (wl wq : Nat) (L : List Ent), i = .int .i64 k ∧ k ≤ len ∧ wv = .slice wo wl wq ∧ L.length ≤ k ∧ Both w wr p b L wv L) (fun _ i _ _ _ _ _ => len - (intOf i).toNat)
  case atStart => exact ⟨0, none, 0, 0, [], rfl, by omega, rfl, by simp, HK0.out⟩
  case round =>
    obtain ⟨k, wo, wl, wq, L, rfl, hk, rfl, hLk, hB⟩ := hrel
    have HB : Hid (Both w wr p b L (.slice wo wl wq) L) := hB
    clear hB HK0
    by_cases hlt : k < len
    · obtain ⟨lb, off, s, n, rfl, hlb, e0, e1, hs, hn⟩ := H.out.2 k hlt
      have hblk : wr.heap[lb]? = w.heap[lb]? := HB.out.chg.block lb hlb (fun x => x)
      have d0 : wr.cell? ⟨lb, off + k * 2, none⟩ = some (.string s) := by rw [← e0]; exact World.cell?_of_block hblk
      have d1 : wr.cell? ⟨lb, off + k * 2 + 1, none⟩ = some (.int .u64 n) := by rw [← e1]; exact World.cell?_of_block hblk
      have HP : Hid (lb < w.heap.size ∧ w.cell? ⟨lb, off + k * 2, none⟩ = some (.string s) ∧ w.cell? ⟨lb, off + k * 2 + 1, none⟩ = some (.int .u64 n)) := ⟨hlb, e0, e1⟩
      have HR : Hid (∀ W, Chg Non wr W → Calls Tryd.prog 18 #[.slice wo wl wq, .string s, .int .u64 n] W fun e w' => ∃ ao nn c, e = .returned (.tuple #[.slice ao nn c, .int .i64 (cntE s)]) ∧ Both w w' p b L (.slice ao nn c) (cntK s n L)) := by
        intro W hW
        have hB := HB.out.non hW
        refine (refCount_all _ L s n W hB.want hs hn hB.st.num (by omega) hB.st.map.rising).mono ?_
        rintro e w' ⟨ao, nn, c, rfl, hR⟩
        exact ⟨ao, nn, c, rfl, hB.ref hR⟩
      clear hblk hlb e0 e1
      obtain ⟨E, hE⟩ : ∃ E, E = cntE s := ⟨_, rfl⟩
      obtain ⟨K, hK⟩ : ∃ K, K = cntK s n L := ⟨_, rfl⟩
      have hKl : K.length ≤ k + 1 := by rw [hK]; have := cntK_len s n L; omega
      rw [← hE, ← hK] at HR
      have HC : Hid (∀ W wv, Both w W p b L wv K → Calls Tryd.prog 19 #[.pointer (some ⟨p, 0, none⟩), .string s, .int .u64 n] W fun e w' => e = .returned (.int .i64 E) ∧ Both w w' p b K wv K) := by
        intro W wv hB
        rw [hE, hK]
        rw [hK] at hB
        refine (count_all p b L s n W hB.st hs hn (by unfold maxLen; omega)).mono ?_
        rintro e w' ⟨rfl, h1, h2⟩
        exact ⟨rfl, hB.cnt h1 h2⟩
      clear hE hK
      go_upto_region 9 with fail
      go_cut [8, 9] from 33 to 47 (fun nv fv wx => ∃ ao nn c, nv = .slice ao nn c ∧ fv = .int .i64 E ∧ Both w wx p b L (.slice ao nn c) K)
      case first =>
        go_region_with (go_at_call 18; (refine (HR.out _ ((Chg.refl _ _).drew)).mono ?_; rintro e w3 ⟨ao, nn, c, rfl, hb3⟩))
        all_goals
          go_wp2_with fail
          go_meet
          exact ⟨_, _, _, rfl, rfl, hb3⟩
      case rest =>
        obtain ⟨ao, nn, c, rfl, rfl, hb3⟩ := hcut
        obtain ⟨wx, hwx⟩ : ∃ wx, wx = wc := ⟨_, rfl⟩
        subst hwx
        have HB3 : Hid (Both w wx p b L (.slice ao nn c) K) := hb3
        have hblk : wx.heap[lb]? = w.heap[lb]? := HB3.out.chg.block lb HP.out.1 (fun x => x)
        have f0 : wx.cell? ⟨lb, off + k * 2, none⟩ = some (.string s) := by rw [← HP.out.2.1]; exact World.cell?_of_block hblk
        have f1 : wx.cell? ⟨lb, off + k * 2 + 1, none⟩ = some (.int .u64 n) := by rw [← HP.out.2.2]; exact World.cell?_of_block hblk
        clear hblk hb3 d0 d1 HR HB
        go_upto_region 11 with fail
        go_cut [62] from 49 to 62 (fun tv wy => tv = .bool false ∧ Both w wy p b K (.slice ao nn c) K)
        case first =>
          go_region_with (go_at_call 19; (refine (HC.out _ (.slice ao nn c) (HB3.out.non ((Chg.refl _ _).drew))).mono ?_; rintro e w4 ⟨rfl, hb4⟩))
          all_goals
            go_wp2_with fail
            go_meet
            exact ⟨by simp, hb4⟩
        case rest =>
          obtain ⟨rfl, hb4⟩ := hcut
          obtain ⟨wy, hwy⟩ : ∃ wy, wy = wc := ⟨_, rfl⟩
          subst hwy
          have HB4 : Hid (Both w wy p b K (.slice ao nn c) K) := hb4
          have hsh : nn = K.length := by
            obtain ⟨ao', c', e', -⟩ := hb4.want.shape
            cases e'
            rfl
          obtain ⟨ln, hln⟩ : ∃ ln, ln = K.length := ⟨_, rfl⟩
          rw [← hln] at hsh hKl
          subst hsh
          have HLN : Hid (nn = K.length) := hln
          clear hln hb4 f0 f1 HB3 HC
          go_wp2_with fail
          refine (counters_any p b K _ HB4.out.st (by have := HLN.out; omega)).mono ?_
          rintro e w5 ⟨g, gc, rfl, ho5, hg5, hc5⟩
          rw [← HLN.out] at ho5 ⊢
          have H5 : Hid (Both w w5 p b K (.slice ao nn c) K ∧ Got w5 g K 0 ∧ w.heap.size ≤ g ∧ p ≠ g ∧ b ≠ g ∧ (Value.slice ao nn c).ownBlock ≠ some g) := by
            have h4 := HB4.out
            refine ⟨h4.non hc5, Got.start (by rw [← HLN.out]; exact ho5), by have := h4.chg.size; omega, fun e => ?_, fun e => ?_, fun e => ?_⟩
            · have := h4.st.lt; omega
            · have := h4.st.map.lt; omega
            · have := h4.want.lt g e; omega
          clear ho5 hg5 hc5 HB4
          go_wp2_with fail
          go_loopw [11] (fun i wz => ∃ (j : Nat), i = .int .i64 j ∧ j ≤ nn ∧ Both w wz p b K (.slice ao nn c) K ∧ Got wz g K j) (fun i _ => nn - (intOf i).toNat)
          case atStart => exact ⟨0, rfl, by omega, H5.out.1, H5.out.2.1⟩
          case round =>
            obtain ⟨j, rfl, hj, hBq, hGq⟩ := hrel
            have HR : Hid (Both w wr p b K (.slice ao nn c) K ∧ Got wr g K j) := ⟨hBq, hGq⟩
            by_cases hjl : j < nn
            · have hjK : j < K.length := by have := HLN.out; omega
              have hat : K[j]? = some (K[j]'hjK) := by simp
              obtain ⟨x, hx⟩ : ∃ x, x = K[j]'hjK := ⟨_, rfl⟩
              rw [← hx] at hat
              obtain ⟨wg, rfl⟩ : ∃ wg, ao = some ⟨wg, 0, none⟩ := by
                obtain ⟨ao', c', e', -, -, hn', hg'⟩ := hBq.want.shape
                cases e'
                cases ao with
                | none => have := (hn' rfl).1; rw [this] at hat; simp at hat
                | some y => obtain ⟨g, rfl⟩ := hg' y rfl; exact ⟨g, rfl⟩
              obtain ⟨ca0, ca1, fa⟩ := hGq.cell hat
              have cb0 := hBq.want.cell hat 0 (by omega)
              have cb1 := hBq.want.cell hat 1 (by omega)
              simp [cntL] at cb0 cb1
              obtain ⟨xn, xm⟩ := x
              simp only at ca0 ca1 cb0 cb1
              obtain ⟨xs, hxs⟩ : ∃ xs : ByteArray, xs = ⟨xn.toArray⟩ := ⟨_, rfl⟩
              rw [← hxs] at ca0 cb0
              have hjI : (j : Int) < nn := by omega
              clear hBq hGq hx hat hxs hjK
              go_wp2_with fail
              go_quiet (fail)
              go_wp2_with fail
              go_roundw
              case rel =>
                have hd := drewN_non wr nq
                have hg : Got (wr.drewN nq) g K j := HR.out.2.keep (hd.block g HR.out.2.lt (fun x => x))
                refine ⟨j + 1, by go_num, by omega, ?_, hg.step _⟩
                refine (HR.out.1.non hd).turn (g := g) (Chg.setCell (S := One g) (Chg.refl _ _) (p := ⟨g, j * 2 + 1, none⟩) (fun _ => rfl) _) H5.out.2.2.1 H5.out.2.2.2.1 H5.out.2.2.2.2.1 H5.out.2.2.2.2.2
              case measure => simp [intOf]; omega
            · have H8 : Hid (Both w wr p b K (.slice ao nn c) K) := hBq
              clear hBq hGq HR
              go_wp2
              go_roundw
              case rel => exact ⟨k + 1, _, _, _, K, by go_num, by omega, rfl, by have := HLN.out; omega, H8.out⟩
              case measure => simp [intOf]; omega
    · go_wp2
      go_ret
      exact ⟨rfl, HB.out.chg.below (Nat.le_refl _) (fun k x => x.elim)⟩
end Go.Proofs.YtlhcadfcgibkdaaDoor
