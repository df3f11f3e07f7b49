/-
  The document's sum by words of 32 bits.
-/
import Derived.Test.YtijpdhjlafihkaaDoorTj36
import Derived.Test.YtijpdhjlafihkaaDoorTj37
import Derived.Test.YtijpdhjlafihkaaDoorTj38
import Derived.Test.YtijpdhjlafihkaaDoorTj39
namespace Go.Proofs.YtijpdhjlafihkaaDoor
open Go.RowKit
set_option linter.unusedVariables false
set_option maxRecDepth 100000

set_option maxRecDepth 100000 in
set_option maxHeartbeats 8000000 in
theorem sum32_any (v : Value) (xs : List Int) (w : World) (hr : Ap.Rd w v xs) (hl : xs.length ≤ 140737488353280) :
    Calls Tryd.prog 47 #[v] w fun e w' => ∃ v', e = .returned v' ∧ OwnN w w' v' (outR (refN (fun j => (xs ++ padL 64 xs.length).getD j 0) ((xs ++ padL 64 xs.length).length / 64)) 8) := by
  obtain ⟨n, hn⟩ : ∃ n, n = xs.length := ⟨_, rfl⟩
  have hz := zero64_32.1
  have hb := built53
  have hsz : (Tryd.prog.info? 88).map (·.size) = some (arr .u32 64 number32).size := by rw [arr_size]; exact zero64_32.2
  have hlen : (arr .u32 64 fun _ => 0).size = (arr .u32 64 number32).size := by rw [arr_size, arr_size]
  have hone := arr_one .u32 64 number32
  have HP : Hid (∀ u, Ap.Chg Ap.Non w u → Calls Tryd.prog 63 #[v, .int .i64 64] u fun e w' => ∃ v', e = .returned v' ∧ OwnN u w' v' (xs ++ padL 64 xs.length)) := by
    intro u hu
    exact padded_any 64 v xs u (.inl rfl) (hr.keep (fun k _ hk => hu.block k hk (fun x => x.elim))) hl
  clear hr
  go_enter Tryd.func47, Tryd.ntmps47
  go_wp2_with (first | refine wpList_build rfl 88 _ rfl (by kernel_rfl) ?_ | refine wpList_store_row rfl 88 _ _ rfl _ _ rfl rfl _ _ (heap_alloc_last w _) hsz hlen hone ?_)
  obtain ⟨uA, huA⟩ : ∃ u, u = ((w.alloc (.cells (arr .u32 64 fun _ => 0) 88)).setRow w.heap.size (arr .u32 64 number32)).alloc (.cells #[.int .u32 1779033703, .int .u32 3144134277, .int .u32 1013904242, .int .u32 2773480762, .int .u32 1359893119, .int .u32 2600822924, .int .u32 528734635, .int .u32 1541459225] 89) := ⟨_, rfl⟩
  rw [← huA]
  have a0 : Chg w uA := by
    rw [huA]
    exact (((Chg.refl w).alloc _).setRow (Nat.le_refl _) _).alloc _
  have a1 : Ar uA w.heap.size (arr .u32 64 number32) := by
    rw [huA]
    exact ((Ar.new w _ _).row _).alloc _
  have a2 : Ar uA (w.heap.size + 1) (arr .u32 8 (startOf 1)) := by
    have := Ar.new ((w.alloc (.cells (arr .u32 64 fun _ => 0) 88)).setRow w.heap.size (arr .u32 64 number32)) #[.int .u32 1779033703, .int .u32 3144134277, .int .u32 1013904242, .int .u32 2773480762, .int .u32 1359893119, .int .u32 2600822924, .int .u32 528734635, .int .u32 1541459225] 89
    rw [size_setRow, World.size_alloc, ← huA] at this
    have e : (#[.int .u32 1779033703, .int .u32 3144134277, .int .u32 1013904242, .int .u32 2773480762, .int .u32 1359893119, .int .u32 2600822924, .int .u32 528734635, .int .u32 1541459225] : Array Value) = arr .u32 8 (startOf 1) := by kernel_rfl
    rw [← e]
    exact this
  refine (HP.out uA a0.toAp).mono ?_
  rintro e u1 ⟨vb, rfl, ob⟩
  obtain ⟨bs, hbs⟩ : ∃ bs, bs = xs ++ padL 64 xs.length := ⟨_, rfl⟩
  rw [← hbs] at ob
  obtain ⟨M, hM⟩ := padL_len64 xs.length
  have hbl : bs.length = 64 * M := by rw [hbs, List.length_append, hM]
  have hbm : bs.length ≤ 140737488354048 := by
    rw [hbs, List.length_append]
    simp only [padL, padE, padK, List.length_append, List.length_replicate, List.length_cons, List.length_nil, List.length_map, List.length_range]
    omega
  have hM0 : 0 < M := by
    rcases Nat.eq_zero_or_pos M with e | e
    · exfalso
      rw [e] at hM
      simp [padL] at hM
    · exact e
  obtain ⟨g, off, m, cap, rfl, ow⟩ : ∃ g off m cap, vb = .slice (some ⟨g, off, none⟩) m cap ∧ Ap.Own u1 g off m cap bs := by
    rcases ob.own with ⟨_, e⟩ | h
    · rw [e] at hbl
      simp at hbl
      omega
    · exact h
  have hmb : m = 64 * M := by rw [← ow.len, hbl]
  have hgw : uA.heap.size ≤ g := ob.new g rfl
  have c1 : Chg uA u1 := Chg.ofAp ob.chg
  have ha := a2.lt
  have z0 : Hid (Chg w u1 ∧ Ar u1 w.heap.size (arr .u32 64 number32) ∧ Ar u1 (w.heap.size + 1) (arr .u32 8 (refN (fun j => bs.getD j 0) 0)) ∧ Bs u1 g off m (fun j => bs.getD j 0) ∧ w.heap.size + 1 < g ∧ g < u1.heap.size) := by
    refine ⟨a0.trans c1, a1.chg c1, a2.chg c1, ?_, by omega, ow.lt⟩
    have := Own.bs ow
    rw [ow.len] at this
    exact this
  have HM : Hid (m = 64 * M ∧ bs = xs ++ padL 64 xs.length ∧ bs.length = m) := ⟨hmb, hbs, ow.len⟩
  have hmm : m ≤ 140737488354048 := by rw [← ow.len]; exact hbm
  have hcap : m ≤ cap := ow.le
  clear a0 a1 a2 ob ow c1 hM hbl hbm hmb hgw ha huA hbs hz hb hsz hlen hone
  go_wp2_with fail
  obtain ⟨F, hF⟩ : ∃ F : Nat → Int, F = fun j => bs.getD j 0 := ⟨_, rfl⟩
  rw [← hF] at z0
  have HF : Hid (F = fun j => bs.getD j 0) := hF
  clear hF
  go_loopw [5] (fun v5 wr => ∃ (k : Nat), v5 = .int .i64 ((64 * k : Nat) : Int) ∧ k ≤ M ∧ Chg w wr ∧ Ar wr w.heap.size (arr .u32 64 number32) ∧ Ar wr (w.heap.size + 1) (arr .u32 8 (refN F k)) ∧ Bs wr g off m F) (fun v5 wr => m - (intOf v5).toNat)
  case atStart => exact ⟨0, rfl, by omega, z0.out.1, z0.out.2.1, z0.out.2.2.1, z0.out.2.2.2.1⟩
  case round =>
    have HG : Hid (w.heap.size + 1 < g) := z0.out.2.2.2.2.1
    clear z0
    obtain ⟨k, rfl, hk, hch, h1, h2, h3⟩ := hrel
    obtain ⟨fr, hfr⟩ : ∃ fr : Nat, fr = 64 * k := ⟨_, rfl⟩
    rw [← hfr]
    by_cases hkM : k < M
    · have hfm : fr + 64 ≤ m := by rw [hfr, HM.out.1]; omega
      have hfd : decide ((fr : Int) < m) = true := by simp; omega
      have hfd' : decide (fr < m) = true := by simp; omega
      obtain ⟨w1, hw1⟩ : ∃ w1, w1 = wr.alloc (.cells (arr .u32 64 fun _ => 0) 88) := ⟨_, rfl⟩
      obtain ⟨Wb, hWb⟩ : ∃ Wb, Wb = wr.heap.size := ⟨_, rfl⟩
      obtain ⟨d, hd⟩ : ∃ d : Nat → Int, d = fun j => F (fr + j) := ⟨_, rfl⟩
      have q1 : Chg wr w1 := by rw [hw1]; exact (Chg.refl wr).alloc _
      have z1 : Hid (Chg w w1 ∧ Ar w1 w.heap.size (arr .u32 64 number32) ∧ Ar w1 (w.heap.size + 1) (arr .u32 8 (refN F k)) ∧ Bs w1 g off m F ∧ Ar w1 Wb (arr .u32 64 (firstR d 0)) ∧ g < Wb) := by
        refine ⟨hch.trans q1, h1.chg q1, h2.chg q1, h3.chg q1, ?_, ?_⟩
        · rw [hw1, hWb]
          exact Ar.new wr _ _
        · have := block_lt_of_cell (h3 0 (by omega))
          dsimp only at this
          omega
      have HD : Hid (d = (fun j => F (fr + j)) ∧ fr = 64 * k) := ⟨hd, hfr⟩
      have hz := zero64_32.1
      clear q1 hd hfr hch h1 h2 h3
      go_upto_block 2 with fail
      rw [← hw1, ← hWb]
      clear hw1 hWb hz
      have HW : Hid (g < Wb ∧ w.heap.size ≤ Wb ∧ w.heap.size + 1 < Wb) := ⟨z1.out.2.2.2.2.2, by have := z1.out.2.2.2.2.2; have := HG.out; omega, by have := z1.out.2.2.2.2.2; have := HG.out; omega⟩
      refine first32_any g off m cap fr Wb F d w1 z1.out.2.2.2.2.1 z1.out.2.2.2.1 (by have := HW.out.1; omega) HD.out.1 hfm hmm ?_
      intro u7 u8 u31 u32 u33 u34 u35 u36 u37 u38 u39 u40 u41 u42 u43 u44 u45 u46 u47 u48 u49 u50 u51 u52 u53 u54 u55 u56 u57 u58 u59 u60 u61 u62 u63 u64 u65 u66 u67 u68 u69 w2 ⟨c2, a2⟩
      have z2 : Hid (Chg w w2 ∧ Ar w2 w.heap.size (arr .u32 64 number32) ∧ Ar w2 (w.heap.size + 1) (arr .u32 8 (refN F k)) ∧ Bs w2 g off m F ∧ Ar w2 Wb (arr .u32 64 (firstR d 16))) := by
        obtain ⟨k0, k1, k2, k3, k4, k5⟩ := z1.out
        have hw := HW.out
        exact ⟨Cb.low k0 c2 hw.2.1, k1.cb c2 (by omega), k2.cb c2 (by omega), fun j hj => cell_cb c2 (by omega) (k3 j hj), a2⟩
      clear z1 c2 a2
      go_upto_block 4 with fail
      refine more32_any Wb d w2 z2.out.2.2.2.2 ?_
      intro u9 u10 u11 u70 u71 u72 u73 u74 u75 u76 u77 u78 u79 u80 u81 u82 u83 u84 u85 u86 u87 u88 u89 u90 u91 u92 u93 u94 u95 u96 u97 u98 u99 u100 u101 u102 u103 u104 u105 u106 u107 u108 u109 u110 w3 ⟨c3, a3⟩
      have z3 : Hid (Chg w w3 ∧ Ar w3 w.heap.size (arr .u32 64 number32) ∧ Ar w3 (w.heap.size + 1) (arr .u32 8 (refN F k)) ∧ Bs w3 g off m F ∧ Ar w3 Wb (arr .u32 64 (wordsR d))) := by
        obtain ⟨k0, k1, k2, k3, k4⟩ := z2.out
        have hw := HW.out
        exact ⟨Cb.low k0 c3 hw.2.1, k1.cb c3 (by omega), k2.cb c3 (by omega), fun j hj => cell_cb c3 (by omega) (k3 j hj), a3⟩
      clear z2 c3 a3
      obtain ⟨s, hs⟩ : ∃ s, s = refN F k := ⟨_, rfl⟩
      have HS : Hid (s = refN F k) := hs
      have h2 := z3.out.2.2.1
      rw [← hs] at h2
      have s0' := (h2.cell 0).trans (arr_get .u32 8 s (i := 0) (by omega))
      have s1' := (h2.cell 1).trans (arr_get .u32 8 s (i := 1) (by omega))
      have s2' := (h2.cell 2).trans (arr_get .u32 8 s (i := 2) (by omega))
      have s3' := (h2.cell 3).trans (arr_get .u32 8 s (i := 3) (by omega))
      have s4' := (h2.cell 4).trans (arr_get .u32 8 s (i := 4) (by omega))
      have s5' := (h2.cell 5).trans (arr_get .u32 8 s (i := 5) (by omega))
      have s6' := (h2.cell 6).trans (arr_get .u32 8 s (i := 6) (by omega))
      have s7' := (h2.cell 7).trans (arr_get .u32 8 s (i := 7) (by omega))
      obtain ⟨Vb, hVb⟩ : ∃ Vb, Vb = w3.heap.size := ⟨_, rfl⟩
      obtain ⟨w4, hw4⟩ : ∃ w4, w4 = w3.alloc (.cells #[.int .u32 (s 0), .int .u32 (s 1), .int .u32 (s 2), .int .u32 (s 3), .int .u32 (s 4), .int .u32 (s 5), .int .u32 (s 6), .int .u32 (s 7)] 89) := ⟨_, rfl⟩
      have z4 : Hid (Chg w w4 ∧ Ar w4 w.heap.size (arr .u32 64 number32) ∧ Ar w4 (w.heap.size + 1) (arr .u32 8 (refN F k)) ∧ Bs w4 g off m F ∧ Ar w4 Wb (arr .u32 64 (wordsR d)) ∧ Ar w4 Vb (arr .u32 8 (St.of s).at) ∧ Wb < Vb) := by
        obtain ⟨k0, k1, k2, k3, k4⟩ := z3.out
        have q4 : Chg w3 w4 := by rw [hw4]; exact (Chg.refl w3).alloc _
        refine ⟨k0.trans q4, k1.chg q4, k2.chg q4, k3.chg q4, k4.chg q4, ?_, ?_⟩
        · rw [hw4, hVb]
          exact Ar.new w3 _ _
        · rw [hVb]
          exact k4.lt
      clear z3 h2 hs
      go_upto_block 6 with fail
      rw [← hw4, ← hVb]
      clear hw4 hVb s0' s1' s2' s3' s4' s5' s6' s7'
      refine rounds32_any w.heap.size Wb Vb s (wordsR d) w4 z4.out.2.2.2.2.2.1 z4.out.2.1 z4.out.2.2.2.2.1 (by have := z4.out.2.2.2.2.2.2; have := HW.out; omega) (by have := z4.out.2.2.2.2.2.2; omega) ?_
      intro u13 u14 u15 u16 u17 u112 u113 u114 u115 u116 u117 u118 u119 u120 u121 u122 u123 u124 u125 u126 u127 u128 u129 u130 u131 u132 u133 u134 u135 u136 u137 u138 u139 u140 u141 u142 u143 u144 u145 u146 u147 u148 u149 u150 u151 u152 u153 u154 u155 u156 u157 u158 u159 u160 u161 u162 u163 u164 u165 u166 u167 u168 u169 u170 u171 u172 u173 u174 u175 u176 u177 u178 u179 u180 u181 u182 u183 u184 u185 u186 u187 u188 u189 u190 u191 w5 ⟨c5, a5⟩
      obtain ⟨V, hV⟩ : ∃ V, V = (rnds .u32 (turn3 .u32 2 13 22) (turn3 .u32 6 11 25) number32 (wordsR d) (St.of s) 64).at := ⟨_, rfl⟩
      rw [← hV] at a5
      have HV : Hid (V = (rnds .u32 (turn3 .u32 2 13 22) (turn3 .u32 6 11 25) number32 (wordsR d) (St.of s) 64).at) := hV
      have z5 : Hid (Chg w w5 ∧ Ar w5 w.heap.size (arr .u32 64 number32) ∧ Ar w5 (w.heap.size + 1) (arr .u32 8 (refN F k)) ∧ Bs w5 g off m F ∧ Ar w5 Vb (arr .u32 8 V) ∧ Wb < Vb) := by
        obtain ⟨k0, k1, k2, k3, k4, k5, k6⟩ := z4.out
        have hw := HW.out
        exact ⟨Cb.low k0 c5 (by omega), k1.cb c5 (by omega), k2.cb c5 (by omega), fun j hj => cell_cb c5 (by omega) (k3 j hj), a5, k6⟩
      clear z4 c5 a5 hV
      go_upto_block 8 with fail
      refine summed32_any (w.heap.size + 1) Vb s V w5 (by rw [HS.out]; exact z5.out.2.2.1) z5.out.2.2.2.2.1 (by have := z5.out.2.2.2.2.2; have := HW.out; omega) ?_
      intro u18 u192 u193 u194 u195 u196 u197 u198 u199 u200 u201 u202 u203 u204 w6 ⟨c6, a6⟩
      have z6 : Hid (Chg w w6 ∧ Ar w6 w.heap.size (arr .u32 64 number32) ∧ Ar w6 (w.heap.size + 1) (arr .u32 8 (refN F (k + 1))) ∧ Bs w6 g off m F) := by
        obtain ⟨k0, k1, k2, k3, k4, k5⟩ := z5.out
        have hw := HW.out
        have hg := HG.out
        refine ⟨Cb.low k0 c6 (by omega), k1.cb c6 (by omega), ?_, fun j hj => cell_cb c6 (by omega) (k3 j hj)⟩
        have e1 : (fun i => IntKind.u32.wrap (s i + V i)) = refN F (k + 1) := by
          funext i
          rw [HV.out, HS.out, HD.out.1, HD.out.2]
          rfl
        rw [e1] at a6
        exact a6
      clear z5 c6 a6
      go_wp2_with fail
      have hfr := HD.out.2
      refine ⟨⟨k + 1, by rw [hfr]; go_num, by omega, z6.out.1, z6.out.2.1, z6.out.2.2.1, z6.out.2.2.2⟩, ?_⟩
      simp [intOf]
      omega
    · have hfd : decide ((fr : Int) < m) = false := by
        have := HM.out.1
        simp
        omega
      have hfd' : decide (fr < m) = false := by
        have := HM.out.1
        simp
        omega
      have hkM' : k = M := by omega
      obtain ⟨s, hs⟩ : ∃ s, s = refN F M := ⟨_, rfl⟩
      rw [hkM', ← hs] at h2
      have HS : Hid (s = refN F M) := hs
      have H2 : Hid (Ar wr (w.heap.size + 1) (arr .u32 8 s)) := h2
      have HC : Hid (Chg w wr) := hch
      have zn : Hid (OwnN w wr (.slice none 0 0) (outR s 0)) := ⟨.inl ⟨rfl, rfl⟩, fun i e => by simp [Value.ownBlock] at e, hch.toAp⟩
      clear hs hkM' hfr hch h1 h2 h3
      go_wp2_with fail
      obtain ⟨w6, hw6⟩ : ∃ w6, w6 = wr := ⟨_, rfl⟩
      subst hw6
      go_loopw [19, 20] (fun v19 v20 wr => ∃ (e : Nat), v20 = .int .i64 e ∧ e ≤ 8 ∧ Ar wr (w.heap.size + 1) (arr .u32 8 s) ∧ OwnN w wr v19 (outR s e) ∧ ∀ i, v19.ownBlock = some i → i ≠ w.heap.size + 1) (fun v19 v20 wr => 8 - (intOf v20).toNat)
      case atStart => exact ⟨0, rfl, by omega, H2.out, zn.out, fun i e => by simp [Value.ownBlock] at e⟩
      case round =>
        clear zn H2 HC
        obtain ⟨e, rfl, he, h2, ho, hob⟩ := hrel
        obtain ⟨so, sm, sc, rfl, hsm, _⟩ := ho.own.rd.shape
        have H : Hid (Ar wr (w.heap.size + 1) (arr .u32 8 s) ∧ OwnN w wr (.slice so sm sc) (outR s e) ∧ ∀ i, (Value.slice so sm sc).ownBlock = some i → i ≠ w.heap.size + 1) := ⟨h2, ho, hob⟩
        by_cases he8 : e < 8
        ·
          have hed : decide ((e : Int) < 8) = true := by simp; omega
          have le8 : (e : Int) < 8 := by omega
          obtain ⟨x, hx⟩ : ∃ x, x = s e := ⟨_, rfl⟩
          have c0 := (h2.cell e).trans (arr_get .u32 8 s he8)
          rw [← hx] at c0
          have HX : Hid (x = s e) := hx
          have hol := outR_len s e
          clear hx h2 ho hob hsm
          go_wp2_with fail
          go_region_held3 (fun w' => w'.cell? ⟨w.heap.size + 1, e, none⟩ = some (.int .u32 x))
            (first | exact c0 | exact cell_at ((Chg.refl wr).drew.alloc _) c0 | exact cA)
            ((refine step_app rfl (.tmp 209) (.tmp 229) rfl (.slice so sm sc) _ (outR s e) [IntKind.u8.wrap (x / 16777216), IntKind.u8.wrap (x / 65536), IntKind.u8.wrap (x / 256), IntKind.u8.wrap x] rfl rfl ?_ ?_ ?_ ?_; (exact OwnV.drew (H.out.2.1.alloc _).own); (exact (Rd.four wr _ _ _ _).drew); (simp only [List.length_cons, List.length_nil]; omega); intro v2 w2 o2 c2 b2; have cA : w2.cell? ⟨w.heap.size + 1, e, none⟩ = some (.int .u32 x) := (Ar.cell (Ar.apN (Ar.drew (H.out.1.alloc _)) c2 (fun q => H.out.2.2 _ q rfl)) e).trans ((arr_get .u32 8 s he8).trans (by rw [HX.out]))))
          all_goals
            have Z2 : Hid (Ap.OwnV w2 v2 (outR s (e + 1)) ∧ Ap.Chg (fun k => (Value.slice so sm sc).ownBlock = some k) (wr.alloc (.cells #[.int .u8 (IntKind.u8.wrap (x / 16777216)), .int .u8 (IntKind.u8.wrap (x / 65536)), .int .u8 (IntKind.u8.wrap (x / 256)), .int .u8 (IntKind.u8.wrap x)] 5)).drew w2 ∧ (v2.ownBlock = (Value.slice so sm sc).ownBlock ∨ v2.ownBlock = some (wr.heap.size + 1))) := by
              refine ⟨?_, c2, by rw [heap_drew, World.size_alloc] at b2; exact b2⟩
              rw [outR, ← HX.out]
              exact o2
            clear o2 c2 b2 cA
            go_wp2
            obtain ⟨k2, k3, k4⟩ := H.out
            obtain ⟨o2, c2, b2⟩ := Z2.out
            refine ⟨⟨e + 1, by go_num, by omega, ?_, ?_, ?_⟩, ?_⟩
            · exact (k2.alloc _).drew.apN c2 (fun q => k4 _ q rfl)
            · exact (k3.alloc _).drew.more o2 c2 (by rw [heap_drew, World.size_alloc]; exact b2)
            · intro i hi
              rcases b2 with b2 | b2
              · exact k4 i (by rw [← b2]; exact hi)
              · rw [b2] at hi
                injection hi with hi
                have := k2.lt
                omega
            · simp [intOf]; omega
        · have hed : decide ((e : Int) < 8) = false := by simp; omega
          have he' : e = 8 := by omega
          have Z : Hid (OwnN w wr (.slice so sm sc) (outR s 8)) := by
            rw [← he']
            exact ho
          clear he' h2 ho hob hsm H
          go_wp2
          go_ret
          refine ⟨_, rfl, ?_⟩
          have hz := Z.out
          rw [HS.out, HF.out, HM.out.2.1] at hz
          have hm2 : M = (xs ++ padL 64 xs.length).length / 64 := by
            rw [← HM.out.2.1, HM.out.2.2, HM.out.1]
            omega
          rw [← hm2]
          exact hz
end Go.Proofs.YtijpdhjlafihkaaDoor
