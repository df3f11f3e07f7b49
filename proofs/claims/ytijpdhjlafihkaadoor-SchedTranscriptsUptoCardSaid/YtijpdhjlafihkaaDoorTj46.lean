/-
  The document's sum by words of 64 bits.
-/
import Derived.Test.YtijpdhjlafihkaaDoorTj42
import Derived.Test.YtijpdhjlafihkaaDoorTj43
import Derived.Test.YtijpdhjlafihkaaDoorTj44
import Derived.Test.YtijpdhjlafihkaaDoorTj45
namespace Go.Proofs.YtijpdhjlafihkaaDoor
open Go.RowKit
set_option linter.unusedVariables false
set_option maxRecDepth 100000

set_option maxRecDepth 100000 in
theorem built58 : Tryd.prog.built 92 [(0, .int .u64 4794697086780616226), (1, .int .u64 8158064640168781261), (2, .int .u64 13096744586834688815), (3, .int .u64 16840607885511220156), (4, .int .u64 4131703408338449720), (5, .int .u64 6480981068601479193), (6, .int .u64 10538285296894168987), (7, .int .u64 12329834152419229976), (8, .int .u64 15566598209576043074), (9, .int .u64 1334009975649890238), (10, .int .u64 2608012711638119052), (11, .int .u64 6128411473006802146), (12, .int .u64 8268148722764581231), (13, .int .u64 9286055187155687089), (14, .int .u64 11230858885718282805), (15, .int .u64 13951009754708518548), (16, .int .u64 16472876342353939154), (17, .int .u64 17275323862435702243), (18, .int .u64 1135362057144423861), (19, .int .u64 2597628984639134821), (20, .int .u64 3308224258029322869), (21, .int .u64 5365058923640841347), (22, .int .u64 6679025012923562964), (23, .int .u64 8573033837759648693), (24, .int .u64 10970295158949994411), (25, .int .u64 12119686244451234320), (26, .int .u64 12683024718118986047), (27, .int .u64 13788192230050041572), (28, .int .u64 14330467153632333762), (29, .int .u64 15395433587784984357), (30, .int .u64 489312712824947311), (31, .int .u64 1452737877330783856), (32, .int .u64 2861767655752347644), (33, .int .u64 3322285676063803686), (34, .int .u64 5560940570517711597), (35, .int .u64 5996557281743188959), (36, .int .u64 7280758554555802590), (37, .int .u64 8532644243296465576), (38, .int .u64 9350256976987008742), (39, .int .u64 10552545826968843579), (40, .int .u64 11727347734174303076), (41, .int .u64 12113106623233404929), (42, .int .u64 14000437183269869457), (43, .int .u64 14369950271660146224), (44, .int .u64 15101387698204529176), (45, .int .u64 15463397548674623760), (46, .int .u64 17586052441742319658), (47, .int .u64 1182934255886127544), (48, .int .u64 1847814050463011016), (49, .int .u64 2177327727835720531), (50, .int .u64 2830643537854262169), (51, .int .u64 3796741975233480872), (52, .int .u64 4115178125766777443), (53, .int .u64 5681478168544905931), (54, .int .u64 6601373596472566643), (55, .int .u64 7507060721942968483), (56, .int .u64 8399075790359081724), (57, .int .u64 8693463985226723168), (58, .int .u64 9568029438360202098), (59, .int .u64 10144078919501101548), (60, .int .u64 10430055236837252648), (61, .int .u64 11840083180663258601), (62, .int .u64 13761210420658862357), (63, .int .u64 14299343276471374635), (64, .int .u64 14566680578165727644), (65, .int .u64 15097957966210449927), (66, .int .u64 16922976911328602910), (67, .int .u64 17689382322260857208), (68, .int .u64 500013540394364858), (69, .int .u64 748580250866718886), (70, .int .u64 1242879168328830382), (71, .int .u64 1977374033974150939), (72, .int .u64 2944078676154940804), (73, .int .u64 3659926193048069267), (74, .int .u64 4368137639120453308), (75, .int .u64 4836135668995329356), (76, .int .u64 5532061633213252278), (77, .int .u64 6448918945643986474), (78, .int .u64 6902733635092675308), (79, .int .u64 7801388544844847127)] = some (arr .u64 80 number64) := by kernel_rfl
theorem heap_box2 {w : World} {o : Obj} {p : Obj} : ((w.alloc o).alloc p).heap[w.heap.size + 1]? = some p := by
  have := heap_alloc_last (w.alloc o) p
  rw [World.size_alloc] at this
  exact this
def ref64 (s0 f : Nat → Int) : Nat → (Nat → Int)
  | 0 => s0
  | k + 1 => mix64 (ref64 s0 f k) (fun j => f (128 * k + j))
/-- The bytes of a word, and of so many words. -/
def byt64 (s : Nat → Int) (e : Nat) : List Int := (List.range 8).map fun i => IntKind.u8.wrap (s e / 2 ^ (8 * (7 - i)))
def out64 (s : Nat → Int) : Nat → List Int
  | 0 => []
  | e + 1 => out64 s e ++ byt64 s e
theorem out64_len (s : Nat → Int) (e : Nat) : (out64 s e).length = 8 * e := by
  induction e with
  | zero => rfl
  | succ e ih => simp only [out64, byt64, List.length_append, List.length_map, List.length_range, ih]; omega

set_option maxRecDepth 100000 in
set_option maxHeartbeats 8000000 in
theorem sum64_any (v : Value) (xs : List Int) (s0 : Nat → Int) (w : World) (hr : Ap.Rd w v xs) (hl : xs.length ≤ 140737488353280) :
    Calls Tryd.prog 48 #[v, .agg (arr .u64 8 s0)] w fun e w' => ∃ v', e = .returned v' ∧ OwnN w w' v' (out64 (ref64 s0 (fun j => (xs ++ padL 128 xs.length).getD j 0) ((xs ++ padL 128 xs.length).length / 128)) 8) := by
  obtain ⟨n, hn⟩ : ∃ n, n = xs.length := ⟨_, rfl⟩
  have hz := zero80_64.1
  have hb := built58
  have hsz : (Tryd.prog.info? 92).map (·.size) = some (arr .u64 80 number64).size := by rw [arr_size]; exact zero80_64.2
  have hlen : (arr .u64 80 fun _ => 0).size = (arr .u64 80 number64).size := by rw [arr_size, arr_size]
  have hone := arr_one .u64 80 number64
  have HP : Hid (∀ u, Ap.Chg Ap.Non w u → Calls Tryd.prog 63 #[v, .int .i64 128] u fun e w' => ∃ v', e = .returned v' ∧ OwnN u w' v' (xs ++ padL 128 xs.length)) := by
    intro u hu
    exact padded_any 128 v xs u (.inr rfl) (hr.keep (fun k _ hk => hu.block k hk (fun x => x.elim))) hl
  clear hr
  go_enter Tryd.func48, Tryd.ntmps48
  go_wp2_with (first | refine wpList_build rfl 92 _ rfl (by kernel_rfl) ?_ | refine wpList_store_row rfl 92 _ _ rfl _ _ rfl rfl _ _ heap_box2 hsz hlen hone ?_)
  obtain ⟨uA, huA⟩ : ∃ u, u = ((w.alloc (.cells (arr .u64 8 s0) 56)).alloc (.cells (arr .u64 80 fun _ => 0) 92)).setRow (w.heap.size + 1) (arr .u64 80 number64) := ⟨_, rfl⟩
  rw [← huA]
  have a0 : Chg w uA := by
    rw [huA]
    exact (((Chg.refl w).alloc _).alloc _).setRow (by omega) _
  have a1 : Ar uA (w.heap.size + 1) (arr .u64 80 number64) := by
    rw [huA]
    exact (Ar.new1 w _ _ _).row _
  have a2 : Ar uA w.heap.size (arr .u64 8 s0) := by
    rw [huA]
    exact ((Ar.new w _ _).alloc _).rowOther (by omega) _
  refine (HP.out uA a0.toAp).mono ?_
  rintro e u1 ⟨vb, rfl, ob⟩
  obtain ⟨bs, hbs⟩ : ∃ bs, bs = xs ++ padL 128 xs.length := ⟨_, rfl⟩
  rw [← hbs] at ob
  obtain ⟨M, hM⟩ := padL_len128 xs.length
  have hbl : bs.length = 128 * M := by rw [hbs, List.length_append, hM]
  have hbm : bs.length ≤ 140737488354048 := by
    rw [hbs, List.length_append]
    simp only [padL, padE, padK, List.length_append, List.length_replicate, List.length_cons, List.length_nil, List.length_map, List.length_range]
    omega
  have hM0 : 0 < M := by
    rcases Nat.eq_zero_or_pos M with e | e
    · exfalso
      rw [e] at hM
      simp [padL] at hM
    · exact e
  obtain ⟨g, off, m, cap, rfl, ow⟩ : ∃ g off m cap, vb = .slice (some ⟨g, off, none⟩) m cap ∧ Ap.Own u1 g off m cap bs := by
    rcases ob.own with ⟨_, e⟩ | h
    · rw [e] at hbl
      simp at hbl
      omega
    · exact h
  have hmb : m = 128 * M := by rw [← ow.len, hbl]
  have hgw : uA.heap.size ≤ g := ob.new g rfl
  have c1 : Chg uA u1 := Chg.ofAp ob.chg
  have ha := a1.lt
  have z0 : Hid (Chg w u1 ∧ Ar u1 (w.heap.size + 1) (arr .u64 80 number64) ∧ Ar u1 w.heap.size (arr .u64 8 (ref64 s0 (fun j => bs.getD j 0) 0)) ∧ Bs u1 g off m (fun j => bs.getD j 0) ∧ w.heap.size + 1 < g ∧ g < u1.heap.size) := by
    refine ⟨a0.trans c1, a1.chg c1, a2.chg c1, ?_, by omega, ow.lt⟩
    have := Own.bs ow
    rw [ow.len] at this
    exact this
  have HM : Hid (m = 128 * M ∧ bs = xs ++ padL 128 xs.length ∧ bs.length = m) := ⟨hmb, hbs, ow.len⟩
  have hmm : m ≤ 140737488354048 := by rw [← ow.len]; exact hbm
  have hcap : m ≤ cap := ow.le
  clear a0 a1 a2 ob ow c1 hM hbl hbm hmb hgw ha huA hbs hz hb hsz hlen hone
  go_wp2_with fail
  obtain ⟨F, hF⟩ : ∃ F : Nat → Int, F = fun j => bs.getD j 0 := ⟨_, rfl⟩
  rw [← hF] at z0
  have HF : Hid (F = fun j => bs.getD j 0) := hF
  clear hF
  go_loopw [6] (fun v6 wr => ∃ (k : Nat), v6 = .int .i64 ((128 * k : Nat) : Int) ∧ k ≤ M ∧ Chg w wr ∧ Ar wr (w.heap.size + 1) (arr .u64 80 number64) ∧ Ar wr w.heap.size (arr .u64 8 (ref64 s0 F k)) ∧ Bs wr g off m F) (fun v6 wr => m - (intOf v6).toNat)
  case atStart => exact ⟨0, rfl, by omega, z0.out.1, z0.out.2.1, z0.out.2.2.1, z0.out.2.2.2.1⟩
  case round =>
    have HG : Hid (w.heap.size + 1 < g) := z0.out.2.2.2.2.1
    clear z0
    obtain ⟨k, rfl, hk, hch, h1, h2, h3⟩ := hrel
    obtain ⟨fr, hfr⟩ : ∃ fr : Nat, fr = 128 * k := ⟨_, rfl⟩
    rw [← hfr]
    by_cases hkM : k < M
    · have hfm : fr + 128 ≤ m := by rw [hfr, HM.out.1]; omega
      have hfd : decide ((fr : Int) < m) = true := by simp; omega
      have hfd' : decide (fr < m) = true := by simp; omega
      obtain ⟨w1, hw1⟩ : ∃ w1, w1 = wr.alloc (.cells (arr .u64 80 fun _ => 0) 92) := ⟨_, rfl⟩
      obtain ⟨Wb, hWb⟩ : ∃ Wb, Wb = wr.heap.size := ⟨_, rfl⟩
      obtain ⟨d, hd⟩ : ∃ d : Nat → Int, d = fun j => F (fr + j) := ⟨_, rfl⟩
      have q1 : Chg wr w1 := by rw [hw1]; exact (Chg.refl wr).alloc _
      have z1 : Hid (Chg w w1 ∧ Ar w1 (w.heap.size + 1) (arr .u64 80 number64) ∧ Ar w1 w.heap.size (arr .u64 8 (ref64 s0 F k)) ∧ Bs w1 g off m F ∧ Ar w1 Wb (arr .u64 80 (firstW .u64 8 d 0)) ∧ g < Wb) := by
        refine ⟨hch.trans q1, h1.chg q1, h2.chg q1, h3.chg q1, ?_, ?_⟩
        · rw [hw1, hWb]
          exact Ar.new wr _ _
        · have := block_lt_of_cell (h3 0 (by omega))
          dsimp only at this
          omega
      have HD : Hid (d = (fun j => F (fr + j)) ∧ fr = 128 * k) := ⟨hd, hfr⟩
      have hz := zero80_64.1
      clear q1 hd hfr hch h1 h2 h3
      go_upto_block 2 with fail
      rw [← hw1, ← hWb]
      clear hw1 hWb hz
      have HW : Hid (g < Wb ∧ w.heap.size ≤ Wb ∧ w.heap.size + 1 < Wb) := ⟨z1.out.2.2.2.2.2, by have := z1.out.2.2.2.2.2; have := HG.out; omega, by have := z1.out.2.2.2.2.2; have := HG.out; omega⟩
      refine first64_any g off m cap fr Wb F d w1 z1.out.2.2.2.2.1 z1.out.2.2.2.1 (by have := HW.out.1; omega) HD.out.1 hfm hmm ?_
      intro u8 u9 u32 u33 u34 u35 u36 u37 u38 u39 u40 u41 u42 u43 u44 u45 u46 u47 u48 u49 u50 u51 u52 u53 u54 u55 u56 w2 ⟨c2, a2⟩
      have z2 : Hid (Chg w w2 ∧ Ar w2 (w.heap.size + 1) (arr .u64 80 number64) ∧ Ar w2 w.heap.size (arr .u64 8 (ref64 s0 F k)) ∧ Bs w2 g off m F ∧ Ar w2 Wb (arr .u64 80 (firstW .u64 8 d 16))) := by
        obtain ⟨k0, k1, k2, k3, k4, k5⟩ := z1.out
        have hw := HW.out
        exact ⟨Cb.low k0 c2 hw.2.1, k1.cb c2 (by omega), k2.cb c2 (by omega), fun j hj => cell_cb c2 (by omega) (k3 j hj), a2⟩
      clear z1 c2 a2
      go_upto_block 6 with fail
      refine more64_any Wb d w2 z2.out.2.2.2.2 ?_
      intro u10 u11 u12 u57 u58 u59 u60 u61 u62 u63 u64 u65 u66 u67 u68 u69 u70 u71 u72 u73 u74 u75 u76 u77 u78 u79 u80 u81 u82 u83 u84 u85 u86 u87 u88 u89 u90 u91 u92 u93 u94 u95 u96 u97 w3 ⟨c3, a3⟩
      have z3 : Hid (Chg w w3 ∧ Ar w3 (w.heap.size + 1) (arr .u64 80 number64) ∧ Ar w3 w.heap.size (arr .u64 8 (ref64 s0 F k)) ∧ Bs w3 g off m F ∧ Ar w3 Wb (arr .u64 80 (words64 d))) := by
        obtain ⟨k0, k1, k2, k3, k4⟩ := z2.out
        have hw := HW.out
        exact ⟨Cb.low k0 c3 hw.2.1, k1.cb c3 (by omega), k2.cb c3 (by omega), fun j hj => cell_cb c3 (by omega) (k3 j hj), a3⟩
      clear z2 c3 a3
      obtain ⟨s, hs⟩ : ∃ s, s = ref64 s0 F k := ⟨_, rfl⟩
      have HS : Hid (s = ref64 s0 F k) := hs
      have h2 := z3.out.2.2.1
      rw [← hs] at h2
      have s0' := (h2.cell 0).trans (arr_get .u64 8 s (i := 0) (by omega))
      have s1' := (h2.cell 1).trans (arr_get .u64 8 s (i := 1) (by omega))
      have s2' := (h2.cell 2).trans (arr_get .u64 8 s (i := 2) (by omega))
      have s3' := (h2.cell 3).trans (arr_get .u64 8 s (i := 3) (by omega))
      have s4' := (h2.cell 4).trans (arr_get .u64 8 s (i := 4) (by omega))
      have s5' := (h2.cell 5).trans (arr_get .u64 8 s (i := 5) (by omega))
      have s6' := (h2.cell 6).trans (arr_get .u64 8 s (i := 6) (by omega))
      have s7' := (h2.cell 7).trans (arr_get .u64 8 s (i := 7) (by omega))
      obtain ⟨Vb, hVb⟩ : ∃ Vb, Vb = w3.heap.size := ⟨_, rfl⟩
      obtain ⟨w4, hw4⟩ : ∃ w4, w4 = w3.alloc (.cells #[.int .u64 (s 0), .int .u64 (s 1), .int .u64 (s 2), .int .u64 (s 3), .int .u64 (s 4), .int .u64 (s 5), .int .u64 (s 6), .int .u64 (s 7)] 56) := ⟨_, rfl⟩
      have z4 : Hid (Chg w w4 ∧ Ar w4 (w.heap.size + 1) (arr .u64 80 number64) ∧ Ar w4 w.heap.size (arr .u64 8 (ref64 s0 F k)) ∧ Bs w4 g off m F ∧ Ar w4 Wb (arr .u64 80 (words64 d)) ∧ Ar w4 Vb (arr .u64 8 (St.of s).at) ∧ Wb < Vb) := by
        obtain ⟨k0, k1, k2, k3, k4⟩ := z3.out
        have q4 : Chg w3 w4 := by rw [hw4]; exact (Chg.refl w3).alloc _
        refine ⟨k0.trans q4, k1.chg q4, k2.chg q4, k3.chg q4, k4.chg q4, ?_, ?_⟩
        · rw [hw4, hVb]
          exact Ar.new w3 _ _
        · rw [hVb]
          exact k4.lt
      clear z3 h2 hs
      go_upto_block 8 with fail
      rw [← hw4, ← hVb]
      clear hw4 hVb s0' s1' s2' s3' s4' s5' s6' s7'
      refine rounds64_any (w.heap.size + 1) Wb Vb s (words64 d) w4 z4.out.2.2.2.2.2.1 z4.out.2.1 z4.out.2.2.2.2.1 (by have := z4.out.2.2.2.2.2.2; have := HW.out; omega) (by have := z4.out.2.2.2.2.2.2; omega) ?_
      intro u14 u15 u16 u17 u18 u99 u100 u101 u102 u103 u104 u105 u106 u107 u108 u109 u110 u111 u112 u113 u114 u115 u116 u117 u118 u119 u120 u121 u122 u123 u124 u125 u126 u127 u128 u129 u130 u131 u132 u133 u134 u135 u136 u137 u138 u139 u140 u141 u142 u143 u144 u145 u146 u147 u148 u149 u150 u151 u152 u153 u154 u155 u156 u157 u158 u159 u160 u161 u162 u163 u164 u165 u166 u167 u168 u169 u170 u171 u172 u173 u174 u175 u176 u177 u178 w5 ⟨c5, a5⟩
      obtain ⟨V, hV⟩ : ∃ V, V = (rnds .u64 (turn3 .u64 28 34 39) (turn3 .u64 14 18 41) number64 (words64 d) (St.of s) 80).at := ⟨_, rfl⟩
      rw [← hV] at a5
      have HV : Hid (V = (rnds .u64 (turn3 .u64 28 34 39) (turn3 .u64 14 18 41) number64 (words64 d) (St.of s) 80).at) := hV
      have z5 : Hid (Chg w w5 ∧ Ar w5 (w.heap.size + 1) (arr .u64 80 number64) ∧ Ar w5 w.heap.size (arr .u64 8 (ref64 s0 F k)) ∧ Bs w5 g off m F ∧ Ar w5 Vb (arr .u64 8 V) ∧ Wb < Vb) := by
        obtain ⟨k0, k1, k2, k3, k4, k5, k6⟩ := z4.out
        have hw := HW.out
        exact ⟨Cb.low k0 c5 (by omega), k1.cb c5 (by omega), k2.cb c5 (by omega), fun j hj => cell_cb c5 (by omega) (k3 j hj), a5, k6⟩
      clear z4 c5 a5 hV
      go_upto_block 10 with fail
      refine summed64_any w.heap.size Vb s V w5 (by rw [HS.out]; exact z5.out.2.2.1) z5.out.2.2.2.2.1 (by have := z5.out.2.2.2.2.2; have := HW.out; omega) ?_
      intro u19 u179 u180 u181 u182 u183 u184 u185 u186 u187 u188 u189 u190 u191 w6 ⟨c6, a6⟩
      have z6 : Hid (Chg w w6 ∧ Ar w6 (w.heap.size + 1) (arr .u64 80 number64) ∧ Ar w6 w.heap.size (arr .u64 8 (ref64 s0 F (k + 1))) ∧ Bs w6 g off m F) := by
        obtain ⟨k0, k1, k2, k3, k4, k5⟩ := z5.out
        have hw := HW.out
        have hg := HG.out
        refine ⟨Cb.low k0 c6 (by omega), k1.cb c6 (by omega), ?_, fun j hj => cell_cb c6 (by omega) (k3 j hj)⟩
        have e1 : (fun i => IntKind.u64.wrap (s i + V i)) = ref64 s0 F (k + 1) := by
          funext i
          rw [HV.out, HS.out, HD.out.1, HD.out.2]
          rfl
        rw [e1] at a6
        exact a6
      clear z5 c6 a6
      go_wp2_with fail
      have hfr := HD.out.2
      refine ⟨⟨k + 1, by rw [hfr]; go_num, by omega, z6.out.1, z6.out.2.1, z6.out.2.2.1, z6.out.2.2.2⟩, ?_⟩
      simp [intOf]
      omega
    · have hfd : decide ((fr : Int) < m) = false := by
        have := HM.out.1
        simp
        omega
      have hfd' : decide (fr < m) = false := by
        have := HM.out.1
        simp
        omega
      have hkM' : k = M := by omega
      obtain ⟨s, hs⟩ : ∃ s, s = ref64 s0 F M := ⟨_, rfl⟩
      rw [hkM', ← hs] at h2
      have HS : Hid (s = ref64 s0 F M) := hs
      have H2 : Hid (Ar wr w.heap.size (arr .u64 8 s)) := h2
      have HC : Hid (Chg w wr) := hch
      have zn : Hid (OwnN w wr (.slice none 0 0) (out64 s 0)) := ⟨.inl ⟨rfl, rfl⟩, fun i e => by simp [Value.ownBlock] at e, hch.toAp⟩
      clear hs hkM' hfr hch h1 h2 h3
      go_wp2_with fail
      obtain ⟨w6, hw6⟩ : ∃ w6, w6 = wr := ⟨_, rfl⟩
      subst hw6
      go_loopw [20, 21] (fun v20 v21 wr => ∃ (e : Nat), v21 = .int .i64 e ∧ e ≤ 8 ∧ Ar wr w.heap.size (arr .u64 8 s) ∧ OwnN w wr v20 (out64 s e) ∧ ∀ i, v20.ownBlock = some i → i ≠ w.heap.size) (fun v20 v21 wr => 8 - (intOf v21).toNat)
      case atStart => exact ⟨0, rfl, by omega, H2.out, zn.out, fun i e => by simp [Value.ownBlock] at e⟩
      case round =>
        clear zn H2 HC
        obtain ⟨e, rfl, he, h2, ho, hob⟩ := hrel
        obtain ⟨so, sm, sc, rfl, hsm, _⟩ := ho.own.rd.shape
        have H : Hid (Ar wr w.heap.size (arr .u64 8 s) ∧ OwnN w wr (.slice so sm sc) (out64 s e ++ (byt64 s e).take 0) ∧ ∀ i, (Value.slice so sm sc).ownBlock = some i → i ≠ w.heap.size) := ⟨h2, by simpa using ho, hob⟩
        by_cases he8 : e < 8
        · have hed : decide ((e : Int) < 8) = true := by simp; omega
          have le8 : (e : Int) < 8 := by omega
          clear h2 ho hob hsm
          go_wp2_with fail
          obtain ⟨w8, hw8⟩ : ∃ w8, w8 = wr := ⟨_, rfl⟩
          subst hw8
          go_loopw [20, 22] (fun v20 v22 wr => ∃ (j : Nat), v22 = .int .i64 (7 - (j : Int)) ∧ j ≤ 8 ∧ Ar wr w.heap.size (arr .u64 8 s) ∧ OwnN w wr v20 (out64 s e ++ (byt64 s e).take j) ∧ ∀ i, v20.ownBlock = some i → i ≠ w.heap.size) (fun v20 v22 wr => (intOf v22 + 1).toNat)
          case atStart => exact ⟨0, rfl, by omega, H.out.1, H.out.2.1, H.out.2.2⟩
          case round =>
            clear H
            obtain ⟨j, rfl, hj, h2, ho, hob⟩ := hrel
            obtain ⟨so3, m3, sc3, rfl, hm3, _⟩ := ho.own.rd.shape
            have H : Hid (Ar wr w.heap.size (arr .u64 8 s) ∧ OwnN w wr (.slice so3 m3 sc3) (out64 s e ++ (byt64 s e).take j) ∧ ∀ i, (Value.slice so3 m3 sc3).ownBlock = some i → i ≠ w.heap.size) := ⟨h2, ho, hob⟩
            by_cases hj8 : j < 8
            ·
              obtain ⟨n7, he⟩ : ∃ q : Nat, (7 : Int) - j = q := ⟨7 - j, by omega⟩
              obtain ⟨sh, hs⟩ : ∃ q : Nat, 8 * (n7 : Int) = q := ⟨8 * n7, by omega⟩
              rw [he]
              have ws := wrap_i (x := (sh : Int)) (by omega) (by omega)
              have ls : (sh : Int) ≤ 64 := by omega
              have hnd : decide ((0 : Int) ≤ n7) = true := by simp
              have HJ : Hid ((7 : Int) - j = n7) := he
              have he7 : n7 ≤ 7 := by omega
              obtain ⟨x, hx⟩ : ∃ x, x = s e := ⟨_, rfl⟩
              have c0 := (h2.cell e).trans (arr_get .u64 8 s he8)
              rw [← hx] at c0
              have HY : Hid ((byt64 s e).take (j + 1) = (byt64 s e).take j ++ [IntKind.u8.wrap (x / 2 ^ sh)]) := by
                show (byt64 s e).take (j + 1) = _
                have hlen : j < (byt64 s e).length := by simp [byt64]; omega
                rw [List.take_add_one, List.getElem?_eq_getElem hlen]
                have : (byt64 s e)[j] = IntKind.u8.wrap (x / 2 ^ sh) := by
                  simp only [byt64, List.getElem_map, List.getElem_range, hx]
                  rw [show 8 * (7 - j) = sh by omega]
                rw [this]
                rfl
              have hpl : ((byt64 s e).take j).length ≤ 8 := by rw [List.length_take]; omega
              have hol : (out64 s e).length ≤ 64 := by rw [out64_len]; omega
              clear he hx h2 ho hob hm3
              go_wp2_with (at_builtin; refine Ap.wpList_app _ rfl _ _ rfl (.slice so3 m3 sc3) _ (out64 s e ++ (byt64 s e).take j) [IntKind.u8.wrap (x / 2 ^ sh)] rfl rfl (H.out.2.1.alloc _).own (Ap.Rd.one wr _) (by simp only [List.length_append, List.length_cons, List.length_nil]; omega) ?_)
              intro v4 u4 o4 c4 b4
              have Z4 : Hid (OwnN w u4 v4 (out64 s e ++ (byt64 s e).take (j + 1)) ∧ Ar u4 w.heap.size (arr .u64 8 s) ∧ ∀ i, v4.ownBlock = some i → i ≠ w.heap.size) := by
                refine ⟨?_, ?_, ?_⟩
                · have := (H.out.2.1.alloc _).more o4 c4 (by rw [World.size_alloc]; exact b4)
                  rw [HY.out]
                  first | exact this | (rw [← List.append_assoc]; exact this)
                · exact (H.out.1.alloc _).apN c4 (fun q => H.out.2.2 _ q rfl)
                · intro i hi
                  rcases b4 with b4 | b4
                  · exact H.out.2.2 i (by rw [← b4]; exact hi)
                  · rw [b4] at hi
                    injection hi with hi
                    have := H.out.1.lt
                    have := World.size_alloc wr (.cells #[.int .u8 (IntKind.u8.wrap (x / 2 ^ sh))] 5)
                    omega
              clear o4 c4 b4
              go_wp2_with fail
              have h7 := HJ.out
              refine ⟨⟨j + 1, by go_num, by omega, Z4.out.2.1, Z4.out.1, Z4.out.2.2⟩, ?_⟩
              simp [intOf] <;> omega
            · have hj8' : j = 8 := by omega
              have Z' : Hid (Ar wr w.heap.size (arr .u64 8 s) ∧ OwnN w wr (.slice so3 m3 sc3) (out64 s (e + 1)) ∧ ∀ i, (Value.slice so3 m3 sc3).ownBlock = some i → i ≠ w.heap.size) := by
                refine ⟨h2, ?_, hob⟩
                rw [hj8', show (byt64 s e).take 8 = byt64 s e by rw [List.take_of_length_le]; simp [byt64]] at ho
                exact ho
              have hnd : decide ((0 : Int) ≤ 7 - (j : Int)) = false := by simp; omega
              clear hj8' h2 ho hob hm3 H
              go_wp2
              all_goals
                go_roundw
                case rel => exact ⟨e + 1, by go_num, by omega, Z'.out.1, Z'.out.2.1, Z'.out.2.2⟩
                case measure => simp [intOf]; omega
        · have hed : decide ((e : Int) < 8) = false := by simp; omega
          have he' : e = 8 := by omega
          have Z : Hid (OwnN w wr (.slice so sm sc) (out64 s 8)) := by
            rw [← he']
            exact ho
          clear he' h2 ho hob hsm H
          go_wp2
          go_ret
          refine ⟨_, rfl, ?_⟩
          have hz := Z.out
          rw [HS.out, HF.out, HM.out.2.1] at hz
          have hm2 : M = (xs ++ padL 128 xs.length).length / 128 := by
            rw [← HM.out.2.1, HM.out.2.2, HM.out.1]
            omega
          rw [← hm2]
          exact hz
end Go.Proofs.YtijpdhjlafihkaaDoor
