/-
  A block mixed into the state: what the function mix of both kinds of words does.
-/
import Derived.Test.YtijpdhjlafihkaaDoorTj02
namespace Go.Proofs.YtijpdhjlafihkaaDoor
open Go.RowKit
set_option linter.unusedVariables false
set_option maxRecDepth 100000

/-- Below the old size nothing has changed but one block. -/
structure Cb (b : Nat) (w w' : World) : Prop where
  os : w'.os = w.os
  tape : w'.tape = w.tape
  output : w'.output = w.output
  size : w.heap.size ≤ w'.heap.size
  block : ∀ k, k < w.heap.size → k ≠ b → w'.heap[k]? = w.heap[k]?

theorem Chg.cb {w w' : World} (h : Chg w w') (b : Nat) : Cb b w w' := ⟨h.os, h.tape, h.output, h.size, fun k hk _ => h.block k hk⟩
theorem Cb.trans {b : Nat} {u v w : World} (h : Cb b u v) (k : Cb b v w) : Cb b u w :=
  ⟨k.os.trans h.os, k.tape.trans h.tape, k.output.trans h.output, Nat.le_trans h.size k.size, fun i hi hb =>
    (k.block i (Nat.lt_of_lt_of_le hi h.size) hb).trans (h.block i hi hb)⟩
theorem Cb.drew {b : Nat} {v w : World} (h : Cb b v w) : Cb b v w.drew := ⟨h.os, h.tape, h.output, h.size, h.block⟩
theorem Cb.drewN {b : Nat} {v w : World} (h : Cb b v w) (n : Nat) : Cb b v (w.drewN n) := ⟨h.os, h.tape, h.output, h.size, h.block⟩
theorem Cb.alloc {b : Nat} {a w : World} (h : Cb b a w) (o : Obj) : Cb b a (w.alloc o) := h.trans (((Chg.refl w).alloc o).cb b)
theorem Cb.set {b : Nat} {v w : World} (h : Cb b v w) (i : Nat) (x : Value) : Cb b v (w.setCell ⟨b, i, none⟩ x) :=
  ⟨h.os, h.tape, h.output, by simp [World.setCell]; exact h.size, fun k hk hb => (Below.heap_setCell _ _ _ _ hb).trans (h.block k hk hb)⟩
theorem Cb.setCell {b : Nat} {a w : World} (h : Cb b a w) {p : Addr} (hp : a.heap.size ≤ p.block) (u : Value) : Cb b a (w.setCell p u) :=
  ⟨h.os, h.tape, h.output, by simp [World.setCell]; exact h.size, fun k hk hb => (Below.heap_setCell _ _ _ _ (by omega)).trans (h.block k hk hb)⟩
theorem Cb.setRow {b : Nat} {a w : World} (h : Cb b a w) {g : Nat} (hg : a.heap.size ≤ g) (c : Array Value) : Cb b a (w.setRow g c) :=
  ⟨h.os, h.tape, h.output, by simp [World.setRow]; exact h.size, fun k hk hb => (setRow_other _ _ _ _ (by omega)).trans (h.block k hk hb)⟩
/-- What lies behind was new all the same. -/
theorem Cb.low {b : Nat} {a w w' : World} (h : Chg a w) (k : Cb b w w') (hb : a.heap.size ≤ b) : Chg a w' :=
  ⟨k.os.trans h.os, k.tape.trans h.tape, k.output.trans h.output, Nat.le_trans h.size k.size, fun i hi => (k.block i (Nat.lt_of_lt_of_le hi h.size) (by omega)).trans (h.block i hi)⟩
theorem Ar.cb {w w' : World} {b g : Nat} {c : Array Value} (h : Ar w g c) (k : Cb b w w') (hb : g ≠ b) : Ar w' g c := by
  have hl := h.lt
  obtain ⟨t, h⟩ := h
  exact ⟨t, (k.block g hl hb).trans h⟩
theorem cell_cb {b : Nat} {w w' : World} (h : Cb b w w') {g i : Nat} {v : Value} (hg : g ≠ b) (hv : w.cell? ⟨g, i, none⟩ = some v) : w'.cell? ⟨g, i, none⟩ = some v := by
  have hl : g < w.heap.size := block_lt_of_cell hv
  rw [← hv]
  unfold World.cell?
  simp only [h.block g hl hg]

/-- Integers laid over a block's cells, from a place on. -/
def lay (κ : IntKind) (c : Array Value) (o : Nat) (d : Nat → Int) : Nat → Array Value
  | 0 => c
  | n + 1 => (lay κ c o d n).setIfInBounds (o + n) (.int κ (d n))
theorem lay_size (κ : IntKind) (c : Array Value) (o : Nat) (d : Nat → Int) (n : Nat) : (lay κ c o d n).size = c.size := by
  induction n with
  | zero => rfl
  | succ n ih => simp [lay, ih]
theorem lay_out (κ : IntKind) (c : Array Value) (o : Nat) (d : Nat → Int) (n j : Nat) (h : j < o ∨ o + n ≤ j) : (lay κ c o d n)[j]? = c[j]? := by
  induction n with
  | zero => rfl
  | succ n ih =>
    rw [lay, Array.getElem?_setIfInBounds_ne (by omega)]
    exact ih (by omega)
theorem lay_in (κ : IntKind) (c : Array Value) (o : Nat) (d : Nat → Int) (n j : Nat) (h : j < n) (hc : o + n ≤ c.size) : (lay κ c o d n)[o + j]? = some (.int κ (d j)) := by
  induction n with
  | zero => omega
  | succ n ih =>
    rw [lay]
    by_cases e : j = n
    · subst e
      rw [Array.getElem?_setIfInBounds_self_of_lt (by rw [lay_size]; omega)]
    · rw [Array.getElem?_setIfInBounds_ne (by omega)]
      exact ih (by omega) (by omega)

/-- The rounds' numbers, the roots: as the tables hold them. -/
def numbL : List Int := [4794697086780616226, 8158064640168781261, 13096744586834688815, 16840607885511220156, 4131703408338449720, 6480981068601479193, 10538285296894168987, 12329834152419229976, 15566598209576043074, 1334009975649890238, 2608012711638119052, 6128411473006802146, 8268148722764581231, 9286055187155687089, 11230858885718282805, 13951009754708518548, 16472876342353939154, 17275323862435702243, 1135362057144423861, 2597628984639134821, 3308224258029322869, 5365058923640841347, 6679025012923562964, 8573033837759648693, 10970295158949994411, 12119686244451234320, 12683024718118986047, 13788192230050041572, 14330467153632333762, 15395433587784984357, 489312712824947311, 1452737877330783856, 2861767655752347644, 3322285676063803686, 5560940570517711597, 5996557281743188959, 7280758554555802590, 8532644243296465576, 9350256976987008742, 10552545826968843579, 11727347734174303076, 12113106623233404929, 14000437183269869457, 14369950271660146224, 15101387698204529176, 15463397548674623760, 17586052441742319658, 1182934255886127544, 1847814050463011016, 2177327727835720531, 2830643537854262169, 3796741975233480872, 4115178125766777443, 5681478168544905931, 6601373596472566643, 7507060721942968483, 8399075790359081724, 8693463985226723168, 9568029438360202098, 10144078919501101548, 10430055236837252648, 11840083180663258601, 13761210420658862357, 14299343276471374635, 14566680578165727644, 15097957966210449927, 16922976911328602910, 17689382322260857208, 500013540394364858, 748580250866718886, 1242879168328830382, 1977374033974150939, 2944078676154940804, 3659926193048069267, 4368137639120453308, 4836135668995329356, 5532061633213252278, 6448918945643986474, 6902733635092675308, 7801388544844847127]
def rootL : List Int := [7640891576956012808, 13503953896175478587, 4354685564936845355, 11912009170470909681, 5840696475078001361, 11170449401992604703, 2270897969802886507, 6620516959819538809, 14680500436340154072, 7105036623409894663, 10473403895298186519, 1526699215303891257, 7436329637833083697, 10282925794625328401, 15784041429090275239, 5167115440072839076]
def numb (t : Nat) : Int := numbL.getD t 0
def root (t : Nat) : Int := rootL.getD t 0
structure Tabs (w : World) : Prop where
  n : ∀ t, t < 80 → w.cell? ⟨1, t, none⟩ = some (.int .u64 (numb t))
  r : ∀ t, t < 16 → w.cell? ⟨0, t, none⟩ = some (.int .u64 (root t))
theorem Tabs.cb {b : Nat} {w w' : World} (h : Tabs w) (k : Cb b w w') (hb : 2 ≤ b) : Tabs w' :=
  ⟨fun t ht => cell_cb k (by omega) (h.n t ht), fun t ht => cell_cb k (by omega) (h.r t ht)⟩
theorem Tabs.chg {w w' : World} (h : Tabs w) (k : Chg w w') : Tabs w' :=
  ⟨fun t ht => cell_at k (h.n t ht), fun t ht => cell_at k (h.r t ht)⟩
theorem Tabs.size {w : World} (h : Tabs w) : 2 ≤ w.heap.size := by
  have := block_lt_of_cell (h.n 0 (by omega))
  exact this

/-- The eight words of a round. -/
structure St where
  a : Int
  b : Int
  c : Int
  d : Int
  e : Int
  f : Int
  g : Int
  h : Int
def St.at (s : St) : Nat → Int
  | 0 => s.a
  | 1 => s.b
  | 2 => s.c
  | 3 => s.d
  | 4 => s.e
  | 5 => s.f
  | 6 => s.g
  | _ => s.h
def rndX (κ : IntKind) (S1 : Int → Int) (n w : Int) (s : St) : Int :=
  κ.wrap (κ.wrap (κ.wrap (κ.wrap (s.h + S1 s.e) + Go.bits .xor κ (Go.bits .and κ s.e s.f) (Go.bits .and κ (Go.bits .xor κ κ.max s.e) s.g)) + n) + w)
def rndY (κ : IntKind) (S0 : Int → Int) (s : St) : Int :=
  κ.wrap (S0 s.a + Go.bits .xor κ (Go.bits .xor κ (Go.bits .and κ s.a s.b) (Go.bits .and κ s.a s.c)) (Go.bits .and κ s.b s.c))
def rnd (κ : IntKind) (S0 S1 : Int → Int) (n w : Int) (s : St) : St :=
  ⟨κ.wrap (rndX κ S1 n w s + rndY κ S0 s), s.a, s.b, s.c, κ.wrap (s.d + rndX κ S1 n w s), s.e, s.f, s.g⟩
def rnds (κ : IntKind) (S0 S1 : Int → Int) (K W : Nat → Int) (s : St) : Nat → St
  | 0 => s
  | t + 1 => rnd κ S0 S1 (K t) (W t) (rnds κ S0 S1 K W s t)
def St.of (d : Nat → Int) : St := ⟨d 0, d 1, d 2, d 3, d 4, d 5, d 6, d 7⟩
def shortS (cv : Int → Int) (st : Nat → Int) (i : Nat) : Nat → Int := fun j => if j < i then cv (st j) else 0
/-- A long word as a short one, and back; a long one stays. -/
def cv32 (x : Int) : Int := IntKind.u32.wrap x
def cv64 (x : Int) : Int := x
def up32 (x : Int) : Int := IntKind.u64.wrap x
def up64 (x : Int) : Int := x

def number32 (t : Nat) : Int := cv32 (numb t / 2 ^ (64 - 32))
def mix32 (st d : Nat → Int) : Nat → Int := fun i => up32 (IntKind.u32.wrap (cv32 (st i) + (rnds .u32 (turn3 .u32 2 13 22) (turn3 .u32 6 11 25) number32 (words32 d) (St.of fun i => cv32 (st i)) 64).at i))

theorem index32 (a b c d e f g h : Int) (v : Value) (j : Nat) (hj : j < 8) (hv : (#[.int .u32 a, .int .u32 b, .int .u32 c, .int .u32 d, .int .u32 e, .int .u32 f, .int .u32 g, .int .u32 h] : Array Value)[j]? = some v) (w : World) :
    (Instr.index 89 (.agg #[.int .u32 a, .int .u32 b, .int .u32 c, .int .u32 d, .int .u32 e, .int .u32 f, .int .u32 g, .int .u32 h]) (.int .i64 j)).run Tryd.prog w = .ok v w := by
  have : j = 0 ∨ j = 1 ∨ j = 2 ∨ j = 3 ∨ j = 4 ∨ j = 5 ∨ j = 6 ∨ j = 7 := by omega
  rcases this with rfl | rfl | rfl | rfl | rfl | rfl | rfl | rfl <;> (injection hv with hv; rw [← hv]; first | kernel_rfl | rfl)

set_option maxRecDepth 100000 in
set_option maxHeartbeats 4000000 in
theorem mix32_any (sb so b o cap : Nat) (c : Array Value) (st d : Nat → Int) (w : World) (ht : Tabs w) (hsb : 2 ≤ sb) (hs : Ar w sb c) (hc : so + 8 ≤ c.size) (hst : ∀ i, i < 8 → c[so + i]? = some (.int .u64 (st i)))
    (hb : Bs w b o 64 d) (hcap : 64 ≤ cap) (hcap' : cap < 9223372036854775808) :
    Calls Tryd.prog 66 #[.agg kind32, .pointer (some ⟨sb, so, none⟩), .slice (some ⟨b, o, none⟩) 64 cap] w fun r w' => r = .returned (.tuple #[]) ∧ Cb sb w w' ∧ Ar w' sb (lay .u64 c so (mix32 st d) 8) := by
  have HT : Hid (Tabs w) := ht
  have HS : Hid (Ar w sb c ∧ so + 8 ≤ c.size ∧ (∀ i, i < 8 → c[so + i]? = some (.int .u64 (st i))) ∧ 2 ≤ sb ∧ sb < w.heap.size) := ⟨hs, hc, hst, hsb, hs.lt⟩
  have HB : Hid (Bs w b o 64 d ∧ 64 ≤ cap ∧ cap < 9223372036854775808) := ⟨hb, hcap, hcap'⟩
  clear ht hsb hs hc hst hb hcap hcap'
  have hz := zero80_32.1
  unfold kind32
  go_enter Tryd.func66, Tryd.ntmps66
  obtain ⟨W, hW⟩ : ∃ W, W = words32 d := ⟨_, rfl⟩
  have hsz : (Tryd.prog.info? 102).map (·.size) = some (arr .u32 80 W).size := by rw [arr_size]; exact zero80_32.2
  have hlen : (arr .u32 80 fun _ => 0).size = (arr .u32 80 W).size := by rw [arr_size, arr_size]
  have hone := arr_one .u32 80 W
  have HSp : Hid (∀ u, Chg w u → Calls Tryd.prog 72 #[.agg kind32, .slice (some ⟨b, o, none⟩) 64 cap] u fun r w' => r = .returned (.agg (arr .u32 80 W)) ∧ Chg u w') := by
    intro u hu
    rw [hW]
    exact spread32_any b o cap d u (HB.out.1.chg hu) HB.out.2.1 HB.out.2.2
  have HW : Hid (W = words32 d) := hW
  clear hW
  go_wp2_with (first | (go_at_call 72; (refine (HSp.out _ ((Chg.refl w).alloc _)).mono ?_; rintro r w1 ⟨rfl, hc1⟩)) | refine wpList_store_row rfl 102 _ _ rfl w1.heap.size _ rfl rfl _ _ (heap_alloc_last w1 _) hsz hlen hone ?_)
  obtain ⟨w2, hw2⟩ : ∃ w2, w2 = ((w1.alloc (.cells (arr .u32 80 fun _ => 0) 102)).setRow w1.heap.size (arr .u32 80 W)).alloc (.cells #[.int .u32 0, .int .u32 0, .int .u32 0, .int .u32 0, .int .u32 0, .int .u32 0, .int .u32 0, .int .u32 0] 89) := ⟨_, rfl⟩
  rw [← hw2]
  obtain ⟨p, hp⟩ : ∃ p, p = w1.heap.size := ⟨_, rfl⟩
  have z0 : Hid (Chg w w2 ∧ Ar w2 w.heap.size #[.int .i64 32, .int .i64 64, .int .i64 7, .int .i64 18, .int .i64 3, .int .i64 17, .int .i64 19, .int .i64 10, .int .i64 2, .int .i64 13, .int .i64 22, .int .i64 6, .int .i64 11, .int .i64 25] ∧ Ar w2 p (arr .u32 80 W) ∧ Ar w2 (p + 1) (arr .u32 8 (shortS cv32 st 0)) ∧ w.heap.size < p) := by
    have hlt := hc1.size
    rw [World.size_alloc] at hlt
    have e1 : Ar (((w1.alloc (.cells (arr .u32 80 fun _ => 0) 102)).setRow w1.heap.size (arr .u32 80 W)).alloc (.cells #[.int .u32 0, .int .u32 0, .int .u32 0, .int .u32 0, .int .u32 0, .int .u32 0, .int .u32 0, .int .u32 0] 89)) (((w1.alloc (.cells (arr .u32 80 fun _ => 0) 102)).setRow w1.heap.size (arr .u32 80 W))).heap.size (arr .u32 8 (shortS cv32 st 0)) := Ar.new _ _ _
    rw [size_setRow, World.size_alloc, ← hw2] at e1
    refine ⟨?_, ?_, ?_, ?_, by omega⟩
    · rw [hw2]
      exact (((((Chg.refl w).alloc _).trans hc1).alloc _).setRow (by omega) _).alloc _
    · rw [hw2]
      exact (((((Ar.new w _ _).chg hc1).alloc _).rowOther (by omega) _).alloc _)
    · rw [hw2, hp]
      exact ((Ar.new w1 _ _).row _).alloc _
    · rw [hp]
      exact e1
  rw [← hp]
  clear hc1 hp hsz hlen hone hz HSp
  clear hw2 w1
  go_loopw [28] (fun v wr => ∃ (i : Nat), v = .int .i64 i ∧ i ≤ 8 ∧ Chg w wr ∧ Ar wr w.heap.size #[.int .i64 32, .int .i64 64, .int .i64 7, .int .i64 18, .int .i64 3, .int .i64 17, .int .i64 19, .int .i64 10, .int .i64 2, .int .i64 13, .int .i64 22, .int .i64 6, .int .i64 11, .int .i64 25] ∧ Ar wr p (arr .u32 80 W) ∧ Ar wr (p + 1) (arr .u32 8 (shortS cv32 st i))) (fun v wr => 8 - (intOf v).toNat)
  case atStart => exact ⟨0, rfl, by omega, z0.out.1, z0.out.2.1, z0.out.2.2.1, z0.out.2.2.2.1⟩
  case round =>
    have HP : Hid (w.heap.size < p) := z0.out.2.2.2.2
    clear z0
    obtain ⟨i, rfl, hi, hch, h0, h1, h2⟩ := hrel
    have HC : Hid (Chg w wr) := hch
    have H0 : Hid (Ar wr w.heap.size #[.int .i64 32, .int .i64 64, .int .i64 7, .int .i64 18, .int .i64 3, .int .i64 17, .int .i64 19, .int .i64 10, .int .i64 2, .int .i64 13, .int .i64 22, .int .i64 6, .int .i64 11, .int .i64 25]) := h0
    have H1 : Hid (Ar wr p (arr .u32 80 W)) := h1
    have H2 : Hid (Ar wr (p + 1) (arr .u32 8 (shortS cv32 st i))) := h2
    have HA : Hid (Ar wr sb c) := HS.out.1.chg hch
    by_cases hi8 : i < 8
    · obtain ⟨x, hx⟩ : ∃ x, x = st i := ⟨_, rfl⟩
      have c0 := (HA.out.cell (so + i)).trans (HS.out.2.2.1 i hi8)
      rw [← hx] at c0
      have c1 := (h2.cell i).trans (arr_get .u32 8 (shortS cv32 st i) (i := i) hi8)
      obtain ⟨x1, hx1⟩ : ∃ x1, x1 = shortS cv32 st i i := ⟨_, rfl⟩
      rw [← hx1] at c1
      have f1 := h2.frozen i
      have HX : Hid (x = st i) := hx
      have hl8 : (i : Int) < 8 := by omega
      clear hx hx1 hch h0 h1 h2
      go_wp2_with fail
      go_region_with (fail)
      all_goals go_wp2
      all_goals
        obtain ⟨_, _, _, hsb2, hsbl⟩ := HS.out
        have hpl := HP.out
        go_roundw
        case rel =>
          refine ⟨i + 1, by go_num, by omega, (HC.out.drew.setCell (by dsimp only; omega) _), (H0.out.drew.other (by dsimp only; omega) _), (H1.out.drew.other (by dsimp only; omega) _), ?_⟩
          have h := H2.out.drew.set i (.int .u32 (cv32 x))
          rw [arr_set] at h
          have e : upd (shortS cv32 st i) i (cv32 x) = shortS cv32 st (i + 1) := by
            funext j
            unfold upd shortS
            by_cases hj : j = i
            · subst hj; simp [HX.out]
            · have e : (j < i + 1) ↔ j < i := by omega
              simp [hj, e]
          rw [e] at h
          exact h
        case measure => simp [intOf]; omega
    · have hi8' : i = 8 := by omega
      have hid : decide ((i : Int) < 8) = false := by simp; omega
      have c0 := (h2.cell 0).trans (arr_get .u32 8 (shortS cv32 st i) (i := 0) (by omega))
      obtain ⟨s0, hs0⟩ : ∃ s, s = cv32 (st 0) := ⟨_, rfl⟩
      rw [show shortS cv32 st i 0 = s0 by rw [hs0, shortS, if_pos (by omega)]] at c0
      have c1 := (h2.cell 1).trans (arr_get .u32 8 (shortS cv32 st i) (i := 1) (by omega))
      obtain ⟨s1, hs1⟩ : ∃ s, s = cv32 (st 1) := ⟨_, rfl⟩
      rw [show shortS cv32 st i 1 = s1 by rw [hs1, shortS, if_pos (by omega)]] at c1
      have c2 := (h2.cell 2).trans (arr_get .u32 8 (shortS cv32 st i) (i := 2) (by omega))
      obtain ⟨s2, hs2⟩ : ∃ s, s = cv32 (st 2) := ⟨_, rfl⟩
      rw [show shortS cv32 st i 2 = s2 by rw [hs2, shortS, if_pos (by omega)]] at c2
      have c3 := (h2.cell 3).trans (arr_get .u32 8 (shortS cv32 st i) (i := 3) (by omega))
      obtain ⟨s3, hs3⟩ : ∃ s, s = cv32 (st 3) := ⟨_, rfl⟩
      rw [show shortS cv32 st i 3 = s3 by rw [hs3, shortS, if_pos (by omega)]] at c3
      have c4 := (h2.cell 4).trans (arr_get .u32 8 (shortS cv32 st i) (i := 4) (by omega))
      obtain ⟨s4, hs4⟩ : ∃ s, s = cv32 (st 4) := ⟨_, rfl⟩
      rw [show shortS cv32 st i 4 = s4 by rw [hs4, shortS, if_pos (by omega)]] at c4
      have c5 := (h2.cell 5).trans (arr_get .u32 8 (shortS cv32 st i) (i := 5) (by omega))
      obtain ⟨s5, hs5⟩ : ∃ s, s = cv32 (st 5) := ⟨_, rfl⟩
      rw [show shortS cv32 st i 5 = s5 by rw [hs5, shortS, if_pos (by omega)]] at c5
      have c6 := (h2.cell 6).trans (arr_get .u32 8 (shortS cv32 st i) (i := 6) (by omega))
      obtain ⟨s6, hs6⟩ : ∃ s, s = cv32 (st 6) := ⟨_, rfl⟩
      rw [show shortS cv32 st i 6 = s6 by rw [hs6, shortS, if_pos (by omega)]] at c6
      have c7 := (h2.cell 7).trans (arr_get .u32 8 (shortS cv32 st i) (i := 7) (by omega))
      obtain ⟨s7, hs7⟩ : ∃ s, s = cv32 (st 7) := ⟨_, rfl⟩
      rw [show shortS cv32 st i 7 = s7 by rw [hs7, shortS, if_pos (by omega)]] at c7
      have HSS : Hid ((St.of fun i => cv32 (st i)) = ⟨s0, s1, s2, s3, s4, s5, s6, s7⟩) := by
        show St.of _ = _
        rw [hs0, hs1, hs2, hs3, hs4, hs5, hs6, hs7, St.of]
      have H28 : Hid (Ar wr (p + 1) (arr .u32 8 (shortS cv32 st 8))) := by
        have := h2
        rw [hi8'] at this
        exact this
      have b1 : wr.cell? ⟨w.heap.size, 1, none⟩ = some (.int .i64 64) := h0.cell 1
      clear hs0 hs1 hs2 hs3 hs4 hs5 hs6 hs7 hi8' H2 hch h0 h1 h2
      go_wp2_with fail
      go_quiet (fail)
      all_goals go_wp2_with fail
      obtain ⟨w2, hw2⟩ : ∃ w2, w2 = wr.drewN nq := ⟨_, rfl⟩
      rw [← hw2]
      have z0 : Hid (Chg w w2 ∧ Ar w2 w.heap.size #[.int .i64 32, .int .i64 64, .int .i64 7, .int .i64 18, .int .i64 3, .int .i64 17, .int .i64 19, .int .i64 10, .int .i64 2, .int .i64 13, .int .i64 22, .int .i64 6, .int .i64 11, .int .i64 25] ∧ Ar w2 p (arr .u32 80 W) ∧ Ar w2 (p + 1) (arr .u32 8 (shortS cv32 st 8))) := by
        rw [hw2]
        exact ⟨HC.out.drewN nq, H0.out, H1.out, H28.out⟩
      clear HC H0 H1 H28 HA c0 c1 c2 c3 c4 c5 c6 c7 b1 hw2
      go_loopw [10, 11, 12, 13, 14, 15, 16, 17, 57] (fun va vb vc vd ve vf vg vh v wr => ∃ (t : Nat) (s : St), v = .int .i64 t ∧ t ≤ 64 ∧ va = .int .u32 s.a ∧ vb = .int .u32 s.b ∧ vc = .int .u32 s.c ∧ vd = .int .u32 s.d ∧ ve = .int .u32 s.e ∧ vf = .int .u32 s.f ∧ vg = .int .u32 s.g ∧ vh = .int .u32 s.h ∧ s = rnds .u32 (turn3 .u32 2 13 22) (turn3 .u32 6 11 25) number32 W (St.of fun i => cv32 (st i)) t ∧ Chg w wr ∧ Ar wr w.heap.size #[.int .i64 32, .int .i64 64, .int .i64 7, .int .i64 18, .int .i64 3, .int .i64 17, .int .i64 19, .int .i64 10, .int .i64 2, .int .i64 13, .int .i64 22, .int .i64 6, .int .i64 11, .int .i64 25] ∧ Ar wr p (arr .u32 80 W) ∧ Ar wr (p + 1) (arr .u32 8 (shortS cv32 st 8))) (fun va vb vc vd ve vf vg vh v wr => 64 - (intOf v).toNat)
      case atStart => exact ⟨0, ⟨s0, s1, s2, s3, s4, s5, s6, s7⟩, rfl, by omega, rfl, rfl, rfl, rfl, rfl, rfl, rfl, rfl, HSS.out.symm, z0.out.1, z0.out.2.1, z0.out.2.2.1, z0.out.2.2.2⟩
      case round =>
        clear z0 HSS
        obtain ⟨t, ⟨sa, sb', sc, sd, se, sf, sg, sh⟩, rfl, htR, rfl, rfl, rfl, rfl, rfl, rfl, rfl, rfl, hs, hch, h0, h1, h2⟩ := hrel
        dsimp only
        have HC : Hid (Chg w wr) := hch
        have H0 : Hid (Ar wr w.heap.size #[.int .i64 32, .int .i64 64, .int .i64 7, .int .i64 18, .int .i64 3, .int .i64 17, .int .i64 19, .int .i64 10, .int .i64 2, .int .i64 13, .int .i64 22, .int .i64 6, .int .i64 11, .int .i64 25]) := h0
        have H1 : Hid (Ar wr p (arr .u32 80 W)) := h1
        have H2 : Hid (Ar wr (p + 1) (arr .u32 8 (shortS cv32 st 8))) := h2
        have HR : Hid (⟨sa, sb', sc, sd, se, sf, sg, sh⟩ = rnds .u32 (turn3 .u32 2 13 22) (turn3 .u32 6 11 25) number32 W (St.of fun i => cv32 (st i)) t) := hs
        by_cases htr : t < 64
        · have n0 := (HT.out.chg hch).n t (by omega)
          have g0 := (h1.cell t).trans (arr_get .u32 80 W (i := t) (by omega))
          obtain ⟨nn, hnn⟩ : ∃ nn, nn = numb t := ⟨_, rfl⟩
          obtain ⟨ww, hww⟩ : ∃ ww, ww = W t := ⟨_, rfl⟩
          rw [← hnn] at n0
          rw [← hww] at g0
          have HN : Hid (nn = numb t ∧ ww = W t) := ⟨hnn, hww⟩
          have k0 : wr.cell? ⟨w.heap.size, 0, none⟩ = some (.int .i64 32) := h0.cell 0
          have k8 : wr.cell? ⟨w.heap.size, 8, none⟩ = some (.int .i64 2) := h0.cell 8
          have k9 : wr.cell? ⟨w.heap.size, 9, none⟩ = some (.int .i64 13) := h0.cell 9
          have k10 : wr.cell? ⟨w.heap.size, 10, none⟩ = some (.int .i64 22) := h0.cell 10
          have k11 : wr.cell? ⟨w.heap.size, 11, none⟩ = some (.int .i64 6) := h0.cell 11
          have k12 : wr.cell? ⟨w.heap.size, 12, none⟩ = some (.int .i64 11) := h0.cell 12
          have k13 : wr.cell? ⟨w.heap.size, 13, none⟩ = some (.int .i64 25) := h0.cell 13
          have l80 : (t : Int) < 80 := by omega
          have hsh : IntKind.i64.wrap 32 = 32 := by decide
          have htd : decide ((t : Int) < 64) = true := by simp; omega
          clear hnn hww hs hch h0 h1 h2
          go_wp2_with fail
          go_region_held3 (fun w' => w'.cell? ⟨1, t, none⟩ = some (.int .u64 nn) ∧ w'.cell? ⟨w.heap.size, 0, none⟩ = some (.int .i64 32)) (exact ⟨n0, k0⟩) (fail)
          all_goals go_wp2_with fail
          go_region_held3 (fun w' => w'.cell? ⟨p, t, none⟩ = some (.int .u32 ww) ∧ w'.cell? ⟨w.heap.size, 0, none⟩ = some (.int .i64 32) ∧ w'.cell? ⟨w.heap.size, 8, none⟩ = some (.int .i64 2) ∧ w'.cell? ⟨w.heap.size, 9, none⟩ = some (.int .i64 13) ∧ w'.cell? ⟨w.heap.size, 10, none⟩ = some (.int .i64 22) ∧ w'.cell? ⟨w.heap.size, 11, none⟩ = some (.int .i64 6) ∧ w'.cell? ⟨w.heap.size, 12, none⟩ = some (.int .i64 11) ∧ w'.cell? ⟨w.heap.size, 13, none⟩ = some (.int .i64 25))
            (first | exact ⟨g0, k0, k8, k9, k10, k11, k12, k13⟩ | exact hsA)
            (first | (go_at_call 73; (refine (turnThrice32_any se 6 11 25 _ (by decide) (by decide) (by decide)).mono ?_; rintro e wA ⟨rfl, hcA⟩; have hcA' : Chg wr wA := (Chg.refl wr).drew.drew.trans hcA; have hsA := And.intro (cell_at hcA' g0) (And.intro (cell_at hcA' k0) (And.intro (cell_at hcA' k8) (And.intro (cell_at hcA' k9) (And.intro (cell_at hcA' k10) (And.intro (cell_at hcA' k11) (And.intro (cell_at hcA' k12) (cell_at hcA' k13))))))))))
          all_goals
            have HCA : Hid (Chg wr wA) := hcA'
            obtain ⟨q0, q1, q8, q9, q10, q11, q12, q13⟩ := hsA
            clear hcA hcA' n0 g0 k0 k8 k9 k10 k11 k12 k13
          go_wp2_with (first | (go_at_call 73; (refine (turnThrice32_any sa 2 13 22 _ (by decide) (by decide) (by decide)).mono ?_; rintro e wB ⟨rfl, hcB⟩)))
          obtain ⟨hnn, hww⟩ := HN.out
          have hnum : number32 t = nn / 4294967296 % 4294967296 := by
            rw [number32, ← hnn, cv32]
            simp [IntKind.wrap_u32]
          have hcw : Chg wr wB := HCA.out.trans hcB
          refine ⟨⟨t + 1, rnd .u32 (turn3 .u32 2 13 22) (turn3 .u32 6 11 25) (number32 t) (W t) ⟨sa, sb', sc, sd, se, sf, sg, sh⟩, by go_num, by omega, ?_, rfl, rfl, rfl, ?_, rfl, rfl, rfl, ?_, HC.out.trans hcw, H0.out.chg hcw, H1.out.chg hcw, H2.out.chg hcw⟩, ?_⟩
          · simp only [rnd, rndX, rndY, IntKind.wrap_u32, hnum, ← hww]
          · simp only [rnd, rndX, rndY, IntKind.wrap_u32, hnum, ← hww]
          · rw [HR.out]
            rfl
          · simp [intOf]; omega
        · have htd : decide ((t : Int) < 64) = false := by simp; omega
          have htR' : t = 64 := by omega
          obtain ⟨V, hV⟩ : ∃ V : St, V = rnds .u32 (turn3 .u32 2 13 22) (turn3 .u32 6 11 25) number32 W (St.of fun i => cv32 (st i)) 64 := ⟨_, rfl⟩
          have hsV : ⟨sa, sb', sc, sd, se, sf, sg, sh⟩ = V := by rw [hs, htR', hV]
          have HV : Hid (⟨sa, sb', sc, sd, se, sf, sg, sh⟩ = V ∧ V = rnds .u32 (turn3 .u32 2 13 22) (turn3 .u32 6 11 25) number32 W (St.of fun i => cv32 (st i)) 64) := ⟨hsV, hV⟩
          have z0 : Hid (Ar wr sb (lay .u64 c so (mix32 st d) 0)) := HS.out.1.chg hch
          clear htR' hsV hV hs hch h0 h1 h2
          go_wp2_with fail
          obtain ⟨w3, hw3⟩ : ∃ w3, w3 = wr := ⟨_, rfl⟩
          subst hw3
          go_loopw [131] (fun v wr => ∃ (j : Nat), v = .int .i64 j ∧ j ≤ 8 ∧ Cb sb w wr ∧ Ar wr sb (lay .u64 c so (mix32 st d) j) ∧ Ar wr (p + 1) (arr .u32 8 (shortS cv32 st 8))) (fun v wr => 8 - (intOf v).toNat)
          case atStart => exact ⟨0, rfl, by omega, HC.out.cb sb, z0.out, H2.out⟩
          case round =>
            clear z0 HC H0 H1 H2
            obtain ⟨j, rfl, hj, hcb, ha, h2⟩ := hrel
            have HC : Hid (Cb sb w wr) := hcb
            have HA : Hid (Ar wr sb (lay .u64 c so (mix32 st d) j)) := ha
            have H2 : Hid (Ar wr (p + 1) (arr .u32 8 (shortS cv32 st 8))) := h2
            by_cases hj8 : j < 8
            · obtain ⟨x, hx⟩ : ∃ x, x = cv32 (st j) := ⟨_, rfl⟩
              obtain ⟨y, hy⟩ : ∃ y, y = V.at j := ⟨_, rfl⟩
              obtain ⟨y0, hy0⟩ : ∃ y, y = st j := ⟨_, rfl⟩
              have c0 := (ha.cell (so + j)).trans ((lay_out .u64 c so (mix32 st d) j (so + j) (by omega)).trans (HS.out.2.2.1 j hj8))
              rw [← hy0] at c0
              have f0 := ha.frozen (so + j)
              have c1 := (h2.cell j).trans (arr_get .u32 8 (shortS cv32 st 8) (i := j) hj8)
              rw [show shortS cv32 st 8 j = x by rw [hx, shortS, if_pos hj8]] at c1
              have hix : (#[Value.int .u32 sa, .int .u32 sb', .int .u32 sc, .int .u32 sd, .int .u32 se, .int .u32 sf, .int .u32 sg, .int .u32 sh] : Array Value)[j]? = some (.int .u32 y) := by
                rw [hy, ← HV.out.1]
                have : j = 0 ∨ j = 1 ∨ j = 2 ∨ j = 3 ∨ j = 4 ∨ j = 5 ∨ j = 6 ∨ j = 7 := by omega
                rcases this with rfl | rfl | rfl | rfl | rfl | rfl | rfl | rfl <;> rfl
              have HX : Hid (x = cv32 (st j) ∧ y = V.at j) := ⟨hx, hy⟩
              have hl8 : (j : Int) < 8 := by omega
              have hjd : decide ((j : Int) < 8) = true := by simp; omega
              have hne : ¬ p + 1 = sb := by
                have := HS.out.2.2.2.2
                have := HP.out
                omega
              have hiw := index32 sa sb' sc sd se sf sg sh _ j hj8 hix
              clear hx hy hy0 hcb ha h2 hix
              go_wp2_with fail
              go_region_held3 (fun w' => w'.cell? ⟨p + 1, j, none⟩ = some (.int .u32 x)) (first | exact c1 | exact cell_set _ c1 (fun e => absurd e hne)) (fail)
              all_goals
                go_wp2
                obtain ⟨hx, hy⟩ := HX.out
                obtain ⟨hcs, hV⟩ := HV.out
                obtain ⟨_, _, _, hsb2, hsbl⟩ := HS.out
                go_roundw
                case rel =>
                  refine ⟨j + 1, by go_num, by omega, (HC.out.drew.set _ _), ?_, (H2.out.drew.other (by dsimp only; omega) _)⟩
                  have h := HA.out.drew.set (so + j) (.int .u64 (mix32 st d j))
                  have e : mix32 st d j = up32 (IntKind.u32.wrap (x + y)) := by rw [mix32, ← HW.out, ← hV, ← hx, ← hy]
                  rw [e] at h
                  rw [lay, e]
                  simp only [up32, IntKind.wrap_u32, IntKind.wrap_u64] at h ⊢
                  exact h
                case measure => simp [intOf]; omega
            · have hjd : decide ((j : Int) < 8) = false := by simp; omega
              have hj8' : j = 8 := by omega
              have HA8 : Hid (Ar wr sb (lay .u64 c so (mix32 st d) 8)) := by
                have := ha
                rw [hj8'] at this
                exact this
              clear hj8' hcb ha h2 HA
              go_wp2
              go_end0
              exact ⟨rfl, HC.out, HA8.out⟩

def number64 (t : Nat) : Int := cv64 (numb t / 2 ^ (64 - 64))
def mix64 (st d : Nat → Int) : Nat → Int := fun i => up64 (IntKind.u64.wrap (cv64 (st i) + (rnds .u64 (turn3 .u64 28 34 39) (turn3 .u64 14 18 41) number64 (words64 d) (St.of fun i => cv64 (st i)) 80).at i))

theorem index64 (a b c d e f g h : Int) (v : Value) (j : Nat) (hj : j < 8) (hv : (#[.int .u64 a, .int .u64 b, .int .u64 c, .int .u64 d, .int .u64 e, .int .u64 f, .int .u64 g, .int .u64 h] : Array Value)[j]? = some v) (w : World) :
    (Instr.index 56 (.agg #[.int .u64 a, .int .u64 b, .int .u64 c, .int .u64 d, .int .u64 e, .int .u64 f, .int .u64 g, .int .u64 h]) (.int .i64 j)).run Tryd.prog w = .ok v w := by
  have : j = 0 ∨ j = 1 ∨ j = 2 ∨ j = 3 ∨ j = 4 ∨ j = 5 ∨ j = 6 ∨ j = 7 := by omega
  rcases this with rfl | rfl | rfl | rfl | rfl | rfl | rfl | rfl <;> (injection hv with hv; rw [← hv]; first | kernel_rfl | rfl)

set_option maxRecDepth 100000 in
set_option maxHeartbeats 4000000 in
theorem mix64_any (sb so b o cap : Nat) (c : Array Value) (st d : Nat → Int) (w : World) (ht : Tabs w) (hsb : 2 ≤ sb) (hs : Ar w sb c) (hc : so + 8 ≤ c.size) (hst : ∀ i, i < 8 → c[so + i]? = some (.int .u64 (st i)))
    (hb : Bs w b o 128 d) (hcap : 128 ≤ cap) (hcap' : cap < 9223372036854775808) :
    Calls Tryd.prog 68 #[.agg kind64, .pointer (some ⟨sb, so, none⟩), .slice (some ⟨b, o, none⟩) 128 cap] w fun r w' => r = .returned (.tuple #[]) ∧ Cb sb w w' ∧ Ar w' sb (lay .u64 c so (mix64 st d) 8) := by
  have HT : Hid (Tabs w) := ht
  have HS : Hid (Ar w sb c ∧ so + 8 ≤ c.size ∧ (∀ i, i < 8 → c[so + i]? = some (.int .u64 (st i))) ∧ 2 ≤ sb ∧ sb < w.heap.size) := ⟨hs, hc, hst, hsb, hs.lt⟩
  have HB : Hid (Bs w b o 128 d ∧ 128 ≤ cap ∧ cap < 9223372036854775808) := ⟨hb, hcap, hcap'⟩
  clear ht hsb hs hc hst hb hcap hcap'
  have hz := zero80_64.1
  unfold kind64
  go_enter Tryd.func68, Tryd.ntmps68
  obtain ⟨W, hW⟩ : ∃ W, W = words64 d := ⟨_, rfl⟩
  have hsz : (Tryd.prog.info? 92).map (·.size) = some (arr .u64 80 W).size := by rw [arr_size]; exact zero80_64.2
  have hlen : (arr .u64 80 fun _ => 0).size = (arr .u64 80 W).size := by rw [arr_size, arr_size]
  have hone := arr_one .u64 80 W
  have HSp : Hid (∀ u, Chg w u → Calls Tryd.prog 74 #[.agg kind64, .slice (some ⟨b, o, none⟩) 128 cap] u fun r w' => r = .returned (.agg (arr .u64 80 W)) ∧ Chg u w') := by
    intro u hu
    rw [hW]
    exact spread64_any b o cap d u (HB.out.1.chg hu) HB.out.2.1 HB.out.2.2
  have HW : Hid (W = words64 d) := hW
  clear hW
  go_wp2_with (first | (go_at_call 74; (refine (HSp.out _ ((Chg.refl w).alloc _)).mono ?_; rintro r w1 ⟨rfl, hc1⟩)) | refine wpList_store_row rfl 92 _ _ rfl w1.heap.size _ rfl rfl _ _ (heap_alloc_last w1 _) hsz hlen hone ?_)
  obtain ⟨w2, hw2⟩ : ∃ w2, w2 = ((w1.alloc (.cells (arr .u64 80 fun _ => 0) 92)).setRow w1.heap.size (arr .u64 80 W)).alloc (.cells #[.int .u64 0, .int .u64 0, .int .u64 0, .int .u64 0, .int .u64 0, .int .u64 0, .int .u64 0, .int .u64 0] 56) := ⟨_, rfl⟩
  rw [← hw2]
  obtain ⟨p, hp⟩ : ∃ p, p = w1.heap.size := ⟨_, rfl⟩
  have z0 : Hid (Chg w w2 ∧ Ar w2 w.heap.size #[.int .i64 64, .int .i64 80, .int .i64 1, .int .i64 8, .int .i64 7, .int .i64 19, .int .i64 61, .int .i64 6, .int .i64 28, .int .i64 34, .int .i64 39, .int .i64 14, .int .i64 18, .int .i64 41] ∧ Ar w2 p (arr .u64 80 W) ∧ Ar w2 (p + 1) (arr .u64 8 (shortS cv64 st 0)) ∧ w.heap.size < p) := by
    have hlt := hc1.size
    rw [World.size_alloc] at hlt
    have e1 : Ar (((w1.alloc (.cells (arr .u64 80 fun _ => 0) 92)).setRow w1.heap.size (arr .u64 80 W)).alloc (.cells #[.int .u64 0, .int .u64 0, .int .u64 0, .int .u64 0, .int .u64 0, .int .u64 0, .int .u64 0, .int .u64 0] 56)) (((w1.alloc (.cells (arr .u64 80 fun _ => 0) 92)).setRow w1.heap.size (arr .u64 80 W))).heap.size (arr .u64 8 (shortS cv64 st 0)) := Ar.new _ _ _
    rw [size_setRow, World.size_alloc, ← hw2] at e1
    refine ⟨?_, ?_, ?_, ?_, by omega⟩
    · rw [hw2]
      exact (((((Chg.refl w).alloc _).trans hc1).alloc _).setRow (by omega) _).alloc _
    · rw [hw2]
      exact (((((Ar.new w _ _).chg hc1).alloc _).rowOther (by omega) _).alloc _)
    · rw [hw2, hp]
      exact ((Ar.new w1 _ _).row _).alloc _
    · rw [hp]
      exact e1
  rw [← hp]
  clear hc1 hp hsz hlen hone hz HSp
  clear hw2 w1
  go_loopw [28] (fun v wr => ∃ (i : Nat), v = .int .i64 i ∧ i ≤ 8 ∧ Chg w wr ∧ Ar wr w.heap.size #[.int .i64 64, .int .i64 80, .int .i64 1, .int .i64 8, .int .i64 7, .int .i64 19, .int .i64 61, .int .i64 6, .int .i64 28, .int .i64 34, .int .i64 39, .int .i64 14, .int .i64 18, .int .i64 41] ∧ Ar wr p (arr .u64 80 W) ∧ Ar wr (p + 1) (arr .u64 8 (shortS cv64 st i))) (fun v wr => 8 - (intOf v).toNat)
  case atStart => exact ⟨0, rfl, by omega, z0.out.1, z0.out.2.1, z0.out.2.2.1, z0.out.2.2.2.1⟩
  case round =>
    have HP : Hid (w.heap.size < p) := z0.out.2.2.2.2
    clear z0
    obtain ⟨i, rfl, hi, hch, h0, h1, h2⟩ := hrel
    have HC : Hid (Chg w wr) := hch
    have H0 : Hid (Ar wr w.heap.size #[.int .i64 64, .int .i64 80, .int .i64 1, .int .i64 8, .int .i64 7, .int .i64 19, .int .i64 61, .int .i64 6, .int .i64 28, .int .i64 34, .int .i64 39, .int .i64 14, .int .i64 18, .int .i64 41]) := h0
    have H1 : Hid (Ar wr p (arr .u64 80 W)) := h1
    have H2 : Hid (Ar wr (p + 1) (arr .u64 8 (shortS cv64 st i))) := h2
    have HA : Hid (Ar wr sb c) := HS.out.1.chg hch
    by_cases hi8 : i < 8
    · obtain ⟨x, hx⟩ : ∃ x, x = st i := ⟨_, rfl⟩
      have c0 := (HA.out.cell (so + i)).trans (HS.out.2.2.1 i hi8)
      rw [← hx] at c0
      have c1 := (h2.cell i).trans (arr_get .u64 8 (shortS cv64 st i) (i := i) hi8)
      obtain ⟨x1, hx1⟩ : ∃ x1, x1 = shortS cv64 st i i := ⟨_, rfl⟩
      rw [← hx1] at c1
      have f1 := h2.frozen i
      have HX : Hid (x = st i) := hx
      have hl8 : (i : Int) < 8 := by omega
      clear hx hx1 hch h0 h1 h2
      go_wp2_with fail
      go_region_with (fail)
      all_goals go_wp2
      all_goals
        obtain ⟨_, _, _, hsb2, hsbl⟩ := HS.out
        have hpl := HP.out
        go_roundw
        case rel =>
          refine ⟨i + 1, by go_num, by omega, (HC.out.drew.setCell (by dsimp only; omega) _), (H0.out.drew.other (by dsimp only; omega) _), (H1.out.drew.other (by dsimp only; omega) _), ?_⟩
          have h := H2.out.drew.set i (.int .u64 (cv64 x))
          rw [arr_set] at h
          have e : upd (shortS cv64 st i) i (cv64 x) = shortS cv64 st (i + 1) := by
            funext j
            unfold upd shortS
            by_cases hj : j = i
            · subst hj; simp [HX.out]
            · have e : (j < i + 1) ↔ j < i := by omega
              simp [hj, e]
          rw [e] at h
          exact h
        case measure => simp [intOf]; omega
    · have hi8' : i = 8 := by omega
      have hid : decide ((i : Int) < 8) = false := by simp; omega
      have c0 := (h2.cell 0).trans (arr_get .u64 8 (shortS cv64 st i) (i := 0) (by omega))
      obtain ⟨s0, hs0⟩ : ∃ s, s = cv64 (st 0) := ⟨_, rfl⟩
      rw [show shortS cv64 st i 0 = s0 by rw [hs0, shortS, if_pos (by omega)]] at c0
      have c1 := (h2.cell 1).trans (arr_get .u64 8 (shortS cv64 st i) (i := 1) (by omega))
      obtain ⟨s1, hs1⟩ : ∃ s, s = cv64 (st 1) := ⟨_, rfl⟩
      rw [show shortS cv64 st i 1 = s1 by rw [hs1, shortS, if_pos (by omega)]] at c1
      have c2 := (h2.cell 2).trans (arr_get .u64 8 (shortS cv64 st i) (i := 2) (by omega))
      obtain ⟨s2, hs2⟩ : ∃ s, s = cv64 (st 2) := ⟨_, rfl⟩
      rw [show shortS cv64 st i 2 = s2 by rw [hs2, shortS, if_pos (by omega)]] at c2
      have c3 := (h2.cell 3).trans (arr_get .u64 8 (shortS cv64 st i) (i := 3) (by omega))
      obtain ⟨s3, hs3⟩ : ∃ s, s = cv64 (st 3) := ⟨_, rfl⟩
      rw [show shortS cv64 st i 3 = s3 by rw [hs3, shortS, if_pos (by omega)]] at c3
      have c4 := (h2.cell 4).trans (arr_get .u64 8 (shortS cv64 st i) (i := 4) (by omega))
      obtain ⟨s4, hs4⟩ : ∃ s, s = cv64 (st 4) := ⟨_, rfl⟩
      rw [show shortS cv64 st i 4 = s4 by rw [hs4, shortS, if_pos (by omega)]] at c4
      have c5 := (h2.cell 5).trans (arr_get .u64 8 (shortS cv64 st i) (i := 5) (by omega))
      obtain ⟨s5, hs5⟩ : ∃ s, s = cv64 (st 5) := ⟨_, rfl⟩
      rw [show shortS cv64 st i 5 = s5 by rw [hs5, shortS, if_pos (by omega)]] at c5
      have c6 := (h2.cell 6).trans (arr_get .u64 8 (shortS cv64 st i) (i := 6) (by omega))
      obtain ⟨s6, hs6⟩ : ∃ s, s = cv64 (st 6) := ⟨_, rfl⟩
      rw [show shortS cv64 st i 6 = s6 by rw [hs6, shortS, if_pos (by omega)]] at c6
      have c7 := (h2.cell 7).trans (arr_get .u64 8 (shortS cv64 st i) (i := 7) (by omega))
      obtain ⟨s7, hs7⟩ : ∃ s, s = cv64 (st 7) := ⟨_, rfl⟩
      rw [show shortS cv64 st i 7 = s7 by rw [hs7, shortS, if_pos (by omega)]] at c7
      have HSS : Hid ((St.of fun i => cv64 (st i)) = ⟨s0, s1, s2, s3, s4, s5, s6, s7⟩) := by
        show St.of _ = _
        rw [hs0, hs1, hs2, hs3, hs4, hs5, hs6, hs7, St.of]
      have H28 : Hid (Ar wr (p + 1) (arr .u64 8 (shortS cv64 st 8))) := by
        have := h2
        rw [hi8'] at this
        exact this
      have b1 : wr.cell? ⟨w.heap.size, 1, none⟩ = some (.int .i64 80) := h0.cell 1
      clear hs0 hs1 hs2 hs3 hs4 hs5 hs6 hs7 hi8' H2 hch h0 h1 h2
      go_wp2_with fail
      go_quiet (fail)
      all_goals go_wp2_with fail
      obtain ⟨w2, hw2⟩ : ∃ w2, w2 = wr.drewN nq := ⟨_, rfl⟩
      rw [← hw2]
      have z0 : Hid (Chg w w2 ∧ Ar w2 w.heap.size #[.int .i64 64, .int .i64 80, .int .i64 1, .int .i64 8, .int .i64 7, .int .i64 19, .int .i64 61, .int .i64 6, .int .i64 28, .int .i64 34, .int .i64 39, .int .i64 14, .int .i64 18, .int .i64 41] ∧ Ar w2 p (arr .u64 80 W) ∧ Ar w2 (p + 1) (arr .u64 8 (shortS cv64 st 8))) := by
        rw [hw2]
        exact ⟨HC.out.drewN nq, H0.out, H1.out, H28.out⟩
      clear HC H0 H1 H28 HA c0 c1 c2 c3 c4 c5 c6 c7 b1 hw2
      go_loopw [10, 11, 12, 13, 14, 15, 16, 17, 56] (fun va vb vc vd ve vf vg vh v wr => ∃ (t : Nat) (s : St), v = .int .i64 t ∧ t ≤ 80 ∧ va = .int .u64 s.a ∧ vb = .int .u64 s.b ∧ vc = .int .u64 s.c ∧ vd = .int .u64 s.d ∧ ve = .int .u64 s.e ∧ vf = .int .u64 s.f ∧ vg = .int .u64 s.g ∧ vh = .int .u64 s.h ∧ s = rnds .u64 (turn3 .u64 28 34 39) (turn3 .u64 14 18 41) number64 W (St.of fun i => cv64 (st i)) t ∧ Chg w wr ∧ Ar wr w.heap.size #[.int .i64 64, .int .i64 80, .int .i64 1, .int .i64 8, .int .i64 7, .int .i64 19, .int .i64 61, .int .i64 6, .int .i64 28, .int .i64 34, .int .i64 39, .int .i64 14, .int .i64 18, .int .i64 41] ∧ Ar wr p (arr .u64 80 W) ∧ Ar wr (p + 1) (arr .u64 8 (shortS cv64 st 8))) (fun va vb vc vd ve vf vg vh v wr => 80 - (intOf v).toNat)
      case atStart => exact ⟨0, ⟨s0, s1, s2, s3, s4, s5, s6, s7⟩, rfl, by omega, rfl, rfl, rfl, rfl, rfl, rfl, rfl, rfl, HSS.out.symm, z0.out.1, z0.out.2.1, z0.out.2.2.1, z0.out.2.2.2⟩
      case round =>
        clear z0 HSS
        obtain ⟨t, ⟨sa, sb', sc, sd, se, sf, sg, sh⟩, rfl, htR, rfl, rfl, rfl, rfl, rfl, rfl, rfl, rfl, hs, hch, h0, h1, h2⟩ := hrel
        dsimp only
        have HC : Hid (Chg w wr) := hch
        have H0 : Hid (Ar wr w.heap.size #[.int .i64 64, .int .i64 80, .int .i64 1, .int .i64 8, .int .i64 7, .int .i64 19, .int .i64 61, .int .i64 6, .int .i64 28, .int .i64 34, .int .i64 39, .int .i64 14, .int .i64 18, .int .i64 41]) := h0
        have H1 : Hid (Ar wr p (arr .u64 80 W)) := h1
        have H2 : Hid (Ar wr (p + 1) (arr .u64 8 (shortS cv64 st 8))) := h2
        have HR : Hid (⟨sa, sb', sc, sd, se, sf, sg, sh⟩ = rnds .u64 (turn3 .u64 28 34 39) (turn3 .u64 14 18 41) number64 W (St.of fun i => cv64 (st i)) t) := hs
        by_cases htr : t < 80
        · have n0 := (HT.out.chg hch).n t (by omega)
          have g0 := (h1.cell t).trans (arr_get .u64 80 W (i := t) (by omega))
          obtain ⟨nn, hnn⟩ : ∃ nn, nn = numb t := ⟨_, rfl⟩
          obtain ⟨ww, hww⟩ : ∃ ww, ww = W t := ⟨_, rfl⟩
          rw [← hnn] at n0
          rw [← hww] at g0
          have HN : Hid (nn = numb t ∧ ww = W t) := ⟨hnn, hww⟩
          have k0 : wr.cell? ⟨w.heap.size, 0, none⟩ = some (.int .i64 64) := h0.cell 0
          have k8 : wr.cell? ⟨w.heap.size, 8, none⟩ = some (.int .i64 28) := h0.cell 8
          have k9 : wr.cell? ⟨w.heap.size, 9, none⟩ = some (.int .i64 34) := h0.cell 9
          have k10 : wr.cell? ⟨w.heap.size, 10, none⟩ = some (.int .i64 39) := h0.cell 10
          have k11 : wr.cell? ⟨w.heap.size, 11, none⟩ = some (.int .i64 14) := h0.cell 11
          have k12 : wr.cell? ⟨w.heap.size, 12, none⟩ = some (.int .i64 18) := h0.cell 12
          have k13 : wr.cell? ⟨w.heap.size, 13, none⟩ = some (.int .i64 41) := h0.cell 13
          have l80 : (t : Int) < 80 := by omega
          have hsh : IntKind.i64.wrap 0 = 0 := by decide
          have htd : decide ((t : Int) < 80) = true := by simp; omega
          clear hnn hww hs hch h0 h1 h2
          go_wp2_with fail
          go_region_held3 (fun w' => w'.cell? ⟨1, t, none⟩ = some (.int .u64 nn) ∧ w'.cell? ⟨w.heap.size, 0, none⟩ = some (.int .i64 64)) (exact ⟨n0, k0⟩) (fail)
          all_goals go_wp2_with fail
          go_region_held3 (fun w' => w'.cell? ⟨p, t, none⟩ = some (.int .u64 ww) ∧ w'.cell? ⟨w.heap.size, 0, none⟩ = some (.int .i64 64) ∧ w'.cell? ⟨w.heap.size, 8, none⟩ = some (.int .i64 28) ∧ w'.cell? ⟨w.heap.size, 9, none⟩ = some (.int .i64 34) ∧ w'.cell? ⟨w.heap.size, 10, none⟩ = some (.int .i64 39) ∧ w'.cell? ⟨w.heap.size, 11, none⟩ = some (.int .i64 14) ∧ w'.cell? ⟨w.heap.size, 12, none⟩ = some (.int .i64 18) ∧ w'.cell? ⟨w.heap.size, 13, none⟩ = some (.int .i64 41))
            (first | exact ⟨g0, k0, k8, k9, k10, k11, k12, k13⟩ | exact hsA)
            (first | (go_at_call 75; (refine (turnThrice64_any se 14 18 41 _ (by decide) (by decide) (by decide)).mono ?_; rintro e wA ⟨rfl, hcA⟩; have hcA' : Chg wr wA := (Chg.refl wr).drew.drew.trans hcA; have hsA := And.intro (cell_at hcA' g0) (And.intro (cell_at hcA' k0) (And.intro (cell_at hcA' k8) (And.intro (cell_at hcA' k9) (And.intro (cell_at hcA' k10) (And.intro (cell_at hcA' k11) (And.intro (cell_at hcA' k12) (cell_at hcA' k13))))))))))
          all_goals
            have HCA : Hid (Chg wr wA) := hcA'
            obtain ⟨q0, q1, q8, q9, q10, q11, q12, q13⟩ := hsA
            clear hcA hcA' n0 g0 k0 k8 k9 k10 k11 k12 k13
          go_wp2_with (first | (go_at_call 75; (refine (turnThrice64_any sa 28 34 39 _ (by decide) (by decide) (by decide)).mono ?_; rintro e wB ⟨rfl, hcB⟩)))
          obtain ⟨hnn, hww⟩ := HN.out
          have hnum : number64 t = nn := by
            rw [number64, ← hnn, cv64]
            simp
          have hcw : Chg wr wB := HCA.out.trans hcB
          refine ⟨⟨t + 1, rnd .u64 (turn3 .u64 28 34 39) (turn3 .u64 14 18 41) (number64 t) (W t) ⟨sa, sb', sc, sd, se, sf, sg, sh⟩, by go_num, by omega, ?_, rfl, rfl, rfl, ?_, rfl, rfl, rfl, ?_, HC.out.trans hcw, H0.out.chg hcw, H1.out.chg hcw, H2.out.chg hcw⟩, ?_⟩
          · simp only [rnd, rndX, rndY, IntKind.wrap_u64, hnum, ← hww]
          · simp only [rnd, rndX, rndY, IntKind.wrap_u64, hnum, ← hww]
          · rw [HR.out]
            rfl
          · simp [intOf]; omega
        · have htd : decide ((t : Int) < 80) = false := by simp; omega
          have htR' : t = 80 := by omega
          obtain ⟨V, hV⟩ : ∃ V : St, V = rnds .u64 (turn3 .u64 28 34 39) (turn3 .u64 14 18 41) number64 W (St.of fun i => cv64 (st i)) 80 := ⟨_, rfl⟩
          have hsV : ⟨sa, sb', sc, sd, se, sf, sg, sh⟩ = V := by rw [hs, htR', hV]
          have HV : Hid (⟨sa, sb', sc, sd, se, sf, sg, sh⟩ = V ∧ V = rnds .u64 (turn3 .u64 28 34 39) (turn3 .u64 14 18 41) number64 W (St.of fun i => cv64 (st i)) 80) := ⟨hsV, hV⟩
          have z0 : Hid (Ar wr sb (lay .u64 c so (mix64 st d) 0)) := HS.out.1.chg hch
          clear htR' hsV hV hs hch h0 h1 h2
          go_wp2_with fail
          obtain ⟨w3, hw3⟩ : ∃ w3, w3 = wr := ⟨_, rfl⟩
          subst hw3
          go_loopw [129] (fun v wr => ∃ (j : Nat), v = .int .i64 j ∧ j ≤ 8 ∧ Cb sb w wr ∧ Ar wr sb (lay .u64 c so (mix64 st d) j) ∧ Ar wr (p + 1) (arr .u64 8 (shortS cv64 st 8))) (fun v wr => 8 - (intOf v).toNat)
          case atStart => exact ⟨0, rfl, by omega, HC.out.cb sb, z0.out, H2.out⟩
          case round =>
            clear z0 HC H0 H1 H2
            obtain ⟨j, rfl, hj, hcb, ha, h2⟩ := hrel
            have HC : Hid (Cb sb w wr) := hcb
            have HA : Hid (Ar wr sb (lay .u64 c so (mix64 st d) j)) := ha
            have H2 : Hid (Ar wr (p + 1) (arr .u64 8 (shortS cv64 st 8))) := h2
            by_cases hj8 : j < 8
            · obtain ⟨x, hx⟩ : ∃ x, x = cv64 (st j) := ⟨_, rfl⟩
              obtain ⟨y, hy⟩ : ∃ y, y = V.at j := ⟨_, rfl⟩
              obtain ⟨y0, hy0⟩ : ∃ y, y = st j := ⟨_, rfl⟩
              have c0 := (ha.cell (so + j)).trans ((lay_out .u64 c so (mix64 st d) j (so + j) (by omega)).trans (HS.out.2.2.1 j hj8))
              rw [← hy0] at c0
              have f0 := ha.frozen (so + j)
              have c1 := (h2.cell j).trans (arr_get .u64 8 (shortS cv64 st 8) (i := j) hj8)
              rw [show shortS cv64 st 8 j = x by rw [hx, shortS, if_pos hj8]] at c1
              have hix : (#[Value.int .u64 sa, .int .u64 sb', .int .u64 sc, .int .u64 sd, .int .u64 se, .int .u64 sf, .int .u64 sg, .int .u64 sh] : Array Value)[j]? = some (.int .u64 y) := by
                rw [hy, ← HV.out.1]
                have : j = 0 ∨ j = 1 ∨ j = 2 ∨ j = 3 ∨ j = 4 ∨ j = 5 ∨ j = 6 ∨ j = 7 := by omega
                rcases this with rfl | rfl | rfl | rfl | rfl | rfl | rfl | rfl <;> rfl
              have HX : Hid (x = cv64 (st j) ∧ y = V.at j) := ⟨hx, hy⟩
              have hl8 : (j : Int) < 8 := by omega
              have hjd : decide ((j : Int) < 8) = true := by simp; omega
              have hne : ¬ p + 1 = sb := by
                have := HS.out.2.2.2.2
                have := HP.out
                omega
              have hiw := index64 sa sb' sc sd se sf sg sh _ j hj8 hix
              clear hx hy hy0 hcb ha h2 hix
              go_wp2_with fail
              go_region_held3 (fun w' => w'.cell? ⟨p + 1, j, none⟩ = some (.int .u64 x)) (first | exact c1 | exact cell_set _ c1 (fun e => absurd e hne)) (fail)
              all_goals
                go_wp2
                obtain ⟨hx, hy⟩ := HX.out
                obtain ⟨hcs, hV⟩ := HV.out
                obtain ⟨_, _, _, hsb2, hsbl⟩ := HS.out
                go_roundw
                case rel =>
                  refine ⟨j + 1, by go_num, by omega, (HC.out.drew.set _ _), ?_, (H2.out.drew.other (by dsimp only; omega) _)⟩
                  have h := HA.out.drew.set (so + j) (.int .u64 (mix64 st d j))
                  have e : mix64 st d j = up64 (IntKind.u64.wrap (x + y)) := by rw [mix64, ← HW.out, ← hV, ← hx, ← hy]
                  rw [e] at h
                  rw [lay, e]
                  simp only [up64, IntKind.wrap_u64] at h ⊢
                  exact h
                case measure => simp [intOf]; omega
            · have hjd : decide ((j : Int) < 8) = false := by simp; omega
              have hj8' : j = 8 := by omega
              have HA8 : Hid (Ar wr sb (lay .u64 c so (mix64 st d) 8)) := by
                have := ha
                rw [hj8'] at this
                exact this
              clear hj8' hcb ha h2 HA
              go_wp2
              go_end0
              exact ⟨rfl, HC.out, HA8.out⟩

end Go.Proofs.YtijpdhjlafihkaaDoor
