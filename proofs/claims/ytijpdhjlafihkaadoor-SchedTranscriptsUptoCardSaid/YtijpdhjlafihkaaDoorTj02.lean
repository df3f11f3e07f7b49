/-
  A word for each round: what the function spread of both kinds of words answers.
-/
import Derived.Test.YtijpdhjlafihkaaDoorTj01
import Derived.Deep.RegionHeld3
namespace Go.Proofs.YtijpdhjlafihkaaDoor
open Go.RowKit
set_option linter.unusedVariables false
set_option maxRecDepth 100000

theorem cell_at {w w' : World} (h : Chg w w') {b i : Nat} {v : Value} (hv : w.cell? ⟨b, i, none⟩ = some v) : w'.cell? ⟨b, i, none⟩ = some v := by
  have hl : b < w.heap.size := block_lt_of_cell hv
  rw [← hv]
  unfold World.cell?
  simp only [h.block b hl]

/-- Bytes that lie one behind the other. -/
def Bs (w : World) (b o n : Nat) (d : Nat → Int) : Prop := ∀ j, j < n → w.cell? ⟨b, o + j, none⟩ = some (.int .u8 (d j))

theorem Bs.chg {w w' : World} {b o n : Nat} {d : Nat → Int} (h : Bs w b o n d) (k : Chg w w') : Bs w' b o n d := fun j hj => cell_at k (h j hj)

theorem arr_congr {κ : IntKind} {n : Nat} {d e : Nat → Int} (h : ∀ i, i < n → d i = e i) : arr κ n d = arr κ n e := by
  unfold arr
  congr 1
  apply List.map_congr_left
  intro i hi
  rw [h i (List.mem_range.1 hi)]

/-- A word of bytes, the highest first. -/
def joinW (κ : IntKind) (d : Nat → Int) : Nat → Int
  | 0 => 0
  | k + 1 => Go.bits .or κ (κ.wrap (joinW κ d k * 256)) (κ.wrap (d k))
def wordW (κ : IntKind) (nb : Nat) (d : Nat → Int) (t : Nat) : Int := joinW κ (fun k => d (nb * t + k)) nb
def firstW (κ : IntKind) (nb : Nat) (d : Nat → Int) (t : Nat) : Nat → Int := fun j => if j < t then wordW κ nb d j else 0
/-- The next word, made of four ahead of it. -/
def nextW (κ : IntKind) (s0 s1 : Int → Int) (v : Nat → Int) (t : Nat) : Int :=
  κ.wrap (κ.wrap (κ.wrap (s1 (v (t - 2)) + v (t - 7)) + s0 (v (t - 15))) + v (t - 16))
def moreW (κ : IntKind) (s0 s1 : Int → Int) (v : Nat → Int) : Nat → Nat → Int
  | 0 => v
  | k + 1 => upd (moreW κ s0 s1 v k) (16 + k) (nextW κ s0 s1 (moreW κ s0 s1 v k) (16 + k))

theorem firstW_next (κ : IntKind) (nb : Nat) (d : Nat → Int) (t : Nat) : upd (firstW κ nb d t) t (wordW κ nb d t) = firstW κ nb d (t + 1) := by
  funext j
  unfold upd firstW
  by_cases h : j = t
  · subst h; simp
  · have e : (j < t + 1) ↔ j < t := by omega
    simp [h, e]
theorem upd_upd (d : Nat → Int) (i : Nat) (x y : Int) : upd (upd d i x) i y = upd d i y := by
  funext j
  unfold upd
  by_cases h : j = i <;> simp [h]

theorem Ar.new1 (w : World) (o : Obj) (c : Array Value) (t : TypeId) : Ar ((w.alloc o).alloc (.cells c t)) (w.heap.size + 1) c := by
  have := Ar.new (w.alloc o) c t
  rw [World.size_alloc] at this
  exact this
theorem Ar.new2 (w : World) (o o' : Obj) (c : Array Value) (t : TypeId) : Ar (((w.alloc o).alloc o').alloc (.cells c t)) (w.heap.size + 1 + 1) c := by
  have := Ar.new ((w.alloc o).alloc o') c t
  rw [World.size_alloc, World.size_alloc] at this
  exact this

theorem frozen_at {w w' : World} (h : Chg w w') {b i : Nat} (hl : b < w.heap.size) (hv : w.frozen? ⟨b, i, none⟩ = false) : w'.frozen? ⟨b, i, none⟩ = false := by
  rw [← hv]
  unfold World.frozen?
  simp only [h.block b hl]
theorem held12 {w w' : World} (hc : Chg w w') {b1 i1 : Nat} {v1 : Value} {b2 i2 : Nat} {v2 : Value} {b3 i3 : Nat} {v3 : Value} {b4 i4 : Nat} {v4 : Value} {b5 i5 : Nat} {v5 : Value} {b6 i6 : Nat} {v6 : Value} {b7 i7 : Nat} {v7 : Value} {b8 i8 : Nat} {v8 : Value} {b9 i9 : Nat} {v9 : Value} {b10 i10 : Nat} {v10 : Value} {b11 i11 : Nat} {v11 : Value} {b12 i12 : Nat} {v12 : Value} (h : w.cell? ⟨b1, i1, none⟩ = some v1 ∧ w.cell? ⟨b2, i2, none⟩ = some v2 ∧ w.cell? ⟨b3, i3, none⟩ = some v3 ∧ w.cell? ⟨b4, i4, none⟩ = some v4 ∧ w.cell? ⟨b5, i5, none⟩ = some v5 ∧ w.cell? ⟨b6, i6, none⟩ = some v6 ∧ w.cell? ⟨b7, i7, none⟩ = some v7 ∧ w.cell? ⟨b8, i8, none⟩ = some v8 ∧ w.cell? ⟨b9, i9, none⟩ = some v9 ∧ w.cell? ⟨b10, i10, none⟩ = some v10 ∧ w.cell? ⟨b11, i11, none⟩ = some v11 ∧ w.cell? ⟨b12, i12, none⟩ = some v12 ∧ b12 < w.heap.size ∧ w.frozen? ⟨b12, i12, none⟩ = false) :
    w'.cell? ⟨b1, i1, none⟩ = some v1 ∧ w'.cell? ⟨b2, i2, none⟩ = some v2 ∧ w'.cell? ⟨b3, i3, none⟩ = some v3 ∧ w'.cell? ⟨b4, i4, none⟩ = some v4 ∧ w'.cell? ⟨b5, i5, none⟩ = some v5 ∧ w'.cell? ⟨b6, i6, none⟩ = some v6 ∧ w'.cell? ⟨b7, i7, none⟩ = some v7 ∧ w'.cell? ⟨b8, i8, none⟩ = some v8 ∧ w'.cell? ⟨b9, i9, none⟩ = some v9 ∧ w'.cell? ⟨b10, i10, none⟩ = some v10 ∧ w'.cell? ⟨b11, i11, none⟩ = some v11 ∧ w'.cell? ⟨b12, i12, none⟩ = some v12 ∧ b12 < w'.heap.size ∧ w'.frozen? ⟨b12, i12, none⟩ = false :=
  ⟨cell_at hc h.1, cell_at hc h.2.1, cell_at hc h.2.2.1, cell_at hc h.2.2.2.1, cell_at hc h.2.2.2.2.1, cell_at hc h.2.2.2.2.2.1, cell_at hc h.2.2.2.2.2.2.1, cell_at hc h.2.2.2.2.2.2.2.1, cell_at hc h.2.2.2.2.2.2.2.2.1, cell_at hc h.2.2.2.2.2.2.2.2.2.1, cell_at hc h.2.2.2.2.2.2.2.2.2.2.1, cell_at hc h.2.2.2.2.2.2.2.2.2.2.2.1, Nat.lt_of_lt_of_le h.2.2.2.2.2.2.2.2.2.2.2.2.1 hc.size, frozen_at hc h.2.2.2.2.2.2.2.2.2.2.2.2.1 h.2.2.2.2.2.2.2.2.2.2.2.2.2⟩
theorem held12_11 {w : World} {b1 i1 : Nat} {v1 : Value} {b2 i2 : Nat} {v2 : Value} {b3 i3 : Nat} {v3 : Value} {b4 i4 : Nat} {v4 : Value} {b5 i5 : Nat} {v5 : Value} {b6 i6 : Nat} {v6 : Value} {b7 i7 : Nat} {v7 : Value} {b8 i8 : Nat} {v8 : Value} {b9 i9 : Nat} {v9 : Value} {b10 i10 : Nat} {v10 : Value} {b11 i11 : Nat} {v11 : Value} {b12 i12 : Nat} {v12 : Value} (h : w.cell? ⟨b1, i1, none⟩ = some v1 ∧ w.cell? ⟨b2, i2, none⟩ = some v2 ∧ w.cell? ⟨b3, i3, none⟩ = some v3 ∧ w.cell? ⟨b4, i4, none⟩ = some v4 ∧ w.cell? ⟨b5, i5, none⟩ = some v5 ∧ w.cell? ⟨b6, i6, none⟩ = some v6 ∧ w.cell? ⟨b7, i7, none⟩ = some v7 ∧ w.cell? ⟨b8, i8, none⟩ = some v8 ∧ w.cell? ⟨b9, i9, none⟩ = some v9 ∧ w.cell? ⟨b10, i10, none⟩ = some v10 ∧ w.cell? ⟨b11, i11, none⟩ = some v11 ∧ w.cell? ⟨b12, i12, none⟩ = some v12 ∧ b12 < w.heap.size ∧ w.frozen? ⟨b12, i12, none⟩ = false) : w.cell? ⟨b1, i1, none⟩ = some v1 ∧ w.cell? ⟨b2, i2, none⟩ = some v2 ∧ w.cell? ⟨b3, i3, none⟩ = some v3 ∧ w.cell? ⟨b4, i4, none⟩ = some v4 ∧ w.cell? ⟨b5, i5, none⟩ = some v5 ∧ w.cell? ⟨b6, i6, none⟩ = some v6 ∧ w.cell? ⟨b7, i7, none⟩ = some v7 ∧ w.cell? ⟨b8, i8, none⟩ = some v8 ∧ w.cell? ⟨b9, i9, none⟩ = some v9 ∧ w.cell? ⟨b10, i10, none⟩ = some v10 ∧ w.cell? ⟨b11, i11, none⟩ = some v11 :=
  ⟨h.1, h.2.1, h.2.2.1, h.2.2.2.1, h.2.2.2.2.1, h.2.2.2.2.2.1, h.2.2.2.2.2.2.1, h.2.2.2.2.2.2.2.1, h.2.2.2.2.2.2.2.2.1, h.2.2.2.2.2.2.2.2.2.1, h.2.2.2.2.2.2.2.2.2.2.1⟩
theorem cell_set {w : World} {b i b' i' : Nat} {v : Value} (u : Value) (h : w.cell? ⟨b, i, none⟩ = some v) (hn : b = b' → i ≠ i') : (w.setCell ⟨b', i', none⟩ u).cell? ⟨b, i, none⟩ = some v := by
  rw [← h]
  by_cases hb : b = b'
  · have := hn hb
    subst hb
    exact World.cell?_setCell_other _ _ _ _ (fun e => by injection e with e1 e2; exact this e2.symm)
  · exact World.cell?_setCell_other _ _ _ _ (fun e => by injection e with e1 e2; exact hb e1.symm)
theorem held12_set {w : World} {b1 i1 : Nat} {v1 : Value} {b2 i2 : Nat} {v2 : Value} {b3 i3 : Nat} {v3 : Value} {b4 i4 : Nat} {v4 : Value} {b5 i5 : Nat} {v5 : Value} {b6 i6 : Nat} {v6 : Value} {b7 i7 : Nat} {v7 : Value} {b8 i8 : Nat} {v8 : Value} {b9 i9 : Nat} {v9 : Value} {b10 i10 : Nat} {v10 : Value} {b11 i11 : Nat} {v11 : Value} {b12 i12 : Nat} {v12 : Value} (u : Value) (h : w.cell? ⟨b1, i1, none⟩ = some v1 ∧ w.cell? ⟨b2, i2, none⟩ = some v2 ∧ w.cell? ⟨b3, i3, none⟩ = some v3 ∧ w.cell? ⟨b4, i4, none⟩ = some v4 ∧ w.cell? ⟨b5, i5, none⟩ = some v5 ∧ w.cell? ⟨b6, i6, none⟩ = some v6 ∧ w.cell? ⟨b7, i7, none⟩ = some v7 ∧ w.cell? ⟨b8, i8, none⟩ = some v8 ∧ w.cell? ⟨b9, i9, none⟩ = some v9 ∧ w.cell? ⟨b10, i10, none⟩ = some v10 ∧ w.cell? ⟨b11, i11, none⟩ = some v11 ∧ w.cell? ⟨b12, i12, none⟩ = some v12 ∧ b12 < w.heap.size ∧ w.frozen? ⟨b12, i12, none⟩ = false) (hn : (b1 = b12 → i1 ≠ i12) ∧ (b2 = b12 → i2 ≠ i12) ∧ (b3 = b12 → i3 ≠ i12) ∧ (b4 = b12 → i4 ≠ i12) ∧ (b5 = b12 → i5 ≠ i12) ∧ (b6 = b12 → i6 ≠ i12) ∧ (b7 = b12 → i7 ≠ i12) ∧ (b8 = b12 → i8 ≠ i12) ∧ (b9 = b12 → i9 ≠ i12) ∧ (b10 = b12 → i10 ≠ i12) ∧ (b11 = b12 → i11 ≠ i12)) :
    (w.setCell ⟨b12, i12, none⟩ u).cell? ⟨b1, i1, none⟩ = some v1 ∧ (w.setCell ⟨b12, i12, none⟩ u).cell? ⟨b2, i2, none⟩ = some v2 ∧ (w.setCell ⟨b12, i12, none⟩ u).cell? ⟨b3, i3, none⟩ = some v3 ∧ (w.setCell ⟨b12, i12, none⟩ u).cell? ⟨b4, i4, none⟩ = some v4 ∧ (w.setCell ⟨b12, i12, none⟩ u).cell? ⟨b5, i5, none⟩ = some v5 ∧ (w.setCell ⟨b12, i12, none⟩ u).cell? ⟨b6, i6, none⟩ = some v6 ∧ (w.setCell ⟨b12, i12, none⟩ u).cell? ⟨b7, i7, none⟩ = some v7 ∧ (w.setCell ⟨b12, i12, none⟩ u).cell? ⟨b8, i8, none⟩ = some v8 ∧ (w.setCell ⟨b12, i12, none⟩ u).cell? ⟨b9, i9, none⟩ = some v9 ∧ (w.setCell ⟨b12, i12, none⟩ u).cell? ⟨b10, i10, none⟩ = some v10 ∧ (w.setCell ⟨b12, i12, none⟩ u).cell? ⟨b11, i11, none⟩ = some v11 :=
  ⟨cell_set u h.1 hn.1, cell_set u h.2.1 hn.2.1, cell_set u h.2.2.1 hn.2.2.1, cell_set u h.2.2.2.1 hn.2.2.2.1, cell_set u h.2.2.2.2.1 hn.2.2.2.2.1, cell_set u h.2.2.2.2.2.1 hn.2.2.2.2.2.1, cell_set u h.2.2.2.2.2.2.1 hn.2.2.2.2.2.2.1, cell_set u h.2.2.2.2.2.2.2.1 hn.2.2.2.2.2.2.2.1, cell_set u h.2.2.2.2.2.2.2.2.1 hn.2.2.2.2.2.2.2.2.1, cell_set u h.2.2.2.2.2.2.2.2.2.1 hn.2.2.2.2.2.2.2.2.2.1, cell_set u h.2.2.2.2.2.2.2.2.2.2.1 hn.2.2.2.2.2.2.2.2.2.2⟩

theorem zero80_32 : (∀ w, (zeroValue 102).run Tryd.prog w = .ok (.agg (arr .u32 80 fun _ => 0)) w) ∧ (Tryd.prog.info? 102).map (·.size) = some 80 := zero_of_info (by kernel_rfl)
theorem ua80_32 : Tryd.prog.underlying 102 = some (.array 80 87) := by kernel_rfl
/-- The cells of a kind. -/
def kind32 : Array Value := #[.int .i64 32, .int .i64 64, .int .i64 7, .int .i64 18, .int .i64 3, .int .i64 17, .int .i64 19, .int .i64 10, .int .i64 2, .int .i64 13, .int .i64 22, .int .i64 6, .int .i64 11, .int .i64 25]
def words32 (d : Nat → Int) : Nat → Int := moreW .u32 (turn2 .u32 7 18 3) (turn2 .u32 17 19 10) (firstW .u32 4 d 16) (64 - 16)

set_option maxRecDepth 100000 in
set_option maxHeartbeats 4000000 in
theorem spread32_any (b o cap : Nat) (d : Nat → Int) (w : World) (hb : Bs w b o 64 d) (hcap : 64 ≤ cap) (hcap' : cap < 9223372036854775808) :
    Calls Tryd.prog 72 #[.agg kind32, .slice (some ⟨b, o, none⟩) 64 cap] w fun r w' => r = .returned (.agg (arr .u32 80 (words32 d))) ∧ Chg w w' := by
  have HBs : Hid (Bs w b o 64 d) := hb
  have HN : Hid (b < w.heap.size) := block_lt_of_cell (hb 0 (by omega))
  have hz := zero80_32.1
  clear hb
  unfold kind32
  go_enter Tryd.func72, Tryd.ntmps72
  go_wp2_with fail
  have z1 : Hid (Ar (((w.alloc (.cells #[.int .i64 32, .int .i64 64, .int .i64 7, .int .i64 18, .int .i64 3, .int .i64 17, .int .i64 19, .int .i64 10, .int .i64 2, .int .i64 13, .int .i64 22, .int .i64 6, .int .i64 11, .int .i64 25] 99)).alloc (.cells (arr .u32 80 fun _ => 0) 102)).alloc (.cells (arr .u32 80 fun _ => 0) 102)) w.heap.size #[.int .i64 32, .int .i64 64, .int .i64 7, .int .i64 18, .int .i64 3, .int .i64 17, .int .i64 19, .int .i64 10, .int .i64 2, .int .i64 13, .int .i64 22, .int .i64 6, .int .i64 11, .int .i64 25]) := ((Ar.new _ _ _).alloc _).alloc _
  have z2 : Hid (Ar (((w.alloc (.cells #[.int .i64 32, .int .i64 64, .int .i64 7, .int .i64 18, .int .i64 3, .int .i64 17, .int .i64 19, .int .i64 10, .int .i64 2, .int .i64 13, .int .i64 22, .int .i64 6, .int .i64 11, .int .i64 25] 99)).alloc (.cells (arr .u32 80 fun _ => 0) 102)).alloc (.cells (arr .u32 80 fun _ => 0) 102)) (w.heap.size + 1) (arr .u32 80 fun _ => 0)) := (Ar.new1 _ _ _ _).alloc _
  have z3 : Hid (Ar (((w.alloc (.cells #[.int .i64 32, .int .i64 64, .int .i64 7, .int .i64 18, .int .i64 3, .int .i64 17, .int .i64 19, .int .i64 10, .int .i64 2, .int .i64 13, .int .i64 22, .int .i64 6, .int .i64 11, .int .i64 25] 99)).alloc (.cells (arr .u32 80 fun _ => 0) 102)).alloc (.cells (arr .u32 80 fun _ => 0) 102)) (w.heap.size + 1 + 1) (arr .u32 80 fun _ => 0)) := Ar.new2 _ _ _ _ _
  go_loopw [14] (fun v wr => ∃ (t : Nat), v = .int .i64 t ∧ t ≤ 16 ∧ Chg w wr ∧ Ar wr w.heap.size #[.int .i64 32, .int .i64 64, .int .i64 7, .int .i64 18, .int .i64 3, .int .i64 17, .int .i64 19, .int .i64 10, .int .i64 2, .int .i64 13, .int .i64 22, .int .i64 6, .int .i64 11, .int .i64 25] ∧ Ar wr (w.heap.size + 1) (arr .u32 80 fun _ => 0) ∧ Ar wr (w.heap.size + 1 + 1) (arr .u32 80 (firstW .u32 4 d t))) (fun v wr => 16 - (intOf v).toNat)
  case atStart => exact ⟨0, rfl, by omega, (((Chg.refl w).alloc _).alloc _).alloc _, z1.out, z2.out, z3.out⟩
  case round =>
    clear z1 z2 z3
    obtain ⟨t, rfl, ht, hch, h1, h2, h3⟩ := hrel
    have HC : Hid (Chg w wr) := hch
    have H1 : Hid (Ar wr w.heap.size #[.int .i64 32, .int .i64 64, .int .i64 7, .int .i64 18, .int .i64 3, .int .i64 17, .int .i64 19, .int .i64 10, .int .i64 2, .int .i64 13, .int .i64 22, .int .i64 6, .int .i64 11, .int .i64 25]) := h1
    have H2 : Hid (Ar wr (w.heap.size + 1) (arr .u32 80 fun _ => 0)) := h2
    have H3 : Hid (Ar wr (w.heap.size + 1 + 1) (arr .u32 80 (firstW .u32 4 d t))) := h3
    clear hch h1 h2 h3
    by_cases ht6 : t < 16
    · obtain ⟨q, hq⟩ : ∃ q : Nat, (t : Int) * 4 = q := ⟨t * 4, by omega⟩
      have hq' : q = 4 * t := by omega
      obtain ⟨p, hp⟩ : ∃ p : Nat, (q : Int) + 4 = p := ⟨q + 4, by omega⟩
      have hqw := wrap_i (x := (q : Int)) (by omega) (by omega)
      have hpw := wrap_i (x := (p : Int)) (by omega) (by omega)
      have hqp : (q : Int) ≤ p := by omega
      have hpc : (p : Int) ≤ cap := by omega
      have hq0 : (0 : Int) ≤ q := by omega
      have hsub : p - q = 4 := by omega
      have htd : decide ((t : Int) < 16) = true := by simp; omega
      have HQ : Hid (q = 4 * t) := hq'
      clear hq'
      go_wp2_with fail
      obtain ⟨w1, hw1⟩ : ∃ w1, w1 = wr := ⟨_, rfl⟩
      subst hw1
      go_loopw [28] (fun v wr => ∃ (k : Nat), v = .int .i64 k ∧ k ≤ 4 ∧ Chg w wr ∧ Ar wr w.heap.size #[.int .i64 32, .int .i64 64, .int .i64 7, .int .i64 18, .int .i64 3, .int .i64 17, .int .i64 19, .int .i64 10, .int .i64 2, .int .i64 13, .int .i64 22, .int .i64 6, .int .i64 11, .int .i64 25] ∧ Ar wr (w.heap.size + 1) (arr .u32 80 fun _ => 0) ∧ Ar wr (w.heap.size + 1 + 1) (arr .u32 80 (upd (firstW .u32 4 d t) t (joinW .u32 (fun k => d (4 * t + k)) k)))) (fun v wr => 4 - (intOf v).toNat)
      case atStart =>
        refine ⟨0, rfl, by omega, HC.out, H1.out, H2.out, ?_⟩
        have e : upd (firstW .u32 4 d t) t (joinW .u32 (fun k => d (4 * t + k)) 0) = firstW .u32 4 d t := by
          funext j
          unfold upd
          split
          · next h => subst h; simp [joinW, firstW]
          · rfl
        rw [e]
        exact H3.out
      case round =>
        clear HC H1 H2 H3
        obtain ⟨k, rfl, hk, hch, h1, h2, h3⟩ := hrel
        have HC : Hid (Chg w wr) := hch
        have H1 : Hid (Ar wr w.heap.size #[.int .i64 32, .int .i64 64, .int .i64 7, .int .i64 18, .int .i64 3, .int .i64 17, .int .i64 19, .int .i64 10, .int .i64 2, .int .i64 13, .int .i64 22, .int .i64 6, .int .i64 11, .int .i64 25]) := h1
        have H2 : Hid (Ar wr (w.heap.size + 1) (arr .u32 80 fun _ => 0)) := h2
        have H3 : Hid (Ar wr (w.heap.size + 1 + 1) (arr .u32 80 (upd (firstW .u32 4 d t) t (joinW .u32 (fun k => d (4 * t + k)) k)))) := h3
        by_cases hk4 : k < 4
        · obtain ⟨x, hx⟩ : ∃ x, x = d (4 * t + k) := ⟨_, rfl⟩
          obtain ⟨y, hy⟩ : ∃ y, y = joinW .u32 (fun k => d (4 * t + k)) k := ⟨_, rfl⟩
          have c0 := cell_at hch (HBs.out (4 * t + k) (by omega))
          rw [← hx, ← Nat.add_assoc, ← HQ.out] at c0
          have c1 := (h3.cell t).trans (arr_get .u32 80 _ (i := t) (by omega))
          rw [upd_same, ← hy] at c1
          have f1 := h3.frozen t
          have HX : Hid (x = d (4 * t + k) ∧ y = joinW .u32 (fun k => d (4 * t + k)) k) := ⟨hx, hy⟩
          have ht80 : (t : Int) < 80 := by omega
          have hkd : decide ((k : Int) < 4) = true := by simp; omega
          clear hx hy hch h1 h2 h3
          go_wp2
          all_goals
            have hn := HN.out
            go_roundw
            case rel =>
              refine ⟨k + 1, by go_num, by omega, HC.out.setCell (by dsimp only; omega) _, H1.out.other (by dsimp only; omega) _, H2.out.other (by dsimp only; omega) _, ?_⟩
              have := H3.out.set t (.int .u32 (Go.bits .or .u32 (IntKind.u32.wrap (y * 256)) (IntKind.u32.wrap x)))
              rw [arr_set, upd_upd] at this
              have e : joinW .u32 (fun k => d (4 * t + k)) (k + 1) = Go.bits .or .u32 (IntKind.u32.wrap (y * 256)) (IntKind.u32.wrap x) := by rw [joinW, HX.out.1, HX.out.2]
              rw [e]
              exact this
            case measure => simp [intOf]; omega
        · have hk4' : k = 4 := by omega
          have hkd : decide ((k : Int) < 4) = false := by simp; omega
          have HK : Hid (k = 4) := hk4'
          clear hk4' hch h1 h2 h3
          go_wp2
          all_goals
            go_roundw
            case rel =>
              refine ⟨t + 1, by go_num, by omega, HC.out, H1.out, H2.out, ?_⟩
              rw [← firstW_next]
              have := H3.out
              rw [HK.out] at this
              exact this
            case measure => simp [intOf]; omega
    · have ht6' : t = 16 := by omega
      have htd : decide ((t : Int) < 16) = false := by simp; omega
      have z0 : Hid (Ar wr (w.heap.size + 1 + 1) (arr .u32 80 (moreW .u32 (turn2 .u32 7 18 3) (turn2 .u32 17 19 10) (firstW .u32 4 d 16) 0))) := by
        have := H3.out
        rw [ht6'] at this
        exact this
      clear ht6'
      go_wp2_with fail
      obtain ⟨w1, hw1⟩ : ∃ w1, w1 = wr := ⟨_, rfl⟩
      subst hw1
      go_loopw [10] (fun v wr => ∃ (k : Nat), v = .int .i64 ((16 + k : Nat) : Int) ∧ k ≤ 64 - 16 ∧ Chg w wr ∧ Ar wr w.heap.size #[.int .i64 32, .int .i64 64, .int .i64 7, .int .i64 18, .int .i64 3, .int .i64 17, .int .i64 19, .int .i64 10, .int .i64 2, .int .i64 13, .int .i64 22, .int .i64 6, .int .i64 11, .int .i64 25] ∧ Ar wr (w.heap.size + 1) (arr .u32 80 fun _ => 0) ∧ Ar wr (w.heap.size + 1 + 1) (arr .u32 80 (moreW .u32 (turn2 .u32 7 18 3) (turn2 .u32 17 19 10) (firstW .u32 4 d 16) k))) (fun v wr => 64 - (intOf v).toNat)
      case atStart => exact ⟨0, rfl, by omega, HC.out, H1.out, H2.out, z0.out⟩
      case round =>
        clear HC H1 H2 H3 z0
        obtain ⟨k, rfl, hk, hch, h1, h2, h3⟩ := hrel
        have HC : Hid (Chg w wr) := hch
        have H1 : Hid (Ar wr w.heap.size #[.int .i64 32, .int .i64 64, .int .i64 7, .int .i64 18, .int .i64 3, .int .i64 17, .int .i64 19, .int .i64 10, .int .i64 2, .int .i64 13, .int .i64 22, .int .i64 6, .int .i64 11, .int .i64 25]) := h1
        have H2 : Hid (Ar wr (w.heap.size + 1) (arr .u32 80 fun _ => 0)) := h2
        have H3 : Hid (Ar wr (w.heap.size + 1 + 1) (arr .u32 80 (moreW .u32 (turn2 .u32 7 18 3) (turn2 .u32 17 19 10) (firstW .u32 4 d 16) k))) := h3
        have b1 : wr.cell? ⟨w.heap.size, 1, none⟩ = some (.int .i64 64) := h1.cell 1
        by_cases hkR : k < 64 - 16
        · obtain ⟨v, hv⟩ : ∃ v, v = moreW .u32 (turn2 .u32 7 18 3) (turn2 .u32 17 19 10) (firstW .u32 4 d 16) k := ⟨_, rfl⟩
          obtain ⟨i, hi⟩ : ∃ i : Nat, i = 16 + k := ⟨_, rfl⟩
          obtain ⟨i2, hi2⟩ : ∃ q : Nat, (i : Int) - 2 = q := ⟨i - 2, by omega⟩
          obtain ⟨i7, hi7⟩ : ∃ q : Nat, (i : Int) - 7 = q := ⟨i - 7, by omega⟩
          obtain ⟨i15, hi15⟩ : ∃ q : Nat, (i : Int) - 15 = q := ⟨i - 15, by omega⟩
          obtain ⟨i16, hi16⟩ : ∃ q : Nat, (i : Int) - 16 = q := ⟨i - 16, by omega⟩
          obtain ⟨x2, hx2⟩ : ∃ x, x = v i2 := ⟨_, rfl⟩
          obtain ⟨x7, hx7⟩ : ∃ x, x = v i7 := ⟨_, rfl⟩
          obtain ⟨x15, hx15⟩ : ∃ x, x = v i15 := ⟨_, rfl⟩
          obtain ⟨x16, hx16⟩ : ∃ x, x = v i16 := ⟨_, rfl⟩
          rw [← hv] at h3 H3
          rw [← hi]
          have HV : Hid (v = moreW .u32 (turn2 .u32 7 18 3) (turn2 .u32 17 19 10) (firstW .u32 4 d 16) k ∧ i = 16 + k) := ⟨hv, hi⟩
          have HX : Hid (x2 = v (i - 2) ∧ x7 = v (i - 7) ∧ x15 = v (i - 15) ∧ x16 = v (i - 16)) := by
            have e2 : i - 2 = i2 := by omega
            have e7 : i - 7 = i7 := by omega
            have e15 : i - 15 = i15 := by omega
            have e16 : i - 16 = i16 := by omega
            exact ⟨by rw [hx2, e2], by rw [hx7, e7], by rw [hx15, e15], by rw [hx16, e16]⟩
          have l0 : (i : Int) < 80 := by omega
          have l2 : (i2 : Int) < 80 := by omega
          have l7 : (i7 : Int) < 80 := by omega
          have l15 : (i15 : Int) < 80 := by omega
          have l16 : (i16 : Int) < 80 := by omega
          have v2 := wrap_i (x := (i2 : Int)) (by omega) (by omega)
          have v7 := wrap_i (x := (i7 : Int)) (by omega) (by omega)
          have v15 := wrap_i (x := (i15 : Int)) (by omega) (by omega)
          have v16 := wrap_i (x := (i16 : Int)) (by omega) (by omega)
          have g2 := (h3.cell i2).trans (arr_get .u32 80 v (by omega))
          have g7 := (h3.cell i7).trans (arr_get .u32 80 v (by omega))
          have g15 := (h3.cell i15).trans (arr_get .u32 80 v (by omega))
          have g16 := (h3.cell i16).trans (arr_get .u32 80 v (by omega))
          rw [← hx2] at g2
          rw [← hx7] at g7
          rw [← hx15] at g15
          rw [← hx16] at g16
          have g0 := (h3.cell i).trans (arr_get .u32 80 v (i := i) (by omega))
          obtain ⟨x0, hx0⟩ : ∃ x, x = v i := ⟨_, rfl⟩
          rw [← hx0] at g0
          have HL : Hid (w.heap.size + 1 + 1 < wr.heap.size) := h3.lt
          have k2 : wr.cell? ⟨w.heap.size, 2, none⟩ = some (.int .i64 7) := h1.cell 2
          have k3 : wr.cell? ⟨w.heap.size, 3, none⟩ = some (.int .i64 18) := h1.cell 3
          have k4 : wr.cell? ⟨w.heap.size, 4, none⟩ = some (.int .i64 3) := h1.cell 4
          have k5 : wr.cell? ⟨w.heap.size, 5, none⟩ = some (.int .i64 17) := h1.cell 5
          have k6 : wr.cell? ⟨w.heap.size, 6, none⟩ = some (.int .i64 19) := h1.cell 6
          have k7 : wr.cell? ⟨w.heap.size, 7, none⟩ = some (.int .i64 10) := h1.cell 7
          have f0 := h3.frozen i
          have b0 : wr.cell? ⟨w.heap.size, 0, none⟩ = some (.int .i64 32) := h1.cell 0
          have hid : decide ((i : Int) < 64) = true := by simp; omega
          clear hx0 hx2 hx7 hx15 hx16 hv hi hch h1 h2 h3
          go_wp2_with fail
          have hs0 : (fun w' : World => w'.cell? ⟨w.heap.size + 1 + 1, i2, none⟩ = some (.int .u32 x2) ∧ w'.cell? ⟨w.heap.size + 1 + 1, i7, none⟩ = some (.int .u32 x7) ∧ w'.cell? ⟨w.heap.size + 1 + 1, i15, none⟩ = some (.int .u32 x15) ∧ w'.cell? ⟨w.heap.size + 1 + 1, i16, none⟩ = some (.int .u32 x16) ∧ w'.cell? ⟨w.heap.size, 0, none⟩ = some (.int .i64 32) ∧ w'.cell? ⟨w.heap.size, 2, none⟩ = some (.int .i64 7) ∧ w'.cell? ⟨w.heap.size, 3, none⟩ = some (.int .i64 18) ∧ w'.cell? ⟨w.heap.size, 4, none⟩ = some (.int .i64 3) ∧ w'.cell? ⟨w.heap.size, 5, none⟩ = some (.int .i64 17) ∧ w'.cell? ⟨w.heap.size, 6, none⟩ = some (.int .i64 19) ∧ w'.cell? ⟨w.heap.size, 7, none⟩ = some (.int .i64 10) ∧ w'.cell? ⟨w.heap.size + 1 + 1, i, none⟩ = some (.int .u32 x0) ∧ w.heap.size + 1 + 1 < w'.heap.size ∧ w'.frozen? ⟨w.heap.size + 1 + 1, i, none⟩ = false) wr.drew := ⟨g2, g7, g15, g16, b0, k2, k3, k4, k5, k6, k7, g0, HL.out, f0⟩
          dsimp only at hs0
          have HE : Hid (i2 < i ∧ i7 < i ∧ i15 < i ∧ i16 < i) := ⟨by omega, by omega, by omega, by omega⟩
          go_region_held3 (fun w' => w'.cell? ⟨w.heap.size + 1 + 1, i2, none⟩ = some (.int .u32 x2) ∧ w'.cell? ⟨w.heap.size + 1 + 1, i7, none⟩ = some (.int .u32 x7) ∧ w'.cell? ⟨w.heap.size + 1 + 1, i15, none⟩ = some (.int .u32 x15) ∧ w'.cell? ⟨w.heap.size + 1 + 1, i16, none⟩ = some (.int .u32 x16) ∧ w'.cell? ⟨w.heap.size, 0, none⟩ = some (.int .i64 32) ∧ w'.cell? ⟨w.heap.size, 2, none⟩ = some (.int .i64 7) ∧ w'.cell? ⟨w.heap.size, 3, none⟩ = some (.int .i64 18) ∧ w'.cell? ⟨w.heap.size, 4, none⟩ = some (.int .i64 3) ∧ w'.cell? ⟨w.heap.size, 5, none⟩ = some (.int .i64 17) ∧ w'.cell? ⟨w.heap.size, 6, none⟩ = some (.int .i64 19) ∧ w'.cell? ⟨w.heap.size, 7, none⟩ = some (.int .i64 10))
            (first | exact held12_11 hsA | exact held12_11 hsB | exact held12_11 hs0 | exact held12_set _ hsA ⟨fun _ => Nat.ne_of_lt HE.out.1, fun _ => Nat.ne_of_lt HE.out.2.1, fun _ => Nat.ne_of_lt HE.out.2.2.1, fun _ => Nat.ne_of_lt HE.out.2.2.2, fun e => absurd e (by omega), fun e => absurd e (by omega), fun e => absurd e (by omega), fun e => absurd e (by omega), fun e => absurd e (by omega), fun e => absurd e (by omega), fun e => absurd e (by omega)⟩ | exact held12_set _ hsB ⟨fun _ => Nat.ne_of_lt HE.out.1, fun _ => Nat.ne_of_lt HE.out.2.1, fun _ => Nat.ne_of_lt HE.out.2.2.1, fun _ => Nat.ne_of_lt HE.out.2.2.2, fun e => absurd e (by omega), fun e => absurd e (by omega), fun e => absurd e (by omega), fun e => absurd e (by omega), fun e => absurd e (by omega), fun e => absurd e (by omega), fun e => absurd e (by omega)⟩)
            (first
            | (go_at_call_of 77 (Value.int .u32 x2); (refine (turnTwice32_any x2 17 19 10 _ (by decide) (by decide) (by decide)).mono ?_; rintro e wA ⟨rfl, hcA⟩; have hsA := held12 hcA (by first | exact hsB | exact hs0)))
            | (go_at_call_of 77 (Value.int .u32 x15); (refine (turnTwice32_any x15 7 18 3 _ (by decide) (by decide) (by decide)).mono ?_; rintro e wB ⟨rfl, hcB⟩; have hsB := held12 hcB (by first | exact hsA | exact hs0))))
          all_goals
            have hcw : Chg wr wB := (Chg.refl wr).drew.trans (hcA.trans hcB)
            have HCA : Hid (Chg wr wB) := hcw
            clear hcA hcB hsA hsB hs0 hcw
            go_wp2
            obtain ⟨hv, hi⟩ := HV.out
            obtain ⟨e2, e7, e15, e16⟩ := HX.out
            go_roundw
            case rel =>
              refine ⟨k + 1, by rw [hi]; go_num, by omega, (HC.out.trans HCA.out).setCell (by dsimp only; omega) _, (H1.out.chg HCA.out).other (by dsimp only; omega) _, (H2.out.chg HCA.out).other (by dsimp only; omega) _, ?_⟩
              have h := (H3.out.chg HCA.out).set i (.int .u32 (nextW .u32 (turn2 .u32 7 18 3) (turn2 .u32 17 19 10) v i))
              rw [arr_set] at h
              rw [moreW, ← hv, ← hi]
              rw [nextW, ← e2, ← e7, ← e15, ← e16] at h ⊢
              simp only [IntKind.wrap_u32] at h ⊢
              exact h
            case measure => simp [intOf]; omega
        · have hkR' : k = 64 - 16 := by omega
          subst hkR'
          obtain ⟨t3, hg3⟩ := h3
          obtain ⟨t2, hg2⟩ := h2
          have hsz : (Tryd.prog.info? 102).map (·.size) = some (arr .u32 80 (moreW .u32 (turn2 .u32 7 18 3) (turn2 .u32 17 19 10) (firstW .u32 4 d 16) (64 - 16))).size := by rw [arr_size]; exact zero80_32.2
          have hlen : (arr .u32 80 fun _ => 0).size = (arr .u32 80 (moreW .u32 (turn2 .u32 7 18 3) (turn2 .u32 17 19 10) (firstW .u32 4 d 16) (64 - 16))).size := by rw [arr_size, arr_size]
          have hone := arr_one .u32 80 (moreW .u32 (turn2 .u32 7 18 3) (turn2 .u32 17 19 10) (firstW .u32 4 d 16) (64 - 16))
          clear hch h1
          go_wp2_with (first | refine wpList_load_row rfl 102 _ rfl _ rfl _ _ _ _ hg3 ua80_32 rfl hsz ?_ | refine wpList_store_row rfl 102 _ _ rfl _ _ rfl rfl _ _ hg2 hsz hlen hone ?_)
          refine bp_c (n := 80) (c := arr .u32 80 (words32 d)) Tryd.results72 rfl rfl ?_ ua80_32 zero80_32.2 (arr_size _ _ _) ⟨rfl, ?_⟩
          · exact H2.out.row _
          · exact HC.out.setRow (by omega) _
theorem zero80_64 : (∀ w, (zeroValue 92).run Tryd.prog w = .ok (.agg (arr .u64 80 fun _ => 0)) w) ∧ (Tryd.prog.info? 92).map (·.size) = some 80 := zero_of_info (by kernel_rfl)
theorem ua80_64 : Tryd.prog.underlying 92 = some (.array 80 55) := by kernel_rfl
/-- The cells of a kind. -/
def kind64 : Array Value := #[.int .i64 64, .int .i64 80, .int .i64 1, .int .i64 8, .int .i64 7, .int .i64 19, .int .i64 61, .int .i64 6, .int .i64 28, .int .i64 34, .int .i64 39, .int .i64 14, .int .i64 18, .int .i64 41]
def words64 (d : Nat → Int) : Nat → Int := moreW .u64 (turn2 .u64 1 8 7) (turn2 .u64 19 61 6) (firstW .u64 8 d 16) (80 - 16)

set_option maxRecDepth 100000 in
set_option maxHeartbeats 4000000 in
theorem spread64_any (b o cap : Nat) (d : Nat → Int) (w : World) (hb : Bs w b o 128 d) (hcap : 128 ≤ cap) (hcap' : cap < 9223372036854775808) :
    Calls Tryd.prog 74 #[.agg kind64, .slice (some ⟨b, o, none⟩) 128 cap] w fun r w' => r = .returned (.agg (arr .u64 80 (words64 d))) ∧ Chg w w' := by
  have HBs : Hid (Bs w b o 128 d) := hb
  have HN : Hid (b < w.heap.size) := block_lt_of_cell (hb 0 (by omega))
  have hz := zero80_64.1
  clear hb
  unfold kind64
  go_enter Tryd.func74, Tryd.ntmps74
  go_wp2_with fail
  have z1 : Hid (Ar (((w.alloc (.cells #[.int .i64 64, .int .i64 80, .int .i64 1, .int .i64 8, .int .i64 7, .int .i64 19, .int .i64 61, .int .i64 6, .int .i64 28, .int .i64 34, .int .i64 39, .int .i64 14, .int .i64 18, .int .i64 41] 99)).alloc (.cells (arr .u64 80 fun _ => 0) 92)).alloc (.cells (arr .u64 80 fun _ => 0) 92)) w.heap.size #[.int .i64 64, .int .i64 80, .int .i64 1, .int .i64 8, .int .i64 7, .int .i64 19, .int .i64 61, .int .i64 6, .int .i64 28, .int .i64 34, .int .i64 39, .int .i64 14, .int .i64 18, .int .i64 41]) := ((Ar.new _ _ _).alloc _).alloc _
  have z2 : Hid (Ar (((w.alloc (.cells #[.int .i64 64, .int .i64 80, .int .i64 1, .int .i64 8, .int .i64 7, .int .i64 19, .int .i64 61, .int .i64 6, .int .i64 28, .int .i64 34, .int .i64 39, .int .i64 14, .int .i64 18, .int .i64 41] 99)).alloc (.cells (arr .u64 80 fun _ => 0) 92)).alloc (.cells (arr .u64 80 fun _ => 0) 92)) (w.heap.size + 1) (arr .u64 80 fun _ => 0)) := (Ar.new1 _ _ _ _).alloc _
  have z3 : Hid (Ar (((w.alloc (.cells #[.int .i64 64, .int .i64 80, .int .i64 1, .int .i64 8, .int .i64 7, .int .i64 19, .int .i64 61, .int .i64 6, .int .i64 28, .int .i64 34, .int .i64 39, .int .i64 14, .int .i64 18, .int .i64 41] 99)).alloc (.cells (arr .u64 80 fun _ => 0) 92)).alloc (.cells (arr .u64 80 fun _ => 0) 92)) (w.heap.size + 1 + 1) (arr .u64 80 fun _ => 0)) := Ar.new2 _ _ _ _ _
  go_loopw [14] (fun v wr => ∃ (t : Nat), v = .int .i64 t ∧ t ≤ 16 ∧ Chg w wr ∧ Ar wr w.heap.size #[.int .i64 64, .int .i64 80, .int .i64 1, .int .i64 8, .int .i64 7, .int .i64 19, .int .i64 61, .int .i64 6, .int .i64 28, .int .i64 34, .int .i64 39, .int .i64 14, .int .i64 18, .int .i64 41] ∧ Ar wr (w.heap.size + 1) (arr .u64 80 fun _ => 0) ∧ Ar wr (w.heap.size + 1 + 1) (arr .u64 80 (firstW .u64 8 d t))) (fun v wr => 16 - (intOf v).toNat)
  case atStart => exact ⟨0, rfl, by omega, (((Chg.refl w).alloc _).alloc _).alloc _, z1.out, z2.out, z3.out⟩
  case round =>
    clear z1 z2 z3
    obtain ⟨t, rfl, ht, hch, h1, h2, h3⟩ := hrel
    have HC : Hid (Chg w wr) := hch
    have H1 : Hid (Ar wr w.heap.size #[.int .i64 64, .int .i64 80, .int .i64 1, .int .i64 8, .int .i64 7, .int .i64 19, .int .i64 61, .int .i64 6, .int .i64 28, .int .i64 34, .int .i64 39, .int .i64 14, .int .i64 18, .int .i64 41]) := h1
    have H2 : Hid (Ar wr (w.heap.size + 1) (arr .u64 80 fun _ => 0)) := h2
    have H3 : Hid (Ar wr (w.heap.size + 1 + 1) (arr .u64 80 (firstW .u64 8 d t))) := h3
    clear hch h1 h2 h3
    by_cases ht6 : t < 16
    · obtain ⟨q, hq⟩ : ∃ q : Nat, (t : Int) * 8 = q := ⟨t * 8, by omega⟩
      have hq' : q = 8 * t := by omega
      obtain ⟨p, hp⟩ : ∃ p : Nat, (q : Int) + 8 = p := ⟨q + 8, by omega⟩
      have hqw := wrap_i (x := (q : Int)) (by omega) (by omega)
      have hpw := wrap_i (x := (p : Int)) (by omega) (by omega)
      have hqp : (q : Int) ≤ p := by omega
      have hpc : (p : Int) ≤ cap := by omega
      have hq0 : (0 : Int) ≤ q := by omega
      have hsub : p - q = 8 := by omega
      have htd : decide ((t : Int) < 16) = true := by simp; omega
      have HQ : Hid (q = 8 * t) := hq'
      clear hq'
      go_wp2_with fail
      obtain ⟨w1, hw1⟩ : ∃ w1, w1 = wr := ⟨_, rfl⟩
      subst hw1
      go_loopw [28] (fun v wr => ∃ (k : Nat), v = .int .i64 k ∧ k ≤ 8 ∧ Chg w wr ∧ Ar wr w.heap.size #[.int .i64 64, .int .i64 80, .int .i64 1, .int .i64 8, .int .i64 7, .int .i64 19, .int .i64 61, .int .i64 6, .int .i64 28, .int .i64 34, .int .i64 39, .int .i64 14, .int .i64 18, .int .i64 41] ∧ Ar wr (w.heap.size + 1) (arr .u64 80 fun _ => 0) ∧ Ar wr (w.heap.size + 1 + 1) (arr .u64 80 (upd (firstW .u64 8 d t) t (joinW .u64 (fun k => d (8 * t + k)) k)))) (fun v wr => 8 - (intOf v).toNat)
      case atStart =>
        refine ⟨0, rfl, by omega, HC.out, H1.out, H2.out, ?_⟩
        have e : upd (firstW .u64 8 d t) t (joinW .u64 (fun k => d (8 * t + k)) 0) = firstW .u64 8 d t := by
          funext j
          unfold upd
          split
          · next h => subst h; simp [joinW, firstW]
          · rfl
        rw [e]
        exact H3.out
      case round =>
        clear HC H1 H2 H3
        obtain ⟨k, rfl, hk, hch, h1, h2, h3⟩ := hrel
        have HC : Hid (Chg w wr) := hch
        have H1 : Hid (Ar wr w.heap.size #[.int .i64 64, .int .i64 80, .int .i64 1, .int .i64 8, .int .i64 7, .int .i64 19, .int .i64 61, .int .i64 6, .int .i64 28, .int .i64 34, .int .i64 39, .int .i64 14, .int .i64 18, .int .i64 41]) := h1
        have H2 : Hid (Ar wr (w.heap.size + 1) (arr .u64 80 fun _ => 0)) := h2
        have H3 : Hid (Ar wr (w.heap.size + 1 + 1) (arr .u64 80 (upd (firstW .u64 8 d t) t (joinW .u64 (fun k => d (8 * t + k)) k)))) := h3
        by_cases hk4 : k < 8
        · obtain ⟨x, hx⟩ : ∃ x, x = d (8 * t + k) := ⟨_, rfl⟩
          obtain ⟨y, hy⟩ : ∃ y, y = joinW .u64 (fun k => d (8 * t + k)) k := ⟨_, rfl⟩
          have c0 := cell_at hch (HBs.out (8 * t + k) (by omega))
          rw [← hx, ← Nat.add_assoc, ← HQ.out] at c0
          have c1 := (h3.cell t).trans (arr_get .u64 80 _ (i := t) (by omega))
          rw [upd_same, ← hy] at c1
          have f1 := h3.frozen t
          have HX : Hid (x = d (8 * t + k) ∧ y = joinW .u64 (fun k => d (8 * t + k)) k) := ⟨hx, hy⟩
          have ht80 : (t : Int) < 80 := by omega
          have hkd : decide ((k : Int) < 8) = true := by simp; omega
          clear hx hy hch h1 h2 h3
          go_wp2
          all_goals
            have hn := HN.out
            go_roundw
            case rel =>
              refine ⟨k + 1, by go_num, by omega, HC.out.setCell (by dsimp only; omega) _, H1.out.other (by dsimp only; omega) _, H2.out.other (by dsimp only; omega) _, ?_⟩
              have := H3.out.set t (.int .u64 (Go.bits .or .u64 (IntKind.u64.wrap (y * 256)) (IntKind.u64.wrap x)))
              rw [arr_set, upd_upd] at this
              have e : joinW .u64 (fun k => d (8 * t + k)) (k + 1) = Go.bits .or .u64 (IntKind.u64.wrap (y * 256)) (IntKind.u64.wrap x) := by rw [joinW, HX.out.1, HX.out.2]
              rw [e]
              exact this
            case measure => simp [intOf]; omega
        · have hk4' : k = 8 := by omega
          have hkd : decide ((k : Int) < 8) = false := by simp; omega
          have HK : Hid (k = 8) := hk4'
          clear hk4' hch h1 h2 h3
          go_wp2
          all_goals
            go_roundw
            case rel =>
              refine ⟨t + 1, by go_num, by omega, HC.out, H1.out, H2.out, ?_⟩
              rw [← firstW_next]
              have := H3.out
              rw [HK.out] at this
              exact this
            case measure => simp [intOf]; omega
    · have ht6' : t = 16 := by omega
      have htd : decide ((t : Int) < 16) = false := by simp; omega
      have z0 : Hid (Ar wr (w.heap.size + 1 + 1) (arr .u64 80 (moreW .u64 (turn2 .u64 1 8 7) (turn2 .u64 19 61 6) (firstW .u64 8 d 16) 0))) := by
        have := H3.out
        rw [ht6'] at this
        exact this
      clear ht6'
      go_wp2_with fail
      obtain ⟨w1, hw1⟩ : ∃ w1, w1 = wr := ⟨_, rfl⟩
      subst hw1
      go_loopw [10] (fun v wr => ∃ (k : Nat), v = .int .i64 ((16 + k : Nat) : Int) ∧ k ≤ 80 - 16 ∧ Chg w wr ∧ Ar wr w.heap.size #[.int .i64 64, .int .i64 80, .int .i64 1, .int .i64 8, .int .i64 7, .int .i64 19, .int .i64 61, .int .i64 6, .int .i64 28, .int .i64 34, .int .i64 39, .int .i64 14, .int .i64 18, .int .i64 41] ∧ Ar wr (w.heap.size + 1) (arr .u64 80 fun _ => 0) ∧ Ar wr (w.heap.size + 1 + 1) (arr .u64 80 (moreW .u64 (turn2 .u64 1 8 7) (turn2 .u64 19 61 6) (firstW .u64 8 d 16) k))) (fun v wr => 80 - (intOf v).toNat)
      case atStart => exact ⟨0, rfl, by omega, HC.out, H1.out, H2.out, z0.out⟩
      case round =>
        clear HC H1 H2 H3 z0
        obtain ⟨k, rfl, hk, hch, h1, h2, h3⟩ := hrel
        have HC : Hid (Chg w wr) := hch
        have H1 : Hid (Ar wr w.heap.size #[.int .i64 64, .int .i64 80, .int .i64 1, .int .i64 8, .int .i64 7, .int .i64 19, .int .i64 61, .int .i64 6, .int .i64 28, .int .i64 34, .int .i64 39, .int .i64 14, .int .i64 18, .int .i64 41]) := h1
        have H2 : Hid (Ar wr (w.heap.size + 1) (arr .u64 80 fun _ => 0)) := h2
        have H3 : Hid (Ar wr (w.heap.size + 1 + 1) (arr .u64 80 (moreW .u64 (turn2 .u64 1 8 7) (turn2 .u64 19 61 6) (firstW .u64 8 d 16) k))) := h3
        have b1 : wr.cell? ⟨w.heap.size, 1, none⟩ = some (.int .i64 80) := h1.cell 1
        by_cases hkR : k < 80 - 16
        · obtain ⟨v, hv⟩ : ∃ v, v = moreW .u64 (turn2 .u64 1 8 7) (turn2 .u64 19 61 6) (firstW .u64 8 d 16) k := ⟨_, rfl⟩
          obtain ⟨i, hi⟩ : ∃ i : Nat, i = 16 + k := ⟨_, rfl⟩
          obtain ⟨i2, hi2⟩ : ∃ q : Nat, (i : Int) - 2 = q := ⟨i - 2, by omega⟩
          obtain ⟨i7, hi7⟩ : ∃ q : Nat, (i : Int) - 7 = q := ⟨i - 7, by omega⟩
          obtain ⟨i15, hi15⟩ : ∃ q : Nat, (i : Int) - 15 = q := ⟨i - 15, by omega⟩
          obtain ⟨i16, hi16⟩ : ∃ q : Nat, (i : Int) - 16 = q := ⟨i - 16, by omega⟩
          obtain ⟨x2, hx2⟩ : ∃ x, x = v i2 := ⟨_, rfl⟩
          obtain ⟨x7, hx7⟩ : ∃ x, x = v i7 := ⟨_, rfl⟩
          obtain ⟨x15, hx15⟩ : ∃ x, x = v i15 := ⟨_, rfl⟩
          obtain ⟨x16, hx16⟩ : ∃ x, x = v i16 := ⟨_, rfl⟩
          rw [← hv] at h3 H3
          rw [← hi]
          have HV : Hid (v = moreW .u64 (turn2 .u64 1 8 7) (turn2 .u64 19 61 6) (firstW .u64 8 d 16) k ∧ i = 16 + k) := ⟨hv, hi⟩
          have HX : Hid (x2 = v (i - 2) ∧ x7 = v (i - 7) ∧ x15 = v (i - 15) ∧ x16 = v (i - 16)) := by
            have e2 : i - 2 = i2 := by omega
            have e7 : i - 7 = i7 := by omega
            have e15 : i - 15 = i15 := by omega
            have e16 : i - 16 = i16 := by omega
            exact ⟨by rw [hx2, e2], by rw [hx7, e7], by rw [hx15, e15], by rw [hx16, e16]⟩
          have l0 : (i : Int) < 80 := by omega
          have l2 : (i2 : Int) < 80 := by omega
          have l7 : (i7 : Int) < 80 := by omega
          have l15 : (i15 : Int) < 80 := by omega
          have l16 : (i16 : Int) < 80 := by omega
          have v2 := wrap_i (x := (i2 : Int)) (by omega) (by omega)
          have v7 := wrap_i (x := (i7 : Int)) (by omega) (by omega)
          have v15 := wrap_i (x := (i15 : Int)) (by omega) (by omega)
          have v16 := wrap_i (x := (i16 : Int)) (by omega) (by omega)
          have g2 := (h3.cell i2).trans (arr_get .u64 80 v (by omega))
          have g7 := (h3.cell i7).trans (arr_get .u64 80 v (by omega))
          have g15 := (h3.cell i15).trans (arr_get .u64 80 v (by omega))
          have g16 := (h3.cell i16).trans (arr_get .u64 80 v (by omega))
          rw [← hx2] at g2
          rw [← hx7] at g7
          rw [← hx15] at g15
          rw [← hx16] at g16
          have g0 := (h3.cell i).trans (arr_get .u64 80 v (i := i) (by omega))
          obtain ⟨x0, hx0⟩ : ∃ x, x = v i := ⟨_, rfl⟩
          rw [← hx0] at g0
          have HL : Hid (w.heap.size + 1 + 1 < wr.heap.size) := h3.lt
          have k2 : wr.cell? ⟨w.heap.size, 2, none⟩ = some (.int .i64 1) := h1.cell 2
          have k3 : wr.cell? ⟨w.heap.size, 3, none⟩ = some (.int .i64 8) := h1.cell 3
          have k4 : wr.cell? ⟨w.heap.size, 4, none⟩ = some (.int .i64 7) := h1.cell 4
          have k5 : wr.cell? ⟨w.heap.size, 5, none⟩ = some (.int .i64 19) := h1.cell 5
          have k6 : wr.cell? ⟨w.heap.size, 6, none⟩ = some (.int .i64 61) := h1.cell 6
          have k7 : wr.cell? ⟨w.heap.size, 7, none⟩ = some (.int .i64 6) := h1.cell 7
          have f0 := h3.frozen i
          have b0 : wr.cell? ⟨w.heap.size, 0, none⟩ = some (.int .i64 64) := h1.cell 0
          have hid : decide ((i : Int) < 80) = true := by simp; omega
          clear hx0 hx2 hx7 hx15 hx16 hv hi hch h1 h2 h3
          go_wp2_with fail
          have hs0 : (fun w' : World => w'.cell? ⟨w.heap.size + 1 + 1, i2, none⟩ = some (.int .u64 x2) ∧ w'.cell? ⟨w.heap.size + 1 + 1, i7, none⟩ = some (.int .u64 x7) ∧ w'.cell? ⟨w.heap.size + 1 + 1, i15, none⟩ = some (.int .u64 x15) ∧ w'.cell? ⟨w.heap.size + 1 + 1, i16, none⟩ = some (.int .u64 x16) ∧ w'.cell? ⟨w.heap.size, 0, none⟩ = some (.int .i64 64) ∧ w'.cell? ⟨w.heap.size, 2, none⟩ = some (.int .i64 1) ∧ w'.cell? ⟨w.heap.size, 3, none⟩ = some (.int .i64 8) ∧ w'.cell? ⟨w.heap.size, 4, none⟩ = some (.int .i64 7) ∧ w'.cell? ⟨w.heap.size, 5, none⟩ = some (.int .i64 19) ∧ w'.cell? ⟨w.heap.size, 6, none⟩ = some (.int .i64 61) ∧ w'.cell? ⟨w.heap.size, 7, none⟩ = some (.int .i64 6) ∧ w'.cell? ⟨w.heap.size + 1 + 1, i, none⟩ = some (.int .u64 x0) ∧ w.heap.size + 1 + 1 < w'.heap.size ∧ w'.frozen? ⟨w.heap.size + 1 + 1, i, none⟩ = false) wr.drew := ⟨g2, g7, g15, g16, b0, k2, k3, k4, k5, k6, k7, g0, HL.out, f0⟩
          dsimp only at hs0
          have HE : Hid (i2 < i ∧ i7 < i ∧ i15 < i ∧ i16 < i) := ⟨by omega, by omega, by omega, by omega⟩
          go_region_held3 (fun w' => w'.cell? ⟨w.heap.size + 1 + 1, i2, none⟩ = some (.int .u64 x2) ∧ w'.cell? ⟨w.heap.size + 1 + 1, i7, none⟩ = some (.int .u64 x7) ∧ w'.cell? ⟨w.heap.size + 1 + 1, i15, none⟩ = some (.int .u64 x15) ∧ w'.cell? ⟨w.heap.size + 1 + 1, i16, none⟩ = some (.int .u64 x16) ∧ w'.cell? ⟨w.heap.size, 0, none⟩ = some (.int .i64 64) ∧ w'.cell? ⟨w.heap.size, 2, none⟩ = some (.int .i64 1) ∧ w'.cell? ⟨w.heap.size, 3, none⟩ = some (.int .i64 8) ∧ w'.cell? ⟨w.heap.size, 4, none⟩ = some (.int .i64 7) ∧ w'.cell? ⟨w.heap.size, 5, none⟩ = some (.int .i64 19) ∧ w'.cell? ⟨w.heap.size, 6, none⟩ = some (.int .i64 61) ∧ w'.cell? ⟨w.heap.size, 7, none⟩ = some (.int .i64 6))
            (first | exact held12_11 hsA | exact held12_11 hsB | exact held12_11 hs0 | exact held12_set _ hsA ⟨fun _ => Nat.ne_of_lt HE.out.1, fun _ => Nat.ne_of_lt HE.out.2.1, fun _ => Nat.ne_of_lt HE.out.2.2.1, fun _ => Nat.ne_of_lt HE.out.2.2.2, fun e => absurd e (by omega), fun e => absurd e (by omega), fun e => absurd e (by omega), fun e => absurd e (by omega), fun e => absurd e (by omega), fun e => absurd e (by omega), fun e => absurd e (by omega)⟩ | exact held12_set _ hsB ⟨fun _ => Nat.ne_of_lt HE.out.1, fun _ => Nat.ne_of_lt HE.out.2.1, fun _ => Nat.ne_of_lt HE.out.2.2.1, fun _ => Nat.ne_of_lt HE.out.2.2.2, fun e => absurd e (by omega), fun e => absurd e (by omega), fun e => absurd e (by omega), fun e => absurd e (by omega), fun e => absurd e (by omega), fun e => absurd e (by omega), fun e => absurd e (by omega)⟩)
            (first
            | (go_at_call_of 79 (Value.int .u64 x2); (refine (turnTwice64_any x2 19 61 6 _ (by decide) (by decide) (by decide)).mono ?_; rintro e wA ⟨rfl, hcA⟩; have hsA := held12 hcA (by first | exact hsB | exact hs0)))
            | (go_at_call_of 79 (Value.int .u64 x15); (refine (turnTwice64_any x15 1 8 7 _ (by decide) (by decide) (by decide)).mono ?_; rintro e wB ⟨rfl, hcB⟩; have hsB := held12 hcB (by first | exact hsA | exact hs0))))
          all_goals
            have hcw : Chg wr wB := (Chg.refl wr).drew.trans (hcA.trans hcB)
            have HCA : Hid (Chg wr wB) := hcw
            clear hcA hcB hsA hsB hs0 hcw
            go_wp2
            obtain ⟨hv, hi⟩ := HV.out
            obtain ⟨e2, e7, e15, e16⟩ := HX.out
            go_roundw
            case rel =>
              refine ⟨k + 1, by rw [hi]; go_num, by omega, (HC.out.trans HCA.out).setCell (by dsimp only; omega) _, (H1.out.chg HCA.out).other (by dsimp only; omega) _, (H2.out.chg HCA.out).other (by dsimp only; omega) _, ?_⟩
              have h := (H3.out.chg HCA.out).set i (.int .u64 (nextW .u64 (turn2 .u64 1 8 7) (turn2 .u64 19 61 6) v i))
              rw [arr_set] at h
              rw [moreW, ← hv, ← hi]
              rw [nextW, ← e2, ← e7, ← e15, ← e16] at h ⊢
              simp only [IntKind.wrap_u64] at h ⊢
              exact h
            case measure => simp [intOf]; omega
        · have hkR' : k = 80 - 16 := by omega
          subst hkR'
          obtain ⟨t3, hg3⟩ := h3
          obtain ⟨t2, hg2⟩ := h2
          have hsz : (Tryd.prog.info? 92).map (·.size) = some (arr .u64 80 (moreW .u64 (turn2 .u64 1 8 7) (turn2 .u64 19 61 6) (firstW .u64 8 d 16) (80 - 16))).size := by rw [arr_size]; exact zero80_64.2
          have hlen : (arr .u64 80 fun _ => 0).size = (arr .u64 80 (moreW .u64 (turn2 .u64 1 8 7) (turn2 .u64 19 61 6) (firstW .u64 8 d 16) (80 - 16))).size := by rw [arr_size, arr_size]
          have hone := arr_one .u64 80 (moreW .u64 (turn2 .u64 1 8 7) (turn2 .u64 19 61 6) (firstW .u64 8 d 16) (80 - 16))
          clear hch h1
          go_wp2_with (first | refine wpList_load_row rfl 92 _ rfl _ rfl _ _ _ _ hg3 ua80_64 rfl hsz ?_ | refine wpList_store_row rfl 92 _ _ rfl _ _ rfl rfl _ _ hg2 hsz hlen hone ?_)
          refine bp_c (n := 80) (c := arr .u64 80 (words64 d)) Tryd.results74 rfl rfl ?_ ua80_64 zero80_64.2 (arr_size _ _ _) ⟨rfl, ?_⟩
          · exact H2.out.row _
          · exact HC.out.setRow (by omega) _
end Go.Proofs.YtijpdhjlafihkaaDoor
