/-
  A call to both pipes: Alter.
-/
import Derived.Test.YtiegofelidnnlaaDo
import Derived.Test.YtiegofelidnnlaaAlterOk
import Derived.Test.YtiegofelidnnlaaRefAlter
import Derived.Deep.RegionHeld3
namespace Go.Proofs.Ytiegofelidnnlaa
open Go.RowKit
set_option linter.unusedVariables false

/-- Alter, of the program's pipe: the answer, and what it leaves. -/
theorem alter_all (p : Nat) (room : Int) (vf va : Value) (f a : List Int) (cl br : Bool) (t n : Int) (so : Option Addr) (sn sc : Nat) (ys : List Int) (w : World) (h : PipeA w p room vf va f a cl br) (hs : Rd w (.slice so sn sc) ys)
    (hl : f.length ≤ 70368744177664) (hy : ys.length ≤ 70368744177664) (ht : t ≤ 9223372036854775807) (hn : n ≤ 9223372036854775807) (E : Int) (f' : List Int)
    (hE : (E = 11 ∧ f' = f ∧ (t < 0 ∨ n < 0 ∨ n > f.length - t)) ∨ (0 ≤ t ∧ 0 ≤ n ∧ n ≤ f.length - t ∧ ((br = true ∧ E = 0 ∧ f' = f) ∨ (br = false ∧ ((E = 2 ∧ f' = f ∧ f.length - n + ys.length > 65536) ∨ (E = 0 ∧ f' = (f.take t.toNat ++ ys) ++ f.drop (t.toNat + n.toNat) ∧ f.length - n + ys.length ≤ 65536)))))) :
    Calls Try.prog 33 #[.pointer (some ⟨p, 0, none⟩), .int .i64 t, .int .i64 n, .slice so sn sc] w fun e w' => e = .returned (.int .i64 E) ∧ ∃ vf', PipeA w' p room vf' va f' a cl br ∧ Chg (One p) w w' ∧ ∀ k, vf'.ownBlock = some k → vf.ownBlock = some k ∨ w.heap.size ≤ k := by
  have hsn : sn = ys.length := by obtain ⟨_, _, _, e, h1, _⟩ := hs; cases e; exact h1
  rcases hE with ⟨rfl, rfl, hbad⟩ | ⟨h1, h2, h3, ⟨rfl, rfl, rfl⟩ | ⟨rfl, ⟨rfl, rfl, h4⟩ | ⟨rfl, rfl, h4⟩⟩⟩
  · refine (alter_range p room vf va f' a cl br t n _ w h (by omega) ht hn hbad).mono ?_
    rintro e w' ⟨rfl, rfl⟩
    exact ⟨rfl, vf, h, Chg.refl _ _, fun k e => .inl e⟩
  · refine (alter_broken p room vf va f' a cl t n _ w h (by omega) h1 h2 h3).mono ?_
    rintro e w' ⟨rfl, rfl⟩
    exact ⟨rfl, vf, h, Chg.refl _ _, fun k e => .inl e⟩
  · refine (alter_many p room vf va f' a cl t n so sn sc w h (by omega) (by omega) h1 h2 h3 (by omega)).mono ?_
    rintro e w' ⟨rfl, rfl⟩
    exact ⟨rfl, vf, h, Chg.refl _ _, fun k e => .inl e⟩
  · obtain ⟨t, rfl⟩ := Int.eq_ofNat_of_zero_le h1
    obtain ⟨n, rfl⟩ := Int.eq_ofNat_of_zero_le h2
    simp only [Int.toNat_natCast]
    exact alter_ok p room vf va f a cl t n so sn sc ys w h hl hs (by omega) (by omega)

/-- Alter, of the document's. -/
theorem refAlter_all (p : Nat) (room : Int) (vf va : Value) (f a : List Int) (cl br : Bool) (t n : Int) (so : Option Addr) (sn sc : Nat) (ys : List Int) (w : World) (h : PipeB w p room vf va f a cl br) (hs : Rd w (.slice so sn sc) ys)
    (hl : f.length ≤ 70368744177664) (hy : ys.length ≤ 70368744177664) (ht : t ≤ 9223372036854775807) (hn : n ≤ 9223372036854775807) (E : Int) (f' : List Int)
    (hE : (E = 11 ∧ f' = f ∧ (t < 0 ∨ n < 0 ∨ n > f.length - t)) ∨ (0 ≤ t ∧ 0 ≤ n ∧ n ≤ f.length - t ∧ ((br = true ∧ E = 0 ∧ f' = f) ∨ (br = false ∧ ((E = 2 ∧ f' = f ∧ f.length - n + ys.length > 65536) ∨ (E = 0 ∧ f' = (f.take t.toNat ++ ys) ++ f.drop (t.toNat + n.toNat) ∧ f.length - n + ys.length ≤ 65536)))))) :
    Calls Try.prog 34 #[.pointer (some ⟨p, 0, none⟩), .int .i64 t, .int .i64 n, .slice so sn sc] w fun e w' => e = .returned (.int .i64 E) ∧ ∃ vf', PipeB w' p room vf' va f' a cl br ∧ Chg (One p) w w' := by
  have hsn : sn = ys.length := by obtain ⟨_, _, _, e, h1, _⟩ := hs; cases e; exact h1
  rcases hE with ⟨rfl, rfl, hbad⟩ | ⟨h1, h2, h3, ⟨rfl, rfl, rfl⟩ | ⟨rfl, ⟨rfl, rfl, h4⟩ | ⟨rfl, rfl, h4⟩⟩⟩
  · refine (refAlter_range p room vf va f' a cl br t n _ w h (by omega) ht hn hbad).mono ?_
    rintro e w' ⟨rfl, rfl⟩
    exact ⟨rfl, vf, h, Chg.refl _ _⟩
  · refine (refAlter_broken p room vf va f' a cl t n _ w h (by omega) h1 h2 h3).mono ?_
    rintro e w' ⟨rfl, rfl⟩
    exact ⟨rfl, vf, h, Chg.refl _ _⟩
  · refine (refAlter_many p room vf va f' a cl t n so sn sc w h (by omega) (by omega) h1 h2 h3 (by omega)).mono ?_
    rintro e w' ⟨rfl, rfl⟩
    exact ⟨rfl, vf, h, Chg.refl _ _⟩
  · obtain ⟨t, rfl⟩ := Int.eq_ofNat_of_zero_le h1
    obtain ⟨n, rfl⟩ := Int.eq_ofNat_of_zero_le h2
    simp only [Int.toNat_natCast]
    exact refAlter_ok p room vf va f a cl t n so sn sc ys w h hl hs (by omega) (by omega)

/-- There is an answer, and a list that is left. -/
theorem alter_answer (f ys : List Int) (br : Bool) (t n : Int) : ∃ (E : Int) (f' : List Int), ((E = 11 ∧ f' = f ∧ (t < 0 ∨ n < 0 ∨ n > f.length - t)) ∨ (0 ≤ t ∧ 0 ≤ n ∧ n ≤ f.length - t ∧ ((br = true ∧ E = 0 ∧ f' = f) ∨ (br = false ∧ ((E = 2 ∧ f' = f ∧ f.length - n + ys.length > 65536) ∨ (E = 0 ∧ f' = (f.take t.toNat ++ ys) ++ f.drop (t.toNat + n.toNat) ∧ f.length - n + ys.length ≤ 65536)))))) ∧
    f'.length ≤ f.length + ys.length := by
  by_cases hbad : t < 0 ∨ n < 0 ∨ n > f.length - t
  · exact ⟨11, f, .inl ⟨rfl, rfl, hbad⟩, by omega⟩
  · cases br with
    | true => exact ⟨0, f, .inr ⟨by omega, by omega, by omega, .inl ⟨rfl, rfl, rfl⟩⟩, by omega⟩
    | false =>
      by_cases h4 : (f.length : Int) - n + ys.length > 65536
      · exact ⟨2, f, .inr ⟨by omega, by omega, by omega, .inr ⟨rfl, .inl ⟨rfl, rfl, h4⟩⟩⟩, by omega⟩
      · refine ⟨0, _, .inr ⟨by omega, by omega, by omega, .inr ⟨rfl, .inr ⟨rfl, rfl, by omega⟩⟩⟩, ?_⟩
        simp only [List.length_append, List.length_take, List.length_drop]
        omega

set_option maxRecDepth 100000 in
set_option maxHeartbeats 4000000 in
theorem do_alter (p q : Nat) (room : Int) (vf va uf ua : Value) (f a : List Int) (cl br : Bool) (t n : Int) (so : Option Addr) (sn sc : Nat) (ys : List Int) (w : World) (h : Two w p q room vf va uf ua f a cl br) (hs : ∀ w', Chg (PQ p q) w w' → Rd w' (.slice so sn sc) ys)
    (hl : f.length + a.length ≤ 35184372088832) (hy : ys.length ≤ 35184372088832) (ht : t ≤ 9223372036854775807) (hn : n ≤ 9223372036854775807) :
    Calls Try.prog 19 #[.pointer (some ⟨p, 0, none⟩), .pointer (some ⟨q, 0, none⟩), .agg #[.int .i64 2, .int .i64 t, .int .i64 n, .slice so sn sc]] w fun e w' => e = .returned (.bool true) ∧ DoPost w w' p q room (f.length + a.length + ys.length) := by
  obtain ⟨E, f', hE, hlen⟩ := alter_answer f ys br t n
  have HE : Hid ((E = 11 ∧ f' = f ∧ (t < 0 ∨ n < 0 ∨ n > f.length - t)) ∨ (0 ≤ t ∧ 0 ≤ n ∧ n ≤ f.length - t ∧ ((br = true ∧ E = 0 ∧ f' = f) ∨ (br = false ∧ ((E = 2 ∧ f' = f ∧ f.length - n + ys.length > 65536) ∨ (E = 0 ∧ f' = (f.take t.toNat ++ ys) ++ f.drop (t.toNat + n.toNat) ∧ f.length - n + ys.length ≤ 65536)))))) := hE
  clear hE
  have HH : Hid (Two (w.alloc (.cells #[.int .i64 2, .int .i64 t, .int .i64 n, .slice so sn sc] 52)) p q room vf va uf ua f a cl br ∧ ∀ w', Chg (PQ p q) w w' → Rd w' (.slice so sn sc) ys) := ⟨h.box _, hs⟩
  have hbp : w.heap.size ≠ p := fun e => by have := h.A.lt; omega
  have hbq : w.heap.size ≠ q := fun e => by have := h.B.lt; omega
  have hbi : (w.alloc (.cells #[.int .i64 2, .int .i64 t, .int .i64 n, .slice so sn sc] 52)).heap[w.heap.size]? = some (.cells #[.int .i64 2, .int .i64 t, .int .i64 n, .slice so sn sc] 52 (0, 0)) := heap_alloc_new w _
  have hi1 : (w.alloc (.cells #[.int .i64 2, .int .i64 t, .int .i64 n, .slice so sn sc] 52)).drew.cell? ⟨w.heap.size, 1, none⟩ = some (.int .i64 t) := by rw [World.cell?_drew, cell_of_row _ _ 1 _ 52 (0, 0) hbi]; rfl
  have hi2 : (w.alloc (.cells #[.int .i64 2, .int .i64 t, .int .i64 n, .slice so sn sc] 52)).drew.cell? ⟨w.heap.size, 2, none⟩ = some (.int .i64 n) := by rw [World.cell?_drew, cell_of_row _ _ 2 _ 52 (0, 0) hbi]; rfl
  have hi3 : (w.alloc (.cells #[.int .i64 2, .int .i64 t, .int .i64 n, .slice so sn sc] 52)).drew.cell? ⟨w.heap.size, 3, none⟩ = some (.slice so sn sc) := by rw [World.cell?_drew, cell_of_row _ _ 3 _ 52 (0, 0) hbi]; rfl
  clear h hs hbi
  go_enter Try.func19, Try.ntmps19
  go_wp2_with fail
  go_region_held3 (fun w' => w'.cell? ⟨w.heap.size, 1, none⟩ = some (.int .i64 t) ∧ w'.cell? ⟨w.heap.size, 2, none⟩ = some (.int .i64 n) ∧ w'.cell? ⟨w.heap.size, 3, none⟩ = some (.slice so sn sc))
    (first | exact ⟨hi1, hi2, hi3⟩ | exact ⟨hb1, hb2, hb3⟩ | exact ⟨hj1, hj2, hj3⟩)
    (first
    | (go_at_call 33; (refine (alter_all p room vf va f a cl br _ _ so sn sc ys _ ?_ ?_ ?_ ?_ ht hn E f' HE.out).mono ?_; exact HH.out.1.A.drew; exact HH.out.2 _ (((Chg.refl _ w).alloc _).drew); omega; omega; rintro e w3 ⟨rfl, vf', hA, hc3, hk3⟩; have hbl : w3.heap[w.heap.size]? = some (.cells #[.int .i64 2, .int .i64 t, .int .i64 n, .slice so sn sc] 52 (0, 0)) := (hc3.undrew.block w.heap.size (by simp) (fun e => hbp e)).trans (heap_alloc_new w _); have hb1 : w3.cell? ⟨w.heap.size, 1, none⟩ = some (.int .i64 t) := (by rw [cell_of_row w3 _ 1 _ 52 (0, 0) hbl]; rfl); have hb2 : w3.cell? ⟨w.heap.size, 2, none⟩ = some (.int .i64 n) := (by rw [cell_of_row w3 _ 2 _ 52 (0, 0) hbl]; rfl); have hb3 : w3.cell? ⟨w.heap.size, 3, none⟩ = some (.slice so sn sc) := (by rw [cell_of_row w3 _ 3 _ 52 (0, 0) hbl]; rfl)))
    | (go_at_call 34; (refine (refAlter_all q room uf ua f a cl br _ _ so sn sc ys _ ?_ ?_ ?_ ?_ ht hn E f' HE.out).mono ?_; exact HH.out.1.keepB hc3.undrew; exact HH.out.2 _ (((Chg.refl _ w).alloc _).trans hc3.undrew (fun _ _ e => .inl e)); omega; omega; rintro e w4 ⟨rfl, uf', hB, hc4⟩; have hbk : w4.heap[w.heap.size]? = some (.cells #[.int .i64 2, .int .i64 t, .int .i64 n, .slice so sn sc] 52 (0, 0)) := (hc4.block w.heap.size (Array.getElem?_eq_some_iff.1 hbl).1 (fun e => hbq e)).trans hbl; have hj1 : w4.cell? ⟨w.heap.size, 1, none⟩ = some (.int .i64 t) := (by rw [cell_of_row w4 _ 1 _ 52 (0, 0) hbk]; rfl); have hj2 : w4.cell? ⟨w.heap.size, 2, none⟩ = some (.int .i64 n) := (by rw [cell_of_row w4 _ 2 _ 52 (0, 0) hbk]; rfl); have hj3 : w4.cell? ⟨w.heap.size, 3, none⟩ = some (.slice so sn sc) := (by rw [cell_of_row w4 _ 3 _ 52 (0, 0) hbk]; rfl))))
  all_goals
    have hS := HH.out.1.step hA hc3.undrew (fun k e => by simpa using hk3 k e) (fun k e => .inl e) hB hc4
    have H4 : Hid (Two w4 p q room vf' va uf' ua f' a cl br ∧ Chg (PQ p q) w w4) := ⟨hS.1, (((Chg.refl _ w).alloc _)).trans hS.2 (fun _ _ e => e)⟩
    clear hA hc3 hk3 hbl hb1 hb2 hb3 hB hc4 hS hbk hj1 hj2 hj3
    go_wp2
    go_ret
    exact ⟨rfl, _, _, _, _, _, _, _, _, H4.out.1, by omega, H4.out.2⟩
end Go.Proofs.Ytiegofelidnnlaa
