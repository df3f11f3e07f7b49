/-
  The document's Expand and Derive.
-/
import Derived.Test.YtijpdhjlafihkaaDoorLj31
import Derived.Test.YtijpdhjlafihkaaDoorLj49
namespace Go.Proofs.YtijpdhjlafihkaaDoor
open Go.RowKit
set_option linter.unusedVariables false
set_option maxRecDepth 100000

theorem tight_one (w : World) (c : Int) : Ap.Tight (w.alloc (.cells #[.int .u8 c] 5)) (.slice (some ⟨w.heap.size, 0, none⟩) 1 1) [c] := by
  refine .inr ⟨_, 1, rfl, rfl, by decide, by decide, fun j u hj => ?_⟩
  match j, hj with
  | 0, hj =>
    simp at hj
    subst hj
    simp [Addr.add]
theorem own_two (w : World) (a b : Int) : Ap.OwnV (w.alloc (.cells #[.int .u8 a, .int .u8 b] 5)) (.slice (some ⟨w.heap.size, 0, none⟩) 2 2) [a, b] :=
  .inr ⟨w.heap.size, 0, 2, 2, rfl, rfl, Nat.le_refl _, by decide, #[.int .u8 a, .int .u8 b], heap_alloc_last w _, by simp, by simp⟩

/-- A byte that says how many bytes follow, and these. -/
def cntL (xs : List Int) : List Int := [(xs.length : Int) % 256] ++ xs
set_option maxHeartbeats 2000000 in
theorem rcounted_any (v : Value) (xs : List Int) (w : World) (h : Ap.Rd w v xs) (hl : xs.length ≤ 1000000000) : Calls Tryd.prog 32 #[v] w fun e w' => RL (cntL xs) w w' e := by
  obtain ⟨o, m, c, rfl, hm, -⟩ := h.shape
  obtain ⟨W, hW⟩ : ∃ W, W = w.alloc (.cells #[.int .u8 ((m : Int) % 256)] 5) := ⟨_, rfl⟩
  have H : Hid (Chg w W ∧ Ap.Tight W (.slice (some ⟨w.heap.size, 0, none⟩) 1 1) [(m : Int) % 256] ∧ Ap.Rd W (.slice o m c) xs ∧ m = xs.length ∧ xs.length ≤ 1000000000) := by
    rw [hW]
    exact ⟨(Chg.refl _).alloc _, tight_one w _, Rd.chg h ((Chg.refl _).alloc _), hm, hl⟩
  have HW : Hid (W = w.alloc (.cells #[.int .u8 ((m : Int) % 256)] 5)) := hW
  clear h hm hl hW
  go_enter Tryd.func32, Tryd.ntmps32
  go_wp2_with (at_builtin; rw [← HW.out]; refine Ap.wpList_tight _ rfl _ _ rfl _ _ [(m : Int) % 256] xs rfl rfl H.out.2.1 H.out.2.2.1 (by have := H.out.2.2.2.2; simp only [List.length_cons, List.length_nil]; omega) ?_)
  intro v' w' hr hc _
  obtain ⟨o', m', c', rfl, -⟩ := hr.shape
  have K : Hid (Chg w w' ∧ Ap.Rd w' (.slice o' m' c') (cntL xs)) := ⟨H.out.1.trans (Chg.non hc), by unfold cntL; rw [← H.out.2.2.2.1]; exact hr⟩
  clear hr hc
  go_wp2
  go_ret
  exact ⟨_, _, _, rfl, K.out⟩

theorem conv_rdI (w : World) (s : ByteArray) (hl : s.size ≤ 140737488355328) : Ap.Rd (Lib.bytesWorld w 5 s) (.slice (some ⟨w.heap.size, 0, none⟩) s.size (grownCap w s.size 0 5)) (Ap.bI s.data.toList) := Ap.conv_rd w s hl
theorem bI_app (a b : List UInt8) : Ap.bI (a ++ b) = Ap.bI a ++ Ap.bI b := by simp [Ap.bI]
theorem bI_nums {xs : List Int} (h : ∀ x ∈ xs, 0 ≤ x ∧ x < 256) : Ap.bI (strOfNums xs).data.toList = xs := by
  unfold Ap.bI strOfNums
  simp only [List.map_map]
  have : ∀ l : List Int, (∀ x ∈ l, 0 ≤ x ∧ x < 256) → l.map (((fun c : UInt8 => (c.toNat : Int)) ∘ fun n => UInt8.ofNat n.toNat)) = l := by
    intro l hl
    induction l with
    | nil => rfl
    | cons x l ih =>
      simp only [List.map_cons, Function.comp]
      rw [show l.map ((fun c : UInt8 => (c.toNat : Int)) ∘ fun n => UInt8.ofNat n.toNat) = l from ih (fun y hy => hl y (List.mem_cons_of_mem _ hy))]
      have := hl x List.mem_cons_self
      congr 1
      simp
      omega
  exact this xs h
theorem u8_len (n : Nat) : ((UInt8.ofNat n).toNat : Int) = (n : Int) % 256 := by
  simp
/-- What the document expands with is what the program expands with. -/
theorem info_eq (S : ByteArray) (ctx : List Int) (k : Nat) (hx : ∀ x ∈ ctx, 0 ≤ x ∧ x < 256) : ([(k : Int) / 256 % 256, (k : Int) % 256] ++ cntL (Ap.bI (Ap.tls ++ S).data.toList)) ++ cntL ctx = Ap.bI (Ap.infoB S ctx k) := by
  have h1 : (Ap.tls ++ S).data.toList.length = (Ap.tls ++ S).size := by simp
  have h2 : ((k : Int) / 256) = ((k / 256 : Nat) : Int) := by omega
  have h3 : Ap.bI [UInt8.ofNat (Ap.tls ++ S).size] = [((Ap.tls ++ S).size : Int) % 256] := by
    show [((UInt8.ofNat (Ap.tls ++ S).size).toNat : Int)] = _
    rw [u8_len]
  have h4 : Ap.bI [UInt8.ofNat ctx.length] = [(ctx.length : Int) % 256] := by
    show [((UInt8.ofNat ctx.length).toNat : Int)] = _
    rw [u8_len]
  have h5 : Ap.bI (Ap.two k) = [((k / 256 : Nat) : Int) % 256, (k : Int) % 256] := by
    show [((UInt8.ofNat (k / 256)).toNat : Int), ((UInt8.ofNat k).toNat : Int)] = _
    rw [u8_len, u8_len]
  unfold Ap.infoB cntL
  rw [bI_app, bI_app, bI_app, bI_app, bI_nums hx, Ap.bI_len, h1, h2, nums_size, h3, h4, h5]
  simp only [List.append_assoc]
end Go.Proofs.YtijpdhjlafihkaaDoor
