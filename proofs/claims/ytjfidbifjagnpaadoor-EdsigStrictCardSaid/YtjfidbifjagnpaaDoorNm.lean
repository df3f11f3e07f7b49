/-
  Numbers as whole rows of cells.
-/
import Derived.Test.YtjfidbifjagnpaaDoorJb
import Derived.Test.YtjfidbifjagnpaaDoorJc
import Derived.Deep.MidRow
namespace Go.Proofs.YtjfidbifjagnpaaDoor
open Go.RowKit
set_option linter.unusedVariables false
set_option maxRecDepth 100000
theorem num_size (x : Int) : (num x).size = 4 := arr_size _ _ _
theorem num_one (x : Int) : (num x).all (·.oneCell') = true := arr_one _ _ _
theorem zero25 : (∀ w, (zeroValue 32).run Tryd.prog w = .ok (.agg (num 0)) w) ∧ (Tryd.prog.info? 32).map (·.size) = some 4 := by
 rw [num_0]
 exact zero_of_info (by kernel_rfl)
theorem szN (x : Int) : (Tryd.prog.info? 32).map (·.size) = some (num x).size := by rw [num_size]; exact zero25.2
theorem lenN (x y : Int) : (num x).size = (num y).size := by rw [num_size, num_size]
theorem rangeN {w : World} {b : Nat} {x : Int} (h : Ar w b (num x)) : w.rangeAt b 0 (num x).toList := by
 intro j v hv
 rw [Nat.zero_add, h.cell]
 simpa using hv
theorem infoN (x : Int) : (Tryd.prog.info? 32).map (·.size) = some (num x).toList.length := by rw [Array.length_toList]; exact szN x
theorem thereN {w : World} {b : Nat} {x : Int} (h : Ar w b (num x)) : w.there b 0 4 := fun j hj => by
 rw [Nat.zero_add, h.cell]
 refine ⟨?_, h.frozen j⟩
 rw [num, arr_get _ _ _ hj]
 rfl
theorem setRowN {w : World} {b : Nat} {x : Int} (h : Ar w b (num x)) (y : Int) : w.setCells b 0 (num y).toList = w.setRow b (num y) := by
 have h1 := run_storeVar_mid (P := Tryd.prog) w b 0 32 (num y) (by rw [num_size]; exact thereN h) (szN y) (num_one y)
 obtain ⟨t, h⟩ := h
 have h2 := run_storeVar_row (P := Tryd.prog) w b t 32 _ (num y) h (szN y) (lenN x y) (num_one y)
 rw [h1] at h2
 injection h2
theorem wid_size (x : Int) : (wid x).size = 8 := arr_size _ _ _
theorem szW (x : Int) : (Tryd.prog.info? 75).map (·.size) = some (wid x).size := by
 rw [wid_size]
 kernel_rfl
theorem rangeW {w : World} {b : Nat} {x : Int} (h : Ar w b (wid x)) : w.rangeAt b 0 (wid x).toList := by
 intro j v hv
 rw [Nat.zero_add, h.cell]
 simpa using hv
theorem infoW (x : Int) : (Tryd.prog.info? 75).map (·.size) = some (wid x).toList.length := by rw [Array.length_toList]; exact szW x
theorem bp_n {fn : Func} {R : Ending → World → Prop} {a : Act} {w : World} {p b : Nat} {x : Int} (h : fn.results = #[.cell p 32]) (hd : a.defers = []) (hp : a.tmps.getD p undef = .pointer (some ⟨b, 0, none⟩)) (ha : Ar w b (num x)) (hR : R (.returned (.agg (num x))) w) : bodyPost Tryd.prog fn R .ret a w :=
 bp_c (n := 4) (c := num x) h hd hp ha u25 i25 (num_size x) hR
end Go.Proofs.YtjfidbifjagnpaaDoor
