/-
  New blocks, one behind the other; copy.
-/
import Derived.Test.YtnahkcapbbjfdaaBase
import Derived.Laws.CopyRow
namespace Go.Proofs.Ytnahkcapbbjfdaa
open Go.RowKit
set_option linter.unusedVariables false

theorem Ar.new1 (w : World) (o : Obj) (c : Array Value) (t : TypeId) : Ar ((w.alloc o).alloc (.cells c t)) (w.heap.size + 1) c := by
  have := Ar.new (w.alloc o) c t
  rw [World.size_alloc] at this
  exact this
theorem Ar.new2 (w : World) (o o' : Obj) (c : Array Value) (t : TypeId) : Ar (((w.alloc o).alloc o').alloc (.cells c t)) (w.heap.size + 1 + 1) c := by
  have := Ar.new ((w.alloc o).alloc o') c t
  rw [World.size_alloc, World.size_alloc] at this
  exact this
theorem Ar.new3 (w : World) (o o' o'' : Obj) (c : Array Value) (t : TypeId) : Ar ((((w.alloc o).alloc o').alloc o'').alloc (.cells c t)) (w.heap.size + 1 + 1 + 1) c := by
  have := Ar.new (((w.alloc o).alloc o').alloc o'') c t
  rw [World.size_alloc, World.size_alloc, World.size_alloc] at this
  exact this

theorem u77 : Try.prog.underlying 77 = some (.slice 23) := by kernel_rfl
theorem i23 : (Try.prog.info? 23).map (·.size) = some 1 := by kernel_rfl

/-- copy, of one array into another. -/
theorem run_cp (w : World) (g o dl dc b o' sl sc n : Nat) (cur src : Array Value) (hg : Ar w g cur) (hs : Ar w b src) (hn : n = Nat.min sl dl) (hf : o + n ≤ cur.size) (hf' : o' + n ≤ src.size) (h1 : src.all (·.oneCell') = true) (res : Array Value)
    (hres : res = (cur.toList.take o ++ (((src.toList.drop o').take n) ++ cur.toList.drop (o + n))).toArray) :
    (Builtin.copy_ #[77, 77] 3 #[.slice (some ⟨g, o, none⟩) dl dc, .slice (some ⟨b, o', none⟩) sl sc]).run Try.prog w = .ok (.int .i64 n) (w.setRow g res) := by
  obtain ⟨t, hg'⟩ := hg
  have hl : ((src.toList.drop o').take n).length = n := by simp; omega
  have := run_copy_row (P := Try.prog) w 77 77 3 23 g o dl dc ⟨b, o', none⟩ sl sc cur t ((src.toList.drop o').take n) u77 i23 hg' (by rw [hl, hn]) (fun j v hv => ?_) (by rw [hl]; exact hf) (fun v hv => ?_)
  · rw [this, hl, hres, List.append_assoc]
    rfl
  · have hadd : (⟨b, o', none⟩ : Addr).add j = ⟨b, o' + j, none⟩ := by unfold Addr.add; split <;> simp_all
    rw [hadd, hs.cell]
    rw [List.getElem?_take] at hv
    split at hv
    · rw [List.getElem?_drop] at hv
      simpa using hv
    · cases hv
  · have := List.mem_of_mem_drop (List.mem_of_mem_take hv)
    exact (Array.all_eq_true_iff_forall_mem.1 h1) v (by simpa using this)
end Go.Proofs.Ytnahkcapbbjfdaa
