/-
  The program's map of counters as a list by rising names: what a look-up, a store and len answer.
-/
import Derived.Test.YtlhcadfcgibkdaaDoorBase
import Derived.Maps.OwnSet
namespace Go.Proofs.YtlhcadfcgibkdaaDoor
open Go.RowKit Go.WideMaps
open Go.WideElems (Fit rd rg)
set_option maxRecDepth 100000
set_option linter.unusedVariables false

/-- A counter: its name and its number. -/
structure Ent where
  name : List UInt8
  n : Nat

def Ent.val (e : Ent) : Value := .int .u64 e.n
def zeroFile : Value := .int .u64 0
def heldElem (v : Value) : Option (DataW Value × List MemPlace) := some (.held v, [])
def row (e : Ent) : Lit × DataW Value := (.string e.name, .held e.val)
def dmap (L : List Ent) : DataW Value := .map (L.map row)

def insL (e : Ent) : List Ent → List Ent
  | [] => [e]
  | y :: r => if bytesBefore e.name y.name then e :: y :: r else y :: insL e r
def delL (nm : List UInt8) (L : List Ent) : List Ent := L.filter fun x => !(x.name == nm)
def putL (e : Ent) (L : List Ent) : List Ent := insL e (delL e.name L)
def findL (nm : List UInt8) (L : List Ent) : Option Ent := L.find? fun x => x.name == nm
def valL (nm : List UInt8) (L : List Ent) : Value := match findL nm L with | some e => e.val | none => zeroFile

theorem row_ins (e : Ent) : ∀ L, DataW.insert (row e) (L.map row) = (insL e L).map row
  | [] => rfl
  | y :: r => by
    have h : (row e).1.before (row y).1 = bytesBefore e.name y.name := rfl
    simp only [List.map_cons, DataW.insert, insL, h]
    split
    · rfl
    · rw [row_ins e r]; rfl

theorem row_del (nm : List UInt8) (L : List Ent) : (L.map row).filter (fun p => !p.1.sameKey (.string nm)) = (delL nm L).map row := by
  unfold delL
  rw [List.filter_map]
  rfl

theorem dmap_put (e : Ent) (L : List Ent) : (dmap L).put (.string e.name) (.held e.val) = dmap (putL e L) := by
  show DataW.map (DataW.insert (row e) ((L.map row).filter fun p => !p.1.sameKey (.string e.name))) = _
  rw [row_del, row_ins]
  rfl

theorem dmap_del (nm : List UInt8) (L : List Ent) : (dmap L).del (.string nm) = dmap (delL nm L) := by
  show DataW.map ((L.map row).filter fun p => !p.1.sameKey (.string nm)) = _
  rw [row_del]
  rfl

theorem dmap_at (nm : List UInt8) (L : List Ent) (z : DataW Value) : (dmap L).atKey (.string nm) z = match findL nm L with | some e => .held e.val | none => z := by
  unfold dmap DataW.atKey
  simp only
  rw [List.find?_map]
  have : ((fun p : Lit × DataW Value => p.1.sameKey (.string nm)) ∘ row) = fun x : Ent => x.name == nm := rfl
  rw [this]
  unfold findL
  cases L.find? (fun x => x.name == nm) <;> rfl

theorem dmap_has (nm : List UInt8) (L : List Ent) : Maps.has (dmap L) (.string nm) = (findL nm L).isSome := by
  show (L.map row).any (fun p => p.1.sameKey (.string nm)) = _
  rw [List.any_map]
  have : ((fun p : Lit × DataW Value => p.1.sameKey (.string nm)) ∘ row) = fun x : Ent => x.name == nm := rfl
  rw [this]
  unfold findL
  induction L with
  | nil => rfl
  | cons y r ih => cases h : (y.name == nm) <;> simp [h, ih]

theorem dmap_size (L : List Ent) : Maps.size (dmap L) = L.length := by
  show (L.map row).length = _
  simp

/-! What stands where, behind a store or a delete. -/
theorem find_name {nm : List UInt8} {L : List Ent} {e : Ent} (h : findL nm L = some e) : e.name = nm ∧ e ∈ L := by
  unfold findL at h
  exact ⟨by simpa using List.find?_some h, List.mem_of_find?_eq_some h⟩

theorem mem_ins {e x : Ent} : ∀ {L}, x ∈ insL e L ↔ x = e ∨ x ∈ L
  | [] => by simp [insL]
  | y :: r => by
    unfold insL
    split
    · simp
    · simp [mem_ins (L := r)]
      constructor
      · rintro (h | h | h) <;> simp [h]
      · rintro (h | h | h) <;> simp [h]

theorem mem_del {nm : List UInt8} {x : Ent} {L : List Ent} : x ∈ delL nm L ↔ x ∈ L ∧ x.name ≠ nm := by
  unfold delL
  simp [List.mem_filter]

theorem mem_put {e x : Ent} {L : List Ent} : x ∈ putL e L ↔ x = e ∨ (x ∈ L ∧ x.name ≠ e.name) := by
  unfold putL
  rw [mem_ins, mem_del]

theorem len_ins (e : Ent) : ∀ L, (insL e L).length = L.length + 1
  | [] => rfl
  | y :: r => by
    unfold insL
    split
    · rfl
    · simp [len_ins e r]

theorem find_ins_same (e : Ent) : ∀ L, (∀ x ∈ L, x.name ≠ e.name) → findL e.name (insL e L) = some e
  | [], _ => by simp [insL, findL]
  | y :: r, h => by
    unfold insL
    split
    · simp [findL]
    · have h1 : (y.name == e.name) = false := by simpa using h y (by simp)
      have := find_ins_same e r (fun x hx => h x (by simp [hx]))
      unfold findL at this ⊢
      simp [h1, this]

theorem find_ins_other {e : Ent} {nm : List UInt8} (hne : e.name ≠ nm) : ∀ L, findL nm (insL e L) = findL nm L
  | [] => by simp [insL, findL, hne]
  | y :: r => by
    unfold insL
    split
    · simp [findL, hne]
    · have := find_ins_other hne r
      unfold findL at this ⊢
      simp only [List.find?_cons, this]

theorem find_del_same (nm : List UInt8) (L : List Ent) : findL nm (delL nm L) = none := by
  unfold findL
  rw [List.find?_eq_none]
  intro x hx
  have := (mem_del.1 hx).2
  simpa using this

theorem find_del_other {nm nm' : List UInt8} (hne : nm' ≠ nm) (L : List Ent) : findL nm' (delL nm L) = findL nm' L := by
  unfold findL delL
  rw [Maps.find_filter_keep]
  intro p hp
  simp at hp ⊢
  rw [hp]
  exact hne

theorem find_put_same (e : Ent) (L : List Ent) : findL e.name (putL e L) = some e :=
  find_ins_same e _ (fun x hx => (mem_del.1 hx).2)

theorem find_put_other {e : Ent} {nm : List UInt8} (hne : nm ≠ e.name) (L : List Ent) : findL nm (putL e L) = findL nm L := by
  unfold putL
  rw [find_ins_other (fun h => hne h.symm), find_del_other hne]

/-! The block. -/
theorem law : Maps.Keyed Tryd.prog 9 := Maps.string_keyed Tryd.underlying9
theorem zero22 (w : World) : (zeroValue 22).run Tryd.prog w = .ok zeroFile w := by kernel_rfl

def MapAt (w : World) (b : Nat) (L : List Ent) : Prop := w.ownsMap Tryd.prog 9 heldElem b L.length (dmap L)

theorem MapAt.of {w : World} {b n : Nat} {L : List Ent} (h : w.ownsMap Tryd.prog 9 heldElem b n (dmap L)) : MapAt w b L := by
  obtain ⟨es, clock, hb, F, hs, hD⟩ := h
  refine ⟨es, clock, hb, F, ?_, hD⟩
  have e1 := congrArg Maps.size hD
  rw [dmap_size] at e1
  rw [e1]
  simp [Maps.size, length_sorted]

theorem MapAt.lt {w : World} {b : Nat} {L : List Ent} (h : MapAt w b L) : b < w.heap.size := World.ownsMap.lt h

theorem MapAt.keep {w w' : World} {b : Nat} {L : List Ent} (h : MapAt w b L) (hk : w'.heap[b]? = w.heap[b]?) : MapAt w' b L := by
  obtain ⟨es, clock, hb, F, hs, hD⟩ := h
  exact ⟨es, clock, hk.trans hb, F, hs, hD⟩

theorem MapAt.look {w : World} {b : Nat} {L : List Ent} (h : MapAt w b L) (s : ByteArray) (hs : s.size ≤ maxLen) :
    (Instr.lookup 80 (.map (some b)) (.string s) false).run Tryd.prog w = .ok (valL s.data.toList L) w := by
  obtain ⟨v, ps, hrun, hv⟩ := World.ownsMap.lookup h law Tryd.underlying80 (zero22 w) (zd := .held zeroFile) (zp := []) rfl (keyOf_string_mk Tryd.underlying9 hs)
  rw [dmap_at] at hv
  rw [hrun]
  have : v = valL s.data.toList L := by
    unfold heldElem at hv
    unfold valL
    cases hf : findL s.data.toList L <;> (rw [hf] at hv; simp at hv; exact hv.1)
  rw [this]

theorem MapAt.look_ok {w : World} {b : Nat} {L : List Ent} (h : MapAt w b L) (s : ByteArray) (hs : s.size ≤ maxLen) :
    (Instr.lookup 80 (.map (some b)) (.string s) true).run Tryd.prog w = .ok (.tuple #[valL s.data.toList L, .bool (findL s.data.toList L).isSome]) w := by
  obtain ⟨v, ps, hrun, hv⟩ := World.ownsMap.look_ok h law Tryd.underlying80 (zero22 w) (zd := .held zeroFile) (zp := []) rfl (keyOf_string_mk Tryd.underlying9 hs)
  rw [dmap_at] at hv
  rw [hrun, dmap_has]
  have : v = valL s.data.toList L := by
    unfold heldElem at hv
    unfold valL
    cases hf : findL s.data.toList L <;> (rw [hf] at hv; simp at hv; exact hv.1)
  rw [this]

theorem MapAt.len {w : World} {b : Nat} {L : List Ent} (h : MapAt w b L) (ty : TypeId) :
    (Builtin.len_ #[80] ty #[.map (some b)]).run Tryd.prog w = .ok (.int .i64 L.length) w := by
  rw [World.ownsMap.len h Tryd.underlying80 ty, dmap_size]

theorem turned_chg {w w' : World} {b : Nat} (h : w.mapTurned w' b) : Chg (One b) w w' :=
  (Chg.of_grown h.grown).mono (fun _ _ e => by cases e; rfl)

theorem MapAt.store {w : World} {b : Nat} {L : List Ent} (h : MapAt w b L) (hn : L.length < maxLen) (s : ByteArray) (hs : s.size ≤ maxLen) (e : Ent) (he : e.name = s.data.toList) :
    ∃ w', (Instr.mapUpdate 80 (.map (some b)) (.string s) e.val).run Tryd.prog w = .ok () w' ∧ MapAt w' b (putL e L) ∧ Chg (One b) w w' := by
  obtain ⟨w', h1, h2, h3⟩ := World.ownsMap.store h law Tryd.underlying80 hn (keyOf_string_mk Tryd.underlying9 hs) (val := e.val) (d := .held e.val) (ps := []) rfl
  rw [← he, dmap_put] at h2
  exact ⟨w', h1, .of h2, turned_chg h3⟩

theorem MapAt.made (w : World) : MapAt (w.alloc (.map #[] 0)) w.heap.size [] := World.ownsMap_made w Tryd.prog 9 heldElem

end Go.Proofs.YtlhcadfcgibkdaaDoor
