/-
  Arguments of small bulk opened by their types.
-/
import Derived.Test.YtdhckndehijemaaMj03
import Derived.Test.YtdhckndehijemaaMj20
import Derived.Test.YtdhckndehijemaaSx
import Derived.Deep.Slices
namespace Go.Proofs.Ytdhckndehijemaa
open Go.ChangeShapes Go.WideShapes Go.ChangeAt Go.RowKit Go.Deep
set_option linter.unusedVariables false
set_option maxRecDepth 100000

/-- No text and no list is longer than what a statement's bound allows. -/
def SmU : (t : Ty) → t.Dat → Prop
  | .str, x => List.length (α := Int) x ≤ 1048576
  | .byt, x => List.length (α := Int) x ≤ 1048576
  | .lst e, l => List.length (α := e.Dat) l ≤ 1048576 ∧ ∀ a : e.Dat, List.Mem a l → SmU e a
  | .pair a b, x => SmU a x.1 ∧ SmU b x.2
  | .num _, _ => True
  | .arr _, _ => True
  | .unit, _ => True

def TrU (t : Ty) (τ : TypeId) : Prop := ∀ {H : Type} (enc : TypeId × Value → H) (W : World) (fuel : Nat) (cs : List Value) (x : DataW H × List MemPlace),
  DataW.trod enc Try.prog W 0 (fun _ => true) true fuel τ cs = some x → Rows.uptoBulk x.1 ≤ 1048576 → ∃ y, Rel t (Bel W.heap.size) W cs y ∧ SmU t y

theorem wf_u8 {n : Int} (h : (Lit.int .u8 n).wf = true) : InK .u8 n := by
  have h0 : IntKind.u8.min = 0 := rfl
  have h1 : IntKind.u8.max = 255 := rfl
  simp only [Lit.wf, Bool.and_eq_true, decide_eq_true_eq] at h
  exact ⟨by omega, by show n < 256; omega⟩
theorem wf_u16 {n : Int} (h : (Lit.int .u16 n).wf = true) : InK .u16 n := by
  have h0 : IntKind.u16.min = 0 := rfl
  have h1 : IntKind.u16.max = 65535 := rfl
  simp only [Lit.wf, Bool.and_eq_true, decide_eq_true_eq] at h
  exact ⟨by omega, by show n < 65536; omega⟩
theorem wf_u32 {n : Int} (h : (Lit.int .u32 n).wf = true) : InK .u32 n := by
  have h0 : IntKind.u32.min = 0 := rfl
  have h1 : IntKind.u32.max = 4294967295 := rfl
  simp only [Lit.wf, Bool.and_eq_true, decide_eq_true_eq] at h
  exact ⟨by omega, by show n < 4294967296; omega⟩

theorem tru_num {k : IntKind} {τ : TypeId} (h : Try.prog.underlying τ = some (.int k)) (hk : ∀ n, (Lit.int k n).wf = true → InK k n) : TrU (.num k) τ := by
  intro H enc W fuel cs x ht hw
  obtain ⟨n, rfl, rfl, wf⟩ := DataW.trod_int h ht
  exact ⟨n, ⟨rfl, hk n wf⟩, trivial⟩

def numsOf (s : ByteArray) : List Int := s.data.toList.map fun b => (b.toNat : Int)
theorem nums_byt (s : ByteArray) : Byt (numsOf s) := by
  intro x hx
  obtain ⟨b, -, rfl⟩ := List.mem_map.1 hx
  have := b.toNat_lt
  omega
theorem nums_str (s : ByteArray) : strOfNums (numsOf s) = s := by
  obtain ⟨⟨l⟩⟩ := s
  have e : ((fun n : Int => UInt8.ofNat n.toNat) ∘ fun b : UInt8 => (b.toNat : Int)) = id := by funext b; simp
  unfold strOfNums numsOf
  simp [e]
theorem tru_str {τ : TypeId} (h : Try.prog.underlying τ = some .string) : TrU .str τ := by
  intro H enc W fuel cs x ht hw
  obtain ⟨s, rfl, rfl, hs⟩ := DataW.trod_string h ht
  have h1 : s.data.toList.length ≤ 1048576 := by
    simp only [Rows.uptoBulk] at hw
    omega
  refine ⟨numsOf s, ⟨by rw [nums_str], nums_byt s⟩, ?_⟩
  show List.length (numsOf s) ≤ _
  unfold numsOf
  rw [List.length_map]
  exact h1

theorem bulk_pos {H : Type} (d : DataW H) : 1 ≤ Rows.uptoBulk d := by
  cases d with
  | lit l => cases l <;> simp [Rows.uptoBulk]
  | _ => simp [Rows.uptoBulk]
theorem bulk_len {H : Type} : ∀ l : List (DataW H), l.length ≤ Rows.uptoBulkAll l
  | [] => Nat.le_refl _
  | d :: r => by
    have h1 := bulk_len r
    have h2 := bulk_pos d
    simp only [Rows.uptoBulkAll, List.length_cons]
    omega
theorem bulk_mem {H : Type} : ∀ {l : List (DataW H)} {d : DataW H}, d ∈ l → Rows.uptoBulk d ≤ Rows.uptoBulkAll l
  | x :: r, d, hd => by
    simp only [Rows.uptoBulkAll]
    rcases List.mem_cons.1 hd with rfl | hd
    · omega
    · have := bulk_mem hd
      omega
  | [], d, hd => by cases hd

noncomputable def datDef : (t : Ty) → t.Dat
  | .num _ => (0 : Int)
  | .str => ([] : List Int)
  | .byt => ([] : List Int)
  | .arr _ => ([] : List Int)
  | .lst e => ([] : List e.Dat)
  | .pair a b => (datDef a, datDef b)
  | .unit => ()

theorem tru_lst {e : Ty} {ε τ : TypeId} (h : Try.prog.underlying τ = some (.slice ε)) (hc : Try.prog.cellsOf ε = e.sz) (hs : 0 < e.sz) (he : TrU e ε) : TrU (.lst e) τ := by
  intro H enc W fuel cs x ht hw
  rcases open_slice h ht with ⟨rfl, rfl⟩ | ⟨a, len, cap, m, n, D, Pl, rfl, hb0, hl, hm, hmm, rfl, hx⟩
  · exact ⟨([] : List e.Dat), ⟨none, 0, 0, rfl, rfl, Nat.le_refl _, by decide, fun _ => rfl, fun b e => by cases e⟩, by show ([] : List e.Dat).length ≤ _; simp, fun a ha => by cases ha⟩
  · simp only [if_true] at hmm
    subst hmm
    have hw' : Rows.uptoBulkAll ((List.range len).map D) ≤ 1048576 := by
      have h0 := hw
      simp only [Rows.uptoBulk] at h0
      omega
    have hlen : len ≤ 1048576 := by
      have h1 := bulk_len ((List.range len).map D)
      simp only [List.length_map, List.length_range] at h1
      omega
    have hel : ∀ i, i < len → ∃ y : e.Dat, (a.block < W.heap.size ∧ ∃ us', Rel e (Bel W.heap.size) W us' y ∧ ∀ j u, us'[j]? = some u → W.cell? (a.add (i * e.sz + j)) = some u) ∧ SmU e y := by
      intro i hi
      obtain ⟨cs', h1, h2⟩ := hx i (by omega)
      obtain ⟨-, h3, h4⟩ := World.cells?_some h1
      rw [hc] at h3 h4
      obtain ⟨y, r1, r2⟩ := he enc W n cs' (D i, Pl i) h2 (Nat.le_trans (bulk_mem (List.mem_map.2 ⟨i, List.mem_range.2 hi, rfl⟩)) hw')
      refine ⟨y, ⟨?_, cs', r1, fun j u hu => ?_⟩, r2⟩
      · have h5 := h4 0 hs
        have h6 : cs'[0]? = some (cs'[0]'(by omega)) := List.getElem?_eq_getElem _
        rw [h6] at h5
        have := World.block_lt_of_cell? W _ h5
        rwa [add_block, add_block] at this
      · have hj := (List.getElem?_eq_some_iff.1 hu).1
        have h5 := h4 j (by omega)
        rw [add_add, hu] at h5
        exact h5
    haveI : Inhabited e.Dat := ⟨datDef e⟩
    obtain ⟨Y, hY⟩ := Go.Deep.choose_lt hel
    refine ⟨(List.range len).map Y, ⟨some a, len, m, rfl, by show len = List.length _; simp, hl, hm, (fun e => by cases e), fun b eb j y hj => ?_⟩, ?_, fun y hy => ?_⟩
    · injection eb with eb
      subst eb
      have hj' : ((List.range len).map Y)[j]? = some y := hj
      have hjl : j < len := by
        rcases Nat.lt_or_ge j len with h' | h'
        · exact h'
        · rw [List.getElem?_eq_none (by simpa using h')] at hj'
          cases hj'
      rw [List.getElem?_map, List.getElem?_range hjl] at hj'
      simp only [Option.map_some, Option.some.injEq] at hj'
      rw [← hj']
      exact (hY j hjl).1
    · show List.length _ ≤ _
      simpa using hlen
    · have hy' : y ∈ (List.range len).map Y := hy
      obtain ⟨i, hi, rfl⟩ := List.mem_map.1 hy'
      exact (hY i (List.mem_range.1 hi)).2

def nest : List Ty → Ty
  | [] => .unit
  | [t] => t
  | t :: u :: ts => .pair t (nest (u :: ts))
def total : List Ty → Nat
  | [] => 0
  | t :: ts => t.sz + total ts
def FOk : List Ty → List Field → Nat → Prop
  | [], [], _ => True
  | t :: ts, f :: fs, o => f.offset = o ∧ Try.prog.cellsOf f.type = t.sz ∧ TrU t f.type ∧ FOk ts fs (o + t.sz)
  | _, _, _ => False

theorem tru_fields {H : Type} (enc : TypeId × Value → H) (W : World) (n : Nat) (cs : List Value) : ∀ (ts : List Ty) (fs : List Field) (o : Nat) (xs : List (DataW H × List MemPlace)), FOk ts fs o → ts ≠ [] → cs.length = o + total ts → xs.length = fs.length →
    (∀ (i : Nat) (f : Field), fs[i]? = some f → DataW.trod enc Try.prog W 0 (fun _ => true) true n f.type ((cs.drop f.offset).take (Try.prog.cellsOf f.type)) = xs[i]?) →
    Rows.uptoBulkAll (xs.map (·.1)) ≤ 1048576 → ∃ y, Rel (nest ts) (Bel W.heap.size) W (cs.drop o) y ∧ SmU (nest ts) y
  | [], _, _, _, _, hne, _, _, _, _ => absurd rfl hne
  | t :: ts, [], _, _, hf, _, _, _, _, _ => hf.elim
  | t :: ts, f :: fs, o, [], _, _, _, hl, _, _ => by simp at hl
  | [t], [f], o, x :: xs, hf, _, hc, hl, hx, hw => by
    obtain ⟨h1, h2, h3, -⟩ := hf
    have h4 := hx 0 f rfl
    rw [h1, h2] at h4
    have h5 : (cs.drop o).take t.sz = cs.drop o := List.take_of_length_le (by rw [List.length_drop, hc]; simp [total])
    rw [h5] at h4
    exact h3 enc W n _ x h4 (by simp only [List.map_cons, Rows.uptoBulkAll] at hw; omega)
  | [t], f :: g :: fs, o, x :: xs, hf, _, _, _, _, _ => by obtain ⟨-, -, -, h⟩ := hf; exact h.elim
  | t :: u :: ts, f :: fs, o, x :: xs, hf, _, hc, hl, hx, hw => by
    obtain ⟨h1, h2, h3, h3'⟩ := hf
    have h4 := hx 0 f rfl
    rw [h1, h2] at h4
    obtain ⟨y1, r1, s1⟩ := h3 enc W n _ x h4 (by simp only [List.map_cons, Rows.uptoBulkAll] at hw; omega)
    obtain ⟨y2, r2, s2⟩ := tru_fields enc W n cs (u :: ts) fs (o + t.sz) xs h3' (by simp) (by rw [hc]; simp [total]; omega) (by simpa using hl) (fun i g hg => hx (i + 1) g hg) (by simp only [List.map_cons, Rows.uptoBulkAll] at hw; omega)
    refine ⟨(y1, y2), ⟨(cs.drop o).take t.sz, cs.drop (o + t.sz), ?_, r1, r2⟩, s1, s2⟩
    rw [← List.drop_drop, List.take_append_drop]

theorem tru_struct {ts : List Ty} {τ : TypeId} {fs : Array Field} (h : Try.prog.underlying τ = some (.struct fs)) (hf : FOk ts fs.toList 0) (hne : ts ≠ []) (hc : Try.prog.cellsOf τ = total ts) : TrU (nest ts) τ := by
  intro H enc W fuel cs x ht hw
  obtain ⟨xs, n, rfl, rfl, h1, h2, h3⟩ := DataW.trod_struct h ht
  have := tru_fields enc W n cs ts fs.toList 0 xs hf hne (by rw [h1, hc]; omega) (by simpa using h2) (fun i f hi => h3 i f (by rw [← Array.getElem?_toList]; exact hi)) (by
    have h0 := hw
    simp only [Rows.uptoBulk] at h0
    omega)
  rwa [List.drop_zero] at this

theorem tru_list {τ : TypeId} (h : TrU (.lst (.num .u8)) τ) : TrU .byt τ := by
  intro H enc W fuel cs x ht hw
  obtain ⟨y, r, s⟩ := h enc W fuel cs x ht hw
  exact ⟨y, r.toByt, s.1⟩
theorem tru5 : TrU (.num .u8) 5 := tru_num Try.underlying5 (fun _ h => wf_u8 h)
theorem tru32 : TrU (.num .u16) 32 := tru_num Try.underlying32 (fun _ h => wf_u16 h)
theorem tru45 : TrU (.num .u32) 45 := tru_num Try.underlying45 (fun _ h => wf_u32 h)
theorem tru9 : TrU .str 9 := tru_str Try.underlying9
theorem tru23 : TrU .byt 23 := tru_list (tru_lst Try.underlying23 (by rw [cells5]; rfl) (by decide) tru5)
theorem tru33 : TrU (.lst (.num .u16)) 33 := tru_lst Try.underlying33 (by kernel_rfl) (by decide) tru32
theorem tru76 : TrU (.lst .str) 76 := tru_lst Try.underlying76 (by kernel_rfl) (by decide) tru9
theorem tru135 : TrU tExt 135 := tru_struct (ts := [.num .u16, .byt]) Try.underlying135 ⟨rfl, by kernel_rfl, tru32, rfl, by kernel_rfl, tru23, trivial⟩ (by simp) (by kernel_rfl)
theorem tru87 : TrU tExt 87 := tru_struct (ts := [.num .u16, .byt]) Try.underlying87 ⟨rfl, by kernel_rfl, tru32, rfl, by kernel_rfl, tru23, trivial⟩ (by simp) (by kernel_rfl)
theorem tru49 : TrU tExt 49 := tru_struct (ts := [.num .u16, .byt]) Try.underlying49 ⟨rfl, by kernel_rfl, tru32, rfl, by kernel_rfl, tru23, trivial⟩ (by simp) (by kernel_rfl)
theorem tru34 : TrU (.lst tExt) 34 := tru_lst Try.underlying34 (by kernel_rfl) (by decide) tru135
theorem tru82 : TrU (.lst tExt) 82 := tru_lst Try.underlying82 (by kernel_rfl) (by decide) tru87
theorem tru146 : TrU tEntry 146 := tru_struct (ts := [.byt, .lst tExt]) Try.underlying146 ⟨rfl, by kernel_rfl, tru23, rfl, by kernel_rfl, tru34, trivial⟩ (by simp) (by kernel_rfl)
theorem tru42 : TrU (.lst tEntry) 42 := tru_lst Try.underlying42 (by kernel_rfl) (by decide) tru146
theorem tru44 : TrU tCert 44 := tru_struct (ts := [.byt, .lst tEntry]) Try.underlying44 ⟨rfl, by kernel_rfl, tru23, rfl, by kernel_rfl, tru42, trivial⟩ (by simp) (by kernel_rfl)
theorem tru47 : TrU tTick 47 := tru_struct (ts := [.num .u32, .num .u32, .byt, .byt, .lst tExt]) Try.underlying47 ⟨rfl, by kernel_rfl, tru45, rfl, by kernel_rfl, tru45, rfl, by kernel_rfl, tru23, rfl, by kernel_rfl, tru23, rfl, by kernel_rfl, tru34, trivial⟩ (by simp) (by kernel_rfl)
theorem tru200 : TrU tPSK 200 := tru_struct (ts := [.byt, .num .u32, .byt]) Try.underlying200 ⟨rfl, by kernel_rfl, tru23, rfl, by kernel_rfl, tru45, rfl, by kernel_rfl, tru23, trivial⟩ (by simp) (by kernel_rfl)
theorem tru92 : TrU (.lst tPSK) 92 := tru_lst Try.underlying92 (by kernel_rfl) (by decide) tru200
/-- An argument of small bulk: its cells, what they are. -/
theorem arg_up {H : Type} {enc : TypeId × Value → H} {W : World} {τ : TypeId} {d : DataW H} (hb : Rows.uptoBulk d ≤ 1048576) {t : Ty} (ht : TrU t τ) {v : Value} {ps : List MemPlace} (h : DataW.Trod enc Try.prog W 0 (fun _ => true) true τ v d ps) : ∃ y, Rel t (Bel W.heap.size) W v.cells.toList y ∧ SmU t y := by
  obtain ⟨fuel, hf⟩ := h
  exact ht enc W fuel _ _ hf hb
end Go.Proofs.Ytdhckndehijemaa
