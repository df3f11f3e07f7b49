/-
  Arguments opened by their types: cells that read as data of a type are data of a kind.
-/
import Derived.Test.YtdhckndehijemaaAr
import Derived.Test.YtdhckndehijemaaTh
import Derived.Deep.Slices
namespace Go.Proofs.Ytdhckndehijemaa
open Go.ChangeShapes Go.WideShapes Go.ChangeAt Go.RowKit Go.Deep
set_option linter.unusedVariables false
set_option maxRecDepth 100000

/-- No text and no list is longer than what a statement's bound allows. -/
def Sm : (t : Ty) → t.Dat → Prop
  | .str, x => List.length (α := Int) x ≤ 140737488351232
  | .byt, x => List.length (α := Int) x ≤ 140737488351232
  | .lst e, l => List.length (α := e.Dat) l ≤ 140737488351232 ∧ ∀ a : e.Dat, List.Mem a l → Sm e a
  | .pair a b, x => Sm a x.1 ∧ Sm b x.2
  | .num _, _ => True
  | .arr _, _ => True
  | .unit, _ => True

def TrR (t : Ty) (τ : TypeId) : Prop := ∀ {H : Type} (enc : TypeId × Value → H) (W : World) (fuel : Nat) (cs : List Value) (x : DataW H × List MemPlace),
  DataW.trod enc Try.prog W 0 (fun _ => true) true fuel τ cs = some x → (∀ n ∈ x.1.weights Try.prog τ, n ≤ 140737488351232) → ∃ y, Rel t (Bel W.heap.size) W cs y ∧ Sm t y

theorem wf_u8 {n : Int} (h : (Lit.int .u8 n).wf = true) : InK .u8 n := by
  have h0 : IntKind.u8.min = 0 := rfl
  have h1 : IntKind.u8.max = 255 := rfl
  simp only [Lit.wf, Bool.and_eq_true, decide_eq_true_eq] at h
  exact ⟨by omega, by show n < 256; omega⟩
theorem wf_u16 {n : Int} (h : (Lit.int .u16 n).wf = true) : InK .u16 n := by
  have h0 : IntKind.u16.min = 0 := rfl
  have h1 : IntKind.u16.max = 65535 := rfl
  simp only [Lit.wf, Bool.and_eq_true, decide_eq_true_eq] at h
  exact ⟨by omega, by show n < 65536; omega⟩
theorem wf_u32 {n : Int} (h : (Lit.int .u32 n).wf = true) : InK .u32 n := by
  have h0 : IntKind.u32.min = 0 := rfl
  have h1 : IntKind.u32.max = 4294967295 := rfl
  simp only [Lit.wf, Bool.and_eq_true, decide_eq_true_eq] at h
  exact ⟨by omega, by show n < 4294967296; omega⟩

theorem trr_num {k : IntKind} {τ : TypeId} (h : Try.prog.underlying τ = some (.int k)) (hk : ∀ n, (Lit.int k n).wf = true → InK k n) : TrR (.num k) τ := by
  intro H enc W fuel cs x ht hw
  obtain ⟨n, rfl, rfl, wf⟩ := DataW.trod_int h ht
  exact ⟨n, ⟨rfl, hk n wf⟩, trivial⟩

def numsOf (s : ByteArray) : List Int := s.data.toList.map fun b => (b.toNat : Int)
theorem nums_byt (s : ByteArray) : Byt (numsOf s) := by
  intro x hx
  obtain ⟨b, -, rfl⟩ := List.mem_map.1 hx
  have := b.toNat_lt
  omega
theorem nums_str (s : ByteArray) : strOfNums (numsOf s) = s := by
  obtain ⟨⟨l⟩⟩ := s
  have e : ((fun n : Int => UInt8.ofNat n.toNat) ∘ fun b : UInt8 => (b.toNat : Int)) = id := by funext b; simp
  unfold strOfNums numsOf
  simp [e]
theorem trr_str {τ : TypeId} (h : Try.prog.underlying τ = some .string) : TrR .str τ := by
  intro H enc W fuel cs x ht hw
  obtain ⟨s, rfl, rfl, hs⟩ := DataW.trod_string h ht
  have h1 : s.data.toList.length ≤ 140737488351232 := hw _ (by simp [DataW.weights])
  refine ⟨numsOf s, ⟨by rw [nums_str], nums_byt s⟩, ?_⟩
  show List.length (numsOf s) ≤ _
  unfold numsOf
  rw [List.length_map]
  exact h1

theorem weightsAll_mem {H : Type} {P : Program} {e : TypeId} : ∀ {l : List (DataW H)} {d : DataW H}, d ∈ l → ∀ n ∈ d.weights P e, n ∈ DataW.weightsAll P e l
  | x :: r, d, hd, n, hn => by
    rw [DataW.weightsAll, List.mem_append]
    rcases List.mem_cons.1 hd with rfl | hd
    · exact .inl hn
    · exact .inr (weightsAll_mem hd n hn)
  | [], d, hd, n, hn => by cases hd

noncomputable def datDef : (t : Ty) → t.Dat
  | .num _ => (0 : Int)
  | .str => ([] : List Int)
  | .byt => ([] : List Int)
  | .arr _ => ([] : List Int)
  | .lst e => ([] : List e.Dat)
  | .pair a b => (datDef a, datDef b)
  | .unit => ()

theorem trr_lst {e : Ty} {ε τ : TypeId} (h : Try.prog.underlying τ = some (.slice ε)) (hc : Try.prog.cellsOf ε = e.sz) (hb : 1 ≤ Try.prog.bytesOf ε) (hs : 0 < e.sz) (he : TrR e ε) : TrR (.lst e) τ := by
  intro H enc W fuel cs x ht hw
  rcases open_slice h ht with ⟨rfl, rfl⟩ | ⟨a, len, cap, m, n, D, Pl, rfl, hb0, hl, hm, hmm, rfl, hx⟩
  · exact ⟨([] : List e.Dat), ⟨none, 0, 0, rfl, rfl, Nat.le_refl _, by decide, fun _ => rfl, fun b e => by cases e⟩, by show ([] : List e.Dat).length ≤ _; simp, fun a ha => by cases ha⟩
  · simp only [if_true] at hmm
    subst hmm
    have hw' : ∀ n ∈ (((List.range len).map D).length + ((List.range (m - len)).map fun j => D (len + j)).length) * Try.prog.bytesOf ε :: (DataW.weightsAll Try.prog ε ((List.range len).map D) ++ DataW.weightsAll Try.prog ε ((List.range (m - len)).map fun j => D (len + j))), n ≤ 140737488351232 := by
      intro n hn
      refine hw n ?_
      show n ∈ DataW.weights Try.prog τ (.slice _ _)
      rw [DataW.weights, h]
      exact hn
    have hlen : len ≤ 140737488351232 := by
      have h1 := hw' _ (List.mem_cons_self ..)
      simp only [List.length_map, List.length_range] at h1
      have h2 : len + (m - len) ≤ (len + (m - len)) * Try.prog.bytesOf ε := Nat.le_mul_of_pos_right _ hb
      omega
    have hel : ∀ i, i < len → ∃ y : e.Dat, (a.block < W.heap.size ∧ ∃ us', Rel e (Bel W.heap.size) W us' y ∧ ∀ j u, us'[j]? = some u → W.cell? (a.add (i * e.sz + j)) = some u) ∧ Sm e y := by
      intro i hi
      obtain ⟨cs', h1, h2⟩ := hx i (by omega)
      obtain ⟨-, h3, h4⟩ := World.cells?_some h1
      rw [hc] at h3 h4
      obtain ⟨y, r1, r2⟩ := he enc W n cs' (D i, Pl i) h2 (fun q hq => hw' q (List.mem_cons_of_mem _ (List.mem_append_left _ (weightsAll_mem (List.mem_map.2 ⟨i, List.mem_range.2 hi, rfl⟩) q hq))))
      refine ⟨y, ⟨?_, cs', r1, fun j u hu => ?_⟩, r2⟩
      · have h5 := h4 0 hs
        have h6 : cs'[0]? = some (cs'[0]'(by omega)) := List.getElem?_eq_getElem _
        rw [h6] at h5
        have := World.block_lt_of_cell? W _ h5
        rwa [add_block, add_block] at this
      · have hj := (List.getElem?_eq_some_iff.1 hu).1
        have h5 := h4 j (by omega)
        rw [add_add, hu] at h5
        exact h5
    haveI : Inhabited e.Dat := ⟨datDef e⟩
    obtain ⟨Y, hY⟩ := Go.Deep.choose_lt hel
    refine ⟨(List.range len).map Y, ⟨some a, len, m, rfl, by show len = List.length _; simp, hl, hm, (fun e => by cases e), fun b eb j y hj => ?_⟩, ?_, fun y hy => ?_⟩
    · injection eb with eb
      subst eb
      have hj' : ((List.range len).map Y)[j]? = some y := hj
      have hjl : j < len := by
        rcases Nat.lt_or_ge j len with h' | h'
        · exact h'
        · rw [List.getElem?_eq_none (by simpa using h')] at hj'
          cases hj'
      rw [List.getElem?_map, List.getElem?_range hjl] at hj'
      simp only [Option.map_some, Option.some.injEq] at hj'
      rw [← hj']
      exact (hY j hjl).1
    · show List.length _ ≤ _
      simpa using hlen
    · have hy' : y ∈ (List.range len).map Y := hy
      obtain ⟨i, hi, rfl⟩ := List.mem_map.1 hy'
      exact (hY i (List.mem_range.1 hi)).2

def nest : List Ty → Ty
  | [] => .unit
  | [t] => t
  | t :: u :: ts => .pair t (nest (u :: ts))
def total : List Ty → Nat
  | [] => 0
  | t :: ts => t.sz + total ts
def FOk : List Ty → List Field → Nat → Prop
  | [], [], _ => True
  | t :: ts, f :: fs, o => f.offset = o ∧ Try.prog.cellsOf f.type = t.sz ∧ TrR t f.type ∧ FOk ts fs (o + t.sz)
  | _, _, _ => False

theorem trr_fields {H : Type} (enc : TypeId × Value → H) (W : World) (n : Nat) (cs : List Value) : ∀ (ts : List Ty) (fs : List Field) (o : Nat) (xs : List (DataW H × List MemPlace)), FOk ts fs o → ts ≠ [] → cs.length = o + total ts → xs.length = fs.length →
    (∀ (i : Nat) (f : Field), fs[i]? = some f → DataW.trod enc Try.prog W 0 (fun _ => true) true n f.type ((cs.drop f.offset).take (Try.prog.cellsOf f.type)) = xs[i]?) →
    (∀ q ∈ DataW.weightsEach Try.prog (fs.map (·.type)) (xs.map (·.1)), q ≤ 140737488351232) → ∃ y, Rel (nest ts) (Bel W.heap.size) W (cs.drop o) y ∧ Sm (nest ts) y
  | [], _, _, _, _, hne, _, _, _, _ => absurd rfl hne
  | t :: ts, [], _, _, hf, _, _, _, _, _ => hf.elim
  | t :: ts, f :: fs, o, [], _, _, _, hl, _, _ => by simp at hl
  | [t], [f], o, x :: xs, hf, _, hc, hl, hx, hw => by
    obtain ⟨h1, h2, h3, -⟩ := hf
    have h4 := hx 0 f rfl
    rw [h1, h2] at h4
    have h5 : (cs.drop o).take t.sz = cs.drop o := List.take_of_length_le (by rw [List.length_drop, hc]; simp [total])
    rw [h5] at h4
    exact h3 enc W n _ x h4 (fun q hq => hw q (by simp only [List.map_cons, DataW.weightsEach]; exact List.mem_append_left _ hq))
  | [t], f :: g :: fs, o, x :: xs, hf, _, _, _, _, _ => by obtain ⟨-, -, -, h⟩ := hf; exact h.elim
  | t :: u :: ts, f :: fs, o, x :: xs, hf, _, hc, hl, hx, hw => by
    obtain ⟨h1, h2, h3, h3'⟩ := hf
    have h4 := hx 0 f rfl
    rw [h1, h2] at h4
    obtain ⟨y1, r1, s1⟩ := h3 enc W n _ x h4 (fun q hq => hw q (by simp only [List.map_cons, DataW.weightsEach]; exact List.mem_append_left _ hq))
    obtain ⟨y2, r2, s2⟩ := trr_fields enc W n cs (u :: ts) fs (o + t.sz) xs h3' (by simp) (by rw [hc]; simp [total]; omega) (by simpa using hl) (fun i g hg => hx (i + 1) g hg) (fun q hq => hw q (by simp only [List.map_cons, DataW.weightsEach]; exact List.mem_append_right _ hq))
    refine ⟨(y1, y2), ⟨(cs.drop o).take t.sz, cs.drop (o + t.sz), ?_, r1, r2⟩, s1, s2⟩
    rw [← List.drop_drop, List.take_append_drop]

theorem trr_struct {ts : List Ty} {τ : TypeId} {fs : Array Field} (h : Try.prog.underlying τ = some (.struct fs)) (hf : FOk ts fs.toList 0) (hne : ts ≠ []) (hc : Try.prog.cellsOf τ = total ts) : TrR (nest ts) τ := by
  intro H enc W fuel cs x ht hw
  obtain ⟨xs, n, rfl, rfl, h1, h2, h3⟩ := DataW.trod_struct h ht
  have := trr_fields enc W n cs ts fs.toList 0 xs hf hne (by rw [h1, hc]; omega) (by simpa using h2) (fun i f hi => h3 i f (by rw [← Array.getElem?_toList]; exact hi)) (fun q hq => hw q (by
    show q ∈ DataW.weights Try.prog τ (.agg _)
    rw [DataW.weights, h]
    exact hq))
  rwa [List.drop_zero] at this

theorem trr_list {τ : TypeId} (h : TrR (.lst (.num .u8)) τ) : TrR .byt τ := by
  intro H enc W fuel cs x ht hw
  obtain ⟨y, r, s⟩ := h enc W fuel cs x ht hw
  exact ⟨y, r.toByt, s.1⟩
theorem trr5 : TrR (.num .u8) 5 := trr_num Try.underlying5 (fun _ h => wf_u8 h)
theorem trr32 : TrR (.num .u16) 32 := trr_num Try.underlying32 (fun _ h => wf_u16 h)
theorem trr45 : TrR (.num .u32) 45 := trr_num Try.underlying45 (fun _ h => wf_u32 h)
theorem trr9 : TrR .str 9 := trr_str Try.underlying9
theorem trr23 : TrR .byt 23 := trr_list (trr_lst Try.underlying23 (by rw [cells5]; rfl) (by rw [bytes5]; decide) (by decide) trr5)
theorem trr33 : TrR (.lst (.num .u16)) 33 := trr_lst Try.underlying33 (by kernel_rfl) (of_decide_eq_true (by kernel_rfl)) (by decide) trr32
theorem trr76 : TrR (.lst .str) 76 := trr_lst Try.underlying76 (by kernel_rfl) (of_decide_eq_true (by kernel_rfl)) (by decide) trr9
theorem trr135 : TrR tExt 135 := trr_struct (ts := [.num .u16, .byt]) Try.underlying135 ⟨rfl, by kernel_rfl, trr32, rfl, by kernel_rfl, trr23, trivial⟩ (by simp) (by kernel_rfl)
theorem trr87 : TrR tExt 87 := trr_struct (ts := [.num .u16, .byt]) Try.underlying87 ⟨rfl, by kernel_rfl, trr32, rfl, by kernel_rfl, trr23, trivial⟩ (by simp) (by kernel_rfl)
theorem trr49 : TrR tExt 49 := trr_struct (ts := [.num .u16, .byt]) Try.underlying49 ⟨rfl, by kernel_rfl, trr32, rfl, by kernel_rfl, trr23, trivial⟩ (by simp) (by kernel_rfl)
theorem trr34 : TrR (.lst tExt) 34 := trr_lst Try.underlying34 (by kernel_rfl) (of_decide_eq_true (by kernel_rfl)) (by decide) trr135
theorem trr82 : TrR (.lst tExt) 82 := trr_lst Try.underlying82 (by kernel_rfl) (of_decide_eq_true (by kernel_rfl)) (by decide) trr87
theorem trr146 : TrR tEntry 146 := trr_struct (ts := [.byt, .lst tExt]) Try.underlying146 ⟨rfl, by kernel_rfl, trr23, rfl, by kernel_rfl, trr34, trivial⟩ (by simp) (by kernel_rfl)
theorem trr42 : TrR (.lst tEntry) 42 := trr_lst Try.underlying42 (by kernel_rfl) (of_decide_eq_true (by kernel_rfl)) (by decide) trr146
theorem trr44 : TrR tCert 44 := trr_struct (ts := [.byt, .lst tEntry]) Try.underlying44 ⟨rfl, by kernel_rfl, trr23, rfl, by kernel_rfl, trr42, trivial⟩ (by simp) (by kernel_rfl)
theorem trr47 : TrR tTick 47 := trr_struct (ts := [.num .u32, .num .u32, .byt, .byt, .lst tExt]) Try.underlying47 ⟨rfl, by kernel_rfl, trr45, rfl, by kernel_rfl, trr45, rfl, by kernel_rfl, trr23, rfl, by kernel_rfl, trr23, rfl, by kernel_rfl, trr34, trivial⟩ (by simp) (by kernel_rfl)
theorem trr200 : TrR tPSK 200 := trr_struct (ts := [.byt, .num .u32, .byt]) Try.underlying200 ⟨rfl, by kernel_rfl, trr23, rfl, by kernel_rfl, trr45, rfl, by kernel_rfl, trr23, trivial⟩ (by simp) (by kernel_rfl)
theorem trr92 : TrR (.lst tPSK) 92 := trr_lst Try.underlying92 (by kernel_rfl) (of_decide_eq_true (by kernel_rfl)) (by decide) trr200
theorem trr98 : TrR tData 98 := trr_struct (ts := [.str, .lst (.num .u16), .lst .str, .byt, .lst tExt, .lst tPSK, .lst tExt, .num .u16]) Try.underlying98
  ⟨rfl, by kernel_rfl, trr9, rfl, by kernel_rfl, trr33, rfl, by kernel_rfl, trr76, rfl, by kernel_rfl, trr23, rfl, by kernel_rfl, trr82, rfl, by kernel_rfl, trr92, rfl, by kernel_rfl, trr34, rfl, by kernel_rfl, trr32, trivial⟩ (by simp) (by kernel_rfl)

/-- An argument that is a struct: its cells, what they are. -/
theorem arg_in {H : Type} {enc : TypeId × Value → H} {W : World} {ts : List TypeId} {ds : List (DataW H)} (hsz : (DataW.weightsEach Try.prog ts ds).all (· ≤ reachBytes) = true) {j : Nat} {τ : TypeId} (hj : ts[j]? = some τ) {d : DataW H} (hd : ds[j]? = some d)
    {t : Ty} (ht : TrR t τ) {v : Value} {ps : List MemPlace} (h : DataW.Trod enc Try.prog W 0 (fun _ => true) true τ v d ps) : ∃ y, Rel t (Bel W.heap.size) W v.cells.toList y ∧ Sm t y := by
  obtain ⟨fuel, hf⟩ := h
  refine ht enc W fuel _ _ hf (fun n hn => ?_)
  have := List.all_eq_true.1 hsz _ (DataW.weights_mem_each hj hd n hn)
  have h2 := of_decide_eq_true this
  unfold reachBytes at h2
  omega

theorem Rel.byt1 {F : Nat → Prop} {w : World} {us : List Value} {x : List Int} (h : Rel .byt F w us x) : ∃ a l c, us = [.slice a l c] := by
  obtain ⟨v, rfl, h3, -⟩ := h
  obtain ⟨ao, n, c, rfl, -⟩ := h3.shape
  exact ⟨ao, n, c, rfl⟩
theorem Rel.lst1 {e : Ty} {F : Nat → Prop} {w : World} {us : List Value} {x : List e.Dat} (h : Rel (.lst e) F w us x) : ∃ a l c, us = [.slice a l c] := by
  obtain ⟨ao, n, c, rfl, -⟩ := h
  exact ⟨ao, n, c, rfl⟩
theorem Rel.num1 {k : IntKind} {F : Nat → Prop} {w : World} {us : List Value} {x : (Ty.num k).Dat} (h : Rel (.num k) F w us x) : ∃ n : Int, us = [.int k n] := ⟨x, h.1⟩
theorem Rel.str1 {F : Nat → Prop} {w : World} {us : List Value} {x : List Int} (h : Rel .str F w us x) : ∃ S, us = [.string S] := ⟨_, h.1⟩
end Go.Proofs.Ytdhckndehijemaa
