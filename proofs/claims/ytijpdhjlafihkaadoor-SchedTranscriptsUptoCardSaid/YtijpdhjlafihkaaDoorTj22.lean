/-
  The document's words and states by 32 bits, as plain functions.
-/
import Derived.Test.YtijpdhjlafihkaaDoorTj05
import Derived.Test.YtijpdhjlafihkaaDoorTj21
import Derived.Deep.RegionLaw
namespace Go.Proofs.YtijpdhjlafihkaaDoor
open Go.RowKit
set_option linter.unusedVariables false
set_option maxRecDepth 100000

/-- A word of four bytes, as the document makes it. -/
def wordR (d : Nat → Int) (t : Nat) : Int :=
  Go.bits .or .u32 (Go.bits .or .u32 (Go.bits .or .u32 (IntKind.u32.wrap (IntKind.u32.wrap (d (4 * t)) * 16777216)) (IntKind.u32.wrap (IntKind.u32.wrap (d (4 * t + 1)) * 65536))) (IntKind.u32.wrap (IntKind.u32.wrap (d (4 * t + 2)) * 256))) (IntKind.u32.wrap (d (4 * t + 3)))
def firstR (d : Nat → Int) (t : Nat) : Nat → Int := fun j => if j < t then wordR d j else 0
def wordsR (d : Nat → Int) : Nat → Int := moreW .u32 (turn2 .u32 7 18 3) (turn2 .u32 17 19 10) (firstR d 16) 48
/-- A block mixed into the state, as the document does it. -/
def mixR (s d : Nat → Int) : Nat → Int := fun i => IntKind.u32.wrap (s i + (rnds .u32 (turn3 .u32 2 13 22) (turn3 .u32 6 11 25) number32 (wordsR d) (St.of s) 64).at i)
def refN (f : Nat → Int) : Nat → (Nat → Int)
  | 0 => startOf 1
  | k + 1 => mixR (refN f k) (fun j => f (64 * k + j))

/-- The bytes of so many words. -/
def outR (s : Nat → Int) : Nat → List Int
  | 0 => []
  | e + 1 => outR s e ++ [IntKind.u8.wrap (s e / 16777216), IntKind.u8.wrap (s e / 65536), IntKind.u8.wrap (s e / 256), IntKind.u8.wrap (s e)]
end Go.Proofs.YtijpdhjlafihkaaDoor
namespace Go.Proofs.YtijpdhjlafihkaaDoor
open Go.RowKit
set_option linter.unusedVariables false
set_option maxRecDepth 100000

theorem zero64_32 : (∀ w, (zeroValue 88).run Tryd.prog w = .ok (.agg (arr .u32 64 fun _ => 0)) w) ∧ (Tryd.prog.info? 88).map (·.size) = some 64 := zero_of_info (by kernel_rfl)
set_option maxRecDepth 100000 in
theorem built53 : Tryd.prog.built 88 [(0, .int .u32 1116352408), (1, .int .u32 1899447441), (2, .int .u32 3049323471), (3, .int .u32 3921009573), (4, .int .u32 961987163), (5, .int .u32 1508970993), (6, .int .u32 2453635748), (7, .int .u32 2870763221), (8, .int .u32 3624381080), (9, .int .u32 310598401), (10, .int .u32 607225278), (11, .int .u32 1426881987), (12, .int .u32 1925078388), (13, .int .u32 2162078206), (14, .int .u32 2614888103), (15, .int .u32 3248222580), (16, .int .u32 3835390401), (17, .int .u32 4022224774), (18, .int .u32 264347078), (19, .int .u32 604807628), (20, .int .u32 770255983), (21, .int .u32 1249150122), (22, .int .u32 1555081692), (23, .int .u32 1996064986), (24, .int .u32 2554220882), (25, .int .u32 2821834349), (26, .int .u32 2952996808), (27, .int .u32 3210313671), (28, .int .u32 3336571891), (29, .int .u32 3584528711), (30, .int .u32 113926993), (31, .int .u32 338241895), (32, .int .u32 666307205), (33, .int .u32 773529912), (34, .int .u32 1294757372), (35, .int .u32 1396182291), (36, .int .u32 1695183700), (37, .int .u32 1986661051), (38, .int .u32 2177026350), (39, .int .u32 2456956037), (40, .int .u32 2730485921), (41, .int .u32 2820302411), (42, .int .u32 3259730800), (43, .int .u32 3345764771), (44, .int .u32 3516065817), (45, .int .u32 3600352804), (46, .int .u32 4094571909), (47, .int .u32 275423344), (48, .int .u32 430227734), (49, .int .u32 506948616), (50, .int .u32 659060556), (51, .int .u32 883997877), (52, .int .u32 958139571), (53, .int .u32 1322822218), (54, .int .u32 1537002063), (55, .int .u32 1747873779), (56, .int .u32 1955562222), (57, .int .u32 2024104815), (58, .int .u32 2227730452), (59, .int .u32 2361852424), (60, .int .u32 2428436474), (61, .int .u32 2756734187), (62, .int .u32 3204031479), (63, .int .u32 3329325298)] = some (arr .u32 64 number32) := by kernel_rfl

/-- The state while it is laid anew, word by word. -/
def halfR (s s' : Nat → Int) (i : Nat) : Nat → Int := fun j => if j < i then s' j else s j
theorem OwnV.drew {w : World} {v : Value} {xs : List Int} (h : Ap.OwnV w v xs) : Ap.OwnV w.drew v xs := h.keep (fun _ _ => rfl)
theorem step_app {ops : Array Oper} {o : Oper} {a : Act} {w : World} {K : Act → World → Prop} {Q : Exit → Act → World → Prop} {E : Prop}
    (hg : o.guard = none) (s x : Operand) (hop : o.op = Op.call { callee := Callee.builtin Builtin.append, args := #[s, x], argTypes := #[23, 23] })
    (v sv : Value) (xs ys : List Int) (hs : a.eval s = v) (hx : a.eval x = sv) (hv : Ap.OwnV w v xs) (hr : Ap.Rd w sv ys) (hb : xs.length + ys.length ≤ 140737488355328)
    (hK : ∀ v' w', Ap.OwnV w' v' (xs ++ ys) → Ap.Chg (fun k => v.ownBlock = some k) w w' → (v'.ownBlock = v.ownBlock ∨ v'.ownBlock = some w.heap.size) → K (a.put o.dst v') w') :
    if Region.wanted o (yielded ops a.tmps) = true then Oper.wp Tryd.prog o a w K Q else E := by
  have hw : Region.wanted o (yielded ops a.tmps) = true := by simp [Region.wanted, hg]
  rw [if_pos hw]
  obtain ⟨v', w', hrun, r1, r2, r3⟩ := Ap.run_app o.type w v sv xs ys hv hr hb
  unfold Oper.wp
  simp [execOp, hop, resolve, invoke, builtin, hs, hx, hrun, Result.andThen]
  exact hK v' w' r1 r2 r3
theorem Rd.four (w : World) (a b c d : Int) : Ap.Rd (w.alloc (.cells #[.int .u8 a, .int .u8 b, .int .u8 c, .int .u8 d] 5)) (.slice (some ⟨w.heap.size, 0, none⟩) 4 4) [a, b, c, d] := by
  refine ⟨_, _, _, rfl, rfl, Nat.le_refl _, by decide, fun e => by (cases e), fun x e j u hj => ?_⟩
  cases e
  match j, hj with
  | 0, hj => simp at hj; subst hj; simp [Addr.add]
  | 1, hj => simp at hj; subst hj; simp [Addr.add]
  | 2, hj => simp at hj; subst hj; simp [Addr.add]
  | 3, hj => simp at hj; subst hj; simp [Addr.add]
theorem OwnN.drew {w u : World} {v : Value} {xs : List Int} (h : OwnN w u v xs) : OwnN w u.drew v xs := ⟨OwnV.drew h.own, h.new, h.chg.drew⟩

theorem Ar.apN {w w' : World} {b : Nat} {c : Array Value} {S : Nat → Prop} (h : Ar w b c) (k : Ap.Chg S w w') (hn : ¬ S b) : Ar w' b c := by
  have hl := h.lt
  obtain ⟨t, h⟩ := h
  exact ⟨t, (k.block b hl hn).trans h⟩
theorem outR_len (s : Nat → Int) (e : Nat) : (outR s e).length = 4 * e := by
  induction e with
  | zero => rfl
  | succ e ih => simp only [outR, List.length_append, List.length_cons, List.length_nil, ih]; omega
theorem Chg.toAp {w w' : World} (h : Chg w w') : Ap.Chg Ap.Non w w' := ⟨h.os, h.tape, h.output, h.size, fun k hk _ => h.block k hk⟩
theorem Chg.ofAp {w w' : World} (h : Ap.Chg Ap.Non w w') : Chg w w' := ⟨h.os, h.tape, h.output, h.size, fun k hk => h.block k hk (fun e => e.elim)⟩
theorem Ar.drewN {w : World} {b : Nat} {c : Array Value} (h : Ar w b c) (n : Nat) : Ar (w.drewN n) b c := h
theorem Ar.setN {w : World} {b : Nat} {κ : IntKind} {n : Nat} {d : Nat → Int} (h : Ar w b (arr κ n d)) (i : Nat) (x : Int) {N : Nat} : Ar ((w.drewN N).setCell ⟨b, i, none⟩ (.int κ x)) b (arr κ n (upd d i x)) := by
  have := (Ar.drewN h N).set i (.int κ x)
  rw [arr_set] at this
  exact this
theorem Chg.set8 {a u : World} (h : Chg a u) {b : Nat} (hb : a.heap.size ≤ b) (κ : IntKind) (x0 x1 x2 x3 x4 x5 x6 x7 : Int) : Chg a ((((((((u.setCell ⟨b, 0, none⟩ (.int κ x0)).setCell ⟨b, 1, none⟩ (.int κ x1)).setCell ⟨b, 2, none⟩ (.int κ x2)).setCell ⟨b, 3, none⟩ (.int κ x3)).setCell ⟨b, 4, none⟩ (.int κ x4)).setCell ⟨b, 5, none⟩ (.int κ x5)).setCell ⟨b, 6, none⟩ (.int κ x6)).setCell ⟨b, 7, none⟩ (.int κ x7)) :=
  ((((((((h.setCell hb _).setCell hb _).setCell hb _).setCell hb _).setCell hb _).setCell hb _).setCell hb _).setCell hb _)
theorem Ar.oth8 {u : World} {g : Nat} {c : Array Value} (h : Ar u g c) {b : Nat} (hb : g ≠ b) (κ : IntKind) (x0 x1 x2 x3 x4 x5 x6 x7 : Int) : Ar ((((((((u.setCell ⟨b, 0, none⟩ (.int κ x0)).setCell ⟨b, 1, none⟩ (.int κ x1)).setCell ⟨b, 2, none⟩ (.int κ x2)).setCell ⟨b, 3, none⟩ (.int κ x3)).setCell ⟨b, 4, none⟩ (.int κ x4)).setCell ⟨b, 5, none⟩ (.int κ x5)).setCell ⟨b, 6, none⟩ (.int κ x6)).setCell ⟨b, 7, none⟩ (.int κ x7)) g c :=
  ((((((((h.other hb _).other hb _).other hb _).other hb _).other hb _).other hb _).other hb _).other hb _)
theorem Bs.oth8 {u : World} {g off m : Nat} {F : Nat → Int} (h : Bs u g off m F) {b : Nat} (hb : g ≠ b) (κ : IntKind) (x0 x1 x2 x3 x4 x5 x6 x7 : Int) : Bs ((((((((u.setCell ⟨b, 0, none⟩ (.int κ x0)).setCell ⟨b, 1, none⟩ (.int κ x1)).setCell ⟨b, 2, none⟩ (.int κ x2)).setCell ⟨b, 3, none⟩ (.int κ x3)).setCell ⟨b, 4, none⟩ (.int κ x4)).setCell ⟨b, 5, none⟩ (.int κ x5)).setCell ⟨b, 6, none⟩ (.int κ x6)).setCell ⟨b, 7, none⟩ (.int κ x7)) g off m F := fun j hj =>
  cell_set _ (cell_set _ (cell_set _ (cell_set _ (cell_set _ (cell_set _ (cell_set _ (cell_set _ (h j hj) (fun e => absurd e hb)) (fun e => absurd e hb)) (fun e => absurd e hb)) (fun e => absurd e hb)) (fun e => absurd e hb)) (fun e => absurd e hb)) (fun e => absurd e hb)) (fun e => absurd e hb)
theorem Ar.set8 {u : World} {b : Nat} {κ : IntKind} {f : Nat → Int} (h : Ar u b (arr κ 8 f)) (x0 x1 x2 x3 x4 x5 x6 x7 : Int) (e : Nat → Int) (h0 : e 0 = x0) (h1 : e 1 = x1) (h2 : e 2 = x2) (h3 : e 3 = x3) (h4 : e 4 = x4) (h5 : e 5 = x5) (h6 : e 6 = x6) (h7 : e 7 = x7) : Ar ((((((((u.setCell ⟨b, 0, none⟩ (.int κ x0)).setCell ⟨b, 1, none⟩ (.int κ x1)).setCell ⟨b, 2, none⟩ (.int κ x2)).setCell ⟨b, 3, none⟩ (.int κ x3)).setCell ⟨b, 4, none⟩ (.int κ x4)).setCell ⟨b, 5, none⟩ (.int κ x5)).setCell ⟨b, 6, none⟩ (.int κ x6)).setCell ⟨b, 7, none⟩ (.int κ x7)) b (arr κ 8 e) := by
  have hh := (((((((h.set 0 (.int κ x0)).set 1 (.int κ x1)).set 2 (.int κ x2)).set 3 (.int κ x3)).set 4 (.int κ x4)).set 5 (.int κ x5)).set 6 (.int κ x6)).set 7 (.int κ x7)
  rw [arr_set, arr_set, arr_set, arr_set, arr_set, arr_set, arr_set, arr_set] at hh
  have e' : arr κ 8 (upd (upd (upd (upd (upd (upd (upd (upd f 0 x0) 1 x1) 2 x2) 3 x3) 4 x4) 5 x5) 6 x6) 7 x7) = arr κ 8 e := arr_congr fun i hi => by
    have : i = 0 ∨ i = 1 ∨ i = 2 ∨ i = 3 ∨ i = 4 ∨ i = 5 ∨ i = 6 ∨ i = 7 := by omega
    rcases this with rfl | rfl | rfl | rfl | rfl | rfl | rfl | rfl <;> simp [upd, *]
  rw [e'] at hh
  exact hh
theorem padL_len64 (n : Nat) : ∃ M, n + (padL 64 n).length = 64 * M := by
  refine ⟨(n + (padL 64 n).length) / 64, ?_⟩
  simp only [padL, padE, padK, List.length_append, List.length_replicate, List.length_cons, List.length_nil, List.length_map, List.length_range]
  omega
theorem Own.bs {w : World} {g off n cap : Nat} {xs : List Int} (h : Ap.Own w g off n cap xs) : Bs w g off xs.length (fun j => xs.getD j 0) := fun j hj => by
  rw [h.cell j xs[j] (List.getElem?_eq_getElem hj)]
  simp [List.getD_eq_getElem?_getD, List.getElem?_eq_getElem hj]
theorem padL_len128 (n : Nat) : ∃ M, n + (padL 128 n).length = 128 * M := by
  refine ⟨(n + (padL 128 n).length) / 128, ?_⟩
  simp only [padL, padE, padK, List.length_append, List.length_replicate, List.length_cons, List.length_nil, List.length_map, List.length_range]
  omega
end Go.Proofs.YtijpdhjlafihkaaDoor
