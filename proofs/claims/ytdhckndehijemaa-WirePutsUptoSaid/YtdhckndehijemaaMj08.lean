/-
  The parsers of the chapter's bodies, plainly; readings put together.
-/
import Derived.Test.YtdhckndehijemaaLb
import Derived.Maps.Own
import Derived.Maps.OwnSet
import Derived.Maps.Views
namespace Go.Proofs.Ytdhckndehijemaa
open Go.RowKit
set_option linter.unusedVariables false
set_option maxRecDepth 100000

def pPair {α β : Type} (p : Pr α) (q : Pr β) : Pr (α × β) := pBind p fun x => pBind q fun y => pRet (x, y)
theorem pPair_shr {α β : Type} {p : Pr α} {q : Pr β} (h : Shr p) (k : Shq q) : Shr (pPair p q) := pBind_shr h fun _ => pBind_shq k fun _ => pRet_shq _
theorem pPair_shq {α β : Type} {p : Pr α} {q : Pr β} (h : Shq p) (k : Shq q) : Shq (pPair p q) := pBind_shq h fun _ => pBind_shq k fun _ => pRet_shq _

def pBytes (size least most : Nat) : Pr (List Int) := pList size least most (pDig 1)
theorem pBytes_shr {size least most : Nat} (h : 0 < size) : Shr (pBytes size least most) := pList_shr h

abbrev tExt : Ty := .pair (.num .u16) .byt
def pExt : Pr (Int × List Int) := pPair (pDig 2) (pBytes 2 0 16777216)
theorem pExt_shr : Shr pExt := pPair_shr (pDig_shr (by decide)) (pBytes_shr (by decide)).shq

theorem RP.pair {ta tb : Ty} {pa : Pr ta.Dat} {pb : Pr tb.Dat} {a b c : World} {r : Nat} {s s1 : St} {us1 us2 : List Value} {x1 : ta.Dat} {x2 : tb.Dat} (h1 : RP ta pa a b r s us1 x1) (q : Res pa s x1 s1) (h2 : RP tb pb b c r s1 us2 x2) (hr : r < a.heap.size) :
    RP (.pair ta tb) (pPair pa pb) a c r s (us1 ++ us2) (x1, x2) := by
  obtain ⟨s2, k1, k2⟩ := h2.ps.st
  refine ⟨⟨us1, us2, rfl, ?_, ?_⟩, h1.ps.chg.one h2.ps.chg, s2, k1, q.bind (k2.bind (Res.ret _ _))⟩
  · exact (h1.rel.chg h2.ps.chg (fun k e => by have e' : k = r := e; omega)).btw (Nat.le_refl _) h2.ps.chg.size
  · exact h2.rel.btw h1.ps.chg.size (Nat.le_refl _)
theorem RP.ahead {t : Ty} {p : Pr t.Dat} {a b c : World} {r : Nat} {s : St} {us : List Value} {x : t.Dat} (h : RP t p b c r s us x) (k : Chg Non a b) : RP t p a c r s us x :=
  ⟨h.rel.btw k.size (Nat.le_refl _), h.ps.ahead k⟩
theorem RP.after {t : Ty} {p : Pr t.Dat} {a b c : World} {r : Nat} {s : St} {us : List Value} {x : t.Dat} (h : RP t p a b r s us x) (k : Chg Non b c) : RP t p a c r s us x :=
  ⟨(h.rel.oldN k).btw (Nat.le_refl _) k.size, h.ps.after k⟩
/-- The result's own cell is new. -/
theorem RP.outC {t : Ty} {p : Pr t.Dat} {w w0 b b' : World} {r : Nat} {s : St} {us : List Value} {x : t.Dat} (h : RP t p w0 b r s us x) (k : Chg Non w w0) (k0 : w.heap.size < w0.heap.size) (c : Chg (One w.heap.size) b b') (hr : r < w.heap.size) : RP t p w b' r s us x := by
  obtain ⟨s2, k1, k2⟩ := h.ps.st
  refine ⟨(h.rel.chg c (fun i e => by have e' : i = w.heap.size := e; omega)).btw (by omega) c.size, ⟨((k.non _).trans h.ps.chg (fun _ _ q => q)).trans c (fun i hi e => by have e' : i = w.heap.size := e; omega), s2, k1.keep c (fun i e => by have e' : i = w.heap.size := e; omega), k2⟩⟩
theorem RP.map {t t' : Ty} {p : Pr t.Dat} {a b : World} {r : Nat} {s : St} {us : List Value} {x : t.Dat} (f : t.Dat → t'.Dat) (h : RP t p a b r s us x) (hf : Rel t (Btw a.heap.size b.heap.size) b us x → Rel t' (Btw a.heap.size b.heap.size) b us (f x)) : RP t' (pBind p fun y => pRet (f y)) a b r s us (f x) :=
  ⟨hf h.rel, h.ps.map f⟩
theorem RP.byt {p : Pr (List Int)} {a b : World} {r : Nat} {s : St} {us : List Value} {x : List Int} (h : RP (.lst (.num .u8)) p a b r s us x) : RP .byt p a b r s us x := ⟨h.rel.toByt, h.ps⟩
theorem RP.slice {t : Ty} {p : Pr (List t.Dat)} {a b : World} {r : Nat} {s : St} {v : Value} {x : List t.Dat} (h : RP (.lst t) p a b r s [v] x) : ∃ ao n c, v = .slice ao n c := by
  obtain ⟨ao, n, c, e, -⟩ := h.rel
  injection e with e
  exact ⟨ao, n, c, e⟩

theorem chg_two (w : World) (B : Nat) (a b : Value) : Chg (One B) w ((w.setCell ⟨B, 0, none⟩ a).setCell ⟨B, 1, none⟩ b) := (chg_rest w B 0 a).one (chg_rest _ B 1 b)

theorem und23 : Try.prog.underlying 23 = some (.slice 5) := Try.underlying23

set_option maxHeartbeats 1600000 in
theorem ext_any (r : Nat) (s : St) (w : World) (h : RS w r s) : Calls Try.prog 198 #[.pointer (some ⟨r, 0, none⟩)] w fun e w' => ∃ n ao L c x, e = .returned (.agg #[.int .u16 n, .slice ao L c]) ∧ RP tExt pExt w w' r s [.int .u16 n, .slice ao L c] x := by
  obtain ⟨w0, hw0⟩ : ∃ w0, w0 = w.alloc (.cells #[.int .u16 0, .slice none 0 0] 135) := ⟨_, rfl⟩
  have c0 : Chg Non w w0 := by rw [hw0]; exact (Chg.refl _ _).alloc _
  have H0 : Hid (r < w.heap.size ∧ Chg Non w w0 ∧ w.heap.size < w0.heap.size ∧ w0.heap[w.heap.size]? = some (.cells #[.int .u16 0, .slice none 0 0] 135)) := ⟨h.lt, c0, by rw [hw0]; simp, by rw [hw0]; exact heap_alloc_last w _⟩
  have HW0 : Hid (w0 = w.alloc (.cells #[.int .u16 0, .slice none 0 0] 135)) := hw0
  have h1 := number_any r s w0 (h.non c0)
  clear h c0 hw0
  go_enter Try.func198, Try.ntmps198
  go_wp2_with fail
  rw [← HW0.out]
  refine h1.mono ?_
  rintro e w1 ⟨n, rfl, hn⟩
  obtain ⟨s1, q1, q2⟩ := hn.ps.st
  have H1 : Hid (RP (.num .u16) (pDig 2) w0 w1 r s [.int .u16 n] n ∧ Res (pDig 2) s n s1 ∧ RS w1 r s1) := ⟨hn.rp2, q2, q1⟩
  clear hn q1 q2 h1
  go_wp2_with (go_at_call 197; refine (free_any 2 w1).mono ?_)
  rintro e w2 ⟨rfl, hc⟩
  have h2 := listB_any r 2 0 16777216 2 0 16777216 rfl rfl rfl (by decide) (by decide) s1 w2 (H1.out.2.2.non hc)
  have C2 : Hid (Chg Non w1 w2) := hc
  clear hc
  go_wp2_with (go_at_call 200; refine h2.mono ?_)
  rintro e w3 ⟨v, x, rfl, hx⟩
  obtain ⟨ao, L, c, rfl⟩ := hx.slice
  have H2 : Hid (RP tExt pExt w0 w3 r s [.int .u16 n, .slice ao L c] (n, x)) := H1.out.1.pair H1.out.2.1 ((RP.byt hx).ahead C2.out) (Nat.lt_trans H0.out.1 H0.out.2.2.1)
  have hB : w3.heap[w.heap.size]? = some (.cells #[.int .u16 0, .slice none 0 0] 135) := by
    rw [H2.out.ps.chg.block w.heap.size H0.out.2.2.1 (fun e => by have e' : w.heap.size = r := e; have := H0.out.1; omega)]
    exact H0.out.2.2.2
  obtain ⟨y0, y1⟩ := cell2 hB
  have f0 := frozen_of_row w3 w.heap.size 0 _ _ hB
  have f1 := frozen_of_row w3 w.heap.size 1 _ _ hB
  clear hx hB h2
  go_wp2_with fail
  refine bodyPost_ret (v := .agg #[.int .u16 n, .slice ao L c]) ?_ rfl ⟨n, ao, L, c, _, rfl, H2.out.outC H0.out.2.1 H0.out.2.2.1 (chg_two _ _ _ _) H0.out.1⟩
  simp [results, Try.results198, go_sem, y0, y1]
end Go.Proofs.Ytdhckndehijemaa
namespace Go.Proofs.Ytdhckndehijemaa
open Go.RowKit Go.Maps Go.WideMaps
set_option linter.unusedVariables false
set_option maxRecDepth 100000

/-- Is one of a list's numbers there twice? -/
def dupF (acc : List Int × Bool) (x : Int) : List Int × Bool := (acc.1 ++ [x], acc.2 || acc.1.contains x)
def dup (l : List Int) : Bool := (l.foldl dupF ([], false)).2
theorem dup_fst (l : List Int) (a : List Int) (b : Bool) : (l.foldl dupF (a, b)).1 = a ++ l := by
  induction l generalizing a b with
  | nil => simp
  | cons x l ih => rw [List.foldl_cons, dupF, ih]; simp
theorem dup_snoc (l : List Int) (x : Int) : dup (l ++ [x]) = (dup l || l.contains x) := by
  have h := dup_fst l [] false
  simp only [dup, List.foldl_append, List.foldl_cons, List.foldl_nil, dupF]
  rw [h]
  simp

def kys (l : List Int) : List Lit := l.map fun x => Lit.int .u16 x
theorem kys_lit (l : List Int) : ∀ x ∈ kys l, WideAt.IsKeyLit x := by
  intro x hx
  simp only [kys, List.mem_map] at hx
  obtain ⟨y, -, rfl⟩ := hx
  trivial
def Sk (l : List Int) : DataW Unit := setOf (.agg []) (kys l)
theorem Sk_snoc (l : List Int) (x : Int) : Sk (l ++ [x]) = (Sk l).put (.int .u16 x) (.agg []) := by
  unfold Sk kys
  rw [List.map_append, List.map_singleton, setOf_snoc]
theorem has_Sk (l : List Int) (x : Int) : Maps.has (Sk l) (.int .u16 x) = l.contains x := by
  unfold Sk
  rw [has_setOf _ _ _ (kys_lit l)]
  induction l with
  | nil => rfl
  | cons y l ih =>
    simp only [kys, List.map_cons, List.any_cons, List.contains_cons] at ih ⊢
    rw [ih]
    congr 1
    simp only [Lit.sameKey, true_and]
    by_cases h : y = x
    · simp [h]
    · have : ¬ x = y := fun e => h e.symm
      simp [h, this]
theorem size_Sk (l : List Int) : ∀ k, k ≤ l.length → Maps.size (Sk (l.take k)) ≤ k ∧ (Maps.size (Sk (l.take k)) < k ↔ dup (l.take k) = true)
  | 0, _ => by
    have : Maps.size (Sk (l.take 0)) = 0 := rfl
    rw [this]
    simp [dup]
  | k + 1, h => by
    obtain ⟨h1, h2⟩ := size_Sk l k (by omega)
    have hx : l[k]? = some l[k] := List.getElem?_eq_getElem (by omega)
    rw [take_snoc hx, Sk_snoc, size_put (show Tidy (Sk (l.take k)) from tidy_setOf _ _ (kys_lit _)), has_Sk, dup_snoc]
    cases hc : (l.take k).contains l[k] with
    | true =>
      rw [if_pos rfl]
      refine ⟨by omega, fun _ => by simp, fun _ => by omega⟩
    | false =>
      rw [if_neg (by decide)]
      refine ⟨by omega, fun h3 => ?_, fun h3 => ?_⟩
      · rw [h2.1 (by omega)]; rfl
      · have := h2.2 (by simpa using h3)
        omega

theorem wf16 {t : Int} (h : InK .u16 t) : (Lit.int .u16 t).wf = true := by
  obtain ⟨h1, h2⟩ := h
  have h2' : t < 65536 := h2
  have : IntKind.u16.wrap t = t := by rw [IntKind.wrap_u16]; omega
  simp [Lit.wf]
  exact ⟨h1, by show t ≤ 65535; omega⟩
theorem law32 : Keyed Try.prog 32 := int_keyed Try.underlying32

/-- Where a list's parts lie. -/
theorem Rel.at {e : Ty} {F : Nat → Prop} {w : World} {v : Value} {l : List e.Dat} (h : Rel (.lst e) F w [v] l) {N : Nat} (hN : N = l.length) (hp : 0 < N) (hs : 0 < e.sz) : ∃ b o c, v = .slice (some ⟨b, o, none⟩) N c ∧ N ≤ c ∧ c ≤ 9223372036854775807 ∧ F b ∧
    ∀ (j : Nat) (a : e.Dat), l[j]? = some a → ∃ us', Rel e F w us' a ∧ ∀ i u, us'[i]? = some u → w.cell? ⟨b, o + j * e.sz + i, none⟩ = some u := by
  obtain ⟨ao, n, c, e1, h1, h2, h3, h4, h5⟩ := h
  injection e1 with e1
  have hn : n = l.length := h1
  rw [hn] at e1 h2
  subst hN
  cases ao with
  | none => have := h4 rfl; omega
  | some x =>
    have q2 := h5 x rfl
    obtain ⟨q1, us0, r1, r2⟩ := q2 0 (l[0]'hp) (List.getElem?_eq_getElem hp)
    have r3 := r1.len
    have hs' : x.spot = none := by
      have := spot_none (r2 0 (us0[0]'(by omega)) (List.getElem?_eq_getElem _))
      simpa [Addr.add] using this
    obtain ⟨b, o, sp⟩ := x
    dsimp only at hs'
    subst hs'
    refine ⟨b, o, c, e1, h2, by simpa [maxLen] using h3, q1, fun j a ha => ?_⟩
    obtain ⟨-, us', r4, r5⟩ := q2 j a ha
    refine ⟨us', r4, fun i u hu => ?_⟩
    have := r5 i u hu
    rwa [Addr.add_lit, ← Nat.add_assoc] at this
theorem Rel.lstNil {e : Ty} {F : Nat → Prop} {w : World} {v : Value} (h : Rel (.lst e) F w [v] []) : ∃ ao c, v = .slice ao 0 c := by
  obtain ⟨ao, n, c, e1, h1, -⟩ := h
  injection e1 with e1
  have hn : n = 0 := h1
  subst hn
  exact ⟨ao, c, e1⟩

abbrev Ext := Int × List Int
def tys (l : List Ext) : List Int := l.map (·.1)

theorem Rel.ext {F : Nat → Prop} {w : World} {us : List Value} {x : Ext} (h : Rel tExt F w us x) : ∃ ao n c, us = [.int .u16 x.1, .slice ao n c] ∧ InK .u16 x.1 ∧ Rel .byt F w [.slice ao n c] x.2 := by
  obtain ⟨us1, us2, rfl, ⟨rfl, h1⟩, h2⟩ := h
  have h2' := h2
  obtain ⟨v, rfl, h3, -⟩ := h2
  obtain ⟨ao, n, c, rfl, -⟩ := h3.shape
  exact ⟨ao, n, c, rfl, h1, h2'⟩

set_option maxHeartbeats 3200000 in
theorem twice_any (F : Nat → Prop) (v : Value) (l : List Ext) (w : World) (h : Rel (.lst tExt) F w [v] l) : Calls Try.prog 199 #[v] w fun e w' => e = .returned (.bool (dup (tys l))) ∧ Chg Non w w' := by
  have hmm := @run_makeMap Try.prog
  by_cases hn : l = []
  · subst hn
    obtain ⟨ao, c, rfl⟩ := h.lstNil
    clear h
    go_enter Try.func199, Try.ntmps199
    go_wp2
    refine wp_loop_rounds 1 ?_
    rw [rounds_succ]
    go_wp2_with (first
      | (at_len; refine wpList_len_own _ rfl _ 282 rfl 32 235 Try.underlying282 (unitElem (H := Unit)) w.heap.size 0 (.map []) rfl (World.ownsMap_made _ _ _ _) ?_)
      | go_in)
    go_ret
    exact ⟨rfl, (Chg.refl _ _).alloc _⟩
  · obtain ⟨N, hN⟩ : ∃ N, N = l.length := ⟨_, rfl⟩
    obtain ⟨b, o, c, rfl, h1, h2, hF, h3⟩ := h.at hN (by rw [hN]; exact List.length_pos_iff.2 hn) (by decide)
    have HN : Hid (N = l.length) := hN
    have HT : Hid ((tys l).length = N) := by show _ = _; simp [tys, hN]
    have HL : Hid (N ≤ 9223372036854775807) := by show _ ≤ _; omega
    have H3 : Hid (∀ (j : Nat) (a : Ext), l[j]? = some a → ∃ us', Rel tExt F w us' a ∧ ∀ i u, us'[i]? = some u → w.cell? ⟨b, o + j * 2 + i, none⟩ = some u) := h3
    clear h h3 hN hF
    go_enter Try.func199, Try.ntmps199
    go_wp2
    go_loopw [9] (fun i wr => ∃ k : Nat, k ≤ N ∧ i = .int .i64 k ∧ Hid (wr.ownsMap Try.prog 32 (unitElem (H := Unit)) w.heap.size k (Sk ((tys l).take k))) ∧ Hid (Chg Non w wr)) (fun i _ => N - (intOf i).toNat)
    case atStart => exact ⟨0, Nat.zero_le _, rfl, World.ownsMap_made _ _ _ _, (Chg.refl _ _).alloc _⟩
    case round =>
      obtain ⟨k, hk, rfl, hown, hc⟩ := hrel
      by_cases hlt : k < N
      · obtain ⟨x, hx⟩ : ∃ x, l[k]? = some x := ⟨l[k]'(by rw [← HN.out]; exact hlt), List.getElem?_eq_getElem _⟩
        obtain ⟨us, q1, q2⟩ := H3.out k x hx
        obtain ⟨ao, n, c', rfl, q3, -⟩ := q1.ext
        obtain ⟨t, ht⟩ : ∃ t, t = x.1 := ⟨_, rfl⟩
        rw [← ht] at q2 q3
        have g0 : wr.cell? ⟨b, o + k * 2, none⟩ = some (.int .u16 t) := by
          have := q2 0 _ rfl
          rw [← this]
          exact World.cell?_of_block (hc.out.block _ (World.block_lt_of_cell? w _ this) (fun s => s))
        have g1 : wr.cell? ⟨b, o + k * 2 + 1, none⟩ = some (.slice ao n c') := by
          have := q2 1 _ rfl
          rw [← this]
          exact World.cell?_of_block (hc.out.block _ (World.block_lt_of_cell? w _ this) (fun s => s))
        have HX : Hid (l[k]? = some x ∧ t = x.1) := ⟨hx, ht⟩
        have hkey : keyOf Try.prog 32 (.int .u16 t) = some (.int .u16 t) := keyOf_int_mk Try.underlying32 (wf16 q3)
        have HM := hown.out
        clear q1 q2 q3 ht hx
        obtain ⟨w5, hw5⟩ : ∃ w5, w5 = ((wr.alloc (.cells #[.int .u16 0, .slice none 0 0] 135)).setCell ⟨wr.heap.size, 0, none⟩ (.int .u16 t)).setCell ⟨wr.heap.size, 1, none⟩ (.slice ao n c') := ⟨_, rfl⟩
        have HK : Hid (k + 1 ≤ N ∧ k < maxLen) := ⟨hlt, by unfold maxLen; have := HL.out; omega⟩
        go_wp2_with (first
          | (at_mapUpdate; refine wpList_mapUpdate_own _ rfl _ _ _ 282 rfl 32 235 law32 Try.underlying282 (unitElem (H := Unit)) w.heap.size k _ rfl (hown.out.alloc _) HK.out.2 _ _ _ rfl rfl hkey (.agg []) [] unitElem_mk ?_; intro w1 hown1 hgrow1)
          | go_in)
        have HO : Hid (w1.ownsMap Try.prog 32 (unitElem (H := Unit)) w.heap.size (k + 1) (Sk ((tys l).take (k + 1)))) := by
          have : (tys l)[k]? = some t := by rw [HX.out.2]; simp [tys, HX.out.1]
          rw [take_snoc this, Sk_snoc]
          exact hown1
        have HC : Hid (Chg Non w w1) := (hc.out.alloc _).trans (Chg.of_grown hgrow1) (fun i hi e => by injection e with e; omega)
        clear hown1 hgrow1 HM
        go_roundw
        case rel => exact ⟨k + 1, HK.out.1, by go_num, HO, HC⟩
        case measure => simp [intOf]; omega
      · have hs := size_Sk (tys l) N (by rw [HT.out]; exact Nat.le_refl _)
        have hkN : k = N := by omega
        subst hkN
        have HS : Hid (decide ((Maps.size (Sk ((tys l).take k)) : Int) < (k : Int)) = dup (tys l)) := by
          show _ = _
          have h1 := hs.2
          rw [List.take_of_length_le (by rw [HT.out]; exact Nat.le_refl _)] at h1 ⊢
          cases hd : dup (tys l) with
          | true => simpa using h1.2 hd
          | false =>
            have : ¬ Maps.size (Sk (tys l)) < k := fun e => by rw [h1.1 e] at hd; cases hd
            simpa using this
        obtain ⟨S, hS⟩ : ∃ S, S = Maps.size (Sk ((tys l).take k)) := ⟨_, rfl⟩
        have HS' : Hid (decide ((S : Int) < (k : Int)) = dup (tys l)) := by rw [hS]; exact HS
        have HM : Hid (wr.ownsMap Try.prog 32 (unitElem (H := Unit)) w.heap.size k (Sk ((tys l).take k))) := hown.out
        have HSE : Hid (S = Maps.size (Sk ((tys l).take k))) := hS
        clear hs HS hS hown
        go_wp2_with (first
          | (at_len; refine wpList_len_own _ rfl _ 282 rfl 32 235 Try.underlying282 (unitElem (H := Unit)) w.heap.size k _ rfl HM.out ?_; rw [← HSE.out])
          | go_in)
        go_ret
        exact ⟨by rw [← HS'.out]; simp, hc.out⟩
end Go.Proofs.Ytdhckndehijemaa
