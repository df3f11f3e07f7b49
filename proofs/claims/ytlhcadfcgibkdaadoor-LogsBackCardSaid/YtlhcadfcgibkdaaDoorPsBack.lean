/-
  What was written is read as it was, and what is read is written again, byte for byte: the plain part.
-/
import Derived.Test.YtlhcadfcgibkdaaDoorPs
import Derived.Test.YtlhcadfcgibkdaaDoorEnc
namespace Go.Proofs.YtlhcadfcgibkdaaDoor
set_option linter.unusedVariables false

/-! There: what is written is read. -/
def noLet (B : List UInt8) : Prop := ∀ c, B[0]? = some c → letter c.toNat = false
theorem wdT_run {S t B : List UInt8} {p : Nat} (h : S.drop p = t ++ B) (ht : ∀ c ∈ t, letter c.toNat = true) (hB : noLet B) : wdT S p = t := by
  unfold wdT
  rw [h, List.takeWhile_append_of_pos ht]
  cases B with
  | nil => simp
  | cons c B =>
    have := hB c rfl
    simp [this]
theorem tks_run (S : List UInt8) : ∀ (cs B : List UInt8) (p : Nat), S.drop p = cs ++ B → tks S cs ⟨p, false⟩ = ⟨p + cs.length, false⟩
  | [], B, p, h => rfl
  | c :: cs, B, p, h => by
    obtain ⟨h1, h2⟩ := drop_at (D := cs ++ B) (by simpa using h)
    have e : tk S c ⟨p, false⟩ = ⟨p + 1, false⟩ := by unfold tk; simp [h1]
    show tks S cs (tk S c ⟨p, false⟩) = _
    rw [e, tks_run S cs B (p + 1) h2]
    simp; omega
def normP (p : PairD) : PairD := if p.isNum then ⟨p.key, true, p.num, ⟨#[]⟩⟩ else ⟨p.key, false, 0, p.text⟩
theorem normP_key (p : PairD) : (normP p).key = p.key := by unfold normP; split <;> rfl
theorem normP_B (p : PairD) : pairB (normP p) = pairB p := by
  unfold pairB valB normP
  split <;> simp_all
theorem keyOk_congr {k : ByteArray} {L L' : List PairD} (h : L.map (·.key) = L'.map (·.key)) : keyOk k L = keyOk k L' := by
  have e : ∀ L : List PairD, L.all (fun p => !(p.key.data.toList == k.data.toList)) = (L.map (·.key)).all (fun x => !(x.data.toList == k.data.toList)) := by
    intro L; rw [List.all_map]; rfl
  unfold keyOk
  rw [e, e, h]
theorem isWd_letters {l : List UInt8} (h : isWd l = true) : ∀ c ∈ l, letter c.toNat = true := by
  unfold isWd at h
  simp only [Bool.and_eq_true, List.all_eq_true] at h
  exact h.2
theorem keyOk_wd {k : ByteArray} {L : List PairD} (h : keyOk k L = true) : isWd k.data.toList = true := by
  unfold keyOk at h
  simp only [Bool.and_eq_true] at h
  exact h.1.1.1
theorem flat_head (ps : List PairD) : ∀ c, (ps.flatMap pairB)[0]? = some c → c = 32 := by
  intro c h
  cases ps with
  | nil => simp at h
  | cons p ps => simpa [pairB, eq_comm] using h
theorem flat_noDig (ps : List PairD) : noDig (ps.flatMap pairB) := fun c h => by rw [flat_head ps c h]; decide
theorem flat_noLet (ps : List PairD) : noLet (ps.flatMap pairB) := fun c h => by rw [flat_head ps c h]; decide
theorem ba_eta (b : ByteArray) : (⟨b.data.toList.toArray⟩ : ByteArray) = b := rfl

theorem valR_run {S B : List UInt8} {p : PairD} {pos : Nat} (hn : p.num < 18446744073709551616) (hB : noDig B) (h : S.drop pos = valB p ++ B) : valR S p.key ⟨pos, false⟩ = (⟨pos + (valB p).length, false⟩, normP p) := by
  have hlen := congrArg List.length h
  simp only [List.length_drop, List.length_append] at hlen
  unfold valR
  simp only [Bool.false_eq_true, if_false]
  cases hp : p.isNum
  · have hv : valB p = 34 :: (p.text.data.toList.flatMap lett ++ [34]) := by unfold valB; rw [hp]; rfl
    rw [hv] at h hlen ⊢
    obtain ⟨h1, h2⟩ := drop_at (D := p.text.data.toList.flatMap lett ++ 34 :: B) (by simpa using h)
    have hge : ∀ t : List UInt8, t.length ≤ (t.flatMap lett).length := by
      intro t
      induction t with
      | nil => simp
      | cons c t ih =>
        have : 1 ≤ (lett c).length := by unfold lett; split; simp; split <;> simp
        simp only [List.flatMap_cons, List.length_append, List.length_cons]
        omega
    have := hge p.text.data.toList
    have ht := txtP_run S B p.text.data.toList (S.length + 1) (pos + 1) h2 (by simp at hlen; simp at this ⊢; omega)
    rw [if_pos h1, ht]
    simp only [List.length_cons, List.length_append, List.length_nil]
    unfold normP
    rw [if_neg (by rw [hp]; simp), ba_eta, show pos + 1 + (List.flatMap lett p.text.data.toList).length + 1 = pos + ((List.flatMap lett p.text.data.toList).length + (0 + 1) + 1) by omega]
  · have hv : valB p = Lib.decDigits p.num := by unfold valB; rw [hp]; rfl
    rw [hv] at h ⊢
    have hd := numP_dec S B p.num pos hn hB h
    obtain ⟨i1, i2, i3, i4, i5⟩ := decD_props p.num
    have h1 : S[pos]? ≠ some 34 := by
      cases hx : Lib.decDigits p.num with
      | nil => exact absurd hx i3
      | cons c D =>
        rw [hx] at h
        obtain ⟨h1, _⟩ := drop_at (D := D ++ B) (by simpa using h)
        have := (digit_iff c).1 (i2 c (by rw [hx]; simp))
        rw [h1]
        intro e
        simp only [Option.some.injEq] at e
        subst e
        have : (34 : UInt8).toNat = 34 := rfl
        omega
    rw [if_neg h1]
    unfold nmR
    simp only [Bool.false_eq_true, if_false, hd]
    unfold normP
    rw [if_pos hp]

theorem pairsP_run (S : List UInt8) : ∀ (ps : List PairD) (f pos : Nat) (qs : List PairD), S.drop pos = ps.flatMap pairB → pos ≤ S.length → (∀ (i : Nat) (p : PairD), ps[i]? = some p → keyOk p.key (qs ++ ps.take i) = true) → (∀ p ∈ ps, p.num < 18446744073709551616) →
    qs.length + ps.length ≤ 16 → ps.length < f → pairsP S f ⟨pos, false⟩ qs = (⟨S.length, false⟩, qs ++ ps.map normP)
  | [], f + 1, pos, qs, h, hp, _, _, _, _ => by
    have : pos = S.length := by
      have := congrArg List.length h
      simp at this
      omega
    subst this
    unfold pairsP
    simp
  | p :: ps, f + 1, pos, qs, h, hpos, hk, hn, hl, hf => by
    have hsplit : S.drop pos = 32 :: (p.key.data.toList ++ (61 :: (valB p ++ ps.flatMap pairB))) := by rw [h]; simp [pairB]
    obtain ⟨h0, h1⟩ := drop_at hsplit
    have hlt := get_lt h0
    have hk0 : keyOk p.key qs = true := by simpa using hk 0 p rfl
    have hwd := keyOk_wd hk0
    have hw : wdT S (pos + 1) = p.key.data.toList := wdT_run h1 (isWd_letters hwd) (fun c hc => by simp at hc; rw [← hc]; decide)
    have h2 := drop_more h1
    obtain ⟨h3, h4⟩ := drop_at h2
    have et : tk S 32 ⟨pos, false⟩ = ⟨pos + 1, false⟩ := by unfold tk; simp [h0]
    have ek : keyR S qs ⟨pos + 1, false⟩ = ⟨pos + 1 + p.key.data.toList.length + 1, false⟩ := by
      unfold keyR
      rw [if_neg (by simp)]
      simp only [hw, ba_eta]
      rw [if_pos ⟨by simp at hl; omega, hk0⟩]
      unfold tk
      rw [if_neg (by simp), if_pos h3]
    have ev := valR_run (hn p (by simp)) (flat_noDig ps) h4
    have ep : pairR S qs (tk S 32 ⟨pos, false⟩) = (⟨pos + 1 + p.key.data.toList.length + 1 + (valB p).length, false⟩, normP p) := by
      rw [et]
      unfold pairR
      rw [ek]
      simp only [hw, ba_eta]
      exact ev
    have h5 := drop_more h4
    have hle : pos + 1 + p.key.data.toList.length + 1 + (valB p).length ≤ S.length := by
      have := congrArg List.length hsplit
      simp only [List.length_drop, List.length_cons, List.length_append] at this
      omega
    have ih := pairsP_run S ps f (pos + 1 + p.key.data.toList.length + 1 + (valB p).length) (qs ++ [normP p]) h5 hle (fun i q hq => by
      have := hk (i + 1) q (by simpa using hq)
      rw [← this]
      apply keyOk_congr
      simp [normP_key]) (fun q hq => hn q (by simp [hq])) (by simp at hl ⊢; omega) (by simp at hf; omega)
    unfold pairsP
    rw [if_neg (by simp; omega), ep, ih]
    simp

theorem lineB_read {time : Nat} {ev : ByteArray} {ps : List PairD} (ht : time < 18446744073709551616) (hn : ∀ p ∈ ps, p.num < 18446744073709551616) (hev : isWd ev.data.toList = true) (hk : keysOk ps = true) (hl : ps.length ≤ 16) :
    (timeR (lineB time ev ps)).2 = time ∧ evT (lineB time ev ps) = ev ∧ allR (lineB time ev ps) = (⟨(lineB time ev ps).length, false⟩, ps.map normP) := by
  obtain ⟨S, hS⟩ : ∃ S, S = lineB time ev ps := ⟨_, rfl⟩
  rw [← hS]
  have h0 : S.drop 0 = [116, 61] ++ (Lib.decDigits time ++ ([32, 101, 118, 61] ++ (ev.data.toList ++ ps.flatMap pairB))) := by rw [hS]; simp [lineB]
  have e0 := tks_run S [116, 61] _ 0 h0
  have h1 := drop_more h0
  have e1 := numP_dec S _ time _ ht (fun c hc => by simp at hc; rw [← hc]; decide) h1
  have h2 := drop_more h1
  have e2 := tks_run S [32, 101, 118, 61] _ _ h2
  have h3 := drop_more h2
  have hT : timeR S = (⟨0 + ([116, 61] : List UInt8).length + (Lib.decDigits time).length, false⟩, time) := by
    unfold timeR
    rw [e0]
    unfold nmR
    simp only [Bool.false_eq_true, if_false]
    rw [e1]
  have hE : evS S = ⟨0 + ([116, 61] : List UInt8).length + (Lib.decDigits time).length + ([32, 101, 118, 61] : List UInt8).length, false⟩ := by
    unfold evS
    rw [hT]
    exact e2
  have hw := wdT_run h3 (isWd_letters hev) (flat_noLet ps)
  have h4 := drop_more h3
  have hR : evR S = ⟨0 + ([116, 61] : List UInt8).length + (Lib.decDigits time).length + ([32, 101, 118, 61] : List UInt8).length + ev.data.toList.length, false⟩ := by
    unfold evR
    rw [hE]
    unfold wdR
    simp only [Bool.false_eq_true, if_false]
    rw [hw, if_pos hev]
  have hlen := congrArg List.length h0
  simp only [List.length_drop, List.length_append] at hlen
  have hfl : ∀ ps : List PairD, ps.length ≤ (ps.flatMap pairB).length := by
    intro ps
    induction ps with
    | nil => simp
    | cons p ps ih =>
      have : 1 ≤ (pairB p).length := by simp [pairB]
      simp only [List.flatMap_cons, List.length_append, List.length_cons]
      omega
  have := hfl ps
  refine ⟨by rw [hT], ?_, ?_⟩
  · unfold evT
    rw [hE]
    simp only [hw, ba_eta]
  · unfold allR
    rw [hR, pairsP_run S ps (S.length + 1) _ [] h4 (by omega) (fun i p hp => ?_) hn (by simpa using hl) (by omega)]
    · simp
    · unfold keysOk at hk
      have := List.all_eq_true.1 hk i (List.mem_range.2 (List.getElem?_eq_some_iff.1 hp).1)
      unfold keyAt at this
      rw [hp] at this
      simpa using this

theorem mayW_zero {ev : ByteArray} {ps : List PairD} : mayW ev ps = 0 ↔ isWd ev.data.toList = true ∧ ps.length ≤ 16 ∧ keysOk ps = true ∧ ps.all textOk = true := by
  unfold mayW
  constructor
  · intro h
    split at h
    · split at h
      · simp at h
      · split at h
        · split at h
          · exact ⟨‹_›, by omega, ‹_›, ‹_›⟩
          · simp at h
        · simp at h
    · simp at h
  · rintro ⟨h1, h2, h3, h4⟩
    rw [if_pos h1, if_neg (by omega), if_pos h3, if_pos h4]

theorem keysOk_norm (ps : List PairD) : keysOk (ps.map normP) = keysOk ps := by
  unfold keysOk
  rw [List.length_map]
  congr 1
  funext i
  unfold keyAt
  rw [List.getElem?_map]
  cases ps[i]? with
  | none => rfl
  | some p =>
    simp only [Option.map_some, normP_key]
    apply keyOk_congr
    rw [← List.map_take, List.map_map]
    congr 1
    funext p
    exact normP_key p
theorem textOk_norm (p : PairD) (h : textOk p = true) : textOk (normP p) = true := by
  unfold textOk normP at *
  split <;> simp_all
theorem lineB_norm (time : Nat) (ev : ByteArray) (ps : List PairD) : lineB time ev (ps.map normP) = lineB time ev ps := by
  unfold lineB
  congr 1
  rw [List.flatMap_map]
  congr 1
  funext p
  exact normP_B p

/-- What was written is read, and written again as it was. -/
theorem back_there {time : Nat} {ev : ByteArray} {ps : List PairD} (ht : time < 18446744073709551616) (hn : ∀ p ∈ ps, p.num < 18446744073709551616) (h : encE time ev ps = 0) :
    pErr (encT time ev ps) = 0 ∧ pAt (encT time ev ps) = 0 ∧ encE (pTime (encT time ev ps)) (pEv (encT time ev ps)) (pPs (encT time ev ps)) = 0 ∧ encT (pTime (encT time ev ps)) (pEv (encT time ev ps)) (pPs (encT time ev ps)) = encT time ev ps ∧ (encT time ev ps).size ≤ 1024 := by
  have hm : mayW ev ps = 0 := by
    unfold encE at h
    split at h
    · assumption
    · exact h
  have hl : (lineB time ev ps).length ≤ 1024 := by
    unfold encE at h
    rw [if_pos hm] at h
    split at h
    · assumption
    · simp at h
  obtain ⟨h1, h2, h3, h4⟩ := mayW_zero.1 hm
  have hT : encT time ev ps = ⟨(lineB time ev ps).toArray⟩ := by unfold encT; rw [if_pos ⟨hm, hl⟩]
  rw [hT]
  have hsz : (⟨(lineB time ev ps).toArray⟩ : ByteArray).size = (lineB time ev ps).length := by simp [ByteArray.size]
  obtain ⟨e1, e2, e3⟩ := lineB_read ht hn h1 h3 h2
  have hok : okS ⟨(lineB time ev ps).toArray⟩ = true := by
    unfold okS
    rw [hsz]
    simp [hl, e3]
  have p1 : pTime ⟨(lineB time ev ps).toArray⟩ = time := by unfold pTime; rw [if_pos hok]; exact e1
  have p2 : pEv ⟨(lineB time ev ps).toArray⟩ = ev := by unfold pEv; rw [if_pos hok]; exact e2
  have p3 : pPs ⟨(lineB time ev ps).toArray⟩ = ps.map normP := by unfold pPs; rw [if_pos hok]; show (allR (lineB time ev ps)).2 = _; rw [e3]
  have hm' : mayW ev (ps.map normP) = 0 := mayW_zero.2 ⟨h1, by simpa using h2, by rw [keysOk_norm]; exact h3, by
    rw [List.all_map, List.all_eq_true]
    intro p hp
    exact textOk_norm p (List.all_eq_true.1 h4 p hp)⟩
  rw [p1, p2, p3]
  refine ⟨?_, ?_, ?_, ?_, by rw [hsz]; exact hl⟩
  · unfold pErr; rw [hsz, if_pos hl, if_neg]; show ¬ (allR (lineB time ev ps)).1.bad = true; rw [e3]; simp
  · unfold pAt; rw [hsz, if_pos hl, if_neg]; show ¬ (allR (lineB time ev ps)).1.bad = true; rw [e3]; simp
  · unfold encE; rw [if_pos hm', lineB_norm, if_pos hl]
  · unfold encT; rw [lineB_norm, if_pos ⟨hm', hl⟩]
/-! Back: what is read is written again. -/
theorem tk_inv {S : List UInt8} {c : UInt8} {r : RS} (h : (tk S c r).bad = false) : r.bad = false ∧ S.drop r.pos = c :: S.drop (r.pos + 1) ∧ tk S c r = ⟨r.pos + 1, false⟩ := by
  cases hb : r.bad
  · unfold tk at h ⊢
    rw [if_neg (by rw [hb]; simp)] at h ⊢
    split at h
    · rename_i e
      exact ⟨rfl, drop_get e, by rw [if_pos e]⟩
    · simp at h
  · rw [tk_bad hb, hb] at h; cases h
theorem tks_inv (S : List UInt8) : ∀ (cs : List UInt8) (r : RS), (tks S cs r).bad = false → r.bad = false ∧ S.drop r.pos = cs ++ S.drop (r.pos + cs.length) ∧ tks S cs r = ⟨r.pos + cs.length, false⟩
  | [], r, h => by
    have h' : r.bad = false := h
    exact ⟨h', by simp, by show r = _; cases r; simp at h'; subst h'; rfl⟩
  | c :: cs, r, h => by
    obtain ⟨i1, i2, i3⟩ := tks_inv S cs (tk S c r) h
    obtain ⟨j1, j2, j3⟩ := tk_inv i1
    have e : tks S (c :: cs) r = tks S cs (tk S c r) := rfl
    rw [j3] at i2 i3
    refine ⟨j1, ?_, ?_⟩
    · rw [j2, i2]; simp only [List.length_cons, List.cons_append]; rw [show r.pos + 1 + cs.length = r.pos + (cs.length + 1) by omega]
    · rw [e, j3, i3]; simp only [List.length_cons]; rw [show r.pos + 1 + cs.length = r.pos + (cs.length + 1) by omega]
theorem nmR_inv {S : List UInt8} {r : RS} (h : (nmR S r).1.bad = false) : r.bad = false ∧ S.drop r.pos = Lib.decDigits (nmR S r).2 ++ S.drop (nmR S r).1.pos ∧ (nmR S r).1.pos = r.pos + (Lib.decDigits (nmR S r).2).length := by
  cases hb : r.bad
  · unfold nmR at h ⊢
    rw [if_neg (by rw [hb]; simp)] at h ⊢
    rcases hn : numP S (S.length + 1) false 0 r.pos with ⟨q, v, x⟩
    rw [hn] at h
    simp only at h
    subst h
    obtain ⟨i1, i2, i3⟩ := numP_back hn
    exact ⟨rfl, i1, i2⟩
  · rw [nmR_bad hb] at h
    rw [hb] at h
    cases h
theorem wdR_inv {S : List UInt8} {r : RS} (h : (wdR S r).bad = false) : r.bad = false ∧ isWd (wdT S r.pos) = true ∧ wdR S r = ⟨r.pos + (wdT S r.pos).length, false⟩ := by
  cases hb : r.bad
  · unfold wdR at h ⊢
    rw [if_neg (by rw [hb]; simp)] at h ⊢
    split at h
    · rename_i e
      exact ⟨rfl, e, by rw [if_pos e]⟩
    · simp at h
  · rw [wdR_bad hb, hb] at h; cases h
theorem keyR_inv {S : List UInt8} {ps : List PairD} {r : RS} (h : (keyR S ps r).bad = false) : r.bad = false ∧ ps.length < 16 ∧ keyOk ⟨(wdT S r.pos).toArray⟩ ps = true ∧ S.drop r.pos = wdT S r.pos ++ 61 :: S.drop (r.pos + (wdT S r.pos).length + 1) ∧ keyR S ps r = ⟨r.pos + (wdT S r.pos).length + 1, false⟩ := by
  cases hb : r.bad
  · unfold keyR at h ⊢
    rw [if_neg (by rw [hb]; simp)] at h ⊢
    split at h
    · rename_i e
      obtain ⟨j1, j2, j3⟩ := tk_inv h
      refine ⟨rfl, e.1, e.2, ?_, by rw [if_pos e]; exact j3⟩
      have := wdT_drop S r.pos
      simp only at j2
      rw [j2] at this
      exact this
    · simp at h
  · rw [keyR_bad hb, hb] at h; cases h
theorem valR_inv {S : List UInt8} {k : ByteArray} {r : RS} (h : (valR S k r).1.bad = false) : r.bad = false ∧ S.drop r.pos = valB (valR S k r).2 ++ S.drop (valR S k r).1.pos ∧ (valR S k r).1.pos = r.pos + (valB (valR S k r).2).length ∧ (valR S k r).2.key = k := by
  cases hb : r.bad
  · unfold valR at h ⊢
    rw [if_neg (by rw [hb]; simp)] at h ⊢
    split at h
    · rename_i e
      rcases ht : txtP S (S.length + 1) (r.pos + 1) with ⟨q, t, x⟩
      rw [ht] at h
      simp only at h
      subst h
      obtain ⟨i1, i2⟩ := txtP_inv S _ _ _ _ ht
      rw [if_pos e]
      simp only
      refine ⟨trivial, ?_, ?_, trivial⟩
      · rw [drop_get e, i1]; simp [valB]
      · rw [i2]; simp only [valB, Bool.false_eq_true, if_false, List.length_append, List.length_cons, List.length_nil]; omega
    · rename_i e
      obtain ⟨i1, i2, i3⟩ := nmR_inv h
      rw [if_neg e]
      simp only
      refine ⟨trivial, ?_, ?_, trivial⟩
      · rw [i2]; simp [valB]
      · rw [i3]; simp [valB]
  · rw [valR_bad hb, hb] at h; cases h
theorem pairR_inv {S : List UInt8} {ps : List PairD} {r : RS} (h : (pairR S ps (tk S 32 r)).1.bad = false) : r.bad = false ∧ ps.length < 16 ∧ keyOk (pairR S ps (tk S 32 r)).2.key ps = true ∧ S.drop r.pos = pairB (pairR S ps (tk S 32 r)).2 ++ S.drop (pairR S ps (tk S 32 r)).1.pos ∧ (pairR S ps (tk S 32 r)).1.pos = r.pos + (pairB (pairR S ps (tk S 32 r)).2).length := by
  have h0 := h
  unfold pairR at h0
  obtain ⟨i1, i2, i3, i4⟩ := valR_inv h0
  obtain ⟨j1, j2, j3, j4, j5⟩ := keyR_inv i1
  obtain ⟨k1, k2, k3⟩ := tk_inv j1
  have e : pairR S ps (tk S 32 r) = valR S ⟨(wdT S (tk S 32 r).pos).toArray⟩ (keyR S ps (tk S 32 r)) := rfl
  rw [← e] at i2 i3 i4
  rw [j5] at i2 i3
  refine ⟨k1, j2, by rw [i4]; exact j3, ?_, ?_⟩
  · rw [k2]
    have e1 : S.drop (r.pos + 1) = S.drop (tk S 32 r).pos := by rw [k3]
    rw [e1, j4]
    simp only at i2
    rw [i2]
    unfold pairB
    rw [i4]
    simp
  · rw [i3]
    unfold pairB
    rw [i4, k3]
    simp
    omega
theorem pairsP_inv (S : List UInt8) : ∀ (f : Nat) (r : RS) (qs : List PairD), (pairsP S f r qs).1.bad = false → S.length < r.pos + f → qs.length ≤ 16 →
    ∃ ps, (pairsP S f r qs).2 = qs ++ ps ∧ S.drop r.pos = ps.flatMap pairB ∧ qs.length + ps.length ≤ 16 ∧ ∀ (i : Nat) (p : PairD), ps[i]? = some p → keyOk p.key (qs ++ ps.take i) = true
  | 0, r, qs, h, hf, hq => ⟨[], by simp [pairsP], by simp; omega, by simpa using hq, by simp⟩
  | f + 1, r, qs, h, hf, hq => by
    unfold pairsP at h ⊢
    by_cases hc : r.bad = true ∨ r.pos = S.length
    · rw [if_pos hc] at h ⊢
      have h' : r.bad = false := h
      have hp : r.pos = S.length := by
        rcases hc with hc | hc
        · rw [h'] at hc; cases hc
        · exact hc
      exact ⟨[], by simp, by simp [hp], by simpa using hq, by simp⟩
    · rw [if_neg hc] at h ⊢
      have hnb : (pairR S qs (tk S 32 r)).1.bad = false := by
        cases hb : (pairR S qs (tk S 32 r)).1.bad
        · rfl
        · rw [pairsP_bad hb, hb] at h; cases h
      obtain ⟨i1, i2, i3, i4, i5⟩ := pairR_inv hnb
      have hpos : 1 ≤ (pairB (pairR S qs (tk S 32 r)).2).length := by unfold pairB; simp
      obtain ⟨ps, e1, e2, e3, e4⟩ := pairsP_inv S f _ _ h (by rw [i5]; omega) (by simp; omega)
      refine ⟨(pairR S qs (tk S 32 r)).2 :: ps, by rw [e1]; simp, by rw [i4, e2]; simp, by simp at e3 ⊢; omega, fun i p hp => ?_⟩
      cases i with
      | zero =>
        simp only [List.getElem?_cons_zero, Option.some.injEq] at hp
        subst hp
        simpa using i3
      | succ i =>
        have := e4 i p (by simpa using hp)
        simpa using this

theorem allR_read {S : List UInt8} (h : (allR S).1.bad = false) : S = lineB (timeR S).2 (evT S) (allR S).2 ∧ isWd (evT S).data.toList = true ∧ (allR S).2.length ≤ 16 ∧ keysOk (allR S).2 = true := by
  have h0 := h
  unfold allR at h0
  have hnb : (evR S).bad = false := by
    cases hb : (evR S).bad
    · rfl
    · rw [pairsP_bad hb, hb] at h0; cases h0
  obtain ⟨ps, e1, e2, e3, e4⟩ := pairsP_inv S _ _ _ h0 (by omega) (by simp)
  obtain ⟨i1, i2, i3⟩ := wdR_inv hnb
  obtain ⟨j1, j2, j3⟩ := tks_inv S _ _ i1
  obtain ⟨k1, k2, k3⟩ := nmR_inv j1
  obtain ⟨l1, l2, l3⟩ := tks_inv S _ _ k1
  have ea : (allR S).2 = ps := by unfold allR; rw [e1]; simp
  rw [ea]
  have eS : evS S = ⟨(timeR S).1.pos + ([32, 101, 118, 61] : List UInt8).length, false⟩ := j3
  have eT : (evT S).data.toList = wdT S (evS S).pos := rfl
  have d3 : S.drop (evS S).pos = wdT S (evS S).pos ++ S.drop (evR S).pos := by
    have e : evR S = ⟨(evS S).pos + (wdT S (evS S).pos).length, false⟩ := i3
    rw [e]
    exact wdT_drop S _
  refine ⟨?_, i2, by simpa using e3, ?_⟩
  · have s1 : S = [116, 61] ++ S.drop (0 + ([116, 61] : List UInt8).length) := by simpa using l2
    have s2 : S.drop (0 + ([116, 61] : List UInt8).length) = Lib.decDigits (timeR S).2 ++ S.drop (timeR S).1.pos := by
      have e : (tks S [116, 61] ⟨0, false⟩).pos = 0 + ([116, 61] : List UInt8).length := by rw [l3]
      rw [← e]
      exact k2
    have s3 : S.drop (timeR S).1.pos = [32, 101, 118, 61] ++ S.drop (evS S).pos := by rw [eS]; exact j2
    have := s1
    rw [s2, s3, d3, e2] at this
    rw [← eT] at this
    unfold lineB
    simp only [List.append_assoc] at this ⊢
    exact this
  · unfold keysOk
    rw [List.all_eq_true]
    intro i hi
    unfold keyAt
    cases hp : ps[i]? with
    | none => rfl
    | some p => simpa using e4 i p hp

/-- What is read is written again, byte for byte. -/
theorem back_again {s : ByteArray} (h : pErr s = 0) : encE (pTime s) (pEv s) (pPs s) = 0 ∧ encT (pTime s) (pEv s) (pPs s) = s := by
  have hs : s.size ≤ 1024 := by
    unfold pErr at h
    split at h
    · assumption
    · simp at h
  have hb : (allR s.data.toList).1.bad = false := by
    unfold pErr at h
    rw [if_pos hs] at h
    split at h
    · simp at h
    · rename_i hh; exact Bool.eq_false_iff.2 hh
  have hok : okS s = true := by unfold okS; simp [hs, hb]
  obtain ⟨h1, h2, h3, h4⟩ := allR_read hb
  have p1 : pTime s = (timeR s.data.toList).2 := by unfold pTime; rw [if_pos hok]
  have p2 : pEv s = evT s.data.toList := by unfold pEv; rw [if_pos hok]
  have p3 : pPs s = (allR s.data.toList).2 := by unfold pPs; rw [if_pos hok]
  rw [p1, p2, p3]
  have hlen : (lineB (timeR s.data.toList).2 (evT s.data.toList) (allR s.data.toList).2).length ≤ 1024 := by
    rw [← h1]; simpa using hs
  have htx : (allR s.data.toList).2.all textOk = true := by
    rw [List.all_eq_true]
    intro p hp
    unfold textOk
    cases hn : p.isNum
    · simp only [Bool.false_or, decide_eq_true_eq]
      have hge : ∀ t : List UInt8, t.length ≤ (t.flatMap lett).length := by
        intro t
        induction t with
        | nil => simp
        | cons c t ih =>
          have : 1 ≤ (lett c).length := by unfold lett; split; simp; split <;> simp
          simp only [List.flatMap_cons, List.length_append, List.length_cons]
          omega
      have h5 := hge p.text.data.toList
      have h6 : (p.text.data.toList.flatMap lett).length ≤ (pairB p).length := by unfold pairB valB; rw [hn]; simp; omega
      have h7 : ∀ ps : List PairD, p ∈ ps → (pairB p).length ≤ (ps.flatMap pairB).length := by
        intro ps
        induction ps with
        | nil => intro h; simp at h
        | cons q ps ih =>
          intro h
          simp only [List.flatMap_cons, List.length_append]
          rcases List.mem_cons.1 h with rfl | h
          · omega
          · have := ih h; omega
      have h8 := h7 _ hp
      have h9 : ((allR s.data.toList).2.flatMap pairB).length ≤ (lineB (timeR s.data.toList).2 (evT s.data.toList) (allR s.data.toList).2).length := by unfold lineB; simp; omega
      have e : p.text.data.toList.length = p.text.size := by simp
      omega
    · rfl
  have hm : mayW (evT s.data.toList) (allR s.data.toList).2 = 0 := mayW_zero.2 ⟨h2, h3, h4, htx⟩
  refine ⟨?_, ?_⟩
  · unfold encE; rw [if_pos hm, if_pos hlen]
  · unfold encT; rw [if_pos ⟨hm, hlen⟩, ← h1]
end Go.Proofs.YtlhcadfcgibkdaaDoor
