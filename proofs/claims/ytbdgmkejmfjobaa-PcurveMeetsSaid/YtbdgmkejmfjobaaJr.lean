/-
  Numbers that tell a point of P-256: the program's three, the document's three, and a point's own X and Y.
  Points and bytes compared; a point's field.
-/
import Derived.Test.YtbdgmkejmfjobaaJp
import Derived.Test.YtbdgmkejmfjobaaJj
import Derived.Test.YtbdgmkejmfjobaaPk
import Derived.Test.YtbdgmkejmfjobaaJq
namespace Go.Proofs.Ytbdgmkejmfjobaa
set_option linter.unusedVariables false
set_option maxRecDepth 100000

theorem mo_pq : mo 2 = (pq : Int) := by decide +kernel
theorem md_pq (x : Int) : md 2 x = x % (pq : Int) := by rw [md_in (.inr (.inl rfl)), mo_pq]
theorem fq_md (x : Int) : fq (md 2 x) = fq x := by rw [md_pq]; exact fq_m x
theorem md_ge (x : Int) : 0 ≤ md 2 x := (md_N 2 x).1
theorem md_lt2 (x : Int) : md 2 x < mo 2 := by rw [md_pq, mo_pq]; exact Int.emod_lt_of_pos _ (by decide +kernel)
theorem fq_eq {x y : Int} (h : fq x = fq y) : md 2 x = md 2 y := by rw [md_pq, md_pq]; exact fi_inj h
theorem md_id {x : Int} (h0 : 0 ≤ x) (h : x < mo 2) : md 2 x = x := (md_lt h0 h).symm
theorem fq_zero {x : Int} (h0 : 0 ≤ x) (h : x < mo 2) : fq x = 0 ↔ x = 0 := by
  refine ⟨fun e => ?_, fun e => by rw [e]; exact fq_z⟩
  have := fq_eq (e.trans fq_z.symm)
  rwa [md_id h0 h, md_id (Int.le_refl 0) (by decide +kernel)] at this
theorem md_fq {x : Int} {a : Fin pq} (h : fq x = a) : md 2 x = (a.val : Int) := by
  rw [md_pq, ← h]
  exact (fi_val x).symm
theorem fq_nat (a : Fin pq) : fq (a.val : Int) = a := by
  refine fi_of ?_
  rw [← Int.natCast_emod, Nat.mod_eq_of_lt a.isLt]
theorem fq_iv (x : Int) : fq (x ^ ((mo 2 - 2) % R256).toNat) = iv (fq x) := fi_iv _ (by rw [mo_pq]; decide +kernel)
theorem vlt_P (a : Fin pq) : (0 : Int) ≤ (a.val : Int) ∧ (a.val : Int) < mo 2 := by
  rw [mo_pq]
  exact ⟨Int.natCast_nonneg _, by have := a.isLt; omega⟩
theorem lt_N {x : Int} (h0 : 0 ≤ x) (h : x < mo 2) : N256 x := ⟨h0, Int.lt_trans h (by decide +kernel)⟩
theorem n0P : N256 0 := ⟨by decide, by decide⟩
theorem n1P : N256 1 := ⟨by decide, by decide⟩
theorem l0P : (0 : Int) < mo 2 := by decide +kernel
theorem l1P : (1 : Int) < mo 2 := by decide +kernel
theorem N_bQ : N256 bQ := ⟨by decide +kernel, by decide +kernel⟩
theorem N_gX : N256 gX := ⟨by decide +kernel, by decide +kernel⟩
theorem N_gY : N256 gY := ⟨by decide +kernel, by decide +kernel⟩
/-- Three times a number. -/
def thr (a : Int) : Int := md 2 (a + md 2 (a + a))
theorem thr_N (a : Int) : N256 (thr a) := md_N _ _
theorem g_thr {p : Nat} [NeZero p] (a : Fin p) : a + (a + a) = 3 * a := by grobner
theorem fq_thr (a : Int) : fq (thr a) = 3 * fq a := by
  unfold thr
  simp only [fq_md, fq_add]
  exact g_thr _
theorem thr_md (a : Int) : md 2 (3 * a) = thr a := by
  have h : fq (3 * a) = fq (thr a) := by rw [fq_thr, fq_mul, fq_3]
  rw [fq_eq h]
  exact md_id (md_ge _) (md_lt2 _)
/-- What the Y of a point with that X has as its square. -/
def sqv (x : Int) : Int := md 2 (md 2 (md 2 (x * md 2 (x * x)) - thr x) + bQ)
theorem sqv_N (x : Int) : N256 (sqv x) := md_N _ _
theorem g_sq {p : Nat} [NeZero p] (x b : Fin p) : x * (x * x) - 3 * x + b = x * x * x + -3 * x + b := by grobner
theorem fq_sqv (x : Int) : fq (sqv x) = fq x * fq x * fq x + -3 * fq x + bW := by
  unfold sqv
  simp only [fq_md, fq_add, fq_sub, fq_mul, fq_thr]
  exact g_sq _ _
/-- Does it lie on the curve? -/
def onR (z : Bool) (x y : Int) : Bool := if z then decide (x = 0) && decide (y = 0) else decide (x < mo 2) && decide (y < mo 2) && decide (md 2 (y * y) = sqv x)
def toP (z : Bool) (x y : Int) : PQt := if z then none else some (fq x, fq y)
theorem onR_f {x y : Int} (h : onR false x y = true) : x < mo 2 ∧ y < mo 2 ∧ md 2 (y * y) = sqv x := by
  unfold onR at h
  simp only [Bool.false_eq_true, if_false, Bool.and_eq_true, decide_eq_true_eq] at h
  exact ⟨h.1.1, h.1.2, h.2⟩
theorem onR_t {x y : Int} (h : onR true x y = true) : x = 0 ∧ y = 0 := by
  unfold onR at h
  simp only [if_true, Bool.and_eq_true, decide_eq_true_eq] at h
  exact h
theorem onR_on {z : Bool} {x y : Int} (h : onR z x y = true) : ONW (toP z x y) := by
  cases z with
  | true => trivial
  | false =>
    have e := (onR_f h).2.2
    show fq y * fq y = fq x * fq x * fq x + -3 * fq x + bW
    rw [← fq_sqv, ← e, fq_md, fq_mul]
/-! The program's three numbers. -/
structure TQ (x y z : Int) (P : PQt) : Prop where
  nx : N256 x
  ny : N256 y
  nz : N256 z
  lz : z < mo 2
  on : ONW P
  r : TW x y z P
theorem TQ.zero : TQ 0 1 0 none := ⟨n0P, n1P, n0P, l0P, trivial, TW.zero⟩
theorem TQ.at {x y : Int} (hx : N256 x) (hy : N256 y) (h : onR false x y = true) : TQ x y 1 (toP false x y) := ⟨hx, hy, n1P, l1P, onR_on h, by unfold TW; rw [fq_1]; exact T3.one fldQ⟩
theorem TQ.plus {x1 y1 z1 x2 y2 z2 : Int} {P Q : PQt} (h1 : TQ x1 y1 z1 P) (h2 : TQ x2 y2 z2 Q) {xx yy zz xy yz xz u v w less more : Int} (exx : xx = md 2 (x1 * x2)) (eyy : yy = md 2 (y1 * y2)) (ezz : zz = md 2 (z1 * z2)) (exy : xy = md 2 (md 2 (x1 * y2) + md 2 (y1 * x2))) (eyz : yz = md 2 (md 2 (y1 * z2) + md 2 (z1 * y2))) (exz : xz = md 2 (md 2 (x1 * z2) + md 2 (z1 * x2)))
    (eu : u = thr (md 2 (xz - md 2 (bQ * zz)))) (ev : v = thr (md 2 (md 2 (bQ * xz) - md 2 (xx + thr zz)))) (ew : w = thr (md 2 (xx - zz))) (el : less = md 2 (yy - u)) (em : more = md 2 (yy + u)) :
    TQ (md 2 (md 2 (xy * more) - md 2 (yz * v))) (md 2 (md 2 (less * more) + md 2 (v * w))) (md 2 (md 2 (yz * less) + md 2 (xy * w))) (AW P Q) := by
  refine ⟨md_N _ _, md_N _ _, md_N _ _, md_lt2 _, h1.on.ad h2.on, ?_⟩
  have h := T3.plus nrQ h1.r h2.r h1.on h2.on
  unfold TW
  rw [el, em, ew, ev, eu, exz, eyz, exy, ezz, eyy, exx]
  simp only [fq_md, fq_add, fq_sub, fq_mul, fq_thr]
  exact h
/-! A point's own numbers. -/
def zP : PQt → Bool
  | none => true
  | some _ => false
def xP : PQt → Int
  | none => 0
  | some p => (p.1.val : Int)
def yP : PQt → Int
  | none => 0
  | some p => (p.2.val : Int)
theorem xP_lt (P : PQt) : 0 ≤ xP P ∧ xP P < mo 2 := by
  cases P with
  | none => exact ⟨Int.le_refl 0, l0P⟩
  | some p => exact vlt_P _
theorem yP_lt (P : PQt) : 0 ≤ yP P ∧ yP P < mo 2 := by
  cases P with
  | none => exact ⟨Int.le_refl 0, l0P⟩
  | some p => exact vlt_P _
theorem xP_N (P : PQt) : N256 (xP P) := lt_N (xP_lt P).1 (xP_lt P).2
theorem yP_N (P : PQt) : N256 (yP P) := lt_N (yP_lt P).1 (yP_lt P).2
theorem toP_P (P : PQt) : toP (zP P) (xP P) (yP P) = P := by
  cases P with
  | none => rfl
  | some p => show some (fq (p.1.val : Int), fq (p.2.val : Int)) = some p; rw [fq_nat, fq_nat]
theorem onR_P {P : PQt} (h : ONW P) : onR (zP P) (xP P) (yP P) = true := by
  cases P with
  | none => decide
  | some p =>
    obtain ⟨a, b⟩ := p
    have h' : b * b = a * a * a + -3 * a + bW := h
    show onR false (a.val : Int) (b.val : Int) = true
    unfold onR
    simp only [Bool.false_eq_true, if_false, Bool.and_eq_true, decide_eq_true_eq]
    refine ⟨⟨(vlt_P a).2, (vlt_P b).2⟩, ?_⟩
    have e : fq ((b.val : Int) * (b.val : Int)) = fq (sqv (a.val : Int)) := by rw [fq_sqv, fq_mul, fq_nat, fq_nat, h']
    rw [fq_eq e]
    exact md_id (md_ge _) (md_lt2 _)
theorem TQ.none {x y z : Int} {P : PQt} (h : TQ x y z P) : z = 0 ↔ P = Option.none := by
  rw [← fq_zero h.nz.1 h.lz]
  exact T3.nz fldQ h.r
theorem TQ.back {x y z i : Int} {P : PQt} (h : TQ x y z P) (hz : z ≠ 0) (hi : i = md 2 (z ^ ((mo 2 - 2) % R256).toNat)) : zP P = false ∧ md 2 (x * i) = xP P ∧ md 2 (y * i) = yP P := by
  have hP : P ≠ Option.none := fun e => hz (h.none.2 e)
  cases P with
  | none => exact absurd rfl hP
  | some p =>
    obtain ⟨a, b⟩ := p
    have k := T3.back fldQ h.r
    have hi' : fq i = iv (fq z) := by rw [hi, fq_md, fq_iv]
    refine ⟨rfl, md_fq ?_, md_fq ?_⟩
    · rw [fq_mul, hi']; exact k.1
    · rw [fq_mul, hi']; exact k.2
/-! The document's three numbers. -/
structure JQ (x y z : Int) (P : PQt) : Prop where
  nx : N256 x
  ny : N256 y
  nz : N256 z
  ly : y < mo 2
  lz : z < mo 2
  on : ONW P
  r : J3 (fq x) (fq y) (fq z) P
theorem JQ.zero : JQ 1 1 0 none := ⟨n1P, n1P, n0P, l1P, l0P, trivial, fq_z⟩
theorem JQ.at {x y : Int} (hx : N256 x) (hy : N256 y) (h : onR false x y = true) : JQ x y 1 (toP false x y) := ⟨hx, hy, n1P, (onR_f h).2.1, l1P, onR_on h, by rw [fq_1]; exact J3.one fldQ⟩
theorem JQ.none {x y z : Int} {P : PQt} (h : JQ x y z P) : z = 0 ↔ P = Option.none := by
  rw [← fq_zero h.nz.1 h.lz]
  exact J3.nz fldQ h.r
theorem JQ.twice0 {x y z : Int} {P : PQt} (h : JQ x y z P) (h0 : z = 0 ∨ y = 0) : JQ 1 1 0 (AW P P) := by
  have e : AW P P = Option.none := J3.twice0 fldQ h.r (by
    rw [fq_zero h.nz.1 h.lz, fq_zero h.ny.1 h.ly]
    exact h0)
  rw [e]
  exact JQ.zero
theorem fq_4 : fq 4 = 4 := by decide +kernel
theorem fq_8 : fq 8 = 8 := by decide +kernel
theorem JQ.twice {x y z : Int} {P : PQt} (h : JQ x y z P) (hz : z ≠ 0) (hy : y ≠ 0) {zz m yy s x' y' : Int} (ezz : zz = md 2 (z * z)) (em : m = md 2 (3 * md 2 (md 2 (x - zz) * md 2 (x + zz)))) (eyy : yy = md 2 (y * y)) (es : s = md 2 (4 * md 2 (x * yy))) (ex : x' = md 2 (md 2 (m * m) - md 2 (s + s))) (ey : y' = md 2 (md 2 (m * md 2 (s - x')) - md 2 (8 * md 2 (yy * yy)))) : JQ x' y' (md 2 (2 * md 2 (y * z))) (AW P P) := by
  have hz' : fq z ≠ 0 := fun e => hz ((fq_zero h.nz.1 h.lz).1 e)
  have hy' : fq y ≠ 0 := fun e => hy ((fq_zero h.ny.1 h.ly).1 e)
  have k := J3.twice fldQ h.r hz' hy' (zz := fq zz) (m := fq m) (yy := fq yy) (s := fq s) (x := fq x') (by rw [ezz, fq_md, fq_mul]) (by rw [em]; simp only [fq_md, fq_mul, fq_add, fq_sub, fq_3]) (by rw [eyy, fq_md, fq_mul]) (by rw [es]; simp only [fq_md, fq_mul, fq_4]) (by rw [ex]; simp only [fq_md, fq_mul, fq_add, fq_sub])
  refine ⟨by rw [ex]; exact md_N _ _, by rw [ey]; exact md_N _ _, md_N _ _, by rw [ey]; exact md_lt2 _, md_lt2 _, h.on.ad h.on, ?_⟩
  have e2 : fq y' = fq m * (fq s - fq x') - 8 * (fq yy * fq yy) := by rw [ey]; simp only [fq_md, fq_mul, fq_sub, fq_8]
  rw [e2]
  simp only [fq_md, fq_mul, fq_2]
  exact k
theorem JQ.plus0 {x1 y1 z1 x2 y2 z2 : Int} {P Q : PQt} (h1 : JQ x1 y1 z1 P) (h2 : JQ x2 y2 z2 Q) (hz1 : z1 ≠ 0) (hz2 : z2 ≠ 0) {pz qz u v s t : Int} (epz : pz = md 2 (z1 * z1)) (eqz : qz = md 2 (z2 * z2)) (eu : u = md 2 (x1 * qz)) (ev : v = md 2 (x2 * pz)) (es : s = md 2 (y1 * md 2 (qz * z2))) (et : t = md 2 (y2 * md 2 (pz * z1))) (huv : u = v) : (s = t → P = Q) ∧ (s ≠ t → JQ 1 1 0 (AW P Q)) := by
  have a1 : fq z1 ≠ 0 := fun e => hz1 ((fq_zero h1.nz.1 h1.lz).1 e)
  have a2 : fq z2 ≠ 0 := fun e => hz2 ((fq_zero h2.nz.1 h2.lz).1 e)
  have fu : fq u = fq x1 * (fq z2 * fq z2) := by rw [eu, eqz]; simp only [fq_md, fq_mul]
  have fv : fq v = fq x2 * (fq z1 * fq z1) := by rw [ev, epz]; simp only [fq_md, fq_mul]
  have fs : fq s = fq y1 * (fq z2 * fq z2 * fq z2) := by rw [es, eqz]; simp only [fq_md, fq_mul]
  have ft : fq t = fq y2 * (fq z1 * fq z1 * fq z1) := by rw [et, epz]; simp only [fq_md, fq_mul]
  have k := J3.plus0 fldQ h1.r h2.r a1 a2 (by rw [← fu, ← fv, huv])
  refine ⟨fun h => k.1 (by rw [← fs, ← ft, h]), fun h => ?_⟩
  have e : AW P Q = Option.none := k.2 (fun e => h (by
    rw [← fs, ← ft] at e
    have := fq_eq e
    rw [es, et, md_id (md_ge _) (md_lt2 _), md_id (md_ge _) (md_lt2 _)] at this
    rw [es, et, this]))
  rw [e]
  exact JQ.zero
theorem JQ.plus {x1 y1 z1 x2 y2 z2 : Int} {P Q : PQt} (h1 : JQ x1 y1 z1 P) (h2 : JQ x2 y2 z2 Q) (hz1 : z1 ≠ 0) (hz2 : z2 ≠ 0) {pz qz u v s t h r hh hhh w x y : Int} (epz : pz = md 2 (z1 * z1)) (eqz : qz = md 2 (z2 * z2)) (eu : u = md 2 (x1 * qz)) (ev : v = md 2 (x2 * pz)) (es : s = md 2 (y1 * md 2 (qz * z2))) (et : t = md 2 (y2 * md 2 (pz * z1))) (huv : u ≠ v)
    (eh : h = md 2 (v - u)) (er : r = md 2 (t - s)) (ehh : hh = md 2 (h * h)) (ehhh : hhh = md 2 (hh * h)) (ew : w = md 2 (u * hh)) (ex : x = md 2 (md 2 (md 2 (r * r) - hhh) - md 2 (w + w))) (ey : y = md 2 (md 2 (r * md 2 (w - x)) - md 2 (s * hhh))) : JQ x y (md 2 (h * md 2 (z1 * z2))) (AW P Q) := by
  have a1 : fq z1 ≠ 0 := fun e => hz1 ((fq_zero h1.nz.1 h1.lz).1 e)
  have a2 : fq z2 ≠ 0 := fun e => hz2 ((fq_zero h2.nz.1 h2.lz).1 e)
  have huv' : fq u ≠ fq v := fun e => huv (by
    have := fq_eq e
    rw [eu, ev, md_id (md_ge _) (md_lt2 _), md_id (md_ge _) (md_lt2 _)] at this
    rw [eu, ev, this])
  have k := J3.plus fldQ h1.r h2.r a1 a2 (pz := fq pz) (qz := fq qz) (u := fq u) (v := fq v) (s := fq s) (t := fq t) (h := fq h) (r := fq r) (hh := fq hh) (hhh := fq hhh) (w := fq w) (x := fq x) (by rw [epz, fq_md, fq_mul]) (by rw [eqz, fq_md, fq_mul]) (by rw [eu, fq_md, fq_mul]) (by rw [ev, fq_md, fq_mul]) (by rw [es]; simp only [fq_md, fq_mul]) (by rw [et]; simp only [fq_md, fq_mul]) huv' (by rw [eh, fq_md, fq_sub]) (by rw [er, fq_md, fq_sub]) (by rw [ehh, fq_md, fq_mul]) (by rw [ehhh, fq_md, fq_mul]) (by rw [ew, fq_md, fq_mul]) (by rw [ex]; simp only [fq_md, fq_mul, fq_add, fq_sub])
  refine ⟨by rw [ex]; exact md_N _ _, by rw [ey]; exact md_N _ _, md_N _ _, by rw [ey]; exact md_lt2 _, md_lt2 _, h1.on.ad h2.on, ?_⟩
  have e2 : fq y = fq r * (fq w - fq x) - fq s * fq hhh := by rw [ey]; simp only [fq_md, fq_mul, fq_sub]
  rw [e2]
  simp only [fq_md, fq_mul]
  exact k
theorem JQ.back {x y z i ii : Int} {P : PQt} (h : JQ x y z P) (hz : z ≠ 0) (hi : i = md 2 (z ^ ((mo 2 - 2) % R256).toNat)) (hii : ii = md 2 (i * i)) : zP P = false ∧ md 2 (x * ii) = xP P ∧ md 2 (y * md 2 (ii * i)) = yP P := by
  have hP : P ≠ Option.none := fun e => hz (h.none.2 e)
  cases P with
  | none => exact absurd rfl hP
  | some p =>
    obtain ⟨a, b⟩ := p
    have k := J3.back fldQ h.r
    have hi' : fq i = iv (fq z) := by rw [hi, fq_md, fq_iv]
    have hii' : fq ii = iv (fq z) * iv (fq z) := by rw [hii, fq_md, fq_mul, hi']
    refine ⟨rfl, md_fq ?_, md_fq ?_⟩
    · rw [fq_mul, hii']; exact k.1
    · rw [fq_mul, fq_md, fq_mul, hii', hi']; exact k.2
end Go.Proofs.Ytbdgmkejmfjobaa

namespace Go.Proofs.Ytbdgmkejmfjobaa
open Go.RowKit
set_option linter.unusedVariables false
set_option maxRecDepth 100000

def eqPt (z : Bool) (x y : Int) (z' : Bool) (x' y' : Int) : Bool := z == z' && decide (x = x') && decide (y = y')
theorem eqPt_self (z : Bool) (x y : Int) : eqPt z x y z x y = true := by simp [eqPt]
theorem pt_cutX (z : Bool) (x y : Int) : (pt z x y).extract 1 5 = num x := by
  refine Array.ext_getElem? fun i => ?_
  rw [Array.getElem?_extract, pt_size]
  by_cases h : i < 4
  · rw [if_pos (by omega), show 1 + i = i + 1 by omega, pt_get _ _ _ (by omega), num, arr_get _ _ _ h, if_pos h, Nat.mod_eq_of_lt h]
  · rw [if_neg (by omega), Array.getElem?_eq_none (by rw [num_size]; omega)]
theorem pt_cutY (z : Bool) (x y : Int) : (pt z x y).extract 5 9 = num y := by
  refine Array.ext_getElem? fun i => ?_
  rw [Array.getElem?_extract, pt_size]
  by_cases h : i < 4
  · rw [if_pos (by omega), show 5 + i = (4 + i) + 1 by omega, pt_get _ _ _ (by omega), num, arr_get _ _ _ h, if_neg (by omega), show (4 + i) % 4 = i by omega]
  · rw [if_neg (by omega), Array.getElem?_eq_none (by rw [num_size]; omega)]
theorem size24 (w : World) : (sizeOf 24).run Try.prog w = .ok 4 w := by
  have h : (Try.prog.info? 24).map (·.size) = some 4 := by kernel_rfl
  cases hq : Try.prog.info? 24 with
  | none => simp [hq] at h
  | some i =>
    rw [hq] at h
    have h : i.size = 4 := Option.some.inj h
    simp [sizeOf, typeInfo, hq, h]
theorem agg24 (w : World) : (isAgg 24).run Try.prog w = .ok true w := by kernel_rfl
theorem agg4 (w : World) : (isAgg 4).run Try.prog w = .ok false w := by kernel_rfl
theorem partZ (z : Bool) (x y : Int) (w : World) : (part 4 (pt z x y) 0).run Try.prog w = .ok (.bool z) w := by
  unfold part
  simp only [Sem.run_bind, agg4, Result.andThen_ok, Bool.false_eq_true, if_false, pt_get0, Sem.run_pure]
theorem partX (z : Bool) (x y : Int) (w : World) : (part 24 (pt z x y) 1).run Try.prog w = .ok (.agg (num x)) w := by
  unfold part
  simp only [Sem.run_bind, agg24, Result.andThen_ok, if_true, size24, Sem.run_pure]
  rw [pt_cutX]
theorem partY (z : Bool) (x y : Int) (w : World) : (part 24 (pt z x y) 5).run Try.prog w = .ok (.agg (num y)) w := by
  unfold part
  simp only [Sem.run_bind, agg24, Result.andThen_ok, if_true, size24, Sem.run_pure]
  rw [pt_cutY]
theorem run_eqN9 {x y : Int} (hx : N256 x) (hy : N256 y) (w : World) : (Op.equalIn 9999 24 (.agg (num x)) (.agg (num y))).run Try.prog w = .ok (decide (x = y)) w := by
  have := run_eqW (t := 24) (n := 4) (by kernel_rfl) (by decide) (dg B64 x) (dg B64 y) 9997 w
  rw [num_same hx hy] at this
  exact this
theorem run_eqZ (a b : Bool) (w : World) : (Op.equalIn 9999 4 (.bool a) (.bool b)).run Try.prog w = .ok (a == b) w := by
  unfold Op.equalIn
  simp only [Sem.run_bind, run_underlying (show Try.prog.underlying 4 = some .bool by kernel_rfl), Result.andThen_ok, Sem.run_pure]
theorem run_eqPt {z z' : Bool} {x y x' y' : Int} (hx : N256 x) (hy : N256 y) (hx' : N256 x') (hy' : N256 y') (w : World) : (Op.equalIn 10000 26 (.agg (pt z x y)) (.agg (pt z' x' y'))).run Try.prog w = .ok (eqPt z x y z' x' y') w := by
  have hs : Try.prog.stoodInHeld 26 = false := by kernel_rfl
  unfold Op.equalIn
  simp only [Sem.run_bind, run_underlying Try.underlying26, Result.andThen_ok]
  simp [go_sem, hs]
  simp only [pt_get0, pt_cutX, pt_cutY, Sem.run_pure, Result.andThen_ok, run_eqZ, run_eqN9 hx hx', run_eqN9 hy hy']
  unfold eqPt
  cases z == z' <;> cases decide (x = x') <;> cases decide (y = y') <;> rfl
def eqBy (f g : Nat → Int) : Bool := (List.range 32).all fun i => f i == g i
theorem eqBy_self (f : Nat → Int) : eqBy f f = true := by unfold eqBy; rw [List.all_eq_true]; exact fun i _ => beq_self_eq_true _
theorem run_eqBy {f g : Nat → Int} (w : World) : (Op.equalIn 10000 40 (.agg (byt f)) (.agg (byt g))).run Try.prog w = .ok (eqBy f g) w := run_eqB (t := 40) (n := 32) (by kernel_rfl) (by decide) f g 9998 w
end Go.Proofs.Ytbdgmkejmfjobaa
