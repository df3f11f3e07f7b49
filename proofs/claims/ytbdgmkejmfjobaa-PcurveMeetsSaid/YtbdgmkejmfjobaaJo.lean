/-
  Numbers as whole rows of cells.
  What the orders' quotients and rests are, by number.
-/
import Derived.Test.YtbdgmkejmfjobaaJb
import Derived.Test.YtbdgmkejmfjobaaJc
import Derived.Deep.MidRow
import Derived.Test.YtbdgmkejmfjobaaWout
import Derived.Test.YtbdgmkejmfjobaaWout4
import Derived.Test.YtbdgmkejmfjobaaQuot4
namespace Go.Proofs.Ytbdgmkejmfjobaa
set_option maxRecDepth 100000
open Go.RowKit
set_option linter.unusedVariables false
theorem num_size (x : Int) : (num x).size = 4 := arr_size _ _ _
theorem num_one (x : Int) : (num x).all (·.oneCell') = true := arr_one _ _ _
theorem zero25 : (∀ w, (zeroValue 24).run Try.prog w = .ok (.agg (num 0)) w) ∧ (Try.prog.info? 24).map (·.size) = some 4 := by
 rw [num_0]
 exact zero_of_info (by kernel_rfl)
theorem szN (x : Int) : (Try.prog.info? 24).map (·.size) = some (num x).size := by rw [num_size]; exact zero25.2
theorem lenN (x y : Int) : (num x).size = (num y).size := by rw [num_size, num_size]
theorem rangeN {w : World} {b : Nat} {x : Int} (h : Ar w b (num x)) : w.rangeAt b 0 (num x).toList := by
 intro j v hv
 rw [Nat.zero_add, h.cell]
 simpa using hv
theorem infoN (x : Int) : (Try.prog.info? 24).map (·.size) = some (num x).toList.length := by rw [Array.length_toList]; exact szN x
theorem thereN {w : World} {b : Nat} {x : Int} (h : Ar w b (num x)) : w.there b 0 4 := fun j hj => by
 rw [Nat.zero_add, h.cell]
 refine ⟨?_, h.frozen j⟩
 rw [num, arr_get _ _ _ hj]
 rfl
theorem setRowN {w : World} {b : Nat} {x : Int} (h : Ar w b (num x)) (y : Int) : w.setCells b 0 (num y).toList = w.setRow b (num y) := by
 have h1 := run_storeVar_mid (P := Try.prog) w b 0 24 (num y) (by rw [num_size]; exact thereN h) (szN y) (num_one y)
 obtain ⟨t, h⟩ := h
 have h2 := run_storeVar_row (P := Try.prog) w b t 24 _ (num y) h (szN y) (lenN x y) (num_one y)
 rw [h1] at h2
 injection h2
theorem wid_size (x : Int) : (wid x).size = 8 := arr_size _ _ _
theorem szW (x : Int) : (Try.prog.info? 86).map (·.size) = some (wid x).size := by
 rw [wid_size]
 kernel_rfl
theorem rangeW {w : World} {b : Nat} {x : Int} (h : Ar w b (wid x)) : w.rangeAt b 0 (wid x).toList := by
 intro j v hv
 rw [Nat.zero_add, h.cell]
 simpa using hv
theorem infoW (x : Int) : (Try.prog.info? 86).map (·.size) = some (wid x).toList.length := by rw [Array.length_toList]; exact szW x
theorem bp_n {fn : Func} {R : Ending → World → Prop} {a : Act} {w : World} {p b : Nat} {x : Int} (h : fn.results = #[.cell p 24]) (hd : a.defers = []) (hp : a.tmps.getD p undef = .pointer (some ⟨b, 0, none⟩)) (ha : Ar w b (num x)) (hR : R (.returned (.agg (num x))) w) : bodyPost Try.prog fn R .ret a w :=
 bp_c (n := 4) (c := num x) h hd hp ha u25 i25 (num_size x) hR
end Go.Proofs.Ytbdgmkejmfjobaa

namespace Go.Proofs.Ytbdgmkejmfjobaa
set_option maxRecDepth 100000
open Go.RowKit
set_option linter.unusedVariables false
def qo (f x : Int) : Int := x / B64 ^ 3 * rat f / B64 ^ 5
def rm (f x : Int) : Int := x - qo f x * mo f
theorem mo3 : mo 3 = 115792089210356248762697446949407573529996955224135760342422259061068512044369 := rfl
theorem mo4 : mo 4 = 7237005577332262213973186563042994240857116359379907606001950938285454250989 := rfl
theorem rat3 : rat 3 = 115792089264276142090721624801893421302707618245269942344307673200490803338238 := by decide +kernel
theorem rat4 : rat 4 = 1852673427797059126777135760139006525645217721299241702126143248052143860224795 := by decide +kernel
theorem pw3 : B64 ^ 3 = 6277101735386680763835789423207666416102355444464034512896 := by decide +kernel
theorem pw5 : B64 ^ 5 = 2135987035920910082395021706169552114602704522356652769947041607822219725780640550022962086936576 := by decide +kernel
theorem qo_bound {f x : Int} (hf : f = 3 ∨ f = 4) (hx : N512 x) : 0 ≤ qo f x ∧ qo f x < B64 ^ 5 := by
 obtain ⟨h0, h1⟩ := hx
 unfold qo
 unfold R512 at h1
 rw [pw3, pw5]
 rcases hf with rfl | rfl
 ·rw [rat3]
  omega
 ·rw [rat4]
  omega
theorem rm_bound {f x : Int} (hf : f = 3 ∨ f = 4) (hx : N512 x) : 0 ≤ rm f x ∧ rm f x < 3 * mo f := by
 obtain ⟨h0, h1⟩ := hx
 unfold rm qo
 unfold R512 at h1
 rw [pw3, pw5]
 rcases hf with rfl | rfl
 ·rw [rat3, mo3]
  omega
 ·rw [rat4, mo4]
  omega
theorem quot_vals {f x : Int} (hf : f = 3 ∨ f = 4) (hx : N512 x) {t : Nat → Int} (ht : ∀ i, W64 (t i)) (hv : val B64 10 t = val B64 5 (dg B64 (x / B64 ^ 3)) * val B64 5 (dg B64 (rat f))) : arr .u64 5 (fun i => t (5 + i)) = fiv (qo f x) := by
 obtain ⟨h0, h1⟩ := hx
 have e1 : val B64 5 (dg B64 (x / B64 ^ 3)) = x / B64 ^ 3 := by
  rw [val_dg B64_pos, pw5, pw3]
  unfold R512 at h1
  omega
 have e2 : val B64 5 (dg B64 (rat f)) = rat f := by
  rw [val_dg B64_pos, pw5]
  rcases hf with rfl | rfl
  ·rw [rat3]; rfl
  ·rw [rat4]; rfl
 rw [e1, e2] at hv
 have hb := val_bound B64_pos (d := t) (n := 10) (fun i _ => ht i)
 have e3 : ∀ i, i < 10 → t i = dg B64 (x / B64 ^ 3 * rat f) i := by
  refine val_inj B64_pos (fun i _ => ht i) (fun i _ => dg_w _ i) ?_
  rw [val_dg B64_pos, ← hv]
  exact (Int.emod_eq_of_lt hb.1 hb.2).symm
 refine arr_congr fun i hi => ?_
 show t (5 + i) = _
 rw [e3 _ (by omega), dg_shift B64_pos]
 rfl
theorem wout_vals {f x : Int} (hf : f = 3 ∨ f = 4) (hx : N512 x) {l T : Nat → Int} {u : Int} (hl : ∀ i, W64 (l i)) (hT : ∀ i, W64 (T i)) (h9 : val B64 9 T = val B64 5 (dg B64 (qo f x)) * val B64 4 (dg B64 (mo f))) (hv : val B64 4 l - u * B64 ^ 4 = val B64 4 (dg B64 x) - val B64 4 T) :
  arr .u64 4 l = num (rm f x % R256) ∧ (dg B64 x 4 - T 4 - u) % 18446744073709551616 = rm f x / R256 := by
 have hq := qo_bound hf hx
 have hr := rm_bound hf hx
 have e1 : val B64 5 (dg B64 (qo f x)) = qo f x := by
  rw [val_dg B64_pos]
  exact Int.emod_eq_of_lt hq.1 hq.2
 have hm : 0 ≤ mo f ∧ mo f < R256 ∧ 3 * mo f < B64 ^ 5 := by
  rcases hf with rfl | rfl
  ·rw [mo3, pw5]; unfold R256; omega
  ·rw [mo4, pw5]; unfold R256; omega
 have e2 : val B64 4 (dg B64 (mo f)) = mo f := val4 _ hm.1 hm.2.1
 rw [e1, e2] at h9
 have e9 : val B64 9 T = val B64 5 T + B64 ^ 5 * val B64 4 (fun i => T (5 + i)) := val_split 5 4 T
 have ex5 : val B64 5 (dg B64 x) = x % B64 ^ 5 := val_dg B64_pos 5 x
 have ex4 : val B64 5 (dg B64 x) = val B64 4 (dg B64 x) + dg B64 x 4 * B64 ^ 4 := val1 _ 4 _
 have eT4 : val B64 5 T = val B64 4 T + T 4 * B64 ^ 4 := val1 _ 4 _
 have hb4 := val_b4 hl
 generalize val B64 4 (fun i => T (5 + i)) = Z at *
 have hrm : rm f x = x - val B64 9 T := by unfold rm; omega
 generalize rm f x = r at *
 generalize val B64 9 T = T9 at *
 generalize val B64 5 T = T5 at *
 generalize val B64 4 T = T4 at *
 generalize val B64 5 (dg B64 x) = X5 at *
 generalize val B64 4 (dg B64 x) = X4 at *
 rw [arr_num hl]
 generalize val B64 4 l = L at *
 generalize T 4 = t4 at *
 generalize dg B64 x 4 = x4 at *
 rw [p4] at *
 rw [pw5] at *
 have k : L = r % R256 ∧ (x4 - t4 - u) % 18446744073709551616 = r / R256 := by
  unfold R256 at *
  omega
 rw [k.1]
 exact ⟨rfl, k.2⟩
theorem quot3_num (x : Int) (hx : N512 x) (w : World) : Calls Try.prog 104 #[.agg #[], .agg (wid x)] w fun r w' => r = .returned (.agg (fiv (qo 3 x))) ∧ Chg w w' := by
 refine (quot3_any x hx w).mono ?_
 rintro r w' ⟨t, rfl, hc, ht, hv⟩
 exact ⟨by rw [quot_vals (f := 3) (by decide) hx ht hv], hc⟩
theorem wout3_num (x : Int) (hx : N512 x) (w : World) : Calls Try.prog 103 #[.agg #[], .agg (wid x), .agg (fiv (qo 3 x))] w fun r w' => r = .returned (.tuple #[.agg (num (rm 3 x % R256)), .int .u64 (rm 3 x / R256)]) ∧ Chg w w' := by
 refine (wout3_any x _ w).mono ?_
 rintro r w' ⟨l, T, u, rfl, hc, hl, hT, h0, h1, h9, hv⟩
 obtain ⟨e1, e2⟩ := wout_vals (f := 3) (by decide) hx hl hT h9 hv
 exact ⟨by rw [e1, e2], hc⟩
theorem quot4_num (x : Int) (hx : N512 x) (w : World) : Calls Try.prog 106 #[.agg #[], .agg (wid x)] w fun r w' => r = .returned (.agg (fiv (qo 4 x))) ∧ Chg w w' := by
 refine (quot4_any x hx w).mono ?_
 rintro r w' ⟨t, rfl, hc, ht, hv⟩
 exact ⟨by rw [quot_vals (f := 4) (by decide) hx ht hv], hc⟩
theorem wout4_num (x : Int) (hx : N512 x) (w : World) : Calls Try.prog 105 #[.agg #[], .agg (wid x), .agg (fiv (qo 4 x))] w fun r w' => r = .returned (.tuple #[.agg (num (rm 4 x % R256)), .int .u64 (rm 4 x / R256)]) ∧ Chg w w' := by
 refine (wout4_any x _ w).mono ?_
 rintro r w' ⟨l, T, u, rfl, hc, hl, hT, h0, h1, h9, hv⟩
 obtain ⟨e1, e2⟩ := wout_vals (f := 4) (by decide) hx hl hT h9 hv
 exact ⟨by rw [e1, e2], hc⟩
end Go.Proofs.Ytbdgmkejmfjobaa
