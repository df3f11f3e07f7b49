/-
  Curves of Edwards' form over a field of p numbers, plainly: two points together are a point, in whatever order and grouping.
  Points of Edwards' curve whose coordinates are not divided, plainly: the program's four numbers, the document's three.
-/
namespace Go.Proofs.YtjfidbifjagnpaaDoor
set_option linter.unusedVariables false
set_option maxRecDepth 100000
section
variable {p : Nat} [NeZero p]
theorem edA1 (a d x1 y1 x2 y2 x3 y3 : Fin p) : ((x1*y2+x2*y1)*y3*(1-(d*x1*x2*y1*y2))+x3*(y1*y2-a*x1*x2)*(1+(d*x1*x2*y1*y2)))*((1-(d*x2*x3*y2*y3)*(d*x2*x3*y2*y3))+d*(x2*y3+x3*y2)*(y2*y3-a*x2*x3)*x1*y1)-(x1*(y2*y3-a*x2*x3)*(1+(d*x2*x3*y2*y3))+y1*(x2*y3+x3*y2)*(1-(d*x2*x3*y2*y3)))*((1-(d*x1*x2*y1*y2)*(d*x1*x2*y1*y2))+d*(x1*y2+x2*y1)*(y1*y2-a*x1*x2)*x3*y3) = (- x1*x2*x2*x2*x3*x3*x3*a*a*a + y1*x2*x2*y2*x3*x3*x3*a*a - x1*x2*y2*y2*x3*x3*x3*a*a + y1*x2*x2*x2*x3*x3*y3*a*a + x1*x2*x2*y2*x3*x3*y3*a*a - x1*x2*x2*x2*x3*y3*y3*a*a - x1*x2*x2*y2*x3*x3*y3*a*d + y1*y2*y2*y2*x3*x3*x3*a + y1*x2*y2*y2*x3*x3*y3*a + x1*y2*y2*y2*x3*x3*y3*a + y1*x2*x2*y2*x3*y3*y3*a - x1*x2*y2*y2*x3*y3*y3*a + y1*x2*x2*x2*y3*y3*y3*a + x1*x2*x2*y2*y3*y3*y3*a - y1*x2*y2*y2*x3*x3*y3*d - y1*x2*x2*y2*x3*y3*y3*d + x1*x2*y2*y2*x3*y3*y3*d + y1*y2*y2*y2*x3*y3*y3 + y1*x2*y2*y2*y3*y3*y3 + x1*y2*y2*y2*y3*y3*y3 + x1*x2*x2*x2*x3*a*a + x1*x2*x3*x3*x3*a*a - y1*x2*x2*y2*x3*a + x1*x2*y2*y2*x3*a - y1*y2*x3*x3*x3*a - y1*x2*x2*x2*y3*a - x1*x2*x2*y2*y3*a - y1*x2*x3*x3*y3*a - x1*y2*x3*x3*y3*a + x1*x2*x3*y3*y3*a - y1*y2*y2*y2*x3 - y1*x2*y2*y2*y3 - x1*y2*y2*y2*y3 - y1*y2*x3*y3*y3 - y1*x2*y3*y3*y3 - x1*y2*y3*y3*y3 - x1*x2*x3*a + y1*y2*x3 + y1*x2*y3 + x1*y2*y3)*(a*x1*x1+y1*y1-1-d*x1*x1*y1*y1) + (x1*x1*x1*y1*y1*x2*x2*y2*x3*x3*y3*a*d*d + x1*x1*y1*y1*y1*x2*y2*y2*x3*x3*y3*d*d + x1*x1*y1*y1*y1*x2*x2*y2*x3*y3*y3*d*d - x1*x1*x1*y1*y1*x2*y2*y2*x3*y3*y3*d*d - x1*x1*x1*y1*y1*x2*x3*x3*x3*a*a*d - x1*x1*y1*x2*x2*y2*x3*x3*x3*a*a*d + x1*x1*y1*y1*y1*y2*x3*x3*x3*a*d + x1*y1*y1*x2*y2*y2*x3*x3*x3*a*d + x1*x1*y1*y1*y1*x2*x3*x3*y3*a*d + x1*x1*x1*y1*y1*y2*x3*x3*y3*a*d - x1*y1*y1*x2*x2*y2*x3*x3*y3*a*d - x1*x1*y1*x2*y2*y2*x3*x3*y3*a*d - x1*x1*x1*y1*y1*x2*x3*y3*y3*a*d - x1*x1*y1*x2*x2*y2*x3*y3*y3*a*d + x1*x1*x1*x2*x3*x3*x3*a*a*a + x1*x1*y1*y1*y1*y2*x3*y3*y3*d + x1*y1*y1*x2*y2*y2*x3*y3*y3*d + x1*x1*y1*y1*y1*x2*y3*y3*y3*d + x1*x1*x1*y1*y1*y2*y3*y3*y3*d - x1*y1*y1*x2*x2*y2*y3*y3*y3*d - x1*x1*y1*x2*y2*y2*y3*y3*y3*d + x1*y1*y1*x2*x3*x3*x3*a*a - x1*x1*y1*y2*x3*x3*x3*a*a - x1*x1*y1*x2*x3*x3*y3*a*a - x1*x1*x1*y2*x3*x3*y3*a*a + x1*x1*x1*x2*x3*y3*y3*a*a + x1*x1*x1*y1*y1*x2*x3*a*d + x1*x1*y1*x2*x2*y2*x3*a*d - y1*y1*y1*y2*x3*x3*x3*a - y1*y1*y1*x2*x3*x3*y3*a - x1*y1*y1*y2*x3*x3*y3*a + x1*y1*y1*x2*x3*y3*y3*a - x1*x1*y1*y2*x3*y3*y3*a - x1*x1*y1*x2*y3*y3*y3*a - x1*x1*x1*y2*y3*y3*y3*a - x1*x1*y1*y1*y1*y2*x3*d - x1*y1*y1*x2*y2*y2*x3*d - x1*x1*y1*y1*y1*x2*y3*d - x1*x1*x1*y1*y1*y2*y3*d + x1*y1*y1*x2*x2*y2*y3*d + x1*x1*y1*x2*y2*y2*y3*d - y1*y1*y1*y2*x3*y3*y3 - y1*y1*y1*x2*y3*y3*y3 - x1*y1*y1*y2*y3*y3*y3 - x1*x1*x1*x2*x3*a*a - x1*x2*x3*x3*x3*a*a - x1*y1*y1*x2*x3*a + x1*x1*y1*y2*x3*a + y1*y2*x3*x3*x3*a + x1*x1*y1*x2*y3*a + x1*x1*x1*y2*y3*a + y1*x2*x3*x3*y3*a + x1*y2*x3*x3*y3*a - x1*x2*x3*y3*y3*a + y1*y1*y1*y2*x3 + y1*y1*y1*x2*y3 + x1*y1*y1*y2*y3 + y1*y2*x3*y3*y3 + y1*x2*y3*y3*y3 + x1*y2*y3*y3*y3 + x1*x2*x3*a - y1*y2*x3 - y1*x2*y3 - x1*y2*y3)*(a*x2*x2+y2*y2-1-d*x2*x2*y2*y2) + (- x1*x1*y1*x2*x2*x2*x2*y2*y2*y2*x3*a*d*d + x1*y1*y1*x2*x2*x2*y2*y2*y2*y2*x3*d*d - x1*y1*y1*x2*x2*x2*x2*y2*y2*y2*y3*d*d - x1*x1*y1*x2*x2*x2*y2*y2*y2*y2*y3*d*d + x1*x1*y1*x2*x2*x2*x2*y2*x3*a*a*d + x1*x1*x1*x2*x2*x2*y2*y2*x3*a*a*d + x1*y1*y1*x2*x2*x2*x2*y2*y3*a*d - x1*x1*x1*x2*x2*y2*y2*y2*y3*a*d - y1*y1*y1*x2*x2*y2*y2*y2*x3*d - x1*y1*y1*x2*y2*y2*y2*y2*x3*d - y1*y1*y1*x2*x2*x2*y2*y2*y3*d + x1*x1*y1*x2*y2*y2*y2*y2*y3*d - x1*x2*x2*x2*y2*y2*x3*a*d + y1*x2*x2*y2*y2*y2*x3*d + y1*x2*x2*x2*y2*y2*y3*d + x1*x2*x2*y2*y2*y2*y3*d)*(a*x3*x3+y3*y3-1-d*x3*x3*y3*y3) := by grobner
theorem edA2 (a d x1 y1 x2 y2 x3 y3 : Fin p) : ((y1*y2-a*x1*x2)*y3*(1+(d*x1*x2*y1*y2))-a*(x1*y2+x2*y1)*x3*(1-(d*x1*x2*y1*y2)))*((1-(d*x2*x3*y2*y3)*(d*x2*x3*y2*y3))-d*(x2*y3+x3*y2)*(y2*y3-a*x2*x3)*x1*y1)-(y1*(y2*y3-a*x2*x3)*(1+(d*x2*x3*y2*y3))-a*x1*(x2*y3+x3*y2)*(1-(d*x2*x3*y2*y3)))*((1-(d*x1*x2*y1*y2)*(d*x1*x2*y1*y2))-d*(x1*y2+x2*y1)*(y1*y2-a*x1*x2)*x3*y3) = (- y1*x2*x2*x2*x3*x3*x3*a*a*a - x1*x2*x2*y2*x3*x3*x3*a*a*a - x1*x2*x2*x2*x3*x3*y3*a*a*a - y1*x2*y2*y2*x3*x3*x3*a*a - x1*y2*y2*y2*x3*x3*x3*a*a + y1*x2*x2*y2*x3*x3*y3*a*a - x1*x2*y2*y2*x3*x3*y3*a*a - y1*x2*x2*x2*x3*y3*y3*a*a - x1*x2*x2*y2*x3*y3*y3*a*a - x1*x2*x2*x2*y3*y3*y3*a*a - y1*x2*x2*y2*x3*x3*y3*a*d + x1*x2*y2*y2*x3*x3*y3*a*d + x1*x2*x2*y2*x3*y3*y3*a*d + y1*y2*y2*y2*x3*x3*y3*a - y1*x2*y2*y2*x3*y3*y3*a - x1*y2*y2*y2*x3*y3*y3*a + y1*x2*x2*y2*y3*y3*y3*a - x1*x2*y2*y2*y3*y3*y3*a + y1*x2*y2*y2*x3*y3*y3*d + y1*y2*y2*y2*y3*y3*y3 + y1*x2*x2*x2*x3*a*a + x1*x2*x2*y2*x3*a*a + y1*x2*x3*x3*x3*a*a + x1*y2*x3*x3*x3*a*a + x1*x2*x2*x2*y3*a*a + x1*x2*x3*x3*y3*a*a + y1*x2*y2*y2*x3*a + x1*y2*y2*y2*x3*a - y1*x2*x2*y2*y3*a + x1*x2*y2*y2*y3*a - y1*y2*x3*x3*y3*a + y1*x2*x3*y3*y3*a + x1*y2*x3*y3*y3*a + x1*x2*y3*y3*y3*a - y1*y2*y2*y2*y3 - y1*y2*y3*y3*y3 - y1*x2*x3*a - x1*y2*x3*a - x1*x2*y3*a + y1*y2*y3)*(a*x1*x1+y1*y1-1-d*x1*x1*y1*y1) + (x1*x1*y1*y1*y1*x2*x2*y2*x3*x3*y3*a*d*d - x1*x1*x1*y1*y1*x2*y2*y2*x3*x3*y3*a*d*d - x1*x1*x1*y1*y1*x2*x2*y2*x3*y3*y3*a*d*d - x1*x1*y1*y1*y1*x2*y2*y2*x3*y3*y3*d*d - x1*x1*y1*y1*y1*x2*x3*x3*x3*a*a*d - x1*x1*x1*y1*y1*y2*x3*x3*x3*a*a*d + x1*y1*y1*x2*x2*y2*x3*x3*x3*a*a*d + x1*x1*y1*x2*y2*y2*x3*x3*x3*a*a*d - x1*x1*x1*y1*y1*x2*x3*x3*y3*a*a*d - x1*x1*y1*x2*x2*y2*x3*x3*y3*a*a*d + x1*x1*y1*y1*y1*y2*x3*x3*y3*a*d + x1*y1*y1*x2*y2*y2*x3*x3*y3*a*d - x1*x1*y1*y1*y1*x2*x3*y3*y3*a*d - x1*x1*x1*y1*y1*y2*x3*y3*y3*a*d + x1*y1*y1*x2*x2*y2*x3*y3*y3*a*d + x1*x1*y1*x2*y2*y2*x3*y3*y3*a*d - x1*x1*x1*y1*y1*x2*y3*y3*y3*a*d - x1*x1*y1*x2*x2*y2*y3*y3*y3*a*d + x1*x1*y1*x2*x3*x3*x3*a*a*a + x1*x1*x1*y2*x3*x3*x3*a*a*a + x1*x1*x1*x2*x3*x3*y3*a*a*a + x1*x1*y1*y1*y1*y2*y3*y3*y3*d + x1*y1*y1*x2*y2*y2*y3*y3*y3*d + y1*y1*y1*x2*x3*x3*x3*a*a + x1*y1*y1*y2*x3*x3*x3*a*a + x1*y1*y1*x2*x3*x3*y3*a*a - x1*x1*y1*y2*x3*x3*y3*a*a + x1*x1*y1*x2*x3*y3*y3*a*a + x1*x1*x1*y2*x3*y3*y3*a*a + x1*x1*x1*x2*y3*y3*y3*a*a + x1*x1*y1*y1*y1*x2*x3*a*d + x1*x1*x1*y1*y1*y2*x3*a*d - x1*y1*y1*x2*x2*y2*x3*a*d - x1*x1*y1*x2*y2*y2*x3*a*d + x1*x1*x1*y1*y1*x2*y3*a*d + x1*x1*y1*x2*x2*y2*y3*a*d - y1*y1*y1*y2*x3*x3*y3*a + y1*y1*y1*x2*x3*y3*y3*a + x1*y1*y1*y2*x3*y3*y3*a + x1*y1*y1*x2*y3*y3*y3*a - x1*x1*y1*y2*y3*y3*y3*a - x1*x1*y1*y1*y1*y2*y3*d - x1*y1*y1*x2*y2*y2*y3*d - y1*y1*y1*y2*y3*y3*y3 - x1*x1*y1*x2*x3*a*a - x1*x1*x1*y2*x3*a*a - y1*x2*x3*x3*x3*a*a - x1*y2*x3*x3*x3*a*a - x1*x1*x1*x2*y3*a*a - x1*x2*x3*x3*y3*a*a - y1*y1*y1*x2*x3*a - x1*y1*y1*y2*x3*a - x1*y1*y1*x2*y3*a + x1*x1*y1*y2*y3*a + y1*y2*x3*x3*y3*a - y1*x2*x3*y3*y3*a - x1*y2*x3*y3*y3*a - x1*x2*y3*y3*y3*a + y1*y1*y1*y2*y3 + y1*y2*y3*y3*y3 + y1*x2*x3*a + x1*y2*x3*a + x1*x2*y3*a - y1*y2*y3)*(a*x2*x2+y2*y2-1-d*x2*x2*y2*y2) + (x1*y1*y1*x2*x2*x2*x2*y2*y2*y2*x3*a*d*d + x1*x1*y1*x2*x2*x2*y2*y2*y2*y2*x3*a*d*d - x1*x1*y1*x2*x2*x2*x2*y2*y2*y2*y3*a*d*d + x1*y1*y1*x2*x2*x2*y2*y2*y2*y2*y3*d*d - x1*y1*y1*x2*x2*x2*x2*y2*x3*a*a*d + x1*x1*x1*x2*x2*y2*y2*y2*x3*a*a*d + x1*x1*y1*x2*x2*x2*x2*y2*y3*a*a*d + x1*x1*x1*x2*x2*x2*y2*y2*y3*a*a*d + y1*y1*y1*x2*x2*x2*y2*y2*x3*a*d - x1*x1*y1*x2*y2*y2*y2*y2*x3*a*d - y1*y1*y1*x2*x2*y2*y2*y2*y3*d - x1*y1*y1*x2*y2*y2*y2*y2*y3*d - y1*x2*x2*x2*y2*y2*x3*a*d - x1*x2*x2*y2*y2*y2*x3*a*d - x1*x2*x2*x2*y2*y2*y3*a*d + y1*x2*x2*y2*y2*y2*y3*d)*(a*x3*x3+y3*y3-1-d*x3*x3*y3*y3) := by grobner
theorem edC (a d x1 y1 x2 y2 : Fin p) : a*(x1*y2+x2*y1)*(x1*y2+x2*y1)*(1-(d*x1*x2*y1*y2))*(1-(d*x1*x2*y1*y2)) + (y1*y2-a*x1*x2)*(y1*y2-a*x1*x2)*(1+(d*x1*x2*y1*y2))*(1+(d*x1*x2*y1*y2)) - (1-(d*x1*x2*y1*y2)*(d*x1*x2*y1*y2))*(1-(d*x1*x2*y1*y2)*(d*x1*x2*y1*y2)) - d*(x1*y2+x2*y1)*(x1*y2+x2*y1)*(y1*y2-a*x1*x2)*(y1*y2-a*x1*x2) = (x1*x1*y1*y1*x2*x2*x2*x2*a*a*d + x1*x1*y1*y1*y2*y2*y2*y2*d + 2*x1*x1*y1*y1*x2*x2*a*a - 2*x1*x1*y1*y1*x2*x2*a*d + 2*x1*x1*y1*y1*y2*y2*a - 2*x1*x1*y1*y1*y2*y2*d - x1*x1*x2*x2*a*a - 2*x1*x1*y1*y1*a - y1*y1*x2*x2*a - x1*x1*y2*y2*a + x1*x1*y1*y1*d - y1*y1*y2*y2 + x1*x1*a + y1*y1 + 1)*(a*x1*x1+y1*y1-1-d*x1*x1*y1*y1) + (x1*x1*x1*x1*y1*y1*y1*y1*x2*x2*y2*y2*d*d*d + x1*x1*x1*x1*y1*y1*y1*y1*x2*x2*a*d*d + x1*x1*x1*x1*y1*y1*y1*y1*y2*y2*d*d - x1*x1*x1*x1*y1*y1*x2*x2*a*a*d + 2*x1*x1*x1*x1*y1*y1*y1*y1*a*d - x1*x1*y1*y1*y1*y1*x2*x2*a*d - x1*x1*x1*x1*y1*y1*y2*y2*a*d - x1*x1*x1*x1*y1*y1*y1*y1*d*d - x1*x1*y1*y1*y1*y1*y2*y2*d - 2*x1*x1*x1*x1*y1*y1*a*a - 2*x1*x1*y1*y1*y1*y1*a + x1*x1*x1*x1*a*a + 4*x1*x1*y1*y1*a - 2*x1*x1*y1*y1*d + y1*y1*y1*y1)*(a*x2*x2+y2*y2-1-d*x2*x2*y2*y2) := by grobner
def iv (a : Fin p) : Fin p := Fin.ofNat p (a.val ^ (p - 2))
structure Fld (p : Nat) [NeZero p] : Prop where
 inv : ∀ a : Fin p, a ≠ 0 → a * iv a = 1
 zer : iv (0 : Fin p) = 0
 two : (2 : Fin p) ≠ 0
 one : (1 : Fin p) ≠ 0
theorem Fld.nz (F : Fld p) {a b : Fin p} (e : a * b = 0) : a = 0 ∨ b = 0 := by
 by_cases ha : a = 0
 ·exact .inl ha
 ·refine .inr ?_
  have := F.inv a ha
  have h : b = a * iv a * b := by rw [this]; grobner
  rw [h]
  have h2 : a * iv a * b = iv a * (a * b) := by grobner
  rw [h2, e]
  grobner
theorem Fld.mul (F : Fld p) {a b : Fin p} (ha : a ≠ 0) (hb : b ≠ 0) : a * b ≠ 0 := fun e => by
 rcases F.nz e with h | h
 ·exact ha h
 ·exact hb h
theorem Fld.can (F : Fld p) {a b c : Fin p} (ha : a ≠ 0) (e : a * b = a * c) : b = c := by
 have h : a * (b - c) = 0 := by grobner
 rcases F.nz h with h | h
 ·exact absurd h ha
 ·grind
theorem Fld.iv1 (F : Fld p) : iv (1 : Fin p) = 1 := by
 have := F.inv 1 F.one
 grobner
theorem Fld.twice0 (F : Fld p) {a : Fin p} (e : 2 * a = 0) : a = 0 := by
 rcases F.nz e with h | h
 ·exact absurd h F.two
 ·exact h
structure Cur (a d : Fin p) : Prop where
 sq : ∃ c, c * c = a
 nz : a ≠ 0
 ns : ∀ s, s * s ≠ d
def On (a d : Fin p) (P : Fin p × Fin p) : Prop := a*P.1*P.1 + P.2*P.2 - 1 - d*P.1*P.1*P.2*P.2 = 0
variable {a d : Fin p}
theorem edL {A B C : Fin p} (h : A + B - 1 - C = 0) : A + B = 1 + C := by grobner
theorem edL' {A B C : Fin p} (h : A + B - 1 - C = 0) : C + 1 = A + B := by grobner
theorem edZ1 {d ax ay bx cy x1 y1 x3 y3 s t R1 R2 R3 : Fin p} (k : ((ax*(1+s))*y3*(1-s)+x3*(ay*(1-s))*(1+s)) * ((1-t*t)+d*(bx*(1+t))*(cy*(1-t))*x1*y1) - (x1*(cy*(1-t))*(1+t)+y1*(bx*(1+t))*(1-t))*((1-s*s)+d*(ax*(1+s))*(ay*(1-s))*x3*y3) = R1*0 + R2*0 + R3*0) :
  (1+s)*(1-s)*(ax*y3+x3*ay)*((1+t)*(1-t)*(1+d*x1*bx*y1*cy)) = (1+s)*(1-s)*(1+d*ax*x3*ay*y3)*((1+t)*(1-t)*(x1*cy+bx*y1)) := by grobner
theorem edZ2 {a d ax ay bx cy x1 y1 x3 y3 s t R1 R2 R3 : Fin p} (k : ((ay*(1-s))*y3*(1+s)-a*(ax*(1+s))*x3*(1-s)) * ((1-t*t)-d*(bx*(1+t))*(cy*(1-t))*x1*y1) - (y1*(cy*(1-t))*(1+t)-a*x1*(bx*(1+t))*(1-t))*((1-s*s)-d*(ax*(1+s))*(ay*(1-s))*x3*y3) = R1*0 + R2*0 + R3*0) :
  (1+s)*(1-s)*(ay*y3-a*ax*x3)*((1+t)*(1-t)*(1-d*x1*bx*y1*cy)) = (1+s)*(1-s)*(1-d*ax*x3*ay*y3)*((1+t)*(1-t)*(y1*cy-a*x1*bx)) := by grobner
theorem Cur.comp0 (F : Fld p) (E : Cur a d) {c x1 y1 x2 y2 ε : Fin p} (hc : c * c = a) (e1 : a*x1*x1 + y1*y1 - 1 - d*x1*x1*y1*y1 = 0) (e2 : a*x2*x2 + y2*y2 - 1 - d*x2*x2*y2*y2 = 0)
  (hε : ε = d*x1*x2*y1*y2) (t : ε * ε = 1) : c*x2 + y2 = 0 := by
 apply Classical.byContradiction
 intro hn
 have e0 : ε ≠ 0 := fun h => F.one (by rw [← t, h]; grobner)
 have hx : x1 ≠ 0 := fun h => e0 (by rw [hε, h]; grobner)
 have hy : y1 ≠ 0 := fun h => e0 (by rw [hε, h]; grobner)
 have hz : x1 * y1 * (c*x2 + y2) ≠ 0 := F.mul (F.mul hx hy) hn
 have hi := F.inv _ hz
 have k1 : d*(x1*y1)*(x1*y1)*(a*x2*x2 + y2*y2) = a*x1*x1 + y1*y1 := by
  have h1 : a*x2*x2 + y2*y2 = 1 + d*x2*x2*y2*y2 := edL e2
  rw [h1]
  have h2 : d*(x1*y1)*(x1*y1)*(1 + d*x2*x2*y2*y2) = d*x1*x1*y1*y1 + ε * ε := by rw [hε]; grobner
  rw [h2, t]
  exact edL' e1
 have k2 : (c*x1 + ε*y1)*(c*x1 + ε*y1) = d*((x1 * y1 * (c*x2 + y2))*(x1 * y1 * (c*x2 + y2))) := by
  have h1 : (c*x1 + ε*y1)*(c*x1 + ε*y1) = c*c*x1*x1 + ε*ε*(y1*y1) + 2*c*x1*y1*ε := by grobner
  have h2 : d*((x1 * y1 * (c*x2 + y2))*(x1 * y1 * (c*x2 + y2))) = d*(x1*y1)*(x1*y1)*(c*c*x2*x2 + y2*y2) + 2*c*x1*y1*(d*x1*x2*y1*y2) := by grobner
  rw [h1, h2, t, hc, k1, hε]
  grobner
 refine E.ns ((c*x1 + ε*y1) * iv (x1 * y1 * (c*x2 + y2))) ?_
 generalize x1 * y1 * (c*x2 + y2) = z at *
 generalize iv z = zi at *
 have h3 : (c*x1 + ε*y1) * zi * ((c*x1 + ε*y1) * zi) = (c*x1 + ε*y1)*(c*x1 + ε*y1) * (zi * zi) := by grobner
 rw [h3, k2]
 have h4 : d * (z * z) * (zi * zi) = d * (z * zi) * (z * zi) := by grobner
 rw [h4, hi]
 grobner
theorem Cur.comp (F : Fld p) (E : Cur a d) {x1 y1 x2 y2 : Fin p} (e1 : a*x1*x1 + y1*y1 - 1 - d*x1*x1*y1*y1 = 0) (e2 : a*x2*x2 + y2*y2 - 1 - d*x2*x2*y2*y2 = 0) :
  (d*x1*x2*y1*y2) * (d*x1*x2*y1*y2) ≠ 1 := by
 intro t
 obtain ⟨c, hc⟩ := E.sq
 have h1 := E.comp0 F hc e1 e2 rfl t
 have h2 := E.comp0 F (x2 := x2) (y2 := -y2) (x1 := x1) (y1 := y1) hc e1 (by grobner) rfl (by grobner)
 have h3 : y2 = 0 := F.twice0 (by grobner)
 exact F.one (by rw [← t, h3]; grobner)
theorem Cur.up (F : Fld p) (E : Cur a d) {x1 y1 x2 y2 : Fin p} (e1 : a*x1*x1 + y1*y1 - 1 - d*x1*x1*y1*y1 = 0) (e2 : a*x2*x2 + y2*y2 - 1 - d*x2*x2*y2*y2 = 0) :
  1 + d*x1*x2*y1*y2 ≠ 0 := by
 intro h
 refine E.comp F e1 e2 ?_
 have : d*x1*x2*y1*y2 = -1 := by grobner
 rw [this]
 grobner
theorem Cur.down (F : Fld p) (E : Cur a d) {x1 y1 x2 y2 : Fin p} (e1 : a*x1*x1 + y1*y1 - 1 - d*x1*x1*y1*y1 = 0) (e2 : a*x2*x2 + y2*y2 - 1 - d*x2*x2*y2*y2 = 0) :
  1 - d*x1*x2*y1*y2 ≠ 0 := by
 intro h
 refine E.comp F e1 e2 ?_
 have : d*x1*x2*y1*y2 = 1 := by grobner
 rw [this]
 grobner
def ad (a d : Fin p) (P Q : Fin p × Fin p) : Fin p × Fin p :=
 ((P.1*Q.2 + Q.1*P.2) * iv (1 + d*P.1*Q.1*P.2*Q.2), (P.2*Q.2 - a*P.1*Q.1) * iv (1 - d*P.1*Q.1*P.2*Q.2))
theorem ad_eqs (F : Fld p) (E : Cur a d) {P Q : Fin p × Fin p} (hP : On a d P) (hQ : On a d Q) :
  (ad a d P Q).1 * (1 + d*P.1*Q.1*P.2*Q.2) = P.1*Q.2 + Q.1*P.2 ∧ (ad a d P Q).2 * (1 - d*P.1*Q.1*P.2*Q.2) = P.2*Q.2 - a*P.1*Q.1 := by
 have h1 := F.inv _ (E.up F hP hQ)
 have h2 := F.inv _ (E.down F hP hQ)
 unfold ad
 simp only
 generalize 1 + d*P.1*Q.1*P.2*Q.2 = u at *
 generalize 1 - d*P.1*Q.1*P.2*Q.2 = v at *
 generalize iv u = ui at *
 generalize iv v = vi at *
 constructor
 ·have : (P.1*Q.2 + Q.1*P.2) * ui * u = (P.1*Q.2 + Q.1*P.2) * (u * ui) := by grobner
  rw [this, h1]; grobner
 ·have : (P.2*Q.2 - a*P.1*Q.1) * vi * v = (P.2*Q.2 - a*P.1*Q.1) * (v * vi) := by grobner
  rw [this, h2]; grobner
theorem ad_comm (P Q : Fin p × Fin p) : ad a d P Q = ad a d Q P := by
 unfold ad
 rw [show P.1*Q.2 + Q.1*P.2 = Q.1*P.2 + P.1*Q.2 by grobner, show d*P.1*Q.1*P.2*Q.2 = d*Q.1*P.1*Q.2*P.2 by grobner, show P.2*Q.2 - a*P.1*Q.1 = Q.2*P.2 - a*Q.1*P.1 by grobner]
theorem on_zero : On a d (0, 1) := by unfold On; grobner
theorem ad_zero (F : Fld p) (P : Fin p × Fin p) : ad a d (0, 1) P = P := by
 obtain ⟨x, y⟩ := P
 unfold ad
 simp only
 rw [show 1 + d*0*x*1*y = (1 : Fin p) by grobner, show 1 - d*0*x*1*y = (1 : Fin p) by grobner, F.iv1]
 congr 1 <;> grobner
theorem on_ad (F : Fld p) (E : Cur a d) {P Q : Fin p × Fin p} (hP : On a d P) (hQ : On a d Q) : On a d (ad a d P Q) := by
 obtain ⟨h1, h2⟩ := ad_eqs F E hP hQ
 have hu := E.up F hP hQ
 have hv := E.down F hP hQ
 have hc := edC a d P.1 P.2 Q.1 Q.2
 obtain ⟨x1, y1⟩ := P
 obtain ⟨x2, y2⟩ := Q
 generalize ad a d (x1, y1) (x2, y2) = R at *
 obtain ⟨x3, y3⟩ := R
 simp only at *
 have e1 : a*x1*x1 + y1*y1 - 1 - d*x1*x1*y1*y1 = 0 := hP
 have e2 : a*x2*x2 + y2*y2 - 1 - d*x2*x2*y2*y2 = 0 := hQ
 rw [e1, e2, ← h1, ← h2] at hc
 generalize d*x1*x2*y1*y2 = t at *
 clear h1 h2 e1 e2 hP hQ
 show a*x3*x3 + y3*y3 - 1 - d*x3*x3*y3*y3 = 0
 have hz : (1 + t) * (1 + t) * ((1 - t) * (1 - t)) ≠ 0 := F.mul (F.mul hu hu) (F.mul hv hv)
 refine F.can hz ?_
 grobner
theorem ad_assoc (F : Fld p) (E : Cur a d) {P Q S : Fin p × Fin p} (hP : On a d P) (hQ : On a d Q) (hS : On a d S) :
  ad a d (ad a d P Q) S = ad a d P (ad a d Q S) := by
 have hPQ := on_ad F E hP hQ
 have hQS := on_ad F E hQ hS
 obtain ⟨h1, h2⟩ := ad_eqs F E hP hQ
 obtain ⟨h3, h4⟩ := ad_eqs F E hQ hS
 obtain ⟨h5, h6⟩ := ad_eqs F E hPQ hS
 obtain ⟨h7, h8⟩ := ad_eqs F E hP hQS
 have u1 := E.up F hP hQ
 have v1 := E.down F hP hQ
 have u2 := E.up F hQ hS
 have v2 := E.down F hQ hS
 have u3 := E.up F hPQ hS
 have v3 := E.down F hPQ hS
 have u4 := E.up F hP hQS
 have v4 := E.down F hP hQS
 have k1 := edA1 a d P.1 P.2 Q.1 Q.2 S.1 S.2
 have k2 := edA2 a d P.1 P.2 Q.1 Q.2 S.1 S.2
 have e1 : a*P.1*P.1 + P.2*P.2 - 1 - d*P.1*P.1*P.2*P.2 = 0 := hP
 have e2 : a*Q.1*Q.1 + Q.2*Q.2 - 1 - d*Q.1*Q.1*Q.2*Q.2 = 0 := hQ
 have e3 : a*S.1*S.1 + S.2*S.2 - 1 - d*S.1*S.1*S.2*S.2 = 0 := hS
 rw [e1, e2, e3, ← h1, ← h2, ← h3, ← h4] at k1 k2
 clear hP hQ hS hPQ hQS h1 h2 h3 h4 e1 e2 e3
 generalize ad a d (ad a d P Q) S = L at *
 generalize ad a d P (ad a d Q S) = R at *
 generalize ad a d P Q = A at *
 generalize ad a d Q S = B at *
 obtain ⟨lx, ly⟩ := L
 obtain ⟨rx, ry⟩ := R
 obtain ⟨ax, ay⟩ := A
 obtain ⟨bx, by'⟩ := B
 obtain ⟨x1, y1⟩ := P
 obtain ⟨x2, y2⟩ := Q
 obtain ⟨x3, y3⟩ := S
 simp only at *
 generalize d*x1*x2*y1*y2 = s at *
 generalize d*x2*x3*y2*y3 = t at *
 have z1 : (1 + s) * (1 - s) ≠ 0 := F.mul u1 v1
 have z2 : (1 + t) * (1 - t) ≠ 0 := F.mul u2 v2
 congr 1
 ·have z : ((1 + s) * (1 - s) * (1 + d*ax*x3*ay*y3)) * ((1 + t) * (1 - t) * (1 + d*x1*bx*y1*by')) ≠ 0 := F.mul (F.mul z1 u3) (F.mul z2 u4)
  refine F.can z ?_
  have g1 : ((1 + s) * (1 - s) * (1 + d*ax*x3*ay*y3)) * ((1 + t) * (1 - t) * (1 + d*x1*bx*y1*by')) * lx = ((1 + s) * (1 - s) * (lx * (1 + d*ax*x3*ay*y3))) * ((1 + t) * (1 - t) * (1 + d*x1*bx*y1*by')) := by grobner
  have g2 : ((1 + s) * (1 - s) * (1 + d*ax*x3*ay*y3)) * ((1 + t) * (1 - t) * (1 + d*x1*bx*y1*by')) * rx = ((1 + s) * (1 - s) * (1 + d*ax*x3*ay*y3)) * ((1 + t) * (1 - t) * (rx * (1 + d*x1*bx*y1*by'))) := by grobner
  rw [g1, g2, h5, h7]
  exact edZ1 k1
 ·have z : ((1 + s) * (1 - s) * (1 - d*ax*x3*ay*y3)) * ((1 + t) * (1 - t) * (1 - d*x1*bx*y1*by')) ≠ 0 := F.mul (F.mul z1 v3) (F.mul z2 v4)
  refine F.can z ?_
  have g1 : ((1 + s) * (1 - s) * (1 - d*ax*x3*ay*y3)) * ((1 + t) * (1 - t) * (1 - d*x1*bx*y1*by')) * ly = ((1 + s) * (1 - s) * (ly * (1 - d*ax*x3*ay*y3))) * ((1 + t) * (1 - t) * (1 - d*x1*bx*y1*by')) := by grobner
  have g2 : ((1 + s) * (1 - s) * (1 - d*ax*x3*ay*y3)) * ((1 + t) * (1 - t) * (1 - d*x1*bx*y1*by')) * ry = ((1 + s) * (1 - s) * (1 - d*ax*x3*ay*y3)) * ((1 + t) * (1 - t) * (ry * (1 - d*x1*bx*y1*by'))) := by grobner
  rw [g1, g2, h6, h8]
  exact edZ2 k2
def mu (a d : Fin p) (P : Fin p × Fin p) : Nat → Fin p × Fin p
 | 0 => (0, 1)
 | n + 1 => ad a d (mu a d P n) P
theorem on_mu (F : Fld p) (E : Cur a d) {P : Fin p × Fin p} (h : On a d P) : ∀ n, On a d (mu a d P n)
 | 0 => on_zero
 | n + 1 => on_ad F E (on_mu F E h n) h
theorem mu_add (F : Fld p) (E : Cur a d) {P : Fin p × Fin p} (h : On a d P) (m : Nat) : ∀ n, mu a d P (m + n) = ad a d (mu a d P m) (mu a d P n)
 | 0 => by show mu a d P m = ad a d (mu a d P m) (0, 1); rw [ad_comm, ad_zero F]
 | n + 1 => by
  show ad a d (mu a d P (m + n)) P = ad a d (mu a d P m) (ad a d (mu a d P n) P)
  rw [mu_add F E h m n, ad_assoc F E (on_mu F E h m) (on_mu F E h n) h]
theorem mu_mul (F : Fld p) (E : Cur a d) {P : Fin p × Fin p} (h : On a d P) (m : Nat) : ∀ n, mu a d (mu a d P m) n = mu a d P (m * n)
 | 0 => rfl
 | n + 1 => by
  show ad a d (mu a d (mu a d P m) n) (mu a d P m) = mu a d P (m * n + m)
  rw [mu_add F E h, mu_mul F E h m n]
theorem mu_one (F : Fld p) (P : Fin p × Fin p) : mu a d P 1 = P := ad_zero F P
end
end Go.Proofs.YtjfidbifjagnpaaDoor
namespace Go.Proofs.YtjfidbifjagnpaaDoor
set_option linter.unusedVariables false
set_option maxRecDepth 100000
section
variable {p : Nat} [NeZero p] {a d : Fin p}
structure R4 (X Y Z T : Fin p) (P : Fin p × Fin p) : Prop where
 z : Z ≠ 0
 x : X = P.1 * Z
 y : Y = P.2 * Z
 t : T = P.1 * P.2 * Z
structure R3 (X Y Z : Fin p) (P : Fin p × Fin p) : Prop where
 z : Z ≠ 0
 x : X = P.1 * Z
 y : Y = P.2 * Z
theorem xg1 (x A B : Fin p) : x * A * B = x * (A * B) := by grobner
theorem xg2 (x A B : Fin p) : x * B * A = x * (A * B) := by grobner
theorem xg3 (x y A B : Fin p) : x * A * (y * B) = x * y * (A * B) := by grobner
theorem xg4 (A G M : Fin p) : A * (G * M) = G * (A * M) := by grobner
theorem xg5 (x G H : Fin p) : G * (x * H) = x * (G * H) := by grobner
theorem xg6 (x G H : Fin p) : H * (x * G) = x * (G * H) := by grobner
theorem xg7 (x A B : Fin p) : A * B * x = x * A * B := by grobner
theorem xg8 (x A B : Fin p) : x * A * B = x * B * A := by grobner
theorem xg9 (x : Fin p) : x * 1 = x := by grobner
theorem r4_mid {d x1 y1 z1 x2 y2 z2 x3 y3 : Fin p} (h1 : x3 * (1 + d*x1*x2*y1*y2) = x1*y2 + x2*y1) (h2 : y3 * (1 - d*x1*x2*y1*y2) = y1*y2 + x1*x2) :
  (y1*z1 + x1*z1) * (y2*z2 + x2*z2) - (y1*z1 - x1*z1) * (y2*z2 - x2*z2) = x3 * ((z1*z2 + z1*z2) + (d*((x1*y1*z1)*(x2*y2*z2)) + d*((x1*y1*z1)*(x2*y2*z2)))) ∧
  (y1*z1 + x1*z1) * (y2*z2 + x2*z2) + (y1*z1 - x1*z1) * (y2*z2 - x2*z2) = y3 * ((z1*z2 + z1*z2) - (d*((x1*y1*z1)*(x2*y2*z2)) + d*((x1*y1*z1)*(x2*y2*z2)))) := by
 constructor
 ·rw [show x3 * ((z1*z2 + z1*z2) + (d*((x1*y1*z1)*(x2*y2*z2)) + d*((x1*y1*z1)*(x2*y2*z2)))) = 2*z1*z2*(x3 * (1 + d*x1*x2*y1*y2)) by grobner, h1]; grobner
 ·rw [show y3 * ((z1*z2 + z1*z2) - (d*((x1*y1*z1)*(x2*y2*z2)) + d*((x1*y1*z1)*(x2*y2*z2)))) = 2*z1*z2*(y3 * (1 - d*x1*x2*y1*y2)) by grobner, h2]; grobner
theorem R4.plus (F : Fld p) (E : Cur (-1) d) {X1 Y1 Z1 T1 X2 Y2 Z2 T2 : Fin p} {P Q : Fin p × Fin p} (h1 : R4 X1 Y1 Z1 T1 P) (h2 : R4 X2 Y2 Z2 T2 Q) (hP : On (-1) d P) (hQ : On (-1) d Q) {less more over cross : Fin p} (hl : less = (Y1 - X1) * (Y2 - X2)) (hm : more = (Y1 + X1) * (Y2 + X2)) (ho : over = Z1*Z2 + Z1*Z2) (hc : cross = d*(T1*T2) + d*(T1*T2)) :
  R4 ((more - less) * (over - cross)) ((more + less) * (over + cross)) ((over + cross) * (over - cross)) ((more - less) * (more + less)) (ad (-1) d P Q) := by
 have e := ad_eqs F E hP hQ
 have u := E.up F hP hQ
 have v := E.down F hP hQ
 have oP := on_ad F E hP hQ
 rw [show P.2*Q.2 - (-1)*P.1*Q.1 = P.2*Q.2 + P.1*Q.1 by grobner] at e
 obtain ⟨x1, y1⟩ := P
 obtain ⟨x2, y2⟩ := Q
 generalize ad (-1) d (x1, y1) (x2, y2) = S at *
 obtain ⟨x3, y3⟩ := S
 obtain ⟨e1, e2⟩ := e
 simp only at e1 e2 u v
 obtain ⟨n1, a1, b1, c1⟩ := h1
 obtain ⟨n2, a2, b2, c2⟩ := h2
 simp only at a1 b1 c1 a2 b2 c2
 have k := r4_mid (z1 := Z1) (z2 := Z2) e1 e2
 rw [← a1, ← b1, ← c1, ← a2, ← b2, ← c2, ← hl, ← hm, ← ho, ← hc] at k
 obtain ⟨k1, k2⟩ := k
 have w1 : over + cross = 2 * (Z1 * (Z2 * (1 + d*x1*x2*y1*y2))) := by rw [ho, hc, c1, c2]; grobner
 have w2 : over - cross = 2 * (Z1 * (Z2 * (1 - d*x1*x2*y1*y2))) := by rw [ho, hc, c1, c2]; grobner
 have m1 : over + cross ≠ 0 := by rw [w1]; exact F.mul F.two (F.mul n1 (F.mul n2 u))
 have m2 : over - cross ≠ 0 := by rw [w2]; exact F.mul F.two (F.mul n1 (F.mul n2 v))
 refine ⟨F.mul m1 m2, ?_, ?_, ?_⟩
 ·rw [k1]; exact xg1 _ _ _
 ·rw [k2]; exact xg2 _ _ _
 ·rw [k1, k2]; exact xg3 _ _ _ _
theorem r3_mid {d x1 y1 z1 x2 y2 z2 x3 y3 : Fin p} (h1 : x3 * (1 + d*x1*x2*y1*y2) = x1*y2 + x2*y1) (h2 : y3 * (1 - d*x1*x2*y1*y2) = y1*y2 + x1*x2) :
  (z1*z2) * ((x1*z1 + y1*z1) * (x2*z2 + y2*z2) - (x1*z1)*(x2*z2) - (y1*z1)*(y2*z2)) = x3 * ((z1*z2)*(z1*z2) + d*(((x1*z1)*(x2*z2))*((y1*z1)*(y2*z2)))) ∧
  (z1*z2) * ((y1*z1)*(y2*z2) + (x1*z1)*(x2*z2)) = y3 * ((z1*z2)*(z1*z2) - d*(((x1*z1)*(x2*z2))*((y1*z1)*(y2*z2)))) := by
 constructor
 ·rw [show x3 * ((z1*z2)*(z1*z2) + d*(((x1*z1)*(x2*z2))*((y1*z1)*(y2*z2)))) = (z1*z2)*(z1*z2)*(x3 * (1 + d*x1*x2*y1*y2)) by grobner, h1]; grobner
 ·rw [show y3 * ((z1*z2)*(z1*z2) - d*(((x1*z1)*(x2*z2))*((y1*z1)*(y2*z2)))) = (z1*z2)*(z1*z2)*(y3 * (1 - d*x1*x2*y1*y2)) by grobner, h2]; grobner
theorem R3.plus (F : Fld p) (E : Cur (-1) d) {X1 Y1 Z1 X2 Y2 Z2 : Fin p} {P Q : Fin p × Fin p} (h1 : R3 X1 Y1 Z1 P) (h2 : R3 X2 Y2 Z2 Q) (hP : On (-1) d P) (hQ : On (-1) d Q) {A B C E' G H : Fin p} (hA : A = Z1*Z2) (hB : B = A*A) (hC : C = X1*X2) (hE : E' = Y1*Y2) (hG : G = B - d*(C*E')) (hH : H = B + d*(C*E')) :
  R3 (A * (G * ((X1 + Y1) * (X2 + Y2) - C - E'))) (A * (H * (E' + C))) (G * H) (ad (-1) d P Q) := by
 have e := ad_eqs F E hP hQ
 have u := E.up F hP hQ
 have v := E.down F hP hQ
 rw [show P.2*Q.2 - (-1)*P.1*Q.1 = P.2*Q.2 + P.1*Q.1 by grobner] at e
 obtain ⟨x1, y1⟩ := P
 obtain ⟨x2, y2⟩ := Q
 generalize ad (-1) d (x1, y1) (x2, y2) = S at *
 obtain ⟨x3, y3⟩ := S
 obtain ⟨e1, e2⟩ := e
 simp only at e1 e2 u v
 obtain ⟨n1, a1, b1⟩ := h1
 obtain ⟨n2, a2, b2⟩ := h2
 simp only at a1 b1 a2 b2
 have k := r3_mid (z1 := Z1) (z2 := Z2) e1 e2
 rw [← a1, ← b1, ← a2, ← b2, ← hA, ← hC, ← hE, ← hB, ← hG, ← hH] at k
 obtain ⟨k1, k2⟩ := k
 have w1 : H = (Z1*Z2) * ((Z1*Z2) * (1 + d*x1*x2*y1*y2)) := by rw [hH, hB, hA, hC, hE, a1, a2, b1, b2]; grobner
 have w2 : G = (Z1*Z2) * ((Z1*Z2) * (1 - d*x1*x2*y1*y2)) := by rw [hG, hB, hA, hC, hE, a1, a2, b1, b2]; grobner
 have m0 := F.mul n1 n2
 have m1 : H ≠ 0 := by rw [w1]; exact F.mul m0 (F.mul m0 u)
 have m2 : G ≠ 0 := by rw [w2]; exact F.mul m0 (F.mul m0 v)
 refine ⟨F.mul m2 m1, ?_, ?_⟩
 ·simp only
  generalize (X1 + Y1) * (X2 + Y2) - C - E' = M at *
  rw [xg4 A G M, k1]; exact xg5 _ _ _
 ·simp only
  generalize E' + C = M at *
  rw [xg4 A H M, k2]; exact xg6 _ _ _
theorem same_cross (F : Fld p) {X1 Y1 Z1 X2 Y2 Z2 : Fin p} {P Q : Fin p × Fin p} (h1 : R3 X1 Y1 Z1 P) (h2 : R3 X2 Y2 Z2 Q) : (X1 * Z2 = X2 * Z1 ∧ Y1 * Z2 = Y2 * Z1) ↔ P = Q := by
 obtain ⟨n1, a1, b1⟩ := h1
 obtain ⟨n2, a2, b2⟩ := h2
 have hz := F.mul n1 n2
 rw [a1, a2, b1, b2]
 constructor
 ·rintro ⟨k1, k2⟩
  refine Prod.ext (F.can hz ?_) (F.can hz ?_)
  ·rw [xg7, k1, xg7]; exact xg8 _ _ _
  ·rw [xg7, k2, xg7]; exact xg8 _ _ _
 ·rintro rfl
  exact ⟨xg8 _ _ _, xg8 _ _ _⟩
theorem R4.r3 {X Y Z T : Fin p} {P : Fin p × Fin p} (h : R4 X Y Z T P) : R3 X Y Z P := ⟨h.z, h.x, h.y⟩
theorem R3.div (F : Fld p) {X Y Z : Fin p} {P : Fin p × Fin p} (h : R3 X Y Z P) : X * iv Z = P.1 ∧ Y * iv Z = P.2 := by
 obtain ⟨n, a, b⟩ := h
 have k := F.inv _ n
 rw [a, b]
 generalize iv Z = W at *
 constructor
 ·rw [xg1, k]; exact xg9 _
 ·rw [xg1, k]; exact xg9 _
theorem dz1 {d y v c : Fin p} (h : 1 + d*(y*y) = 0) (hv : y * v = 1) (hc : c*c = -1) : (c*v)*(c*v) = d := by
 have e1 : (c*v)*(c*v) = (c*c)*(v*v) := by grobner
 have e2 : d = (d*(y*y))*(v*v) := by
  have : (d*(y*y))*(v*v) = d*((y*v)*(y*v)) := by grobner
  rw [this, hv]; grobner
 have e3 : d*(y*y) = -1 := by grobner
 rw [e1, hc, e2, e3]
theorem Cur.dnz (F : Fld p) (E : Cur (-1) d) (y : Fin p) : 1 + d*(y*y) ≠ 0 := by
 intro h
 obtain ⟨c, hc⟩ := E.sq
 by_cases hy : y = 0
 ·rw [hy] at h
  have : (1 : Fin p) = 0 := by grobner
  exact F.one this
 ·exact E.ns _ (dz1 h (F.inv _ hy) hc)
theorem on_iff {x y : Fin p} : On (-1) d (x, y) ↔ x*x*(1 + d*(y*y)) = y*y - 1 := by
 unfold On
 simp only
 constructor
 ·intro h; grobner
 ·intro h; grobner
end
end Go.Proofs.YtjfidbifjagnpaaDoor
