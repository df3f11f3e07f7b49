/-
  Curves of Edwards' form over a field of p numbers, plainly: two points together are a point, in whatever order and grouping.
  A ladder over points' y: plainly. Two points that are told as quotients, one of them twice, and both together.
  The ladder, plainly: what it comes to is a point's y, so many times; so it may be grouped otherwise.
-/
namespace Go.Proofs.Ytiehjhlekpjlaaa
set_option linter.unusedVariables false
set_option maxRecDepth 100000
section
variable {p : Nat} [NeZero p]

theorem edA1 (a d x1 y1 x2 y2 x3 y3 : Fin p) : ((x1*y2+x2*y1)*y3*(1-(d*x1*x2*y1*y2))+x3*(y1*y2-a*x1*x2)*(1+(d*x1*x2*y1*y2)))*((1-(d*x2*x3*y2*y3)*(d*x2*x3*y2*y3))+d*(x2*y3+x3*y2)*(y2*y3-a*x2*x3)*x1*y1)-(x1*(y2*y3-a*x2*x3)*(1+(d*x2*x3*y2*y3))+y1*(x2*y3+x3*y2)*(1-(d*x2*x3*y2*y3)))*((1-(d*x1*x2*y1*y2)*(d*x1*x2*y1*y2))+d*(x1*y2+x2*y1)*(y1*y2-a*x1*x2)*x3*y3) = (- x1*x2*x2*x2*x3*x3*x3*a*a*a + y1*x2*x2*y2*x3*x3*x3*a*a - x1*x2*y2*y2*x3*x3*x3*a*a + y1*x2*x2*x2*x3*x3*y3*a*a + x1*x2*x2*y2*x3*x3*y3*a*a - x1*x2*x2*x2*x3*y3*y3*a*a - x1*x2*x2*y2*x3*x3*y3*a*d + y1*y2*y2*y2*x3*x3*x3*a + y1*x2*y2*y2*x3*x3*y3*a + x1*y2*y2*y2*x3*x3*y3*a + y1*x2*x2*y2*x3*y3*y3*a - x1*x2*y2*y2*x3*y3*y3*a + y1*x2*x2*x2*y3*y3*y3*a + x1*x2*x2*y2*y3*y3*y3*a - y1*x2*y2*y2*x3*x3*y3*d - y1*x2*x2*y2*x3*y3*y3*d + x1*x2*y2*y2*x3*y3*y3*d + y1*y2*y2*y2*x3*y3*y3 + y1*x2*y2*y2*y3*y3*y3 + x1*y2*y2*y2*y3*y3*y3 + x1*x2*x2*x2*x3*a*a + x1*x2*x3*x3*x3*a*a - y1*x2*x2*y2*x3*a + x1*x2*y2*y2*x3*a - y1*y2*x3*x3*x3*a - y1*x2*x2*x2*y3*a - x1*x2*x2*y2*y3*a - y1*x2*x3*x3*y3*a - x1*y2*x3*x3*y3*a + x1*x2*x3*y3*y3*a - y1*y2*y2*y2*x3 - y1*x2*y2*y2*y3 - x1*y2*y2*y2*y3 - y1*y2*x3*y3*y3 - y1*x2*y3*y3*y3 - x1*y2*y3*y3*y3 - x1*x2*x3*a + y1*y2*x3 + y1*x2*y3 + x1*y2*y3)*(a*x1*x1+y1*y1-1-d*x1*x1*y1*y1) + (x1*x1*x1*y1*y1*x2*x2*y2*x3*x3*y3*a*d*d + x1*x1*y1*y1*y1*x2*y2*y2*x3*x3*y3*d*d + x1*x1*y1*y1*y1*x2*x2*y2*x3*y3*y3*d*d - x1*x1*x1*y1*y1*x2*y2*y2*x3*y3*y3*d*d - x1*x1*x1*y1*y1*x2*x3*x3*x3*a*a*d - x1*x1*y1*x2*x2*y2*x3*x3*x3*a*a*d + x1*x1*y1*y1*y1*y2*x3*x3*x3*a*d + x1*y1*y1*x2*y2*y2*x3*x3*x3*a*d + x1*x1*y1*y1*y1*x2*x3*x3*y3*a*d + x1*x1*x1*y1*y1*y2*x3*x3*y3*a*d - x1*y1*y1*x2*x2*y2*x3*x3*y3*a*d - x1*x1*y1*x2*y2*y2*x3*x3*y3*a*d - x1*x1*x1*y1*y1*x2*x3*y3*y3*a*d - x1*x1*y1*x2*x2*y2*x3*y3*y3*a*d + x1*x1*x1*x2*x3*x3*x3*a*a*a + x1*x1*y1*y1*y1*y2*x3*y3*y3*d + x1*y1*y1*x2*y2*y2*x3*y3*y3*d + x1*x1*y1*y1*y1*x2*y3*y3*y3*d + x1*x1*x1*y1*y1*y2*y3*y3*y3*d - x1*y1*y1*x2*x2*y2*y3*y3*y3*d - x1*x1*y1*x2*y2*y2*y3*y3*y3*d + x1*y1*y1*x2*x3*x3*x3*a*a - x1*x1*y1*y2*x3*x3*x3*a*a - x1*x1*y1*x2*x3*x3*y3*a*a - x1*x1*x1*y2*x3*x3*y3*a*a + x1*x1*x1*x2*x3*y3*y3*a*a + x1*x1*x1*y1*y1*x2*x3*a*d + x1*x1*y1*x2*x2*y2*x3*a*d - y1*y1*y1*y2*x3*x3*x3*a - y1*y1*y1*x2*x3*x3*y3*a - x1*y1*y1*y2*x3*x3*y3*a + x1*y1*y1*x2*x3*y3*y3*a - x1*x1*y1*y2*x3*y3*y3*a - x1*x1*y1*x2*y3*y3*y3*a - x1*x1*x1*y2*y3*y3*y3*a - x1*x1*y1*y1*y1*y2*x3*d - x1*y1*y1*x2*y2*y2*x3*d - x1*x1*y1*y1*y1*x2*y3*d - x1*x1*x1*y1*y1*y2*y3*d + x1*y1*y1*x2*x2*y2*y3*d + x1*x1*y1*x2*y2*y2*y3*d - y1*y1*y1*y2*x3*y3*y3 - y1*y1*y1*x2*y3*y3*y3 - x1*y1*y1*y2*y3*y3*y3 - x1*x1*x1*x2*x3*a*a - x1*x2*x3*x3*x3*a*a - x1*y1*y1*x2*x3*a + x1*x1*y1*y2*x3*a + y1*y2*x3*x3*x3*a + x1*x1*y1*x2*y3*a + x1*x1*x1*y2*y3*a + y1*x2*x3*x3*y3*a + x1*y2*x3*x3*y3*a - x1*x2*x3*y3*y3*a + y1*y1*y1*y2*x3 + y1*y1*y1*x2*y3 + x1*y1*y1*y2*y3 + y1*y2*x3*y3*y3 + y1*x2*y3*y3*y3 + x1*y2*y3*y3*y3 + x1*x2*x3*a - y1*y2*x3 - y1*x2*y3 - x1*y2*y3)*(a*x2*x2+y2*y2-1-d*x2*x2*y2*y2) + (- x1*x1*y1*x2*x2*x2*x2*y2*y2*y2*x3*a*d*d + x1*y1*y1*x2*x2*x2*y2*y2*y2*y2*x3*d*d - x1*y1*y1*x2*x2*x2*x2*y2*y2*y2*y3*d*d - x1*x1*y1*x2*x2*x2*y2*y2*y2*y2*y3*d*d + x1*x1*y1*x2*x2*x2*x2*y2*x3*a*a*d + x1*x1*x1*x2*x2*x2*y2*y2*x3*a*a*d + x1*y1*y1*x2*x2*x2*x2*y2*y3*a*d - x1*x1*x1*x2*x2*y2*y2*y2*y3*a*d - y1*y1*y1*x2*x2*y2*y2*y2*x3*d - x1*y1*y1*x2*y2*y2*y2*y2*x3*d - y1*y1*y1*x2*x2*x2*y2*y2*y3*d + x1*x1*y1*x2*y2*y2*y2*y2*y3*d - x1*x2*x2*x2*y2*y2*x3*a*d + y1*x2*x2*y2*y2*y2*x3*d + y1*x2*x2*x2*y2*y2*y3*d + x1*x2*x2*y2*y2*y2*y3*d)*(a*x3*x3+y3*y3-1-d*x3*x3*y3*y3) := by grobner
theorem edA2 (a d x1 y1 x2 y2 x3 y3 : Fin p) : ((y1*y2-a*x1*x2)*y3*(1+(d*x1*x2*y1*y2))-a*(x1*y2+x2*y1)*x3*(1-(d*x1*x2*y1*y2)))*((1-(d*x2*x3*y2*y3)*(d*x2*x3*y2*y3))-d*(x2*y3+x3*y2)*(y2*y3-a*x2*x3)*x1*y1)-(y1*(y2*y3-a*x2*x3)*(1+(d*x2*x3*y2*y3))-a*x1*(x2*y3+x3*y2)*(1-(d*x2*x3*y2*y3)))*((1-(d*x1*x2*y1*y2)*(d*x1*x2*y1*y2))-d*(x1*y2+x2*y1)*(y1*y2-a*x1*x2)*x3*y3) = (- y1*x2*x2*x2*x3*x3*x3*a*a*a - x1*x2*x2*y2*x3*x3*x3*a*a*a - x1*x2*x2*x2*x3*x3*y3*a*a*a - y1*x2*y2*y2*x3*x3*x3*a*a - x1*y2*y2*y2*x3*x3*x3*a*a + y1*x2*x2*y2*x3*x3*y3*a*a - x1*x2*y2*y2*x3*x3*y3*a*a - y1*x2*x2*x2*x3*y3*y3*a*a - x1*x2*x2*y2*x3*y3*y3*a*a - x1*x2*x2*x2*y3*y3*y3*a*a - y1*x2*x2*y2*x3*x3*y3*a*d + x1*x2*y2*y2*x3*x3*y3*a*d + x1*x2*x2*y2*x3*y3*y3*a*d + y1*y2*y2*y2*x3*x3*y3*a - y1*x2*y2*y2*x3*y3*y3*a - x1*y2*y2*y2*x3*y3*y3*a + y1*x2*x2*y2*y3*y3*y3*a - x1*x2*y2*y2*y3*y3*y3*a + y1*x2*y2*y2*x3*y3*y3*d + y1*y2*y2*y2*y3*y3*y3 + y1*x2*x2*x2*x3*a*a + x1*x2*x2*y2*x3*a*a + y1*x2*x3*x3*x3*a*a + x1*y2*x3*x3*x3*a*a + x1*x2*x2*x2*y3*a*a + x1*x2*x3*x3*y3*a*a + y1*x2*y2*y2*x3*a + x1*y2*y2*y2*x3*a - y1*x2*x2*y2*y3*a + x1*x2*y2*y2*y3*a - y1*y2*x3*x3*y3*a + y1*x2*x3*y3*y3*a + x1*y2*x3*y3*y3*a + x1*x2*y3*y3*y3*a - y1*y2*y2*y2*y3 - y1*y2*y3*y3*y3 - y1*x2*x3*a - x1*y2*x3*a - x1*x2*y3*a + y1*y2*y3)*(a*x1*x1+y1*y1-1-d*x1*x1*y1*y1) + (x1*x1*y1*y1*y1*x2*x2*y2*x3*x3*y3*a*d*d - x1*x1*x1*y1*y1*x2*y2*y2*x3*x3*y3*a*d*d - x1*x1*x1*y1*y1*x2*x2*y2*x3*y3*y3*a*d*d - x1*x1*y1*y1*y1*x2*y2*y2*x3*y3*y3*d*d - x1*x1*y1*y1*y1*x2*x3*x3*x3*a*a*d - x1*x1*x1*y1*y1*y2*x3*x3*x3*a*a*d + x1*y1*y1*x2*x2*y2*x3*x3*x3*a*a*d + x1*x1*y1*x2*y2*y2*x3*x3*x3*a*a*d - x1*x1*x1*y1*y1*x2*x3*x3*y3*a*a*d - x1*x1*y1*x2*x2*y2*x3*x3*y3*a*a*d + x1*x1*y1*y1*y1*y2*x3*x3*y3*a*d + x1*y1*y1*x2*y2*y2*x3*x3*y3*a*d - x1*x1*y1*y1*y1*x2*x3*y3*y3*a*d - x1*x1*x1*y1*y1*y2*x3*y3*y3*a*d + x1*y1*y1*x2*x2*y2*x3*y3*y3*a*d + x1*x1*y1*x2*y2*y2*x3*y3*y3*a*d - x1*x1*x1*y1*y1*x2*y3*y3*y3*a*d - x1*x1*y1*x2*x2*y2*y3*y3*y3*a*d + x1*x1*y1*x2*x3*x3*x3*a*a*a + x1*x1*x1*y2*x3*x3*x3*a*a*a + x1*x1*x1*x2*x3*x3*y3*a*a*a + x1*x1*y1*y1*y1*y2*y3*y3*y3*d + x1*y1*y1*x2*y2*y2*y3*y3*y3*d + y1*y1*y1*x2*x3*x3*x3*a*a + x1*y1*y1*y2*x3*x3*x3*a*a + x1*y1*y1*x2*x3*x3*y3*a*a - x1*x1*y1*y2*x3*x3*y3*a*a + x1*x1*y1*x2*x3*y3*y3*a*a + x1*x1*x1*y2*x3*y3*y3*a*a + x1*x1*x1*x2*y3*y3*y3*a*a + x1*x1*y1*y1*y1*x2*x3*a*d + x1*x1*x1*y1*y1*y2*x3*a*d - x1*y1*y1*x2*x2*y2*x3*a*d - x1*x1*y1*x2*y2*y2*x3*a*d + x1*x1*x1*y1*y1*x2*y3*a*d + x1*x1*y1*x2*x2*y2*y3*a*d - y1*y1*y1*y2*x3*x3*y3*a + y1*y1*y1*x2*x3*y3*y3*a + x1*y1*y1*y2*x3*y3*y3*a + x1*y1*y1*x2*y3*y3*y3*a - x1*x1*y1*y2*y3*y3*y3*a - x1*x1*y1*y1*y1*y2*y3*d - x1*y1*y1*x2*y2*y2*y3*d - y1*y1*y1*y2*y3*y3*y3 - x1*x1*y1*x2*x3*a*a - x1*x1*x1*y2*x3*a*a - y1*x2*x3*x3*x3*a*a - x1*y2*x3*x3*x3*a*a - x1*x1*x1*x2*y3*a*a - x1*x2*x3*x3*y3*a*a - y1*y1*y1*x2*x3*a - x1*y1*y1*y2*x3*a - x1*y1*y1*x2*y3*a + x1*x1*y1*y2*y3*a + y1*y2*x3*x3*y3*a - y1*x2*x3*y3*y3*a - x1*y2*x3*y3*y3*a - x1*x2*y3*y3*y3*a + y1*y1*y1*y2*y3 + y1*y2*y3*y3*y3 + y1*x2*x3*a + x1*y2*x3*a + x1*x2*y3*a - y1*y2*y3)*(a*x2*x2+y2*y2-1-d*x2*x2*y2*y2) + (x1*y1*y1*x2*x2*x2*x2*y2*y2*y2*x3*a*d*d + x1*x1*y1*x2*x2*x2*y2*y2*y2*y2*x3*a*d*d - x1*x1*y1*x2*x2*x2*x2*y2*y2*y2*y3*a*d*d + x1*y1*y1*x2*x2*x2*y2*y2*y2*y2*y3*d*d - x1*y1*y1*x2*x2*x2*x2*y2*x3*a*a*d + x1*x1*x1*x2*x2*y2*y2*y2*x3*a*a*d + x1*x1*y1*x2*x2*x2*x2*y2*y3*a*a*d + x1*x1*x1*x2*x2*x2*y2*y2*y3*a*a*d + y1*y1*y1*x2*x2*x2*y2*y2*x3*a*d - x1*x1*y1*x2*y2*y2*y2*y2*x3*a*d - y1*y1*y1*x2*x2*y2*y2*y2*y3*d - x1*y1*y1*x2*y2*y2*y2*y2*y3*d - y1*x2*x2*x2*y2*y2*x3*a*d - x1*x2*x2*y2*y2*y2*x3*a*d - x1*x2*x2*x2*y2*y2*y3*a*d + y1*x2*x2*y2*y2*y2*y3*d)*(a*x3*x3+y3*y3-1-d*x3*x3*y3*y3) := by grobner
theorem edC (a d x1 y1 x2 y2 : Fin p) : a*(x1*y2+x2*y1)*(x1*y2+x2*y1)*(1-(d*x1*x2*y1*y2))*(1-(d*x1*x2*y1*y2)) + (y1*y2-a*x1*x2)*(y1*y2-a*x1*x2)*(1+(d*x1*x2*y1*y2))*(1+(d*x1*x2*y1*y2)) - (1-(d*x1*x2*y1*y2)*(d*x1*x2*y1*y2))*(1-(d*x1*x2*y1*y2)*(d*x1*x2*y1*y2)) - d*(x1*y2+x2*y1)*(x1*y2+x2*y1)*(y1*y2-a*x1*x2)*(y1*y2-a*x1*x2) = (x1*x1*y1*y1*x2*x2*x2*x2*a*a*d + x1*x1*y1*y1*y2*y2*y2*y2*d + 2*x1*x1*y1*y1*x2*x2*a*a - 2*x1*x1*y1*y1*x2*x2*a*d + 2*x1*x1*y1*y1*y2*y2*a - 2*x1*x1*y1*y1*y2*y2*d - x1*x1*x2*x2*a*a - 2*x1*x1*y1*y1*a - y1*y1*x2*x2*a - x1*x1*y2*y2*a + x1*x1*y1*y1*d - y1*y1*y2*y2 + x1*x1*a + y1*y1 + 1)*(a*x1*x1+y1*y1-1-d*x1*x1*y1*y1) + (x1*x1*x1*x1*y1*y1*y1*y1*x2*x2*y2*y2*d*d*d + x1*x1*x1*x1*y1*y1*y1*y1*x2*x2*a*d*d + x1*x1*x1*x1*y1*y1*y1*y1*y2*y2*d*d - x1*x1*x1*x1*y1*y1*x2*x2*a*a*d + 2*x1*x1*x1*x1*y1*y1*y1*y1*a*d - x1*x1*y1*y1*y1*y1*x2*x2*a*d - x1*x1*x1*x1*y1*y1*y2*y2*a*d - x1*x1*x1*x1*y1*y1*y1*y1*d*d - x1*x1*y1*y1*y1*y1*y2*y2*d - 2*x1*x1*x1*x1*y1*y1*a*a - 2*x1*x1*y1*y1*y1*y1*a + x1*x1*x1*x1*a*a + 4*x1*x1*y1*y1*a - 2*x1*x1*y1*y1*d + y1*y1*y1*y1)*(a*x2*x2+y2*y2-1-d*x2*x2*y2*y2) := by grobner
theorem edD (a d x1 y1 x2 y2 : Fin p) : (y1+y2)*(y1+y2)*(1+(d*x1*x2*y1*y2)-(y1*y2+a*x1*x2))*(1-(d*x1*x2*y1*y2)-(y1*y2-a*x1*x2)) - (y2-y1)*(y2-y1)*(1+(d*x1*x2*y1*y2)+(y1*y2+a*x1*x2))*(1-(d*x1*x2*y1*y2)+(y1*y2-a*x1*x2)) = (4*y1*y2*y2*y2 - 4*y1*y2)*(a*x1*x1+y1*y1-1-d*x1*x1*y1*y1) + (4*x1*x1*y1*y1*y1*y2*d - 4*x1*x1*y1*y2*a)*(a*x2*x2+y2*y2-1-d*x2*x2*y2*y2) := by grobner

/-- What comes to 1 with a number; 0 of 0. -/
def iv (a : Fin p) : Fin p := Fin.ofNat p (a.val ^ (p - 2))

/-- It is a field, and 2 is not 0. -/
structure Fld (p : Nat) [NeZero p] : Prop where
  inv : ∀ a : Fin p, a ≠ 0 → a * iv a = 1
  zer : iv (0 : Fin p) = 0
  two : (2 : Fin p) ≠ 0
  one : (1 : Fin p) ≠ 0

theorem Fld.nz (F : Fld p) {a b : Fin p} (e : a * b = 0) : a = 0 ∨ b = 0 := by
  by_cases ha : a = 0
  · exact .inl ha
  · refine .inr ?_
    have := F.inv a ha
    have h : b = a * iv a * b := by rw [this]; grobner
    rw [h]
    have h2 : a * iv a * b = iv a * (a * b) := by grobner
    rw [h2, e]
    grobner

theorem Fld.mul (F : Fld p) {a b : Fin p} (ha : a ≠ 0) (hb : b ≠ 0) : a * b ≠ 0 := fun e => by
  rcases F.nz e with h | h
  · exact ha h
  · exact hb h

theorem Fld.can (F : Fld p) {a b c : Fin p} (ha : a ≠ 0) (e : a * b = a * c) : b = c := by
  have h : a * (b - c) = 0 := by grobner
  rcases F.nz h with h | h
  · exact absurd h ha
  · grind

theorem Fld.iv1 (F : Fld p) : iv (1 : Fin p) = 1 := by
  have := F.inv 1 F.one
  grobner

/-- What x y = 1 says. -/
theorem Fld.ivu (F : Fld p) {a b : Fin p} (e : a * b = 1) : iv a = b := by
  have ha : a ≠ 0 := fun h => F.one (by rw [← e, h]; grobner)
  exact F.can ha (by rw [F.inv a ha, e])

theorem Fld.sq0 (F : Fld p) {a : Fin p} (e : a * a = 0) : a = 0 := by
  rcases F.nz e with h | h <;> exact h

theorem Fld.twice0 (F : Fld p) {a : Fin p} (e : 2 * a = 0) : a = 0 := by
  rcases F.nz e with h | h
  · exact absurd h F.two
  · exact h

/-- The curve's numbers: a a square, d none. -/
structure Cur (a d : Fin p) : Prop where
  sq : ∃ c, c * c = a
  nz : a ≠ 0
  ns : ∀ s, s * s ≠ d

def On (a d : Fin p) (P : Fin p × Fin p) : Prop := a*P.1*P.1 + P.2*P.2 - 1 - d*P.1*P.1*P.2*P.2 = 0

variable {a d : Fin p}

theorem edL {A B C : Fin p} (h : A + B - 1 - C = 0) : A + B = 1 + C := by grobner
theorem edL' {A B C : Fin p} (h : A + B - 1 - C = 0) : C + 1 = A + B := by grobner
theorem edZ1 {d ax ay bx cy x1 y1 x3 y3 s t R1 R2 R3 : Fin p} (k : ((ax*(1+s))*y3*(1-s)+x3*(ay*(1-s))*(1+s)) * ((1-t*t)+d*(bx*(1+t))*(cy*(1-t))*x1*y1) - (x1*(cy*(1-t))*(1+t)+y1*(bx*(1+t))*(1-t))*((1-s*s)+d*(ax*(1+s))*(ay*(1-s))*x3*y3) = R1*0 + R2*0 + R3*0) :
    (1+s)*(1-s)*(ax*y3+x3*ay)*((1+t)*(1-t)*(1+d*x1*bx*y1*cy)) = (1+s)*(1-s)*(1+d*ax*x3*ay*y3)*((1+t)*(1-t)*(x1*cy+bx*y1)) := by grobner
theorem edZ2 {a d ax ay bx cy x1 y1 x3 y3 s t R1 R2 R3 : Fin p} (k : ((ay*(1-s))*y3*(1+s)-a*(ax*(1+s))*x3*(1-s)) * ((1-t*t)-d*(bx*(1+t))*(cy*(1-t))*x1*y1) - (y1*(cy*(1-t))*(1+t)-a*x1*(bx*(1+t))*(1-t))*((1-s*s)-d*(ax*(1+s))*(ay*(1-s))*x3*y3) = R1*0 + R2*0 + R3*0) :
    (1+s)*(1-s)*(ay*y3-a*ax*x3)*((1+t)*(1-t)*(1-d*x1*bx*y1*cy)) = (1+s)*(1-s)*(1-d*ax*x3*ay*y3)*((1+t)*(1-t)*(y1*cy-a*x1*bx)) := by grobner

theorem Cur.comp0 (F : Fld p) (E : Cur a d) {c x1 y1 x2 y2 ε : Fin p} (hc : c * c = a) (e1 : a*x1*x1 + y1*y1 - 1 - d*x1*x1*y1*y1 = 0) (e2 : a*x2*x2 + y2*y2 - 1 - d*x2*x2*y2*y2 = 0)
    (hε : ε = d*x1*x2*y1*y2) (t : ε * ε = 1) : c*x2 + y2 = 0 := by
  apply Classical.byContradiction
  intro hn
  have e0 : ε ≠ 0 := fun h => F.one (by rw [← t, h]; grobner)
  have hx : x1 ≠ 0 := fun h => e0 (by rw [hε, h]; grobner)
  have hy : y1 ≠ 0 := fun h => e0 (by rw [hε, h]; grobner)
  have hz : x1 * y1 * (c*x2 + y2) ≠ 0 := F.mul (F.mul hx hy) hn
  have hi := F.inv _ hz
  have k1 : d*(x1*y1)*(x1*y1)*(a*x2*x2 + y2*y2) = a*x1*x1 + y1*y1 := by
    have h1 : a*x2*x2 + y2*y2 = 1 + d*x2*x2*y2*y2 := edL e2
    rw [h1]
    have h2 : d*(x1*y1)*(x1*y1)*(1 + d*x2*x2*y2*y2) = d*x1*x1*y1*y1 + ε * ε := by rw [hε]; grobner
    rw [h2, t]
    exact edL' e1
  have k2 : (c*x1 + ε*y1)*(c*x1 + ε*y1) = d*((x1 * y1 * (c*x2 + y2))*(x1 * y1 * (c*x2 + y2))) := by
    have h1 : (c*x1 + ε*y1)*(c*x1 + ε*y1) = c*c*x1*x1 + ε*ε*(y1*y1) + 2*c*x1*y1*ε := by grobner
    have h2 : d*((x1 * y1 * (c*x2 + y2))*(x1 * y1 * (c*x2 + y2))) = d*(x1*y1)*(x1*y1)*(c*c*x2*x2 + y2*y2) + 2*c*x1*y1*(d*x1*x2*y1*y2) := by grobner
    rw [h1, h2, t, hc, k1, hε]
    grobner
  refine E.ns ((c*x1 + ε*y1) * iv (x1 * y1 * (c*x2 + y2))) ?_
  generalize x1 * y1 * (c*x2 + y2) = z at *
  generalize iv z = zi at *
  have h3 : (c*x1 + ε*y1) * zi * ((c*x1 + ε*y1) * zi) = (c*x1 + ε*y1)*(c*x1 + ε*y1) * (zi * zi) := by grobner
  rw [h3, k2]
  have h4 : d * (z * z) * (zi * zi) = d * (z * zi) * (z * zi) := by grobner
  rw [h4, hi]
  grobner

theorem Cur.comp (F : Fld p) (E : Cur a d) {x1 y1 x2 y2 : Fin p} (e1 : a*x1*x1 + y1*y1 - 1 - d*x1*x1*y1*y1 = 0) (e2 : a*x2*x2 + y2*y2 - 1 - d*x2*x2*y2*y2 = 0) :
    (d*x1*x2*y1*y2) * (d*x1*x2*y1*y2) ≠ 1 := by
  intro t
  obtain ⟨c, hc⟩ := E.sq
  have h1 := E.comp0 F hc e1 e2 rfl t
  have h2 := E.comp0 F (x2 := x2) (y2 := -y2) (x1 := x1) (y1 := y1) hc e1 (by grobner) rfl (by grobner)
  have h3 : y2 = 0 := F.twice0 (by grobner)
  exact F.one (by rw [← t, h3]; grobner)

theorem Cur.up (F : Fld p) (E : Cur a d) {x1 y1 x2 y2 : Fin p} (e1 : a*x1*x1 + y1*y1 - 1 - d*x1*x1*y1*y1 = 0) (e2 : a*x2*x2 + y2*y2 - 1 - d*x2*x2*y2*y2 = 0) :
    1 + d*x1*x2*y1*y2 ≠ 0 := by
  intro h
  refine E.comp F e1 e2 ?_
  have : d*x1*x2*y1*y2 = -1 := by grobner
  rw [this]
  grobner

theorem Cur.down (F : Fld p) (E : Cur a d) {x1 y1 x2 y2 : Fin p} (e1 : a*x1*x1 + y1*y1 - 1 - d*x1*x1*y1*y1 = 0) (e2 : a*x2*x2 + y2*y2 - 1 - d*x2*x2*y2*y2 = 0) :
    1 - d*x1*x2*y1*y2 ≠ 0 := by
  intro h
  refine E.comp F e1 e2 ?_
  have : d*x1*x2*y1*y2 = 1 := by grobner
  rw [this]
  grobner

/-- Two points together. -/
def ad (a d : Fin p) (P Q : Fin p × Fin p) : Fin p × Fin p :=
  ((P.1*Q.2 + Q.1*P.2) * iv (1 + d*P.1*Q.1*P.2*Q.2), (P.2*Q.2 - a*P.1*Q.1) * iv (1 - d*P.1*Q.1*P.2*Q.2))

/-- The equations that say what comes of it. -/
theorem ad_eqs (F : Fld p) (E : Cur a d) {P Q : Fin p × Fin p} (hP : On a d P) (hQ : On a d Q) :
    (ad a d P Q).1 * (1 + d*P.1*Q.1*P.2*Q.2) = P.1*Q.2 + Q.1*P.2 ∧ (ad a d P Q).2 * (1 - d*P.1*Q.1*P.2*Q.2) = P.2*Q.2 - a*P.1*Q.1 := by
  have h1 := F.inv _ (E.up F hP hQ)
  have h2 := F.inv _ (E.down F hP hQ)
  unfold ad
  simp only
  generalize 1 + d*P.1*Q.1*P.2*Q.2 = u at *
  generalize 1 - d*P.1*Q.1*P.2*Q.2 = v at *
  generalize iv u = ui at *
  generalize iv v = vi at *
  constructor
  · have : (P.1*Q.2 + Q.1*P.2) * ui * u = (P.1*Q.2 + Q.1*P.2) * (u * ui) := by grobner
    rw [this, h1]; grobner
  · have : (P.2*Q.2 - a*P.1*Q.1) * vi * v = (P.2*Q.2 - a*P.1*Q.1) * (v * vi) := by grobner
    rw [this, h2]; grobner

theorem ad_comm (P Q : Fin p × Fin p) : ad a d P Q = ad a d Q P := by
  unfold ad
  rw [show P.1*Q.2 + Q.1*P.2 = Q.1*P.2 + P.1*Q.2 by grobner, show d*P.1*Q.1*P.2*Q.2 = d*Q.1*P.1*Q.2*P.2 by grobner, show P.2*Q.2 - a*P.1*Q.1 = Q.2*P.2 - a*Q.1*P.1 by grobner]

theorem on_zero : On a d (0, 1) := by unfold On; grobner

theorem on_neg {P : Fin p × Fin p} (h : On a d P) : On a d (-P.1, P.2) := by
  unfold On at *
  simp only
  grobner

theorem ad_zero (F : Fld p) (P : Fin p × Fin p) : ad a d (0, 1) P = P := by
  obtain ⟨x, y⟩ := P
  unfold ad
  simp only
  rw [show 1 + d*0*x*1*y = (1 : Fin p) by grobner, show 1 - d*0*x*1*y = (1 : Fin p) by grobner, F.iv1]
  congr 1 <;> grobner

theorem on_ad (F : Fld p) (E : Cur a d) {P Q : Fin p × Fin p} (hP : On a d P) (hQ : On a d Q) : On a d (ad a d P Q) := by
  obtain ⟨h1, h2⟩ := ad_eqs F E hP hQ
  have hu := E.up F hP hQ
  have hv := E.down F hP hQ
  have hc := edC a d P.1 P.2 Q.1 Q.2
  obtain ⟨x1, y1⟩ := P
  obtain ⟨x2, y2⟩ := Q
  generalize ad a d (x1, y1) (x2, y2) = R at *
  obtain ⟨x3, y3⟩ := R
  simp only at *
  have e1 : a*x1*x1 + y1*y1 - 1 - d*x1*x1*y1*y1 = 0 := hP
  have e2 : a*x2*x2 + y2*y2 - 1 - d*x2*x2*y2*y2 = 0 := hQ
  rw [e1, e2, ← h1, ← h2] at hc
  generalize d*x1*x2*y1*y2 = t at *
  clear h1 h2 e1 e2 hP hQ
  show a*x3*x3 + y3*y3 - 1 - d*x3*x3*y3*y3 = 0
  have hz : (1 + t) * (1 + t) * ((1 - t) * (1 - t)) ≠ 0 := F.mul (F.mul hu hu) (F.mul hv hv)
  refine F.can hz ?_
  grobner

theorem ad_neg (F : Fld p) (E : Cur a d) {P : Fin p × Fin p} (hP : On a d P) : ad a d P (-P.1, P.2) = (0, 1) := by
  obtain ⟨h1, h2⟩ := ad_eqs F E hP (on_neg hP)
  have hu := E.up F hP (on_neg hP)
  have hv := E.down F hP (on_neg hP)
  obtain ⟨x1, y1⟩ := P
  generalize ad a d (x1, y1) (-x1, y1) = R at *
  obtain ⟨x3, y3⟩ := R
  simp only at *
  have e1 : a*x1*x1 + y1*y1 - 1 - d*x1*x1*y1*y1 = 0 := hP
  congr 1
  · refine F.can hu ?_
    grobner
  · refine F.can hv ?_
    grobner

theorem ad_assoc (F : Fld p) (E : Cur a d) {P Q S : Fin p × Fin p} (hP : On a d P) (hQ : On a d Q) (hS : On a d S) :
    ad a d (ad a d P Q) S = ad a d P (ad a d Q S) := by
  have hPQ := on_ad F E hP hQ
  have hQS := on_ad F E hQ hS
  obtain ⟨h1, h2⟩ := ad_eqs F E hP hQ
  obtain ⟨h3, h4⟩ := ad_eqs F E hQ hS
  obtain ⟨h5, h6⟩ := ad_eqs F E hPQ hS
  obtain ⟨h7, h8⟩ := ad_eqs F E hP hQS
  have u1 := E.up F hP hQ
  have v1 := E.down F hP hQ
  have u2 := E.up F hQ hS
  have v2 := E.down F hQ hS
  have u3 := E.up F hPQ hS
  have v3 := E.down F hPQ hS
  have u4 := E.up F hP hQS
  have v4 := E.down F hP hQS
  have k1 := edA1 a d P.1 P.2 Q.1 Q.2 S.1 S.2
  have k2 := edA2 a d P.1 P.2 Q.1 Q.2 S.1 S.2
  have e1 : a*P.1*P.1 + P.2*P.2 - 1 - d*P.1*P.1*P.2*P.2 = 0 := hP
  have e2 : a*Q.1*Q.1 + Q.2*Q.2 - 1 - d*Q.1*Q.1*Q.2*Q.2 = 0 := hQ
  have e3 : a*S.1*S.1 + S.2*S.2 - 1 - d*S.1*S.1*S.2*S.2 = 0 := hS
  rw [e1, e2, e3, ← h1, ← h2, ← h3, ← h4] at k1 k2
  clear hP hQ hS hPQ hQS h1 h2 h3 h4 e1 e2 e3
  generalize ad a d (ad a d P Q) S = L at *
  generalize ad a d P (ad a d Q S) = R at *
  generalize ad a d P Q = A at *
  generalize ad a d Q S = B at *
  obtain ⟨lx, ly⟩ := L
  obtain ⟨rx, ry⟩ := R
  obtain ⟨ax, ay⟩ := A
  obtain ⟨bx, by'⟩ := B
  obtain ⟨x1, y1⟩ := P
  obtain ⟨x2, y2⟩ := Q
  obtain ⟨x3, y3⟩ := S
  simp only at *
  generalize d*x1*x2*y1*y2 = s at *
  generalize d*x2*x3*y2*y3 = t at *
  have z1 : (1 + s) * (1 - s) ≠ 0 := F.mul u1 v1
  have z2 : (1 + t) * (1 - t) ≠ 0 := F.mul u2 v2
  congr 1
  · have z : ((1 + s) * (1 - s) * (1 + d*ax*x3*ay*y3)) * ((1 + t) * (1 - t) * (1 + d*x1*bx*y1*by')) ≠ 0 := F.mul (F.mul z1 u3) (F.mul z2 u4)
    refine F.can z ?_
    have g1 : ((1 + s) * (1 - s) * (1 + d*ax*x3*ay*y3)) * ((1 + t) * (1 - t) * (1 + d*x1*bx*y1*by')) * lx = ((1 + s) * (1 - s) * (lx * (1 + d*ax*x3*ay*y3))) * ((1 + t) * (1 - t) * (1 + d*x1*bx*y1*by')) := by grobner
    have g2 : ((1 + s) * (1 - s) * (1 + d*ax*x3*ay*y3)) * ((1 + t) * (1 - t) * (1 + d*x1*bx*y1*by')) * rx = ((1 + s) * (1 - s) * (1 + d*ax*x3*ay*y3)) * ((1 + t) * (1 - t) * (rx * (1 + d*x1*bx*y1*by'))) := by grobner
    rw [g1, g2, h5, h7]
    exact edZ1 k1
  · have z : ((1 + s) * (1 - s) * (1 - d*ax*x3*ay*y3)) * ((1 + t) * (1 - t) * (1 - d*x1*bx*y1*by')) ≠ 0 := F.mul (F.mul z1 v3) (F.mul z2 v4)
    refine F.can z ?_
    have g1 : ((1 + s) * (1 - s) * (1 - d*ax*x3*ay*y3)) * ((1 + t) * (1 - t) * (1 - d*x1*bx*y1*by')) * ly = ((1 + s) * (1 - s) * (ly * (1 - d*ax*x3*ay*y3))) * ((1 + t) * (1 - t) * (1 - d*x1*bx*y1*by')) := by grobner
    have g2 : ((1 + s) * (1 - s) * (1 - d*ax*x3*ay*y3)) * ((1 + t) * (1 - t) * (1 - d*x1*bx*y1*by')) * ry = ((1 + s) * (1 - s) * (1 - d*ax*x3*ay*y3)) * ((1 + t) * (1 - t) * (ry * (1 - d*x1*bx*y1*by'))) := by grobner
    rw [g1, g2, h6, h8]
    exact edZ2 k2

/-- A point, so many times. -/
def mu (a d : Fin p) (P : Fin p × Fin p) : Nat → Fin p × Fin p
  | 0 => (0, 1)
  | n + 1 => ad a d (mu a d P n) P

theorem on_mu (F : Fld p) (E : Cur a d) {P : Fin p × Fin p} (h : On a d P) : ∀ n, On a d (mu a d P n)
  | 0 => on_zero
  | n + 1 => on_ad F E (on_mu F E h n) h

theorem mu_add (F : Fld p) (E : Cur a d) {P : Fin p × Fin p} (h : On a d P) (m : Nat) : ∀ n, mu a d P (m + n) = ad a d (mu a d P m) (mu a d P n)
  | 0 => by show mu a d P m = ad a d (mu a d P m) (0, 1); rw [ad_comm, ad_zero F]
  | n + 1 => by
    show ad a d (mu a d P (m + n)) P = ad a d (mu a d P m) (ad a d (mu a d P n) P)
    rw [mu_add F E h m n, ad_assoc F E (on_mu F E h m) (on_mu F E h n) h]

theorem mu_mul (F : Fld p) (E : Cur a d) {P : Fin p × Fin p} (h : On a d P) (m : Nat) : ∀ n, mu a d (mu a d P m) n = mu a d P (m * n)
  | 0 => rfl
  | n + 1 => by
    show ad a d (mu a d (mu a d P m) n) (mu a d P m) = mu a d P (m * n + m)
    rw [mu_add F E h, mu_mul F E h m n]

theorem mu_turn (F : Fld p) (E : Cur a d) {P : Fin p × Fin p} (h : On a d P) (m n : Nat) : mu a d (mu a d P m) n = mu a d (mu a d P n) m := by
  rw [mu_mul F E h, mu_mul F E h, Nat.mul_comm]

theorem mu_one (F : Fld p) (P : Fin p × Fin p) : mu a d P 1 = P := ad_zero F P
end
end Go.Proofs.Ytiehjhlekpjlaaa

namespace Go.Proofs.Ytiehjhlekpjlaaa
set_option linter.unusedVariables false
set_option maxRecDepth 100000
section
variable {p : Nat} [NeZero p] {a d : Fin p}

theorem edOne : (1 : Fin p) * 1 = 1 := by grobner

/-- t over b is (1 + y) over (1 - y). -/
def Rep (t b y : Fin p) : Prop := t - b = (t + b) * y ∧ t + b ≠ 0

/-- One point twice, and its sum with the other. -/
def st2 (k t b : Fin p) : Fin p × Fin p :=
  ((t + b) * (t + b) * ((t - b) * (t - b)), ((t + b) * (t + b) - (t - b) * (t - b)) * ((t + b) * (t + b) + k * ((t + b) * (t + b) - (t - b) * (t - b))))
def stB (x t b t' b' : Fin p) : Fin p × Fin p :=
  (((t' - b') * (t + b) + (t' + b') * (t - b)) * ((t' - b') * (t + b) + (t' + b') * (t - b)), x * (((t' - b') * (t + b) - (t' + b') * (t - b)) * ((t' - b') * (t + b) - (t' + b') * (t - b))))

theorem ld1 {s r y : Fin p} (h : r = s * y) (k : Fin p) : s*s*(r*r) = s*s*(s*s)*(y*y) ∧ (s*s - r*r)*(s*s + k*(s*s - r*r)) = s*s*(s*s)*((1 - y*y)*(1 + k*(1 - y*y))) := by
  subst h
  constructor <;> grobner

/-- Twice. -/
theorem rep_two (F : Fld p) (E : Cur a d) {k t b x y : Fin p} (hk : k * (a - d) = d) (hn : a - d ≠ 0) (h : Rep t b y) (hP : On a d (x, y)) : Rep (st2 k t b).1 (st2 k t b).2 (ad a d (x, y) (x, y)).2 := by
  obtain ⟨h1, h2⟩ := ad_eqs F E hP hP
  have hv := E.down F hP hP
  have e1 : a*x*x + y*y - 1 - d*x*x*y*y = 0 := hP
  obtain ⟨hr, hs⟩ := h
  simp only at h1 h2 hv
  generalize (ad a d (x, y) (x, y)).2 = Y at *
  clear h1
  unfold st2
  simp only
  obtain ⟨k1, k2⟩ := ld1 hr k
  rw [k1, k2]
  generalize hS : (t + b) * (t + b) * ((t + b) * (t + b)) = S
  have hS0 : S ≠ 0 := by rw [← hS]; exact F.mul (F.mul hs hs) (F.mul hs hs)
  clear hr hs k1 k2 hS
  -- a - d y^2 is not 0
  have hz : a - d*y*y ≠ 0 := by
    intro hz
    obtain ⟨c, hc⟩ := E.sq
    have hy : y ≠ 0 := fun h0 => E.nz (by subst h0; grobner)
    have hi := F.inv y hy
    refine E.ns (c * iv y) ?_
    generalize iv y = yi at *
    have : c * yi * (c * yi) = (c * c) * (yi * yi) := by grobner
    rw [this, hc]
    have : a * (yi * yi) = d * (y * yi) * (y * yi) := by
      have : a = d * y * y := by grobner
      rw [this]
      grobner
    rw [this, hi]
    grobner
  have g1 : (a - d*y*y) * (1 - d*x*x*y*y) = a - 2*d*(y*y) + d*(y*y)*(y*y) := by
    have : (a - d*y*y)*(x*x) = 1 - y*y := by clear h2 hk; grobner
    have g : (a - d*y*y) * (1 - d*x*x*y*y) = (a - d*y*y) - d*(y*y)*((a - d*y*y)*(x*x)) := by clear h2 hk e1 this; grobner
    rw [g, this]
    clear h2 hk e1 this g
    grobner
  have g2 : (a - d*y*y) * (y*y - a*x*x) = 2*a*(y*y) - d*(y*y)*(y*y) - a := by
    have : (a - d*y*y)*(x*x) = 1 - y*y := by clear h2 hk g1; grobner
    have g : (a - d*y*y) * (y*y - a*x*x) = (a - d*y*y)*(y*y) - a*((a - d*y*y)*(x*x)) := by clear h2 hk e1 this g1; grobner
    rw [g, this]
    clear h2 hk e1 this g g1
    grobner
  have g3 : (a - 2*d*(y*y) + d*(y*y)*(y*y)) * Y = 2*a*(y*y) - d*(y*y)*(y*y) - a := by
    rw [← g1, ← g2, ← h2]
    clear h2 hk e1 g1 g2
    grobner
  have g4 : a - 2*d*(y*y) + d*(y*y)*(y*y) ≠ 0 := by rw [← g1]; exact F.mul hz hv
  clear g1 g2 h2 hv hz e1 hP
  generalize y * y = w at *
  have g5 : (a - d) * (w + (1 - w)*(1 + k*(1 - w))) = a - 2*d*w + d*w*w := by
    have : (a - d) * (w + (1 - w)*(1 + k*(1 - w))) = (a - d)*w + (1 - w)*((a - d) + k*(a - d)*(1 - w)) := by clear hk g3; grobner
    rw [this, hk]
    clear hk g3 this
    grobner
  have g6 : (a - d) * (w - (1 - w)*(1 + k*(1 - w))) = 2*a*w - d*w*w - a := by
    have : (a - d) * (w - (1 - w)*(1 + k*(1 - w))) = (a - d)*w - (1 - w)*((a - d) + k*(a - d)*(1 - w)) := by clear hk g3 g5; grobner
    rw [this, hk]
    clear hk g3 this g5
    grobner
  rw [← g5, ← g6] at g3
  rw [← g5] at g4
  clear g5 g6 hk
  generalize (1 - w)*(1 + k*(1 - w)) = m at *
  constructor
  · refine F.can hn ?_
    have q1 : (a - d) * (S*w - S*m) = S * ((a - d) * (w - m)) := by clear g3; grobner
    rw [q1, ← g3]
    clear g3 q1
    grobner
  · intro h0
    have q1 : S * ((a - d) * (w + m)) = 0 := by
      have : S * ((a - d) * (w + m)) = (a - d) * (S*w + S*m) := by clear g3 h0; grobner
      rw [this, h0]
      clear g3 h0 this
      grobner
    exact F.mul hS0 g4 q1

theorem ld2 {s r y s' r' y' : Fin p} (h : r = s * y) (h' : r' = s' * y') : (r'*s + s'*r)*(r'*s + s'*r) = (s*s')*(s*s')*((y + y')*(y + y')) ∧ (r'*s - s'*r)*(r'*s - s'*r) = (s*s')*(s*s')*((y' - y)*(y' - y)) := by
  subst h h'
  constructor <;> grobner

theorem ld3 {A B y0 T Y0 : Fin p} (h : y0 * (1 + T) = Y0) : A * (1 - y0) * (1 + T) = A * (1 + T - Y0) ∧ B * (1 + y0) * (1 + T) = B * (1 + T + Y0) := by
  subst h
  constructor <;> grobner

/-- Both together, whose difference is known. -/
theorem rep_both (F : Fld p) (E : Cur a d) {u t b t' b' x1 y1 x2 y2 y0 : Fin p} (hu : u ≠ 0) (hy0 : u * (1 - y0) = 1 + y0) (h : Rep t b y1) (h' : Rep t' b' y2) (hP : On a d (x1, y1)) (hQ : On a d (x2, y2))
    (hd : y0 * (1 + d*x1*x2*y1*y2) = y1*y2 + a*x1*x2) : Rep (stB u t b t' b').1 (stB u t b t' b').2 (ad a d (x1, y1) (x2, y2)).2 := by
  obtain ⟨h1, h2⟩ := ad_eqs F E hP hQ
  have hT := E.up F hP hQ
  have hv := E.down F hP hQ
  have k := edD a d x1 y1 x2 y2
  have e1 : a*x1*x1 + y1*y1 - 1 - d*x1*x1*y1*y1 = 0 := hP
  have e2 : a*x2*x2 + y2*y2 - 1 - d*x2*x2*y2*y2 = 0 := hQ
  rw [e1, e2] at k
  simp only at h1 h2 hT hv
  generalize (ad a d (x1, y1) (x2, y2)).2 = Y at *
  clear h1
  obtain ⟨hr, hs⟩ := h
  obtain ⟨hr', hs'⟩ := h'
  have hn1 : 1 - y0 ≠ 0 := by
    intro h0
    have q : y0 = 1 := by clear hd h2 k e1 e2 hr hr' hy0; grobner
    rw [h0, q] at hy0
    have : (2 : Fin p) = 0 := by clear hd h2 k e1 e2 hr hr' h0; grobner
    exact F.two this
  obtain ⟨k1, k2⟩ := ld2 hr hr'
  unfold stB
  simp only
  rw [k1, k2]
  generalize hS : (t + b) * (t' + b') * ((t + b) * (t' + b')) = S
  have hS0 : S ≠ 0 := by rw [← hS]; exact F.mul (F.mul hs hs') (F.mul hs hs')
  clear k1 k2 hS hr hr' hs hs'
  -- the main equation
  have m1 : ((y1+y2)*(y1+y2)) * (1 - y0) * (1 - Y) = ((y2-y1)*(y2-y1)) * (1 + y0) * (1 + Y) := by
    have z : (1 + d*x1*x2*y1*y2) * (1 - d*x1*x2*y1*y2) ≠ 0 := F.mul hT hv
    refine F.can z ?_
    have a1 := (ld3 (A := (y1+y2)*(y1+y2)) (B := (y2-y1)*(y2-y1)) hd)
    have a2 : (1 - Y) * (1 - d*x1*x2*y1*y2) = 1 - d*x1*x2*y1*y2 - (y1*y2 - a*x1*x2) := by rw [← h2]; clear hd h2 k e1 e2 hy0 a1; grobner
    have a3 : (1 + Y) * (1 - d*x1*x2*y1*y2) = 1 - d*x1*x2*y1*y2 + (y1*y2 - a*x1*x2) := by rw [← h2]; clear hd h2 k e1 e2 hy0 a1 a2; grobner
    have b1 : (1 + d*x1*x2*y1*y2) * (1 - d*x1*x2*y1*y2) * (((y1+y2)*(y1+y2)) * (1 - y0) * (1 - Y)) = (((y1+y2)*(y1+y2)) * (1 - y0) * (1 + d*x1*x2*y1*y2)) * ((1 - Y) * (1 - d*x1*x2*y1*y2)) := by clear hd h2 k e1 e2 hy0 a1 a2 a3; grobner
    have b2 : (1 + d*x1*x2*y1*y2) * (1 - d*x1*x2*y1*y2) * (((y2-y1)*(y2-y1)) * (1 + y0) * (1 + Y)) = (((y2-y1)*(y2-y1)) * (1 + y0) * (1 + d*x1*x2*y1*y2)) * ((1 + Y) * (1 - d*x1*x2*y1*y2)) := by clear hd h2 k e1 e2 hy0 a1 a2 a3 b1; grobner
    rw [b1, b2, a1.1, a1.2, a2, a3]
    clear b1 b2 a1 a2 a3 hd h2 e1 e2 hy0
    grobner
  -- with u in y0's place
  have m2 : ((y1+y2)*(y1+y2)) * (1 - Y) = u * ((y2-y1)*(y2-y1)) * (1 + Y) := by
    refine F.can hn1 ?_
    have q1 : (1 - y0) * (((y1+y2)*(y1+y2)) * (1 - Y)) = ((y1+y2)*(y1+y2)) * (1 - y0) * (1 - Y) := by clear hd h2 k e1 e2 hy0 m1; grobner
    have q2 : (1 - y0) * (u * ((y2-y1)*(y2-y1)) * (1 + Y)) = ((y2-y1)*(y2-y1)) * (u * (1 - y0)) * (1 + Y) := by clear hd h2 k e1 e2 hy0 m1 q1; grobner
    rw [q1, q2, hy0, m1]
  constructor
  · have q : S * ((y1+y2)*(y1+y2)) - u * (S * ((y2-y1)*(y2-y1))) - (S * ((y1+y2)*(y1+y2)) + u * (S * ((y2-y1)*(y2-y1)))) * Y = S * (((y1+y2)*(y1+y2)) * (1 - Y) - u * ((y2-y1)*(y2-y1)) * (1 + Y)) := by clear hd h2 k e1 e2 hy0 m1 m2; grobner
    rw [m2] at q
    clear hd h2 k e1 e2 hy0 m1 m2
    generalize S * ((y1+y2)*(y1+y2)) = A at *
    generalize u * (S * ((y2-y1)*(y2-y1))) = B at *
    generalize u * ((y2-y1)*(y2-y1)) * (1 + Y) = C at *
    grobner
  · intro h0
    have q0 : (y1+y2)*(y1+y2) + u * ((y2-y1)*(y2-y1)) = 0 := by
      refine F.can hS0 ?_
      clear hd h2 k e1 e2 hy0 m1 m2
      generalize (y1+y2)*(y1+y2) = A at *
      generalize (y2-y1)*(y2-y1) = B at *
      grobner
    have q1 : (y1+y2)*(y1+y2) = 0 := by
      refine F.twice0 ?_
      clear hd h2 k e1 e2 hy0 m1 h0
      generalize (y1+y2)*(y1+y2) = A at *
      generalize u * ((y2-y1)*(y2-y1)) = B at *
      grobner
    have q2 : u * ((y2-y1)*(y2-y1)) = 0 := by
      rw [q1] at q0
      clear hd h2 k e1 e2 hy0 m1 m2 h0 q1
      generalize u * ((y2-y1)*(y2-y1)) = B at *
      grobner
    have q3 := F.sq0 q1
    have q4 : y2 - y1 = 0 := by
      rcases F.nz q2 with x | x
      · exact absurd x hu
      · exact F.sq0 x
    have q5 : y1 = 0 := F.twice0 (by clear hd h2 k e1 e2 hy0 m1 m2 h0 q0 q1 q2; grobner)
    have q6 : y2 = 0 := by clear hd h2 k e1 e2 hy0 m1 m2 h0 q0 q1 q2; grobner
    subst q5
    subst q6
    have r1 : y0 = a*x1*x2 := by clear h2 k e1 e2 hy0 m1 m2 h0 q0 q1 q2 q3 q4; grobner
    have r2 : a*x1*x1 = 1 := by clear h2 k e2 hy0 m1 m2 h0 q0 q1 q2 q3 q4 r1 hd; grobner
    have r3 : a*x2*x2 = 1 := by clear h2 k e1 hy0 m1 m2 h0 q0 q1 q2 q3 q4 r1 r2 hd; grobner
    have r4 : y0 * y0 = 1 := by
      have : y0 * y0 = (a*x1*x1)*(a*x2*x2) := by rw [r1]; clear h2 k e1 e2 hy0 m1 m2 h0 q0 q1 q2 q3 q4 r1 r2 r3 hd; grobner
      rw [this, r2, r3]
      exact edOne
    have r5 : (1 - y0) * (1 + y0) = 0 := by clear h2 k e1 e2 hy0 m1 m2 h0 q0 q1 q2 q3 q4 r1 r2 r3 hd; grobner
    rcases F.nz r5 with x | x
    · exact hn1 x
    · rw [x] at hy0
      rcases F.nz hy0 with z | z
      · exact hu z
      · exact hn1 z
end
end Go.Proofs.Ytiehjhlekpjlaaa

namespace Go.Proofs.Ytiehjhlekpjlaaa
set_option linter.unusedVariables false
set_option maxRecDepth 100000
section
variable {p : Nat} [NeZero p] {a d : Fin p}

/-- The lower one's t and b, the higher one's t and b. -/
structure Rung (p : Nat) where
  lt : Fin p
  lb : Fin p
  ht : Fin p
  hb : Fin p

/-- One step of the ladder. -/
def rung (k x : Fin p) (c : Bool) (s : Rung p) : Rung p :=
  cond c ⟨(stB x s.ht s.hb s.lt s.lb).1, (stB x s.ht s.hb s.lt s.lb).2, (st2 k s.ht s.hb).1, (st2 k s.ht s.hb).2⟩
    ⟨(st2 k s.lt s.lb).1, (st2 k s.lt s.lb).2, (stB x s.lt s.lb s.ht s.hb).1, (stB x s.lt s.lb s.ht s.hb).2⟩

def lad (k x : Fin p) (n : Nat) : Nat → Rung p
  | 0 => ⟨1, 0, x, 1⟩
  | i + 1 => rung k x (n / 2 ^ (254 - i) % 2 == 1) (lad k x n i)

/-- What the ladder comes to. -/
def lx (k x : Fin p) (n : Nat) : Fin p := (lad k x n 255).lt * iv (lad k x n 255).lb

/-- What a point's y says. -/
def ux (y : Fin p) : Fin p := (1 + y) * iv (1 - y)

theorem rep_ux (F : Fld p) {t b y : Fin p} (h : Rep t b y) : t * iv b = ux y := by
  obtain ⟨h1, h2⟩ := h
  unfold ux
  have g1 : 2 * t = (t + b) * (1 + y) := by grobner
  have g2 : 2 * b = (t + b) * (1 - y) := by grobner
  by_cases hb : b = 0
  · have hy : 1 - y = 0 := by
      rw [hb] at g2
      have : (t + 0) * (1 - y) = 0 := by rw [← g2]; grobner
      rcases F.nz this with x | x
      · exact absurd (by rw [hb]; exact x) h2
      · exact x
    rw [hb, hy, F.zer]
    clear g1 g2 h1
    grobner
  · have hy : 1 - y ≠ 0 := by
      intro hy
      rw [hy] at g2
      exact hb (F.twice0 (by rw [g2]; clear g1 g2 h1; grobner))
    have i1 := F.inv b hb
    have i2 := F.inv _ hy
    generalize iv b = bi at *
    generalize iv (1 - y) = yi at *
    have hz : 2 * b * (1 - y) ≠ 0 := F.mul (F.mul F.two hb) hy
    refine F.can hz ?_
    have q1 : 2 * b * (1 - y) * (t * bi) = (2 * t) * (1 - y) * (b * bi) := by clear h1 g1 g2 i1 i2; grobner
    have q2 : 2 * b * (1 - y) * ((1 + y) * yi) = (2 * b) * (1 + y) * ((1 - y) * yi) := by clear h1 g1 g2 i1 i2 q1; grobner
    rw [q1, q2, i1, i2, g1, g2]
    clear h1 g1 g2 i1 i2 q1 q2
    grobner

/-- The difference of two that follow each other. -/
theorem diff (F : Fld p) (E : Cur a d) {P Q R : Fin p × Fin p} (hP : On a d P) (hR : On a d R) (h : Q = ad a d P R) : R.2 * (1 + d*P.1*Q.1*P.2*Q.2) = P.2*Q.2 + a*P.1*Q.1 := by
  have hQ : On a d Q := h ▸ on_ad F E hP hR
  obtain ⟨-, h2⟩ := ad_eqs F E (on_neg hP) hQ
  have e : ad a d (-P.1, P.2) Q = R := by
    rw [h, ← ad_assoc F E (on_neg hP) hP hR, ad_comm (-P.1, P.2) P, ad_neg F E hP, ad_zero F]
  rw [e] at h2
  simp only at h2
  have q1 : 1 - d * -P.1 * Q.1 * P.2 * Q.2 = 1 + d*P.1*Q.1*P.2*Q.2 := by clear h2 h; grobner
  have q2 : P.2 * Q.2 - a * -P.1 * Q.1 = P.2*Q.2 + a*P.1*Q.1 := by clear h2 h q1; grobner
  rw [q1, q2] at h2
  exact h2

theorem diff' (F : Fld p) (E : Cur a d) {P Q R : Fin p × Fin p} (hP : On a d P) (hR : On a d R) (h : Q = ad a d P R) : R.2 * (1 + d*Q.1*P.1*Q.2*P.2) = Q.2*P.2 + a*Q.1*P.1 := by
  have := diff F E hP hR h
  have q1 : 1 + d*Q.1*P.1*Q.2*P.2 = 1 + d*P.1*Q.1*P.2*Q.2 := by clear this h; grobner
  have q2 : Q.2*P.2 + a*Q.1*P.1 = P.2*Q.2 + a*P.1*Q.1 := by clear this h q1; grobner
  rw [q1, q2, this]

theorem rep_two' (F : Fld p) (E : Cur a d) {k t b : Fin p} {P : Fin p × Fin p} (hk : k * (a - d) = d) (hn : a - d ≠ 0) (h : Rep t b P.2) (hP : On a d P) : Rep (st2 k t b).1 (st2 k t b).2 (ad a d P P).2 := by
  obtain ⟨x, y⟩ := P
  exact rep_two F E hk hn h hP
theorem rep_both' (F : Fld p) (E : Cur a d) {u t b t' b' y0 : Fin p} {P Q : Fin p × Fin p} (hu : u ≠ 0) (hy0 : u * (1 - y0) = 1 + y0) (h : Rep t b P.2) (h' : Rep t' b' Q.2) (hP : On a d P) (hQ : On a d Q)
    (hd : y0 * (1 + d*P.1*Q.1*P.2*Q.2) = P.2*Q.2 + a*P.1*Q.1) : Rep (stB u t b t' b').1 (stB u t b t' b').2 (ad a d P Q).2 := by
  obtain ⟨x1, y1⟩ := P
  obtain ⟨x2, y2⟩ := Q
  exact rep_both F E hu hy0 h h' hP hQ hd

/-- The lower one is the point, m times, the higher one once more. -/
theorem lad_rep (F : Fld p) (E : Cur a d) {k u : Fin p} (hk : k * (a - d) = d) (hn : a - d ≠ 0) {P : Fin p × Fin p} (hP : On a d P) (hu : u ≠ 0) (hy : u * (1 - P.2) = 1 + P.2) {n : Nat} (hl : n < 2 ^ 255) :
    ∀ i, i ≤ 255 → Rep (lad k u n i).lt (lad k u n i).lb (mu a d P (n / 2 ^ (255 - i))).2 ∧ Rep (lad k u n i).ht (lad k u n i).hb (mu a d P (n / 2 ^ (255 - i) + 1)).2
  | 0, _ => by
    have e : n / 2 ^ (255 - 0) = 0 := Nat.div_eq_of_lt hl
    rw [e]
    refine ⟨⟨?_, ?_⟩, ⟨?_, ?_⟩⟩
    · show (1 : Fin p) - 0 = (1 + 0) * 1
      clear hy hk
      grobner
    · show (1 : Fin p) + 0 ≠ 0
      intro h
      exact F.one (by clear hy hk; grobner)
    · rw [Nat.zero_add, mu_one F]
      show u - 1 = (u + 1) * P.2
      clear hk
      grobner
    · intro h
      have h' : u + 1 = 0 := h
      exact F.two (by clear hk h; grobner)
  | i + 1, hi => by
    obtain ⟨ih1, ih2⟩ := lad_rep F E hk hn hP hu hy hl i (by omega)
    have em : n / 2 ^ (255 - (i + 1)) = 2 * (n / 2 ^ (255 - i)) + n / 2 ^ (254 - i) % 2 := by
      have e1 : 255 - i = (254 - i) + 1 := by omega
      have e2 : 255 - (i + 1) = 254 - i := by omega
      rw [e1, e2, Nat.pow_succ, ← Nat.div_div_eq_div_mul]
      omega
    obtain ⟨m, hm⟩ : ∃ m, m = n / 2 ^ (255 - i) := ⟨_, rfl⟩
    have oL := on_mu F E hP m
    have oH := on_mu F E hP (m + 1)
    have hPH : mu a d P (m + 1) = ad a d (mu a d P m) P := rfl
    rw [em]
    show Rep (rung k u (n / 2 ^ (254 - i) % 2 == 1) (lad k u n i)).lt (rung k u (n / 2 ^ (254 - i) % 2 == 1) (lad k u n i)).lb _ ∧ Rep (rung k u (n / 2 ^ (254 - i) % 2 == 1) (lad k u n i)).ht (rung k u (n / 2 ^ (254 - i) % 2 == 1) (lad k u n i)).hb _
    rw [← hm] at ih1 ih2 ⊢
    clear em hm
    have hc : ∀ c : Bool, c = (n / 2 ^ (254 - i) % 2 == 1) → Rep (rung k u c (lad k u n i)).lt (rung k u c (lad k u n i)).lb (mu a d P (2 * m + n / 2 ^ (254 - i) % 2)).2 ∧ Rep (rung k u c (lad k u n i)).ht (rung k u c (lad k u n i)).hb (mu a d P (2 * m + n / 2 ^ (254 - i) % 2 + 1)).2 := by
      generalize lad k u n i = s at ih1 ih2 ⊢
      generalize n / 2 ^ (254 - i) = q
      intro c hc
      cases c
      · have hb : q % 2 = 0 := by
          rcases Nat.mod_two_eq_zero_or_one q with h | h
          · exact h
          · rw [h] at hc; cases hc
        have s1 : mu a d P (2 * m + q % 2) = ad a d (mu a d P m) (mu a d P m) := by rw [hb, show 2 * m + 0 = m + m by omega, mu_add F E hP]
        have s2 : mu a d P (2 * m + q % 2 + 1) = ad a d (mu a d P m) (mu a d P (m + 1)) := by rw [hb, show 2 * m + 0 + 1 = m + (m + 1) by omega, mu_add F E hP]
        rw [s1, s2]
        have dd := diff F E oL hP hPH
        generalize mu a d P (m + 1) = H at *
        generalize mu a d P m = L at *
        exact ⟨rep_two' F E hk hn ih1 oL, rep_both' F E hu hy ih1 ih2 oL oH dd⟩
      · have hb : q % 2 = 1 := by
          rcases Nat.mod_two_eq_zero_or_one q with h | h
          · rw [h] at hc; cases hc
          · exact h
        have s1 : mu a d P (2 * m + q % 2) = ad a d (mu a d P (m + 1)) (mu a d P m) := by rw [hb, show 2 * m + 1 = (m + 1) + m by omega, mu_add F E hP]
        have s2 : mu a d P (2 * m + q % 2 + 1) = ad a d (mu a d P (m + 1)) (mu a d P (m + 1)) := by rw [hb, show 2 * m + 1 + 1 = (m + 1) + (m + 1) by omega, mu_add F E hP]
        rw [s1, s2]
        have dd := diff' F E oL hP hPH
        generalize mu a d P (m + 1) = H at *
        generalize mu a d P m = L at *
        exact ⟨rep_both' F E hu hy ih2 ih1 oH oL dd, rep_two' F E hk hn ih2 oH⟩
    exact hc _ rfl

/-- Of nothing comes nothing. -/
theorem lad_none (F : Fld p) (k : Fin p) (n : Nat) : ∀ i, (lad k 0 n i).lt = 0 ∨ (lad k 0 n i).lb = 0
  | 0 => .inr rfl
  | i + 1 => by
    have ih := lad_none F k n i
    refine .inr ?_
    show (rung k 0 (n / 2 ^ (254 - i) % 2 == 1) (lad k 0 n i)).lb = 0
    cases (n / 2 ^ (254 - i) % 2 == 1)
    · show (st2 k (lad k 0 n i).lt (lad k 0 n i).lb).2 = 0
      unfold st2
      simp only
      rcases ih with h | h
      · rw [h]; grobner
      · rw [h]; grobner
    · show (stB 0 _ _ _ _).2 = 0
      unfold stB
      simp only
      grobner

theorem lx_none (F : Fld p) (k : Fin p) (n : Nat) : lx k 0 n = 0 := by
  unfold lx
  rcases lad_none F k n 255 with h | h
  · rw [h]; grobner
  · rw [h, F.zer]; grobner

theorem ux_one (F : Fld p) : ux (1 : Fin p) = 0 := by
  unfold ux
  rw [show (1 : Fin p) - 1 = 0 by grobner, F.zer]
  grobner

theorem mu_zero (F : Fld p) : ∀ n, mu a d (0, 1) n = (0, 1)
  | 0 => rfl
  | n + 1 => by show ad a d (mu a d (0, 1) n) (0, 1) = (0, 1); rw [mu_zero F n, ad_zero F]

/-- The point of order 2. -/
theorem mu_half (F : Fld p) (E : Cur a d) (n : Nat) : mu a d (0, -1) (2 * n) = (0, 1) := by
  have hP : On a d (0, -1) := by unfold On; simp only; grobner
  have h2 : mu a d (0, -1) 2 = (0, 1) := by
    show ad a d (ad a d (0, 1) (0, -1)) (0, -1) = (0, 1)
    rw [ad_zero F]
    unfold ad
    simp only
    rw [show 1 + d*0*0*(-1)*(-1) = (1 : Fin p) by grobner, show 1 - d*0*0*(-1)*(-1) = (1 : Fin p) by grobner, F.iv1]
    congr 1 <;> grobner
  rw [← mu_mul F E hP, h2, mu_zero F]

/-- The ladder at a point of the curve. -/
theorem lx_mu (F : Fld p) (E : Cur a d) {k : Fin p} (hk : k * (a - d) = d) (hn : a - d ≠ 0) {P : Fin p × Fin p} (hP : On a d P) {n : Nat} (hl : n < 2 ^ 255) (h2 : n % 2 = 0) : lx k (ux P.2) n = ux (mu a d P n).2 := by
  by_cases hu : ux P.2 = 0
  · rw [hu, lx_none F]
    have hx : P.2 = 1 ∨ P.2 = -1 := by
      by_cases h1 : 1 - P.2 = 0
      · exact .inl (by clear hu hk; grobner)
      · refine .inr ?_
        have hi := F.inv _ h1
        unfold ux at hu
        rcases F.nz hu with x | x
        · clear hu hk hi; grobner
        · rw [x] at hi
          exact absurd hi.symm (by intro e; exact F.one (by rw [e]; clear e hi hu hk; grobner))
    have h0 : P.1 = 0 := by
      have e1 : a*P.1*P.1 + P.2*P.2 - 1 - d*P.1*P.1*P.2*P.2 = 0 := hP
      have : (a - d) * (P.1 * P.1) = 0 := by
        rcases hx with x | x
        · rw [x] at e1; clear hu hk; grobner
        · rw [x] at e1; clear hu hk; grobner
      rcases F.nz this with x | x
      · exact absurd x hn
      · exact F.sq0 x
    obtain ⟨x, y⟩ := P
    simp only at hx h0
    subst h0
    obtain ⟨m, hm⟩ : ∃ m, n = 2 * m := ⟨n / 2, by omega⟩
    rcases hx with x | x
    · subst x
      rw [mu_zero F, ux_one F]
    · subst x
      rw [hm, mu_half F E, ux_one F]
  · have hy : ux P.2 * (1 - P.2) = 1 + P.2 := by
      have h1 : 1 - P.2 ≠ 0 := by
        intro h
        refine hu ?_
        unfold ux
        rw [h, F.zer]
        clear h hk hu
        grobner
      have hi := F.inv _ h1
      unfold ux
      generalize iv (1 - P.2) = z at *
      have : (1 + P.2) * z * (1 - P.2) = (1 + P.2) * ((1 - P.2) * z) := by clear hi hk hu; grobner
      rw [this, hi]
      clear this hi hk hu
      grobner
    have h := (lad_rep F E hk hn hP hu hy hl 255 (Nat.le_refl _)).1
    rw [show 255 - 255 = 0 from rfl, Nat.pow_zero, Nat.div_one] at h
    exact rep_ux F h

/-- The same by the other sign. -/
theorem lad_neg (k x : Fin p) (n : Nat) : ∀ i, (lad (-(k + 1)) (-x) n i).lt = (lad k x n i).lt ∧ (lad (-(k + 1)) (-x) n i).lb = -(lad k x n i).lb ∧
    ∃ e : Fin p, e * e = 1 ∧ (lad (-(k + 1)) (-x) n i).ht = e * (lad k x n i).ht ∧ (lad (-(k + 1)) (-x) n i).hb = -(e * (lad k x n i).hb)
  | 0 => by
    refine ⟨rfl, ?_, -1, ?_, ?_, ?_⟩
    · show (0 : Fin p) = -0
      grobner
    · grobner
    · show -x = -1 * x
      grobner
    · show (1 : Fin p) = -(-1 * 1)
      grobner
  | i + 1 => by
    obtain ⟨h1, h2, e, he, h3, h4⟩ := lad_neg k x n i
    show (rung (-(k + 1)) (-x) (n / 2 ^ (254 - i) % 2 == 1) (lad (-(k + 1)) (-x) n i)).lt = (rung k x (n / 2 ^ (254 - i) % 2 == 1) (lad k x n i)).lt ∧ (rung (-(k + 1)) (-x) (n / 2 ^ (254 - i) % 2 == 1) (lad (-(k + 1)) (-x) n i)).lb = -(rung k x (n / 2 ^ (254 - i) % 2 == 1) (lad k x n i)).lb ∧
      ∃ e : Fin p, e * e = 1 ∧ (rung (-(k + 1)) (-x) (n / 2 ^ (254 - i) % 2 == 1) (lad (-(k + 1)) (-x) n i)).ht = e * (rung k x (n / 2 ^ (254 - i) % 2 == 1) (lad k x n i)).ht ∧ (rung (-(k + 1)) (-x) (n / 2 ^ (254 - i) % 2 == 1) (lad (-(k + 1)) (-x) n i)).hb = -(e * (rung k x (n / 2 ^ (254 - i) % 2 == 1) (lad k x n i)).hb)
    generalize lad k x n i = s at *
    generalize lad (-(k + 1)) (-x) n i = s' at *
    obtain ⟨lt, lb, ht, hb⟩ := s
    obtain ⟨lt', lb', ht', hb'⟩ := s'
    simp only at h1 h2 h3 h4
    subst h1 h2 h3 h4
    have q : e * e * (e * e) = 1 := by rw [he]; exact edOne
    cases (n / 2 ^ (254 - i) % 2 == 1) <;> simp only [rung, cond, st2, stB]
    · refine ⟨?_, ?_, 1, edOne, ?_, ?_⟩
      · clear he q; grobner
      · clear he q; grobner
      · clear q
        have g : ((e*ht - -(e*hb)) * (lt' + -lb) + (e*ht + -(e*hb)) * (lt' - -lb)) * ((e*ht - -(e*hb)) * (lt' + -lb) + (e*ht + -(e*hb)) * (lt' - -lb)) = (e*e) * (((ht - hb) * (lt' + lb) + (ht + hb) * (lt' - lb)) * ((ht - hb) * (lt' + lb) + (ht + hb) * (lt' - lb))) := by clear he; grobner
        rw [g, he]
      · clear q
        have g : -x * (((e*ht - -(e*hb)) * (lt' + -lb) - (e*ht + -(e*hb)) * (lt' - -lb)) * ((e*ht - -(e*hb)) * (lt' + -lb) - (e*ht + -(e*hb)) * (lt' - -lb))) = -((e*e) * (x * (((ht - hb) * (lt' + lb) - (ht + hb) * (lt' - lb)) * ((ht - hb) * (lt' + lb) - (ht + hb) * (lt' - lb))))) := by clear he; grobner
        rw [g, he]
    · refine ⟨?_, ?_, 1, edOne, ?_, ?_⟩
      · have g : ((lt' - -lb) * (e*ht + -(e*hb)) + (lt' + -lb) * (e*ht - -(e*hb))) * ((lt' - -lb) * (e*ht + -(e*hb)) + (lt' + -lb) * (e*ht - -(e*hb))) = (e*e) * (((lt' - lb) * (ht + hb) + (lt' + lb) * (ht - hb)) * ((lt' - lb) * (ht + hb) + (lt' + lb) * (ht - hb))) := by clear he q; grobner
        rw [g, he]
        clear he q g
        grobner
      · have g : -x * (((lt' - -lb) * (e*ht + -(e*hb)) - (lt' + -lb) * (e*ht - -(e*hb))) * ((lt' - -lb) * (e*ht + -(e*hb)) - (lt' + -lb) * (e*ht - -(e*hb)))) = -((e*e) * (x * (((lt' - lb) * (ht + hb) - (lt' + lb) * (ht - hb)) * ((lt' - lb) * (ht + hb) - (lt' + lb) * (ht - hb))))) := by clear he q; grobner
        rw [g, he]
        clear he q g
        grobner
      · have g : (e*ht + -(e*hb)) * (e*ht + -(e*hb)) * ((e*ht - -(e*hb)) * (e*ht - -(e*hb))) = (e*e*(e*e)) * ((ht + hb) * (ht + hb) * ((ht - hb) * (ht - hb))) := by clear he q; grobner
        rw [g, q]
      · have g : ((e*ht + -(e*hb)) * (e*ht + -(e*hb)) - (e*ht - -(e*hb)) * (e*ht - -(e*hb))) * ((e*ht + -(e*hb)) * (e*ht + -(e*hb)) + -(k + 1) * ((e*ht + -(e*hb)) * (e*ht + -(e*hb)) - (e*ht - -(e*hb)) * (e*ht - -(e*hb)))) = -((e*e*(e*e)) * (((ht + hb) * (ht + hb) - (ht - hb) * (ht - hb)) * ((ht + hb) * (ht + hb) + k * ((ht + hb) * (ht + hb) - (ht - hb) * (ht - hb))))) := by clear he q; grobner
        rw [g, q]

theorem iv_neg (F : Fld p) (b : Fin p) : iv (-b) = -(iv b) := by
  by_cases h : b = 0
  · rw [h, show -(0 : Fin p) = 0 by grobner, F.zer]
    grobner
  · have hi := F.inv b h
    refine F.ivu ?_
    have : -b * -(iv b) = b * iv b := by clear hi; grobner
    rw [this, hi]

theorem lx_neg (F : Fld p) (k x : Fin p) (n : Nat) : lx k x n = -(lx (-(k + 1)) (-x) n) := by
  obtain ⟨h1, h2, -⟩ := lad_neg k x n 255
  unfold lx
  rw [h1, h2, iv_neg F]
  clear h1 h2
  grobner

/-- A point of the curve, whose x is a square's. -/
theorem pt_of (F : Fld p) (E : Cur a d) {x s : Fin p} (hx : x + 1 ≠ 0) (h : s * s = 4*x*((a - d)*(x*x + 1) + 2*(a + d)*x)) : ∃ P, On a d P ∧ ux P.2 = x := by
  have hi := F.inv _ hx
  obtain ⟨i, hI⟩ : ∃ i, i = iv (x + 1) := ⟨_, rfl⟩
  rw [← hI] at hi
  obtain ⟨y, hy⟩ : ∃ y, y = (x - 1) * i := ⟨_, rfl⟩
  have y1 : y * (x + 1) = x - 1 := by rw [hy, show (x - 1) * i * (x + 1) = (x - 1) * ((x + 1) * i) by clear hi h; grobner, hi]; clear hi h; grobner
  have hz : a - d*y*y ≠ 0 := by
    intro hz
    obtain ⟨c, hc⟩ := E.sq
    have hy0 : y ≠ 0 := fun h0 => E.nz (by rw [h0] at hz; clear y1 hy hi h; grobner)
    have hj := F.inv y hy0
    refine E.ns (c * iv y) ?_
    generalize iv y = yi at *
    have q1 : c * yi * (c * yi) = (c * c) * (yi * yi) := by clear hz hc hj y1 hy hi h; grobner
    rw [q1, hc]
    have q2 : a * (yi * yi) = d * (y * yi) * (y * yi) := by
      have : a = d * y * y := by clear hc hj y1 hy hi h q1; grobner
      rw [this]
      clear hz hc hj y1 hy hi h q1
      grobner
    rw [q2, hj]
    clear hz hc hj y1 hy hi h q1 q2
    grobner
  have hj := F.inv _ hz
  obtain ⟨j, hJ⟩ : ∃ j, j = iv (a - d*y*y) := ⟨_, rfl⟩
  rw [← hJ] at hj
  -- s i^2 j is its x
  have m1 : (1 - y*y) * (x + 1) * (x + 1) = 4 * x := by
    have : (1 - y*y) * (x + 1) * (x + 1) = (x + 1) * (x + 1) - (y * (x + 1)) * (y * (x + 1)) := by clear y1 hy hi h hj; grobner
    rw [this, y1]
    clear y1 hy hi h hj this
    grobner
  have m2 : (a - d*y*y) * (x + 1) * (x + 1) = (a - d)*(x*x + 1) + 2*(a + d)*x := by
    have : (a - d*y*y) * (x + 1) * (x + 1) = a * (x + 1) * (x + 1) - d * ((y * (x + 1)) * (y * (x + 1))) := by clear y1 hy hi h hj m1; grobner
    rw [this, y1]
    clear y1 hy hi h hj this m1
    grobner
  have m3 : (s * i * i) * (s * i * i) = (1 - y*y) * (a - d*y*y) := by
    have : (s * i * i) * (s * i * i) = (s * s) * (i * i * (i * i)) := by clear y1 hy hi h hj m1 m2; grobner
    rw [this, h, ← m1, ← m2]
    have : (1 - y * y) * (x + 1) * (x + 1) * ((a - d * y * y) * (x + 1) * (x + 1)) * (i * i * (i * i)) = (1 - y*y) * (a - d*y*y) * (((x + 1) * i) * ((x + 1) * i) * (((x + 1) * i) * ((x + 1) * i))) := by clear y1 hy hi h hj m1 m2 this; grobner
    rw [this, hi]
    clear y1 hy hi h hj m1 m2 this
    grobner
  have m4 : (a - d*y*y) * ((s * i * i * j) * (s * i * i * j)) = 1 - y*y := by
    have : (a - d*y*y) * ((s * i * i * j) * (s * i * i * j)) = ((s * i * i) * (s * i * i)) * j * ((a - d*y*y) * j) := by clear y1 hy hi h hj m1 m2 m3; grobner
    rw [this, m3, hj]
    have : (1 - y * y) * (a - d * y * y) * j * 1 = (1 - y * y) * ((a - d * y * y) * j) := by clear y1 hy hi h hj m1 m2 m3 this; grobner
    rw [this, hj]
    clear y1 hy hi h hj m1 m2 m3 this
    grobner
  refine ⟨(s * i * i * j, y), ?_, ?_⟩
  · show a*(s * i * i * j)*(s * i * i * j) + y*y - 1 - d*(s * i * i * j)*(s * i * i * j)*y*y = 0
    generalize s * i * i * j = X at *
    clear y1 hy hi h hj m1 m2 m3
    grobner
  · show (1 + y) * iv (1 - y) = x
    have w1 : (1 - y) * (x + 1) = 2 := by
      have : (1 - y) * (x + 1) = (x + 1) - y * (x + 1) := by clear y1 hy hi h hj m1 m2 m3 m4; grobner
      rw [this, y1]
      clear y1 hy hi h hj m1 m2 m3 m4 this
      grobner
    have w2 : (1 + y) * (x + 1) = 2 * x := by
      have : (1 + y) * (x + 1) = (x + 1) + y * (x + 1) := by clear y1 hy hi h hj m1 m2 m3 m4 w1; grobner
      rw [this, y1]
      clear y1 hy hi h hj m1 m2 m3 m4 this w1
      grobner
    have w3 : 1 - y ≠ 0 := by
      intro h0
      rw [h0] at w1
      exact F.two (by rw [← w1]; clear y1 hy hi h hj m1 m2 m3 m4 w2 w1; grobner)
    have hi2 := F.inv _ w3
    generalize iv (1 - y) = z at *
    have z2 : 2 * (x + 1) ≠ 0 := F.mul F.two hx
    refine F.can z2 ?_
    have g : 2 * (x + 1) * ((1 + y) * z) = 2 * ((1 + y) * (x + 1)) * z := by clear y1 hy hi h hj m1 m2 m3 m4 w2 w1 hi2; grobner
    rw [g, w2]
    have g' : 2 * (2 * x) * z = 2 * x * ((1 - y) * (x + 1)) * z := by rw [w1]; clear y1 hy hi h hj m1 m2 m3 m4 w2 w1 hi2 g; grobner
    rw [g']
    have g'' : 2 * x * ((1 - y) * (x + 1)) * z = 2 * (x + 1) * x * ((1 - y) * z) := by clear y1 hy hi h hj m1 m2 m3 m4 w2 w1 hi2 g g'; grobner
    rw [g'', hi2]
    clear y1 hy hi h hj m1 m2 m3 m4 w2 w1 hi2 g g' g''
    grobner

/-- What the field must have: the curve, and its counterpart. -/
structure Kit (p : Nat) [NeZero p] (a d k e : Fin p) : Prop where
  F : Fld p
  E1 : Cur a d
  E2 : Cur (e * d) (e * a)
  hk : k * (a - d) = d
  hn : a - d ≠ 0
  he : e ≠ 0
  sq : ∀ z : Fin p, ∃ s, s * s = z ∨ s * s = e * z

/-- Each number is the x of a point of the curve, or its opposite is that of one of the counterpart. -/
theorem Kit.pt {k e : Fin p} (K : Kit p a d k e) (x : Fin p) : (∃ P, On a d P ∧ ux P.2 = x) ∨ ∃ P, On (e * d) (e * a) P ∧ ux P.2 = -x := by
  have F := K.F
  have h4 : (4 : Fin p) ≠ 0 := by rw [show (4 : Fin p) = 2 * 2 by grobner]; exact F.mul F.two F.two
  obtain ⟨s, hs⟩ := K.sq (4*x*((a - d)*(x*x + 1) + 2*(a + d)*x))
  by_cases h1 : ∃ s, s * s = 4*x*((a - d)*(x*x + 1) + 2*(a + d)*x)
  · obtain ⟨s, hs⟩ := h1
    refine .inl (pt_of F K.E1 ?_ hs)
    intro h0
    have e0 : x = -1 := by clear hs; grobner
    subst e0
    have hi := F.inv 4 h4
    refine K.E1.ns (s * iv 4) ?_
    generalize iv (4 : Fin p) = q at *
    have g : s * q * (s * q) = (s * s) * (q * q) := by clear hs hi h0; grobner
    rw [g, hs]
    have g2 : 4 * -1 * ((a - d) * (-1 * -1 + 1) + 2 * (a + d) * -1) * (q * q) = d * (4 * q) * (4 * q) := by clear hs hi h0 g; grobner
    rw [g2, hi]
    clear hs hi h0 g g2
    grobner
  · have hs' : s * s = e * (4*x*((a - d)*(x*x + 1) + 2*(a + d)*x)) := by
      rcases hs with h | h
      · exact absurd ⟨s, h⟩ h1
      · exact h
    refine .inr (pt_of (s := s) F K.E2 ?_ ?_)
    · intro h0
      have e0 : x = 1 := by clear hs hs'; grobner
      subst e0
      obtain ⟨c, hc⟩ := K.E1.sq
      refine h1 ⟨4 * c, ?_⟩
      have g : 4 * c * (4 * c) = 16 * (c * c) := by clear hs hs' hc; grobner
      rw [g, hc]
      clear hs hs' hc g
      grobner
    · rw [hs']
      clear hs hs' 
      grobner

/-- The counterpart's number. -/
theorem Kit.hk2 {k e : Fin p} (K : Kit p a d k e) : -(k + 1) * (e * d - e * a) = e * a := by
  have h := K.hk
  have g : -(k + 1) * (e * d - e * a) = e * (k * (a - d)) + e * (a - d) := by clear h; grobner
  rw [g, h]
  clear h g
  grobner

theorem Kit.hn2 {k e : Fin p} (K : Kit p a d k e) : e * d - e * a ≠ 0 := by
  intro h
  have g : e * (a - d) = 0 := by grobner
  exact K.F.mul K.he K.hn g

/-- So many times, and so many times again. -/
theorem Kit.turn {k e : Fin p} (K : Kit p a d k e) (x : Fin p) {m n : Nat} (hm : m < 2 ^ 255) (hn : n < 2 ^ 255) (m2 : m % 2 = 0) (n2 : n % 2 = 0) : lx k (lx k x m) n = lx k (lx k x n) m := by
  rcases K.pt x with ⟨P, hP, hx⟩ | ⟨P, hP, hx⟩
  · subst hx
    rw [lx_mu K.F K.E1 K.hk K.hn hP hm m2, lx_mu K.F K.E1 K.hk K.hn hP hn n2, lx_mu K.F K.E1 K.hk K.hn (on_mu K.F K.E1 hP m) hn n2, lx_mu K.F K.E1 K.hk K.hn (on_mu K.F K.E1 hP n) hm m2, mu_turn K.F K.E1 hP]
  · have h1 : ∀ n : Nat, lx k x n = -(lx (-(k + 1)) (ux P.2) n) := fun n => by rw [hx]; exact lx_neg K.F k x n
    have nn : ∀ z : Fin p, - -z = z := fun z => by clear hx; grobner
    rw [h1 m, h1 n, lx_neg K.F, lx_neg K.F k (-(lx _ _ n)), nn, nn, lx_mu K.F K.E2 K.hk2 K.hn2 hP hm m2, lx_mu K.F K.E2 K.hk2 K.hn2 hP hn n2, lx_mu K.F K.E2 K.hk2 K.hn2 (on_mu K.F K.E2 hP m) hn n2, lx_mu K.F K.E2 K.hk2 K.hn2 (on_mu K.F K.E2 hP n) hm m2, mu_turn K.F K.E2 hP]

/-- The x 1 is that of a point of order 4. -/
theorem Kit.one {k e : Fin p} (K : Kit p a d k e) {n : Nat} (hn : n < 2 ^ 255) (h4 : n % 4 = 0) : lx k 1 n = 0 := by
  have F := K.F
  obtain ⟨c, hc⟩ := K.E1.sq
  have c0 : c ≠ 0 := fun h => K.E1.nz (by rw [← hc, h]; grobner)
  have hi := F.inv c c0
  generalize iv c = i at hi
  have e1 : a * (i * i) = 1 := by
    have : a * (i * i) = (c * i) * (c * i) := by rw [← hc]; clear hc hi; grobner
    rw [this, hi]
    exact edOne
  have hP : On a d (i, 0) := by
    show a*i*i + 0*0 - 1 - d*i*i*0*0 = 0
    clear hc hi
    grobner
  have hu : ux (0 : Fin p) = 1 := by
    unfold ux
    rw [show (1 : Fin p) - 0 = 1 by clear hc hi e1; grobner, F.iv1]
    clear hc hi e1
    grobner
  have h := lx_mu F K.E1 K.hk K.hn hP hn (by omega)
  simp only [hu] at h
  have g2 : mu a d (i, 0) 2 = (0, -1) := by
    show ad a d (ad a d (0, 1) (i, 0)) (i, 0) = (0, -1)
    rw [ad_zero F]
    unfold ad
    simp only
    rw [show 1 + d*i*i*0*0 = (1 : Fin p) by clear hc hi e1 h; grobner, show 1 - d*i*i*0*0 = (1 : Fin p) by clear hc hi e1 h; grobner, F.iv1]
    congr 1
    · clear hc hi e1 h; grobner
    · clear hc hi h; grobner
  obtain ⟨m, hm⟩ : ∃ m, n = 2 * (2 * m) := ⟨n / 4, by omega⟩
  rw [h, hm, ← mu_mul F K.E1 hP, g2, mu_half F K.E1, ux_one F]
end
end Go.Proofs.Ytiehjhlekpjlaaa
