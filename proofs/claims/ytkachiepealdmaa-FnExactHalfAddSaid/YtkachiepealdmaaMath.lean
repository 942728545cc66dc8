/- Plain facts on trits: no program, no world. -/
import Derived.WalkKit
namespace Go.Proofs.Ytkachiepealdmaa.Tm

def isT (a : Int) : Bool := decide (-1 ≤ a ∧ a ≤ 1)
def sgn (n : Int) : Int := if n < 0 then -1 else if 0 < n then 1 else 0
def neg (a : Int) : Int := if isT a then -a else 0
def turn (a : Int) : Int := if isT a then (if a = 1 then -1 else a + 1) else 0
def mn (a b : Int) : Int := if isT a && isT b then (if a ≤ b then a else b) else 0
def mx (a b : Int) : Int := if isT a && isT b then (if a ≤ b then b else a) else 0
def agree (a b : Int) : Int := if isT a && isT b && decide (a = b) then a else 0
def anyT (a b : Int) : Int := if isT a && isT b then sgn (a + b) else 0
def times (a b : Int) : Int := if isT a && isT b then a * b else 0
def sp1 (n : Int) : Int := if 1 < n then n - 3 else if n < -1 then n + 3 else n
def sp2 (n : Int) : Int := if 1 < n then 1 else if n < -1 then -1 else 0
def half1 (a b : Int) : Int := if isT a && isT b then sp1 (a + b) else 0
def half2 (a b : Int) : Int := if isT a && isT b then sp2 (a + b) else 0
def full1 (a b c : Int) : Int := if isT a && isT b && isT c then sp1 (a + b + c) else 0
def full2 (a b c : Int) : Int := if isT a && isT b && isT c then sp2 (a + b + c) else 0

theorem isT_iff (a : Int) : isT a = true ↔ -1 ≤ a ∧ a ≤ 1 := by simp [isT]
theorem isT_no (a : Int) : isT a = false ↔ a < -1 ∨ 1 < a := by simp [isT]; omega

theorem times_tt (a b : Int) (ha : -1 ≤ a) (ha' : a ≤ 1) (hb : -1 ≤ b) (hb' : b ≤ 1) : -1 ≤ a * b ∧ a * b ≤ 1 := by
  have : a = -1 ∨ a = 0 ∨ a = 1 := by omega
  rcases this with rfl | rfl | rfl <;> omega

end Go.Proofs.Ytkachiepealdmaa.Tm
