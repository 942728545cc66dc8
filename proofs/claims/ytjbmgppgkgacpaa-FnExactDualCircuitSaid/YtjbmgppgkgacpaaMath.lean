/- Plain facts on trits: no program, no world. -/
import Derived.WalkKit
namespace Go.Proofs.Ytjbmgppgkgacpaa.Tm

def isT (a : Int) : Bool := decide (-1 ≤ a ∧ a ≤ 1)
def sgn (n : Int) : Int := if n < 0 then -1 else if 0 < n then 1 else 0
def neg (a : Int) : Int := if isT a then -a else 0
def turn (a : Int) : Int := if isT a then (if a = 1 then -1 else a + 1) else 0
def mn (a b : Int) : Int := if isT a && isT b then (if a ≤ b then a else b) else 0
def mx (a b : Int) : Int := if isT a && isT b then (if a ≤ b then b else a) else 0
def agree (a b : Int) : Int := if isT a && isT b && decide (a = b) then a else 0
def anyT (a b : Int) : Int := if isT a && isT b then sgn (a + b) else 0
def times (a b : Int) : Int := if isT a && isT b then a * b else 0
def sp1 (n : Int) : Int := if 1 < n then n - 3 else if n < -1 then n + 3 else n
def sp2 (n : Int) : Int := if 1 < n then 1 else if n < -1 then -1 else 0
def half1 (a b : Int) : Int := if isT a && isT b then sp1 (a + b) else 0
def half2 (a b : Int) : Int := if isT a && isT b then sp2 (a + b) else 0
def full1 (a b c : Int) : Int := if isT a && isT b && isT c then sp1 (a + b + c) else 0
def full2 (a b c : Int) : Int := if isT a && isT b && isT c then sp2 (a + b + c) else 0

def inB (x a b : Int) : Bool := decide (a ≤ x ∧ x ≤ b)
theorem inB_iff (x a b : Int) : inB x a b = true ↔ a ≤ x ∧ x ≤ b := by simp [inB]
theorem inB_no (x a b : Int) : inB x a b = false ↔ x < a ∨ b < x := by simp [inB]; omega
theorem isT_iff (a : Int) : isT a = true ↔ -1 ≤ a ∧ a ≤ 1 := by simp [isT]
theorem isT_cases {a : Int} (h : isT a = true) : a = -1 ∨ a = 0 ∨ a = 1 := by rw [isT_iff] at h; omega
theorem isT_no (a : Int) : isT a = false ↔ a < -1 ∨ 1 < a := by simp [isT]; omega

theorem times_tt (a b : Int) (ha : -1 ≤ a) (ha' : a ≤ 1) (hb : -1 ≤ b) (hb' : b ≤ 1) : -1 ≤ a * b ∧ a * b ≤ 1 := by
  have : a = -1 ∨ a = 0 ∨ a = 1 := by omega
  rcases this with rfl | rfl | rfl <;> omega

def rd (c : Int) : Int := if c = 45 then -1 else if c = 48 then 0 else if c = 43 then 1 else 2
def rdOk (c : Int) : Bool := isT (rd c)
def rdv (c : Int) : Int := if rdOk c then rd c else 0
def bt (s : ByteArray) (i : Nat) : Int := if h : i < s.size then (s[i].toNat : Int) else 0
theorem bt_at (s : ByteArray) (i : Nat) (h : i < s.size) : bt s i = (s[i].toNat : Int) := by simp [bt, h]
theorem rd_bd (c : Int) : -1 ≤ rd c ∧ rd c ≤ 2 := by unfold rd; split <;> (try split) <;> (try split) <;> omega
def sg (a : Int) : UInt8 := if a = -1 then 45 else if a = 0 then 48 else 43
end Go.Proofs.Ytjbmgppgkgacpaa.Tm
