/- Contracts of the functions of tables, on: tables are read. -/
import Derived.Test.YtgaenbpbfhpioaaTab3
namespace Go.Proofs.Ytgaenbpbfhpioaa
open Go.RowKit
namespace Tm
def pk (x0 x1 x2 x3 x4 x5 x6 x7 x8 : Int) : Nat → Int
  | 0 => x0 | 1 => x1 | 2 => x2 | 3 => x3 | 4 => x4 | 5 => x5 | 6 => x6 | 7 => x7 | 8 => x8 | _ => 0
def pT (s : ByteArray) : Nat → Int := fun i => rd (bt s i)
def pOk (s : ByteArray) : Bool := decide (s.size = 9) && isTab (pT s)
def pTab (s : ByteArray) : Nat → Int := if pOk s then pT s else fun _ => 0
theorem pTab_at {s : ByteArray} (hp : pOk s = true) (k : Nat) (h : k < s.size) : rd (s[k].toNat : Int) = pTab s k := by
  rw [pTab, if_pos hp, pT, bt, dif_pos h]
theorem pTab_no {s : ByteArray} (hp : pOk s = false) (k : Nat) : (0 : Int) = pTab s k := by
  rw [pTab, hp]; rfl
end Tm
theorem ret_tab_b (f : Nat → Int) {x0 x1 x2 x3 x4 x5 x6 x7 x8 : Int} {b c : Bool} (h : b = c) (h0 : x0 = f 0) (h1 : x1 = f 1) (h2 : x2 = f 2) (h3 : x3 = f 3) (h4 : x4 = f 4) (h5 : x5 = f 5) (h6 : x6 = f 6) (h7 : x7 = f 7) (h8 : x8 = f 8) :
    Ending.returned (.tuple #[.agg #[.int .i64 x0, .int .i64 x1, .int .i64 x2, .int .i64 x3, .int .i64 x4, .int .i64 x5, .int .i64 x6, .int .i64 x7, .int .i64 x8], .bool b]) = .returned (.tuple #[tabV f, .bool c]) := by
  rw [h, h0, h1, h2, h3, h4, h5, h6, h7, h8]
end Go.Proofs.Ytgaenbpbfhpioaa
