/- Contracts of the functions of tables, on: swapped and dual tables. -/
import Derived.Test.YteklgngooflhlaaTab2
namespace Go.Proofs.Yteklgngooflhlaa
set_option maxRecDepth 20000
open Go.RowKit
namespace Tm
def fill (g : Int → Int → Int) : Nat → Int
  | 0 => g (-1) (-1) | 1 => g (-1) 0 | 2 => g (-1) 1
  | 3 => g 0 (-1) | 4 => g 0 0 | 5 => g 0 1
  | 6 => g 1 (-1) | 7 => g 1 0 | 8 => g 1 1 | _ => 0
def swap (f : Nat → Int) : Nat → Int := fill fun a b => look f b a
def dual (f : Nat → Int) : Nat → Int := fill fun a b => neg (look f (-a) (-b))
end Tm
namespace Tm
def named (l : List UInt8) (a b : Int) : Int :=
  if l == [109, 105, 110] then mn a b else if l == [109, 97, 120] then mx a b else if l == [97, 103, 114, 101, 101] then agree a b else if l == [97, 110, 121] then anyT a b
  else if l == [116, 105, 109, 101, 115] then times a b else if l == [115, 117, 109] then half1 a b else if l == [99, 97, 114, 114, 121] then half2 a b else 0
def tabOf (l : List UInt8) : Nat → Int := fill (named l)
end Tm
theorem ret_tab (f : Nat → Int) {x0 x1 x2 x3 x4 x5 x6 x7 x8 : Int} (h0 : x0 = f 0) (h1 : x1 = f 1) (h2 : x2 = f 2) (h3 : x3 = f 3) (h4 : x4 = f 4) (h5 : x5 = f 5) (h6 : x6 = f 6) (h7 : x7 = f 7) (h8 : x8 = f 8) :
    Ending.returned (.agg #[.int .i64 x0, .int .i64 x1, .int .i64 x2, .int .i64 x3, .int .i64 x4, .int .i64 x5, .int .i64 x6, .int .i64 x7, .int .i64 x8]) = .returned (tabV f) := by
  rw [h0, h1, h2, h3, h4, h5, h6, h7, h8]
end Go.Proofs.Yteklgngooflhlaa
