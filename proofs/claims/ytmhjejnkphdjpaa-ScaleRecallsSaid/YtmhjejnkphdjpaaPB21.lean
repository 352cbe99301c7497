/- The strings of dimensions, and how they are read: plain mathematics. No program. -/
import Derived.Test.YtmhjejnkphdjpaaPB20
import Derived.Lib.SplitLaws
import Derived.Lib.Join
import Derived.IntWalk
set_option maxRecDepth 100000
namespace Go.Proofs.Ytmhjejnkphdjpaa.Dm
open Go

/-- The symbols of the base dimensions. -/
def sy : Nat → List UInt8
  | 0 => [103]
  | 1 => [109]
  | 2 => [115]
  | 3 => [74]
  | 4 => [99, 101, 110, 116]
  | 5 => [112, 99]
  | _ => []
/-- A base dimension with an exponent from 1 to 9, as text. -/
def pw (i n : Nat) : List UInt8 := if n = 1 then sy i else sy i ++ [UInt8.ofNat (48 + n)]
/-- A dimension's exponents are f 0 to f 5. -/
def ok (f : Nat → Int) : Bool := (List.range 6).all (fun i => decide (-9 ≤ f i) && decide (f i ≤ 9))
/-- The powers with positive exponents among the first k; those with negative ones. -/
def ups (f : Nat → Int) : Nat → List (List UInt8)
  | 0 => []
  | k + 1 => ups f k ++ (if 0 < f k then [pw k (f k).toNat] else [])
def dns (f : Nat → Int) : Nat → List (List UInt8)
  | 0 => []
  | k + 1 => dns f k ++ (if f k < 0 then [pw k (-(f k)).toNat] else [])
def tail (l : List (List UInt8)) : List UInt8 := l.flatMap (fun p => 47 :: p)
def head (f : Nat → Int) : List UInt8 := if ups f 6 = [] then [49] else Lib.join (ups f 6) [42]
def txt (f : Nat → Int) : List UInt8 := head f ++ tail (dns f 6)
/-- What Text returns. -/
def tx (f : Nat → Int) : List UInt8 := if ok f then txt f else []

/-! ## One power -/
/-- A base dimension with an exponent, read. -/
def rest (s : List UInt8) (i : Nat) : List UInt8 := s.drop (sy i).length
/-! ## Splitting at one byte -/
/-! ## Lists of powers, read -/
def up (f : Nat → Int) (i : Nat) (v : Int) : Nat → Int := fun j => if j = i then v else f j
/-! ## The whole string -/
/-! ## Only f 0 to f 5 count; the length -/
/-! ## What Read returns -/
end Go.Proofs.Ytmhjejnkphdjpaa.Dm
