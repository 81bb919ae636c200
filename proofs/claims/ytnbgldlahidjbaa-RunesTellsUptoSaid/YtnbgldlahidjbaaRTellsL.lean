/- RunesTells, for the frame. -/
import Derived.Test.YtnbgldlahidjbaaRTells
set_option linter.unusedVariables false
namespace Go.Proofs.Ytnbgldlahidjbaa
open Go.RowKit
theorem law_RunesTells (s : ByteArray) (own : Bool) (a : Option Addr) (len cap : Nat) (l : List UInt8) (at' : Int) (near : Bool) (r : Int) (w : World) (hs : s.size ≤ 1048576) (hB : BArg w a len cap l)
    (x0 : -9223372036854775808 ≤ at') (x1 : at' ≤ 9223372036854775807) (r0 : -2147483648 ≤ r) (r1 : r ≤ 2147483647) :
    Calls Try.prog 7 #[.string s, .bool own, .slice a len cap, .int .i64 at', .bool near, .int .i32 r] w fun e w' => e = .returned (.bool true) ∧ Below w.heap.size w w' :=
  tells_walk s own a len cap at' near r w hs (bcells_of hB) (barg_len hB).1 x0 x1 r0 r1
end Go.Proofs.Ytnbgldlahidjbaa
