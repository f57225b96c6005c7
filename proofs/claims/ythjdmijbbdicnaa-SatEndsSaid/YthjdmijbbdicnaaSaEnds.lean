/- The walk of the law of ends. -/
import Derived.Test.YthjdmijbbdicnaaSaEndsLow
import Derived.Test.YthjdmijbbdicnaaSaEndsHigh
import Derived.Test.YthjdmijbbdicnaaSaEndsMid
namespace Go.Proofs.Ythjdmijbbdicnaa.Sa
open Go.RowKit

theorem ends_any (t i p r st du : Int) (s o : ByteArray) (g : Bool) (s0 : -9223372036854775808 ≤ st) (s1 : st ≤ 9223372036854775807) (w : World) :
    Calls Try.prog 6 #[.agg #[.int .i64 t, .int .i64 i, .int .i64 p, .int .i64 r, .string s, .string o, .int .i64 st, .int .i64 du, .bool g]] w fun e w' => e = .returned (.bool true) ∧ Below w.heap.size w w' := by
  by_cases h : du < 0
  · exact ends_low t i p r st du s o g s0 s1 h w
  · by_cases h1 : 4611686018427387904 < du
    · exact ends_high t i p r st du s o g s0 s1 h1 w
    · exact ends_mid t i p r st du s o g s0 s1 (by omega) (by omega) w
end Go.Proofs.Ythjdmijbbdicnaa.Sa
